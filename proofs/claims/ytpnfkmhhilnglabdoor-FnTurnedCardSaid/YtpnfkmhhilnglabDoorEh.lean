/- Walks: the model's bits of values; the law FnExactValuesBits. -/
import Derived.Test.YtpnfkmhhilnglabDoorEg
set_option linter.unusedVariables false
set_option linter.unusedSimpArgs false
namespace Go.Proofs.YtpnfkmhhilnglabDoor
open Go.RowKit

theorem RB.new (w : World) (s : ByteArray) (N : Int) : RB (w.alloc (.cells #[.string s, .int .i64 N] 30)) w.heap.size s N := heap_alloc_new w _
theorem below1 (w : World) (o : Obj) : Below w.heap.size w (w.alloc o) := eb_below1 w o
theorem intsAt_own {w : World} {base g c : Nat} {l : List Bool} (h : w.ownsRow base 2 1 (.slice (some ⟨g, 0, none⟩) l.length c) l.length (bitInts l)) : IntsAt w w.heap.size (some ⟨g, 0, none⟩) (bitInts l) :=
  .inr ⟨g, 0, rfl, (h.lt g rfl).2, fun j u hj => by
    have := h.cells rfl j u hj
    rw [addr_add] at this
    exact this⟩

set_option maxRecDepth 100000 in
set_option maxHeartbeats 1000000 in
theorem specValuesBits_bad (v : Value) (xs : List Int) (w : World) (h : IL w w.heap.size v xs) (hl : ¬ xs.length ≤ 120) :
    Calls Tryd.prog 17 #[v] w (BPost ⟨#[]⟩ 0 false w) := by
  obtain ⟨hr, hlen, A, c, rfl, h3⟩ := h
  clear h3 hr
  have hR0 := RB.new w ⟨#[]⟩ 0
  have r0 := hR0.c0
  have r1 := hR0.c1
  have f0 := hR0.f 0
  have f1 := hR0.f 1
  clear hR0
  go_enter Tryd.func17, Tryd.ntmps17
  go_wp2_with fail
  exact bodyPost_ret (v := .tuple #[.agg #[.string ⟨#[]⟩, .int .i64 0], .bool false]) (by simp [results, Tryd.results17, go_sem, r0, r1]) rfl
    ⟨rfl, by
      first
      | exact (((eb_below1 w _).setCell (by simp) _).setCell (by simp) _)
      | exact eb_below1 w _⟩
set_option maxRecDepth 100000 in
set_option maxHeartbeats 1000000 in
theorem specValuesBits_good (v : Value) (xs : List Int) (w : World) (h : IL w w.heap.size v xs) (hl : xs.length ≤ 120) (L : List Bool) (hL : Hid ((valTo xs xs.length).1 = L)) :
    Calls Tryd.prog 17 #[v] w (BPost ⟨(BM.pack L).toArray⟩ (L.length : Int) true w) := by
  have hb0 : Below w.heap.size w (w.alloc (.cells #[.string ⟨#[]⟩, .int .i64 0] 30)) := eb_below1 w _
  have hI1 := (h.below hb0).up hb0.size
  have hlv := l4Values_any v xs _ hI1 hl
  rw [hL.out] at hlv
  have Hlv := Lib.hid hlv
  have hle := (valTo_ok xs xs.length).2
  rw [hL.out] at hle
  obtain ⟨hr, hlen, A, c, rfl, h3⟩ := h
  have HR0 := Lib.hid (RB.new w ⟨#[]⟩ 0)
  have HB0 := Lib.hid hb0
  clear hlv hI1 h3 hr hb0
  go_enter Tryd.func17, Tryd.ntmps17
  go_wp2_with fail
  refine Hlv.out.mono ?_
  rintro e w2 ⟨v, rfl, hown, hb2, hvn⟩
  have hr2 := HR0.out.below hb2
  have hf2 := HB0.out.trans (hb2.mono HB0.out.size)
  have hia : ∃ A c, v = .slice A L.length c ∧ IntsAt w2 w2.heap.size A (bitInts L) := by
    rcases hown.2 with ⟨rfl, h0⟩ | ⟨g, cap, cur, rfl, hg⟩
    · exact absurd rfl hvn
    · exact ⟨_, _, rfl, intsAt_own hown⟩
  obtain ⟨A2, c2, rfl, hA2⟩ := hia
  have HP := Lib.hid (l1Pack_any A2 c2 L w2 (by omega) hA2)
  have HR2 := Lib.hid hr2
  have HF2 := Lib.hid hf2
  clear hown hb2 hvn hr2 hf2 hA2
  go_wp2_with fail
  refine HP.out.mono ?_
  rintro e w3 ⟨rfl, hb3⟩
  have hr3 := HR2.out.below hb3
  have hf3 := HF2.out.trans (hb3.mono HF2.out.size)
  have r0 := hr3.c0
  have r1 := hr3.c1
  have f0 := hr3.f 0
  have f1 := hr3.f 1
  clear hb3 hr3
  go_wp2_with fail
  exact bodyPost_ret (v := .tuple #[.agg #[.string ⟨(BM.pack L).toArray⟩, .int .i64 (L.length : Int)], .bool true]) (by simp [results, Tryd.results17, go_sem, r0, r1]) rfl
    ⟨rfl, (hf3.setCell (by simp) _).setCell (by simp) _⟩

/-- what ValuesBits returns -/
def vbL (xs : List Int) : List Bool := if xs.length ≤ 120 then (valTo xs xs.length).1 else []
def vbS (xs : List Int) : ByteArray := ⟨(BM.pack (vbL xs)).toArray⟩
theorem pack_nil : BM.pack [] = [] := rfl
theorem vb_bad {xs : List Int} (h : ¬ xs.length ≤ 120) : vbS xs = ⟨#[]⟩ ∧ ((vbL xs).length : Int) = 0 ∧ decide (xs.length ≤ 120) = false := by
  have e : vbL xs = [] := by unfold vbL; rw [if_neg h]
  refine ⟨by unfold vbS; rw [e, pack_nil], by rw [e]; rfl, by simpa using h⟩
theorem vb_good {xs : List Int} (h : xs.length ≤ 120) : vbL xs = (valTo xs xs.length).1 ∧ decide (xs.length ≤ 120) = true := by
  refine ⟨by unfold vbL; rw [if_pos h], by simpa using h⟩
theorem specValuesBits_any (v : Value) (xs : List Int) (w : World) (h : IL w w.heap.size v xs) :
    Calls Tryd.prog 17 #[v] w (BPost (vbS xs) ((vbL xs).length : Int) (decide (xs.length ≤ 120)) w) := by
  by_cases hl : xs.length ≤ 120
  · rw [(vb_good hl).2]
    exact specValuesBits_good v xs w h hl (vbL xs) (Lib.hid (vb_good hl).1.symm)
  · obtain ⟨h1, h2, h3⟩ := vb_bad hl
    rw [h1, h2, h3]
    exact specValuesBits_bad v xs w h hl
theorem implValuesBits_any (v : Value) (xs : List Int) (w : World) (h : IL w w.heap.size v xs) (hT : Tab w) :
    Calls Tryd.prog 16 #[v] w (BPost (vbS xs) ((vbL xs).length : Int) (decide (xs.length ≤ 120)) w) := by
  by_cases hl : xs.length ≤ 120
  · rw [(vb_good hl).2]
    exact implValuesBits_good v xs w h hl hT _ _ (Lib.hid ⟨by rw [(vb_good hl).1], by rw [(vb_good hl).1]⟩)
  · obtain ⟨h1, h2, h3⟩ := vb_bad hl
    rw [h1, h2, h3]
    exact implValuesBits_bad v xs w h hl

end Go.Proofs.YtpnfkmhhilnglabDoor
