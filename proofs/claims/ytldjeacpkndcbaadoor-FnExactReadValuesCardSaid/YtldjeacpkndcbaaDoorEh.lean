/- Walks: the model's bits of values; the law FnExactValuesBits. -/
import Derived.Test.YtldjeacpkndcbaaDoorEg
set_option linter.unusedVariables false
set_option linter.unusedSimpArgs false
namespace Go.Proofs.YtldjeacpkndcbaaDoor
open Go.RowKit

theorem RB.new (w : World) (s : ByteArray) (N : Int) : RB (w.alloc (.cells #[.string s, .int .i64 N] 27)) w.heap.size s N := heap_alloc_new w _
theorem below1 (w : World) (o : Obj) : Below w.heap.size w (w.alloc o) := eb_below1 w o
theorem eqBits_same (R : ByteArray) (M : Int) (w : World) :
    Calls Tryd.prog 29 #[.agg #[.string R, .int .i64 M], .agg #[.string R, .int .i64 M]] w (RetBelow (.bool true) w) := by
  go_enter Tryd.func29, Tryd.ntmps29
  go_wp2
  go_ret
  exact ⟨rfl, ((Below.refl _ w).alloc (Nat.le_refl _) _).alloc (by simp) _⟩
theorem intsAt_own {w : World} {base g c : Nat} {l : List Bool} (h : w.ownsRow base 2 1 (.slice (some ⟨g, 0, none⟩) l.length c) l.length (bitInts l)) : IntsAt w w.heap.size (some ⟨g, 0, none⟩) (bitInts l) :=
  .inr ⟨g, 0, rfl, (h.lt g rfl).2, fun j u hj => by
    have := h.cells rfl j u hj
    rw [addr_add] at this
    exact this⟩

set_option maxRecDepth 100000 in
set_option maxHeartbeats 1000000 in
theorem specValuesBits_bad (v : Value) (xs : List Int) (w : World) (h : IL w w.heap.size v xs) (hl : ¬ xs.length ≤ 120) :
    Calls Tryd.prog 13 #[v] w (BPostV ⟨#[]⟩ 0 false w) := by
  obtain ⟨hr, hlen, A, c, rfl, h3⟩ := h
  clear h3 hr
  have hR0 := RB.new w ⟨#[]⟩ 0
  have r0 := hR0.c0
  have r1 := hR0.c1
  have f0 := hR0.f 0
  have f1 := hR0.f 1
  clear hR0
  go_enter Tryd.func13, Tryd.ntmps13
  go_wp2_with fail
  exact bodyPost_ret (v := .tuple #[.agg #[.string ⟨#[]⟩, .int .i64 0], .bool false]) (by simp [results, Tryd.results13, go_sem, r0, r1]) rfl
    ⟨rfl, by
      first
      | exact (((eb_below1 w _).setCell (by simp) _).setCell (by simp) _)
      | exact eb_below1 w _⟩
set_option maxRecDepth 100000 in
set_option maxHeartbeats 1000000 in
theorem specValuesBits_good (v : Value) (xs : List Int) (w : World) (h : IL w w.heap.size v xs) (hl : xs.length ≤ 120) (L : List Bool) (hL : Hid ((valTo xs xs.length).1 = L)) :
    Calls Tryd.prog 13 #[v] w (BPostV ⟨(BM.pack L).toArray⟩ (L.length : Int) true w) := by
  have hb0 : Below w.heap.size w (w.alloc (.cells #[.string ⟨#[]⟩, .int .i64 0] 27)) := eb_below1 w _
  have hI1 := (h.below hb0).up hb0.size
  have hlv := l4Values_any v xs _ hI1 hl
  rw [hL.out] at hlv
  have Hlv := Lib.hid hlv
  have hle := (valTo_ok xs xs.length).2
  rw [hL.out] at hle
  obtain ⟨hr, hlen, A, c, rfl, h3⟩ := h
  have HR0 := Lib.hid (RB.new w ⟨#[]⟩ 0)
  have HB0 := Lib.hid hb0
  clear hlv hI1 h3 hr hb0
  go_enter Tryd.func13, Tryd.ntmps13
  go_wp2_with fail
  refine Hlv.out.mono ?_
  rintro e w2 ⟨v, rfl, hown, hb2, hvn⟩
  have hr2 := HR0.out.below hb2
  have hf2 := HB0.out.trans (hb2.mono HB0.out.size)
  have hia : ∃ A c, v = .slice A L.length c ∧ IntsAt w2 w2.heap.size A (bitInts L) := by
    rcases hown.2 with ⟨rfl, h0⟩ | ⟨g, cap, cur, rfl, hg⟩
    · exact absurd rfl hvn
    · exact ⟨_, _, rfl, intsAt_own hown⟩
  obtain ⟨A2, c2, rfl, hA2⟩ := hia
  have HP := Lib.hid (l1Pack_any A2 c2 L w2 (by omega) hA2)
  have HR2 := Lib.hid hr2
  have HF2 := Lib.hid hf2
  clear hown hb2 hvn hr2 hf2 hA2
  go_wp2_with fail
  refine HP.out.mono ?_
  rintro e w3 ⟨rfl, hb3⟩
  have hr3 := HR2.out.below hb3
  have hf3 := HF2.out.trans (hb3.mono HF2.out.size)
  have r0 := hr3.c0
  have r1 := hr3.c1
  have f0 := hr3.f 0
  have f1 := hr3.f 1
  clear hb3 hr3
  go_wp2_with fail
  exact bodyPost_ret (v := .tuple #[.agg #[.string ⟨(BM.pack L).toArray⟩, .int .i64 (L.length : Int)], .bool true]) (by simp [results, Tryd.results13, go_sem, r0, r1]) rfl
    ⟨rfl, (hf3.setCell (by simp) _).setCell (by simp) _⟩

/-- what ValuesBits returns -/
def vbL (xs : List Int) : List Bool := if xs.length ≤ 120 then (valTo xs xs.length).1 else []
def vbS (xs : List Int) : ByteArray := ⟨(BM.pack (vbL xs)).toArray⟩
theorem pack_nil : BM.pack [] = [] := rfl
theorem vb_bad {xs : List Int} (h : ¬ xs.length ≤ 120) : vbS xs = ⟨#[]⟩ ∧ ((vbL xs).length : Int) = 0 ∧ decide (xs.length ≤ 120) = false := by
  have e : vbL xs = [] := by unfold vbL; rw [if_neg h]
  refine ⟨by unfold vbS; rw [e, pack_nil], by rw [e]; rfl, by simpa using h⟩
theorem vb_good {xs : List Int} (h : xs.length ≤ 120) : vbL xs = (valTo xs xs.length).1 ∧ decide (xs.length ≤ 120) = true := by
  refine ⟨by unfold vbL; rw [if_pos h], by simpa using h⟩
theorem specValuesBits_any (v : Value) (xs : List Int) (w : World) (h : IL w w.heap.size v xs) :
    Calls Tryd.prog 13 #[v] w (BPostV (vbS xs) ((vbL xs).length : Int) (decide (xs.length ≤ 120)) w) := by
  by_cases hl : xs.length ≤ 120
  · rw [(vb_good hl).2]
    exact specValuesBits_good v xs w h hl (vbL xs) (Lib.hid (vb_good hl).1.symm)
  · obtain ⟨h1, h2, h3⟩ := vb_bad hl
    rw [h1, h2, h3]
    exact specValuesBits_bad v xs w h hl
theorem implValuesBits_any (v : Value) (xs : List Int) (w : World) (h : IL w w.heap.size v xs) (hT : Tab w) :
    Calls Tryd.prog 12 #[v] w (BPostV (vbS xs) ((vbL xs).length : Int) (decide (xs.length ≤ 120)) w) := by
  by_cases hl : xs.length ≤ 120
  · rw [(vb_good hl).2]
    exact implValuesBits_good v xs w h hl hT _ _ (Lib.hid ⟨by rw [(vb_good hl).1], by rw [(vb_good hl).1]⟩)
  · obtain ⟨h1, h2, h3⟩ := vb_bad hl
    rw [h1, h2, h3]
    exact implValuesBits_bad v xs w h hl

set_option maxRecDepth 100000 in
set_option maxHeartbeats 1000000 in
theorem walkFnExactValuesBits (A : Option Addr) (n c : Nat) (w : World) (hT : Tab w) (hx : n ≤ 1048576 → ∃ xs : List Int, xs.length = n ∧ IL w w.heap.size (.slice A n c) xs) :
    Calls Tryd.prog 5 #[.slice A n c] w fun e w' => e = .returned (.bool true) ∧ Below w.heap.size w w' := by
  by_cases hbig : (1048576 : Int) < n
  · clear hx hT
    go_enter Tryd.func5, Tryd.ntmps5
    go_wp2_with fail
    go_ret
    exact ⟨rfl, Below.refl _ _⟩
  · obtain ⟨xs, rfl, hil⟩ := hx (by omega)
    have Hil := Lib.hid hil
    have Hrng := Lib.hid hil.1
    clear hx hil
    have hsp := Lib.hid (fun v W h => specValuesBits_any v xs W h)
    have him := Lib.hid (fun v W h hT => implValuesBits_any v xs W h hT)
    have HTab := Lib.hid hT
    generalize vbS xs = R at *
    generalize ((vbL xs).length : Int) = K at *
    generalize decide (xs.length ≤ 120) = T at *
    have hcp := Lib.hid (fun v W h => toInt64S_any v xs W h)
    have heq := Lib.hid (fun v u W h h' => eqInt64S_any v u xs xs W h h')
    rw [decide_eq_true rfl] at heq
    go_enter Tryd.func5, Tryd.ntmps5
    go_wp2_with fail
    refine (hcp.out _ _ Hil.out).mono ?_
    rintro e w1 ⟨v1, rfl, hown1, hb1⟩
    have H1 := Lib.hid (IL.of_own hown1 rfl Hrng.out (by omega))
    have Hil1 := Lib.hid ((Hil.out.below hb1).up hb1.size)
    have B1 := Lib.hid hb1
    clear hown1 hb1 Hil
    go_wp2_with fail
    refine (hsp.out _ _ H1.out).mono ?_
    rintro e w2 ⟨rfl, hb2⟩
    have Hil2 := Lib.hid ((Hil1.out.below hb2).up hb2.size)
    have B2 := Lib.hid (B1.out.trans (hb2.mono B1.out.size))
    clear hb2 Hil1 B1 H1
    have ha : Below w2.heap.size w2 (w2.alloc (.cells #[.string R, .int .i64 K] 27)) := below1 w2 _
    have HA := Lib.hid ((Hil2.out.below ha).up ha.size)
    have BA := Lib.hid (B2.out.trans (ha.mono B2.out.size))
    have SA := Lib.hid (RB.new w2 R K)
    clear ha Hil2 B2
    go_wp2_with fail
    refine (hcp.out _ _ HA.out).mono ?_
    rintro e w3 ⟨v3, rfl, hown3, hb3⟩
    have H3 := Lib.hid (IL.of_own hown3 rfl Hrng.out (by omega))
    have Hil3 := Lib.hid ((HA.out.below hb3).up hb3.size)
    have B3 := Lib.hid (BA.out.trans (hb3.mono BA.out.size))
    have S3 := Lib.hid (SA.out.below hb3)
    clear hown3 hb3 HA BA SA
    go_wp2_with fail
    refine (him.out _ _ H3.out (HTab.out.below B3.out)).mono ?_
    rintro e w4 ⟨rfl, hb4⟩
    have ha : Below w4.heap.size w4 (w4.alloc (.cells #[.string R, .int .i64 K] 27)) := below1 w4 _
    have Hil4 := Lib.hid ((((Hil3.out.below hb4).up hb4.size).below ha).up ha.size)
    have H4 := Lib.hid ((((H3.out.below hb4).up hb4.size).below ha).up ha.size)
    have B4 := Lib.hid ((B3.out.trans (hb4.mono B3.out.size)).trans (ha.mono (B3.out.trans (hb4.mono B3.out.size)).size))
    have S4 := Lib.hid (S3.out.below hb4)
    have S4b := Lib.hid ((S3.out.below hb4).below ha)
    have T4 := Lib.hid (RB.new w4 R K)
    have c0 := S4.out.c0
    have c1 := S4.out.c1
    have hlt := S4.out.lt
    clear hb4 ha Hil3 B3 H3 S3
    go_wp2_with fail
    refine (eqBits_same _ _ _).mono ?_
    rintro e w5 ⟨rfl, hb5⟩
    have Hil5 := Lib.hid ((Hil4.out.below hb5).up hb5.size)
    have H5 := Lib.hid ((H4.out.below hb5).up hb5.size)
    have B5 := Lib.hid (B4.out.trans (hb5.mono B4.out.size))
    clear hb5 Hil4 H4 B4 c0 c1 hlt
    go_wp2_with fail
    refine (hcp.out _ _ Hil5.out).mono ?_
    rintro e w6 ⟨v6, rfl, hown6, hb6⟩
    have H6 := Lib.hid (IL.of_own hown6 rfl Hrng.out (by omega))
    have H56 := Lib.hid ((H5.out.below hb6).up hb6.size)
    have B6 := Lib.hid (B5.out.trans (hb6.mono B5.out.size))
    clear hown6 hb6 Hil5 B5 H5
    go_wp2_with fail
    refine (heq.out _ _ _ H56.out H6.out).mono ?_
    rintro e w7 ⟨rfl, hb7⟩
    have B7 := Lib.hid (B6.out.trans (hb7.mono B6.out.size))
    clear hb7 B6
    go_wp2_with fail
    go_ret
    exact ⟨rfl, B7.out⟩
end Go.Proofs.YtldjeacpkndcbaaDoor
