/- Walks: DrawBitsOk, DrawPutBits, DrawGetBits. -/
import Derived.Test.YtoajpbainmbhlaaRd
import Derived.Deep.RegionLaw
namespace Go.Proofs.Ytoajpbainmbhlaa
open Go.RowKit

def IsI (v : Value) : Prop := IsI64 v
/-- a fresh struct variable's block -/
def SB (w : World) (g : Nat) (s : ByteArray) (N : Int) : Prop := w.heap[g]? = some (.cells #[.string s, .int .i64 N] 25 (0, 0))
theorem SB.lt {w : World} {g : Nat} {s : ByteArray} {N : Int} (h : SB w g s N) : g < w.heap.size := by
  unfold SB at h
  rcases Nat.lt_or_ge g w.heap.size with h1 | h1
  · exact h1
  · rw [Array.getElem?_eq_none h1] at h; cases h
theorem SB.c0 {w : World} {g : Nat} {s : ByteArray} {N : Int} (h : SB w g s N) : w.cell? ⟨g, 0, none⟩ = some (.string s) := by rw [cell_of_row w g 0 _ _ _ h]; rfl
theorem SB.c1 {w : World} {g : Nat} {s : ByteArray} {N : Int} (h : SB w g s N) : w.cell? ⟨g, 1, none⟩ = some (.int .i64 N) := by rw [cell_of_row w g 1 _ _ _ h]; rfl
theorem SB.f {w : World} {g : Nat} {s : ByteArray} {N : Int} (h : SB w g s N) (i : Nat) : w.frozen? ⟨g, i, none⟩ = false := frozen_of_row w g i _ _ h
theorem SB.below {w w' : World} {g : Nat} {s : ByteArray} {N : Int} (h : SB w g s N) (hb : Below w.heap.size w w') : SB w' g s N := (hb.block g h.lt).trans h
theorem SB.grown {w w' : World} {g : Nat} {row : Option Nat} {s : ByteArray} {N : Int} (h : SB w g s N) (hb : w.grownBy w' row) (hr : some g ≠ row) : SB w' g s N := (hb.block g h.lt hr).trans h
theorem SB.drew {w : World} {g : Nat} {s : ByteArray} {N : Int} (h : SB w g s N) : SB w.drew g s N := h
theorem SB.new (w : World) (s : ByteArray) (N : Int) : SB (w.alloc (.cells #[.string s, .int .i64 N] 25)) w.heap.size s N := heap_alloc_new w _
theorem SB.res {w : World} {g : Nat} (h : SB w g ⟨#[]⟩ 0) : ResBlk w g := h

def TripPost (w : World) (e : Ending) (w' : World) : Prop :=
  ∃ (s : ByteArray) (N v k : Int), e = .returned (.tuple #[.agg #[.string s, .int .i64 N], .int .i64 v, .int .i64 k]) ∧ s.size ≤ 1000 ∧ IsI64 (.int .i64 N) ∧ IsI64 (.int .i64 v) ∧ IsI64 (.int .i64 k) ∧ Below w.heap.size w w'

set_option maxRecDepth 100000 in
set_option maxHeartbeats 2000000 in
theorem DrawGetBits_any (A : Option Addr) (n c : Nat) (w : World) (h : CodeAt w A n c) :
    Calls Try.prog 24 #[.slice A n c] w (TripPost w) := by
  have h1 := h.below (below1 w (.cells #[.string ⟨#[]⟩, .int .i64 0] 25))
  have hsb := SB.new w ⟨#[]⟩ 0
  have H1 := Lib.hid h1
  have Hsb := Lib.hid hsb
  clear h h1 hsb
  go_enter Try.func24, Try.ntmps24
  go_wp2_with fail
  refine (open_any A n c _ H1.out).mono ?_
  rintro e w1 ⟨rfl, hrd, hb1⟩
  have Hres1 := Lib.hid (Hsb.out.below hb1)
  have hf1 := (below1 w (.cells #[.string ⟨#[]⟩, .int .i64 0] 25)).trans (hb1.mono (by simp))
  rw [World.size_alloc] at hrd
  have Hrd := Lib.hid hrd
  have hz1 : w.heap.size + 1 ≤ w1.heap.size := by have := hb1.size; simpa using this
  clear hrd hb1
  go_wp2_with fail
  refine (bits_any _ _ 90 _ Hrd.out (by omega) (by omega)).mono ?_
  rintro e w2 ⟨v, rfl, ⟨s, N, rfl, hs, hN0, hN1⟩, hrd2, hgr2⟩
  have Hres2 := Lib.hid (Hres1.out.grown hgr2 (by simp))
  have hf2 := hf1.grown hgr2 (by omega) (fun k hk => by injection hk with hk; omega)
  have hz2 : w.heap.size + 1 ≤ w2.heap.size := Nat.le_trans hz1 hgr2.size
  have hlt2 : w.heap.size + 1 < w2.heap.size := Rd.lt hrd2
  have Hrd2 := Lib.hid hrd2
  have Hb2 := Lib.hid (SB.new w2 s N)
  clear hrd2 hgr2 hf1
  go_wp2_with fail
  refine (below_any _ _ 30 _ (Rd.alloc Hrd2.out _) (by omega) (by omega)).mono ?_
  rintro e w3 ⟨v, rfl, ⟨x, rfl, hx0, hx1⟩, hrd3, hgr3⟩
  have Hres3 := Lib.hid ((show SB (w2.alloc (.cells #[.string s, .int .i64 N] 25)) w.heap.size ⟨#[]⟩ 0 from (Below.heap_alloc _ _ _ (by omega)).trans Hres2.out).grown hgr3 (by simp))
  have Hb3 := Lib.hid (Hb2.out.grown hgr3 (by intro he; injection he with he; have := Rd.lt Hrd2.out; omega))
  have hf3 := (hf2.alloc (by omega) (.cells #[.string s, .int .i64 N] 25)).grown hgr3 (by simp; omega) (fun k hk => by injection hk with hk; omega)
  have hz3 : w2.heap.size + 1 ≤ w3.heap.size := by have := hgr3.size; simpa using this
  have Hrd3 := Lib.hid hrd3
  clear hrd3 hgr3 hf2
  have k0 := Hb3.out.c0
  have k1 := Hb3.out.c1
  go_wp2_with fail
  have r0 := Hres3.out.c0
  have r1 := Hres3.out.c1
  have f0 := Hres3.out.f 0
  have f1 := Hres3.out.f 1
  go_region_law (first
    | (go_simp; go_at_call 58; (refine (off_any (w.heap.size + 1) (w.heap.size + 1) 0 64 _ (by first | exact Hrd3.out.drew | exact Hrd3.out) (by omega) (by omega) (by omega) (by omega)).mono ?_); rintro e w4 ⟨v, rfl, ⟨z, rfl, hz0', hz1'⟩, hrd4, hgr4⟩; have hb4 : SB w4 w2.heap.size s N := (by first | exact Hb3.out.grown hgr4 (by intro he; injection he with he; omega) | exact Hb3.out.drew.grown hgr4 (by intro he; injection he with he; omega)); have hr4 : SB w4 w.heap.size ⟨#[]⟩ 0 := (by first | exact Hres3.out.grown hgr4 (by simp) | exact Hres3.out.drew.grown hgr4 (by simp)); have q0 := hb4.c0; have q1 := hb4.c1; have s0 := hr4.c0; have s1 := hr4.c1; have g0 := hr4.f 0; have g1 := hr4.f 1))
  all_goals
    have hf4 : Below w.heap.size w w4 := (by first | exact hf3.grown hgr4 (by omega) (fun k hk => by injection hk with hk; omega) | exact hf3.drew.grown hgr4 (by show w.heap.size ≤ w3.heap.size; omega) (fun k hk => by injection hk with hk; omega))
    clear hrd4 hgr4 hb4 hr4
    go_wp2_with fail
    exact bodyPost_ret (v := .tuple #[.agg #[.string s, .int .i64 N], .int .i64 x, .int .i64 z]) (by simp [results, Try.results24, go_sem, s0, s1]) rfl
      ⟨s, N, x, z, rfl, hs, ⟨_, rfl, hN0, hN1⟩, ⟨_, rfl, by omega, by omega⟩, ⟨_, rfl, hz0', hz1'⟩, (hf4.setCell (by simp) _).setCell (by simp) _⟩
end Go.Proofs.Ytoajpbainmbhlaa
