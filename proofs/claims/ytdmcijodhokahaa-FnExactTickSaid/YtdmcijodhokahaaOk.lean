/- Walks: cascades: copies of cascades; equal cascades. -/
import Derived.Test.YtdmcijodhokahaaOj
set_option linter.unusedVariables false
set_option linter.unusedSimpArgs false
namespace Go.Proofs.Ytdmcijodhokahaa
open Go.RowKit

def CPost (base : Nat) (c : Cs) (w : World) (e : Ending) (w' : World) : Prop :=
  ∃ rv lv, e = .returned (.agg #[.int .i64 c.1, .int .i64 c.2.1, rv, lv]) ∧ w'.ownsRow base 47 2 rv c.2.2.1.length (prs c.2.2.1) ∧ LOwn w' base lv c.2.2.2 ∧ Below w.heap.size w w'
theorem LOwn.setOther {W : World} {base : Nat} {v : Value} {ls : List Lv} (h : LOwn W base v ls) (b i : Nat) (x : Value) (hb : b < base) : LOwn (W.setCell ⟨b, i, none⟩ x) base v ls := by
  obtain ⟨es, h1, h2, h3⟩ := h
  exact ⟨es, h1, own_set_other h2 b i x hb, fun j hj => ⟨(h3 j hj).1, (h3 j hj).2.1, own_set_other (h3 j hj).2.2 b i x hb⟩⟩
theorem LOwn.lift {W : World} {base base' : Nat} {v : Value} {ls : List Lv} (h : LOwn W base v ls) (hb : base' ≤ base) : LOwn W base' v ls := by
  obtain ⟨es, h1, h2, h3⟩ := h
  exact ⟨es, h1, oi_lift h2 hb, fun j hj => ⟨(h3 j hj).1, (h3 j hj).2.1, oi_lift (h3 j hj).2.2 hb⟩⟩
theorem LOwn.shape {W : World} {base : Nat} {v : Value} {ls : List Lv} (h : LOwn W base v ls) : ∃ a n c, v = .slice a n c := by
  obtain ⟨es, h1, h2, h3⟩ := h
  rcases h2.2 with ⟨rfl, h0⟩ | ⟨gb, cap, cur, rfl, _⟩
  · exact ⟨_, _, _, rfl⟩
  · exact ⟨_, _, _, rfl⟩
theorem own_shape {W : World} {base sz : Nat} {e : TypeId} {v : Value} {n : Nat} {xs : List Value} (h : W.ownsRow base e sz v n xs) : ∃ a n c, v = .slice a n c := by
  rcases h.2 with ⟨rfl, h0⟩ | ⟨gb, cap, cur, rfl, _⟩
  · exact ⟨_, _, _, rfl⟩
  · exact ⟨_, _, _, rfl⟩

set_option maxRecDepth 100000 in
set_option maxHeartbeats 2000000 in
theorem toCascade_any (v : Value) (c : Cs) (w : World) (h : CV w w.heap.size v c) :
    Calls Try.prog 17 #[v] w (CPost w.heap.size c w) := by
  obtain ⟨Ap, cp, Al, cl, rfl, hP, hL⟩ := h.cell2
  obtain ⟨nw, kp, rp, ls⟩ := c
  simp only at hP hL ⊢
  have hT := Lib.hid (fun W h => toPointS_any (.slice Ap rp.length cp) rp W h)
  have hS := Lib.hid (fun W h => toLevelS_any (.slice Al ls.length cl) ls W h)
  have HP := Lib.hid hP
  have HL := Lib.hid hL
  clear hP hL h
  obtain ⟨w1, hw1⟩ : ∃ w1, ((w.alloc (.cells #[.int .i64 nw, .int .i64 kp, .slice Ap rp.length cp, .slice Al ls.length cl] 25)).alloc (.cells #[.int .i64 0, .int .i64 0, .slice none 0 0, .slice none 0 0] 30)).alloc (.cells #[.int .i64 nw, .int .i64 kp, .slice none 0 0, .slice none 0 0] 30) = w1 := ⟨_, rfl⟩
  have B1 := Lib.hid (show Below w.heap.size w w1 from by rw [← hw1]; exact (((Below.refl _ w).alloc (Nat.le_refl _) _).alloc (by simp) _).alloc (by simp; omega) _)
  have n0 : BoxN w1 w.heap.size #[.int .i64 nw, .int .i64 kp, .slice Ap rp.length cp, .slice Al ls.length cl] 25 := by
    have h := World.alloc_heap_new w (.cells #[.int .i64 nw, .int .i64 kp, .slice Ap rp.length cp, .slice Al ls.length cl] 25)
    rw [← hw1]
    exact (Below.heap_alloc _ _ _ (by simp; omega)).trans ((Below.heap_alloc _ _ _ (by simp)).trans h)
  have n1 : BoxN w1 (w.heap.size + 1) #[.int .i64 0, .int .i64 0, .slice none 0 0, .slice none 0 0] 30 := by
    have h := World.alloc_heap_new (w.alloc (.cells #[.int .i64 nw, .int .i64 kp, .slice Ap rp.length cp, .slice Al ls.length cl] 25)) (.cells #[.int .i64 0, .int .i64 0, .slice none 0 0, .slice none 0 0] 30)
    rw [World.size_alloc] at h
    rw [← hw1]
    exact (Below.heap_alloc _ _ _ (by simp)).trans h
  have n2 : BoxN w1 (w.heap.size + 1 + 1) #[.int .i64 nw, .int .i64 kp, .slice none 0 0, .slice none 0 0] 30 := by
    have h := World.alloc_heap_new ((w.alloc (.cells #[.int .i64 nw, .int .i64 kp, .slice Ap rp.length cp, .slice Al ls.length cl] 25)).alloc (.cells #[.int .i64 0, .int .i64 0, .slice none 0 0, .slice none 0 0] 30)) (.cells #[.int .i64 nw, .int .i64 kp, .slice none 0 0, .slice none 0 0] 30)
    rw [World.size_alloc, World.size_alloc] at h
    rw [← hw1]; exact h
  have hz1 := Lib.hid (show w1.heap.size = w.heap.size + 3 from by rw [← hw1]; simp)
  have HW := Lib.hid hw1
  have N0 := Lib.hid n0
  have N1 := Lib.hid n1
  have N2 := Lib.hid n2
  clear hw1 n1 n2 n0
  go_enter Try.func17, Try.ntmps17
  go_wp2_with fail
  rw [HW.out]
  refine (hT.out _ ((HP.out.below B1.out).up B1.out.size)).mono ?_
  rintro e w2 ⟨v2, rfl, hown, hb2⟩
  have a2 := (hb2.block _ N0.out.lt).trans N0.out
  have r2 : BoxN w2 (w.heap.size + 1) #[.int .i64 0, .int .i64 0, .slice none 0 0, .slice none 0 0] 30 := (hb2.block _ N1.out.lt).trans N1.out
  have o2 : BoxN w2 (w.heap.size + 1 + 1) #[.int .i64 nw, .int .i64 kp, .slice none 0 0, .slice none 0 0] 30 := (hb2.block _ N2.out.lt).trans N2.out
  have A2 := Lib.hid (show BoxN w2 w.heap.size #[.int .i64 nw, .int .i64 kp, .slice Ap rp.length cp, .slice Al ls.length cl] 25 from a2)
  have x3 := A2.out.cell (i := 3) rfl
  have R2 := Lib.hid r2
  have d2 := o2.cell (i := 2) rfl
  have g2 := o2.frozen (i := 2)
  have HB2 := Lib.hid (B1.out.trans (hb2.mono B1.out.size))
  have hs2 : w.heap.size + 3 ≤ w2.heap.size := by have := hb2.size; rw [hz1.out] at this; exact this
  have HO2 := Lib.hid (show w2.ownsRow (w.heap.size + 3) 47 2 v2 rp.length (prs rp) from by rw [← hz1.out]; exact hown)
  obtain ⟨va, vn, vc, rfl⟩ := own_shape hown
  clear hown hb2 a2 r2
  obtain ⟨w3, hw3⟩ : ∃ w3, w2.setCell ⟨w.heap.size + 1 + 1, 2, none⟩ (.slice va vn vc) = w3 := ⟨_, rfl⟩
  have HB3 := Lib.hid (show Below w.heap.size w w3 from by rw [← hw3]; exact HB2.out.setCell (by simp; omega) _)
  have HO3 := Lib.hid (show w3.ownsRow (w.heap.size + 3) 47 2 (.slice va vn vc) rp.length (prs rp) from by rw [← hw3]; exact own_set_other HO2.out _ _ _ (by omega))
  have hs3 : w.heap.size + 3 ≤ w3.heap.size := by rw [← hw3]; simpa [World.setCell] using hs2
  have O3 := Lib.hid (show BoxN w3 (w.heap.size + 1 + 1) #[.int .i64 nw, .int .i64 kp, .slice va vn vc, .slice none 0 0] 30 from by
    rw [← hw3]
    have h := heap_setCell_same w2 (w.heap.size + 1 + 1) 2 _ _ (.slice va vn vc) o2
    exact h)
  have R3 := Lib.hid (show BoxN w3 (w.heap.size + 1) #[.int .i64 0, .int .i64 0, .slice none 0 0, .slice none 0 0] 30 from by
    rw [← hw3]; exact (Below.heap_setCell _ _ _ _ (by simp)).trans R2.out)
  have HW3 := Lib.hid hw3
  clear hw3
  go_wp2_with fail
  rw [HW3.out]
  refine (hS.out _ ((HL.out.below HB3.out).up HB3.out.size)).mono ?_
  rintro e w4 ⟨v4, rfl, hown4, hb4⟩
  obtain ⟨ua, un, uc, rfl⟩ := hown4.shape
  have r4 : BoxN w4 (w.heap.size + 1) #[.int .i64 0, .int .i64 0, .slice none 0 0, .slice none 0 0] 30 := (hb4.block _ R3.out.lt).trans R3.out
  have o4 : BoxN w4 (w.heap.size + 1 + 1) #[.int .i64 nw, .int .i64 kp, .slice va vn vc, .slice none 0 0] 30 := (hb4.block _ O3.out.lt).trans O3.out
  have HB4 := Lib.hid (HB3.out.trans (hb4.mono HB3.out.size))
  have HO4 := Lib.hid (u_own_below HO3.out hb4)
  have HL4 := Lib.hid (hown4.lift hs3)
  clear hown4 hb4
  have c0 := r4.cell (i := 0) rfl
  have f0 := r4.frozen (i := 0)
  have d0' := o4.cell (i := 0) rfl
  have g0' := o4.frozen (i := 0)
  have c1 := r4.cell (i := 1) rfl
  have f1 := r4.frozen (i := 1)
  have d1' := o4.cell (i := 1) rfl
  have g1' := o4.frozen (i := 1)
  have c2 := r4.cell (i := 2) rfl
  have f2 := r4.frozen (i := 2)
  have d2' := o4.cell (i := 2) rfl
  have g2' := o4.frozen (i := 2)
  have c3 := r4.cell (i := 3) rfl
  have f3 := r4.frozen (i := 3)
  have d3' := o4.cell (i := 3) rfl
  have g3' := o4.frozen (i := 3)
  clear d2 g2 x3
  go_wp2_with fail
  refine bodyPost_ret (v := .agg #[.int .i64 nw, .int .i64 kp, .slice va vn vc, .slice ua un uc]) (by simp [results, Try.results17, go_sem, c0, c1, c2, c3, d0', d1', d2', d3']) rfl ⟨_, _, rfl, ?_, ?_, ?_⟩
  · refine oi_lift (base := w.heap.size + 3) ?_ (by omega)
    repeat (first | with_reducible exact HO4.out | refine own_set_other ?_ _ _ _ (by omega))
  · refine LOwn.lift (base := w.heap.size + 3) ?_ (by omega)
    repeat (first | with_reducible exact HL4.out | refine LOwn.setOther ?_ _ _ _ (by omega))
  · repeat (first | with_reducible exact HB4.out | refine Below.setCell ?_ (by simp; try omega) _)
end Go.Proofs.Ytdmcijodhokahaa
