/- Walks: Tick: the program. -/
import Derived.Test.YtkekpkfhljankaaZc
import Derived.Test.YtkekpkfhljankaaVa
set_option linter.unusedVariables false
set_option linter.unusedSimpArgs false
namespace Go.Proofs.Ytkekpkfhljankaa
open Go.RowKit

def tickB (c : Cs) (nw : Int) : Bool := cascB c && decide (c.1 ≤ nw ∧ nw ≤ 1000000000000)
def tickM (c : Cs) (nw : Int) : Cs := if tickB c nw = true then dropC nw c else zC
theorem tickM_no {c : Cs} {nw : Int} (h : tickB c nw = false) : tickM c nw = zC := by unfold tickM; rw [if_neg (by rw [h]; simp)]
theorem tickM_yes {c : Cs} {nw : Int} (h : tickB c nw = true) : tickM c nw = dropC nw c := by unfold tickM; rw [if_pos h]
theorem lvsB_at {now : Int} {ls : List Lv} {w k : Int} (h : lvsB now w k ls = true) (j : Nat) (hj : j < ls.length) : lvB now (if j = 0 then w else (ls.getD (j - 1) zLv).1) (if j = 0 then k else (ls.getD (j - 1) zLv).2.1) (ls.getD j zLv) = true := by
  cases hb : lvB now (if j = 0 then w else (ls.getD (j - 1) zLv).1) (if j = 0 then k else (ls.getD (j - 1) zLv).2.1) (ls.getD j zLv) with
  | true => rfl
  | false => rw [lvsB_bad ls w k j hj hb] at h; cases h
theorem casc_adv {c : Cs} (h : cascB c = true) (nw : Int) (hn : c.1 ≤ nw) : ∀ j, j < c.2.2.2.length → (1 ≤ (c.2.2.2.getD j zLv).1 ∧ (c.2.2.2.getD j zLv).1 ≤ 1000000) ∧ (0 ≤ (c.2.2.2.getD j zLv).2.1 ∧ (c.2.2.2.getD j zLv).2.1 ≤ 1000000000) ∧ (c.2.2.2.getD j zLv).2.2.length ≤ 1048576 ∧ ∀ r ∈ (c.2.2.2.getD j zLv).2.2, 0 ≤ r.1 ∧ r.1 ≤ nw := by
  intro j hj
  have hk := (cascB_keep h).2.2 j hj
  unfold cascB at h
  rw [Bool.and_eq_true, Bool.and_eq_true] at h
  have hl := lvsB_at h.2.2 j hj
  generalize (if j = 0 then (1 : Int) else (c.2.2.2.getD (j - 1) zLv).1) = w0 at hl
  generalize (if j = 0 then c.2.1 else (c.2.2.2.getD (j - 1) zLv).2.1) = k0 at hl
  generalize c.2.2.2.getD j zLv = x at *
  unfold lvB at hl
  rw [Bool.and_eq_true, Bool.and_eq_true] at hl
  obtain ⟨_, hr, ha⟩ := hl
  obtain ⟨h1, h2, h3⟩ := rollsOkB_in hr
  refine ⟨h2, ⟨by omega, hk.2⟩, by omega, fun r hr' => ?_⟩
  have h4 := List.all_eq_true.1 ha r hr'
  unfold rolAt at h4
  rw [Bool.and_eq_true, decide_eq_true_iff] at h4
  obtain ⟨i, hi, rfl⟩ := List.getElem_of_mem hr'
  have h5 := h3 i hi
  unfold gdR okRB at h5
  rw [show x.2.2.getD i z6 = x.2.2[i] from by simp [List.getD_eq_getElem?_getD, hi]] at h5
  simp only [Bool.and_eq_true, decide_eq_true_eq] at h5
  exact ⟨h5.1.1.1.1, by omega⟩

set_option maxRecDepth 100000 in
set_option maxHeartbeats 8000000 in
theorem implTick_any (v : Value) (c : Cs) (nw : Int) (w : World) (h : CV w w.heap.size v c) :
    Calls Try.prog 31 #[v, .int .i64 nw] w (NPost w.heap.size (tickM c nw) (tickB c nw) w) := by
  have HV := Lib.hid h
  have hOk := Lib.hid (fun W h => implCascadeOk_any v c W h)
  have hCp := Lib.hid (fun W h => copied_any v c W h)
  have hAdv := Lib.hid (fun hc hn => casc_adv (c := c) hc nw hn)
  have hKp := Lib.hid (fun hc => cascB_keep (c := c) hc)
  have hTB : tickB c nw = (cascB c && decide (c.1 ≤ nw ∧ nw ≤ 1000000000000)) := rfl
  have HTN := Lib.hid (tickM_no (c := c) (nw := nw))
  have HTY := Lib.hid (tickM_yes (c := c) (nw := nw))
  obtain ⟨nw0, kp, rp, ls⟩ := c
  obtain ⟨rv, lv, rfl, hP, hL, z1, z2⟩ := h
  simp only at hP hL
  obtain ⟨z3, hpl, Ap, cp, rfl, z4⟩ := hP
  obtain ⟨z5, hll, Al, cl, rfl, z6⟩ := hL
  clear z1 z2 z3 z4 z5 z6
  obtain ⟨w1, hw1⟩ : ∃ w1, (w.alloc (.cells #[.int .i64 nw0, .int .i64 kp, .slice Ap rp.length cp, .slice Al ls.length cl] 32)).alloc (.cells #[.int .i64 0, .int .i64 0, .slice none 0 0, .slice none 0 0] 32) = w1 := ⟨_, rfl⟩
  have B1 := Lib.hid (show Below w.heap.size w w1 from by rw [← hw1]; exact ((Below.refl _ w).alloc (Nat.le_refl _) _).alloc (by simp) _)
  have X1 : Hid (BoxN w1 w.heap.size #[.int .i64 nw0, .int .i64 kp, .slice Ap rp.length cp, .slice Al ls.length cl] 32) := Lib.hid (by
    have h := World.alloc_heap_new w (.cells #[.int .i64 nw0, .int .i64 kp, .slice Ap rp.length cp, .slice Al ls.length cl] 32)
    rw [← hw1]
    exact (Below.heap_alloc _ _ _ (by simp)).trans h)
  have R1 : Hid (BoxN w1 (w.heap.size + 1) #[.int .i64 0, .int .i64 0, .slice none 0 0, .slice none 0 0] 32) := Lib.hid (by
    have h := World.alloc_heap_new (w.alloc (.cells #[.int .i64 nw0, .int .i64 kp, .slice Ap rp.length cp, .slice Al ls.length cl] 32)) (.cells #[.int .i64 0, .int .i64 0, .slice none 0 0, .slice none 0 0] 32)
    rw [World.size_alloc] at h
    rw [← hw1]; exact h)
  have S1 : w.heap.size + 2 ≤ w1.heap.size := by rw [← hw1]; simp
  have HW1 := Lib.hid hw1
  clear hw1
  have x0 := X1.out.cell (i := 0) rfl
  have x1 := X1.out.cell (i := 1) rfl
  have x2 := X1.out.cell (i := 2) rfl
  have x3 := X1.out.cell (i := 3) rfl
  go_enter Try.func31, Try.ntmps31
  go_wp2_with fail
  rw [HW1.out]
  go_wp2_with fail
  refine (hOk.out _ ((HV.out.below B1.out).up B1.out.size)).mono ?_
  rintro e w2 ⟨rfl, hb2⟩
  have X2 : Hid (BoxN w2 w.heap.size #[.int .i64 nw0, .int .i64 kp, .slice Ap rp.length cp, .slice Al ls.length cl] 32) := Lib.hid (X1.out.below hb2)
  have R2 : Hid (BoxN w2 (w.heap.size + 1) #[.int .i64 0, .int .i64 0, .slice none 0 0, .slice none 0 0] 32) := Lib.hid (R1.out.below hb2)
  have S2 := hb2.size
  have B2 := Lib.hid (B1.out.trans (hb2.mono (by omega)))
  clear x0 x1 x2 x3 hb2 X1 R1 B1
  have x0 := X2.out.cell (i := 0) rfl
  have x1 := X2.out.cell (i := 1) rfl
  have x2 := X2.out.cell (i := 2) rfl
  have x3 := X2.out.cell (i := 3) rfl
  have r0 := R2.out.cell (i := 0) rfl
  have r1 := R2.out.cell (i := 1) rfl
  have r2 := R2.out.cell (i := 2) rfl
  have r3 := R2.out.cell (i := 3) rfl
  have f0 := R2.out.frozen (i := 0)
  have f1 := R2.out.frozen (i := 1)
  have f2 := R2.out.frozen (i := 2)
  have f3 := R2.out.frozen (i := 3)
  cases hc : cascB (nw0, kp, rp, ls) with
  | false =>
    have HTF := Lib.hid (show tickB (nw0, kp, rp, ls) nw = false from by rw [hTB, hc]; rfl)
    clear hc hTB
    go_wp2_with fail
    rw [HTN.out HTF.out, HTF.out]
    refine bodyPost_ret (v := .tuple #[.agg #[.int .i64 0, .int .i64 0, .slice none 0 0, .slice none 0 0], .bool false]) (by simp [results, Try.results31, go_sem, r0, r1, r2, r3]) rfl ⟨_, _, [], rfl, zC_cd _ _ _, ?_⟩
    repeat (first | with_reducible exact B2.out | refine Below.setCell ?_ (by simp; try omega) _)
  | true =>
  by_cases g1 : nw0 ≤ nw
  case neg =>
    have HTF := Lib.hid (show tickB (nw0, kp, rp, ls) nw = false from by rw [hTB, hc, decide_eq_false (by intro h; exact g1 h.1)]; rfl)
    clear hc hTB
    go_wp2_with fail
    rw [HTN.out HTF.out, HTF.out]
    refine bodyPost_ret (v := .tuple #[.agg #[.int .i64 0, .int .i64 0, .slice none 0 0, .slice none 0 0], .bool false]) (by simp [results, Try.results31, go_sem, r0, r1, r2, r3]) rfl ⟨_, _, [], rfl, zC_cd _ _ _, ?_⟩
    repeat (first | with_reducible exact B2.out | refine Below.setCell ?_ (by simp; try omega) _)

  by_cases g2 : nw ≤ 1000000000000
  case neg =>
    have HTF := Lib.hid (show tickB (nw0, kp, rp, ls) nw = false from by rw [hTB, hc, decide_eq_false (by intro h; exact g2 h.2)]; rfl)
    clear hc hTB
    go_wp2_with fail
    rw [HTN.out HTF.out, HTF.out]
    refine bodyPost_ret (v := .tuple #[.agg #[.int .i64 0, .int .i64 0, .slice none 0 0, .slice none 0 0], .bool false]) (by simp [results, Try.results31, go_sem, r0, r1, r2, r3]) rfl ⟨_, _, [], rfl, zC_cd _ _ _, ?_⟩
    repeat (first | with_reducible exact B2.out | refine Below.setCell ?_ (by simp; try omega) _)

  have HTT := Lib.hid (show tickB (nw0, kp, rp, ls) nw = true from by rw [hTB, hc, decide_eq_true ⟨g1, g2⟩]; rfl)
  have hlv := Lib.hid (hAdv.out hc g1)
  obtain ⟨hn0, hk0, _⟩ := hKp.out hc
  clear hc hTB hAdv hKp hOk
  go_wp2_with fail
  refine (hCp.out _ ((HV.out.below B2.out).up B2.out.size)).mono ?_
  rintro e w3 ⟨rv3, lv3, es3, rfl, hcd3, hb3⟩
  have S3 := hb3.size
  have R3 : Hid (BoxN w3 (w.heap.size + 1) #[.int .i64 0, .int .i64 0, .slice none 0 0, .slice none 0 0] 32) := Lib.hid (R2.out.below hb3)
  have B3 := Lib.hid (B2.out.trans (hb3.mono (by omega)))
  obtain ⟨pa, pc, rfl⟩ := hcd3.raw.shape
  obtain ⟨A3, c3, rfl⟩ := hcd3.lvl.row.shape
  obtain ⟨w4, hw4⟩ : ∃ w4, w3.alloc (.cells #[.int .i64 nw0, .int .i64 kp, .slice pa rp.length pc, .slice A3 ls.length c3] 32) = w4 := ⟨_, rfl⟩
  have hb4 : Below w3.heap.size w3 w4 := by rw [← hw4]; exact (Below.refl _ _).alloc (Nat.le_refl _) _
  have X4 : BoxN w4 w3.heap.size #[.int .i64 nw0, .int .i64 kp, .slice pa rp.length pc, .slice A3 ls.length c3] 32 := by rw [← hw4]; exact World.alloc_heap_new w3 _
  have R4 : Hid (BoxN w4 (w.heap.size + 1) #[.int .i64 0, .int .i64 0, .slice none 0 0, .slice none 0 0] 32) := Lib.hid (R3.out.below hb4)
  have S4 : w4.heap.size = w3.heap.size + 1 := by rw [← hw4]; simp
  have B4 := Lib.hid (B3.out.trans (hb4.mono (by omega)))
  have HA := Lib.hid (advance_go w3.heap.size w2.heap.size w3.heap.size nw0 nw kp pa A3 pc c3 rp ls es3 w4 X4 (hcd3.below hb4) (.inr (Nat.le_refl _)) (by omega) (by omega) (by omega) ⟨by omega, g2⟩ ⟨by omega, by omega⟩ hpl hll hlv.out)
  have HW4 := Lib.hid hw4
  clear hw4 hb4 X4 hcd3 hb3 x0 x1 x2 x3 r0 r1 r2 r3 f0 f1 f2 f3 R3 B3 R2 B2 X2
  go_wp2_with fail
  rw [HW4.out]
  go_wp2_with fail
  refine HA.out.mono ?_
  rintro e w5 ⟨⟨ve, rfl⟩, ho, ht, hou, hs, hbk, rv5, es5, hbx, hcd⟩
  have R5 : BoxN w5 (w.heap.size + 1) #[.int .i64 0, .int .i64 0, .slice none 0 0, .slice none 0 0] 32 := (hbk _ (by omega) (by omega)).trans R4.out
  have B5 := Lib.hid (B4.out.trans (show Below w.heap.size w4 w5 from ⟨ho, ht, hou, hs, fun k hk => hbk k (by omega) (by omega)⟩))
  obtain ⟨pa5, pc5, rfl⟩ := hcd.raw.shape
  obtain ⟨m5, hm5⟩ : ∃ m5, (dropC nw (nw0, kp, rp, ls)).2.2.1.length = m5 := ⟨_, rfl⟩
  rw [hm5] at hbx hcd
  have y0 := hbx.cell (i := 0) rfl
  have y1 := hbx.cell (i := 1) rfl
  have y2 := hbx.cell (i := 2) rfl
  have y3 := hbx.cell (i := 3) rfl
  have r0 := R5.cell (i := 0) rfl
  have r1 := R5.cell (i := 1) rfl
  have r2 := R5.cell (i := 2) rfl
  have r3 := R5.cell (i := 3) rfl
  have f0 := R5.frozen (i := 0)
  have f1 := R5.frozen (i := 1)
  have f2 := R5.frozen (i := 2)
  have f3 := R5.frozen (i := 3)
  have HCD := Lib.hid hcd
  have hs5 : w3.heap.size ≤ w5.heap.size := by omega
  have hne1 : ¬ w3.heap.size = w.heap.size + 1 := by omega
  have hne2 : ¬ w.heap.size + 1 = w3.heap.size := by omega
  clear hcd ho ht hou hs hbk hbx R5 R4 B4 HA HV HW4
  go_wp2_with fail
  rw [HTY.out HTT.out, HTT.out]
  refine bodyPost_ret (v := .tuple #[.agg #[.int .i64 nw, .int .i64 kp, .slice pa5 m5 pc5, .slice A3 ls.length c3], .bool true]) (by simp [results, Try.results31, go_sem, r0, r1, r2, r3]) rfl ⟨.slice pa5 m5 pc5, .slice A3 ls.length c3, es5, rfl, (CD.at_ (W := w5) HCD.out (fun g hg => ?_)).lift (by omega) (by simp [World.setCell]; exact hs5), ?_⟩
  · have hlo := (HCD.out.lt hg).1
    repeat (first | with_reducible rfl | refine (Below.heap_setCell _ _ _ _ (by simp; omega)).trans ?_)
  · repeat (first | with_reducible exact B5.out | refine Below.setCell ?_ (by simp; try omega) _)
end Go.Proofs.Ytkekpkfhljankaa
