/- Walks: Tick: the program. -/
import Derived.Test.YtcjpedolmnahfaaZc
import Derived.Test.YtcjpedolmnahfaaVa
import Derived.Test.YtcjpedolmnahfaaYs
import Derived.Test.YtcjpedolmnahfaaZg
set_option linter.unusedVariables false
set_option linter.unusedSimpArgs false
namespace Go.Proofs.Ytcjpedolmnahfaa
open Go.RowKit

def tickB (c : Cs) (nw : Int) : Bool := cascB c && decide (c.1 ≤ nw ∧ nw ≤ 1000000000000)
def tickM (c : Cs) (nw : Int) : Cs := if tickB c nw = true then dropC nw c else zC
theorem tickM_no {c : Cs} {nw : Int} (h : tickB c nw = false) : tickM c nw = zC := by unfold tickM; rw [if_neg (by rw [h]; simp)]
theorem tickM_yes {c : Cs} {nw : Int} (h : tickB c nw = true) : tickM c nw = dropC nw c := by unfold tickM; rw [if_pos h]
theorem lvsB_at {now : Int} {ls : List Lv} {w k : Int} (h : lvsB now w k ls = true) (j : Nat) (hj : j < ls.length) : lvB now (if j = 0 then w else (ls.getD (j - 1) zLv).1) (if j = 0 then k else (ls.getD (j - 1) zLv).2.1) (ls.getD j zLv) = true := by
  cases hb : lvB now (if j = 0 then w else (ls.getD (j - 1) zLv).1) (if j = 0 then k else (ls.getD (j - 1) zLv).2.1) (ls.getD j zLv) with
  | true => rfl
  | false => rw [lvsB_bad ls w k j hj hb] at h; cases h
theorem casc_adv {c : Cs} (h : cascB c = true) (nw : Int) (hn : c.1 ≤ nw) : ∀ j, j < c.2.2.2.length → (1 ≤ (c.2.2.2.getD j zLv).1 ∧ (c.2.2.2.getD j zLv).1 ≤ 1000000) ∧ (0 ≤ (c.2.2.2.getD j zLv).2.1 ∧ (c.2.2.2.getD j zLv).2.1 ≤ 1000000000) ∧ (c.2.2.2.getD j zLv).2.2.length ≤ 1048576 ∧ ∀ r ∈ (c.2.2.2.getD j zLv).2.2, 0 ≤ r.1 ∧ r.1 ≤ nw := by
  intro j hj
  have hk := (cascB_keep h).2.2 j hj
  unfold cascB at h
  rw [Bool.and_eq_true, Bool.and_eq_true] at h
  have hl := lvsB_at h.2.2 j hj
  generalize (if j = 0 then (1 : Int) else (c.2.2.2.getD (j - 1) zLv).1) = w0 at hl
  generalize (if j = 0 then c.2.1 else (c.2.2.2.getD (j - 1) zLv).2.1) = k0 at hl
  generalize c.2.2.2.getD j zLv = x at *
  unfold lvB at hl
  rw [Bool.and_eq_true, Bool.and_eq_true] at hl
  obtain ⟨_, hr, ha⟩ := hl
  obtain ⟨h1, h2, h3⟩ := rollsOkB_in hr
  refine ⟨h2, ⟨by omega, hk.2⟩, by omega, fun r hr' => ?_⟩
  have h4 := List.all_eq_true.1 ha r hr'
  unfold rolAt at h4
  rw [Bool.and_eq_true, decide_eq_true_iff] at h4
  obtain ⟨i, hi, rfl⟩ := List.getElem_of_mem hr'
  have h5 := h3 i hi
  unfold gdR okRB at h5
  rw [show x.2.2.getD i z6 = x.2.2[i] from by simp [List.getD_eq_getElem?_getD, hi]] at h5
  simp only [Bool.and_eq_true, decide_eq_true_eq] at h5
  exact ⟨h5.1.1.1.1, by omega⟩

set_option maxRecDepth 100000 in
set_option maxHeartbeats 8000000 in
theorem implTick_any (v : Value) (c : Cs) (nw : Int) (w : World) (h : CV w w.heap.size v c) :
    Calls Try.prog 31 #[v, .int .i64 nw] w (NPost w.heap.size (tickM c nw) (tickB c nw) w) := by
  have HV := Lib.hid h
  have hOk := Lib.hid (fun W h => implCascadeOk_any v c W h)
  have hCp := Lib.hid (fun W h => copied_any v c W h)
  have hAdv := Lib.hid (fun hc hn => casc_adv (c := c) hc nw hn)
  have hKp := Lib.hid (fun hc => cascB_keep (c := c) hc)
  have hTB : tickB c nw = (cascB c && decide (c.1 ≤ nw ∧ nw ≤ 1000000000000)) := rfl
  have HTN := Lib.hid (tickM_no (c := c) (nw := nw))
  have HTY := Lib.hid (tickM_yes (c := c) (nw := nw))
  obtain ⟨nw0, kp, rp, ls⟩ := c
  obtain ⟨rv, lv, rfl, hP, hL, z1, z2⟩ := h
  simp only at hP hL
  obtain ⟨z3, hpl, Ap, cp, rfl, z4⟩ := hP
  obtain ⟨z5, hll, Al, cl, rfl, z6⟩ := hL
  clear z1 z2 z3 z4 z5 z6
  obtain ⟨w1, hw1⟩ : ∃ w1, (w.alloc (.cells #[.int .i64 nw0, .int .i64 kp, .slice Ap rp.length cp, .slice Al ls.length cl] 30)).alloc (.cells #[.int .i64 0, .int .i64 0, .slice none 0 0, .slice none 0 0] 30) = w1 := ⟨_, rfl⟩
  have B1 := Lib.hid (show Below w.heap.size w w1 from by rw [← hw1]; exact ((Below.refl _ w).alloc (Nat.le_refl _) _).alloc (by simp) _)
  have X1 : Hid (BoxN w1 w.heap.size #[.int .i64 nw0, .int .i64 kp, .slice Ap rp.length cp, .slice Al ls.length cl] 30) := Lib.hid (by
    have h := World.alloc_heap_new w (.cells #[.int .i64 nw0, .int .i64 kp, .slice Ap rp.length cp, .slice Al ls.length cl] 30)
    rw [← hw1]
    exact (Below.heap_alloc _ _ _ (by simp)).trans h)
  have R1 : Hid (BoxN w1 (w.heap.size + 1) #[.int .i64 0, .int .i64 0, .slice none 0 0, .slice none 0 0] 30) := Lib.hid (by
    have h := World.alloc_heap_new (w.alloc (.cells #[.int .i64 nw0, .int .i64 kp, .slice Ap rp.length cp, .slice Al ls.length cl] 30)) (.cells #[.int .i64 0, .int .i64 0, .slice none 0 0, .slice none 0 0] 30)
    rw [World.size_alloc] at h
    rw [← hw1]; exact h)
  have S1 : w.heap.size + 2 ≤ w1.heap.size := by rw [← hw1]; simp
  have HW1 := Lib.hid hw1
  clear hw1
  have x0 := X1.out.cell (i := 0) rfl
  have x1 := X1.out.cell (i := 1) rfl
  have x2 := X1.out.cell (i := 2) rfl
  have x3 := X1.out.cell (i := 3) rfl
  go_enter Try.func31, Try.ntmps31
  go_wp2_with fail
  rw [HW1.out]
  go_wp2_with fail
  refine (hOk.out _ ((HV.out.below B1.out).up B1.out.size)).mono ?_
  rintro e w2 ⟨rfl, hb2⟩
  have X2 : Hid (BoxN w2 w.heap.size #[.int .i64 nw0, .int .i64 kp, .slice Ap rp.length cp, .slice Al ls.length cl] 30) := Lib.hid (X1.out.below hb2)
  have R2 : Hid (BoxN w2 (w.heap.size + 1) #[.int .i64 0, .int .i64 0, .slice none 0 0, .slice none 0 0] 30) := Lib.hid (R1.out.below hb2)
  have S2 := hb2.size
  have B2 := Lib.hid (B1.out.trans (hb2.mono (by omega)))
  clear x0 x1 x2 x3 hb2 X1 R1 B1
  have x0 := X2.out.cell (i := 0) rfl
  have x1 := X2.out.cell (i := 1) rfl
  have x2 := X2.out.cell (i := 2) rfl
  have x3 := X2.out.cell (i := 3) rfl
  have r0 := R2.out.cell (i := 0) rfl
  have r1 := R2.out.cell (i := 1) rfl
  have r2 := R2.out.cell (i := 2) rfl
  have r3 := R2.out.cell (i := 3) rfl
  have f0 := R2.out.frozen (i := 0)
  have f1 := R2.out.frozen (i := 1)
  have f2 := R2.out.frozen (i := 2)
  have f3 := R2.out.frozen (i := 3)
  cases hc : cascB (nw0, kp, rp, ls) with
  | false =>
    have HTF := Lib.hid (show tickB (nw0, kp, rp, ls) nw = false from by rw [hTB, hc]; rfl)
    clear hc hTB
    go_wp2_with fail
    rw [HTN.out HTF.out, HTF.out]
    refine bodyPost_ret (v := .tuple #[.agg #[.int .i64 0, .int .i64 0, .slice none 0 0, .slice none 0 0], .bool false]) (by simp [results, Try.results31, go_sem, r0, r1, r2, r3]) rfl ⟨_, _, [], rfl, zC_cd _ _ _, ?_⟩
    repeat (first | with_reducible exact B2.out | refine Below.setCell ?_ (by simp; try omega) _)
  | true =>
  by_cases g1 : nw0 ≤ nw
  case neg =>
    have HTF := Lib.hid (show tickB (nw0, kp, rp, ls) nw = false from by rw [hTB, hc, decide_eq_false (by intro h; exact g1 h.1)]; rfl)
    clear hc hTB
    go_wp2_with fail
    rw [HTN.out HTF.out, HTF.out]
    refine bodyPost_ret (v := .tuple #[.agg #[.int .i64 0, .int .i64 0, .slice none 0 0, .slice none 0 0], .bool false]) (by simp [results, Try.results31, go_sem, r0, r1, r2, r3]) rfl ⟨_, _, [], rfl, zC_cd _ _ _, ?_⟩
    repeat (first | with_reducible exact B2.out | refine Below.setCell ?_ (by simp; try omega) _)

  by_cases g2 : nw ≤ 1000000000000
  case neg =>
    have HTF := Lib.hid (show tickB (nw0, kp, rp, ls) nw = false from by rw [hTB, hc, decide_eq_false (by intro h; exact g2 h.2)]; rfl)
    clear hc hTB
    go_wp2_with fail
    rw [HTN.out HTF.out, HTF.out]
    refine bodyPost_ret (v := .tuple #[.agg #[.int .i64 0, .int .i64 0, .slice none 0 0, .slice none 0 0], .bool false]) (by simp [results, Try.results31, go_sem, r0, r1, r2, r3]) rfl ⟨_, _, [], rfl, zC_cd _ _ _, ?_⟩
    repeat (first | with_reducible exact B2.out | refine Below.setCell ?_ (by simp; try omega) _)

  have HTT := Lib.hid (show tickB (nw0, kp, rp, ls) nw = true from by rw [hTB, hc, decide_eq_true ⟨g1, g2⟩]; rfl)
  have hlv := Lib.hid (hAdv.out hc g1)
  obtain ⟨hn0, hk0, _⟩ := hKp.out hc
  clear hc hTB hAdv hKp hOk
  go_wp2_with fail
  refine (hCp.out _ ((HV.out.below B2.out).up B2.out.size)).mono ?_
  rintro e w3 ⟨rv3, lv3, es3, rfl, hcd3, hb3⟩
  have S3 := hb3.size
  have R3 : Hid (BoxN w3 (w.heap.size + 1) #[.int .i64 0, .int .i64 0, .slice none 0 0, .slice none 0 0] 30) := Lib.hid (R2.out.below hb3)
  have B3 := Lib.hid (B2.out.trans (hb3.mono (by omega)))
  obtain ⟨pa, pc, rfl⟩ := hcd3.raw.shape
  obtain ⟨A3, c3, rfl⟩ := hcd3.lvl.row.shape
  obtain ⟨w4, hw4⟩ : ∃ w4, w3.alloc (.cells #[.int .i64 nw0, .int .i64 kp, .slice pa rp.length pc, .slice A3 ls.length c3] 30) = w4 := ⟨_, rfl⟩
  have hb4 : Below w3.heap.size w3 w4 := by rw [← hw4]; exact (Below.refl _ _).alloc (Nat.le_refl _) _
  have X4 : BoxN w4 w3.heap.size #[.int .i64 nw0, .int .i64 kp, .slice pa rp.length pc, .slice A3 ls.length c3] 30 := by rw [← hw4]; exact World.alloc_heap_new w3 _
  have R4 : Hid (BoxN w4 (w.heap.size + 1) #[.int .i64 0, .int .i64 0, .slice none 0 0, .slice none 0 0] 30) := Lib.hid (R3.out.below hb4)
  have S4 : w4.heap.size = w3.heap.size + 1 := by rw [← hw4]; simp
  have B4 := Lib.hid (B3.out.trans (hb4.mono (by omega)))
  have HA := Lib.hid (advance_go w3.heap.size w2.heap.size w3.heap.size nw0 nw kp pa A3 pc c3 rp ls es3 w4 X4 (hcd3.below hb4) (.inr (Nat.le_refl _)) (by omega) (by omega) (by omega) ⟨by omega, g2⟩ ⟨by omega, by omega⟩ hpl hll hlv.out)
  have HW4 := Lib.hid hw4
  clear hw4 hb4 X4 hcd3 hb3 x0 x1 x2 x3 r0 r1 r2 r3 f0 f1 f2 f3 R3 B3 R2 B2 X2
  go_wp2_with fail
  rw [HW4.out]
  go_wp2_with fail
  refine HA.out.mono ?_
  rintro e w5 ⟨⟨ve, rfl⟩, ho, ht, hou, hs, hbk, rv5, es5, hbx, hcd⟩
  have R5 : BoxN w5 (w.heap.size + 1) #[.int .i64 0, .int .i64 0, .slice none 0 0, .slice none 0 0] 30 := (hbk _ (by omega) (by omega)).trans R4.out
  have B5 := Lib.hid (B4.out.trans (show Below w.heap.size w4 w5 from ⟨ho, ht, hou, hs, fun k hk => hbk k (by omega) (by omega)⟩))
  obtain ⟨pa5, pc5, rfl⟩ := hcd.raw.shape
  obtain ⟨m5, hm5⟩ : ∃ m5, (dropC nw (nw0, kp, rp, ls)).2.2.1.length = m5 := ⟨_, rfl⟩
  rw [hm5] at hbx hcd
  have y0 := hbx.cell (i := 0) rfl
  have y1 := hbx.cell (i := 1) rfl
  have y2 := hbx.cell (i := 2) rfl
  have y3 := hbx.cell (i := 3) rfl
  have r0 := R5.cell (i := 0) rfl
  have r1 := R5.cell (i := 1) rfl
  have r2 := R5.cell (i := 2) rfl
  have r3 := R5.cell (i := 3) rfl
  have f0 := R5.frozen (i := 0)
  have f1 := R5.frozen (i := 1)
  have f2 := R5.frozen (i := 2)
  have f3 := R5.frozen (i := 3)
  have HCD := Lib.hid hcd
  have hs5 : w3.heap.size ≤ w5.heap.size := by omega
  have hne1 : ¬ w3.heap.size = w.heap.size + 1 := by omega
  have hne2 : ¬ w.heap.size + 1 = w3.heap.size := by omega
  clear hcd ho ht hou hs hbk hbx R5 R4 B4 HA HV HW4
  go_wp2_with fail
  rw [HTY.out HTT.out, HTT.out]
  refine bodyPost_ret (v := .tuple #[.agg #[.int .i64 nw, .int .i64 kp, .slice pa5 m5 pc5, .slice A3 ls.length c3], .bool true]) (by simp [results, Try.results31, go_sem, r0, r1, r2, r3]) rfl ⟨.slice pa5 m5 pc5, .slice A3 ls.length c3, es5, rfl, (CD.at_ (W := w5) HCD.out (fun g hg => ?_)).lift (by omega) (by simp [World.setCell]; exact hs5), ?_⟩
  · have hlo := (HCD.out.lt hg).1
    repeat (first | with_reducible rfl | refine (Below.heap_setCell _ _ _ _ (by simp; omega)).trans ?_)
  · repeat (first | with_reducible exact B5.out | refine Below.setCell ?_ (by simp; try omega) _)
end Go.Proofs.Ytcjpedolmnahfaa

/- Walks: cascades: what is ingested: the model; a right cascade's numbers are in range. -/
set_option linter.unusedVariables false
set_option linter.unusedSimpArgs false
namespace Go.Proofs.Ytcjpedolmnahfaa
open Go.RowKit

theorem okVB_rng {c s mn mx la : Int} (h : okVB c s mn mx la = true) : Rng c ∧ Rng s ∧ Rng mn ∧ Rng mx ∧ Rng la := by
  unfold okVB at h
  rw [decide_eq_true_iff] at h
  obtain ⟨⟨c1, c2⟩, ⟨a1, a2⟩, ⟨b1, b2⟩, h3, h4, h5, h6, h7⟩ := h
  have e1 : c * (-1000000000) ≤ c * mn := Int.mul_le_mul_of_nonneg_left a1 (by omega)
  have e2 : c * mx ≤ c * 1000000000 := Int.mul_le_mul_of_nonneg_left b2 (by omega)
  generalize c * mn = x at *
  generalize c * mx = y at *
  exact ⟨⟨by omega, by omega⟩, ⟨by omega, by omega⟩, ⟨by omega, by omega⟩, ⟨by omega, by omega⟩, ⟨by omega, by omega⟩⟩
theorem okRB_rng {W : Int} {x : R6} (h : okRB W x = true) : Rng6 x := by
  unfold okRB at h
  rw [Bool.and_eq_true, decide_eq_true_iff] at h
  obtain ⟨h1, h2, h3, h4, h5⟩ := okVB_rng h.2
  exact ⟨⟨by omega, by omega⟩, h1, h2, h3, h4, h5⟩
theorem rollsOkB_rng {l : List R6} {W : Int} (h : rollsOkB l W = true) : (∀ i, Rng6 (l.getD i z6)) ∧ l.length ≤ 1048576 := by
  obtain ⟨h1, h2, h3⟩ := rollsOkB_in h
  refine ⟨fun i => ?_, by omega⟩
  by_cases hi : i < l.length
  · have := h3 i hi
    unfold gdR at this
    rw [Bool.and_eq_true] at this
    exact okRB_rng this.1
  · rw [List.getD_eq_getElem?_getD, List.getElem?_eq_none (by omega)]; exact rng6_zero
theorem timesOkB_rng {l : List Int} (h : timesOkB l = true) : l.length ≤ 120 ∧ ∀ j, 0 ≤ l.getD j 0 ∧ l.getD j 0 ≤ 1000000000000 := by
  unfold timesOkB at h
  rw [Bool.and_eq_true, decide_eq_true_iff] at h
  refine ⟨h.1, fun j => ?_⟩
  by_cases hj : j < l.length
  · have := List.all_eq_true.1 (show (List.range l.length).all (goodAt l) = true from h.2) j (List.mem_range.2 hj)
    unfold goodAt at this
    rw [Bool.and_eq_true, decide_eq_true_iff] at this
    exact this.1
  · rw [List.getD_eq_getElem?_getD, List.getElem?_eq_none (by omega)]; exact ⟨by simp, by simp⟩
theorem ptsSmB_rng {l : List (Int × Int)} (h : ptsSmB l = true) : (∀ j, Rng (l.getD j (0, 0)).1 ∧ Rng (l.getD j (0, 0)).2) ∧ l.length ≤ 1048576 := by
  unfold ptsSmB at h
  rw [Bool.and_eq_true] at h
  obtain ⟨h1, h2⟩ := timesOkB_rng (show timesOkB (l.map Prod.fst) = true from h.2)
  rw [List.length_map] at h1
  refine ⟨fun j => ?_, by omega⟩
  have h3 := h2 j
  rw [tsOf_getD] at h3
  refine ⟨⟨by omega, by omega⟩, ?_⟩
  by_cases hj : j < l.length
  · have h4 := List.all_eq_true.1 h.1 (l.getD j (0, 0)) (by rw [List.getD_eq_getElem?_getD, List.getElem?_eq_getElem hj]; exact List.getElem_mem hj)
    unfold smB vIn at h4
    rw [decide_eq_true_iff] at h4
    exact ⟨by omega, by omega⟩
  · rw [List.getD_eq_getElem?_getD, List.getElem?_eq_none (by omega)]; exact rng_zero
/-- the numbers of a right cascade are in range -/
theorem cascB_cr {c : Cs} (h : cascB c = true) : CR c := by
  have hk := cascB_keep h
  unfold cascB at h
  rw [Bool.and_eq_true, Bool.and_eq_true] at h
  obtain ⟨h1, h2, h3, h4⟩ := headB_in h.1
  obtain ⟨p1, p2⟩ := ptsSmB_rng h3
  have hlv : ∀ j, j < c.2.2.2.length → (1 ≤ (c.2.2.2.getD j zLv).1 ∧ (c.2.2.2.getD j zLv).1 ≤ 1000000) ∧ ((∀ i, Rng6 ((c.2.2.2.getD j zLv).2.2.getD i z6)) ∧ (c.2.2.2.getD j zLv).2.2.length ≤ 1048576) := by
    intro j hj
    have hl := lvsB_at h.2.2 j hj
    generalize (if j = 0 then (1 : Int) else (c.2.2.2.getD (j - 1) zLv).1) = w0 at hl
    generalize (if j = 0 then c.2.1 else (c.2.2.2.getD (j - 1) zLv).2.1) = k0 at hl
    generalize c.2.2.2.getD j zLv = x at *
    unfold lvB at hl
    rw [Bool.and_eq_true, Bool.and_eq_true] at hl
    exact ⟨(rollsOkB_in hl.2.1).2.1, rollsOkB_rng hl.2.1⟩
  refine ⟨⟨by omega, by omega⟩, ⟨by omega, by omega⟩, p1, p2, fun j => ?_, by omega, fun j hj => (hlv j hj).2⟩
  by_cases hj : j < c.2.2.2.length
  · have a := (hlv j hj).1
    have b := hk.2.2 j hj
    exact ⟨⟨by omega, by omega⟩, ⟨by omega, by omega⟩⟩
  · rw [List.getD_eq_getElem?_getD, List.getElem?_eq_none (by omega)]; exact ⟨rng_zero, rng_zero⟩

/-- a level to which a point's roll is added -/
def addLv (p : Int × Int) (x : Lv) : Lv := (x.1, x.2.1, addS x.2.2 (oneR x.1 p))
/-- a cascade to which a point is added, at the point's time, before what is too old goes -/
def addC (p : Int × Int) (c : Cs) : Cs := (p.1, c.2.1, c.2.2.1 ++ [p], c.2.2.2.map (addLv p))
def ingC (p : Int × Int) (c : Cs) : Cs := dropC p.1 (addC p c)
def ingB0 (c : Cs) (p : Int × Int) : Bool := cascB c && (decide (c.1 < p.1 ∧ p.1 ≤ 1000000000000) && smB p.2)
def ingB (c : Cs) (p : Int × Int) : Bool := ingB0 c p && cascB (ingC p c)
def ingM (c : Cs) (p : Int × Int) : Cs := if ingB c p = true then ingC p c else zC
theorem ingM_no {c : Cs} {p : Int × Int} (h : ingB c p = false) : ingM c p = zC := by unfold ingM; rw [if_neg (by rw [h]; simp)]
theorem ingM_yes {c : Cs} {p : Int × Int} (h : ingB c p = true) : ingM c p = ingC p c := by unfold ingM; rw [if_pos h]
theorem ingM_cr (c : Cs) (p : Int × Int) : CR (ingM c p) := by
  cases h : ingB c p with
  | true =>
    rw [ingM_yes h]
    unfold ingB at h
    rw [Bool.and_eq_true] at h
    exact cascB_cr h.2
  | false => rw [ingM_no h]; exact zC_cr
/-- the last roll of a level of a right cascade is not later than the window of what comes -/
theorem casc_last {c : Cs} (h : cascB c = true) {t : Int} (ht : c.1 < t) {j : Nat} (hj : j < c.2.2.2.length) (x : R6) (hx : x.1 = t) : (c.2.2.2.getD j zLv).2.2.length = 0 ∨ (lastR (c.2.2.2.getD j zLv).2.2).1 ≤ (winR (c.2.2.2.getD j zLv).1 x).1 := by
  have hn := cascB_keep h
  unfold cascB at h
  rw [Bool.and_eq_true, Bool.and_eq_true] at h
  have hl := lvsB_at h.2.2 j hj
  generalize (if j = 0 then (1 : Int) else (c.2.2.2.getD (j - 1) zLv).1) = w0 at hl
  generalize (if j = 0 then c.2.1 else (c.2.2.2.getD (j - 1) zLv).2.1) = k0 at hl
  generalize c.2.2.2.getD j zLv = y at *
  unfold lvB at hl
  rw [Bool.and_eq_true, Bool.and_eq_true] at hl
  obtain ⟨_, hr, ha⟩ := hl
  obtain ⟨h1, h2, h3⟩ := rollsOkB_in hr
  by_cases h0 : y.2.2.length = 0
  · exact .inl h0
  · refine .inr ?_
    have hi : y.2.2.length - 1 < y.2.2.length := by omega
    obtain ⟨g1, g2, _⟩ := gdR_in (h3 _ hi)
    have h4 := List.all_eq_true.1 ha (y.2.2.getD (y.2.2.length - 1) z6) (by rw [List.getD_eq_getElem?_getD, List.getElem?_eq_getElem hi]; exact List.getElem_mem hi)
    unfold rolAt at h4
    rw [Bool.and_eq_true, decide_eq_true_iff] at h4
    show (y.2.2.getD (y.2.2.length - 1) z6).1 ≤ x.1 - x.1 % y.1
    rw [hx]
    generalize (y.2.2.getD (y.2.2.length - 1) z6).1 = a at *
    have e1 : a / y.1 ≤ t / y.1 := Int.ediv_le_ediv (by omega) (by omega)
    have e2 : y.1 * (a / y.1) ≤ y.1 * (t / y.1) := Int.mul_le_mul_of_nonneg_left e1 (by omega)
    have e3 := Int.mul_ediv_add_emod a y.1
    have e4 := Int.mul_ediv_add_emod t y.1
    generalize y.1 * (a / y.1) = u at *
    generalize y.1 * (t / y.1) = v at *
    generalize t % y.1 = r at *
    omega
end Go.Proofs.Ytcjpedolmnahfaa

/- Walks: cascades: what is ingested is in range, before it is found right too. -/
set_option linter.unusedVariables false
set_option linter.unusedSimpArgs false
namespace Go.Proofs.Ytcjpedolmnahfaa
open Go.RowKit

theorem dropC_crI {nw : Int} {c : Cs} (h : CR c) (hn : Rng nw) : CR (dropC nw c) := by
  have key : ∀ j, j < (dropC nw c).2.2.2.length → (dropC nw c).2.2.2.getD j zLv = dropL nw (c.2.2.2.getD j zLv) := by
    intro j hj
    have hj' : j < c.2.2.2.length := by have : j < (c.2.2.2.map (dropL nw)).length := hj; simpa using this
    show (c.2.2.2.map (dropL nw)).getD j zLv = _
    simp [List.getD_eq_getElem?_getD, hj']
  have hlen : (dropC nw c).2.2.2.length = c.2.2.2.length := by show (c.2.2.2.map (dropL nw)).length = _; simp
  refine ⟨hn, h.keep, prng_of (fun p hp => prng_mem h.raw p (List.mem_filter.1 (show p ∈ c.2.2.1.filter _ from hp)).1), Nat.le_trans (List.length_filter_le _ _) h.rlen, fun j => ?_, by rw [hlen]; exact h.llen, fun j hj => ?_⟩
  · by_cases hj : j < (dropC nw c).2.2.2.length
    · rw [key j hj]; exact h.lv j
    · rw [List.getD_eq_getElem?_getD, List.getElem?_eq_none (by omega)]; exact ⟨rng_zero, rng_zero⟩
  · have hr := h.rolls j (by omega)
    rw [key j hj]
    refine ⟨fun i => ?_, Nat.le_trans (List.length_filter_le _ _) hr.2⟩
    show Rng6 ((List.filter (rolAt nw (c.2.2.2.getD j zLv)) (c.2.2.2.getD j zLv).2.2).getD i z6)
    generalize c.2.2.2.getD j zLv = x at hr ⊢
    by_cases hi : i < (List.filter (rolAt nw x) x.2.2).length
    · have hm : (List.filter (rolAt nw x) x.2.2).getD i z6 ∈ x.2.2 := by
        rw [List.getD_eq_getElem?_getD, List.getElem?_eq_getElem hi]
        exact (List.mem_filter.1 (List.getElem_mem hi)).1
      obtain ⟨q, hq, hqe⟩ := List.getElem_of_mem hm
      rw [← hqe]
      have := hr.1 q
      rwa [List.getD_eq_getElem?_getD, List.getElem?_eq_getElem hq] at this
    · rw [List.getD_eq_getElem?_getD, List.getElem?_eq_none (by omega)]; exact rng6_zero
theorem withR_rng {a b : R6} (ha : Rng6 a) (hb : Rng6 b) : Rng6 (withR a b) := by
  obtain ⟨a1, a2, a3, a4, a5, a6⟩ := ha
  obtain ⟨b1, b2, b3, b4, b5, b6⟩ := hb
  unfold withR
  unfold Rng at *
  refine ⟨a1, rng_wrap64 _, rng_wrap64 _, ?_, ?_, b6⟩
  · show Rng (min _ _)
    unfold Rng; omega
  · show Rng (max _ _)
    unfold Rng; omega
theorem oneR_rng {W : Int} {p : Int × Int} (hW : 1 ≤ W) (hp : 0 ≤ p.1 ∧ p.1 ≤ 1000000000000) (hv : Rng p.2) : Rng6 (oneR W p) := by
  have e := Int.mul_ediv_add_emod p.1 W
  have e1 := Int.emod_nonneg p.1 (show W ≠ 0 by omega)
  have e2 := Int.mul_nonneg (Int.ediv_nonneg hp.1 (show 0 ≤ W by omega)) (show 0 ≤ W by omega)
  rw [Int.mul_comm] at e
  refine ⟨?_, ⟨by show (_ : Int) ≤ 1; omega, by show (1 : Int) ≤ _; omega⟩, hv, hv, hv, hv⟩
  show Rng (p.1 / W * W)
  generalize p.1 / W * W = x at *
  unfold Rng; omega
theorem addS_rng {xs : List R6} {x : R6} (h : ∀ i, Rng6 (xs.getD i z6)) (hx : Rng6 x) : ∀ i, Rng6 ((addS xs x).getD i z6) := by
  intro i
  unfold addS
  split
  · rw [List.getD_eq_getElem?_getD]
    by_cases hi : i < xs.length
    · rw [List.getElem?_append_left hi]
      have := h i
      rwa [List.getD_eq_getElem?_getD] at this
    · rw [List.getElem?_append_right (by omega)]
      cases hk : i - xs.length with
      | zero => exact hx
      | succ k => exact rng6_zero
  · rename_i hc
    have h0 : ¬ xs.length = 0 := fun e => hc (.inl e)
    rw [List.getD_eq_getElem?_getD, List.getElem?_set]
    split
    · rename_i e
      rw [if_pos (by omega)]
      exact withR_rng (h _) hx
    · have := h i
      rwa [List.getD_eq_getElem?_getD] at this
theorem addC_cr {c : Cs} {p : Int × Int} (h : cascB c = true) (hp : 0 ≤ p.1 ∧ p.1 ≤ 1000000000000) (hv : Rng p.2) : CR (addC p c) := by
  have hk := cascB_keep h
  have hc := cascB_cr h
  unfold cascB at h
  rw [Bool.and_eq_true, Bool.and_eq_true] at h
  obtain ⟨h1, h2, h3, h4⟩ := headB_in h.1
  have hlen : c.2.2.1.length ≤ 120 := by
    unfold ptsSmB at h3
    rw [Bool.and_eq_true] at h3
    have := (timesOkB_rng (show timesOkB (c.2.2.1.map Prod.fst) = true from h3.2)).1
    rwa [List.length_map] at this
  have hlv : ∀ j, j < c.2.2.2.length → (1 ≤ (c.2.2.2.getD j zLv).1) ∧ (c.2.2.2.getD j zLv).2.2.length ≤ 400 := by
    intro j hj
    have hl := lvsB_at h.2.2 j hj
    generalize (if j = 0 then (1 : Int) else (c.2.2.2.getD (j - 1) zLv).1) = w0 at hl
    generalize (if j = 0 then c.2.1 else (c.2.2.2.getD (j - 1) zLv).2.1) = k0 at hl
    generalize c.2.2.2.getD j zLv = x at *
    unfold lvB at hl
    rw [Bool.and_eq_true, Bool.and_eq_true] at hl
    obtain ⟨a, b, _⟩ := rollsOkB_in hl.2.1
    exact ⟨b.1, a⟩
  have hg : ∀ j, j < c.2.2.2.length → (c.2.2.2.map (addLv p)).getD j zLv = addLv p (c.2.2.2.getD j zLv) := fun j hj => by
    simp [List.getD_eq_getElem?_getD, hj]
  refine ⟨⟨by show (_ : Int) ≤ p.1; omega, by show p.1 ≤ _; omega⟩, hc.keep, fun j => ?_, ?_, fun j => ?_, ?_, fun j hj => ?_⟩
  · show Rng ((c.2.2.1 ++ [p]).getD j (0, 0)).1 ∧ Rng ((c.2.2.1 ++ [p]).getD j (0, 0)).2
    rw [List.getD_eq_getElem?_getD]
    by_cases hi : j < c.2.2.1.length
    · rw [List.getElem?_append_left hi]
      have := hc.raw j
      rwa [List.getD_eq_getElem?_getD] at this
    · rw [List.getElem?_append_right (by omega)]
      cases hk : j - c.2.2.1.length with
      | zero => exact ⟨⟨by show (_ : Int) ≤ p.1; omega, by show p.1 ≤ _; omega⟩, hv⟩
      | succ k => exact ⟨rng_zero, rng_zero⟩
  · show (c.2.2.1 ++ [p]).length ≤ _
    simp; omega
  · show Rng ((c.2.2.2.map (addLv p)).getD j zLv).1 ∧ Rng ((c.2.2.2.map (addLv p)).getD j zLv).2.1
    by_cases hj : j < c.2.2.2.length
    · rw [hg j hj]; exact hc.lv j
    · rw [List.getD_eq_getElem?_getD, List.getElem?_eq_none (by rw [List.length_map]; omega)]; exact ⟨rng_zero, rng_zero⟩
  · show (c.2.2.2.map (addLv p)).length ≤ _
    rw [List.length_map]; omega
  · have hj : j < (c.2.2.2.map (addLv p)).length := hj
    rw [List.length_map] at hj
    show (∀ i, Rng6 (((c.2.2.2.map (addLv p)).getD j zLv).2.2.getD i z6)) ∧ ((c.2.2.2.map (addLv p)).getD j zLv).2.2.length ≤ _
    rw [hg j hj]
    have a := hlv j hj
    refine ⟨addS_rng (hc.rolls j hj).1 (oneR_rng a.1 hp hv), ?_⟩
    have := addS_len (c.2.2.2.getD j zLv).2.2 (oneR (c.2.2.2.getD j zLv).1 p)
    show (addS (c.2.2.2.getD j zLv).2.2 (oneR (c.2.2.2.getD j zLv).1 p)).length ≤ _
    omega
theorem ingC_cr {c : Cs} {p : Int × Int} (h : cascB c = true) (hp : 0 ≤ p.1 ∧ p.1 ≤ 1000000000000) (hv : Rng p.2) : CR (ingC p c) :=
  dropC_crI (addC_cr h hp hv) ⟨by omega, by omega⟩
end Go.Proofs.Ytcjpedolmnahfaa
