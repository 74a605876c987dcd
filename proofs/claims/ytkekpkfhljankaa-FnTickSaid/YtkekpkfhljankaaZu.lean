/- Walks: Ingest: the model. -/
import Derived.Test.YtkekpkfhljankaaZt
set_option linter.unusedVariables false
set_option linter.unusedSimpArgs false
namespace Go.Proofs.Ytkekpkfhljankaa
open Go.RowKit

set_option maxRecDepth 100000 in
set_option maxHeartbeats 8000000 in
theorem specIngest_any (cv : Value) (c : Cs) (t v : Int) (w : World) (h : CV w w.heap.size cv c) :
    Calls Try.prog 16 #[cv, .agg #[.int .i64 t, .int .i64 v]] w (NPost w.heap.size (ingM c (t, v)) (ingB c (t, v)) w) := by
  have HV := Lib.hid h
  have hOk := Lib.hid (fun W h => specCascadeOk_any cv c W h)
  have hOk2 := Lib.hid (fun v c W h => specCascadeOk_any v c W h)
  have hIg := Lib.hid (fun W h hc h1 h2 hv => l8Ingest_any cv c t v W h hc h1 h2 hv)
  have hIn := Lib.hid (fun W => v_l1In_q t (c.1 + 1) 1000000000000 W)
  have hSm := Lib.hid (fun W => l7Val_any v W)
  have hCr := Lib.hid (fun hc hp hv => ingC_cr (c := c) (p := (t, v)) hc hp hv)
  have hKp := Lib.hid (fun hc => cascB_keep (c := c) hc)
  have hTB : ingB c (t, v) = ((cascB c && (decide (c.1 < t ∧ t ≤ 1000000000000) && smB v)) && cascB (ingC (t, v) c)) := rfl
  have HTN := Lib.hid (ingM_no (c := c) (p := (t, v)))
  have HTY := Lib.hid (ingM_yes (c := c) (p := (t, v)))
  obtain ⟨nw0, kp, rp, ls⟩ := c
  obtain ⟨rv, lv, rfl, hP, hL, z1, z2⟩ := h
  simp only at hP hL
  obtain ⟨z3, hpl, Ap, cp, rfl, z4⟩ := hP
  obtain ⟨z5, hll, Al, cl, rfl, z6⟩ := hL
  clear z1 z2 z3 z4 z5 z6
  obtain ⟨w1, hw1⟩ : ∃ w1, ((w.alloc (.cells #[.int .i64 nw0, .int .i64 kp, .slice Ap rp.length cp, .slice Al ls.length cl] 32)).alloc (.cells #[.int .i64 t, .int .i64 v] 36)).alloc (.cells #[.int .i64 0, .int .i64 0, .slice none 0 0, .slice none 0 0] 32) = w1 := ⟨_, rfl⟩
  have B1 := Lib.hid (show Below w.heap.size w w1 from by rw [← hw1]; exact (((Below.refl _ w).alloc (Nat.le_refl _) _).alloc (by simp) _).alloc (by simp; omega) _)
  have X1 : Hid (BoxN w1 w.heap.size #[.int .i64 nw0, .int .i64 kp, .slice Ap rp.length cp, .slice Al ls.length cl] 32) := Lib.hid (by
    have h := World.alloc_heap_new w (.cells #[.int .i64 nw0, .int .i64 kp, .slice Ap rp.length cp, .slice Al ls.length cl] 32)
    rw [← hw1]
    exact (Below.heap_alloc _ _ _ (by simp; omega)).trans ((Below.heap_alloc _ _ _ (by simp)).trans h))
  have P1 : Hid (BoxN w1 (w.heap.size + 1) #[.int .i64 t, .int .i64 v] 36) := Lib.hid (by
    have h := World.alloc_heap_new (w.alloc (.cells #[.int .i64 nw0, .int .i64 kp, .slice Ap rp.length cp, .slice Al ls.length cl] 32)) (.cells #[.int .i64 t, .int .i64 v] 36)
    rw [World.size_alloc] at h
    rw [← hw1]
    exact (Below.heap_alloc _ _ _ (by simp)).trans h)
  have R1 : Hid (BoxN w1 (w.heap.size + 2) #[.int .i64 0, .int .i64 0, .slice none 0 0, .slice none 0 0] 32) := Lib.hid (by
    have h := World.alloc_heap_new ((w.alloc (.cells #[.int .i64 nw0, .int .i64 kp, .slice Ap rp.length cp, .slice Al ls.length cl] 32)).alloc (.cells #[.int .i64 t, .int .i64 v] 36)) (.cells #[.int .i64 0, .int .i64 0, .slice none 0 0, .slice none 0 0] 32)
    rw [World.size_alloc, World.size_alloc] at h
    rw [← hw1]; exact h)
  have S1 : w.heap.size + 3 ≤ w1.heap.size := by rw [← hw1]; simp
  have HW1 := Lib.hid hw1
  clear hw1
  have x0 := X1.out.cell (i := 0) rfl
  have x1 := X1.out.cell (i := 1) rfl
  have x2 := X1.out.cell (i := 2) rfl
  have x3 := X1.out.cell (i := 3) rfl
  go_enter Try.func16, Try.ntmps16
  go_wp2_with fail
  rw [HW1.out]
  go_wp2_with fail
  refine (hOk.out _ ((HV.out.below B1.out).up B1.out.size)).mono ?_
  rintro e w2 ⟨rfl, hb2⟩
  have X2 : Hid (BoxN w2 w.heap.size #[.int .i64 nw0, .int .i64 kp, .slice Ap rp.length cp, .slice Al ls.length cl] 32) := Lib.hid (X1.out.below hb2)
  have P2 : Hid (BoxN w2 (w.heap.size + 1) #[.int .i64 t, .int .i64 v] 36) := Lib.hid (P1.out.below hb2)
  have R2 : Hid (BoxN w2 (w.heap.size + 2) #[.int .i64 0, .int .i64 0, .slice none 0 0, .slice none 0 0] 32) := Lib.hid (R1.out.below hb2)
  have S2 := hb2.size
  have B2 := Lib.hid (B1.out.trans (hb2.mono (by omega)))
  clear x0 x1 x2 x3 hb2 X1 R1 B1 P1
  have x0 := X2.out.cell (i := 0) rfl
  have x1 := X2.out.cell (i := 1) rfl
  have x2 := X2.out.cell (i := 2) rfl
  have x3 := X2.out.cell (i := 3) rfl
  have p0 := P2.out.cell (i := 0) rfl
  have p1 := P2.out.cell (i := 1) rfl
  have r0 := R2.out.cell (i := 0) rfl
  have r1 := R2.out.cell (i := 1) rfl
  have r2 := R2.out.cell (i := 2) rfl
  have r3 := R2.out.cell (i := 3) rfl
  have f0 := R2.out.frozen (i := 0)
  have f1 := R2.out.frozen (i := 1)
  have f2 := R2.out.frozen (i := 2)
  have f3 := R2.out.frozen (i := 3)

  cases hc : cascB (nw0, kp, rp, ls) with
  | false =>
    have HTF := Lib.hid (show ingB (nw0, kp, rp, ls) (t, v) = false from by rw [hTB, hc]; try rfl)
    clear hc hTB hIg hCr hKp
    go_wp2_with fail
    rw [HTN.out HTF.out, HTF.out]
    refine bodyPost_ret (v := .tuple #[.agg #[.int .i64 0, .int .i64 0, .slice none 0 0, .slice none 0 0], .bool false]) (by simp [results, Try.results16, go_sem, r0, r1, r2, r3]) rfl ⟨_, _, [], rfl, zC_cd _ _ _, ?_⟩
    repeat (first | with_reducible exact B2.out | refine Below.setCell ?_ (by simp; try omega) _)
  | true =>
  obtain ⟨hn0, hk0, hkk⟩ := hKp.out hc
  have hn0' : 0 ≤ nw0 ∧ nw0 ≤ 1000000000000 := hn0
  have hk0' : 1 ≤ kp ∧ kp ≤ 1000000000 := hk0
  clear hn0 hk0 hkk
  have hwr : IntKind.i64.wrap (nw0 + 1) = nw0 + 1 := IntWalk.i64_in _ (by omega)
  by_cases g : nw0 + 1 ≤ t ∧ t ≤ 1000000000000
  case neg =>
    have hIn : Hid (∀ W, Calls Try.prog 59 #[.int .i64 t, .int .i64 (nw0 + 1), .int .i64 1000000000000] W fun e w' => e = .returned (.bool false) ∧ w' = W) := Lib.hid (fun W => by have := hIn.out W; rw [vIn_false g] at this; exact this)
    have HTF := Lib.hid (show ingB (nw0, kp, rp, ls) (t, v) = false from by rw [hTB, hc, decide_eq_false (fun h => g (show nw0 + 1 ≤ t ∧ t ≤ 1000000000000 by have : nw0 < t ∧ t ≤ 1000000000000 := h; omega))]; try rfl)
    clear hc hTB hIg hCr hKp
    clear g
    go_wp2_with fail
    refine (hIn.out _).mono ?_
    rintro e w2b ⟨rfl, rfl⟩
    go_wp2_with fail
    rw [HTN.out HTF.out, HTF.out]
    refine bodyPost_ret (v := .tuple #[.agg #[.int .i64 0, .int .i64 0, .slice none 0 0, .slice none 0 0], .bool false]) (by simp [results, Try.results16, go_sem, r0, r1, r2, r3]) rfl ⟨_, _, [], rfl, zC_cd _ _ _, ?_⟩
    repeat (first | with_reducible exact B2.out | refine Below.setCell ?_ (by simp; try omega) _)

  obtain ⟨g1', g2⟩ := g
  have g1 : nw0 < t := by omega
  have hIn : Hid (∀ W, Calls Try.prog 59 #[.int .i64 t, .int .i64 (nw0 + 1), .int .i64 1000000000000] W fun e w' => e = .returned (.bool true) ∧ w' = W) := Lib.hid (fun W => by have := hIn.out W; rw [vIn_true g1' g2] at this; exact this)
  cases hs : smB v with
  | false =>
    rw [hs] at hSm
    have HTF := Lib.hid (show ingB (nw0, kp, rp, ls) (t, v) = false from by rw [hTB, hc, hs, decide_eq_true (And.intro g1 g2)]; try rfl)
    clear hc hTB hIg hCr hKp
    clear hs
    go_wp2_with fail
    refine (hIn.out _).mono ?_
    rintro e w2a ⟨rfl, rfl⟩
    go_wp2_with fail
    refine (hSm.out _).mono ?_
    rintro e w2b ⟨rfl, rfl⟩
    go_wp2_with fail
    rw [HTN.out HTF.out, HTF.out]
    refine bodyPost_ret (v := .tuple #[.agg #[.int .i64 0, .int .i64 0, .slice none 0 0, .slice none 0 0], .bool false]) (by simp [results, Try.results16, go_sem, r0, r1, r2, r3]) rfl ⟨_, _, [], rfl, zC_cd _ _ _, ?_⟩
    repeat (first | with_reducible exact B2.out | refine Below.setCell ?_ (by simp; try omega) _)

  | true =>
  rw [hs] at hSm
  have hHB := Lib.hid (show ingB (nw0, kp, rp, ls) (t, v) = cascB (ingC (t, v) (nw0, kp, rp, ls)) from by rw [hTB, hc, hs, decide_eq_true (And.intro g1 g2)]; rfl)
  obtain ⟨hv1, hv2⟩ : -1000000000 ≤ v ∧ v ≤ 1000000000 := by unfold smB vIn at hs; exact decide_eq_true_iff.1 hs
  have hCR := Lib.hid (hCr.out hc (by show 0 ≤ t ∧ t ≤ 1000000000000; omega) (by show Rng v; unfold Rng; omega))
  have hvr : Rng v := ⟨by omega, by omega⟩
  have hIG := Lib.hid (fun W h => hIg.out W h hc g1 g2 hvr)
  clear hc hTB hKp hOk hIg hCr hs
  have ht0 : 0 ≤ t := by omega
  go_wp2_with fail
  refine (hIn.out _).mono ?_
  rintro e w2a ⟨rfl, rfl⟩
  go_wp2_with fail
  refine (hSm.out _).mono ?_
  rintro e w2b ⟨rfl, rfl⟩
  go_wp2_with fail
  refine (hIG.out _ ((HV.out.below B2.out).up B2.out.size)).mono ?_
  rintro e w3 ⟨rv6, lv6, es6, rfl, hcd, hb3⟩
  have S3 := hb3.size
  have R3 : Hid (BoxN w3 (w.heap.size + 2) #[.int .i64 0, .int .i64 0, .slice none 0 0, .slice none 0 0] 32) := Lib.hid (R2.out.below hb3)
  have B3 := Lib.hid (B2.out.trans (hb3.mono (by omega)))
  obtain ⟨m6, hm6⟩ : ∃ m6, (ingC (t, v) (nw0, kp, rp, ls)).2.2.1.length = m6 := ⟨_, rfl⟩
  obtain ⟨l6, hl6⟩ : ∃ l6, (ingC (t, v) (nw0, kp, rp, ls)).2.2.2.length = l6 := ⟨_, rfl⟩
  obtain ⟨pa6, pc6, rfl⟩ : ∃ a c, rv6 = .slice a m6 c := by rw [← hm6]; exact hcd.raw.shape
  obtain ⟨A3, c3, rfl⟩ : ∃ a c, lv6 = .slice a l6 c := by rw [← hl6]; exact hcd.lvl.row.shape
  have hq0 : (ingC (t, v) (nw0, kp, rp, ls)).1 = t := rfl
  have hq1 : (ingC (t, v) (nw0, kp, rp, ls)).2.1 = kp := rfl
  rw [hq0, hq1]
  obtain ⟨w6, hw4⟩ : ∃ w6, w3.alloc (.cells #[.int .i64 t, .int .i64 kp, .slice pa6 m6 pc6, .slice A3 l6 c3] 32) = w6 := ⟨_, rfl⟩
  have hb4 : Below w3.heap.size w3 w6 := by rw [← hw4]; exact (Below.refl _ _).alloc (Nat.le_refl _) _
  have hbx : BoxN w6 w3.heap.size #[.int .i64 t, .int .i64 kp, .slice pa6 m6 pc6, .slice A3 l6 c3] 32 := by rw [← hw4]; exact World.alloc_heap_new w3 _
  have R6 : Hid (BoxN w6 (w.heap.size + 2) #[.int .i64 0, .int .i64 0, .slice none 0 0, .slice none 0 0] 32) := Lib.hid (R3.out.below hb4)
  have S6 := hb4.size
  have B6 := Lib.hid (B3.out.trans (hb4.mono (by omega)))
  have hcd := hcd.below hb4
  have hc6 := Lib.hid (hOk2.out _ (ingC (t, v) (nw0, kp, rp, ls)) w6 (show CV w6 w6.heap.size (.agg #[.int .i64 t, .int .i64 kp, .slice pa6 m6 pc6, .slice A3 l6 c3]) _ from hcd.cv hCR.out))
  have HW4 := Lib.hid hw4
  have y0 := hbx.cell (i := 0) rfl
  have y1 := hbx.cell (i := 1) rfl
  have y2 := hbx.cell (i := 2) rfl
  have y3 := hbx.cell (i := 3) rfl
  have HBX := Lib.hid hbx
  have HCD := Lib.hid hcd
  clear hcd hbx hb4 hw4 hb3 R3 B3 R2 B2 X2 P2 x0 x1 x2 x3 p0 p1 r0 r1 r2 r3 f0 f1 f2 f3 hOk2 hCR hm6 hl6 hq0 hq1 hIG hIn hwr
  go_upto_region 4 with fail
  rw [HW4.out]
  clear HW4
  go_wp2_with fail
  refine hc6.out.mono ?_
  rintro e w7 ⟨rfl, hb7⟩
  have X7 : Hid (BoxN w7 w3.heap.size #[.int .i64 t, .int .i64 kp, .slice pa6 m6 pc6, .slice A3 l6 c3] 32) := Lib.hid (HBX.out.below hb7)
  have R7 : Hid (BoxN w7 (w.heap.size + 2) #[.int .i64 0, .int .i64 0, .slice none 0 0, .slice none 0 0] 32) := Lib.hid (R6.out.below hb7)
  have B7 := Lib.hid (B6.out.trans (hb7.mono (by omega)))
  have S7 := hb7.size
  have HCD7 := Lib.hid (HCD.out.below hb7)
  have y0 := X7.out.cell (i := 0) rfl
  have y1 := X7.out.cell (i := 1) rfl
  have y2 := X7.out.cell (i := 2) rfl
  have y3 := X7.out.cell (i := 3) rfl
  have r0 := R7.out.cell (i := 0) rfl
  have r1 := R7.out.cell (i := 1) rfl
  have r2 := R7.out.cell (i := 2) rfl
  have r3 := R7.out.cell (i := 3) rfl
  have f0 := R7.out.frozen (i := 0)
  have f1 := R7.out.frozen (i := 1)
  have f2 := R7.out.frozen (i := 2)
  have f3 := R7.out.frozen (i := 3)
  have hne1 : ¬ w3.heap.size = w.heap.size + 2 := by omega
  have hne2 : ¬ w.heap.size + 2 = w3.heap.size := by omega
  clear hb7 HCD R6 B6 HBX hc6 HV hSm
  cases hi : cascB (ingC (t, v) (nw0, kp, rp, ls)) with
  | false =>
    have HTF := Lib.hid (show ingB (nw0, kp, rp, ls) (t, v) = false from by rw [hHB.out, hi])
    clear hi hHB
    go_wp2_with fail
    rw [HTN.out HTF.out, HTF.out]
    refine bodyPost_ret (v := .tuple #[.agg #[.int .i64 0, .int .i64 0, .slice none 0 0, .slice none 0 0], .bool false]) (by simp [results, Try.results16, go_sem, r0, r1, r2, r3]) rfl ⟨_, _, [], rfl, zC_cd _ _ _, ?_⟩
    repeat (first | with_reducible exact B7.out | refine Below.setCell ?_ (by simp; try omega) _)
  | true =>
    have HTT := Lib.hid (show ingB (nw0, kp, rp, ls) (t, v) = true from by rw [hHB.out, hi])
    clear hi hHB
    go_wp2_with fail
    rw [HTY.out HTT.out, HTT.out]
    refine bodyPost_ret (v := .tuple #[.agg #[.int .i64 t, .int .i64 kp, .slice pa6 m6 pc6, .slice A3 l6 c3], .bool true]) (by simp [results, Try.results16, go_sem, r0, r1, r2, r3]) rfl ⟨.slice pa6 m6 pc6, .slice A3 l6 c3, es6, rfl, (CD.at_ (W := w7) HCD7.out (fun g hg => ?_)).lift (by omega) (by simp [World.setCell]; omega), ?_⟩
    · have hlo := (HCD7.out.lt hg).1
      repeat (first | with_reducible rfl | refine (Below.heap_setCell _ _ _ _ (by simp; omega)).trans ?_)
    · repeat (first | with_reducible exact B7.out | refine Below.setCell ?_ (by simp; try omega) _)
end Go.Proofs.Ytkekpkfhljankaa
