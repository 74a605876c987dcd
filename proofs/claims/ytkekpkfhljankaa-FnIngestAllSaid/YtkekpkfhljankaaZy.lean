/- Walks: IngestAll: the program. -/
import Derived.Test.YtkekpkfhljankaaZx
set_option linter.unusedVariables false
set_option linter.unusedSimpArgs false
namespace Go.Proofs.Ytkekpkfhljankaa
open Go.RowKit

set_option maxRecDepth 100000 in
set_option maxHeartbeats 8000000 in
theorem implIngestAll_any (cv pv : Value) (c : Cs) (ps : List (Int × Int)) (w : World) (h : CV w w.heap.size cv c) (hp : PL w w.heap.size pv ps) (hcap : ∃ A cap, pv = .slice A ps.length cap ∧ ps.length ≤ cap) :
    Calls Try.prog 26 #[cv, pv] w (IPost w.heap.size (allM c ps) (allI c ps) w) := by
  have HV := Lib.hid h
  have hOk := Lib.hid (fun W h => implCascadeOk_any cv c W h)
  have hCp := Lib.hid (fun W h => copied_any cv c W h)
  have hFw := Lib.hid (fun hc => (casc_smallS (c := c) hc).2.1)
  have hIg := Lib.hid (fun u cc t v W h => implIngest_any u cc t v W h)
  have HN := Lib.hid (fun h => all_no (c := c) (ps := ps) h)
  have HY := Lib.hid (fun k h hk => all_yes (c := c) (ps := ps) (k := k) h hk)
  have HEND := Lib.hid (fun k h hk => iaN_end (ps := ps) (c := c) (k := k) h hk)
  have HBAD := Lib.hid (fun k h hk hb => iaN_bad (ps := ps) (c := c) (k := k) h hk hb)
  have HSUC := Lib.hid (fun k hk => iaC_succ (ps := ps) c (k := k) hk)
  have HPV := Lib.hid (fun j : Nat => hp.1 j)
  obtain ⟨_, hpl, App, cpp, rfl, hpc⟩ := hp
  obtain ⟨Ac, capc, hce, hcap⟩ := hcap
  injection hce with hc1 hc2 hc3
  subst hc1 hc3
  clear hc2
  have HC := Lib.hid h
  obtain ⟨rv, lv, rfl, hP, hL, z1, z2⟩ := h
  obtain ⟨z3, hpl2, Ap, cp, rfl, z4⟩ := hP
  obtain ⟨z5, hll, Al, cl, rfl, z6⟩ := hL
  clear z1 z2 z3 z4 z5 z6
  obtain ⟨n0, hn0⟩ : ∃ n0, c.2.2.1.length = n0 := ⟨_, rfl⟩
  obtain ⟨m0, hm0⟩ : ∃ m0, c.2.2.2.length = m0 := ⟨_, rfl⟩
  have HN0 := Lib.hid hn0
  have HM0 := Lib.hid hm0
  rw [hn0, hm0] at HV hOk hCp
  rw [hn0, hm0]
  clear hn0 hm0
  have hP0 := Lib.hid (show ps.length ≤ 1048576 from hpl)
  obtain ⟨w1, hw1⟩ : ∃ w1, (w.alloc (.cells #[.int .i64 c.1, .int .i64 c.2.1, .slice Ap n0 cp, .slice Al m0 cl] 32)).alloc (.cells #[.int .i64 0, .int .i64 0, .slice none 0 0, .slice none 0 0] 32) = w1 := ⟨_, rfl⟩
  have B1 := Lib.hid (show Below w.heap.size w w1 from by rw [← hw1]; exact ((Below.refl _ w).alloc (Nat.le_refl _) _).alloc (by simp) _)
  have X1 : Hid (BoxN w1 w.heap.size #[.int .i64 c.1, .int .i64 c.2.1, .slice Ap n0 cp, .slice Al m0 cl] 32) := Lib.hid (by
    have h := World.alloc_heap_new w (.cells #[.int .i64 c.1, .int .i64 c.2.1, .slice Ap n0 cp, .slice Al m0 cl] 32)
    rw [← hw1]
    exact (Below.heap_alloc _ _ _ (by simp)).trans h)
  have R1 : Hid (BoxN w1 (w.heap.size + 1) #[.int .i64 0, .int .i64 0, .slice none 0 0, .slice none 0 0] 32) := Lib.hid (by
    have h := World.alloc_heap_new (w.alloc (.cells #[.int .i64 c.1, .int .i64 c.2.1, .slice Ap n0 cp, .slice Al m0 cl] 32)) (.cells #[.int .i64 0, .int .i64 0, .slice none 0 0, .slice none 0 0] 32)
    rw [World.size_alloc] at h
    rw [← hw1]; exact h)
  have S1 : w.heap.size + 2 ≤ w1.heap.size := by rw [← hw1]; simp
  have HW1 := Lib.hid hw1
  clear hw1
  have x0 := X1.out.cell (i := 0) rfl
  have x1 := X1.out.cell (i := 1) rfl
  have x2 := X1.out.cell (i := 2) rfl
  have x3 := X1.out.cell (i := 3) rfl
  go_enter Try.func26, Try.ntmps26
  go_wp2_with fail
  rw [HW1.out]
  go_wp2_with fail
  refine (hOk.out _ ((HV.out.below B1.out).up B1.out.size)).mono ?_
  rintro e w2 ⟨rfl, hb2⟩
  have X2 : Hid (BoxN w2 w.heap.size #[.int .i64 c.1, .int .i64 c.2.1, .slice Ap n0 cp, .slice Al m0 cl] 32) := Lib.hid (X1.out.below hb2)
  have R2 : Hid (BoxN w2 (w.heap.size + 1) #[.int .i64 0, .int .i64 0, .slice none 0 0, .slice none 0 0] 32) := Lib.hid (R1.out.below hb2)
  have S2 := hb2.size
  have B2 := Lib.hid (B1.out.trans (hb2.mono (by omega)))
  clear x0 x1 x2 x3 hb2 X1 R1 B1
  have x0 := X2.out.cell (i := 0) rfl
  have x1 := X2.out.cell (i := 1) rfl
  have x2 := X2.out.cell (i := 2) rfl
  have x3 := X2.out.cell (i := 3) rfl
  cases hc : cascB c with
  | false =>
    have r0 := R2.out.cell (i := 0) rfl
    have r1 := R2.out.cell (i := 1) rfl
    have r2 := R2.out.cell (i := 2) rfl
    have r3 := R2.out.cell (i := 3) rfl
    have f0 := R2.out.frozen (i := 0)
    have f1 := R2.out.frozen (i := 1)
    have f2 := R2.out.frozen (i := 2)
    have f3 := R2.out.frozen (i := 3)
    have HTF := Lib.hid (HN.out hc)
    clear hc
    go_wp2_with fail
    rw [HTF.out.1, HTF.out.2]
    refine bodyPost_ret (v := .tuple #[.agg #[.int .i64 0, .int .i64 0, .slice none 0 0, .slice none 0 0], .int .i64 (-1)]) (by simp [results, Try.results26, go_sem, r0, r1, r2, r3]) rfl ⟨_, _, [], rfl, zC_cd _ _ _, ?_⟩
    repeat (first | with_reducible exact B2.out | refine Below.setCell ?_ (by simp; try omega) _)
  | true =>
  have hfew : m0 ≤ 4 := by have h1 := hFw.out hc; have h2 := HM0.out; omega
  have HCB := Lib.hid hc
  clear hc
  go_wp2_with fail
  refine (hCp.out _ ((HV.out.below B2.out).up B2.out.size)).mono ?_
  rintro e w3 ⟨rv3, lv3, es3, rfl, hcd3, hb3⟩
  have S3 := hb3.size
  obtain ⟨pa, pc, rfl⟩ := hcd3.raw.shape
  obtain ⟨A3, c3, rfl⟩ := hcd3.lvl.row.shape
  rw [HN0.out, HM0.out] at hcd3 ⊢
  obtain ⟨w4, hw4⟩ : ∃ w4, w3.alloc (.cells #[.int .i64 c.1, .int .i64 c.2.1, .slice pa n0 pc, .slice A3 m0 c3] 32) = w4 := ⟨_, rfl⟩
  obtain ⟨ob, hob⟩ : ∃ ob, w3.heap.size = ob := ⟨_, rfl⟩
  have hb4 : Below w3.heap.size w3 w4 := by rw [← hw4]; exact (Below.refl _ _).alloc (Nat.le_refl _) _
  have X4 : BoxN w4 ob #[.int .i64 c.1, .int .i64 c.2.1, .slice pa n0 pc, .slice A3 m0 c3] 32 := by rw [← hob, ← hw4]; exact World.alloc_heap_new w3 _
  have B4 := Lib.hid (show Below w2.heap.size w2 w4 from hb3.trans (hb4.mono S3))
  have S4 := hb4.size
  have HX4 := Lib.hid X4
  have HD4 := Lib.hid (hcd3.below hb4)
  have HW4 := Lib.hid hw4
  have HOB := Lib.hid hob
  have hob2 : w2.heap.size ≤ ob := by omega
  have hob3 : w3.heap.size ≤ ob := by omega
  clear hw4 hob X4 hb4 hcd3 hb3 x0 x1 x2 x3 hCp hOk hFw
  have HPP := Lib.hid hpc
  clear hpc
  have hplr := hP0.out
  go_upto_region 4 with fail
  rw [HW4.out, HOB.out]
  obtain ⟨M, hM⟩ : ∃ M, M = min ps.length 200 := ⟨_, rfl⟩
  have hM1 : M ≤ ps.length := by omega
  have hM2 : M ≤ 200 := by omega
  have hMc : (M : Int) ≤ (cpp : Int) := by omega
  have hMm : min (ps.length : Int) 200 = (M : Int) := by omega
  have HMM := Lib.hid hM
  clear hM
  go_upto_region 5 with fail
  go_cut [22, 23, 24] (fun s1 s2 s3 wx => s1 = .slice App M cpp ∧ s2 = .int .i64 (M : Int) ∧ s3 = .int .i64 0 ∧ wx = w4)
  case first =>
    by_cases hl : (ps.length : Int) < 200
    · have e1 : (M : Int) = (ps.length : Int) := by have := HMM.out; omega
      have e2 : M = ps.length := by omega
      subst e2
      clear e1
      go_wp2_with fail
      all_goals
        go_meet
        case rel => first | exact ⟨rfl, rfl, rfl, rfl⟩ | exact ⟨by congr 1 <;> omega, by congr 1; omega, rfl, rfl⟩
    · have e2 : M = 200 := by have := HMM.out; omega
      subst e2
      have hl2 : (200 : Int) ≤ (ps.length : Int) := by omega
      go_wp2_with fail
      all_goals
        go_meet
        case rel => first | exact ⟨rfl, rfl, rfl, rfl⟩ | (have e3 : ps.length = 200 := by omega
                                                          exact ⟨by rw [e3], by rw [e3], rfl, rfl⟩)
  case rest =>
  obtain ⟨rfl, rfl, rfl, rfl⟩ := hcut
  go_wp2_with fail
  go_loopw [7, 24] (fun i i2 wr => ∃ (k : Nat) (ra : Option Addr) (n rc : Nat) (la : Option Addr) (m lc : Nat) (es : List LvC) (lo hi : Nat), k ≤ M ∧ i = .int .i64 (k : Int) ∧ i2 = .int .i64 (k : Int) ∧ Hid (BoxN wr ob #[.int .i64 (iaC ps c k).1, .int .i64 (iaC ps c k).2.1, .slice ra n rc, .slice la m lc] 32) ∧ Hid (CD wr lo hi (iaC ps c k) (.slice ra n rc) (.slice la m lc) es) ∧ Hid (Below w2.heap.size w2 wr) ∧ w2.heap.size ≤ lo ∧ hi ≤ wr.heap.size ∧ (ob < lo ∨ hi ≤ ob) ∧ Hid (∀ j, j < k → iaOk ps c j = true) ∧ Hid (cascB (iaC ps c k) = true))
    (fun i _ _ => M - (intOf i).toNat)
  case atStart => exact ⟨0, pa, n0, pc, A3, m0, c3, es3, _, _, Nat.zero_le _, rfl, rfl, HX4, HD4, B4, Nat.le_refl _, S4, .inr hob3, Lib.hid (fun j hj => by omega), HCB⟩
  case round =>
    obtain ⟨k, ra, n, rc, la, m, lc, es, lo, hi, hk1, rfl, rfl, HX, HD, HB, q1, q2, q3, HAL, HCK⟩ := hrel
    have hsz := HB.out.size
    by_cases hlt : k < M
    · have hlt1 : k < ps.length := by omega
      have hltI : (k : Int) < (M : Int) := by omega
      rcases HPP.out with h3 | ⟨b, off, rfl, hbl, hcl⟩
      · subst h3; simp at hlt1
      have d0 := ((B2.out.trans (HB.out.mono (by omega))).cell (p := ⟨b, off + k * 2, none⟩) hbl).trans (hcl k hlt1).1
      have d1 := ((B2.out.trans (HB.out.mono (by omega))).cell (p := ⟨b, off + k * 2 + 1, none⟩) hbl).trans (hcl k hlt1).2
      clear hcl
      have hbr : b < wr.heap.size := by omega
      obtain ⟨ck, hck⟩ : ∃ ck, (iaC ps c k) = ck := ⟨_, rfl⟩
      obtain ⟨t, v, hpk⟩ : ∃ t v, (ps.getD k (0, 0)) = (t, v) := ⟨_, _, rfl⟩
      rw [hpk] at d0 d1
      simp only at d0 d1
      rw [hck] at HX HD HCK
      have hsu := HSUC.out k hlt1
      have hbd := HBAD.out k HAL.out (by have := HMM.out; omega)
      have hok : iaOk ps c k = ingB ck (t, v) := by unfold iaOk; rw [hck, hpk]
      rw [hck, hpk] at hsu
      rw [hok] at hbd
      have HSU := Lib.hid hsu
      have HBD := Lib.hid hbd
      have HOKK := Lib.hid hok
      have HCKE := Lib.hid hck
      clear hck hpk hsu hbd hok
      have HCR := Lib.hid (cascB_cr HCK.out)
      obtain ⟨wp, hwp⟩ : ∃ wp, wr.alloc (.cells #[.int .i64 t, .int .i64 v] 36) = wp := ⟨_, rfl⟩
      have Bp : Below wr.heap.size wr wp := by rw [← hwp]; exact (Below.refl _ _).alloc (Nat.le_refl _) _
      have Pp : BoxN wp wr.heap.size #[.int .i64 t, .int .i64 v] 36 := by rw [← hwp]; exact World.alloc_heap_new wr _
      have Xp : BoxN wp ob #[.int .i64 ck.1, .int .i64 ck.2.1, .slice ra n rc, .slice la m lc] 32 := (Bp.block _ HX.out.lt).trans HX.out
      have Sp : wr.heap.size < wp.heap.size := Pp.lt
      have HCVp := Lib.hid (show CV wp wp.heap.size (.agg #[.int .i64 ck.1, .int .i64 ck.2.1, .slice ra n rc, .slice la m lc]) ck from (HD.out.below Bp).cv HCR.out)
      have u0 := Xp.cell (i := 0) rfl
      have u1 := Xp.cell (i := 1) rfl
      have u2 := Xp.cell (i := 2) rfl
      have u3 := Xp.cell (i := 3) rfl
      have p0 := Pp.cell (i := 0) rfl
      have p1 := Pp.cell (i := 1) rfl
      have HWp := Lib.hid hwp
      have HBp := Lib.hid Bp
      clear hwp Bp Pp Xp
      go_upto_region 8 with fail
      rw [HWp.out]
      clear d0 d1
      go_wp2_with fail
      refine (hIg.out _ ck t v _ HCVp.out).mono ?_
      rintro e w3 ⟨rv3, lv3, esq, rfl, hd3, hb3⟩
      obtain ⟨ra8, rc8, hra⟩ := hd3.raw.shape
      obtain ⟨la8, lc8, hla⟩ := hd3.lvl.row.shape
      obtain ⟨n8, hn8⟩ : ∃ n8, (ingM ck (t, v)).2.2.1.length = n8 := ⟨_, rfl⟩
      obtain ⟨m8, hm8⟩ : ∃ m8, (ingM ck (t, v)).2.2.2.length = m8 := ⟨_, rfl⟩
      rw [hn8] at hra
      rw [hm8] at hla
      subst hra hla
      clear hn8 hm8
      obtain ⟨w5, hw5⟩ : ∃ w5, w3.alloc (.cells #[.int .i64 (ingM ck (t, v)).1, .int .i64 (ingM ck (t, v)).2.1, .slice ra8 n8 rc8, .slice la8 m8 lc8] 32) = w5 := ⟨_, rfl⟩
      obtain ⟨ob8, hob8⟩ : ∃ ob8, w3.heap.size = ob8 := ⟨_, rfl⟩
      have hb5 : Below w3.heap.size w3 w5 := by rw [← hw5]; exact (Below.refl _ _).alloc (Nat.le_refl _) _
      have hbx : BoxN w5 ob8 #[.int .i64 (ingM ck (t, v)).1, .int .i64 (ingM ck (t, v)).2.1, .slice ra8 n8 rc8, .slice la8 m8 lc8] 32 := by rw [← hob8, ← hw5]; exact World.alloc_heap_new w3 _
      have hbe : Below wr.heap.size wr w5 := (HBp.out.trans (hb3.mono (by omega))).trans (hb5.mono (by have := hb3.size; omega))
      have hcd := hd3.below hb5
      obtain ⟨lo8, hlo8⟩ : ∃ lo8, wp.heap.size = lo8 := ⟨_, rfl⟩
      obtain ⟨es8, hes8⟩ : ∃ es8, esq = es8 := ⟨_, rfl⟩
      rw [hob8, hlo8, hes8] at hcd
      have g1 : wr.heap.size ≤ lo8 := by omega
      have g3 : wr.heap.size ≤ ob8 := by have := hb3.size; omega
      have g4 : ob8 < lo8 ∨ ob8 ≤ ob8 := .inr (Nat.le_refl _)
      have g2 : ob8 ≤ w5.heap.size := by have := hbx.lt; omega
      have HW5 := Lib.hid hw5
      have HOB8 := Lib.hid hob8
      clear hw5 hob8 hb5 hd3 hb3 hlo8 hes8 u0 u1 u2 u3 p0 p1
      go_upto_region 9 with fail
      rw [HW5.out, HOB8.out]
      clear HW5 HOB8
      have S5 := hbe.size
      have X5 : BoxN w5 ob #[.int .i64 ck.1, .int .i64 ck.2.1, .slice ra n rc, .slice la m lc] 32 := (hbe.block _ HX.out.lt).trans HX.out
      have B5 := Lib.hid (HB.out.trans (hbe.mono hsz))
      have hobw := HX.out.lt
      cases hi5 : ingB ck (t, v) with
      | false =>
        have R5 : BoxN w5 (w.heap.size + 1) #[.int .i64 0, .int .i64 0, .slice none 0 0, .slice none 0 0] 32 := (B5.out.block _ (by have := R2.out.lt; omega)).trans R2.out
        have r0 := BoxN.cell (i := 0) R5 rfl
        have r1 := BoxN.cell (i := 1) R5 rfl
        have r2 := BoxN.cell (i := 2) R5 rfl
        have r3 := BoxN.cell (i := 3) R5 rfl
        have f0 := BoxN.frozen (i := 0) R5
        have f1 := BoxN.frozen (i := 1) R5
        have f2 := BoxN.frozen (i := 2) R5
        have f3 := BoxN.frozen (i := 3) R5
        have y0 := BoxN.cell (i := 0) X5 rfl
        have y1 := BoxN.cell (i := 1) X5 rfl
        have y2 := BoxN.cell (i := 2) X5 rfl
        have y3 := BoxN.cell (i := 3) X5 rfl
        have HYE := Lib.hid (HY.out k HCB.out (HBD.out hi5))
        have hne1 : ¬ ob = w.heap.size + 1 := by omega
        have hne2 : ¬ w.heap.size + 1 = ob := by omega
        have D5 := Lib.hid (HD.out.at_ (W' := w5) (fun g hg => hbe.block g (by have := (HD.out.lt hg).2.2; omega)))
        have HBf := Lib.hid (B2.out.trans (B5.out.mono (by omega)))
        clear hi5 hbx hcd hbe X5 R5
        go_wp2_with fail
        rw [HYE.out.1, HYE.out.2, HCKE.out]
        refine bodyPost_ret (v := .tuple #[.agg #[.int .i64 ck.1, .int .i64 ck.2.1, .slice ra n rc, .slice la m lc], .int .i64 (k : Int)]) (by simp [results, Try.results26, go_sem, r0, r1, r2, r3]) rfl ⟨.slice ra n rc, .slice la m lc, es, rfl, (CD.set4n D5.out (.inl (by omega)) _ _ _ _).lift (by omega) (by simp [World.setCell]; omega), ?_⟩
        repeat (first | with_reducible exact HBf.out | refine Below.setCell ?_ (by simp; try omega) _)
      | true =>
        have hM := Lib.hid (ingM_yes hi5)
        have y0 := BoxN.cell (i := 0) hbx rfl
        have y1 := BoxN.cell (i := 1) hbx rfl
        have y2 := BoxN.cell (i := 2) hbx rfl
        have y3 := BoxN.cell (i := 3) hbx rfl
        have x0 := BoxN.cell (i := 0) X5 rfl
        have x1 := BoxN.cell (i := 1) X5 rfl
        have x2 := BoxN.cell (i := 2) X5 rfl
        have x3 := BoxN.cell (i := 3) X5 rfl
        have f0 := BoxN.frozen (i := 0) X5
        have f1 := BoxN.frozen (i := 1) X5
        have f2 := BoxN.frozen (i := 2) X5
        have f3 := BoxN.frozen (i := 3) X5
        have hne1 : ¬ ob = ob8 := by omega
        have hne2 : ¬ ob8 = ob := by omega
        have HCD8 := Lib.hid hcd
        have HX5 := Lib.hid X5
        have HOK8 := Lib.hid hi5
        clear hbx hcd X5 hi5 hbe
        go_wp2_with fail
        go_roundw
        case rel =>
          refine ⟨k + 1, ra8, n8, rc8, la8, m8, lc8, es8, lo8, ob8, by omega, by go_num, by go_num, ?_, ?_, ?_, by omega, by simp [World.setCell]; omega, .inl (by omega), ?_, ?_⟩
          · rw [HSU.out, ← hM.out]; exact Lib.hid (BoxN.set4 HX5.out _ _ _ _)
          · rw [HSU.out, ← hM.out]; exact Lib.hid (CD.set4n HCD8.out (.inl (by omega)) _ _ _ _)
          · exact Lib.hid (KSP.set4 B5.out hob2 _ _ _ _)
          · exact Lib.hid (fun j hj => by
              by_cases e : j = k
              · rw [e, HOKK.out]; exact HOK8.out
              · exact HAL.out j (by omega))
          · rw [HSU.out]; exact Lib.hid (ingB_casc HOK8.out)
        case measure => simp [intOf]; omega
    · have hR : BoxN wr (w.heap.size + 1) #[.int .i64 0, .int .i64 0, .slice none 0 0, .slice none 0 0] 32 := (HB.out.block _ (by have := R2.out.lt; omega)).trans R2.out
      have hkm : k = min ps.length 200 := by have := HMM.out; omega
      have HYE := Lib.hid (HY.out k HCB.out (HEND.out k HAL.out hkm))
      have HKM := Lib.hid hkm
      have hobw := HX.out.lt
      have r0 := BoxN.cell (i := 0) hR rfl
      have r1 := BoxN.cell (i := 1) hR rfl
      have r2 := BoxN.cell (i := 2) hR rfl
      have r3 := BoxN.cell (i := 3) hR rfl
      have f0 := BoxN.frozen (i := 0) hR
      have f1 := BoxN.frozen (i := 1) hR
      have f2 := BoxN.frozen (i := 2) hR
      have f3 := BoxN.frozen (i := 3) hR
      have y0 := BoxN.cell (i := 0) HX.out rfl
      have y1 := BoxN.cell (i := 1) HX.out rfl
      have y2 := BoxN.cell (i := 2) HX.out rfl
      have y3 := BoxN.cell (i := 3) HX.out rfl
      have hne1 : ¬ ob = w.heap.size + 1 := by omega
      have hne2 : ¬ w.heap.size + 1 = ob := by omega
      have HBf := Lib.hid (B2.out.trans (HB.out.mono (by omega)))
      clear hR hkm
      have h2 : ¬ (k : Int) < (M : Int) := by omega
      clear hlt
      go_wp2_with fail
      rw [HYE.out.1, HYE.out.2]
      refine bodyPost_ret (v := .tuple #[.agg #[.int .i64 (iaC ps c k).1, .int .i64 (iaC ps c k).2.1, .slice ra n rc, .slice la m lc], .int .i64 (k : Int)]) (by simp [results, Try.results26, go_sem, r0, r1, r2, r3]) rfl ⟨.slice ra n rc, .slice la m lc, es, rfl, (CD.set4n HD.out (.inl (by omega)) _ _ _ _).lift (by omega) (by simp [World.setCell]; omega), ?_⟩
      repeat (first | with_reducible exact HBf.out | refine Below.setCell ?_ (by simp; try omega) _)
end Go.Proofs.Ytkekpkfhljankaa
