/- Walks: Ingest: the program. -/
import Derived.Test.YtkekpkfhljankaaZm
import Derived.Test.YtkekpkfhljankaaZn
set_option linter.unusedVariables false
set_option linter.unusedSimpArgs false
namespace Go.Proofs.Ytkekpkfhljankaa
open Go.RowKit

theorem addLvI_eq {p : Int × Int} {x : Lv} (hW : 1 ≤ x.1) (h : x.2.2.length = 0 ∨ (lastR x.2.2).1 ≤ (winR x.1 (p.1, 1, p.2, p.2, p.2, p.2)).1) : addLvI p x = addLv p x := by
  unfold addLvI addLv
  rw [addI_eq h]
  have e : winR x.1 (p.1, 1, p.2, p.2, p.2, p.2) = oneR x.1 p := by
    unfold winR oneR
    have := Int.mul_ediv_add_emod p.1 x.1
    rw [Int.mul_comm] at this
    show (p.1 - p.1 % x.1, _) = (p.1 / x.1 * x.1, _)
    rw [show p.1 - p.1 % x.1 = p.1 / x.1 * x.1 by omega]
  rw [e]
theorem casc_small {c : Cs} (h : cascB c = true) : c.2.2.1.length ≤ 120 ∧ c.2.2.2.length ≤ 4 ∧ ∀ j, j < c.2.2.2.length → 1 ≤ (c.2.2.2.getD j zLv).1 ∧ (c.2.2.2.getD j zLv).2.2.length ≤ 400 := by
  unfold cascB at h
  rw [Bool.and_eq_true, Bool.and_eq_true] at h
  obtain ⟨h1, h2, h3, h4⟩ := headB_in h.1
  refine ⟨?_, by omega, fun j hj => ?_⟩
  · unfold ptsSmB at h3
    rw [Bool.and_eq_true] at h3
    have := (timesOkB_rng (show timesOkB (c.2.2.1.map Prod.fst) = true from h3.2)).1
    rwa [List.length_map] at this
  · have hl := lvsB_at h.2.2 j hj
    generalize (if j = 0 then (1 : Int) else (c.2.2.2.getD (j - 1) zLv).1) = w0 at hl
    generalize (if j = 0 then c.2.1 else (c.2.2.2.getD (j - 1) zLv).2.1) = k0 at hl
    generalize c.2.2.2.getD j zLv = x at *
    unfold lvB at hl
    rw [Bool.and_eq_true, Bool.and_eq_true] at hl
    obtain ⟨a, b, _⟩ := rollsOkB_in hl.2.1
    exact ⟨b.1, a⟩
theorem ing_eq {c : Cs} {p : Int × Int} (h : cascB c = true) (hp : c.1 < p.1) : dropC p.1 (c.1, c.2.1, c.2.2.1 ++ [p], c.2.2.2.map (addLvI p)) = ingC p c := by
  have e : c.2.2.2.map (addLvI p) = c.2.2.2.map (addLv p) := by
    refine List.map_congr_left (fun x hx => ?_)
    obtain ⟨j, hj, rfl⟩ := List.getElem_of_mem hx
    have e1 : c.2.2.2.getD j zLv = c.2.2.2[j] := by simp [List.getD_eq_getElem?_getD, hj]
    have h1 := (casc_small h).2.2 j hj
    have h2 := casc_last h hp hj (p.1, 1, p.2, p.2, p.2, p.2) rfl
    rw [e1] at h1 h2
    exact addLvI_eq h1.1 h2
  unfold ingC addC
  rw [e]
  rfl
theorem addI_mem {W : Int} {xs : List R6} {x r : R6} (h : r ∈ addI W xs x) : r.1 = (winR W x).1 ∨ ∃ r' ∈ xs, r.1 = r'.1 := by
  unfold addI at h
  split at h
  · rw [List.mem_append] at h
    rcases h with h | h
    · exact .inr ⟨r, h, rfl⟩
    · rw [List.mem_singleton] at h; subst h; exact .inl rfl
  · rename_i hc
    have h0 : ¬ xs.length = 0 := fun e => hc (.inl e)
    rcases List.mem_or_eq_of_mem_set h with h | h
    · exact .inr ⟨r, h, rfl⟩
    · subst h
      refine .inr ⟨lastR xs, ?_, rfl⟩
      show xs.getD (xs.length - 1) z6 ∈ xs
      rw [List.getD_eq_getElem?_getD, List.getElem?_eq_getElem (by omega)]
      exact List.getElem_mem _
theorem ing_adv {c : Cs} {p : Int × Int} (h : cascB c = true) (hp : c.1 < p.1) (h0 : 0 ≤ p.1) : ∀ j, j < (c.2.2.2.map (addLvI p)).length → (1 ≤ ((c.2.2.2.map (addLvI p)).getD j zLv).1 ∧ ((c.2.2.2.map (addLvI p)).getD j zLv).1 ≤ 1000000) ∧ (0 ≤ ((c.2.2.2.map (addLvI p)).getD j zLv).2.1 ∧ ((c.2.2.2.map (addLvI p)).getD j zLv).2.1 ≤ 1000000000) ∧ ((c.2.2.2.map (addLvI p)).getD j zLv).2.2.length ≤ 1048576 ∧ ∀ r ∈ ((c.2.2.2.map (addLvI p)).getD j zLv).2.2, 0 ≤ r.1 ∧ r.1 ≤ p.1 := by
  intro j hj
  rw [List.length_map] at hj
  have hg : (c.2.2.2.map (addLvI p)).getD j zLv = addLvI p (c.2.2.2.getD j zLv) := by simp [List.getD_eq_getElem?_getD, hj]
  rw [hg]
  have a := casc_adv h p.1 (by omega) j hj
  have b := (casc_small h).2.2 j hj
  generalize c.2.2.2.getD j zLv = x at a b
  have hl := addI_len x.1 x.2.2 (p.1, 1, p.2, p.2, p.2, p.2)
  refine ⟨a.1, a.2.1, by show (addI _ _ _).length ≤ _; omega, fun r hr => ?_⟩
  rcases addI_mem hr with e | ⟨r', hr', e⟩
  · rw [e]
    show 0 ≤ p.1 - p.1 % x.1 ∧ p.1 - p.1 % x.1 ≤ p.1
    have e1 := Int.emod_nonneg p.1 (show x.1 ≠ 0 by omega)
    have e2 := Int.mul_nonneg (Int.ediv_nonneg h0 (show 0 ≤ x.1 by omega)) (show 0 ≤ x.1 by omega)
    have e3 := Int.mul_ediv_add_emod p.1 x.1
    rw [Int.mul_comm] at e3
    omega
  · rw [e]; exact a.2.2.2 r' hr'

set_option maxRecDepth 100000 in
set_option maxHeartbeats 8000000 in
theorem implIngest_any (cv : Value) (c : Cs) (t v : Int) (w : World) (h : CV w w.heap.size cv c) :
    Calls Try.prog 19 #[cv, .agg #[.int .i64 t, .int .i64 v]] w (NPost w.heap.size (ingM c (t, v)) (ingB c (t, v)) w) := by
  have HV := Lib.hid h
  have hOk := Lib.hid (fun W h => implCascadeOk_any cv c W h)
  have hOk2 := Lib.hid (fun v c W h => implCascadeOk_any v c W h)
  have hCp := Lib.hid (fun W h => copiedO_any cv c W h)
  have hSm := Lib.hid (fun W => isSmall_any v W)
  have hAdv := Lib.hid (fun hc hn h0 => ing_adv (c := c) (p := (t, v)) hc hn h0)
  have hEq := Lib.hid (fun hc hn => ing_eq (c := c) (p := (t, v)) hc hn)
  have hSz := Lib.hid (fun hc => casc_small (c := c) hc)
  have hCr := Lib.hid (fun hc hp hv => ingC_cr (c := c) (p := (t, v)) hc hp hv)
  have hKp := Lib.hid (fun hc => cascB_keep (c := c) hc)
  have hTB : ingB c (t, v) = ((cascB c && (decide (c.1 < t ∧ t ≤ 1000000000000) && smB v)) && cascB (ingC (t, v) c)) := rfl
  have HTN := Lib.hid (ingM_no (c := c) (p := (t, v)))
  have HTY := Lib.hid (ingM_yes (c := c) (p := (t, v)))
  obtain ⟨nw0, kp, rp, ls⟩ := c
  obtain ⟨rv, lv, rfl, hP, hL, z1, z2⟩ := h
  simp only at hP hL
  obtain ⟨z3, hpl, Ap, cp, rfl, z4⟩ := hP
  obtain ⟨z5, hll, Al, cl, rfl, z6⟩ := hL
  clear z1 z2 z3 z4 z5 z6
  obtain ⟨w1, hw1⟩ : ∃ w1, ((w.alloc (.cells #[.int .i64 nw0, .int .i64 kp, .slice Ap rp.length cp, .slice Al ls.length cl] 32)).alloc (.cells #[.int .i64 t, .int .i64 v] 36)).alloc (.cells #[.int .i64 0, .int .i64 0, .slice none 0 0, .slice none 0 0] 32) = w1 := ⟨_, rfl⟩
  have B1 := Lib.hid (show Below w.heap.size w w1 from by rw [← hw1]; exact (((Below.refl _ w).alloc (Nat.le_refl _) _).alloc (by simp) _).alloc (by simp; omega) _)
  have X1 : Hid (BoxN w1 w.heap.size #[.int .i64 nw0, .int .i64 kp, .slice Ap rp.length cp, .slice Al ls.length cl] 32) := Lib.hid (by
    have h := World.alloc_heap_new w (.cells #[.int .i64 nw0, .int .i64 kp, .slice Ap rp.length cp, .slice Al ls.length cl] 32)
    rw [← hw1]
    exact (Below.heap_alloc _ _ _ (by simp; omega)).trans ((Below.heap_alloc _ _ _ (by simp)).trans h))
  have P1 : Hid (BoxN w1 (w.heap.size + 1) #[.int .i64 t, .int .i64 v] 36) := Lib.hid (by
    have h := World.alloc_heap_new (w.alloc (.cells #[.int .i64 nw0, .int .i64 kp, .slice Ap rp.length cp, .slice Al ls.length cl] 32)) (.cells #[.int .i64 t, .int .i64 v] 36)
    rw [World.size_alloc] at h
    rw [← hw1]
    exact (Below.heap_alloc _ _ _ (by simp)).trans h)
  have R1 : Hid (BoxN w1 (w.heap.size + 2) #[.int .i64 0, .int .i64 0, .slice none 0 0, .slice none 0 0] 32) := Lib.hid (by
    have h := World.alloc_heap_new ((w.alloc (.cells #[.int .i64 nw0, .int .i64 kp, .slice Ap rp.length cp, .slice Al ls.length cl] 32)).alloc (.cells #[.int .i64 t, .int .i64 v] 36)) (.cells #[.int .i64 0, .int .i64 0, .slice none 0 0, .slice none 0 0] 32)
    rw [World.size_alloc, World.size_alloc] at h
    rw [← hw1]; exact h)
  have S1 : w.heap.size + 3 ≤ w1.heap.size := by rw [← hw1]; simp
  have HW1 := Lib.hid hw1
  clear hw1
  have x0 := X1.out.cell (i := 0) rfl
  have x1 := X1.out.cell (i := 1) rfl
  have x2 := X1.out.cell (i := 2) rfl
  have x3 := X1.out.cell (i := 3) rfl
  go_enter Try.func19, Try.ntmps19
  go_wp2_with fail
  rw [HW1.out]
  go_wp2_with fail
  refine (hOk.out _ ((HV.out.below B1.out).up B1.out.size)).mono ?_
  rintro e w2 ⟨rfl, hb2⟩
  have X2 : Hid (BoxN w2 w.heap.size #[.int .i64 nw0, .int .i64 kp, .slice Ap rp.length cp, .slice Al ls.length cl] 32) := Lib.hid (X1.out.below hb2)
  have P2 : Hid (BoxN w2 (w.heap.size + 1) #[.int .i64 t, .int .i64 v] 36) := Lib.hid (P1.out.below hb2)
  have R2 : Hid (BoxN w2 (w.heap.size + 2) #[.int .i64 0, .int .i64 0, .slice none 0 0, .slice none 0 0] 32) := Lib.hid (R1.out.below hb2)
  have S2 := hb2.size
  have B2 := Lib.hid (B1.out.trans (hb2.mono (by omega)))
  clear x0 x1 x2 x3 hb2 X1 R1 B1 P1
  have x0 := X2.out.cell (i := 0) rfl
  have x1 := X2.out.cell (i := 1) rfl
  have x2 := X2.out.cell (i := 2) rfl
  have x3 := X2.out.cell (i := 3) rfl
  have p0 := P2.out.cell (i := 0) rfl
  have p1 := P2.out.cell (i := 1) rfl
  have r0 := R2.out.cell (i := 0) rfl
  have r1 := R2.out.cell (i := 1) rfl
  have r2 := R2.out.cell (i := 2) rfl
  have r3 := R2.out.cell (i := 3) rfl
  have f0 := R2.out.frozen (i := 0)
  have f1 := R2.out.frozen (i := 1)
  have f2 := R2.out.frozen (i := 2)
  have f3 := R2.out.frozen (i := 3)

  cases hc : cascB (nw0, kp, rp, ls) with
  | false =>
    have HTF := Lib.hid (show ingB (nw0, kp, rp, ls) (t, v) = false from by rw [hTB, hc]; try rfl)
    clear hc hTB hEq hAdv hSz hCr hKp
    go_wp2_with fail
    rw [HTN.out HTF.out, HTF.out]
    refine bodyPost_ret (v := .tuple #[.agg #[.int .i64 0, .int .i64 0, .slice none 0 0, .slice none 0 0], .bool false]) (by simp [results, Try.results19, go_sem, r0, r1, r2, r3]) rfl ⟨_, _, [], rfl, zC_cd _ _ _, ?_⟩
    repeat (first | with_reducible exact B2.out | refine Below.setCell ?_ (by simp; try omega) _)
  | true =>
  by_cases g1 : nw0 < t
  case neg =>
    have g1' : decide (t ≤ nw0) = true := by simp; omega
    have HTF := Lib.hid (show ingB (nw0, kp, rp, ls) (t, v) = false from by rw [hTB, hc, decide_eq_false (by intro h; exact g1 h.1)]; try rfl)
    clear hc hTB hEq hAdv hSz hCr hKp
    go_wp2_with fail
    rw [HTN.out HTF.out, HTF.out]
    refine bodyPost_ret (v := .tuple #[.agg #[.int .i64 0, .int .i64 0, .slice none 0 0, .slice none 0 0], .bool false]) (by simp [results, Try.results19, go_sem, r0, r1, r2, r3]) rfl ⟨_, _, [], rfl, zC_cd _ _ _, ?_⟩
    repeat (first | with_reducible exact B2.out | refine Below.setCell ?_ (by simp; try omega) _)

  have g1' : decide (t ≤ nw0) = false := by simp; omega
  by_cases g2 : t ≤ 1000000000000
  case neg =>
    have g2' : decide (1000000000000 < t) = true := by simp; omega
    have HTF := Lib.hid (show ingB (nw0, kp, rp, ls) (t, v) = false from by rw [hTB, hc, decide_eq_false (by intro h; exact g2 h.2)]; try rfl)
    clear hc hTB hEq hAdv hSz hCr hKp
    go_wp2_with fail
    rw [HTN.out HTF.out, HTF.out]
    refine bodyPost_ret (v := .tuple #[.agg #[.int .i64 0, .int .i64 0, .slice none 0 0, .slice none 0 0], .bool false]) (by simp [results, Try.results19, go_sem, r0, r1, r2, r3]) rfl ⟨_, _, [], rfl, zC_cd _ _ _, ?_⟩
    repeat (first | with_reducible exact B2.out | refine Below.setCell ?_ (by simp; try omega) _)

  have g2' : decide (1000000000000 < t) = false := by simp; omega
  cases hs : smB v with
  | false =>
    rw [hs] at hSm
    have HTF := Lib.hid (show ingB (nw0, kp, rp, ls) (t, v) = false from by rw [hTB, hc, hs, decide_eq_true (And.intro g1 g2)]; try rfl)
    clear hc hTB hEq hAdv hSz hCr hKp
    clear hs
    go_wp2_with fail
    refine (hSm.out _).mono ?_
    rintro e w2b ⟨rfl, rfl⟩
    go_wp2_with fail
    rw [HTN.out HTF.out, HTF.out]
    refine bodyPost_ret (v := .tuple #[.agg #[.int .i64 0, .int .i64 0, .slice none 0 0, .slice none 0 0], .bool false]) (by simp [results, Try.results19, go_sem, r0, r1, r2, r3]) rfl ⟨_, _, [], rfl, zC_cd _ _ _, ?_⟩
    repeat (first | with_reducible exact B2.out | refine Below.setCell ?_ (by simp; try omega) _)

  | true =>
  rw [hs] at hSm
  have hHB := Lib.hid (show ingB (nw0, kp, rp, ls) (t, v) = cascB (ingC (t, v) (nw0, kp, rp, ls)) from by rw [hTB, hc, hs, decide_eq_true (And.intro g1 g2)]; rfl)
  obtain ⟨hv1, hv2⟩ : -1000000000 ≤ v ∧ v ≤ 1000000000 := by unfold smB vIn at hs; exact decide_eq_true_iff.1 hs
  obtain ⟨hn0, hk0, _⟩ := hKp.out hc
  have hn0' : 0 ≤ nw0 ∧ nw0 ≤ 1000000000000 := hn0
  have hk0' : 1 ≤ kp ∧ kp ≤ 1000000000 := hk0
  obtain ⟨hq1, hq2, hq3⟩ := hSz.out hc
  have hq1 : rp.length ≤ 120 := hq1
  have hq2 : ls.length ≤ 4 := hq2
  have hq3 : ∀ j, j < ls.length → 1 ≤ (ls.getD j zLv).1 ∧ (ls.getD j zLv).2.2.length ≤ 400 := hq3
  have HQ3 := Lib.hid (show ∀ j, j < ls.length → 1 ≤ (ls.getD j zLv).1 ∧ (ls.getD j zLv).2.2.length ≤ 1000000 from fun j hj => ⟨(hq3 j hj).1, by have := (hq3 j hj).2; omega⟩)
  have hlv := Lib.hid (hAdv.out hc g1 (by show 0 ≤ t; omega))
  have hEQ := Lib.hid (hEq.out hc g1)
  have hCR := Lib.hid (hCr.out hc (by show 0 ≤ t ∧ t ≤ 1000000000000; omega) (by show Rng v; unfold Rng; omega))
  clear hc hTB hAdv hKp hOk hn0 hk0 hEq hSz hCr hq3 hs
  have hvr : Rng v := ⟨by omega, by omega⟩
  have ht0 : 0 ≤ t := by omega
  go_wp2_with fail
  refine (hSm.out _).mono ?_
  rintro e w2b ⟨rfl, rfl⟩
  go_wp2_with fail
  refine (hCp.out _ ((HV.out.below B2.out).up B2.out.size)).mono ?_
  rintro e w3 ⟨rv3, lv3, es3, rfl, hco3, hb3⟩
  have S3 := hb3.size
  have R3 : Hid (BoxN w3 (w.heap.size + 2) #[.int .i64 0, .int .i64 0, .slice none 0 0, .slice none 0 0] 32) := Lib.hid (R2.out.below hb3)
  have P3 : Hid (BoxN w3 (w.heap.size + 1) #[.int .i64 t, .int .i64 v] 36) := Lib.hid (P2.out.below hb3)
  have B3 := Lib.hid (B2.out.trans (hb3.mono (by omega)))
  obtain ⟨pa, pc, rfl⟩ := (ORow.of_own hco3.raw).shape
  obtain ⟨A3, c3, rfl⟩ := (ORow.of_own hco3.row).shape
  obtain ⟨w4, hw4⟩ : ∃ w4, w3.alloc (.cells #[.int .i64 nw0, .int .i64 kp, .slice pa rp.length pc, .slice A3 ls.length c3] 32) = w4 := ⟨_, rfl⟩
  have hb4 : Below w3.heap.size w3 w4 := by rw [← hw4]; exact (Below.refl _ _).alloc (Nat.le_refl _) _
  have X4 : BoxN w4 w3.heap.size #[.int .i64 nw0, .int .i64 kp, .slice pa rp.length pc, .slice A3 ls.length c3] 32 := by rw [← hw4]; exact World.alloc_heap_new w3 _
  have R4 : Hid (BoxN w4 (w.heap.size + 2) #[.int .i64 0, .int .i64 0, .slice none 0 0, .slice none 0 0] 32) := Lib.hid (R3.out.below hb4)
  have P4 : Hid (BoxN w4 (w.heap.size + 1) #[.int .i64 t, .int .i64 v] 36) := Lib.hid (P3.out.below hb4)
  have S4 := hb4.size
  have B4 := Lib.hid (B3.out.trans (hb4.mono (by omega)))
  have HA := Lib.hid (add_go w3.heap.size w2.heap.size nw0 kp t v pa A3 pc c3 rp ls es3 w4 X4 (hco3.at_ (fun g hg => hb4.block g (hco3.lt hg).2)) (by omega) ⟨ht0, g2⟩ hvr (by omega) (by omega) HQ3.out)
  have p0 := P4.out.cell (i := 0) rfl
  have p1 := P4.out.cell (i := 1) rfl
  have HW4 := Lib.hid hw4
  clear hw4 hb4 X4 hco3 hb3 x0 x1 x2 x3 r0 r1 r2 r3 f0 f1 f2 f3 R3 B3 R2 B2 X2 P2 P3
  go_upto_region 4 with fail
  rw [HW4.out]
  go_wp2_with fail
  refine HA.out.mono ?_
  rintro e w5 ⟨⟨ve, rfl⟩, ho, hta, hou, hs, hbk, pa5, pc5, es5, hbx, hco⟩
  have R5 : Hid (BoxN w5 (w.heap.size + 2) #[.int .i64 0, .int .i64 0, .slice none 0 0, .slice none 0 0] 32) := Lib.hid ((hbk _ (by omega) (by omega)).trans R4.out)
  have P5 : Hid (BoxN w5 (w.heap.size + 1) #[.int .i64 t, .int .i64 v] 36) := Lib.hid ((hbk _ (by omega) (by omega)).trans P4.out)
  have B5 := Lib.hid (B4.out.trans (show Below w.heap.size w4 w5 from ⟨ho, hta, hou, hs, fun k hk => hbk k (by omega) (by omega)⟩))
  have hco' : CO w5 w2.heap.size (nw0, kp, rp ++ [(t, v)], ls.map (addLvI (t, v))) (.slice pa5 (rp ++ [(t, v)]).length pc5) (.slice A3 (ls.map (addLvI (t, v))).length c3) es5 := by rw [List.length_append, List.length_map]; exact hco
  have hbx' : BoxN w5 w3.heap.size #[.int .i64 nw0, .int .i64 kp, .slice pa5 (rp ++ [(t, v)]).length pc5, .slice A3 (ls.map (addLvI (t, v))).length c3] 32 := by rw [List.length_append, List.length_map]; exact hbx
  have hAd := Lib.hid (advance_co w3.heap.size w2.heap.size nw0 t kp pa5 A3 pc5 c3 (rp ++ [(t, v)]) (ls.map (addLvI (t, v))) es5 w5 hbx' hco' (by omega) ⟨ht0, g2⟩ ⟨by omega, by omega⟩ (by rw [List.length_append]; simp; omega) (by rw [List.length_map]; omega) hlv.out)
  have p0 := P5.out.cell (i := 0) rfl
  have S5 := B5.out.size
  clear HA R4 P4 B4 hco hbx hco' hbx' hbk ho hta hou p1 HW4
  go_wp2_with fail
  refine hAd.out.mono ?_
  rintro e w6 ⟨⟨ve6, rfl⟩, ho, hta, hou, hs6, hbk, rv6, es6, hbx, hcd⟩
  have R6 : Hid (BoxN w6 (w.heap.size + 2) #[.int .i64 0, .int .i64 0, .slice none 0 0, .slice none 0 0] 32) := Lib.hid ((hbk _ (by omega) (by omega)).trans R5.out)
  have B6 := Lib.hid (B5.out.trans (show Below w.heap.size w5 w6 from ⟨ho, hta, hou, hs6, fun k hk => hbk k (by omega) (by omega)⟩))
  rw [List.length_map] at hbx hcd
  have hcd : CD w6 w2.heap.size w5.heap.size (ingC (t, v) (nw0, kp, rp, ls)) rv6 (.slice A3 ls.length c3) es6 := by rw [← hEQ.out]; exact hcd
  obtain ⟨m6, hm6⟩ : ∃ m6, (ingC (t, v) (nw0, kp, rp, ls)).2.2.1.length = m6 := ⟨_, rfl⟩
  obtain ⟨pa6, pc6, rfl⟩ : ∃ a c, rv6 = .slice a m6 c := by rw [← hm6]; exact hcd.raw.shape
  have hc6 := Lib.hid (hOk2.out _ (ingC (t, v) (nw0, kp, rp, ls)) w6 (show CV w6 w6.heap.size (.agg #[.int .i64 t, .int .i64 kp, .slice pa6 m6 pc6, .slice A3 ls.length c3]) _ from hcd.cv hCR.out))
  have y0 := hbx.cell (i := 0) rfl
  have y1 := hbx.cell (i := 1) rfl
  have y2 := hbx.cell (i := 2) rfl
  have y3 := hbx.cell (i := 3) rfl
  have HBX := Lib.hid hbx
  have HCD := Lib.hid hcd
  have S6 : w5.heap.size ≤ w6.heap.size := hs6
  clear hcd hbx hbk ho hta hou R5 P5 B5 hAd p0 hOk2 hlv hEQ hCR hm6
  go_wp2_with fail
  refine hc6.out.mono ?_
  rintro e w7 ⟨rfl, hb7⟩
  have X7 : Hid (BoxN w7 w3.heap.size #[.int .i64 t, .int .i64 kp, .slice pa6 m6 pc6, .slice A3 ls.length c3] 32) := Lib.hid (HBX.out.below hb7)
  have R7 : Hid (BoxN w7 (w.heap.size + 2) #[.int .i64 0, .int .i64 0, .slice none 0 0, .slice none 0 0] 32) := Lib.hid (R6.out.below hb7)
  have B7 := Lib.hid (B6.out.trans (hb7.mono (by omega)))
  have S7 := hb7.size
  have HCD7 := Lib.hid (HCD.out.below hb7)
  have y0 := X7.out.cell (i := 0) rfl
  have y1 := X7.out.cell (i := 1) rfl
  have y2 := X7.out.cell (i := 2) rfl
  have y3 := X7.out.cell (i := 3) rfl
  have r0 := R7.out.cell (i := 0) rfl
  have r1 := R7.out.cell (i := 1) rfl
  have r2 := R7.out.cell (i := 2) rfl
  have r3 := R7.out.cell (i := 3) rfl
  have f0 := R7.out.frozen (i := 0)
  have f1 := R7.out.frozen (i := 1)
  have f2 := R7.out.frozen (i := 2)
  have f3 := R7.out.frozen (i := 3)
  have hne1 : ¬ w3.heap.size = w.heap.size + 2 := by omega
  have hne2 : ¬ w.heap.size + 2 = w3.heap.size := by omega
  clear hb7 HCD R6 B6 HBX hc6 HV hCp hSm
  cases hi : cascB (ingC (t, v) (nw0, kp, rp, ls)) with
  | false =>
    have HTF := Lib.hid (show ingB (nw0, kp, rp, ls) (t, v) = false from by rw [hHB.out, hi])
    clear hi hHB
    go_wp2_with fail
    rw [HTN.out HTF.out, HTF.out]
    refine bodyPost_ret (v := .tuple #[.agg #[.int .i64 0, .int .i64 0, .slice none 0 0, .slice none 0 0], .bool false]) (by simp [results, Try.results19, go_sem, r0, r1, r2, r3]) rfl ⟨_, _, [], rfl, zC_cd _ _ _, ?_⟩
    repeat (first | with_reducible exact B7.out | refine Below.setCell ?_ (by simp; try omega) _)
  | true =>
    have HTT := Lib.hid (show ingB (nw0, kp, rp, ls) (t, v) = true from by rw [hHB.out, hi])
    clear hi hHB
    go_wp2_with fail
    rw [HTY.out HTT.out, HTT.out]
    refine bodyPost_ret (v := .tuple #[.agg #[.int .i64 t, .int .i64 kp, .slice pa6 m6 pc6, .slice A3 ls.length c3], .bool true]) (by simp [results, Try.results19, go_sem, r0, r1, r2, r3]) rfl ⟨.slice pa6 m6 pc6, .slice A3 ls.length c3, es6, rfl, (CD.at_ (W := w7) HCD7.out (fun g hg => ?_)).lift (by omega) (by simp [World.setCell]; omega), ?_⟩
    · have hlo := (HCD7.out.lt hg).1
      repeat (first | with_reducible rfl | refine (Below.heap_setCell _ _ _ _ (by simp; omega)).trans ?_)
    · repeat (first | with_reducible exact B7.out | refine Below.setCell ?_ (by simp; try omega) _)
end Go.Proofs.Ytkekpkfhljankaa
