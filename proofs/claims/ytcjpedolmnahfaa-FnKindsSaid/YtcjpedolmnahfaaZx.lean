/- Walks: Ingest: the model. -/
import Derived.Test.YtcjpedolmnahfaaZt
import Derived.Deep.DeepCutAuto
import Derived.Deep.RegionHeld3
import Derived.Test.YtcjpedolmnahfaaZr
set_option linter.unusedVariables false
set_option linter.unusedSimpArgs false
namespace Go.Proofs.Ytcjpedolmnahfaa
open Go.RowKit

set_option maxRecDepth 100000 in
set_option maxHeartbeats 8000000 in
theorem specIngest_any (cv : Value) (c : Cs) (t v : Int) (w : World) (h : CV w w.heap.size cv c) :
    Calls Try.prog 29 #[cv, .agg #[.int .i64 t, .int .i64 v]] w (NPost w.heap.size (ingM c (t, v)) (ingB c (t, v)) w) := by
  have HV := Lib.hid h
  have hOk := Lib.hid (fun W h => specCascadeOk_any cv c W h)
  have hOk2 := Lib.hid (fun v c W h => specCascadeOk_any v c W h)
  have hIg := Lib.hid (fun W h hc h1 h2 hv => l8Ingest_any cv c t v W h hc h1 h2 hv)
  have hIn := Lib.hid (fun W => v_l1In_q t (c.1 + 1) 1000000000000 W)
  have hSm := Lib.hid (fun W => l7Val_any v W)
  have hCr := Lib.hid (fun hc hp hv => ingC_cr (c := c) (p := (t, v)) hc hp hv)
  have hKp := Lib.hid (fun hc => cascB_keep (c := c) hc)
  have hTB : ingB c (t, v) = ((cascB c && (decide (c.1 < t ∧ t ≤ 1000000000000) && smB v)) && cascB (ingC (t, v) c)) := rfl
  have HTN := Lib.hid (ingM_no (c := c) (p := (t, v)))
  have HTY := Lib.hid (ingM_yes (c := c) (p := (t, v)))
  obtain ⟨nw0, kp, rp, ls⟩ := c
  obtain ⟨rv, lv, rfl, hP, hL, z1, z2⟩ := h
  simp only at hP hL
  obtain ⟨z3, hpl, Ap, cp, rfl, z4⟩ := hP
  obtain ⟨z5, hll, Al, cl, rfl, z6⟩ := hL
  clear z1 z2 z3 z4 z5 z6
  obtain ⟨w1, hw1⟩ : ∃ w1, ((w.alloc (.cells #[.int .i64 nw0, .int .i64 kp, .slice Ap rp.length cp, .slice Al ls.length cl] 30)).alloc (.cells #[.int .i64 t, .int .i64 v] 43)).alloc (.cells #[.int .i64 0, .int .i64 0, .slice none 0 0, .slice none 0 0] 30) = w1 := ⟨_, rfl⟩
  have B1 := Lib.hid (show Below w.heap.size w w1 from by rw [← hw1]; exact (((Below.refl _ w).alloc (Nat.le_refl _) _).alloc (by simp) _).alloc (by simp; omega) _)
  have X1 : Hid (BoxN w1 w.heap.size #[.int .i64 nw0, .int .i64 kp, .slice Ap rp.length cp, .slice Al ls.length cl] 30) := Lib.hid (by
    have h := World.alloc_heap_new w (.cells #[.int .i64 nw0, .int .i64 kp, .slice Ap rp.length cp, .slice Al ls.length cl] 30)
    rw [← hw1]
    exact (Below.heap_alloc _ _ _ (by simp; omega)).trans ((Below.heap_alloc _ _ _ (by simp)).trans h))
  have P1 : Hid (BoxN w1 (w.heap.size + 1) #[.int .i64 t, .int .i64 v] 43) := Lib.hid (by
    have h := World.alloc_heap_new (w.alloc (.cells #[.int .i64 nw0, .int .i64 kp, .slice Ap rp.length cp, .slice Al ls.length cl] 30)) (.cells #[.int .i64 t, .int .i64 v] 43)
    rw [World.size_alloc] at h
    rw [← hw1]
    exact (Below.heap_alloc _ _ _ (by simp)).trans h)
  have R1 : Hid (BoxN w1 (w.heap.size + 2) #[.int .i64 0, .int .i64 0, .slice none 0 0, .slice none 0 0] 30) := Lib.hid (by
    have h := World.alloc_heap_new ((w.alloc (.cells #[.int .i64 nw0, .int .i64 kp, .slice Ap rp.length cp, .slice Al ls.length cl] 30)).alloc (.cells #[.int .i64 t, .int .i64 v] 43)) (.cells #[.int .i64 0, .int .i64 0, .slice none 0 0, .slice none 0 0] 30)
    rw [World.size_alloc, World.size_alloc] at h
    rw [← hw1]; exact h)
  have S1 : w.heap.size + 3 ≤ w1.heap.size := by rw [← hw1]; simp
  have HW1 := Lib.hid hw1
  clear hw1
  have x0 := X1.out.cell (i := 0) rfl
  have x1 := X1.out.cell (i := 1) rfl
  have x2 := X1.out.cell (i := 2) rfl
  have x3 := X1.out.cell (i := 3) rfl
  go_enter Try.func29, Try.ntmps29
  go_wp2_with fail
  rw [HW1.out]
  go_wp2_with fail
  refine (hOk.out _ ((HV.out.below B1.out).up B1.out.size)).mono ?_
  rintro e w2 ⟨rfl, hb2⟩
  have X2 : Hid (BoxN w2 w.heap.size #[.int .i64 nw0, .int .i64 kp, .slice Ap rp.length cp, .slice Al ls.length cl] 30) := Lib.hid (X1.out.below hb2)
  have P2 : Hid (BoxN w2 (w.heap.size + 1) #[.int .i64 t, .int .i64 v] 43) := Lib.hid (P1.out.below hb2)
  have R2 : Hid (BoxN w2 (w.heap.size + 2) #[.int .i64 0, .int .i64 0, .slice none 0 0, .slice none 0 0] 30) := Lib.hid (R1.out.below hb2)
  have S2 := hb2.size
  have B2 := Lib.hid (B1.out.trans (hb2.mono (by omega)))
  clear x0 x1 x2 x3 hb2 X1 R1 B1 P1
  have x0 := X2.out.cell (i := 0) rfl
  have x1 := X2.out.cell (i := 1) rfl
  have x2 := X2.out.cell (i := 2) rfl
  have x3 := X2.out.cell (i := 3) rfl
  have p0 := P2.out.cell (i := 0) rfl
  have p1 := P2.out.cell (i := 1) rfl
  have r0 := R2.out.cell (i := 0) rfl
  have r1 := R2.out.cell (i := 1) rfl
  have r2 := R2.out.cell (i := 2) rfl
  have r3 := R2.out.cell (i := 3) rfl
  have f0 := R2.out.frozen (i := 0)
  have f1 := R2.out.frozen (i := 1)
  have f2 := R2.out.frozen (i := 2)
  have f3 := R2.out.frozen (i := 3)

  cases hc : cascB (nw0, kp, rp, ls) with
  | false =>
    have HTF := Lib.hid (show ingB (nw0, kp, rp, ls) (t, v) = false from by rw [hTB, hc]; try rfl)
    clear hc hTB hIg hCr hKp
    go_wp2_with fail
    rw [HTN.out HTF.out, HTF.out]
    refine bodyPost_ret (v := .tuple #[.agg #[.int .i64 0, .int .i64 0, .slice none 0 0, .slice none 0 0], .bool false]) (by simp [results, Try.results29, go_sem, r0, r1, r2, r3]) rfl ⟨_, _, [], rfl, zC_cd _ _ _, ?_⟩
    repeat (first | with_reducible exact B2.out | refine Below.setCell ?_ (by simp; try omega) _)
  | true =>
  obtain ⟨hn0, hk0, hkk⟩ := hKp.out hc
  have hn0' : 0 ≤ nw0 ∧ nw0 ≤ 1000000000000 := hn0
  have hk0' : 1 ≤ kp ∧ kp ≤ 1000000000 := hk0
  clear hn0 hk0 hkk
  have hwr : IntKind.i64.wrap (nw0 + 1) = nw0 + 1 := IntWalk.i64_in _ (by omega)
  by_cases g : nw0 + 1 ≤ t ∧ t ≤ 1000000000000
  case neg =>
    have hIn : Hid (∀ W, Calls Try.prog 61 #[.int .i64 t, .int .i64 (nw0 + 1), .int .i64 1000000000000] W fun e w' => e = .returned (.bool false) ∧ w' = W) := Lib.hid (fun W => by have := hIn.out W; rw [vIn_false g] at this; exact this)
    have HTF := Lib.hid (show ingB (nw0, kp, rp, ls) (t, v) = false from by rw [hTB, hc, decide_eq_false (fun h => g (show nw0 + 1 ≤ t ∧ t ≤ 1000000000000 by have : nw0 < t ∧ t ≤ 1000000000000 := h; omega))]; try rfl)
    clear hc hTB hIg hCr hKp
    clear g
    go_wp2_with fail
    refine (hIn.out _).mono ?_
    rintro e w2b ⟨rfl, rfl⟩
    go_wp2_with fail
    rw [HTN.out HTF.out, HTF.out]
    refine bodyPost_ret (v := .tuple #[.agg #[.int .i64 0, .int .i64 0, .slice none 0 0, .slice none 0 0], .bool false]) (by simp [results, Try.results29, go_sem, r0, r1, r2, r3]) rfl ⟨_, _, [], rfl, zC_cd _ _ _, ?_⟩
    repeat (first | with_reducible exact B2.out | refine Below.setCell ?_ (by simp; try omega) _)

  obtain ⟨g1', g2⟩ := g
  have g1 : nw0 < t := by omega
  have hIn : Hid (∀ W, Calls Try.prog 61 #[.int .i64 t, .int .i64 (nw0 + 1), .int .i64 1000000000000] W fun e w' => e = .returned (.bool true) ∧ w' = W) := Lib.hid (fun W => by have := hIn.out W; rw [vIn_true g1' g2] at this; exact this)
  cases hs : smB v with
  | false =>
    rw [hs] at hSm
    have HTF := Lib.hid (show ingB (nw0, kp, rp, ls) (t, v) = false from by rw [hTB, hc, hs, decide_eq_true (And.intro g1 g2)]; try rfl)
    clear hc hTB hIg hCr hKp
    clear hs
    go_wp2_with fail
    refine (hIn.out _).mono ?_
    rintro e w2a ⟨rfl, rfl⟩
    go_wp2_with fail
    refine (hSm.out _).mono ?_
    rintro e w2b ⟨rfl, rfl⟩
    go_wp2_with fail
    rw [HTN.out HTF.out, HTF.out]
    refine bodyPost_ret (v := .tuple #[.agg #[.int .i64 0, .int .i64 0, .slice none 0 0, .slice none 0 0], .bool false]) (by simp [results, Try.results29, go_sem, r0, r1, r2, r3]) rfl ⟨_, _, [], rfl, zC_cd _ _ _, ?_⟩
    repeat (first | with_reducible exact B2.out | refine Below.setCell ?_ (by simp; try omega) _)

  | true =>
  rw [hs] at hSm
  have hHB := Lib.hid (show ingB (nw0, kp, rp, ls) (t, v) = cascB (ingC (t, v) (nw0, kp, rp, ls)) from by rw [hTB, hc, hs, decide_eq_true (And.intro g1 g2)]; rfl)
  obtain ⟨hv1, hv2⟩ : -1000000000 ≤ v ∧ v ≤ 1000000000 := by unfold smB vIn at hs; exact decide_eq_true_iff.1 hs
  have hCR := Lib.hid (hCr.out hc (by show 0 ≤ t ∧ t ≤ 1000000000000; omega) (by show Rng v; unfold Rng; omega))
  have hvr : Rng v := ⟨by omega, by omega⟩
  have hIG := Lib.hid (fun W h => hIg.out W h hc g1 g2 hvr)
  clear hc hTB hKp hOk hIg hCr hs
  have ht0 : 0 ≤ t := by omega
  go_wp2_with fail
  refine (hIn.out _).mono ?_
  rintro e w2a ⟨rfl, rfl⟩
  go_wp2_with fail
  refine (hSm.out _).mono ?_
  rintro e w2b ⟨rfl, rfl⟩
  go_wp2_with fail
  refine (hIG.out _ ((HV.out.below B2.out).up B2.out.size)).mono ?_
  rintro e w3 ⟨rv6, lv6, es6, rfl, hcd, hb3⟩
  have S3 := hb3.size
  have R3 : Hid (BoxN w3 (w.heap.size + 2) #[.int .i64 0, .int .i64 0, .slice none 0 0, .slice none 0 0] 30) := Lib.hid (R2.out.below hb3)
  have B3 := Lib.hid (B2.out.trans (hb3.mono (by omega)))
  obtain ⟨m6, hm6⟩ : ∃ m6, (ingC (t, v) (nw0, kp, rp, ls)).2.2.1.length = m6 := ⟨_, rfl⟩
  obtain ⟨l6, hl6⟩ : ∃ l6, (ingC (t, v) (nw0, kp, rp, ls)).2.2.2.length = l6 := ⟨_, rfl⟩
  obtain ⟨pa6, pc6, rfl⟩ : ∃ a c, rv6 = .slice a m6 c := by rw [← hm6]; exact hcd.raw.shape
  obtain ⟨A3, c3, rfl⟩ : ∃ a c, lv6 = .slice a l6 c := by rw [← hl6]; exact hcd.lvl.row.shape
  have hq0 : (ingC (t, v) (nw0, kp, rp, ls)).1 = t := rfl
  have hq1 : (ingC (t, v) (nw0, kp, rp, ls)).2.1 = kp := rfl
  rw [hq0, hq1]
  obtain ⟨w6, hw4⟩ : ∃ w6, w3.alloc (.cells #[.int .i64 t, .int .i64 kp, .slice pa6 m6 pc6, .slice A3 l6 c3] 30) = w6 := ⟨_, rfl⟩
  have hb4 : Below w3.heap.size w3 w6 := by rw [← hw4]; exact (Below.refl _ _).alloc (Nat.le_refl _) _
  have hbx : BoxN w6 w3.heap.size #[.int .i64 t, .int .i64 kp, .slice pa6 m6 pc6, .slice A3 l6 c3] 30 := by rw [← hw4]; exact World.alloc_heap_new w3 _
  have R6 : Hid (BoxN w6 (w.heap.size + 2) #[.int .i64 0, .int .i64 0, .slice none 0 0, .slice none 0 0] 30) := Lib.hid (R3.out.below hb4)
  have S6 := hb4.size
  have B6 := Lib.hid (B3.out.trans (hb4.mono (by omega)))
  have hcd := hcd.below hb4
  have hc6 := Lib.hid (hOk2.out _ (ingC (t, v) (nw0, kp, rp, ls)) w6 (show CV w6 w6.heap.size (.agg #[.int .i64 t, .int .i64 kp, .slice pa6 m6 pc6, .slice A3 l6 c3]) _ from hcd.cv hCR.out))
  have HW4 := Lib.hid hw4
  have y0 := hbx.cell (i := 0) rfl
  have y1 := hbx.cell (i := 1) rfl
  have y2 := hbx.cell (i := 2) rfl
  have y3 := hbx.cell (i := 3) rfl
  have HBX := Lib.hid hbx
  have HCD := Lib.hid hcd
  clear hcd hbx hb4 hw4 hb3 R3 B3 R2 B2 X2 P2 x0 x1 x2 x3 p0 p1 r0 r1 r2 r3 f0 f1 f2 f3 hOk2 hCR hm6 hl6 hq0 hq1 hIG hIn hwr
  go_upto_region 4 with fail
  rw [HW4.out]
  clear HW4
  go_wp2_with fail
  refine hc6.out.mono ?_
  rintro e w7 ⟨rfl, hb7⟩
  have X7 : Hid (BoxN w7 w3.heap.size #[.int .i64 t, .int .i64 kp, .slice pa6 m6 pc6, .slice A3 l6 c3] 30) := Lib.hid (HBX.out.below hb7)
  have R7 : Hid (BoxN w7 (w.heap.size + 2) #[.int .i64 0, .int .i64 0, .slice none 0 0, .slice none 0 0] 30) := Lib.hid (R6.out.below hb7)
  have B7 := Lib.hid (B6.out.trans (hb7.mono (by omega)))
  have S7 := hb7.size
  have HCD7 := Lib.hid (HCD.out.below hb7)
  have y0 := X7.out.cell (i := 0) rfl
  have y1 := X7.out.cell (i := 1) rfl
  have y2 := X7.out.cell (i := 2) rfl
  have y3 := X7.out.cell (i := 3) rfl
  have r0 := R7.out.cell (i := 0) rfl
  have r1 := R7.out.cell (i := 1) rfl
  have r2 := R7.out.cell (i := 2) rfl
  have r3 := R7.out.cell (i := 3) rfl
  have f0 := R7.out.frozen (i := 0)
  have f1 := R7.out.frozen (i := 1)
  have f2 := R7.out.frozen (i := 2)
  have f3 := R7.out.frozen (i := 3)
  have hne1 : ¬ w3.heap.size = w.heap.size + 2 := by omega
  have hne2 : ¬ w.heap.size + 2 = w3.heap.size := by omega
  clear hb7 HCD R6 B6 HBX hc6 HV hSm
  cases hi : cascB (ingC (t, v) (nw0, kp, rp, ls)) with
  | false =>
    have HTF := Lib.hid (show ingB (nw0, kp, rp, ls) (t, v) = false from by rw [hHB.out, hi])
    clear hi hHB
    go_wp2_with fail
    rw [HTN.out HTF.out, HTF.out]
    refine bodyPost_ret (v := .tuple #[.agg #[.int .i64 0, .int .i64 0, .slice none 0 0, .slice none 0 0], .bool false]) (by simp [results, Try.results29, go_sem, r0, r1, r2, r3]) rfl ⟨_, _, [], rfl, zC_cd _ _ _, ?_⟩
    repeat (first | with_reducible exact B7.out | refine Below.setCell ?_ (by simp; try omega) _)
  | true =>
    have HTT := Lib.hid (show ingB (nw0, kp, rp, ls) (t, v) = true from by rw [hHB.out, hi])
    clear hi hHB
    go_wp2_with fail
    rw [HTY.out HTT.out, HTT.out]
    refine bodyPost_ret (v := .tuple #[.agg #[.int .i64 t, .int .i64 kp, .slice pa6 m6 pc6, .slice A3 l6 c3], .bool true]) (by simp [results, Try.results29, go_sem, r0, r1, r2, r3]) rfl ⟨.slice pa6 m6 pc6, .slice A3 l6 c3, es6, rfl, (CD.at_ (W := w7) HCD7.out (fun g hg => ?_)).lift (by omega) (by simp [World.setCell]; omega), ?_⟩
    · have hlo := (HCD7.out.lt hg).1
      repeat (first | with_reducible rfl | refine (Below.heap_setCell _ _ _ _ (by simp; omega)).trans ?_)
    · repeat (first | with_reducible exact B7.out | refine Below.setCell ?_ (by simp; try omega) _)
end Go.Proofs.Ytcjpedolmnahfaa

/- Walks: IngestAll: the model of it; the model's program. -/
set_option linter.unusedVariables false
set_option linter.unusedSimpArgs false
namespace Go.Proofs.Ytcjpedolmnahfaa
open Go.RowKit

def iaC (ps : List (Int × Int)) (c : Cs) (k : Nat) : Cs := (ps.take k).foldl (fun c p => ingC p c) c
theorem iaC_zero (ps : List (Int × Int)) (c : Cs) : iaC ps c 0 = c := rfl
theorem iaC_succ {ps : List (Int × Int)} (c : Cs) {k : Nat} (hk : k < ps.length) : iaC ps c (k + 1) = ingC (ps.getD k (0, 0)) (iaC ps c k) := by
  unfold iaC
  rw [List.take_succ_eq_append_getElem hk, List.foldl_append]
  simp [List.getD_eq_getElem?_getD, hk]
def iaOk (ps : List (Int × Int)) (c : Cs) (k : Nat) : Bool := ingB (iaC ps c k) (ps.getD k (0, 0))
def iaF (ps : List (Int × Int)) (c : Cs) : Nat → Nat → Nat
  | 0, k => k
  | m + 1, k => if iaOk ps c k = true then iaF ps c m (k + 1) else k
def iaN (ps : List (Int × Int)) (c : Cs) : Nat := iaF ps c (min ps.length 200) 0
theorem iaF_go (ps : List (Int × Int)) (c : Cs) : ∀ (j m k : Nat), (∀ i, i < j → iaOk ps c (k + i) = true) → j ≤ m → iaF ps c m k = iaF ps c (m - j) (k + j) := by
  intro j
  induction j with
  | zero => intro m k _ _; rfl
  | succ j ih =>
    intro m k h hm
    obtain ⟨m', rfl⟩ : ∃ m', m = m' + 1 := ⟨m - 1, by omega⟩
    show (if iaOk ps c k = true then iaF ps c m' (k + 1) else k) = _
    rw [if_pos (by have := h 0 (by omega); simpa using this), ih m' (k + 1) (fun i hi => by have := h (i + 1) (by omega); rwa [show k + (i + 1) = k + 1 + i by omega] at this) (by omega)]
    rw [show m' + 1 - (j + 1) = m' - j by omega, show k + (j + 1) = k + 1 + j by omega]
theorem iaN_end {ps : List (Int × Int)} {c : Cs} {k : Nat} (h : ∀ j, j < k → iaOk ps c j = true) (hk : k = min ps.length 200) : iaN ps c = k := by
  unfold iaN
  rw [iaF_go ps c k _ 0 (fun i hi => by rw [Nat.zero_add]; exact h i hi) (by omega), ← hk]
  simp [iaF]
theorem iaN_bad {ps : List (Int × Int)} {c : Cs} {k : Nat} (h : ∀ j, j < k → iaOk ps c j = true) (hk : k < min ps.length 200) (hb : iaOk ps c k = false) : iaN ps c = k := by
  unfold iaN
  rw [iaF_go ps c k _ 0 (fun i hi => by rw [Nat.zero_add]; exact h i hi) (by omega)]
  obtain ⟨q, hq⟩ : ∃ q, min ps.length 200 - k = q + 1 := ⟨min ps.length 200 - k - 1, by omega⟩
  rw [hq, Nat.zero_add]
  show (if iaOk ps c k = true then _ else k) = k
  rw [if_neg (by rw [hb]; simp)]
def allM (c : Cs) (ps : List (Int × Int)) : Cs := if cascB c = true then iaC ps c (iaN ps c) else zC
def allI (c : Cs) (ps : List (Int × Int)) : Int := if cascB c = true then (iaN ps c : Int) else -1
theorem all_no {c : Cs} {ps : List (Int × Int)} (h : cascB c = false) : allM c ps = zC ∧ allI c ps = -1 := by unfold allM allI; rw [if_neg (by rw [h]; simp), if_neg (by rw [h]; simp)]; exact ⟨rfl, rfl⟩
theorem all_yes {c : Cs} {ps : List (Int × Int)} {k : Nat} (h : cascB c = true) (hk : iaN ps c = k) : allM c ps = iaC ps c k ∧ allI c ps = k := by unfold allM allI; rw [if_pos h, if_pos h, hk]; exact ⟨rfl, rfl⟩
theorem ingB_casc {c : Cs} {p : Int × Int} (h : ingB c p = true) : cascB (ingC p c) = true := by
  unfold ingB at h
  rw [Bool.and_eq_true] at h
  exact h.2
theorem iaC_casc {ps : List (Int × Int)} {c : Cs} (hc : cascB c = true) : ∀ k, k ≤ ps.length → (∀ j, j < k → iaOk ps c j = true) → cascB (iaC ps c k) = true := by
  intro k
  induction k with
  | zero => intro _ _; exact hc
  | succ k ih =>
    intro hk h
    rw [iaC_succ c (by omega)]
    exact ingB_casc (h k (by omega))
theorem iaF_le (ps : List (Int × Int)) (c : Cs) : ∀ m k, iaF ps c m k ≤ k + m ∧ ∀ j, k ≤ j → j < iaF ps c m k → iaOk ps c j = true := by
  intro m
  induction m with
  | zero => intro k; exact ⟨Nat.le_refl _, fun j h1 h2 => by have : j < k := h2; omega⟩
  | succ m ih =>
    intro k
    show (if iaOk ps c k = true then iaF ps c m (k + 1) else k) ≤ _ ∧ ∀ j, k ≤ j → j < (if iaOk ps c k = true then iaF ps c m (k + 1) else k) → _
    by_cases e : iaOk ps c k = true
    · rw [if_pos e]
      obtain ⟨h1, h2⟩ := ih (k + 1)
      refine ⟨by omega, fun j hj hj2 => ?_⟩
      by_cases ej : j = k
      · rw [ej]; exact e
      · exact h2 j (by omega) hj2
    · rw [if_neg e]
      exact ⟨by omega, fun j hj hj2 => by omega⟩
theorem iaN_le (ps : List (Int × Int)) (c : Cs) : iaN ps c ≤ min ps.length 200 ∧ ∀ j, j < iaN ps c → iaOk ps c j = true := by
  have h := iaF_le ps c (min ps.length 200) 0
  exact ⟨by have := h.1; unfold iaN; omega, fun j hj => h.2 j (Nat.zero_le _) hj⟩
theorem allM_cr (c : Cs) (ps : List (Int × Int)) : CR (allM c ps) ∧ -1 ≤ allI c ps ∧ allI c ps ≤ 200 := by
  cases h : cascB c with
  | false => rw [(all_no h).1, (all_no h).2]; exact ⟨zC_cr, by omega, by omega⟩
  | true =>
    have h1 := iaN_le ps c
    rw [(all_yes h rfl).1, (all_yes h rfl).2]
    exact ⟨cascB_cr (iaC_casc h _ (by omega) h1.2), by omega, by omega⟩
/-- a cascade and a number -/
def IPost (base : Nat) (c : Cs) (i : Int) (w : World) (e : Ending) (w' : World) : Prop :=
  ∃ rv lv es, e = .returned (.tuple #[.agg #[.int .i64 c.1, .int .i64 c.2.1, rv, lv], .int .i64 i]) ∧ CD w' base w'.heap.size c rv lv es ∧ Below w.heap.size w w'

/-- what the loads of a drawn region read: a cascade's box, a point's cells -/
theorem KSP.of {w1 W : World} {b b2 i : Nat} {c0 c1 c2 c3 d0 d1 : Value} {T : TypeId} (h1 : BoxN w1 b #[c0, c1, c2, c3] T) (hb2 : b2 < w1.heap.size) (h2 : w1.cell? ⟨b2, i, none⟩ = some d0) (h3 : w1.cell? ⟨b2, i + 1, none⟩ = some d1) (h : Below w1.heap.size w1 W) : Below w1.heap.size w1 W ∧ W.cell? ⟨b, 0, none⟩ = some c0 ∧ W.cell? ⟨b, 1, none⟩ = some c1 ∧ W.cell? ⟨b, 2, none⟩ = some c2 ∧ W.cell? ⟨b, 3, none⟩ = some c3 ∧ W.cell? ⟨b2, i, none⟩ = some d0 ∧ W.cell? ⟨b2, i + 1, none⟩ = some d1 :=
  have e1 : BoxN W b #[c0, c1, c2, c3] T := (h.block _ h1.lt).trans h1
  ⟨h, e1.cell (i := 0) rfl, e1.cell (i := 1) rfl, e1.cell (i := 2) rfl, e1.cell (i := 3) rfl, (h.cell (p := ⟨b2, i, none⟩) hb2).trans h2, (h.cell (p := ⟨b2, i + 1, none⟩) hb2).trans h3⟩
theorem KSP.alloc {w1 W : World} (h : Below w1.heap.size w1 W) (o : Obj) : Below w1.heap.size w1 (W.alloc o) := h.alloc h.size o
theorem KSP.allocD {w1 W : World} (h : Below w1.heap.size w1 W.drew) (o : Obj) : Below w1.heap.size w1 (W.alloc o).drew := h.trans ⟨rfl, rfl, rfl, by show W.heap.size ≤ (W.alloc o).heap.size; simp, fun k hk => Below.heap_alloc W o k (Nat.lt_of_lt_of_le hk h.size)⟩
theorem KSP.next {w1 W W' : World} (h : Below w1.heap.size w1 W) (hb : Below W.heap.size W W') : Below w1.heap.size w1 W' := h.trans (hb.mono h.size)
theorem KSP.set4 {w1 W : World} {ob B : Nat} (h : Below B w1 W) (hob : B ≤ ob) (a0 a1 a2 a3 : Value) : Below B w1 ((((W.setCell ⟨ob, 0, none⟩ a0).setCell ⟨ob, 1, none⟩ a1).setCell ⟨ob, 2, none⟩ a2).setCell ⟨ob, 3, none⟩ a3) :=
  (((h.setCell (p := ⟨ob, 0, none⟩) hob a0).setCell (p := ⟨ob, 1, none⟩) hob a1).setCell (p := ⟨ob, 2, none⟩) hob a2).setCell (p := ⟨ob, 3, none⟩) hob a3
theorem CD.set4n {W : World} {base top ob : Nat} {c : Cs} {rv lv : Value} {es : List LvC} (h : CD W base top c rv lv es) (hob : ob < base ∨ top ≤ ob) (a0 a1 a2 a3 : Value) : CD ((((W.setCell ⟨ob, 0, none⟩ a0).setCell ⟨ob, 1, none⟩ a1).setCell ⟨ob, 2, none⟩ a2).setCell ⟨ob, 3, none⟩ a3) base top c rv lv es :=
  h.at_ (fun g hg => by
    have := h.lt hg
    repeat (first | with_reducible rfl | refine (Below.heap_setCell _ _ _ _ (by simp; omega)).trans ?_))

set_option maxRecDepth 100000 in
set_option maxHeartbeats 8000000 in
theorem specIngestAll_any (cv pv : Value) (c : Cs) (ps : List (Int × Int)) (w : World) (h : CV w w.heap.size cv c) (hp : PL w w.heap.size pv ps) :
    Calls Try.prog 33 #[cv, pv] w (IPost w.heap.size (allM c ps) (allI c ps) w) := by
  have HV := Lib.hid h
  have hOk := Lib.hid (fun W h => specCascadeOk_any cv c W h)
  have hCp := Lib.hid (fun W h hl => l8Copy_any cv c W h hl)
  have hFw := Lib.hid (fun hc => (casc_smallS (c := c) hc).2.1)
  have hIg := Lib.hid (fun u cc t v W h => specIngest_any u cc t v W h)
  have HN := Lib.hid (fun h => all_no (c := c) (ps := ps) h)
  have HY := Lib.hid (fun k h hk => all_yes (c := c) (ps := ps) (k := k) h hk)
  have HEND := Lib.hid (fun k h hk => iaN_end (ps := ps) (c := c) (k := k) h hk)
  have HBAD := Lib.hid (fun k h hk hb => iaN_bad (ps := ps) (c := c) (k := k) h hk hb)
  have HSUC := Lib.hid (fun k hk => iaC_succ (ps := ps) c (k := k) hk)
  have HPV := Lib.hid (fun j : Nat => hp.1 j)
  obtain ⟨_, hpl, App, cpp, rfl, hpc⟩ := hp
  have HC := Lib.hid h
  obtain ⟨rv, lv, rfl, hP, hL, z1, z2⟩ := h
  obtain ⟨z3, hpl2, Ap, cp, rfl, z4⟩ := hP
  obtain ⟨z5, hll, Al, cl, rfl, z6⟩ := hL
  clear z1 z2 z3 z4 z5 z6
  obtain ⟨n0, hn0⟩ : ∃ n0, c.2.2.1.length = n0 := ⟨_, rfl⟩
  obtain ⟨m0, hm0⟩ : ∃ m0, c.2.2.2.length = m0 := ⟨_, rfl⟩
  have HN0 := Lib.hid hn0
  have HM0 := Lib.hid hm0
  rw [hn0, hm0] at HV hOk hCp
  rw [hn0, hm0]
  clear hn0 hm0
  have hP0 := Lib.hid (show ps.length ≤ 1048576 from hpl)
  obtain ⟨w1, hw1⟩ : ∃ w1, (w.alloc (.cells #[.int .i64 c.1, .int .i64 c.2.1, .slice Ap n0 cp, .slice Al m0 cl] 30)).alloc (.cells #[.int .i64 0, .int .i64 0, .slice none 0 0, .slice none 0 0] 30) = w1 := ⟨_, rfl⟩
  have B1 := Lib.hid (show Below w.heap.size w w1 from by rw [← hw1]; exact ((Below.refl _ w).alloc (Nat.le_refl _) _).alloc (by simp) _)
  have X1 : Hid (BoxN w1 w.heap.size #[.int .i64 c.1, .int .i64 c.2.1, .slice Ap n0 cp, .slice Al m0 cl] 30) := Lib.hid (by
    have h := World.alloc_heap_new w (.cells #[.int .i64 c.1, .int .i64 c.2.1, .slice Ap n0 cp, .slice Al m0 cl] 30)
    rw [← hw1]
    exact (Below.heap_alloc _ _ _ (by simp)).trans h)
  have R1 : Hid (BoxN w1 (w.heap.size + 1) #[.int .i64 0, .int .i64 0, .slice none 0 0, .slice none 0 0] 30) := Lib.hid (by
    have h := World.alloc_heap_new (w.alloc (.cells #[.int .i64 c.1, .int .i64 c.2.1, .slice Ap n0 cp, .slice Al m0 cl] 30)) (.cells #[.int .i64 0, .int .i64 0, .slice none 0 0, .slice none 0 0] 30)
    rw [World.size_alloc] at h
    rw [← hw1]; exact h)
  have S1 : w.heap.size + 2 ≤ w1.heap.size := by rw [← hw1]; simp
  have HW1 := Lib.hid hw1
  clear hw1
  have x0 := X1.out.cell (i := 0) rfl
  have x1 := X1.out.cell (i := 1) rfl
  have x2 := X1.out.cell (i := 2) rfl
  have x3 := X1.out.cell (i := 3) rfl
  go_enter Try.func33, Try.ntmps33
  go_wp2_with fail
  rw [HW1.out]
  go_wp2_with fail
  refine (hOk.out _ ((HV.out.below B1.out).up B1.out.size)).mono ?_
  rintro e w2 ⟨rfl, hb2⟩
  have X2 : Hid (BoxN w2 w.heap.size #[.int .i64 c.1, .int .i64 c.2.1, .slice Ap n0 cp, .slice Al m0 cl] 30) := Lib.hid (X1.out.below hb2)
  have R2 : Hid (BoxN w2 (w.heap.size + 1) #[.int .i64 0, .int .i64 0, .slice none 0 0, .slice none 0 0] 30) := Lib.hid (R1.out.below hb2)
  have S2 := hb2.size
  have B2 := Lib.hid (B1.out.trans (hb2.mono (by omega)))
  clear x0 x1 x2 x3 hb2 X1 R1 B1
  have x0 := X2.out.cell (i := 0) rfl
  have x1 := X2.out.cell (i := 1) rfl
  have x2 := X2.out.cell (i := 2) rfl
  have x3 := X2.out.cell (i := 3) rfl
  cases hc : cascB c with
  | false =>
    have r0 := R2.out.cell (i := 0) rfl
    have r1 := R2.out.cell (i := 1) rfl
    have r2 := R2.out.cell (i := 2) rfl
    have r3 := R2.out.cell (i := 3) rfl
    have f0 := R2.out.frozen (i := 0)
    have f1 := R2.out.frozen (i := 1)
    have f2 := R2.out.frozen (i := 2)
    have f3 := R2.out.frozen (i := 3)
    have HTF := Lib.hid (HN.out hc)
    clear hc
    go_wp2_with fail
    rw [HTF.out.1, HTF.out.2]
    refine bodyPost_ret (v := .tuple #[.agg #[.int .i64 0, .int .i64 0, .slice none 0 0, .slice none 0 0], .int .i64 (-1)]) (by simp [results, Try.results33, go_sem, r0, r1, r2, r3]) rfl ⟨_, _, [], rfl, zC_cd _ _ _, ?_⟩
    repeat (first | with_reducible exact B2.out | refine Below.setCell ?_ (by simp; try omega) _)
  | true =>
  have hfew : m0 ≤ 4 := by have h1 := hFw.out hc; have h2 := HM0.out; omega
  have HCB := Lib.hid hc
  clear hc
  go_wp2_with fail
  refine (hCp.out _ ((HV.out.below B2.out).up B2.out.size) (by have h2 := HM0.out; omega)).mono ?_
  rintro e w3 ⟨rv3, lv3, es3, rfl, hcd3, hb3⟩
  have S3 := hb3.size
  obtain ⟨pa, pc, rfl⟩ := hcd3.raw.shape
  obtain ⟨A3, c3, rfl⟩ := hcd3.lvl.row.shape
  rw [HN0.out, HM0.out] at hcd3 ⊢
  obtain ⟨w4, hw4⟩ : ∃ w4, w3.alloc (.cells #[.int .i64 c.1, .int .i64 c.2.1, .slice pa n0 pc, .slice A3 m0 c3] 30) = w4 := ⟨_, rfl⟩
  obtain ⟨ob, hob⟩ : ∃ ob, w3.heap.size = ob := ⟨_, rfl⟩
  have hb4 : Below w3.heap.size w3 w4 := by rw [← hw4]; exact (Below.refl _ _).alloc (Nat.le_refl _) _
  have X4 : BoxN w4 ob #[.int .i64 c.1, .int .i64 c.2.1, .slice pa n0 pc, .slice A3 m0 c3] 30 := by rw [← hob, ← hw4]; exact World.alloc_heap_new w3 _
  have B4 := Lib.hid (show Below w2.heap.size w2 w4 from hb3.trans (hb4.mono S3))
  have S4 := hb4.size
  have HX4 := Lib.hid X4
  have HD4 := Lib.hid (hcd3.below hb4)
  have HW4 := Lib.hid hw4
  have HOB := Lib.hid hob
  have hob2 : w2.heap.size ≤ ob := by omega
  have hob3 : w3.heap.size ≤ ob := by omega
  clear hw4 hob X4 hb4 hcd3 hb3 x0 x1 x2 x3 hCp hOk hFw
  have HPP := Lib.hid hpc
  clear hpc
  have hplr := hP0.out
  go_upto_region 4 with fail
  rw [HW4.out, HOB.out]
  go_wp2_with fail
  go_loopw [7] (fun i wr => ∃ (k : Nat) (ra : Option Addr) (n rc : Nat) (la : Option Addr) (m lc : Nat) (es : List LvC) (lo hi : Nat), k ≤ ps.length ∧ k ≤ 200 ∧ i = .int .i64 (k : Int) ∧ Hid (BoxN wr ob #[.int .i64 (iaC ps c k).1, .int .i64 (iaC ps c k).2.1, .slice ra n rc, .slice la m lc] 30) ∧ Hid (CD wr lo hi (iaC ps c k) (.slice ra n rc) (.slice la m lc) es) ∧ Hid (Below w2.heap.size w2 wr) ∧ w2.heap.size ≤ lo ∧ hi ≤ wr.heap.size ∧ (ob < lo ∨ hi ≤ ob) ∧ Hid (∀ j, j < k → iaOk ps c j = true) ∧ Hid (cascB (iaC ps c k) = true))
    (fun i _ => 200 - (intOf i).toNat)
  case atStart => exact ⟨0, pa, n0, pc, A3, m0, c3, es3, _, _, Nat.zero_le _, by omega, rfl, HX4, HD4, B4, Nat.le_refl _, S4, .inr hob3, Lib.hid (fun j hj => by omega), HCB⟩
  case round =>
    obtain ⟨k, ra, n, rc, la, m, lc, es, lo, hi, hk1, hk2, rfl, HX, HD, HB, q1, q2, q3, HAL, HCK⟩ := hrel
    have hsz := HB.out.size
    by_cases hlt : k < ps.length ∧ k < 200
    · obtain ⟨hlt1, hlt2⟩ := hlt
      have hltI : (k : Int) < (ps.length : Int) := by omega
      have hltJ : (k : Int) < 200 := by omega
      have hd2 : decide ((k : Int) < 200) = true := decide_eq_true hltJ
      rcases HPP.out with h3 | ⟨b, off, rfl, hbl, hcl⟩
      · subst h3; simp at hlt1
      have d0 := ((B2.out.trans (HB.out.mono (by omega))).cell (p := ⟨b, off + k * 2, none⟩) hbl).trans (hcl k hlt1).1
      have d1 := ((B2.out.trans (HB.out.mono (by omega))).cell (p := ⟨b, off + k * 2 + 1, none⟩) hbl).trans (hcl k hlt1).2
      clear hcl
      have hbr : b < wr.heap.size := by omega
      obtain ⟨ck, hck⟩ : ∃ ck, (iaC ps c k) = ck := ⟨_, rfl⟩
      obtain ⟨t, v, hpk⟩ : ∃ t v, (ps.getD k (0, 0)) = (t, v) := ⟨_, _, rfl⟩
      rw [hpk] at d0 d1
      simp only at d0 d1
      rw [hck] at HX HD HCK
      have hsu := HSUC.out k hlt1
      have hbd := HBAD.out k HAL.out (by omega)
      have hok : iaOk ps c k = ingB ck (t, v) := by unfold iaOk; rw [hck, hpk]
      rw [hck, hpk] at hsu
      rw [hok] at hbd
      have HSU := Lib.hid hsu
      have HBD := Lib.hid hbd
      have HOKK := Lib.hid hok
      have HCKE := Lib.hid hck
      clear hck hpk hsu hbd hok
      have HCR := Lib.hid (cascB_cr HCK.out)
      have HCVr : Hid (CV wr.drew wr.drew.heap.size (.agg #[.int .i64 ck.1, .int .i64 ck.2.1, .slice ra n rc, .slice la m lc]) ck) := Lib.hid (show CV wr wr.heap.size _ ck from HD.out.cv HCR.out)
      have HCVa : Hid (CV (wr.alloc (.cells #[.int .i64 0, .int .i64 0, .slice none 0 0, .slice none 0 0] 30)).drew (wr.alloc (.cells #[.int .i64 0, .int .i64 0, .slice none 0 0, .slice none 0 0] 30)).drew.heap.size (.agg #[.int .i64 ck.1, .int .i64 ck.2.1, .slice ra n rc, .slice la m lc]) ck) := Lib.hid (show CV (wr.alloc (.cells #[.int .i64 0, .int .i64 0, .slice none 0 0, .slice none 0 0] 30)) (wr.alloc (.cells #[.int .i64 0, .int .i64 0, .slice none 0 0, .slice none 0 0] 30)).heap.size _ ck from (HD.out.below ((Below.refl _ _).alloc (Nat.le_refl _) _)).cv HCR.out)
      have HK0 := Lib.hid (KSP.of HX.out hbr d0 d1 (show Below wr.heap.size wr wr.drew from (Below.refl _ _).drew))
      have HKO := Lib.hid (fun W hW => KSP.of (W := W) HX.out hbr d0 d1 hW)
      have OBz : Hid (BoxN (wr.alloc (.cells #[.int .i64 0, .int .i64 0, .slice none 0 0, .slice none 0 0] 30)) wr.heap.size #[.int .i64 0, .int .i64 0, .slice none 0 0, .slice none 0 0] 30) := Lib.hid (World.alloc_heap_new wr _)
      clear d0 d1
      go_upto_region 7 with fail
      go_cut [8, 9] (fun s1 s2 wx => ∃ (ob8 : Nat) (ra8 : Option Addr) (n8 rc8 : Nat) (la8 : Option Addr) (m8 lc8 : Nat) (es8 : List LvC) (lo8 hi8 : Nat), s1 = .pointer (some ⟨ob8, 0, none⟩) ∧ s2 = .bool (ingB ck (t, v)) ∧ BoxN wx ob8 #[.int .i64 (ingM ck (t, v)).1, .int .i64 (ingM ck (t, v)).2.1, .slice ra8 n8 rc8, .slice la8 m8 lc8] 30 ∧ CD wx lo8 hi8 (ingM ck (t, v)) (.slice ra8 n8 rc8) (.slice la8 m8 lc8) es8 ∧ Below wr.heap.size wr wx ∧ wr.heap.size ≤ lo8 ∧ hi8 ≤ wx.heap.size ∧ wr.heap.size ≤ ob8 ∧ (ob8 < lo8 ∨ hi8 ≤ ob8))
      case first =>
        go_region_held3 (fun W => Below wr.heap.size wr W ∧ W.cell? ⟨ob, 0, none⟩ = some (.int .i64 ck.1) ∧ W.cell? ⟨ob, 1, none⟩ = some (.int .i64 ck.2.1) ∧ W.cell? ⟨ob, 2, none⟩ = some (.slice ra n rc) ∧ W.cell? ⟨ob, 3, none⟩ = some (.slice la m lc) ∧ W.cell? ⟨b, off + k * 2, none⟩ = some (.int .i64 t) ∧ W.cell? ⟨b, off + k * 2 + 1, none⟩ = some (.int .i64 v))
          (first | with_reducible assumption | with_reducible exact HK0.out | with_reducible exact HKO.out _ (KSP.alloc HN3.out _) | with_reducible exact HKO.out _ (KSP.set4 HN3.out (by first | omega | (simp; done)) _ _ _ _) | with_reducible exact HKO.out _ (KSP.alloc (And.left (by assumption)) _) | with_reducible exact HKO.out _ (KSP.allocD (And.left (by assumption)) _) | with_reducible exact HKO.out _ (KSP.next (And.left (by assumption)) (by assumption)))
          (first
            | (go_at_call 29; (with_reducible refine (hIg.out _ ck t v _ HCVr.out).mono ?_); rintro e w3 ⟨rv3, lv3, es3, rfl, hd3, hb3⟩; have N3 := KSP.next (And.left (by assumption)) hb3; obtain ⟨ra8, rc8, hra⟩ := hd3.raw.shape; obtain ⟨la8, lc8, hla⟩ := hd3.lvl.row.shape; obtain ⟨n8, hn8⟩ : ∃ n8, (ingM ck (t, v)).2.2.1.length = n8 := ⟨_, rfl⟩; obtain ⟨m8, hm8⟩ : ∃ m8, (ingM ck (t, v)).2.2.2.length = m8 := ⟨_, rfl⟩; rw [hn8] at hra; rw [hm8] at hla; subst hra hla; have HD3 := Lib.hid hd3; have HN3 := Lib.hid N3; have szk := hb3.size; have sz3 := N3.size; clear hn8 hm8)
            | (go_at_call 29; (with_reducible refine (hIg.out _ ck t v _ HCVa.out).mono ?_); rintro e w3 ⟨rv3, lv3, es3, rfl, hd3, hb3⟩; have N3 := KSP.next (And.left (by assumption)) hb3; obtain ⟨ra8, rc8, hra⟩ := hd3.raw.shape; obtain ⟨la8, lc8, hla⟩ := hd3.lvl.row.shape; obtain ⟨n8, hn8⟩ : ∃ n8, (ingM ck (t, v)).2.2.1.length = n8 := ⟨_, rfl⟩; obtain ⟨m8, hm8⟩ : ∃ m8, (ingM ck (t, v)).2.2.2.length = m8 := ⟨_, rfl⟩; rw [hn8] at hra; rw [hm8] at hla; subst hra hla; have HD3 := Lib.hid hd3; have HN3 := Lib.hid N3; have szk := hb3.size; have sz3 := N3.size; clear hn8 hm8; (have OB3 : Hid (BoxN w3 wr.heap.size #[.int .i64 0, .int .i64 0, .slice none 0 0, .slice none 0 0] 30) := Lib.hid ((hb3.block _ (by simp)).trans OBz.out)); have hob3x := OB3.out.lt; have o0 := BoxN.cell (i := 0) OB3.out rfl; have o1 := BoxN.cell (i := 1) OB3.out rfl; have o2 := BoxN.cell (i := 2) OB3.out rfl; have o3 := BoxN.cell (i := 3) OB3.out rfl; have f0 := BoxN.frozen (i := 0) OB3.out; have f1 := BoxN.frozen (i := 1) OB3.out; have f2 := BoxN.frozen (i := 2) OB3.out; have f3 := BoxN.frozen (i := 3) OB3.out))
        all_goals
          go_wp2_with fail
          go_meet
          case rel => first
            | exact ⟨_, ra8, n8, rc8, la8, m8, lc8, es3, _, _, rfl, rfl, BoxN.set4 OB3.out _ _ _ _, CD.set4n HD3.out (.inl (by simp)) _ _ _ _, KSP.set4 HN3.out (Nat.le_refl _) _ _ _ _, by simp, by simp [World.setCell], Nat.le_refl _, .inl (by simp)⟩
            | exact ⟨_, ra8, n8, rc8, la8, m8, lc8, es3, _, _, rfl, rfl, World.alloc_heap_new w3 _, HD3.out.below ((Below.refl _ _).alloc (Nat.le_refl _) _), HN3.out.alloc (by omega) _, Nat.le_refl _, by simp, by omega, .inr (Nat.le_refl _)⟩
      case rest =>
        obtain ⟨ob8, ra8, n8, rc8, la8, m8, lc8, es8, lo8, hi8, rfl, rfl, hbx, hcd, hbe, g1, g2, g3, g4⟩ := hcut
        obtain ⟨w5, hw5⟩ : ∃ w5, wc = w5 := ⟨_, rfl⟩
        rw [hw5] at hbx hcd hbe g2 ⊢
        clear hw5
        have S5 := hbe.size
        have X5 : BoxN w5 ob #[.int .i64 ck.1, .int .i64 ck.2.1, .slice ra n rc, .slice la m lc] 30 := (hbe.block _ HX.out.lt).trans HX.out
        have B5 := Lib.hid (HB.out.trans (hbe.mono hsz))
        have hobw := HX.out.lt
        cases hi5 : ingB ck (t, v) with
        | false =>
          have R5 : BoxN w5 (w.heap.size + 1) #[.int .i64 0, .int .i64 0, .slice none 0 0, .slice none 0 0] 30 := (B5.out.block _ (by have := R2.out.lt; omega)).trans R2.out
          have r0 := BoxN.cell (i := 0) R5 rfl
          have r1 := BoxN.cell (i := 1) R5 rfl
          have r2 := BoxN.cell (i := 2) R5 rfl
          have r3 := BoxN.cell (i := 3) R5 rfl
          have f0 := BoxN.frozen (i := 0) R5
          have f1 := BoxN.frozen (i := 1) R5
          have f2 := BoxN.frozen (i := 2) R5
          have f3 := BoxN.frozen (i := 3) R5
          have y0 := BoxN.cell (i := 0) X5 rfl
          have y1 := BoxN.cell (i := 1) X5 rfl
          have y2 := BoxN.cell (i := 2) X5 rfl
          have y3 := BoxN.cell (i := 3) X5 rfl
          have HYE := Lib.hid (HY.out k HCB.out (HBD.out hi5))
          have hne1 : ¬ ob = w.heap.size + 1 := by omega
          have hne2 : ¬ w.heap.size + 1 = ob := by omega
          have D5 := Lib.hid (HD.out.at_ (W' := w5) (fun g hg => hbe.block g (by have := (HD.out.lt hg).2.2; omega)))
          have HBf := Lib.hid (B2.out.trans (B5.out.mono (by omega)))
          clear hi5 hbx hcd hbe X5 R5
          go_wp2_with fail
          rw [HYE.out.1, HYE.out.2, HCKE.out]
          refine bodyPost_ret (v := .tuple #[.agg #[.int .i64 ck.1, .int .i64 ck.2.1, .slice ra n rc, .slice la m lc], .int .i64 (k : Int)]) (by simp [results, Try.results33, go_sem, r0, r1, r2, r3]) rfl ⟨.slice ra n rc, .slice la m lc, es, rfl, (CD.set4n D5.out (.inl (by omega)) _ _ _ _).lift (by omega) (by simp [World.setCell]; omega), ?_⟩
          repeat (first | with_reducible exact HBf.out | refine Below.setCell ?_ (by simp; try omega) _)
        | true =>
          have hM := Lib.hid (ingM_yes hi5)
          have y0 := BoxN.cell (i := 0) hbx rfl
          have y1 := BoxN.cell (i := 1) hbx rfl
          have y2 := BoxN.cell (i := 2) hbx rfl
          have y3 := BoxN.cell (i := 3) hbx rfl
          have x0 := BoxN.cell (i := 0) X5 rfl
          have x1 := BoxN.cell (i := 1) X5 rfl
          have x2 := BoxN.cell (i := 2) X5 rfl
          have x3 := BoxN.cell (i := 3) X5 rfl
          have f0 := BoxN.frozen (i := 0) X5
          have f1 := BoxN.frozen (i := 1) X5
          have f2 := BoxN.frozen (i := 2) X5
          have f3 := BoxN.frozen (i := 3) X5
          have hne1 : ¬ ob = ob8 := by omega
          have hne2 : ¬ ob8 = ob := by omega
          have HCD8 := Lib.hid hcd
          have HX5 := Lib.hid X5
          have HOK8 := Lib.hid hi5
          clear hbx hcd X5 hi5 hbe
          go_wp2_with fail
          go_roundw
          case rel =>
            refine ⟨k + 1, ra8, n8, rc8, la8, m8, lc8, es8, lo8, hi8, by omega, by omega, by go_num, ?_, ?_, ?_, by omega, by simp [World.setCell]; omega, .inl (by omega), ?_, ?_⟩
            · rw [HSU.out, ← hM.out]; exact Lib.hid (BoxN.set4 HX5.out _ _ _ _)
            · rw [HSU.out, ← hM.out]; exact Lib.hid (CD.set4n HCD8.out (.inl (by omega)) _ _ _ _)
            · exact Lib.hid (KSP.set4 B5.out hob2 _ _ _ _)
            · exact Lib.hid (fun j hj => by
                by_cases e : j = k
                · rw [e, HOKK.out]; exact HOK8.out
                · exact HAL.out j (by omega))
            · rw [HSU.out]; exact Lib.hid (ingB_casc HOK8.out)
          case measure => simp [intOf]; omega
    · have hR : BoxN wr (w.heap.size + 1) #[.int .i64 0, .int .i64 0, .slice none 0 0, .slice none 0 0] 30 := (HB.out.block _ (by have := R2.out.lt; omega)).trans R2.out
      have hkm : k = min ps.length 200 := by omega
      have HYE := Lib.hid (HY.out k HCB.out (HEND.out k HAL.out hkm))
      have HKM := Lib.hid hkm
      have hobw := HX.out.lt
      have r0 := BoxN.cell (i := 0) hR rfl
      have r1 := BoxN.cell (i := 1) hR rfl
      have r2 := BoxN.cell (i := 2) hR rfl
      have r3 := BoxN.cell (i := 3) hR rfl
      have f0 := BoxN.frozen (i := 0) hR
      have f1 := BoxN.frozen (i := 1) hR
      have f2 := BoxN.frozen (i := 2) hR
      have f3 := BoxN.frozen (i := 3) hR
      have y0 := BoxN.cell (i := 0) HX.out rfl
      have y1 := BoxN.cell (i := 1) HX.out rfl
      have y2 := BoxN.cell (i := 2) HX.out rfl
      have y3 := BoxN.cell (i := 3) HX.out rfl
      have hne1 : ¬ ob = w.heap.size + 1 := by omega
      have hne2 : ¬ w.heap.size + 1 = ob := by omega
      have HBf := Lib.hid (B2.out.trans (HB.out.mono (by omega)))
      have hmin : min (200 : Int) (ps.length : Int) = (k : Int) := by omega
      have HMIN := Lib.hid hmin
      clear hR hkm hmin
      by_cases h1 : k < ps.length
      · have hd1 : decide ((k : Int) < (ps.length : Int)) = true := decide_eq_true (by omega)
        have h2 : ¬ (k : Int) < 200 := by omega
        have hd2 : decide ((k : Int) < 200) = false := decide_eq_false h2
        clear hlt
        go_wp2_with fail
        rw [HYE.out.1, HYE.out.2]
        refine bodyPost_ret (v := .tuple #[.agg #[.int .i64 (iaC ps c k).1, .int .i64 (iaC ps c k).2.1, .slice ra n rc, .slice la m lc], .int .i64 (k : Int)]) (by first | (simp [results, Try.results33, go_sem, r0, r1, r2, r3, HMIN.out]; done) | (simp [results, Try.results33, go_sem, r0, r1, r2, r3]; have := HMIN.out; omega)) rfl ⟨.slice ra n rc, .slice la m lc, es, rfl, (CD.set4n HD.out (.inl (by omega)) _ _ _ _).lift (by omega) (by simp [World.setCell]; omega), ?_⟩
        repeat (first | with_reducible exact HBf.out | refine Below.setCell ?_ (by simp; try omega) _)
      · have h2 : ¬ (k : Int) < (ps.length : Int) := by omega
        have hd1 : decide ((k : Int) < (ps.length : Int)) = false := decide_eq_false h2
        clear hlt
        go_wp2_with fail
        all_goals
          first
            | (have e9 : (ps.length : Int) = (k : Int) := by omega
               rw [e9])
            | (have e9 : (200 : Int) = (k : Int) := by omega
               rw [e9])
          rw [HYE.out.1, HYE.out.2]
          refine bodyPost_ret (v := .tuple #[.agg #[.int .i64 (iaC ps c k).1, .int .i64 (iaC ps c k).2.1, .slice ra n rc, .slice la m lc], .int .i64 (k : Int)]) (by first | (simp [results, Try.results33, go_sem, r0, r1, r2, r3, HMIN.out]; done) | (simp [results, Try.results33, go_sem, r0, r1, r2, r3]; have := HMIN.out; omega)) rfl ⟨.slice ra n rc, .slice la m lc, es, rfl, (CD.set4n HD.out (.inl (by omega)) _ _ _ _).lift (by omega) (by simp [World.setCell]; omega), ?_⟩
          repeat (first | with_reducible exact HBf.out | refine Below.setCell ?_ (by simp; try omega) _)
end Go.Proofs.Ytcjpedolmnahfaa
