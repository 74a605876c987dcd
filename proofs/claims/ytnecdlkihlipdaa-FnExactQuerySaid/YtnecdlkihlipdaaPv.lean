/- Walks: queries: the model's Query. -/
import Derived.Test.YtnecdlkihlipdaaPt
set_option linter.unusedVariables false
set_option linter.unusedSimpArgs false
namespace Go.Proofs.Ytnecdlkihlipdaa
open Go.RowKit

set_option maxRecDepth 100000 in
set_option maxHeartbeats 4000000 in
theorem specQuery_pick (v : Value) (c : Cs) (f t hw : Int) (w : World) (h : CV w w.heap.size v c) (hp : ¬ -1 ≤ pickM c f) :
    Calls Try.prog 21 #[v, .int .i64 f, .int .i64 t, .int .i64 hw] w (QPost w.heap.size (qryM c f t hw) (qryB c f t hw) w) := by
  have HC := Lib.hid h
  have HCR := Lib.hid h.cr
  obtain ⟨nw, kp, rp, ls⟩ := c
  obtain ⟨rv, lv, rfl, hP, hL, z1, z2⟩ := h
  clear z1 z2
  simp only at hP hL HC HCR ⊢
  obtain ⟨z3, hpl, Ap, cp, rfl, z4⟩ := hP
  obtain ⟨z5, hll, Al, cl, rfl, z6⟩ := hL
  clear z3 z4 z5 z6
  obtain ⟨wb, hwb⟩ : ∃ wb, w.alloc (.cells #[.int .i64 nw, .int .i64 kp, .slice Ap rp.length cp, .slice Al ls.length cl] 31) = wb := ⟨_, rfl⟩
  have BX : BoxN wb w.heap.size #[.int .i64 nw, .int .i64 kp, .slice Ap rp.length cp, .slice Al ls.length cl] 31 := by rw [← hwb]; exact World.alloc_heap_new w _
  have HB := Lib.hid (show Below w.heap.size w wb from by rw [← hwb]; exact (Below.refl _ _).alloc (Nat.le_refl _) _)
  have HW := Lib.hid hwb
  have Q := Lib.hid BX
  have hltb : w.heap.size < wb.heap.size := BX.lt
  have x0 := BX.cell (i := 0) rfl
  have x1 := BX.cell (i := 1) rfl
  have x2 := BX.cell (i := 2) rfl
  have x3 := BX.cell (i := 3) rfl
  clear hwb BX
  have HPk := Lib.hid (specPick_any (.agg #[.int .i64 nw, .int .i64 kp, .slice Ap rp.length cp, .slice Al ls.length cl]) (nw, kp, rp, ls) f wb ((HC.out.below HB.out).up HB.out.size))
  have HNB := Lib.hid (qryB_pick (t := t) (h := hw) hp)
  have HNM := Lib.hid (qryM_no HNB.out)
  generalize hpk : pickM (nw, kp, rp, ls) f = p at HPk hp
  clear hpk
  have hq : decide (p < -1) = true := decide_eq_true (by omega)
  go_enter Try.func21, Try.ntmps21
  go_wp2_with fail
  rw [HW.out]
  go_wp2_with fail
  refine HPk.out.mono ?_
  rintro e w2 ⟨rfl, hb2⟩
  have Q2 : BoxN w2 w.heap.size #[.int .i64 nw, .int .i64 kp, .slice Ap rp.length cp, .slice Al ls.length cl] 31 := (hb2.block _ hltb).trans Q.out
  have HB2 := Lib.hid (HB.out.trans (hb2.mono (by omega)))
  clear x0 x1 x2 x3 Q
  have Q := Lib.hid Q2
  have x0 := Q2.cell (i := 0) rfl
  have x1 := Q2.cell (i := 1) rfl
  have x2 := Q2.cell (i := 2) rfl
  have x3 := Q2.cell (i := 3) rfl
  clear Q2
  go_wp2_with fail
  go_ret2
  rw [HNM.out, HNB.out]
  exact ⟨_, rfl, World.ownsRow_nil _ _ _ _, HB2.out⟩

set_option maxRecDepth 100000 in
set_option maxHeartbeats 4000000 in
theorem specQuery_to (v : Value) (c : Cs) (f t hw : Int) (w : World) (h : CV w w.heap.size v c) (hp : -1 ≤ pickM c f) (ht : vIn t 0 1000000000000 = false) :
    Calls Try.prog 21 #[v, .int .i64 f, .int .i64 t, .int .i64 hw] w (QPost w.heap.size (qryM c f t hw) (qryB c f t hw) w) := by
  have HC := Lib.hid h
  have HCR := Lib.hid h.cr
  obtain ⟨nw, kp, rp, ls⟩ := c
  obtain ⟨rv, lv, rfl, hP, hL, z1, z2⟩ := h
  clear z1 z2
  simp only at hP hL HC HCR ⊢
  obtain ⟨z3, hpl, Ap, cp, rfl, z4⟩ := hP
  obtain ⟨z5, hll, Al, cl, rfl, z6⟩ := hL
  clear z3 z4 z5 z6
  obtain ⟨wb, hwb⟩ : ∃ wb, w.alloc (.cells #[.int .i64 nw, .int .i64 kp, .slice Ap rp.length cp, .slice Al ls.length cl] 31) = wb := ⟨_, rfl⟩
  have BX : BoxN wb w.heap.size #[.int .i64 nw, .int .i64 kp, .slice Ap rp.length cp, .slice Al ls.length cl] 31 := by rw [← hwb]; exact World.alloc_heap_new w _
  have HB := Lib.hid (show Below w.heap.size w wb from by rw [← hwb]; exact (Below.refl _ _).alloc (Nat.le_refl _) _)
  have HW := Lib.hid hwb
  have Q := Lib.hid BX
  have hltb : w.heap.size < wb.heap.size := BX.lt
  have x0 := BX.cell (i := 0) rfl
  have x1 := BX.cell (i := 1) rfl
  have x2 := BX.cell (i := 2) rfl
  have x3 := BX.cell (i := 3) rfl
  clear hwb BX
  have HPk := Lib.hid (specPick_any (.agg #[.int .i64 nw, .int .i64 kp, .slice Ap rp.length cp, .slice Al ls.length cl]) (nw, kp, rp, ls) f wb ((HC.out.below HB.out).up HB.out.size))
  have HNB := Lib.hid (qryB_to (f := f) (h := hw) (c := (nw, kp, rp, ls)) ht)
  have HNM := Lib.hid (qryM_no HNB.out)
  generalize hpk : pickM (nw, kp, rp, ls) f = p at HPk hp
  clear hpk
  have hq : decide (p < -1) = false := decide_eq_false (by omega)
  have hT := Lib.hid (fun W => v_l1In_any t 0 1000000000000 W)
  rw [ht] at hT
  go_enter Try.func21, Try.ntmps21
  go_wp2_with fail
  rw [HW.out]
  go_wp2_with fail
  refine HPk.out.mono ?_
  rintro e w2 ⟨rfl, hb2⟩
  have Q2 : BoxN w2 w.heap.size #[.int .i64 nw, .int .i64 kp, .slice Ap rp.length cp, .slice Al ls.length cl] 31 := (hb2.block _ hltb).trans Q.out
  have HB2 := Lib.hid (HB.out.trans (hb2.mono (by omega)))
  clear x0 x1 x2 x3 Q
  have Q := Lib.hid Q2
  have x0 := Q2.cell (i := 0) rfl
  have x1 := Q2.cell (i := 1) rfl
  have x2 := Q2.cell (i := 2) rfl
  have x3 := Q2.cell (i := 3) rfl
  clear Q2
  go_wp2_with (first | (go_at_call 50; with_reducible refine (hT.out _).mono ?_; rintro e w' ⟨rfl, rfl⟩))
  go_ret2
  rw [HNM.out, HNB.out]
  exact ⟨_, rfl, World.ownsRow_nil _ _ _ _, HB2.out⟩

set_option maxRecDepth 100000 in
set_option maxHeartbeats 4000000 in
theorem specQuery_how (v : Value) (c : Cs) (f t hw : Int) (w : World) (h : CV w w.heap.size v c) (hp : -1 ≤ pickM c f) (ht : vIn t 0 1000000000000 = true) (hh : vIn hw 1 6 = false) :
    Calls Try.prog 21 #[v, .int .i64 f, .int .i64 t, .int .i64 hw] w (QPost w.heap.size (qryM c f t hw) (qryB c f t hw) w) := by
  have HC := Lib.hid h
  have HCR := Lib.hid h.cr
  obtain ⟨nw, kp, rp, ls⟩ := c
  obtain ⟨rv, lv, rfl, hP, hL, z1, z2⟩ := h
  clear z1 z2
  simp only at hP hL HC HCR ⊢
  obtain ⟨z3, hpl, Ap, cp, rfl, z4⟩ := hP
  obtain ⟨z5, hll, Al, cl, rfl, z6⟩ := hL
  clear z3 z4 z5 z6
  obtain ⟨wb, hwb⟩ : ∃ wb, w.alloc (.cells #[.int .i64 nw, .int .i64 kp, .slice Ap rp.length cp, .slice Al ls.length cl] 31) = wb := ⟨_, rfl⟩
  have BX : BoxN wb w.heap.size #[.int .i64 nw, .int .i64 kp, .slice Ap rp.length cp, .slice Al ls.length cl] 31 := by rw [← hwb]; exact World.alloc_heap_new w _
  have HB := Lib.hid (show Below w.heap.size w wb from by rw [← hwb]; exact (Below.refl _ _).alloc (Nat.le_refl _) _)
  have HW := Lib.hid hwb
  have Q := Lib.hid BX
  have hltb : w.heap.size < wb.heap.size := BX.lt
  have x0 := BX.cell (i := 0) rfl
  have x1 := BX.cell (i := 1) rfl
  have x2 := BX.cell (i := 2) rfl
  have x3 := BX.cell (i := 3) rfl
  clear hwb BX
  have HPk := Lib.hid (specPick_any (.agg #[.int .i64 nw, .int .i64 kp, .slice Ap rp.length cp, .slice Al ls.length cl]) (nw, kp, rp, ls) f wb ((HC.out.below HB.out).up HB.out.size))
  have HNB := Lib.hid (qryB_how (f := f) (t := t) (c := (nw, kp, rp, ls)) hh)
  have HNM := Lib.hid (qryM_no HNB.out)
  generalize hpk : pickM (nw, kp, rp, ls) f = p at HPk hp
  clear hpk
  have hq : decide (p < -1) = false := decide_eq_false (by omega)
  have hT := Lib.hid (fun W => v_l1In_any t 0 1000000000000 W)
  have hK := Lib.hid (fun W => v_l1In_any hw 1 6 W)
  rw [ht] at hT
  rw [hh] at hK
  go_enter Try.func21, Try.ntmps21
  go_wp2_with fail
  rw [HW.out]
  go_wp2_with fail
  refine HPk.out.mono ?_
  rintro e w2 ⟨rfl, hb2⟩
  have Q2 : BoxN w2 w.heap.size #[.int .i64 nw, .int .i64 kp, .slice Ap rp.length cp, .slice Al ls.length cl] 31 := (hb2.block _ hltb).trans Q.out
  have HB2 := Lib.hid (HB.out.trans (hb2.mono (by omega)))
  clear x0 x1 x2 x3 Q
  have Q := Lib.hid Q2
  have x0 := Q2.cell (i := 0) rfl
  have x1 := Q2.cell (i := 1) rfl
  have x2 := Q2.cell (i := 2) rfl
  have x3 := Q2.cell (i := 3) rfl
  clear Q2
  go_wp2_with (first | (go_at_call 50; with_reducible refine (hT.out _).mono ?_; rintro e w' ⟨rfl, rfl⟩) | (go_at_call 50; with_reducible refine (hK.out _).mono ?_; rintro e w' ⟨rfl, rfl⟩))
  go_ret2
  rw [HNM.out, HNB.out]
  exact ⟨_, rfl, World.ownsRow_nil _ _ _ _, HB2.out⟩

theorem LSB_at {w : World} {B : Nat} {A : Option Addr} {n c : Nat} {xs : List Lv} (h : LS w B (.slice A n c) xs) {k : Nat} (hk : k < n) :
    ∃ b off, A = some ⟨b, off, none⟩ ∧ w.cell? ⟨b, off + k * 3, none⟩ = some (.int .i64 (xs.getD k zLv).1) ∧ w.cell? ⟨b, off + k * 3 + 1, none⟩ = some (.int .i64 (xs.getD k zLv).2.1) ∧ ∃ r, w.cell? ⟨b, off + k * 3 + 2, none⟩ = some r ∧ RL w B r (xs.getD k zLv).2.2 := by
  obtain ⟨_, _, A', c', he, h3⟩ := h
  injection he with e1 e2 e3
  rcases h3 with h3 | ⟨b, off, hb, _, hc⟩
  · rw [h3] at e2; simp at e2; omega
  · obtain ⟨x0, x1, r, x2, hr⟩ := hc k (by omega)
    exact ⟨b, off, e1.trans hb, x0, x1, r, x2, hr⟩
def RlX (W : World) (B : Nat) (r : Value) (rs : List R6) : Prop := RL W B r rs ∨ W.ownsRow B 61 6 r rs.length (rls rs)
theorem RlX.rl {W : World} {B : Nat} {r : Value} {rs : List R6} (h : RlX W B r rs) (hB : B ≤ W.heap.size) (hr : ∀ j, j < rs.length → TR (rs.getD j z6)) (hl : rs.length ≤ 400) : RL W W.heap.size r rs := by
  rcases h with h | h
  · exact h.up hB
  · refine RL.of_own h rfl (fun j => ?_) (by omega)
    by_cases hj : j < rs.length
    · exact (hr j hj).2.2
    · rw [List.getD_eq_getElem?_getD, List.getElem?_eq_none (by omega)]; exact rng6_zero
theorem RlX.below {W W' : World} {B : Nat} {r : Value} {rs : List R6} (h : RlX W B r rs) (hb : Below W.heap.size W W') (hB : B ≤ W.heap.size) : RlX W' B r rs := by
  rcases h with h | h
  · exact .inl (h.below (hb.mono hB))
  · exact .inr (u_own_below h hb)
theorem RlX.grown {W W' : World} {B : Nat} {r v : Value} {n : Nat} {rs : List R6} {xs : List Value} (h : RlX W B r rs) (hv : W.ownsRow B 55 2 v n xs) (hg : W.grownBy W' v.ownBlock) (hB : B ≤ W.heap.size) : RlX W' B r rs := by
  rcases h with h | h
  · refine .inl (h.below ⟨hg.os, hg.tape, hg.output, hg.size, fun k hk => hg.block k (by omega) (fun e => ?_)⟩)
    have := (hv.lt k e.symm).1
    omega
  · refine .inr (h.kept hg ?_)
    cases e : r.ownBlock with
    | none => exact .inl rfl
    | some g =>
      right
      intro e2
      rcases h.2 with ⟨rfl, _⟩ | ⟨g1, c1, u1, rfl, _, hg1, _⟩
      · cases e
      · rcases hv.2 with ⟨rfl, _⟩ | ⟨g2, c2, u2, rfl, _, hg2, _⟩
        · cases e2
        · injection e with e; injection e2 with e2
          simp only at e e2
          rw [e, e2, hg2] at hg1
          injection hg1 with hg1
          injection hg1 with _ h9 _
          exact absurd h9 (by decide)

set_option maxRecDepth 100000 in
set_option maxHeartbeats 2000000 in
theorem l9RollsX_any (B : Nat) (v : Value) (c : Cs) (p : Int) (w : World) (h : CV w B v c) (hB : B ≤ w.heap.size) (hc : cascB c = true) (hp : p = -1 ∨ 0 ≤ p ∧ p < c.2.2.2.length) :
    Calls Try.prog 59 #[v, .int .i64 p] w fun e w' => ∃ r, e = .returned r ∧ (RL w' B r (pickRs c p) ∨ w'.ownsRow w.heap.size 61 6 r (pickRs c p).length (rls (pickRs c p))) ∧ Below w.heap.size w w' := by
  have HCR := Lib.hid h.cr
  have HPT := Lib.hid (pickRs_tr hc h.cr hp)
  obtain ⟨nw, kp, rp, ls⟩ := c
  obtain ⟨rv, lv, rfl, hP, hL, z1, z2⟩ := h
  clear z1 z2
  simp only at hP hL hp ⊢
  have hsm : ptsSmB rp = true := by
    unfold cascB at hc
    rw [Bool.and_eq_true] at hc
    exact (headB_in hc.1).2.2.1
  clear hc
  have HP := Lib.hid hP
  have HL := Lib.hid hL
  obtain ⟨z3, hpl, Ap, cp, rfl, z4⟩ := hP
  obtain ⟨z5, hll, Al, cl, rfl, z6⟩ := hL
  clear z3 z4 z5 z6
  obtain ⟨wb, hwb⟩ : ∃ wb, w.alloc (.cells #[.int .i64 nw, .int .i64 kp, .slice Ap rp.length cp, .slice Al ls.length cl] 31) = wb := ⟨_, rfl⟩
  have BX : BoxN wb w.heap.size #[.int .i64 nw, .int .i64 kp, .slice Ap rp.length cp, .slice Al ls.length cl] 31 := by rw [← hwb]; exact World.alloc_heap_new w _
  have HB := Lib.hid (show Below w.heap.size w wb from by rw [← hwb]; exact (Below.refl _ _).alloc (Nat.le_refl _) _)
  have HW := Lib.hid hwb
  have x2 := BX.cell (i := 2) rfl
  have x3 := BX.cell (i := 3) rfl
  clear hwb BX
  rcases hp with rfl | ⟨hp0, hp1⟩
  · have HS := Lib.hid hsm
    clear hsm
    have hcal := Lib.hid (specL7Rolls_any (.slice Ap rp.length cp) rp 1 wb ((HP.out.below (HB.out.mono hB)).up (Nat.le_trans hB HB.out.size)) (ptsSmB_pts HS.out) (by decide) (by decide))
    go_enter Try.func59, Try.ntmps59
    go_wp2_with fail
    rw [HW.out]
    go_wp2_with fail
    refine hcal.out.mono ?_
    rintro e w1 ⟨r1, rfl, hown, hb⟩
    have hb2 := HB.out.trans (hb.mono HB.out.size)
    have HB2 := Lib.hid hb2
    have HR := Lib.hid (show w1.ownsRow w.heap.size 61 6 r1 (pickRs (nw, kp, rp, ls) (-1)).length (rls (pickRs (nw, kp, rp, ls) (-1))) from by
      unfold pickRs
      rw [if_pos rfl]
      exact p_base' hown HB.out.size)
    obtain ⟨ra, rn, rc, rfl⟩ := own_shape hown
    clear hown hb hb2 x2 x3
    go_wp2_with fail
    go_ret
    exact ⟨_, rfl, .inr HR.out, HB2.out⟩
  · obtain ⟨j, rfl⟩ : ∃ j : Nat, p = j := ⟨p.toNat, by omega⟩
    have hj : j < ls.length := by omega
    clear hsm hp0 hp1
    have z10 : ¬ (j : Int) = -1 := by omega
    have z11 : ((j : Int) == -1) = false := beq_eq_false_iff_ne.2 z10
    have z12 : decide ((j : Int) < 0) = false := decide_eq_false (by omega)
    obtain ⟨b, off, rfl, y0, y1, r, y2, hrl⟩ := LSB_at (HL.out.below (HB.out.mono hB)) hj
    have HR := Lib.hid (show RL wb B r (pickRs (nw, kp, rp, ls) j) from by
      unfold pickRs
      rw [if_neg (by omega)]; exact hrl)
    obtain ⟨z7, z8, ra, rc, rfl, z9⟩ := hrl
    clear z7 z8 z9 y0 y1
    generalize (ls.getD j zLv).2.2.length = rn at y2 HR
    rw [← HW.out] at y2
    go_enter Try.func59, Try.ntmps59
    go_wp2_with fail
    go_ret
    rw [HW.out]
    exact ⟨_, rfl, .inl HR.out, HB.out⟩

set_option maxRecDepth 100000 in
set_option maxHeartbeats 4000000 in
theorem specQuery_good (v : Value) (c : Cs) (f t hw : Int) (w : World) (h : CV w w.heap.size v c) (hp : -1 ≤ pickM c f) (ht : vIn t 0 1000000000000 = true) (hh : vIn hw 1 6 = true) :
    Calls Try.prog 21 #[v, .int .i64 f, .int .i64 t, .int .i64 hw] w (QPost w.heap.size (qryM c f t hw) (qryB c f t hw) w) := by
  have HC := Lib.hid h
  have HCR := Lib.hid h.cr
  obtain ⟨nw, kp, rp, ls⟩ := c
  obtain ⟨rv, lv, rfl, hP, hL, z1, z2⟩ := h
  clear z1 z2
  simp only at hP hL HC HCR ⊢
  obtain ⟨z3, hpl, Ap, cp, rfl, z4⟩ := hP
  obtain ⟨z5, hll, Al, cl, rfl, z6⟩ := hL
  clear z3 z4 z5 z6
  obtain ⟨wb, hwb⟩ : ∃ wb, w.alloc (.cells #[.int .i64 nw, .int .i64 kp, .slice Ap rp.length cp, .slice Al ls.length cl] 31) = wb := ⟨_, rfl⟩
  have BX : BoxN wb w.heap.size #[.int .i64 nw, .int .i64 kp, .slice Ap rp.length cp, .slice Al ls.length cl] 31 := by rw [← hwb]; exact World.alloc_heap_new w _
  have HB := Lib.hid (show Below w.heap.size w wb from by rw [← hwb]; exact (Below.refl _ _).alloc (Nat.le_refl _) _)
  have HW := Lib.hid hwb
  have Q := Lib.hid BX
  have hltb : w.heap.size < wb.heap.size := BX.lt
  have x0 := BX.cell (i := 0) rfl
  have x1 := BX.cell (i := 1) rfl
  have x2 := BX.cell (i := 2) rfl
  have x3 := BX.cell (i := 3) rfl
  clear hwb BX
  have HPk := Lib.hid (specPick_any (.agg #[.int .i64 nw, .int .i64 kp, .slice Ap rp.length cp, .slice Al ls.length cl]) (nw, kp, rp, ls) f wb ((HC.out.below HB.out).up HB.out.size))
  have h16 := vIn6.1 hh
  have HNB := Lib.hid (qryB_ok hp ht hh)
  have HNM := Lib.hid (qryM_yes HNB.out)
  obtain ⟨hcb, hfq, hpp⟩ := pickM_at hp
  have HPT := Lib.hid (pickRs_tr hcb HCR.out hpp)
  have hval := Lib.hid (fun r W hr => l9Of_any hw r W h16 hr)
  have hRA := Lib.hid (fun B W h hB => l9RollsX_any B (.agg #[.int .i64 nw, .int .i64 kp, .slice Ap rp.length cp, .slice Al ls.length cl]) (nw, kp, rp, ls) (pickM (nw, kp, rp, ls) f) W h hB hcb hpp)
  clear hpp hcb hfq
  generalize hrs : pickRs (nw, kp, rp, ls) (pickM (nw, kp, rp, ls) f) = rs at HPT HNM hRA
  clear hrs
  generalize hpk : pickM (nw, kp, rp, ls) f = p at HPk hp hRA
  clear hpk
  have hq : decide (p < -1) = false := decide_eq_false (by omega)
  have hT := Lib.hid (fun W => v_l1In_any t 0 1000000000000 W)
  have hK := Lib.hid (fun W => v_l1In_any hw 1 6 W)
  rw [ht] at hT
  rw [hh] at hK
  clear h16
  go_enter Try.func21, Try.ntmps21
  go_wp2_with fail
  rw [HW.out]
  go_wp2_with fail
  refine HPk.out.mono ?_
  rintro e w2 ⟨rfl, hb2⟩
  have Q2 : BoxN w2 w.heap.size #[.int .i64 nw, .int .i64 kp, .slice Ap rp.length cp, .slice Al ls.length cl] 31 := (hb2.block _ hltb).trans Q.out
  have HB2 := Lib.hid (HB.out.trans (hb2.mono (by omega)))
  clear x0 x1 x2 x3 Q
  have Q := Lib.hid Q2
  have x0 := Q2.cell (i := 0) rfl
  have x1 := Q2.cell (i := 1) rfl
  have x2 := Q2.cell (i := 2) rfl
  have x3 := Q2.cell (i := 3) rfl
  clear Q2
  have Qa : BoxN (w2.alloc (.cells #[] 55)) w.heap.size #[.int .i64 nw, .int .i64 kp, .slice Ap rp.length cp, .slice Al ls.length cl] 31 := (Below.heap_alloc _ _ _ Q.out.lt).trans Q.out
  have a0 := Qa.cell (i := 0) rfl
  have a1 := Qa.cell (i := 1) rfl
  have a2 := Qa.cell (i := 2) rfl
  have a3 := Qa.cell (i := 3) rfl
  clear Qa
  go_wp2_with (first | (go_at_call 50; with_reducible refine (hT.out _).mono ?_; rintro e w' ⟨rfl, rfl⟩) | (go_at_call 50; with_reducible refine (hK.out _).mono ?_; rintro e w' ⟨rfl, rfl⟩))
  refine (hRA.out w2.heap.size _ (((HC.out.below HB2.out).up HB2.out.size).below ((Below.refl _ _).alloc (Nat.le_refl _) _)) (by simp)).mono ?_
  rintro e w3 ⟨r, rfl, hx, hb3⟩
  have HX := Lib.hid (show RlX w3 w2.heap.size r rs from by
    rcases hx with hx | hx
    · exact .inl hx
    · exact .inr (p_base' hx (by simp)))
  have HB3 := Lib.hid (((Below.refl w2.heap.size w2).alloc (Nat.le_refl _) (.cells #[] 55)).trans (hb3.mono (by simp)))
  have HO3 := Lib.hid (u_own_below (World.ownsRow_made w2 (base := w2.heap.size) (e := 55) (size := 2) #[] 0 (Nat.le_refl _) (by simp [maxLen]) rfl) hb3)
  have hs2 : w.heap.size ≤ w2.heap.size := HB2.out.size
  have hrl := HX.out.rl HB3.out.size HPT.out.1 HPT.out.2
  obtain ⟨z1, hlen, Ar, cr, rfl, z2⟩ := hrl
  clear z1 z2 hx hb3
  obtain ⟨i0, hi, hz0, hz1, hz2⟩ := info_parts info_pt
  clear Q x0 x1 x2 x3 a0 a1 a2 a3 HPk hRA hT hK
  go_wp2_with fail
  go_loopw [11, 13] (fun v i wr => ∃ k : Nat, k ≤ rs.length ∧ i = .int .i64 k ∧ Hid (wr.ownsRow w2.heap.size 55 2 v (qryL (rs.take k) f t hw).length (prs (qryL (rs.take k) f t hw))) ∧ Hid (Below w2.heap.size w2 wr) ∧ Hid (RlX wr w2.heap.size (.slice Ar rs.length cr) rs)) (fun _ i _ => rs.length - (intOf i).toNat)
  case atStart => exact ⟨0, Nat.zero_le _, rfl, Lib.hid (by simpa [qryL, prs] using HO3.out), HB3, HX⟩
  case round =>
    obtain ⟨k, hk, rfl, HO, HD, HX⟩ := hrel
    have hsz := HD.out.size
    by_cases hlt : k < rs.length
    · obtain ⟨b, off, rfl, hbl, k0, k1, k2, k3, k4, k5⟩ := (HX.out.rl hsz HPT.out.1 HPT.out.2).at_ hlt
      have HS := Lib.hid (qryL_succ f t hw hlt)
      have HTR := Lib.hid (HPT.out.1 k hlt)
      have hlq : (qryL (rs.take k) f t hw).length ≤ 400 := by
        have h1 := qryL_len (rs.take k) f t hw
        have h2 := HPT.out.2
        rw [List.length_take] at h1; omega
      obtain ⟨r0, r1, r2, r3, r4, r5, hX⟩ : ∃ a b c d e g, rs.getD k z6 = (a, b, c, d, e, g) := ⟨_, _, _, _, _, _, rfl⟩
      rw [hX] at k0 k1 k2 k3 k4 k5 HS HTR
      simp only at k0 k1 k2 k3 k4 k5 HS
      clear hX
      have hvc := Lib.hid (fun W => hval.out (r0, r1, r2, r3, r4, r5) W HTR.out)
      generalize aggV hw (r0, r1, r2, r3, r4, r5) = av at HS hvc
      generalize qryL (rs.take k) f t hw = ys at HO HS hlq
      by_cases g1 : f ≤ r0
      case neg =>
        have E := HS.out
        rw [if_neg (fun e => g1 e.1), List.append_nil] at E
        have E := Lib.hid E
        go_wp2_with fail
        go_roundw
        case rel => exact ⟨k + 1, by omega, by go_num, Lib.hid (by rw [E.out]; exact HO.out), HD, HX⟩
        case measure => simp [intOf]; omega
      by_cases g2 : r0 < t
      case neg =>
        have E := HS.out
        rw [if_neg (fun e => g2 e.2), List.append_nil] at E
        have E := Lib.hid E
        go_wp2_with fail
        go_roundw
        case rel => exact ⟨k + 1, by omega, by go_num, Lib.hid (by rw [E.out]; exact HO.out), HD, HX⟩
        case measure => simp [intOf]; omega
      have E := HS.out
      rw [if_pos ⟨g1, g2⟩] at E
      have E := Lib.hid E
      clear HS
      go_wp2_with fail
      go_region_law (first
        | (go_simp; go_at_call 60; refine (hvc.out _).mono ?_; rintro e w5 ⟨rfl, hb5⟩; have z0 : w5.cell? ⟨b, off + k * 6, none⟩ = some (.int .i64 r0) := (hb5.cell (p := ⟨b, off + k * 6, none⟩) (by first | exact hbl | (simp; omega))).trans (by first | exact k0 | go_simp); have HO5 := Lib.hid (u_own_below (by first | exact HO.out | exact HO.out.drew) hb5); have HX5 := Lib.hid (show RlX w5 w2.heap.size _ rs from RlX.below (by first | exact HX.out) (show Below wr.heap.size wr w5 from ((Below.refl wr.heap.size wr).drew.trans hb5)) hsz); have HB5 := Lib.hid (HD.out.drew.trans (hb5.mono (by first | exact hsz | (simp; omega)))); have hs5 := HB5.out.size; clear hb5)
        | (refine step_append_ownR _ rfl _ _ 28 rfl w2.heap.size 55 i0 (.agg #[.int .i64 0, .int .i64 0]) 2 16 Try.underlying28 hi hz0 hz1 hz2 rfl (by decide) u11 ys.length (prs ys) rfl (HO5.out.alloc _) ⟨w5.heap.size, 0, none⟩ 1 1 [.int .i64 r0, .int .i64 av] rfl rfl (two_cells (by go_simp) (by go_simp)) (fun u hu => by simp at hu; rcases hu with rfl | rfl <;> rfl) (by unfold maxLen; omega) (by omega) (by first | omega | (simp; omega)) ?_; intro v6 w6 hown6 hgrow6; have HO6 := Lib.hid (show w6.ownsRow w2.heap.size 55 2 v6 (qryL (rs.take (k + 1)) f t hw).length (prs (qryL (rs.take (k + 1)) f t hw)) from by rw [E.out, prs_append, List.length_append]; exact hown6); have HX6 := Lib.hid (RlX.grown (RlX.below HX5.out ((Below.refl _ _).alloc (Nat.le_refl _) _) hs5) (HO5.out.alloc _) hgrow6 (by first | omega | (simp; omega))); have HB6 := Lib.hid ((HB5.out.alloc (by omega) (.cells #[.int .i64 r0, .int .i64 av] 55)).grown hgrow6 (by first | omega | (simp; omega)) (fun j hj => (HO5.out.lt j hj).1)); clear hown6 hgrow6))
      all_goals
        go_simp
        go_wp2_with fail
        go_roundw
        case rel => exact ⟨k + 1, by omega, by go_num, HO6, HB6, HX6⟩
        case measure => simp [intOf]; omega
    · obtain rfl : k = rs.length := by omega
      have ho := HO.out
      rw [List.take_length] at ho
      have HO2 := Lib.hid ho
      clear ho
      go_wp2_with fail
      go_ret2
      rw [HNM.out, HNB.out]
      exact ⟨_, rfl, p_base' HO2.out hs2, HB2.out.trans (HD.out.mono hs2)⟩

theorem specQuery_any (v : Value) (c : Cs) (f t hw : Int) (w : World) (h : CV w w.heap.size v c) :
    Calls Try.prog 21 #[v, .int .i64 f, .int .i64 t, .int .i64 hw] w (QPost w.heap.size (qryM c f t hw) (qryB c f t hw) w) := by
  by_cases hp : -1 ≤ pickM c f
  · cases ht : vIn t 0 1000000000000 with
    | false => exact specQuery_to v c f t hw w h hp ht
    | true =>
      cases hh : vIn hw 1 6 with
      | true => exact specQuery_good v c f t hw w h hp ht hh
      | false => exact specQuery_how v c f t hw w h hp ht hh
  · exact specQuery_pick v c f t hw w h hp
end Go.Proofs.Ytnecdlkihlipdaa
