/- Walks: cascades: how many marks; rows beside a change. -/
import Derived.Test.YtcjpedolmnahfaaPe
import Derived.Test.YtcjpedolmnahfaaPt
import Derived.Test.YtcjpedolmnahfaaPk
set_option linter.unusedVariables false
set_option linter.unusedSimpArgs false
namespace Go.Proofs.Ytcjpedolmnahfaa
open Go.RowKit

theorem own_chg {S : Nat → Prop} {W W' : World} {base sz : Nat} {e : TypeId} {v : Value} {n : Nat} {xs : List Value} (h : W.ownsRow base e sz v n xs) (hc : Chg S W W') (hs : ∀ g, v.ownBlock = some g → ¬ S g) : W'.ownsRow base e sz v n xs := by
  refine ⟨h.1, ?_⟩
  rcases h.2 with h0 | ⟨g, cap, cur, rfl, hb, hg, hr⟩
  · exact .inl h0
  · exact .inr ⟨g, cap, cur, rfl, hb, (hc.block g (Array.getElem?_eq_some_iff.1 hg).1 (hs g rfl)).trans hg, hr⟩
theorem totL_le : ∀ ls : List Lv, (∀ j, j < ls.length → (ls.getD j zLv).2.2.length ≤ 1048576) → totL ls ≤ (ls.length : Int) * 6291458
  | [], _ => by simp [totL]
  | x :: ls, h => by
    have h1 := totL_le ls (fun j hj => by have := h (j + 1) (by simpa using hj); simpa using this)
    have h2 := h 0 (by simp)
    simp only [List.getD_cons_zero] at h2
    simp only [totL, List.length_cons]
    omega
theorem totC_nonneg (c : Cs) : 0 ≤ totC c := by have := totL_nonneg c.2.2.2; unfold totC; omega
theorem totC_le {c : Cs} (h : CR c) : totC c ≤ 10000000000000 := by
  have h1 := totL_le c.2.2.2 (fun j hj => (h.rolls j hj).2)
  have h2 := h.rlen
  have h3 := h.llen
  unfold totC
  omega
end Go.Proofs.Ytcjpedolmnahfaa

/- Walks: queries: the model's Query. -/
set_option linter.unusedVariables false
set_option linter.unusedSimpArgs false
namespace Go.Proofs.Ytcjpedolmnahfaa
open Go.RowKit

set_option maxRecDepth 100000 in
set_option maxHeartbeats 4000000 in
theorem specQuery_pick (v : Value) (c : Cs) (f t hw : Int) (w : World) (h : CV w w.heap.size v c) (hp : ¬ -1 ≤ pickM c f) :
    Calls Try.prog 40 #[v, .int .i64 f, .int .i64 t, .int .i64 hw] w (QPost w.heap.size (qryM c f t hw) (qryB c f t hw) w) := by
  have HC := Lib.hid h
  have HCR := Lib.hid h.cr
  obtain ⟨nw, kp, rp, ls⟩ := c
  obtain ⟨rv, lv, rfl, hP, hL, z1, z2⟩ := h
  clear z1 z2
  simp only at hP hL HC HCR ⊢
  obtain ⟨z3, hpl, Ap, cp, rfl, z4⟩ := hP
  obtain ⟨z5, hll, Al, cl, rfl, z6⟩ := hL
  clear z3 z4 z5 z6
  obtain ⟨wb, hwb⟩ : ∃ wb, w.alloc (.cells #[.int .i64 nw, .int .i64 kp, .slice Ap rp.length cp, .slice Al ls.length cl] 30) = wb := ⟨_, rfl⟩
  have BX : BoxN wb w.heap.size #[.int .i64 nw, .int .i64 kp, .slice Ap rp.length cp, .slice Al ls.length cl] 30 := by rw [← hwb]; exact World.alloc_heap_new w _
  have HB := Lib.hid (show Below w.heap.size w wb from by rw [← hwb]; exact (Below.refl _ _).alloc (Nat.le_refl _) _)
  have HW := Lib.hid hwb
  have Q := Lib.hid BX
  have hltb : w.heap.size < wb.heap.size := BX.lt
  have x0 := BX.cell (i := 0) rfl
  have x1 := BX.cell (i := 1) rfl
  have x2 := BX.cell (i := 2) rfl
  have x3 := BX.cell (i := 3) rfl
  clear hwb BX
  have HPk := Lib.hid (specPick_any (.agg #[.int .i64 nw, .int .i64 kp, .slice Ap rp.length cp, .slice Al ls.length cl]) (nw, kp, rp, ls) f wb ((HC.out.below HB.out).up HB.out.size))
  have HNB := Lib.hid (qryB_pick (t := t) (h := hw) hp)
  have HNM := Lib.hid (qryM_no HNB.out)
  generalize hpk : pickM (nw, kp, rp, ls) f = p at HPk hp
  clear hpk
  have hq : decide (p < -1) = true := decide_eq_true (by omega)
  go_enter Try.func40, Try.ntmps40
  go_wp2_with fail
  rw [HW.out]
  go_wp2_with fail
  refine HPk.out.mono ?_
  rintro e w2 ⟨rfl, hb2⟩
  have Q2 : BoxN w2 w.heap.size #[.int .i64 nw, .int .i64 kp, .slice Ap rp.length cp, .slice Al ls.length cl] 30 := (hb2.block _ hltb).trans Q.out
  have HB2 := Lib.hid (HB.out.trans (hb2.mono (by omega)))
  clear x0 x1 x2 x3 Q
  have Q := Lib.hid Q2
  have x0 := Q2.cell (i := 0) rfl
  have x1 := Q2.cell (i := 1) rfl
  have x2 := Q2.cell (i := 2) rfl
  have x3 := Q2.cell (i := 3) rfl
  clear Q2
  go_wp2_with fail
  go_ret2
  rw [HNM.out, HNB.out]
  exact ⟨_, rfl, World.ownsRow_nil _ _ _ _, HB2.out⟩

set_option maxRecDepth 100000 in
set_option maxHeartbeats 4000000 in
theorem specQuery_to (v : Value) (c : Cs) (f t hw : Int) (w : World) (h : CV w w.heap.size v c) (hp : -1 ≤ pickM c f) (ht : vIn t 0 1000000000000 = false) :
    Calls Try.prog 40 #[v, .int .i64 f, .int .i64 t, .int .i64 hw] w (QPost w.heap.size (qryM c f t hw) (qryB c f t hw) w) := by
  have HC := Lib.hid h
  have HCR := Lib.hid h.cr
  obtain ⟨nw, kp, rp, ls⟩ := c
  obtain ⟨rv, lv, rfl, hP, hL, z1, z2⟩ := h
  clear z1 z2
  simp only at hP hL HC HCR ⊢
  obtain ⟨z3, hpl, Ap, cp, rfl, z4⟩ := hP
  obtain ⟨z5, hll, Al, cl, rfl, z6⟩ := hL
  clear z3 z4 z5 z6
  obtain ⟨wb, hwb⟩ : ∃ wb, w.alloc (.cells #[.int .i64 nw, .int .i64 kp, .slice Ap rp.length cp, .slice Al ls.length cl] 30) = wb := ⟨_, rfl⟩
  have BX : BoxN wb w.heap.size #[.int .i64 nw, .int .i64 kp, .slice Ap rp.length cp, .slice Al ls.length cl] 30 := by rw [← hwb]; exact World.alloc_heap_new w _
  have HB := Lib.hid (show Below w.heap.size w wb from by rw [← hwb]; exact (Below.refl _ _).alloc (Nat.le_refl _) _)
  have HW := Lib.hid hwb
  have Q := Lib.hid BX
  have hltb : w.heap.size < wb.heap.size := BX.lt
  have x0 := BX.cell (i := 0) rfl
  have x1 := BX.cell (i := 1) rfl
  have x2 := BX.cell (i := 2) rfl
  have x3 := BX.cell (i := 3) rfl
  clear hwb BX
  have HPk := Lib.hid (specPick_any (.agg #[.int .i64 nw, .int .i64 kp, .slice Ap rp.length cp, .slice Al ls.length cl]) (nw, kp, rp, ls) f wb ((HC.out.below HB.out).up HB.out.size))
  have HNB := Lib.hid (qryB_to (f := f) (h := hw) (c := (nw, kp, rp, ls)) ht)
  have HNM := Lib.hid (qryM_no HNB.out)
  generalize hpk : pickM (nw, kp, rp, ls) f = p at HPk hp
  clear hpk
  have hq : decide (p < -1) = false := decide_eq_false (by omega)
  have hT := Lib.hid (fun W => v_l1In_any t 0 1000000000000 W)
  rw [ht] at hT
  go_enter Try.func40, Try.ntmps40
  go_wp2_with fail
  rw [HW.out]
  go_wp2_with fail
  refine HPk.out.mono ?_
  rintro e w2 ⟨rfl, hb2⟩
  have Q2 : BoxN w2 w.heap.size #[.int .i64 nw, .int .i64 kp, .slice Ap rp.length cp, .slice Al ls.length cl] 30 := (hb2.block _ hltb).trans Q.out
  have HB2 := Lib.hid (HB.out.trans (hb2.mono (by omega)))
  clear x0 x1 x2 x3 Q
  have Q := Lib.hid Q2
  have x0 := Q2.cell (i := 0) rfl
  have x1 := Q2.cell (i := 1) rfl
  have x2 := Q2.cell (i := 2) rfl
  have x3 := Q2.cell (i := 3) rfl
  clear Q2
  go_wp2_with (first | (go_at_call 61; with_reducible refine (hT.out _).mono ?_; rintro e w' ⟨rfl, rfl⟩))
  go_ret2
  rw [HNM.out, HNB.out]
  exact ⟨_, rfl, World.ownsRow_nil _ _ _ _, HB2.out⟩

set_option maxRecDepth 100000 in
set_option maxHeartbeats 4000000 in
theorem specQuery_how (v : Value) (c : Cs) (f t hw : Int) (w : World) (h : CV w w.heap.size v c) (hp : -1 ≤ pickM c f) (ht : vIn t 0 1000000000000 = true) (hh : vIn hw 1 6 = false) :
    Calls Try.prog 40 #[v, .int .i64 f, .int .i64 t, .int .i64 hw] w (QPost w.heap.size (qryM c f t hw) (qryB c f t hw) w) := by
  have HC := Lib.hid h
  have HCR := Lib.hid h.cr
  obtain ⟨nw, kp, rp, ls⟩ := c
  obtain ⟨rv, lv, rfl, hP, hL, z1, z2⟩ := h
  clear z1 z2
  simp only at hP hL HC HCR ⊢
  obtain ⟨z3, hpl, Ap, cp, rfl, z4⟩ := hP
  obtain ⟨z5, hll, Al, cl, rfl, z6⟩ := hL
  clear z3 z4 z5 z6
  obtain ⟨wb, hwb⟩ : ∃ wb, w.alloc (.cells #[.int .i64 nw, .int .i64 kp, .slice Ap rp.length cp, .slice Al ls.length cl] 30) = wb := ⟨_, rfl⟩
  have BX : BoxN wb w.heap.size #[.int .i64 nw, .int .i64 kp, .slice Ap rp.length cp, .slice Al ls.length cl] 30 := by rw [← hwb]; exact World.alloc_heap_new w _
  have HB := Lib.hid (show Below w.heap.size w wb from by rw [← hwb]; exact (Below.refl _ _).alloc (Nat.le_refl _) _)
  have HW := Lib.hid hwb
  have Q := Lib.hid BX
  have hltb : w.heap.size < wb.heap.size := BX.lt
  have x0 := BX.cell (i := 0) rfl
  have x1 := BX.cell (i := 1) rfl
  have x2 := BX.cell (i := 2) rfl
  have x3 := BX.cell (i := 3) rfl
  clear hwb BX
  have HPk := Lib.hid (specPick_any (.agg #[.int .i64 nw, .int .i64 kp, .slice Ap rp.length cp, .slice Al ls.length cl]) (nw, kp, rp, ls) f wb ((HC.out.below HB.out).up HB.out.size))
  have HNB := Lib.hid (qryB_how (f := f) (t := t) (c := (nw, kp, rp, ls)) hh)
  have HNM := Lib.hid (qryM_no HNB.out)
  generalize hpk : pickM (nw, kp, rp, ls) f = p at HPk hp
  clear hpk
  have hq : decide (p < -1) = false := decide_eq_false (by omega)
  have hT := Lib.hid (fun W => v_l1In_any t 0 1000000000000 W)
  have hK := Lib.hid (fun W => v_l1In_any hw 1 6 W)
  rw [ht] at hT
  rw [hh] at hK
  go_enter Try.func40, Try.ntmps40
  go_wp2_with fail
  rw [HW.out]
  go_wp2_with fail
  refine HPk.out.mono ?_
  rintro e w2 ⟨rfl, hb2⟩
  have Q2 : BoxN w2 w.heap.size #[.int .i64 nw, .int .i64 kp, .slice Ap rp.length cp, .slice Al ls.length cl] 30 := (hb2.block _ hltb).trans Q.out
  have HB2 := Lib.hid (HB.out.trans (hb2.mono (by omega)))
  clear x0 x1 x2 x3 Q
  have Q := Lib.hid Q2
  have x0 := Q2.cell (i := 0) rfl
  have x1 := Q2.cell (i := 1) rfl
  have x2 := Q2.cell (i := 2) rfl
  have x3 := Q2.cell (i := 3) rfl
  clear Q2
  go_wp2_with (first | (go_at_call 61; with_reducible refine (hT.out _).mono ?_; rintro e w' ⟨rfl, rfl⟩) | (go_at_call 61; with_reducible refine (hK.out _).mono ?_; rintro e w' ⟨rfl, rfl⟩))
  go_ret2
  rw [HNM.out, HNB.out]
  exact ⟨_, rfl, World.ownsRow_nil _ _ _ _, HB2.out⟩

theorem LSB_at {w : World} {B : Nat} {A : Option Addr} {n c : Nat} {xs : List Lv} (h : LS w B (.slice A n c) xs) {k : Nat} (hk : k < n) :
    ∃ b off, A = some ⟨b, off, none⟩ ∧ w.cell? ⟨b, off + k * 3, none⟩ = some (.int .i64 (xs.getD k zLv).1) ∧ w.cell? ⟨b, off + k * 3 + 1, none⟩ = some (.int .i64 (xs.getD k zLv).2.1) ∧ ∃ r, w.cell? ⟨b, off + k * 3 + 2, none⟩ = some r ∧ RL w B r (xs.getD k zLv).2.2 := by
  obtain ⟨_, _, A', c', he, h3⟩ := h
  injection he with e1 e2 e3
  rcases h3 with h3 | ⟨b, off, hb, _, hc⟩
  · rw [h3] at e2; simp at e2; omega
  · obtain ⟨x0, x1, r, x2, hr⟩ := hc k (by omega)
    exact ⟨b, off, e1.trans hb, x0, x1, r, x2, hr⟩
def RlX (W : World) (B : Nat) (r : Value) (rs : List R6) : Prop := RL W B r rs ∨ W.ownsRow B 48 6 r rs.length (rls rs)
theorem RlX.rl {W : World} {B : Nat} {r : Value} {rs : List R6} (h : RlX W B r rs) (hB : B ≤ W.heap.size) (hr : ∀ j, j < rs.length → TR (rs.getD j z6)) (hl : rs.length ≤ 400) : RL W W.heap.size r rs := by
  rcases h with h | h
  · exact h.up hB
  · refine RL.of_own h rfl (fun j => ?_) (by omega)
    by_cases hj : j < rs.length
    · exact (hr j hj).2.2
    · rw [List.getD_eq_getElem?_getD, List.getElem?_eq_none (by omega)]; exact rng6_zero
theorem RlX.below {W W' : World} {B : Nat} {r : Value} {rs : List R6} (h : RlX W B r rs) (hb : Below W.heap.size W W') (hB : B ≤ W.heap.size) : RlX W' B r rs := by
  rcases h with h | h
  · exact .inl (h.below (hb.mono hB))
  · exact .inr (u_own_below h hb)
theorem RlX.grown {W W' : World} {B : Nat} {r v : Value} {n : Nat} {rs : List R6} {xs : List Value} (h : RlX W B r rs) (hv : W.ownsRow B 43 2 v n xs) (hg : W.grownBy W' v.ownBlock) (hB : B ≤ W.heap.size) : RlX W' B r rs := by
  rcases h with h | h
  · refine .inl (h.below ⟨hg.os, hg.tape, hg.output, hg.size, fun k hk => hg.block k (by omega) (fun e => ?_)⟩)
    have := (hv.lt k e.symm).1
    omega
  · refine .inr (h.kept hg ?_)
    cases e : r.ownBlock with
    | none => exact .inl rfl
    | some g =>
      right
      intro e2
      rcases h.2 with ⟨rfl, _⟩ | ⟨g1, c1, u1, rfl, _, hg1, _⟩
      · cases e
      · rcases hv.2 with ⟨rfl, _⟩ | ⟨g2, c2, u2, rfl, _, hg2, _⟩
        · cases e2
        · injection e with e; injection e2 with e2
          simp only at e e2
          rw [e, e2, hg2] at hg1
          injection hg1 with hg1
          injection hg1 with _ h9 _
          exact absurd h9 (by decide)

set_option maxRecDepth 100000 in
set_option maxHeartbeats 2000000 in
theorem l9RollsX_any (B : Nat) (v : Value) (c : Cs) (p : Int) (w : World) (h : CV w B v c) (hB : B ≤ w.heap.size) (hc : cascB c = true) (hp : p = -1 ∨ 0 ≤ p ∧ p < c.2.2.2.length) :
    Calls Try.prog 86 #[v, .int .i64 p] w fun e w' => ∃ r, e = .returned r ∧ (RL w' B r (pickRs c p) ∨ w'.ownsRow w.heap.size 48 6 r (pickRs c p).length (rls (pickRs c p))) ∧ Below w.heap.size w w' := by
  have HCR := Lib.hid h.cr
  have HPT := Lib.hid (pickRs_tr hc h.cr hp)
  obtain ⟨nw, kp, rp, ls⟩ := c
  obtain ⟨rv, lv, rfl, hP, hL, z1, z2⟩ := h
  clear z1 z2
  simp only at hP hL hp ⊢
  have hsm : ptsSmB rp = true := by
    unfold cascB at hc
    rw [Bool.and_eq_true] at hc
    exact (headB_in hc.1).2.2.1
  clear hc
  have HP := Lib.hid hP
  have HL := Lib.hid hL
  obtain ⟨z3, hpl, Ap, cp, rfl, z4⟩ := hP
  obtain ⟨z5, hll, Al, cl, rfl, z6⟩ := hL
  clear z3 z4 z5 z6
  obtain ⟨wb, hwb⟩ : ∃ wb, w.alloc (.cells #[.int .i64 nw, .int .i64 kp, .slice Ap rp.length cp, .slice Al ls.length cl] 30) = wb := ⟨_, rfl⟩
  have BX : BoxN wb w.heap.size #[.int .i64 nw, .int .i64 kp, .slice Ap rp.length cp, .slice Al ls.length cl] 30 := by rw [← hwb]; exact World.alloc_heap_new w _
  have HB := Lib.hid (show Below w.heap.size w wb from by rw [← hwb]; exact (Below.refl _ _).alloc (Nat.le_refl _) _)
  have HW := Lib.hid hwb
  have x2 := BX.cell (i := 2) rfl
  have x3 := BX.cell (i := 3) rfl
  clear hwb BX
  rcases hp with rfl | ⟨hp0, hp1⟩
  · have HS := Lib.hid hsm
    clear hsm
    have hcal := Lib.hid (specL7Rolls_any (.slice Ap rp.length cp) rp 1 wb ((HP.out.below (HB.out.mono hB)).up (Nat.le_trans hB HB.out.size)) (ptsSmB_pts HS.out) (by decide) (by decide))
    go_enter Try.func86, Try.ntmps86
    go_wp2_with fail
    rw [HW.out]
    go_wp2_with fail
    refine hcal.out.mono ?_
    rintro e w1 ⟨r1, rfl, hown, hb⟩
    have hb2 := HB.out.trans (hb.mono HB.out.size)
    have HB2 := Lib.hid hb2
    have HR := Lib.hid (show w1.ownsRow w.heap.size 48 6 r1 (pickRs (nw, kp, rp, ls) (-1)).length (rls (pickRs (nw, kp, rp, ls) (-1))) from by
      unfold pickRs
      rw [if_pos rfl]
      exact p_base' hown HB.out.size)
    obtain ⟨ra, rn, rc, rfl⟩ := own_shape hown
    clear hown hb hb2 x2 x3
    go_wp2_with fail
    go_ret
    exact ⟨_, rfl, .inr HR.out, HB2.out⟩
  · obtain ⟨j, rfl⟩ : ∃ j : Nat, p = j := ⟨p.toNat, by omega⟩
    have hj : j < ls.length := by omega
    clear hsm hp0 hp1
    have z10 : ¬ (j : Int) = -1 := by omega
    have z11 : ((j : Int) == -1) = false := beq_eq_false_iff_ne.2 z10
    have z12 : decide ((j : Int) < 0) = false := decide_eq_false (by omega)
    obtain ⟨b, off, rfl, y0, y1, r, y2, hrl⟩ := LSB_at (HL.out.below (HB.out.mono hB)) hj
    have HR := Lib.hid (show RL wb B r (pickRs (nw, kp, rp, ls) j) from by
      unfold pickRs
      rw [if_neg (by omega)]; exact hrl)
    obtain ⟨z7, z8, ra, rc, rfl, z9⟩ := hrl
    clear z7 z8 z9 y0 y1
    generalize (ls.getD j zLv).2.2.length = rn at y2 HR
    rw [← HW.out] at y2
    go_enter Try.func86, Try.ntmps86
    go_wp2_with fail
    go_ret
    rw [HW.out]
    exact ⟨_, rfl, .inl HR.out, HB.out⟩

set_option maxRecDepth 100000 in
set_option maxHeartbeats 4000000 in
theorem specQuery_good (v : Value) (c : Cs) (f t hw : Int) (w : World) (h : CV w w.heap.size v c) (hp : -1 ≤ pickM c f) (ht : vIn t 0 1000000000000 = true) (hh : vIn hw 1 6 = true) :
    Calls Try.prog 40 #[v, .int .i64 f, .int .i64 t, .int .i64 hw] w (QPost w.heap.size (qryM c f t hw) (qryB c f t hw) w) := by
  have HC := Lib.hid h
  have HCR := Lib.hid h.cr
  obtain ⟨nw, kp, rp, ls⟩ := c
  obtain ⟨rv, lv, rfl, hP, hL, z1, z2⟩ := h
  clear z1 z2
  simp only at hP hL HC HCR ⊢
  obtain ⟨z3, hpl, Ap, cp, rfl, z4⟩ := hP
  obtain ⟨z5, hll, Al, cl, rfl, z6⟩ := hL
  clear z3 z4 z5 z6
  obtain ⟨wb, hwb⟩ : ∃ wb, w.alloc (.cells #[.int .i64 nw, .int .i64 kp, .slice Ap rp.length cp, .slice Al ls.length cl] 30) = wb := ⟨_, rfl⟩
  have BX : BoxN wb w.heap.size #[.int .i64 nw, .int .i64 kp, .slice Ap rp.length cp, .slice Al ls.length cl] 30 := by rw [← hwb]; exact World.alloc_heap_new w _
  have HB := Lib.hid (show Below w.heap.size w wb from by rw [← hwb]; exact (Below.refl _ _).alloc (Nat.le_refl _) _)
  have HW := Lib.hid hwb
  have Q := Lib.hid BX
  have hltb : w.heap.size < wb.heap.size := BX.lt
  have x0 := BX.cell (i := 0) rfl
  have x1 := BX.cell (i := 1) rfl
  have x2 := BX.cell (i := 2) rfl
  have x3 := BX.cell (i := 3) rfl
  clear hwb BX
  have HPk := Lib.hid (specPick_any (.agg #[.int .i64 nw, .int .i64 kp, .slice Ap rp.length cp, .slice Al ls.length cl]) (nw, kp, rp, ls) f wb ((HC.out.below HB.out).up HB.out.size))
  have h16 := vIn6.1 hh
  have HNB := Lib.hid (qryB_ok hp ht hh)
  have HNM := Lib.hid (qryM_yes HNB.out)
  obtain ⟨hcb, hfq, hpp⟩ := pickM_at hp
  have HPT := Lib.hid (pickRs_tr hcb HCR.out hpp)
  have hval := Lib.hid (fun r W hr => l9Of_any hw r W h16 hr)
  have hRA := Lib.hid (fun B W h hB => l9RollsX_any B (.agg #[.int .i64 nw, .int .i64 kp, .slice Ap rp.length cp, .slice Al ls.length cl]) (nw, kp, rp, ls) (pickM (nw, kp, rp, ls) f) W h hB hcb hpp)
  clear hpp hcb hfq
  generalize hrs : pickRs (nw, kp, rp, ls) (pickM (nw, kp, rp, ls) f) = rs at HPT HNM hRA
  clear hrs
  generalize hpk : pickM (nw, kp, rp, ls) f = p at HPk hp hRA
  clear hpk
  have hq : decide (p < -1) = false := decide_eq_false (by omega)
  have hT := Lib.hid (fun W => v_l1In_any t 0 1000000000000 W)
  have hK := Lib.hid (fun W => v_l1In_any hw 1 6 W)
  rw [ht] at hT
  rw [hh] at hK
  clear h16
  go_enter Try.func40, Try.ntmps40
  go_wp2_with fail
  rw [HW.out]
  go_wp2_with fail
  refine HPk.out.mono ?_
  rintro e w2 ⟨rfl, hb2⟩
  have Q2 : BoxN w2 w.heap.size #[.int .i64 nw, .int .i64 kp, .slice Ap rp.length cp, .slice Al ls.length cl] 30 := (hb2.block _ hltb).trans Q.out
  have HB2 := Lib.hid (HB.out.trans (hb2.mono (by omega)))
  clear x0 x1 x2 x3 Q
  have Q := Lib.hid Q2
  have x0 := Q2.cell (i := 0) rfl
  have x1 := Q2.cell (i := 1) rfl
  have x2 := Q2.cell (i := 2) rfl
  have x3 := Q2.cell (i := 3) rfl
  clear Q2
  have Qa : BoxN (w2.alloc (.cells #[] 43)) w.heap.size #[.int .i64 nw, .int .i64 kp, .slice Ap rp.length cp, .slice Al ls.length cl] 30 := (Below.heap_alloc _ _ _ Q.out.lt).trans Q.out
  have a0 := Qa.cell (i := 0) rfl
  have a1 := Qa.cell (i := 1) rfl
  have a2 := Qa.cell (i := 2) rfl
  have a3 := Qa.cell (i := 3) rfl
  clear Qa
  go_wp2_with (first | (go_at_call 61; with_reducible refine (hT.out _).mono ?_; rintro e w' ⟨rfl, rfl⟩) | (go_at_call 61; with_reducible refine (hK.out _).mono ?_; rintro e w' ⟨rfl, rfl⟩))
  refine (hRA.out w2.heap.size _ (((HC.out.below HB2.out).up HB2.out.size).below ((Below.refl _ _).alloc (Nat.le_refl _) _)) (by simp)).mono ?_
  rintro e w3 ⟨r, rfl, hx, hb3⟩
  have HX := Lib.hid (show RlX w3 w2.heap.size r rs from by
    rcases hx with hx | hx
    · exact .inl hx
    · exact .inr (p_base' hx (by simp)))
  have HB3 := Lib.hid (((Below.refl w2.heap.size w2).alloc (Nat.le_refl _) (.cells #[] 43)).trans (hb3.mono (by simp)))
  have HO3 := Lib.hid (u_own_below (World.ownsRow_made w2 (base := w2.heap.size) (e := 43) (size := 2) #[] 0 (Nat.le_refl _) (by simp [maxLen]) rfl) hb3)
  have hs2 : w.heap.size ≤ w2.heap.size := HB2.out.size
  have hrl := HX.out.rl HB3.out.size HPT.out.1 HPT.out.2
  obtain ⟨z1, hlen, Ar, cr, rfl, z2⟩ := hrl
  clear z1 z2 hx hb3
  obtain ⟨i0, hi, hz0, hz1, hz2⟩ := info_parts info_pt
  clear Q x0 x1 x2 x3 a0 a1 a2 a3 HPk hRA hT hK
  go_wp2_with fail
  go_loopw [11, 13] (fun v i wr => ∃ k : Nat, k ≤ rs.length ∧ i = .int .i64 k ∧ Hid (wr.ownsRow w2.heap.size 43 2 v (qryL (rs.take k) f t hw).length (prs (qryL (rs.take k) f t hw))) ∧ Hid (Below w2.heap.size w2 wr) ∧ Hid (RlX wr w2.heap.size (.slice Ar rs.length cr) rs)) (fun _ i _ => rs.length - (intOf i).toNat)
  case atStart => exact ⟨0, Nat.zero_le _, rfl, Lib.hid (by simpa [qryL, prs] using HO3.out), HB3, HX⟩
  case round =>
    obtain ⟨k, hk, rfl, HO, HD, HX⟩ := hrel
    have hsz := HD.out.size
    by_cases hlt : k < rs.length
    · obtain ⟨b, off, rfl, hbl, k0, k1, k2, k3, k4, k5⟩ := (HX.out.rl hsz HPT.out.1 HPT.out.2).at_ hlt
      have HS := Lib.hid (qryL_succ f t hw hlt)
      have HTR := Lib.hid (HPT.out.1 k hlt)
      have hlq : (qryL (rs.take k) f t hw).length ≤ 400 := by
        have h1 := qryL_len (rs.take k) f t hw
        have h2 := HPT.out.2
        rw [List.length_take] at h1; omega
      obtain ⟨r0, r1, r2, r3, r4, r5, hX⟩ : ∃ a b c d e g, rs.getD k z6 = (a, b, c, d, e, g) := ⟨_, _, _, _, _, _, rfl⟩
      rw [hX] at k0 k1 k2 k3 k4 k5 HS HTR
      simp only at k0 k1 k2 k3 k4 k5 HS
      clear hX
      have hvc := Lib.hid (fun W => hval.out (r0, r1, r2, r3, r4, r5) W HTR.out)
      generalize aggV hw (r0, r1, r2, r3, r4, r5) = av at HS hvc
      generalize qryL (rs.take k) f t hw = ys at HO HS hlq
      by_cases g1 : f ≤ r0
      case neg =>
        have E := HS.out
        rw [if_neg (fun e => g1 e.1), List.append_nil] at E
        have E := Lib.hid E
        go_wp2_with fail
        go_roundw
        case rel => exact ⟨k + 1, by omega, by go_num, Lib.hid (by rw [E.out]; exact HO.out), HD, HX⟩
        case measure => simp [intOf]; omega
      by_cases g2 : r0 < t
      case neg =>
        have E := HS.out
        rw [if_neg (fun e => g2 e.2), List.append_nil] at E
        have E := Lib.hid E
        go_wp2_with fail
        go_roundw
        case rel => exact ⟨k + 1, by omega, by go_num, Lib.hid (by rw [E.out]; exact HO.out), HD, HX⟩
        case measure => simp [intOf]; omega
      have E := HS.out
      rw [if_pos ⟨g1, g2⟩] at E
      have E := Lib.hid E
      clear HS
      go_wp2_with fail
      go_region_law (first
        | (go_simp; go_at_call 87; refine (hvc.out _).mono ?_; rintro e w5 ⟨rfl, hb5⟩; have z0 : w5.cell? ⟨b, off + k * 6, none⟩ = some (.int .i64 r0) := (hb5.cell (p := ⟨b, off + k * 6, none⟩) (by first | exact hbl | (simp; omega))).trans (by first | exact k0 | go_simp); have HO5 := Lib.hid (u_own_below (by first | exact HO.out | exact HO.out.drew) hb5); have HX5 := Lib.hid (show RlX w5 w2.heap.size _ rs from RlX.below (by first | exact HX.out) (show Below wr.heap.size wr w5 from ((Below.refl wr.heap.size wr).drew.trans hb5)) hsz); have HB5 := Lib.hid (HD.out.drew.trans (hb5.mono (by first | exact hsz | (simp; omega)))); have hs5 := HB5.out.size; clear hb5)
        | (refine step_append_ownR _ rfl _ _ 27 rfl w2.heap.size 43 i0 (.agg #[.int .i64 0, .int .i64 0]) 2 16 Try.underlying27 hi hz0 hz1 hz2 rfl (by decide) u11 ys.length (prs ys) rfl (HO5.out.alloc _) ⟨w5.heap.size, 0, none⟩ 1 1 [.int .i64 r0, .int .i64 av] rfl rfl (two_cells (by go_simp) (by go_simp)) (fun u hu => by simp at hu; rcases hu with rfl | rfl <;> rfl) (by unfold maxLen; omega) (by omega) (by first | omega | (simp; omega)) ?_; intro v6 w6 hown6 hgrow6; have HO6 := Lib.hid (show w6.ownsRow w2.heap.size 43 2 v6 (qryL (rs.take (k + 1)) f t hw).length (prs (qryL (rs.take (k + 1)) f t hw)) from by rw [E.out, prs_append, List.length_append]; exact hown6); have HX6 := Lib.hid (RlX.grown (RlX.below HX5.out ((Below.refl _ _).alloc (Nat.le_refl _) _) hs5) (HO5.out.alloc _) hgrow6 (by first | omega | (simp; omega))); have HB6 := Lib.hid ((HB5.out.alloc (by omega) (.cells #[.int .i64 r0, .int .i64 av] 43)).grown hgrow6 (by first | omega | (simp; omega)) (fun j hj => (HO5.out.lt j hj).1)); clear hown6 hgrow6))
      all_goals
        go_simp
        go_wp2_with fail
        go_roundw
        case rel => exact ⟨k + 1, by omega, by go_num, HO6, HB6, HX6⟩
        case measure => simp [intOf]; omega
    · obtain rfl : k = rs.length := by omega
      have ho := HO.out
      rw [List.take_length] at ho
      have HO2 := Lib.hid ho
      clear ho
      go_wp2_with fail
      go_ret2
      rw [HNM.out, HNB.out]
      exact ⟨_, rfl, p_base' HO2.out hs2, HB2.out.trans (HD.out.mono hs2)⟩

theorem specQuery_any (v : Value) (c : Cs) (f t hw : Int) (w : World) (h : CV w w.heap.size v c) :
    Calls Try.prog 40 #[v, .int .i64 f, .int .i64 t, .int .i64 hw] w (QPost w.heap.size (qryM c f t hw) (qryB c f t hw) w) := by
  by_cases hp : -1 ≤ pickM c f
  · cases ht : vIn t 0 1000000000000 with
    | false => exact specQuery_to v c f t hw w h hp ht
    | true =>
      cases hh : vIn hw 1 6 with
      | true => exact specQuery_good v c f t hw w h hp ht hh
      | false => exact specQuery_how v c f t hw w h hp ht hh
  · exact specQuery_pick v c f t hw w h hp
end Go.Proofs.Ytcjpedolmnahfaa

/- Walks: the law FnExactPick. -/
set_option linter.unusedVariables false
set_option linter.unusedSimpArgs false
namespace Go.Proofs.Ytcjpedolmnahfaa
open Go.RowKit

theorem cv_of {w0 W : World} {B0 base : Nat} {v0 rv lv : Value} {c : Cs} (h : CV w0 B0 v0 c) (hr : W.ownsRow base 43 2 rv c.2.2.1.length (prs c.2.2.1)) (hl : LOwn W base lv c.2.2.2) : CV W W.heap.size (.agg #[.int .i64 c.1, .int .i64 c.2.1, rv, lv]) c := by
  obtain ⟨_, _, _, hP, hL, h1, h2⟩ := h
  exact ⟨rv, lv, rfl, PL.of_own hr rfl hP.1 hP.2.1, hl.read hL.1 hL.2.1 hL.rolls, h1, h2⟩
theorem CI.below' {w w' : World} {v : Value} {nw kp : Int} {A : Option Addr} {n c : Nat} {ks : List Nat} {lv : Value} (h : CI w w.heap.size v nw kp A n c ks lv) (hb : Below w.heap.size w w') (hs : w.heap.size ≤ w'.heap.size) : CI w' w'.heap.size v nw kp A n c ks lv := by
  obtain ⟨rfl, h1, h2, h3, h4, h5⟩ := h
  exact ⟨rfl, h1, h2, h3, fun hn => by
    obtain ⟨xs, hx, hp⟩ := h4 hn
    exact ⟨xs, hx, (hp.below hb).up hs⟩, (h5.below hb).up hs⟩
theorem CV.drew {w : World} {B : Nat} {v : Value} {c : Cs} (h : CV w B v c) : CV w.drew B v c := h
theorem below_undrew {w w' : World} {B : Nat} (h : Below B w.drew w') : Below B w w' := ((Below.refl B w).drew).trans h
theorem cv_step {w w' : World} {v : Value} {c : Cs} (h : CV w w.heap.size v c) (hb : Below w.heap.size w w') : CV w' w'.heap.size v c := (h.below hb).up hb.size
theorem szC_ok {n : Nat} {ks : List Nat} (h : ¬ szC n ks < 0) : n ≤ 1048576 ∧ ks.length ≤ 1048576 ∧ ∀ k ∈ ks, k ≤ 1048576 := by
  unfold szC at h
  split at h
  · exact absurd (show (-1 : Int) < 0 by omega) h
  · split at h
    · exact absurd (show (-1 : Int) < 0 by omega) h
    · exact ⟨by omega, by omega, szF_ok _ ks (by omega) (by omega) h⟩
theorem szC_bd (n : Nat) (ks : List Nat) : -1 ≤ szC n ks ∧ szC n ks ≤ 1048576 := by
  unfold szC
  split
  · omega
  · split
    · omega
    · exact szF_bd _ _ (by omega) (by omega)

end Go.Proofs.Ytcjpedolmnahfaa

/- Walks: the law FnExactQuery. -/
set_option linter.unusedVariables false
set_option linter.unusedSimpArgs false
namespace Go.Proofs.Ytcjpedolmnahfaa
open Go.RowKit

theorem ediv_bd {s n : Int} (hn : 1 ≤ n) (h1 : -1000000000000000 ≤ s) (h2 : s ≤ 1000000000000000) : -1000000000000001 ≤ s / n ∧ s / n ≤ 1000000000000000 := by
  have hf := floor_div (s := s) hn
  have hb := tdiv_bd (s := s) hn h1 h2
  by_cases h : s.tmod n < 0
  · rw [hf.1 h]; omega
  · rw [hf.2 h]; omega
theorem qryM_ok {c : Cs} {f t h : Int} (hr : CR c) : (∀ j, Rng ((qryM c f t h).getD j (0, 0)).1 ∧ Rng ((qryM c f t h).getD j (0, 0)).2) ∧ (qryM c f t h).length ≤ 1048576 := by
  cases hb : qryB c f t h with
  | false => rw [qryM_no hb]; exact ⟨fun j => ⟨rng_zero, rng_zero⟩, Nat.zero_le _⟩
  | true =>
    rw [qryM_yes hb]
    unfold qryB at hb
    rw [Bool.and_eq_true, decide_eq_true_iff] at hb
    obtain ⟨hcb, _, hpp⟩ := pickM_at hb.1
    obtain ⟨h1, h2⟩ := pickRs_tr hcb hr hpp
    generalize pickRs c (pickM c f) = rs at h1 h2
    have hl := qryL_len rs f t h
    refine ⟨fun j => ?_, by omega⟩
    by_cases hj : j < (qryL rs f t h).length
    · have hm : (qryL rs f t h).getD j (0, 0) ∈ qryL rs f t h := by
        rw [List.getD_eq_getElem?_getD, List.getElem?_eq_getElem hj]; exact List.getElem_mem hj
      generalize (qryL rs f t h).getD j (0, 0) = p at hm
      unfold qryL at hm
      obtain ⟨r, hr1, rfl⟩ := List.mem_map.1 hm
      have hr2 := (List.mem_filter.1 hr1).1
      obtain ⟨i, hi, rfl⟩ := List.getElem_of_mem hr2
      have h3 := h1 i hi
      rw [List.getD_eq_getElem?_getD, List.getElem?_eq_getElem hi] at h3
      obtain ⟨hc, hs, q0, q1, q2, q3, q4, q5⟩ := h3
      refine ⟨q0, ?_⟩
      simp only [Option.getD_some] at hc hs q1 q2 q3 q4 q5
      unfold aggV
      split
      · exact q1
      · split
        · exact q2
        · split
          · exact q3
          · split
            · exact q4
            · split
              · exact q5
              · have h5 := ediv_bd (s := rs[i].2.2.1) hc.1 hs.1 hs.2
                exact ⟨by omega, by omega⟩
    · rw [List.getD_eq_getElem?_getD, List.getElem?_eq_none (by omega)]; exact ⟨rng_zero, rng_zero⟩
set_option maxRecDepth 100000 in
set_option maxHeartbeats 8000000 in
theorem walkFnExactQuery (v : Value) (nw kp : Int) (A : Option Addr) (n c : Nat) (ks : List Nat) (lv : Value) (f t hw : Int) (w : World) (h : CI w w.heap.size v nw kp A n c ks lv) :
    Calls Try.prog 12 #[v, .int .i64 f, .int .i64 t, .int .i64 hw] w fun e w' => e = .returned (.bool true) ∧ Below w.heap.size w w' := by
  obtain ⟨m, A2, c2, rfl, rfl⟩ : ∃ m A2 c2, lv = .slice A2 m c2 ∧ v = .agg #[.int .i64 nw, .int .i64 kp, .slice A n c, .slice A2 m c2] := by
    obtain ⟨rfl, _, _, _, _, _, _, A2, c2, rfl, _⟩ := h
    exact ⟨_, _, _, rfl, rfl⟩
  obtain ⟨w0, hw0⟩ : ∃ w0, w.alloc (.cells #[.int .i64 nw, .int .i64 kp, .slice A n c, .slice A2 m c2] 66) = w0 := ⟨_, rfl⟩
  have b0 : BoxN w0 w.heap.size #[.int .i64 nw, .int .i64 kp, .slice A n c, .slice A2 m c2] 66 := by rw [← hw0]; exact World.alloc_heap_new w _
  have BB0 := Lib.hid (show Below w.heap.size w w0 from by rw [← hw0]; exact (Below.refl _ _).alloc (Nat.le_refl _) _)
  have S0 := BB0.out.size
  have HS := Lib.hid (szCascade_any _ nw kp A n c ks _ w0 (h.below' BB0.out S0))
  have BX0 := Lib.hid b0
  have HW := Lib.hid hw0
  clear hw0
  have x0 := b0.cell (i := 0) rfl
  have x1 := b0.cell (i := 1) rfl
  have x2 := b0.cell (i := 2) rfl
  have x3 := b0.cell (i := 3) rfl
  clear b0
  have hbd := szC_bd n ks
  obtain ⟨r, hr⟩ : ∃ r, r = szC n ks := ⟨_, rfl⟩
  rw [← hr] at HS hbd
  by_cases hneg : r < 0
  · clear hr h
    go_enter Try.func12, Try.ntmps12
    go_wp2_with fail
    rw [HW.out]
    go_wp2_with fail
    refine HS.out.mono ?_
    rintro e w1 ⟨rfl, hb1⟩
    go_wp2_with fail
    go_ret
    exact ⟨rfl, BB0.out.trans (hb1.mono S0)⟩
  · obtain ⟨h1, h2, h3⟩ := szC_ok (by rw [← hr]; exact hneg)
    obtain ⟨cs, _, hcv⟩ := h.read h1 h2 h3
    have I0 := Lib.hid hcv
    have HCR := Lib.hid hcv.cr
    have htc := totC_le hcv.cr
    have hcp := Lib.hid (fun v W h => toCascadeD_any v cs W h)
    have hsp := Lib.hid (fun v W h => specQuery_any v cs f t hw W h)
    have him := Lib.hid (fun v W h => implQuery_any v cs f t hw W h)
    have heq := Lib.hid (fun v u W h h' => eqCascade_same v u cs W h h')
    have hmc := Lib.hid (fun base top rv lv es W h => markCascade_any base top cs rv lv es 1 W (by omega) (by omega) HCR.out h)
    have htn := totC_nonneg cs
    obtain ⟨yr, hyl⟩ := qryM_ok (f := f) (t := t) (h := hw) hcv.cr
    have YR := Lib.hid yr
    generalize qryM cs f t hw = ys at *
    clear h hr hcv h1 h2 h3 yr
    have heqR := Lib.hid (fun v u W h h' => eqPointS_any v u ys ys W h h')
    rw [decide_eq_true rfl] at heqR
    have hmkR := Lib.hid (fun base v W h => markPointS_any base v 1 ys W (by omega) (by omega) hyl h)
    have hhdR := Lib.hid (fun v W h => heldPointS_any v ys.length 1 W (by omega) (by omega) h)
    have hmr := Lib.hid (marks2_rng 1 ys.length (by omega) (by omega) hyl)
    generalize qryB cs f t hw = fb at *
    cases fb
    all_goals
      go_enter Try.func12, Try.ntmps12
      go_wp2_with fail
      rw [HW.out]
      go_wp2_with fail
      refine HS.out.mono ?_
      rintro e w1 ⟨rfl, hb1⟩
      have I1 := Lib.hid (I0.out.below (BB0.out.trans (hb1.mono S0)))
      have B1 := Lib.hid (BB0.out.trans (hb1.mono S0))
      have BX1 : Hid (BoxN w1 w.heap.size #[.int .i64 nw, .int .i64 kp, .slice A n c, .slice A2 m c2] 66) := Lib.hid ((hb1.block _ BX0.out.lt).trans BX0.out)
      clear hb1 HS x0 x1 x2 x3
      have x0 := BoxN.cell (i := 0) BX1.out rfl
      have x1 := BoxN.cell (i := 1) BX1.out rfl
      have x2 := BoxN.cell (i := 2) BX1.out rfl
      have x3 := BoxN.cell (i := 3) BX1.out rfl
      go_wp2_with fail
      refine (hcp.out _ _ (I1.out.up B1.out.size)).mono ?_
      rintro e w2 ⟨rv2, lv2, es2, rfl, hd2, hb2⟩
      have I2 := Lib.hid (I1.out.below (hb2.mono B1.out.size))
      have C2 := Lib.hid (hd2.cv HCR.out)
      have BX2 : Hid (BoxN w2 w.heap.size #[.int .i64 nw, .int .i64 kp, .slice A n c, .slice A2 m c2] 66) := Lib.hid ((hb2.block _ BX1.out.lt).trans BX1.out)
      have B2 := Lib.hid (B1.out.trans (hb2.mono B1.out.size))
      clear hd2 hb2 I1 B1 x0 x1 x2 x3
      go_wp2_with fail
      refine (hsp.out _ _ C2.out).mono ?_
      rintro e w3 ⟨v3, rfl, ho3, hb3⟩
      have BX3 : Hid (BoxN w3 w.heap.size #[.int .i64 nw, .int .i64 kp, .slice A n c, .slice A2 m c2] 66) := Lib.hid ((hb3.block _ BX2.out.lt).trans BX2.out)
      have I3 := Lib.hid (I2.out.below (hb3.mono B2.out.size))
      have B3 := Lib.hid (B2.out.trans (hb3.mono B2.out.size))
      have R3 := Lib.hid (PL.of_own ho3 rfl YR.out hyl)
      clear ho3 hb3 I2 B2 C2 BX2 BX1
      have x0 := BoxN.cell (i := 0) BX3.out rfl
      have x1 := BoxN.cell (i := 1) BX3.out rfl
      have x2 := BoxN.cell (i := 2) BX3.out rfl
      have x3 := BoxN.cell (i := 3) BX3.out rfl
      go_wp2_with fail
      refine (hcp.out _ _ (I3.out.up B3.out.size)).mono ?_
      rintro e w4 ⟨rv4, lv4, es, rfl, hd4, hb4⟩
      have F4 := Lib.hid hb4
      have D4 := Lib.hid hd4
      obtain ⟨ra, rc, rfl⟩ := hd4.raw.shape
      obtain ⟨la, lc, rfl⟩ := hd4.lvl.row.shape
      clear hd4 hb4 x0 x1 x2 x3
      obtain ⟨rn, hrn⟩ : ∃ rn, cs.2.2.1.length = rn := ⟨_, rfl⟩
      obtain ⟨ln, hln⟩ : ∃ ln, cs.2.2.2.length = ln := ⟨_, rfl⟩
      rw [hrn, hln] at D4 ⊢
      have HRN := Lib.hid hrn
      have HLN := Lib.hid hln
      clear hrn hln
      obtain ⟨wb, hwb⟩ : ∃ wb, w4.alloc (.cells #[.int .i64 cs.1, .int .i64 cs.2.1, .slice ra rn rc, .slice la ln lc] 30) = wb := ⟨_, rfl⟩
      have Y4 : Hid (BoxN wb w4.heap.size #[.int .i64 cs.1, .int .i64 cs.2.1, .slice ra rn rc, .slice la ln lc] 30) := Lib.hid (by rw [← hwb]; exact World.alloc_heap_new w4 _)
      have hbb : Below w4.heap.size w4 wb := by rw [← hwb]; exact (Below.refl _ _).alloc (Nat.le_refl _) _
      have Fb := Lib.hid (F4.out.trans (hbb.mono F4.out.size))
      have Db := Lib.hid (D4.out.below hbb)
      have Cb : Hid (CV wb wb.heap.size (.agg #[.int .i64 cs.1, .int .i64 cs.2.1, .slice ra rn rc, .slice la ln lc]) cs) := Lib.hid (by have := Db.out.cv HCR.out; exact this)
      have HWb := Lib.hid hwb
      clear hwb hbb F4 D4
      have y0 := BoxN.cell (i := 0) Y4.out rfl
      have y1 := BoxN.cell (i := 1) Y4.out rfl
      have y2 := BoxN.cell (i := 2) Y4.out rfl
      have y3 := BoxN.cell (i := 3) Y4.out rfl
      go_wp2_with fail
      rw [HWb.out]
      go_wp2_with fail
      refine (him.out _ _ Cb.out).mono ?_
      rintro e w5 ⟨v5, rfl, ho5, hb5⟩
      have G5 := Lib.hid ho5
      have E5 := Lib.hid hb5
      have F5 := Lib.hid (Fb.out.trans (hb5.mono Fb.out.size))
      clear ho5 hb5 y0 y1 y2 y3
      go_wp2_with fail
      refine (heqR.out _ _ _ (PL.of_own G5.out rfl YR.out hyl) ((R3.out.below F5.out).up F5.out.size)).mono ?_
      rintro e w6 ⟨rfl, hb6⟩
      have G6 := Lib.hid (u_own_below G5.out hb6)
      have E6 := Lib.hid (E5.out.trans (hb6.mono E5.out.size))
      have F6 := Lib.hid (F5.out.trans (hb6.mono F5.out.size))
      clear hb6 G5 E5 F5
      have BX6 : Hid (BoxN w6 w.heap.size #[.int .i64 nw, .int .i64 kp, .slice A n c, .slice A2 m c2] 66) := Lib.hid ((F6.out.block _ BX3.out.lt).trans BX3.out)
      have Y6 : Hid (BoxN w6 w4.heap.size #[.int .i64 cs.1, .int .i64 cs.2.1, .slice ra rn rc, .slice la ln lc] 30) := Lib.hid ((E6.out.block _ Y4.out.lt).trans Y4.out)
      have x0 := BoxN.cell (i := 0) BX6.out rfl
      have x1 := BoxN.cell (i := 1) BX6.out rfl
      have x2 := BoxN.cell (i := 2) BX6.out rfl
      have x3 := BoxN.cell (i := 3) BX6.out rfl
      have y0 := BoxN.cell (i := 0) Y6.out rfl
      have y1 := BoxN.cell (i := 1) Y6.out rfl
      have y2 := BoxN.cell (i := 2) Y6.out rfl
      have y3 := BoxN.cell (i := 3) Y6.out rfl
      have I6u := Lib.hid ((I3.out.below (F6.out.mono B3.out.size)).up (show w.heap.size ≤ w6.heap.size from Nat.le_trans B3.out.size F6.out.size))
      have I6d : Hid (CV w6.drew w6.drew.heap.size _ cs) := Lib.hid I6u.out
      have C6 := Lib.hid ((Cb.out.below E6.out).up E6.out.size)
      go_wp2_with fail
      go_region_law (first
        | (go_simp; go_at_call 42; refine (hcp.out _ _ (by first | with_reducible exact I6d.out | with_reducible exact I6u.out)).mono ?_; rintro e w7 ⟨rv7, lv7, es7, rfl, hd7, hb7⟩; have C7 := Lib.hid (hd7.cv HCR.out); have N7 := Lib.hid (show Below w6.heap.size w6 w7 from by first | exact hb7 | exact below_undrew hb7); have C67 := Lib.hid ((C6.out.below N7.out).up N7.out.size); have Y7 : Hid (BoxN w7 w4.heap.size #[.int .i64 cs.1, .int .i64 cs.2.1, .slice ra rn rc, .slice la ln lc] 30) := Lib.hid ((N7.out.block _ (BoxN.lt Y6.out)).trans Y6.out); have z0 := BoxN.cell (i := 0) Y7.out rfl; have z1 := BoxN.cell (i := 1) Y7.out rfl; have z2 := BoxN.cell (i := 2) Y7.out rfl; have z3 := BoxN.cell (i := 3) Y7.out rfl; clear hd7 hb7)
        | (go_simp; go_at_call 44; refine (heq.out _ _ _ (by first | with_reducible exact C67.out | with_reducible exact CV.drew C67.out) (by first | with_reducible exact C7.out | with_reducible exact CV.drew C7.out)).mono ?_; rintro e w8 ⟨rfl, hb8⟩; have N8 := Lib.hid (N7.out.trans ((show Below w7.heap.size w7 w8 from by first | exact hb8 | exact below_undrew hb8).mono N7.out.size)); clear hb8))
      all_goals
        go_simp
        have G8 := Lib.hid (u_own_below G6.out N8.out)
        have E8 := Lib.hid (E6.out.trans (N8.out.mono E6.out.size))
        have F8 := Lib.hid (F6.out.trans (N8.out.mono F6.out.size))
        have D8 := Lib.hid (Db.out.below E8.out)
        have Y8 : Hid (BoxN w8 w4.heap.size #[.int .i64 cs.1, .int .i64 cs.2.1, .slice ra rn rc, .slice la ln lc] 30) := Lib.hid ((E8.out.block _ Y4.out.lt).trans Y4.out)
        clear N8 N7 C7 C67 C6 Y7 G6 E6 F6 BX6 Y6 I6u I6d z0 z1 z2 z3 x0 x1 x2 x3 y0 y1 y2 y3
        have y0 := BoxN.cell (i := 0) Y8.out rfl
        have y1 := BoxN.cell (i := 1) Y8.out rfl
        have y2 := BoxN.cell (i := 2) Y8.out rfl
        have y3 := BoxN.cell (i := 3) Y8.out rfl
        have hcal := Lib.hid (hmc.out _ _ _ _ _ w8 D8.out)
        go_wp2_with fail
        refine hcal.out.mono ?_
        rintro e w9 ⟨rfl, hx9, wm, hbm, hc9⟩
        have hlo : ∀ g, CBk cs (.slice ra rn rc) (.slice la ln lc) es g → w3.heap.size ≤ g ∧ g < w4.heap.size := fun g hg => ⟨(Db.out.lt hg).1, (Db.out.lt hg).2.1⟩
        have G9 := Lib.hid (show w9.ownsRow wb.heap.size 43 2 v5 ys.length (prs ys) from by
          have gm := u_own_below G8.out hbm
          refine own_chg gm hc9 (fun g hg hS => ?_)
          have q1 := (gm.lt g hg).1
          have q2 := (hlo g hS).2
          have q3 := Y4.out.lt
          omega)
        have F9 := Lib.hid ((F8.out.trans (hbm.mono F8.out.size)).trans (hc9.below (base := w3.heap.size) (Nat.le_trans F8.out.size hbm.size) (fun g hg => (hlo g hg).1)))
        clear hx9 hbm hc9 hlo hcal G8 E8 F8 D8 Y8 y0 y1 y2 y3
        have d9 : decide (1 + totC cs < 0) = false := decide_eq_false (by omega)
        go_wp2_with fail
        refine (heqR.out _ _ _ (PL.of_own G9.out rfl YR.out hyl) ((R3.out.below F9.out).up F9.out.size)).mono ?_
        rintro e w10 ⟨rfl, hb10⟩
        have G10 := Lib.hid (u_own_below G9.out hb10)
        have F10 := Lib.hid (F9.out.trans (hb10.mono F9.out.size))
        clear hb10 G9 F9
        have hwb3 : w3.heap.size ≤ wb.heap.size := Fb.out.size
        go_wp2_with fail
        refine (hmkR.out _ _ _ G10.out).mono ?_
        rintro e w11 ⟨rfl, hown11, hb11, hg11⟩
        have G11 := Lib.hid (PL.of_own hown11 (marks2_length _ _).symm hmr.out (by rw [marks2_length]; exact hyl))
        have F11 := Lib.hid (F10.out.trans (hb11.mono hwb3))
        clear hown11 hb11 hg11 G10 F10
        go_wp2_with fail
        refine (hhdR.out _ _ G11.out).mono ?_
        rintro e w12 ⟨rfl, rfl⟩
        have BX11 : Hid (BoxN _ w.heap.size #[.int .i64 nw, .int .i64 kp, .slice A n c, .slice A2 m c2] 66) := Lib.hid ((F11.out.block _ BX3.out.lt).trans BX3.out)
        have x0 := BoxN.cell (i := 0) BX11.out rfl
        have x1 := BoxN.cell (i := 1) BX11.out rfl
        have x2 := BoxN.cell (i := 2) BX11.out rfl
        have x3 := BoxN.cell (i := 3) BX11.out rfl
        have I11 := Lib.hid ((I3.out.below (F11.out.mono B3.out.size)).up (Nat.le_trans B3.out.size F11.out.size))
        go_wp2_with fail
        refine (hcp.out _ _ I11.out).mono ?_
        rintro e w13 ⟨rv13, lv13, es13, rfl, hd13, hb13⟩
        have C13 := Lib.hid (hd13.cv HCR.out)
        have G13 := Lib.hid ((G11.out.below hb13).up hb13.size)
        have F13 := Lib.hid (F11.out.trans (hb13.mono F11.out.size))
        clear hd13 hb13 G11 F11 x0 x1 x2 x3 BX11 I11
        go_wp2_with fail
        refine (him.out _ _ C13.out).mono ?_
        rintro e w14 ⟨v14, rfl, ho14, hb14⟩
        have J14 := Lib.hid (PL.of_own ho14 rfl YR.out hyl)
        have G14 := Lib.hid ((G13.out.below hb14).up hb14.size)
        have F14 := Lib.hid (F13.out.trans (hb14.mono F13.out.size))
        clear ho14 hb14 G13 F13 C13
        go_wp2_with fail
        refine (heqR.out _ _ _ J14.out ((R3.out.below F14.out).up F14.out.size)).mono ?_
        rintro e w15 ⟨rfl, hb15⟩
        have G15 := Lib.hid ((G14.out.below hb15).up hb15.size)
        have F15 := Lib.hid (F14.out.trans (hb15.mono F14.out.size))
        clear hb15 G14 F14 J14
        go_wp2_with fail
        refine (hhdR.out _ _ G15.out).mono ?_
        rintro e w16 ⟨rfl, rfl⟩
        go_wp2_with fail
        go_ret
        exact ⟨rfl, B3.out.trans (F15.out.mono B3.out.size)⟩
end Go.Proofs.Ytcjpedolmnahfaa
