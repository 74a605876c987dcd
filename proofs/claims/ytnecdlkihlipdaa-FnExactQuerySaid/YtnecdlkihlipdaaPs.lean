/- Walks: queries: the rolls of what is picked; the model's mean. -/
import Derived.Test.YtnecdlkihlipdaaPr
import Derived.Test.YtnecdlkihlipdaaPc
set_option linter.unusedVariables false
set_option linter.unusedSimpArgs false
namespace Go.Proofs.Ytnecdlkihlipdaa
open Go.RowKit

theorem lvsB_rolls (now : Int) : ∀ (ls : List Lv) (w k : Int), lvsB now w k ls = true → ∀ x ∈ ls, rollsOkB x.2.2 x.1 = true
  | [], w, k, _ => fun x hx => by cases hx
  | y :: ls, w, k, h => by
    have h3 : (lvB now w k y && lvsB now y.1 y.2.1 ls) = true := h
    rw [Bool.and_eq_true] at h3
    have h4 : (shpB w k y && (rollsOkB y.2.2 y.1 && y.2.2.all (rolAt now y))) = true := h3.1
    rw [Bool.and_eq_true, Bool.and_eq_true] at h4
    intro x hx
    rcases List.mem_cons.1 hx with rfl | hx
    · exact h4.2.1
    · exact lvsB_rolls now ls y.1 y.2.1 h3.2 x hx
theorem tr_lv {rs : List R6} {W : Int} (h : rollsOkB rs W = true) (hr : ∀ j, Rng6 (rs.getD j z6)) : ∀ j, j < rs.length → TR (rs.getD j z6) := by
  intro j hj
  have h1 := (rollsOkB_in h).2.2 j hj
  unfold gdR okRB okVB at h1
  simp only [Bool.and_eq_true, decide_eq_true_eq] at h1
  have h2 := h1.1.2
  obtain ⟨hc, hmn, hmx, _, _, _, h8, h9⟩ := h2
  refine ⟨hc, ⟨?_, ?_⟩, hr j⟩
  · refine Int.le_trans ?_ h8
    have := Int.mul_le_mul_of_nonneg_left hmn.1 (show 0 ≤ (rs.getD j z6).2.1 by omega)
    omega
  · refine Int.le_trans h9 ?_
    have := Int.mul_le_mul_of_nonneg_left hmx.2 (show 0 ≤ (rs.getD j z6).2.1 by omega)
    omega
theorem wdB_one : wdB 1 = true := by decide
theorem pickRs_tr {c : Cs} {p : Int} (hc : cascB c = true) (hr : CR c) (hp : p = -1 ∨ 0 ≤ p ∧ p < c.2.2.2.length) : (∀ j, j < (pickRs c p).length → TR ((pickRs c p).getD j z6)) ∧ (pickRs c p).length ≤ 400 := by
  unfold cascB at hc
  rw [Bool.and_eq_true, Bool.and_eq_true] at hc
  obtain ⟨_, _, hsm, _⟩ := headB_in hc.1
  rcases hp with rfl | ⟨h0, h1⟩
  · unfold pickRs
    rw [if_pos rfl]
    refine ⟨tr_raw hsm hr.raw, ?_⟩
    have := rollsL_len c.2.2.1 1
    have := ptsOkB_len (ptsSmB_pts hsm)
    omega
  · unfold pickRs
    rw [if_neg (by omega)]
    have hj : p.toNat < c.2.2.2.length := by omega
    have hm : c.2.2.2.getD p.toNat zLv ∈ c.2.2.2 := by
      rw [List.getD_eq_getElem?_getD, List.getElem?_eq_getElem hj]; exact List.getElem_mem hj
    have hk := lvsB_rolls _ _ _ _ hc.2.2 _ hm
    exact ⟨tr_lv hk (hr.rolls _ hj).1, (rollsOkB_in hk).1⟩
theorem pickM_at {c : Cs} {q : Int} (h : -1 ≤ pickM c q) : cascB c = true ∧ vIn q 0 1000000000000 = true ∧ (pickM c q = -1 ∨ 0 ≤ pickM c q ∧ pickM c q < c.2.2.2.length) := by
  have hF : ∀ (ls : List Lv) (i : Int), pickF c.1 q i ls = -2 ∨ i ≤ pickF c.1 q i ls ∧ pickF c.1 q i ls < i + ls.length := by
    intro ls
    induction ls with
    | nil => intro i; left; rfl
    | cons x ls ih =>
      intro i
      unfold pickF
      split
      · right; refine ⟨by omega, ?_⟩; simp only [List.length_cons]; omega
      · rcases ih (i + 1) with h | h
        · exact .inl h
        · right; simp only [List.length_cons]; omega
  unfold pickM at h ⊢
  split
  · rename_i hc
    rw [Bool.and_eq_true] at hc
    refine ⟨hc.1, hc.2, ?_⟩
    rw [if_pos (by rw [Bool.and_eq_true]; exact hc)] at h
    unfold pickL at h ⊢
    split
    · exact .inl rfl
    · rename_i hn
      rw [if_neg hn] at h
      rcases hF c.2.2.2 0 with e | e
      · omega
      · right; omega
  · rename_i hc
    rw [if_neg hc] at h
    omega

set_option maxRecDepth 100000 in
set_option maxHeartbeats 2000000 in
theorem rollsAt_any (v : Value) (c : Cs) (p : Int) (w : World) (h : CV w w.heap.size v c) (hc : cascB c = true) (hp : p = -1 ∨ 0 ≤ p ∧ p < c.2.2.2.length) :
    Calls Try.prog 62 #[v, .int .i64 p] w fun e w' => ∃ r, e = .returned r ∧ RL w' w'.heap.size r (pickRs c p) ∧ Below w.heap.size w w' := by
  have HCR := Lib.hid h.cr
  have HPT := Lib.hid (pickRs_tr hc h.cr hp)
  obtain ⟨nw, kp, rp, ls⟩ := c
  obtain ⟨rv, lv, rfl, hP, hL, z1, z2⟩ := h
  clear z1 z2
  simp only at hP hL hp ⊢
  have hsm : ptsSmB rp = true := by
    unfold cascB at hc
    rw [Bool.and_eq_true] at hc
    exact (headB_in hc.1).2.2.1
  clear hc
  have HP := Lib.hid hP
  have HL := Lib.hid hL
  obtain ⟨z3, hpl, Ap, cp, rfl, z4⟩ := hP
  obtain ⟨z5, hll, Al, cl, rfl, z6⟩ := hL
  clear z3 z4 z5 z6
  obtain ⟨wb, hwb⟩ : ∃ wb, w.alloc (.cells #[.int .i64 nw, .int .i64 kp, .slice Ap rp.length cp, .slice Al ls.length cl] 31) = wb := ⟨_, rfl⟩
  have BX : BoxN wb w.heap.size #[.int .i64 nw, .int .i64 kp, .slice Ap rp.length cp, .slice Al ls.length cl] 31 := by rw [← hwb]; exact World.alloc_heap_new w _
  have HB := Lib.hid (show Below w.heap.size w wb from by rw [← hwb]; exact (Below.refl _ _).alloc (Nat.le_refl _) _)
  have HW := Lib.hid hwb
  have x2 := BX.cell (i := 2) rfl
  have x3 := BX.cell (i := 3) rfl
  clear hwb BX
  rcases hp with rfl | ⟨hp0, hp1⟩
  · have HS := Lib.hid hsm
    clear hsm
    have hcal := Lib.hid (implRollsOf_any (.slice Ap rp.length cp) rp 1 wb ((HP.out.below HB.out).up HB.out.size))
    go_enter Try.func62, Try.ntmps62
    go_wp2_with fail
    rw [HW.out]
    go_wp2_with fail
    refine hcal.out.mono ?_
    rintro e w1 ⟨r1, rfl, hown, hb⟩
    have e1 : rollsM rp 1 = rollsL rp 1 := by unfold rollsM; rw [if_pos ⟨HS.out, wdB_one⟩]
    rw [e1] at hown
    have hb2 := HB.out.trans (hb.mono HB.out.size)
    have HB2 := Lib.hid hb2
    have HR := Lib.hid (show RL w1 w1.heap.size r1 (pickRs (nw, kp, rp, ls) (-1)) from by
      unfold pickRs
      rw [if_pos rfl]
      refine RL.of_own hown rfl (fun j => ?_) (by have h0 := HPT.out.2; unfold pickRs at h0; rw [if_pos rfl] at h0; have h1 : (rollsL rp 1).length ≤ 400 := h0; omega)
      by_cases hj : j < (rollsL rp 1).length
      · exact (tr_raw HS.out HCR.out.raw j hj).2.2
      · rw [List.getD_eq_getElem?_getD, List.getElem?_eq_none (by have h1 : ¬ j < (rollsL rp 1).length := hj; show (rollsL rp 1).length ≤ j; omega)]; exact rng6_zero)
    obtain ⟨ra, rn, rc, rfl⟩ := own_shape hown
    clear hown hb hb2 x2 x3
    go_wp2_with fail
    go_ret
    exact ⟨_, rfl, HR.out, HB2.out⟩
  · obtain ⟨j, rfl⟩ : ∃ j : Nat, p = j := ⟨p.toNat, by omega⟩
    have hj : j < ls.length := by omega
    clear hsm hp0 hp1
    have z10 : ¬ (j : Int) = -1 := by omega
    have z11 : ((j : Int) == -1) = false := beq_eq_false_iff_ne.2 z10
    have z12 : decide ((j : Int) < 0) = false := decide_eq_false (by omega)
    obtain ⟨b, off, rfl, y0, y1, r, y2, hrl⟩ := ((HL.out.below HB.out).up HB.out.size).at_ hj
    have HR := Lib.hid (show RL wb wb.heap.size r (pickRs (nw, kp, rp, ls) j) from by
      unfold pickRs
      rw [if_neg (by omega)]; exact hrl)
    obtain ⟨z7, z8, ra, rc, rfl, z9⟩ := hrl
    clear z7 z8 z9 y0 y1
    generalize (ls.getD j zLv).2.2.length = rn at y2 HR
    rw [← HW.out] at y2
    go_enter Try.func62, Try.ntmps62
    go_wp2_with fail
    go_ret
    rw [HW.out]
    exact ⟨_, rfl, HR.out, HB.out⟩

set_option maxRecDepth 100000 in
set_option maxHeartbeats 2000000 in
theorem l9Rolls_any (v : Value) (c : Cs) (p : Int) (w : World) (h : CV w w.heap.size v c) (hc : cascB c = true) (hp : p = -1 ∨ 0 ≤ p ∧ p < c.2.2.2.length) :
    Calls Try.prog 59 #[v, .int .i64 p] w fun e w' => ∃ r, e = .returned r ∧ RL w' w'.heap.size r (pickRs c p) ∧ Below w.heap.size w w' := by
  have HCR := Lib.hid h.cr
  have HPT := Lib.hid (pickRs_tr hc h.cr hp)
  obtain ⟨nw, kp, rp, ls⟩ := c
  obtain ⟨rv, lv, rfl, hP, hL, z1, z2⟩ := h
  clear z1 z2
  simp only at hP hL hp ⊢
  have hsm : ptsSmB rp = true := by
    unfold cascB at hc
    rw [Bool.and_eq_true] at hc
    exact (headB_in hc.1).2.2.1
  clear hc
  have HP := Lib.hid hP
  have HL := Lib.hid hL
  obtain ⟨z3, hpl, Ap, cp, rfl, z4⟩ := hP
  obtain ⟨z5, hll, Al, cl, rfl, z6⟩ := hL
  clear z3 z4 z5 z6
  obtain ⟨wb, hwb⟩ : ∃ wb, w.alloc (.cells #[.int .i64 nw, .int .i64 kp, .slice Ap rp.length cp, .slice Al ls.length cl] 31) = wb := ⟨_, rfl⟩
  have BX : BoxN wb w.heap.size #[.int .i64 nw, .int .i64 kp, .slice Ap rp.length cp, .slice Al ls.length cl] 31 := by rw [← hwb]; exact World.alloc_heap_new w _
  have HB := Lib.hid (show Below w.heap.size w wb from by rw [← hwb]; exact (Below.refl _ _).alloc (Nat.le_refl _) _)
  have HW := Lib.hid hwb
  have x2 := BX.cell (i := 2) rfl
  have x3 := BX.cell (i := 3) rfl
  clear hwb BX
  rcases hp with rfl | ⟨hp0, hp1⟩
  · have HS := Lib.hid hsm
    clear hsm
    have hcal := Lib.hid (specL7Rolls_any (.slice Ap rp.length cp) rp 1 wb ((HP.out.below HB.out).up HB.out.size) (ptsSmB_pts HS.out) (by decide) (by decide))
    go_enter Try.func59, Try.ntmps59
    go_wp2_with fail
    rw [HW.out]
    go_wp2_with fail
    refine hcal.out.mono ?_
    rintro e w1 ⟨r1, rfl, hown, hb⟩
    have hb2 := HB.out.trans (hb.mono HB.out.size)
    have HB2 := Lib.hid hb2
    have HR := Lib.hid (show RL w1 w1.heap.size r1 (pickRs (nw, kp, rp, ls) (-1)) from by
      unfold pickRs
      rw [if_pos rfl]
      refine RL.of_own hown rfl (fun j => ?_) (by have h0 := HPT.out.2; unfold pickRs at h0; rw [if_pos rfl] at h0; have h1 : (rollsL rp 1).length ≤ 400 := h0; omega)
      by_cases hj : j < (rollsL rp 1).length
      · exact (tr_raw HS.out HCR.out.raw j hj).2.2
      · rw [List.getD_eq_getElem?_getD, List.getElem?_eq_none (by have h1 : ¬ j < (rollsL rp 1).length := hj; show (rollsL rp 1).length ≤ j; omega)]; exact rng6_zero)
    obtain ⟨ra, rn, rc, rfl⟩ := own_shape hown
    clear hown hb hb2 x2 x3
    go_wp2_with fail
    go_ret
    exact ⟨_, rfl, HR.out, HB2.out⟩
  · obtain ⟨j, rfl⟩ : ∃ j : Nat, p = j := ⟨p.toNat, by omega⟩
    have hj : j < ls.length := by omega
    clear hsm hp0 hp1
    have z10 : ¬ (j : Int) = -1 := by omega
    have z11 : ((j : Int) == -1) = false := beq_eq_false_iff_ne.2 z10
    have z12 : decide ((j : Int) < 0) = false := decide_eq_false (by omega)
    obtain ⟨b, off, rfl, y0, y1, r, y2, hrl⟩ := ((HL.out.below HB.out).up HB.out.size).at_ hj
    have HR := Lib.hid (show RL wb wb.heap.size r (pickRs (nw, kp, rp, ls) j) from by
      unfold pickRs
      rw [if_neg (by omega)]; exact hrl)
    obtain ⟨z7, z8, ra, rc, rfl, z9⟩ := hrl
    clear z7 z8 z9 y0 y1
    generalize (ls.getD j zLv).2.2.length = rn at y2 HR
    rw [← HW.out] at y2
    go_enter Try.func59, Try.ntmps59
    go_wp2_with fail
    go_ret
    rw [HW.out]
    exact ⟨_, rfl, HR.out, HB.out⟩
end Go.Proofs.Ytnecdlkihlipdaa
