/- Walks: the program's Firing. -/
import Derived.Test.YtpmankbokbcmbaaTh
set_option linter.unusedVariables false
set_option linter.unusedSimpArgs false
namespace Go.Proofs.Ytpmankbokbcmbaa
open Go.RowKit

theorem rs_lt {xs : List (Int × Int)} {lim : Int} (h0 : 0 < xs.length) (h : lim < (xs.getD (xs.length - 1) (0, 0)).2) : rsN xs lim xs.length < xs.length := by
  rw [rsN_hi_eq h0 h]
  have := rsN_le xs lim (xs.length - 1)
  omega
theorem sp_last {xs : List (Int × Int)} {lim : Int} (h : rsN xs lim xs.length < xs.length) :
    0 < (spL lim none xs).length ∧ (spL lim none xs).getD ((spL lim none xs).length - 1) (0, 0) = ((xs.getD (rsN xs lim xs.length) (0, 0)).1, (xs.getD (xs.length - 1) (0, 0)).1) := by
  obtain ⟨A, hA⟩ := spL_last xs lim h
  rw [hA, List.length_append, List.length_singleton, Nat.add_sub_cancel, getD_snocP_eq]
  exact ⟨by omega, rfl⟩

set_option maxRecDepth 100000 in
set_option maxHeartbeats 4000000 in
theorem implFiring_any (v : Value) (xs : List (Int × Int)) (lim long now : Int) (w : World) (h : PL w w.heap.size v xs) :
    Calls Try.prog 20 #[v, .int .i64 lim, .int .i64 long, .int .i64 now] w (BoolPost (firB xs lim long now) w) := by
  have HP := Lib.hid h
  have hP := Lib.hid (fun W h => implPointsOk_any v xs W h)
  have hL := Lib.hid (fun W => timeOkT_any long W)
  have hN := Lib.hid (fun W => timeOkT_any now W)
  have hS := Lib.hid (fun W h => spansAbove_any v xs lim W h)
  have hok2 := Lib.hid (spL_ok xs lim h.1 h.2.1)
  obtain ⟨hr, hlen, A, c, rfl, h3⟩ := h
  clear hr
  cases h1 : ptsOkB xs with
  | false =>
    rw [firB_f1 h1]
    rw [h1] at hP
    clear h1 h3 hL hN
    go_enter Try.func20, Try.ntmps20
    go_wp2_with fail
    refine (hP.out _ HP.out).mono ?_
    rintro e w2 ⟨rfl, hb2⟩
    go_wp2_with fail
    go_ret
    exact ⟨rfl, hb2⟩
  | true =>
  by_cases h5 : 0 < xs.length
  case neg =>
    rw [firB_f4 h5]
    rw [h1] at hP
    have h6 : (xs.length : Int) = 0 := by omega
    clear h1 h3 h5 hL hN
    go_enter Try.func20, Try.ntmps20
    go_wp2_with fail
    refine (hP.out _ HP.out).mono ?_
    rintro e w2 ⟨rfl, hb2⟩
    go_wp2_with fail
    go_ret
    exact ⟨rfl, hb2⟩
  have h6 : ¬ (xs.length : Int) = 0 := by omega
  have h6b : ((xs.length : Int) == 0) = false := by simpa using h6
  cases h2 : vIn long 0 1000000000000 with
  | false =>
    rw [firB_f2 h2]
    rw [h1] at hP
    rw [h2] at hL
    clear h1 h2 h3 hN
    go_enter Try.func20, Try.ntmps20
    go_wp2_with fail
    refine (hP.out _ HP.out).mono ?_
    rintro e w2 ⟨rfl, hb2⟩
    go_wp2_with fail
    refine (hL.out _).mono ?_
    rintro e w3 ⟨rfl, rfl⟩
    go_wp2_with fail
    go_ret
    exact ⟨rfl, hb2⟩
  | true =>
  cases h4 : vIn now 0 1000000000000 with
  | false =>
    rw [firB_f3 h4]
    rw [h1] at hP
    rw [h2] at hL
    rw [h4] at hN
    clear h1 h2 h3 h4
    go_enter Try.func20, Try.ntmps20
    go_wp2_with fail
    refine (hP.out _ HP.out).mono ?_
    rintro e w2 ⟨rfl, hb2⟩
    go_wp2_with fail
    refine (hL.out _).mono ?_
    rintro e w3 ⟨rfl, rfl⟩
    go_wp2_with fail
    refine (hN.out _).mono ?_
    rintro e w4 ⟨rfl, rfl⟩
    go_wp2_with fail
    go_ret
    exact ⟨rfl, hb2⟩
  | true =>
  rw [firB_t h1 h2 h4 h5]
  have HT := Lib.hid (fun j hj => (ptsOkB_atT h1 (j := j) hj).1)
  have hnow : 0 ≤ now ∧ now ≤ 1000000000000 := by unfold vIn at h4; exact of_decide_eq_true h4
  rw [h1] at hP
  rw [h2] at hL
  rw [h4] at hN
  rcases h3 with h3 | ⟨b, off, rfl, hbl, hc⟩
  · subst h3; simp at h5
  have HC := Lib.hid hc
  have e1 : IntKind.i64.wrap ((xs.length : Int) - 1) = (xs.length : Int) - 1 := IntWalk.i64_in _ (by omega)
  have e2 : (0 : Int) ≤ (xs.length : Int) - 1 := by omega
  have e2' : (1 : Int) ≤ (xs.length : Int) := by omega
  have e3 : ((xs.length : Int) - 1).toNat = xs.length - 1 := by omega
  have e4 : (xs.length : Int) - 1 < (xs.length : Int) := by omega
  obtain ⟨V, hV⟩ : ∃ V, (decide (rsN xs lim xs.length < xs.length) && (decide ((xs.getD (xs.length - 1) (0, 0)).1 ≤ now) && decide (long ≤ now - (xs.getD (rsN xs lim xs.length) (0, 0)).1))) = V := ⟨_, rfl⟩
  rw [hV]
  have HV := Lib.hid hV
  have HH := Lib.hid (fun (h : lim < (xs.getD (xs.length - 1) (0, 0)).2) => (⟨rs_lt h5 h, sp_last (rs_lt h5 h)⟩ : _ ∧ _))
  have HH2 := Lib.hid (fun (h : ¬ lim < (xs.getD (xs.length - 1) (0, 0)).2) => rsN_lo_eq (xs := xs) (lim := lim) (k := xs.length) (.inr h))
  clear h1 h2 h4 hc hV
  obtain ⟨S, hSd⟩ : ∃ S, spL lim none xs = S := ⟨_, rfl⟩
  rw [hSd] at hS hok2 HH
  clear hSd
  obtain ⟨x, y, hX⟩ : ∃ x y, xs.getD (xs.length - 1) (0, 0) = (x, y) := ⟨_, _, rfl⟩
  have hT2 := HT.out (xs.length - 1) (by omega)
  rw [hX] at HV HH HH2 hT2
  simp only at hT2
  have HX := Lib.hid hX
  clear hX
  go_enter Try.func20, Try.ntmps20
  go_wp2_with fail
  refine (hP.out _ HP.out).mono ?_
  rintro e w2 ⟨rfl, hb2⟩
  have HB2 := Lib.hid hb2
  have d0 := (hb2.cell (p := ⟨b, off + (xs.length - 1) * 2, none⟩) hbl).trans (HC.out (xs.length - 1) (by omega)).1
  have d1 := (hb2.cell (p := ⟨b, off + (xs.length - 1) * 2 + 1, none⟩) hbl).trans (HC.out (xs.length - 1) (by omega)).2
  rw [HX.out] at d0 d1
  clear hb2
  go_wp2_with fail
  refine (hL.out _).mono ?_
  rintro e w3 ⟨rfl, rfl⟩
  go_wp2_with fail
  refine (hN.out _).mono ?_
  rintro e w4 ⟨rfl, rfl⟩
  have s4 := HB2.out.size
  have hfin : ∀ o, Below w.heap.size w (w4.alloc o) := fun o => HB2.out.alloc s4 o
  have HF := Lib.hid hfin
  clear hP hL hN hfin
  by_cases g1 : lim < y
  case neg =>
    have q := HH2.out (by omega)
    obtain rfl : V = false := by rw [← HV.out, decide_eq_false (show ¬ rsN xs lim xs.length < xs.length by omega)]; rfl
    clear HH HH2 HV q
    go_wp2_with fail
    go_ret
    exact ⟨rfl, HF.out _⟩
  have q := HH.out g1
  by_cases g2 : x ≤ now
  case neg =>
    obtain rfl : V = false := by rw [← HV.out, decide_eq_true q.1, decide_eq_false g2]; rfl
    clear HH HH2 HV q
    go_wp2_with fail
    go_ret
    exact ⟨rfl, HF.out _⟩
  obtain ⟨q1, q2, q3⟩ := q
  have hSn := q2
  have t3 := HT.out _ q1
  obtain ⟨f, hf⟩ : ∃ f, (xs.getD (rsN xs lim xs.length) (0, 0)).1 = f := ⟨_, rfl⟩
  rw [hf] at HV q3 t3
  have Q3 := Lib.hid q3
  have HV2 := Lib.hid (show decide (long ≤ now - f) = V from by rw [← HV.out, decide_eq_true q1, decide_eq_true g2]; rfl)
  have e7 : IntKind.i64.wrap (now - f) = now - f := IntWalk.i64_in _ (by omega)
  clear HH HH2 HV q1 q3 hf
  go_wp2_with fail
  refine (hS.out _ ((HP.out.below (HF.out _)).up (HF.out _).size)).mono ?_
  rintro e w5 ⟨v5, rfl, hown5, hb5⟩
  have HQ := PL.of_ownS hown5 rfl hok2.out.1 hok2.out.2
  have HB5 := Lib.hid ((HF.out _).trans (hb5.mono (HF.out _).size))
  obtain ⟨hr2, hl2, A2, c2, rfl, h32⟩ := HQ
  rcases h32 with h32 | ⟨b2, off2, rfl, hbl2, hc2⟩
  · rw [h32] at q2; simp at q2
  have k0 := (hc2 (S.length - 1) (by omega)).1
  rw [Q3.out] at k0
  simp only at k0
  have r1 : IntKind.i64.wrap ((S.length : Int) - 1) = (S.length : Int) - 1 := IntWalk.i64_in _ (by omega)
  have r2 : (0 : Int) ≤ (S.length : Int) - 1 := by omega
  have r2' : (1 : Int) ≤ (S.length : Int) := by omega
  have r3 : ((S.length : Int) - 1).toNat = S.length - 1 := by omega
  have r4 : (S.length : Int) - 1 < (S.length : Int) := by omega
  clear hown5 hb5 hr2 hc2 hS HP HC d0 d1
  have EV := HV2.out
  go_wp2_with fail
  go_ret
  exact ⟨by rw [← EV]; rfl, HB5.out⟩
end Go.Proofs.Ytpmankbokbcmbaa
