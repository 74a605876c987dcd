/- Walks: queries: the model's means and aggregates. -/
import Derived.Test.YtnecdlkihlipdaaPs
set_option linter.unusedVariables false
set_option linter.unusedSimpArgs false
namespace Go.Proofs.Ytnecdlkihlipdaa
open Go.RowKit

theorem mean_neg {s n : Int} (hn : 1 ≤ n) (hs : s < 0) : -((-s + n - 1) / n) = s / n := by
  have h1 := Int.mul_ediv_add_emod (-s + n - 1) n
  have h2 := Int.emod_nonneg (-s + n - 1) (show n ≠ 0 by omega)
  have h3 := Int.emod_lt_of_pos (-s + n - 1) (show 0 < n by omega)
  refine (((Int.ediv_emod_unique (a := s) (b := n) (r := n - 1 - (-s + n - 1) % n) (q := -((-s + n - 1) / n)) (show 0 < n by omega)).2 ⟨?_, by omega, by omega⟩).1).symm
  rw [Int.mul_neg]; omega
set_option maxRecDepth 100000 in
set_option maxHeartbeats 1000000 in
theorem l9Mean_any (s n : Int) (w : World) (hn : 1 ≤ n) (hn2 : n ≤ 1000000) (h1 : -1000000000000000 ≤ s) (h2 : s ≤ 1000000000000000) : Calls Try.prog 99 #[.int .i64 s, .int .i64 n] w fun e w' => e = .returned (.int .i64 (s / n)) ∧ w' = w := by
  have hw0 : n = 0 → False := by omega
  have hwz : (n == 0) = false := by simpa using hw0
  by_cases h : 0 ≤ s
  · have d1 : decide (0 ≤ s) = true := decide_eq_true h
    have hb := tdiv_bd (s := s) hn h1 h2
    have hf := Int.tdiv_eq_ediv_of_nonneg (b := n) h
    rw [hf] at hb
    obtain ⟨q, hq⟩ : ∃ q, s / n = q := ⟨_, rfl⟩
    rw [hq] at hf hb ⊢
    clear hq
    have e1 : IntKind.i64.wrap q = q := IntWalk.i64_in _ (by omega)
    have e2 : wrap64 q = q := by unfold wrap64; omega
    go_enter Try.func99, Try.ntmps99
    go_wp2_with fail
    go_ret
    exact ⟨rfl, rfl⟩
  · have d1 : decide (0 ≤ s) = false := decide_eq_false h
    have hm := mean_neg (s := s) hn (by omega)
    have hf := Int.tdiv_eq_ediv_of_nonneg (b := n) (show 0 ≤ -s + n - 1 by omega)
    have hb := tdiv_bd (s := -s + n - 1) hn (by omega)
    obtain ⟨q, hq⟩ : ∃ q, (-s + n - 1) / n = q := ⟨_, rfl⟩
    rw [hq] at hf hm
    rw [← hm]
    have hq1 : 0 ≤ q ∧ q ≤ 2000000000000000 := by
      have h5 := Int.ediv_nonneg (show 0 ≤ -s + n - 1 by omega) (show 0 ≤ n by omega)
      have h6 := Int.ediv_le_self n (show 0 ≤ -s + n - 1 by omega)
      omega
    clear hm hb hq
    have e1 : IntKind.i64.wrap q = q := IntWalk.i64_in _ (by omega)
    have e2 : wrap64 q = q := by unfold wrap64; omega
    have e3 : IntKind.i64.wrap (-s) = -s := IntWalk.i64_in _ (by omega)
    have e4 : wrap64 (-s) = -s := by unfold wrap64; omega
    have e5 : IntKind.i64.wrap (-s + n) = -s + n := IntWalk.i64_in _ (by omega)
    have e6 : wrap64 (-s + n) = -s + n := by unfold wrap64; omega
    have e7 : IntKind.i64.wrap (-s + n - 1) = -s + n - 1 := IntWalk.i64_in _ (by omega)
    have e8 : wrap64 (-s + n - 1) = -s + n - 1 := by unfold wrap64; omega
    have e9 : IntKind.i64.wrap (-q) = -q := IntWalk.i64_in _ (by omega)
    have e10 : wrap64 (-q) = -q := by unfold wrap64; omega
    go_enter Try.func99, Try.ntmps99
    go_wp2_with fail
    go_ret
    exact ⟨rfl, rfl⟩
set_option maxRecDepth 100000 in
set_option maxHeartbeats 1000000 in
theorem l9Of1_any (t r1 r2 r3 r4 r5 : Int) (w : World) (hr : TR (t, r1, r2, r3, r4, r5)) : Calls Try.prog 60 #[.agg #[.int .i64 t, .int .i64 r1, .int .i64 r2, .int .i64 r3, .int .i64 r4, .int .i64 r5], .int .i64 1] w fun e w' => e = .returned (.int .i64 r1) ∧ Below w.heap.size w w' := by
  obtain ⟨⟨a1, a2⟩, ⟨a3, a4⟩, z1⟩ := hr
  clear z1
  simp only at a1 a2 a3 a4
  have hcal := Lib.hid (fun W => l9Mean_any r2 r1 W a1 a2 a3 a4)
  go_enter Try.func60, Try.ntmps60
  go_wp2_with (go_at_call 99; refine (hcal.out _).mono ?_; rintro e w' ⟨rfl, rfl⟩)
  go_ret
  exact ⟨rfl, by repeat (first | with_reducible exact Below.refl _ _ | refine Below.alloc ?_ (by simp; try omega) _ | refine Below.setCell ?_ (by simp; try omega) _ | refine Below.drew ?_)⟩
set_option maxRecDepth 100000 in
set_option maxHeartbeats 1000000 in
theorem l9Of2_any (t r1 r2 r3 r4 r5 : Int) (w : World) (hr : TR (t, r1, r2, r3, r4, r5)) : Calls Try.prog 60 #[.agg #[.int .i64 t, .int .i64 r1, .int .i64 r2, .int .i64 r3, .int .i64 r4, .int .i64 r5], .int .i64 2] w fun e w' => e = .returned (.int .i64 r2) ∧ Below w.heap.size w w' := by
  obtain ⟨⟨a1, a2⟩, ⟨a3, a4⟩, z1⟩ := hr
  clear z1
  simp only at a1 a2 a3 a4
  have hcal := Lib.hid (fun W => l9Mean_any r2 r1 W a1 a2 a3 a4)
  go_enter Try.func60, Try.ntmps60
  go_wp2_with (go_at_call 99; refine (hcal.out _).mono ?_; rintro e w' ⟨rfl, rfl⟩)
  go_ret
  exact ⟨rfl, by repeat (first | with_reducible exact Below.refl _ _ | refine Below.alloc ?_ (by simp; try omega) _ | refine Below.setCell ?_ (by simp; try omega) _ | refine Below.drew ?_)⟩
set_option maxRecDepth 100000 in
set_option maxHeartbeats 1000000 in
theorem l9Of3_any (t r1 r2 r3 r4 r5 : Int) (w : World) (hr : TR (t, r1, r2, r3, r4, r5)) : Calls Try.prog 60 #[.agg #[.int .i64 t, .int .i64 r1, .int .i64 r2, .int .i64 r3, .int .i64 r4, .int .i64 r5], .int .i64 3] w fun e w' => e = .returned (.int .i64 r3) ∧ Below w.heap.size w w' := by
  obtain ⟨⟨a1, a2⟩, ⟨a3, a4⟩, z1⟩ := hr
  clear z1
  simp only at a1 a2 a3 a4
  have hcal := Lib.hid (fun W => l9Mean_any r2 r1 W a1 a2 a3 a4)
  go_enter Try.func60, Try.ntmps60
  go_wp2_with (go_at_call 99; refine (hcal.out _).mono ?_; rintro e w' ⟨rfl, rfl⟩)
  go_ret
  exact ⟨rfl, by repeat (first | with_reducible exact Below.refl _ _ | refine Below.alloc ?_ (by simp; try omega) _ | refine Below.setCell ?_ (by simp; try omega) _ | refine Below.drew ?_)⟩
set_option maxRecDepth 100000 in
set_option maxHeartbeats 1000000 in
theorem l9Of4_any (t r1 r2 r3 r4 r5 : Int) (w : World) (hr : TR (t, r1, r2, r3, r4, r5)) : Calls Try.prog 60 #[.agg #[.int .i64 t, .int .i64 r1, .int .i64 r2, .int .i64 r3, .int .i64 r4, .int .i64 r5], .int .i64 4] w fun e w' => e = .returned (.int .i64 r4) ∧ Below w.heap.size w w' := by
  obtain ⟨⟨a1, a2⟩, ⟨a3, a4⟩, z1⟩ := hr
  clear z1
  simp only at a1 a2 a3 a4
  have hcal := Lib.hid (fun W => l9Mean_any r2 r1 W a1 a2 a3 a4)
  go_enter Try.func60, Try.ntmps60
  go_wp2_with (go_at_call 99; refine (hcal.out _).mono ?_; rintro e w' ⟨rfl, rfl⟩)
  go_ret
  exact ⟨rfl, by repeat (first | with_reducible exact Below.refl _ _ | refine Below.alloc ?_ (by simp; try omega) _ | refine Below.setCell ?_ (by simp; try omega) _ | refine Below.drew ?_)⟩
set_option maxRecDepth 100000 in
set_option maxHeartbeats 1000000 in
theorem l9Of5_any (t r1 r2 r3 r4 r5 : Int) (w : World) (hr : TR (t, r1, r2, r3, r4, r5)) : Calls Try.prog 60 #[.agg #[.int .i64 t, .int .i64 r1, .int .i64 r2, .int .i64 r3, .int .i64 r4, .int .i64 r5], .int .i64 5] w fun e w' => e = .returned (.int .i64 r5) ∧ Below w.heap.size w w' := by
  obtain ⟨⟨a1, a2⟩, ⟨a3, a4⟩, z1⟩ := hr
  clear z1
  simp only at a1 a2 a3 a4
  have hcal := Lib.hid (fun W => l9Mean_any r2 r1 W a1 a2 a3 a4)
  go_enter Try.func60, Try.ntmps60
  go_wp2_with (go_at_call 99; refine (hcal.out _).mono ?_; rintro e w' ⟨rfl, rfl⟩)
  go_ret
  exact ⟨rfl, by repeat (first | with_reducible exact Below.refl _ _ | refine Below.alloc ?_ (by simp; try omega) _ | refine Below.setCell ?_ (by simp; try omega) _ | refine Below.drew ?_)⟩
set_option maxRecDepth 100000 in
set_option maxHeartbeats 1000000 in
theorem l9Of6_any (t r1 r2 r3 r4 r5 : Int) (w : World) (hr : TR (t, r1, r2, r3, r4, r5)) : Calls Try.prog 60 #[.agg #[.int .i64 t, .int .i64 r1, .int .i64 r2, .int .i64 r3, .int .i64 r4, .int .i64 r5], .int .i64 6] w fun e w' => e = .returned (.int .i64 (r2 / r1)) ∧ Below w.heap.size w w' := by
  obtain ⟨⟨a1, a2⟩, ⟨a3, a4⟩, z1⟩ := hr
  clear z1
  simp only at a1 a2 a3 a4
  have hcal := Lib.hid (fun W => l9Mean_any r2 r1 W a1 a2 a3 a4)
  go_enter Try.func60, Try.ntmps60
  go_wp2_with (go_at_call 99; refine (hcal.out _).mono ?_; rintro e w' ⟨rfl, rfl⟩)
  go_ret
  exact ⟨rfl, by repeat (first | with_reducible exact Below.refl _ _ | refine Below.alloc ?_ (by simp; try omega) _ | refine Below.setCell ?_ (by simp; try omega) _ | refine Below.drew ?_)⟩
theorem l9Of_any (h : Int) (r : R6) (w : World) (h1 : 1 ≤ h ∧ h ≤ 6) (hr : TR r) : Calls Try.prog 60 #[.agg #[.int .i64 r.1, .int .i64 r.2.1, .int .i64 r.2.2.1, .int .i64 r.2.2.2.1, .int .i64 r.2.2.2.2.1, .int .i64 r.2.2.2.2.2], .int .i64 h] w fun e w' => e = .returned (.int .i64 (aggV h r)) ∧ Below w.heap.size w w' := by
  obtain ⟨t, r1, r2, r3, r4, r5⟩ := r
  have hc : h = 1 ∨ h = 2 ∨ h = 3 ∨ h = 4 ∨ h = 5 ∨ h = 6 := by omega
  rcases hc with rfl | rfl | rfl | rfl | rfl | rfl
  · exact l9Of1_any t r1 r2 r3 r4 r5 w hr
  · exact l9Of2_any t r1 r2 r3 r4 r5 w hr
  · exact l9Of3_any t r1 r2 r3 r4 r5 w hr
  · exact l9Of4_any t r1 r2 r3 r4 r5 w hr
  · exact l9Of5_any t r1 r2 r3 r4 r5 w hr
  · exact l9Of6_any t r1 r2 r3 r4 r5 w hr
end Go.Proofs.Ytnecdlkihlipdaa
