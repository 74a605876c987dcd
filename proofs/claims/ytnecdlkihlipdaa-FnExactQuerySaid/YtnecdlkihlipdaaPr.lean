/- Walks: queries: the program's aggregates; what a roll tells. -/
import Derived.Test.YtnecdlkihlipdaaPq
set_option linter.unusedVariables false
set_option linter.unusedSimpArgs false
namespace Go.Proofs.Ytnecdlkihlipdaa
open Go.RowKit

def aggI (t : Int) : Value := if t = 6 then .iface 131 (.agg #[]) else .iface 132 (.int .i64 t)
theorem aggI_6 : aggI 6 = .iface 131 (.agg #[]) := rfl
theorem aggI_f {t : Int} (h : ¬ t = 6) : aggI t = .iface 132 (.int .i64 t) := by unfold aggI; rw [if_neg h]

set_option maxRecDepth 100000 in
theorem aggregateOf_any (t : Int) (w : World) : Calls Try.prog 61 #[.int .i64 t] w fun e w' => e = .returned (aggI t) ∧ w' = w := by
  by_cases h : t = 6
  · subst h
    rw [aggI_6]
    go_enter Try.func61, Try.ntmps61
    go_wp2_with fail
    go_ret
    exact ⟨rfl, rfl⟩
  · rw [aggI_f h]
    go_enter Try.func61, Try.ntmps61
    go_wp2_with fail
    go_ret
    exact ⟨rfl, rfl⟩
set_option maxRecDepth 100000 in
theorem knownMean_any (w : World) : Calls Try.prog 160 #[.agg #[]] w fun e w' => e = .returned (.bool true) ∧ Below w.heap.size w w' := by
  go_enter Try.func160, Try.ntmps160
  go_wp2_with fail
  go_ret
  exact ⟨rfl, by repeat (first | with_reducible exact Below.refl _ _ | refine Below.alloc ?_ (by simp; try omega) _ | refine Below.setCell ?_ (by simp; try omega) _ | refine Below.drew ?_)⟩
set_option maxRecDepth 100000 in
theorem knownField_any (t : Int) (w : World) : Calls Try.prog 161 #[.int .i64 t] w fun e w' => e = .returned (.bool (vIn t 1 5)) ∧ w' = w := by
  by_cases h1 : 1 ≤ t
  · by_cases h2 : t ≤ 5
    · have E : vIn t 1 5 = true := by unfold vIn; rw [decide_eq_true ⟨h1, h2⟩]
      rw [E]
      go_enter Try.func161, Try.ntmps161
      go_wp2_with fail
      go_ret
      exact ⟨rfl, rfl⟩
    · have E : vIn t 1 5 = false := by unfold vIn; rw [decide_eq_false (fun e => h2 e.2)]
      rw [E]
      go_enter Try.func161, Try.ntmps161
      go_wp2_with fail
      go_ret
      exact ⟨rfl, rfl⟩
  · have E : vIn t 1 5 = false := by unfold vIn; rw [decide_eq_false (fun e => h1 e.1)]
    rw [E]
    go_enter Try.func161, Try.ntmps161
    go_wp2_with fail
    go_ret
    exact ⟨rfl, rfl⟩
set_option maxRecDepth 100000 in
set_option maxHeartbeats 1000000 in
theorem fields_any (r : R6) (w : World) : Calls Try.prog 101 #[.agg #[.int .i64 r.1, .int .i64 r.2.1, .int .i64 r.2.2.1, .int .i64 r.2.2.2.1, .int .i64 r.2.2.2.2.1, .int .i64 r.2.2.2.2.2]] w fun e w' => e = .returned (.agg #[.int .i64 0, .int .i64 r.2.1, .int .i64 r.2.2.1, .int .i64 r.2.2.2.1, .int .i64 r.2.2.2.2.1, .int .i64 r.2.2.2.2.2]) ∧ Below w.heap.size w w' := by
  obtain ⟨t, r1, r2, r3, r4, r5⟩ := r
  go_enter Try.func101, Try.ntmps101
  go_wp2_with fail
  exact bodyPost_ret (v := .agg #[.int .i64 0, .int .i64 r1, .int .i64 r2, .int .i64 r3, .int .i64 r4, .int .i64 r5]) (by simp [results, Try.results101, go_sem]) rfl ⟨rfl, by repeat (first | with_reducible exact Below.refl _ _ | refine Below.alloc ?_ (by simp; try omega) _ | refine Below.setCell ?_ (by simp; try omega) _ | refine Below.drew ?_)⟩
theorem floor_div {s n : Int} (hn : 1 ≤ n) : (s.tmod n < 0 → s / n = s.tdiv n - 1) ∧ (¬ s.tmod n < 0 → s / n = s.tdiv n) := by
  have h1 := Int.mul_tdiv_add_tmod s n
  have h3 := Int.tmod_lt_of_pos s (show 0 < n by omega)
  rcases Int.lt_or_le s 0 with hs | hs
  · have h4 : -n < s.tmod n := by
      have := Int.tmod_lt_of_pos (-s) (show 0 < n by omega)
      rw [Int.neg_tmod] at this; omega
    refine ⟨fun hm => ?_, fun hm => ?_⟩
    · exact ((Int.ediv_emod_unique (a := s) (b := n) (r := s.tmod n + n) (q := s.tdiv n - 1) (show 0 < n by omega)).2 ⟨by rw [Int.mul_sub, Int.mul_one]; omega, by omega, by omega⟩).1
    · exact ((Int.ediv_emod_unique (a := s) (b := n) (r := s.tmod n) (q := s.tdiv n) (show 0 < n by omega)).2 ⟨by omega, by omega, by omega⟩).1
  · refine ⟨fun hm => ?_, fun _ => (Int.tdiv_eq_ediv_of_nonneg hs).symm⟩
    have := Int.tmod_nonneg n hs
    omega
theorem tdiv_bd {s n : Int} (hn : 1 ≤ n) (h1 : -1000000000000000 ≤ s) (h2 : s ≤ 1000000000000000) : -1000000000000000 ≤ s.tdiv n ∧ s.tdiv n ≤ 1000000000000000 := by
  rcases Int.lt_or_le s 0 with hs | hs
  · have e : s.tdiv n = -((-s).tdiv n) := by rw [Int.neg_tdiv]; omega
    have := Int.tdiv_le_self n (show 0 ≤ -s by omega)
    have h0 := Int.tdiv_nonneg (show 0 ≤ -s by omega) (show 0 ≤ n by omega)
    omega
  · have := Int.tdiv_le_self n hs
    have h0 := Int.tdiv_nonneg hs (show 0 ≤ n by omega)
    omega
set_option maxRecDepth 100000 in
set_option maxHeartbeats 1000000 in
theorem roundedDown_any (s n : Int) (w : World) (hn : 1 ≤ n) (hn2 : n ≤ 1000000) (h1 : -1000000000000000 ≤ s) (h2 : s ≤ 1000000000000000) : Calls Try.prog 102 #[.int .i64 s, .int .i64 n] w fun e w' => e = .returned (.int .i64 (s / n)) ∧ w' = w := by
  have hf := floor_div (s := s) hn
  have hb := tdiv_bd (s := s) hn h1 h2
  have hw0 : n = 0 → False := by omega
  have hwz : (n == 0) = false := by simpa using hw0
  have hm1 : -1000000 ≤ s.tmod n ∧ s.tmod n ≤ 1000000 := by
    have h3 := Int.tmod_lt_of_pos s (show 0 < n by omega)
    have h4 := Int.tmod_lt_of_pos (-s) (show 0 < n by omega)
    rw [Int.neg_tmod] at h4; omega
  obtain ⟨q, hq⟩ : ∃ q, s.tdiv n = q := ⟨_, rfl⟩
  obtain ⟨m, hm⟩ : ∃ m, s.tmod n = m := ⟨_, rfl⟩
  rw [hq] at hf hb
  rw [hm] at hf hm1
  have HF := Lib.hid hf
  clear hf
  have e1 : IntKind.i64.wrap q = q := IntWalk.i64_in _ (by omega)
  have e2 : IntKind.i64.wrap m = m := IntWalk.i64_in _ (by omega)
  have e3 : IntKind.i64.wrap (q - 1) = q - 1 := IntWalk.i64_in _ (by omega)
  have e4 : wrap64 q = q := by unfold wrap64; omega
  have e5 : wrap64 m = m := by unfold wrap64; omega
  have e6 : wrap64 (q - 1) = q - 1 := by unfold wrap64; omega
  by_cases h : m < 0
  · have d1 : decide (m < 0) = true := decide_eq_true h
    have HE := Lib.hid (HF.out.1 h)
    go_enter Try.func102, Try.ntmps102
    go_wp2_with fail
    go_ret
    exact ⟨by rw [HE.out]; rfl, rfl⟩
  · have d1 : decide (m < 0) = false := decide_eq_false h
    have HE := Lib.hid (HF.out.2 h)
    go_enter Try.func102, Try.ntmps102
    go_wp2_with fail
    go_ret
    exact ⟨by rw [HE.out]; rfl, rfl⟩
set_option maxRecDepth 100000 in
set_option maxHeartbeats 1000000 in
theorem value1_any (t r1 r2 r3 r4 r5 : Int) (w : World) (hr : TR (t, r1, r2, r3, r4, r5)) : Calls Try.prog 63 #[.agg #[.int .i64 t, .int .i64 r1, .int .i64 r2, .int .i64 r3, .int .i64 r4, .int .i64 r5], aggI 1] w fun e w' => e = .returned (.int .i64 r1) ∧ Below w.heap.size w w' := by
  obtain ⟨⟨a1, a2⟩, ⟨a3, a4⟩, _⟩ := hr
  simp only at a1 a2 a3 a4
  have hcal := Lib.hid (fun W => fields_any (t, r1, r2, r3, r4, r5) W)
  have hta : ∀ w, (Instr.typeAssert (.iface 132 (.int .i64 1)) 88 132 true).run Try.prog w = .ok (.tuple #[.int .i64 1, .bool true]) w := fun _ => by kernel_rfl
  have hix : ∀ w, (Instr.index 135 (.agg #[.int .i64 0, .int .i64 r1, .int .i64 r2, .int .i64 r3, .int .i64 r4, .int .i64 r5]) (.int .i64 1)).run Try.prog w = .ok (.int .i64 r1) w := fun _ => by kernel_rfl
  rw [aggI_f (by decide)]
  go_enter Try.func63, Try.ntmps63
  go_wp2_with fail
  refine (hcal.out _).mono ?_
  rintro e w1 ⟨rfl, hb1⟩
  have HB1 := Lib.hid (((Below.refl w.heap.size w).alloc (Nat.le_refl _) (.cells #[.int .i64 t, .int .i64 r1, .int .i64 r2, .int .i64 r3, .int .i64 r4, .int .i64 r5] 61)).trans (hb1.mono (by simp)))
  clear hb1
  go_wp2_with fail
  go_ret
  exact ⟨rfl, HB1.out⟩
set_option maxRecDepth 100000 in
set_option maxHeartbeats 1000000 in
theorem value2_any (t r1 r2 r3 r4 r5 : Int) (w : World) (hr : TR (t, r1, r2, r3, r4, r5)) : Calls Try.prog 63 #[.agg #[.int .i64 t, .int .i64 r1, .int .i64 r2, .int .i64 r3, .int .i64 r4, .int .i64 r5], aggI 2] w fun e w' => e = .returned (.int .i64 r2) ∧ Below w.heap.size w w' := by
  obtain ⟨⟨a1, a2⟩, ⟨a3, a4⟩, _⟩ := hr
  simp only at a1 a2 a3 a4
  have hcal := Lib.hid (fun W => fields_any (t, r1, r2, r3, r4, r5) W)
  have hta : ∀ w, (Instr.typeAssert (.iface 132 (.int .i64 2)) 88 132 true).run Try.prog w = .ok (.tuple #[.int .i64 2, .bool true]) w := fun _ => by kernel_rfl
  have hix : ∀ w, (Instr.index 135 (.agg #[.int .i64 0, .int .i64 r1, .int .i64 r2, .int .i64 r3, .int .i64 r4, .int .i64 r5]) (.int .i64 2)).run Try.prog w = .ok (.int .i64 r2) w := fun _ => by kernel_rfl
  rw [aggI_f (by decide)]
  go_enter Try.func63, Try.ntmps63
  go_wp2_with fail
  refine (hcal.out _).mono ?_
  rintro e w1 ⟨rfl, hb1⟩
  have HB1 := Lib.hid (((Below.refl w.heap.size w).alloc (Nat.le_refl _) (.cells #[.int .i64 t, .int .i64 r1, .int .i64 r2, .int .i64 r3, .int .i64 r4, .int .i64 r5] 61)).trans (hb1.mono (by simp)))
  clear hb1
  go_wp2_with fail
  go_ret
  exact ⟨rfl, HB1.out⟩
set_option maxRecDepth 100000 in
set_option maxHeartbeats 1000000 in
theorem value3_any (t r1 r2 r3 r4 r5 : Int) (w : World) (hr : TR (t, r1, r2, r3, r4, r5)) : Calls Try.prog 63 #[.agg #[.int .i64 t, .int .i64 r1, .int .i64 r2, .int .i64 r3, .int .i64 r4, .int .i64 r5], aggI 3] w fun e w' => e = .returned (.int .i64 r3) ∧ Below w.heap.size w w' := by
  obtain ⟨⟨a1, a2⟩, ⟨a3, a4⟩, _⟩ := hr
  simp only at a1 a2 a3 a4
  have hcal := Lib.hid (fun W => fields_any (t, r1, r2, r3, r4, r5) W)
  have hta : ∀ w, (Instr.typeAssert (.iface 132 (.int .i64 3)) 88 132 true).run Try.prog w = .ok (.tuple #[.int .i64 3, .bool true]) w := fun _ => by kernel_rfl
  have hix : ∀ w, (Instr.index 135 (.agg #[.int .i64 0, .int .i64 r1, .int .i64 r2, .int .i64 r3, .int .i64 r4, .int .i64 r5]) (.int .i64 3)).run Try.prog w = .ok (.int .i64 r3) w := fun _ => by kernel_rfl
  rw [aggI_f (by decide)]
  go_enter Try.func63, Try.ntmps63
  go_wp2_with fail
  refine (hcal.out _).mono ?_
  rintro e w1 ⟨rfl, hb1⟩
  have HB1 := Lib.hid (((Below.refl w.heap.size w).alloc (Nat.le_refl _) (.cells #[.int .i64 t, .int .i64 r1, .int .i64 r2, .int .i64 r3, .int .i64 r4, .int .i64 r5] 61)).trans (hb1.mono (by simp)))
  clear hb1
  go_wp2_with fail
  go_ret
  exact ⟨rfl, HB1.out⟩
set_option maxRecDepth 100000 in
set_option maxHeartbeats 1000000 in
theorem value4_any (t r1 r2 r3 r4 r5 : Int) (w : World) (hr : TR (t, r1, r2, r3, r4, r5)) : Calls Try.prog 63 #[.agg #[.int .i64 t, .int .i64 r1, .int .i64 r2, .int .i64 r3, .int .i64 r4, .int .i64 r5], aggI 4] w fun e w' => e = .returned (.int .i64 r4) ∧ Below w.heap.size w w' := by
  obtain ⟨⟨a1, a2⟩, ⟨a3, a4⟩, _⟩ := hr
  simp only at a1 a2 a3 a4
  have hcal := Lib.hid (fun W => fields_any (t, r1, r2, r3, r4, r5) W)
  have hta : ∀ w, (Instr.typeAssert (.iface 132 (.int .i64 4)) 88 132 true).run Try.prog w = .ok (.tuple #[.int .i64 4, .bool true]) w := fun _ => by kernel_rfl
  have hix : ∀ w, (Instr.index 135 (.agg #[.int .i64 0, .int .i64 r1, .int .i64 r2, .int .i64 r3, .int .i64 r4, .int .i64 r5]) (.int .i64 4)).run Try.prog w = .ok (.int .i64 r4) w := fun _ => by kernel_rfl
  rw [aggI_f (by decide)]
  go_enter Try.func63, Try.ntmps63
  go_wp2_with fail
  refine (hcal.out _).mono ?_
  rintro e w1 ⟨rfl, hb1⟩
  have HB1 := Lib.hid (((Below.refl w.heap.size w).alloc (Nat.le_refl _) (.cells #[.int .i64 t, .int .i64 r1, .int .i64 r2, .int .i64 r3, .int .i64 r4, .int .i64 r5] 61)).trans (hb1.mono (by simp)))
  clear hb1
  go_wp2_with fail
  go_ret
  exact ⟨rfl, HB1.out⟩
set_option maxRecDepth 100000 in
set_option maxHeartbeats 1000000 in
theorem value5_any (t r1 r2 r3 r4 r5 : Int) (w : World) (hr : TR (t, r1, r2, r3, r4, r5)) : Calls Try.prog 63 #[.agg #[.int .i64 t, .int .i64 r1, .int .i64 r2, .int .i64 r3, .int .i64 r4, .int .i64 r5], aggI 5] w fun e w' => e = .returned (.int .i64 r5) ∧ Below w.heap.size w w' := by
  obtain ⟨⟨a1, a2⟩, ⟨a3, a4⟩, _⟩ := hr
  simp only at a1 a2 a3 a4
  have hcal := Lib.hid (fun W => fields_any (t, r1, r2, r3, r4, r5) W)
  have hta : ∀ w, (Instr.typeAssert (.iface 132 (.int .i64 5)) 88 132 true).run Try.prog w = .ok (.tuple #[.int .i64 5, .bool true]) w := fun _ => by kernel_rfl
  have hix : ∀ w, (Instr.index 135 (.agg #[.int .i64 0, .int .i64 r1, .int .i64 r2, .int .i64 r3, .int .i64 r4, .int .i64 r5]) (.int .i64 5)).run Try.prog w = .ok (.int .i64 r5) w := fun _ => by kernel_rfl
  rw [aggI_f (by decide)]
  go_enter Try.func63, Try.ntmps63
  go_wp2_with fail
  refine (hcal.out _).mono ?_
  rintro e w1 ⟨rfl, hb1⟩
  have HB1 := Lib.hid (((Below.refl w.heap.size w).alloc (Nat.le_refl _) (.cells #[.int .i64 t, .int .i64 r1, .int .i64 r2, .int .i64 r3, .int .i64 r4, .int .i64 r5] 61)).trans (hb1.mono (by simp)))
  clear hb1
  go_wp2_with fail
  go_ret
  exact ⟨rfl, HB1.out⟩
set_option maxRecDepth 100000 in
set_option maxHeartbeats 1000000 in
theorem value6_any (t r1 r2 r3 r4 r5 : Int) (w : World) (hr : TR (t, r1, r2, r3, r4, r5)) : Calls Try.prog 63 #[.agg #[.int .i64 t, .int .i64 r1, .int .i64 r2, .int .i64 r3, .int .i64 r4, .int .i64 r5], aggI 6] w fun e w' => e = .returned (.int .i64 (r2 / r1)) ∧ Below w.heap.size w w' := by
  obtain ⟨⟨a1, a2⟩, ⟨a3, a4⟩, _⟩ := hr
  simp only at a1 a2 a3 a4
  have hcal := Lib.hid (fun W => roundedDown_any r2 r1 W a1 a2 a3 a4)
  have hta : ∀ w, (Instr.typeAssert (.iface 131 (.agg #[])) 88 132 true).run Try.prog w = .ok (.tuple #[.int .i64 0, .bool false]) w := fun _ => by kernel_rfl
  rw [aggI_6]
  go_enter Try.func63, Try.ntmps63
  go_wp2_with fail
  refine (hcal.out _).mono ?_
  rintro e w1 ⟨rfl, rfl⟩
  go_wp2_with fail
  go_ret
  exact ⟨rfl, by repeat (first | with_reducible exact Below.refl _ _ | refine Below.alloc ?_ (by simp; try omega) _ | refine Below.setCell ?_ (by simp; try omega) _ | refine Below.drew ?_)⟩
theorem value_any (h : Int) (r : R6) (w : World) (h1 : 1 ≤ h ∧ h ≤ 6) (hr : TR r) : Calls Try.prog 63 #[.agg #[.int .i64 r.1, .int .i64 r.2.1, .int .i64 r.2.2.1, .int .i64 r.2.2.2.1, .int .i64 r.2.2.2.2.1, .int .i64 r.2.2.2.2.2], aggI h] w fun e w' => e = .returned (.int .i64 (aggV h r)) ∧ Below w.heap.size w w' := by
  obtain ⟨t, r1, r2, r3, r4, r5⟩ := r
  have hc : h = 1 ∨ h = 2 ∨ h = 3 ∨ h = 4 ∨ h = 5 ∨ h = 6 := by omega
  rcases hc with rfl | rfl | rfl | rfl | rfl | rfl
  · exact value1_any t r1 r2 r3 r4 r5 w hr
  · exact value2_any t r1 r2 r3 r4 r5 w hr
  · exact value3_any t r1 r2 r3 r4 r5 w hr
  · exact value4_any t r1 r2 r3 r4 r5 w hr
  · exact value5_any t r1 r2 r3 r4 r5 w hr
  · exact value6_any t r1 r2 r3 r4 r5 w hr
end Go.Proofs.Ytnecdlkihlipdaa
