/- Walks: rolls that are valid. -/
import Derived.Test.YtcjpedolmnahfaaYa
set_option linter.unusedVariables false
set_option linter.unusedSimpArgs false
namespace Go.Proofs.Ytcjpedolmnahfaa
open Go.RowKit

def smB (v : Int) : Bool := vIn v (-1000000000) 1000000000
def wdB (v : Int) : Bool := vIn v 1 1000000
def okVB (c s mn mx la : Int) : Bool := decide ((1 ≤ c ∧ c ≤ 1000000) ∧ (-1000000000 ≤ mn ∧ mn ≤ 1000000000) ∧ (-1000000000 ≤ mx ∧ mx ≤ 1000000000) ∧ mn ≤ mx ∧ mn ≤ la ∧ la ≤ mx ∧ c * mn ≤ s ∧ s ≤ c * mx)
def okRB (W : Int) (x : R6) : Bool := decide ((0 ≤ x.1 ∧ x.1 ≤ 1000000000000) ∧ x.1 % W = 0) && okVB x.2.1 x.2.2.1 x.2.2.2.1 x.2.2.2.2.1 x.2.2.2.2.2
def gdR (l : List R6) (W : Int) (j : Nat) : Bool := okRB W (l.getD j z6) && (decide (j = 0) || decide ((l.getD (j - 1) z6).1 < (l.getD j z6).1))
def gdToR (l : List R6) (W : Int) (k : Nat) : Bool := (List.range k).all (gdR l W)
def rollsOkB (l : List R6) (W : Int) : Bool := wdB W && decide (l.length ≤ 400) && gdToR l W l.length
theorem gdToR_succ (l : List R6) (W : Int) (k : Nat) : gdToR l W (k + 1) = (gdToR l W k && gdR l W k) := by
  unfold gdToR; rw [List.range_succ, List.all_append]; simp
theorem gdToR_bad {l : List R6} {W : Int} {k n : Nat} (h : gdR l W k = false) (hk : k < n) : gdToR l W n = false := by
  unfold gdToR
  rw [List.all_eq_false]
  exact ⟨k, by simpa using hk, by simp [h]⟩
theorem gdToR_at {l : List R6} {W : Int} {k j : Nat} (h : gdToR l W k = true) (hj : j < k) : gdR l W j = true := by
  unfold gdToR at h
  exact List.all_eq_true.1 h j (by simpa using hj)
theorem rollsOkB_bad {l : List R6} {W : Int} {k : Nat} (h : gdR l W k = false) (hk : k < l.length) : rollsOkB l W = false := by
  unfold rollsOkB; rw [gdToR_bad h hk]; simp
theorem wrap_mul {c m : Int} (h1 : 1 ≤ c) (h2 : c ≤ 1000000) (h3 : -1000000000 ≤ m) (h4 : m ≤ 1000000000) : wrap64 (c * m) = c * m := by
  have a1 : c * m ≤ c * 1000000000 := Int.mul_le_mul_of_nonneg_left h4 (by omega)
  have a2 : c * (-1000000000) ≤ c * m := Int.mul_le_mul_of_nonneg_left h3 (by omega)
  unfold wrap64; omega
theorem gdR_badT {l : List R6} {W : Int} {k : Nat} (h : ¬ (0 ≤ (l.getD k z6).1 ∧ (l.getD k z6).1 ≤ 1000000000000)) : gdR l W k = false := by
  unfold gdR okRB; rw [decide_eq_false (fun e => h e.1)]; rfl
theorem gdR_badM {l : List R6} {W : Int} {k : Nat} (h : ¬ (l.getD k z6).1 % W = 0) : gdR l W k = false := by
  unfold gdR okRB; rw [decide_eq_false (fun e => h e.2)]; rfl
theorem gdR_badL {l : List R6} {W : Int} {k : Nat} (hk : ¬ k = 0) (h : ¬ (l.getD (k - 1) z6).1 < (l.getD k z6).1) : gdR l W k = false := by
  unfold gdR; rw [decide_eq_false h, decide_eq_false hk]; simp
theorem gdR_badV {l : List R6} {W : Int} {k : Nat} (h : okVB (l.getD k z6).2.1 (l.getD k z6).2.2.1 (l.getD k z6).2.2.2.1 (l.getD k z6).2.2.2.2.1 (l.getD k z6).2.2.2.2.2 = false) : gdR l W k = false := by
  unfold gdR okRB; rw [h]; simp
theorem gdR_ok {l : List R6} {W : Int} {k : Nat} (h1 : 0 ≤ (l.getD k z6).1 ∧ (l.getD k z6).1 ≤ 1000000000000) (h2 : (l.getD k z6).1 % W = 0) (h3 : okVB (l.getD k z6).2.1 (l.getD k z6).2.2.1 (l.getD k z6).2.2.2.1 (l.getD k z6).2.2.2.2.1 (l.getD k z6).2.2.2.2.2 = true)
    (h4 : k = 0 ∨ (l.getD (k - 1) z6).1 < (l.getD k z6).1) : gdR l W k = true := by
  unfold gdR okRB; rw [decide_eq_true ⟨h1, h2⟩, h3]
  rcases h4 with h4 | h4
  · rw [decide_eq_true h4]; rfl
  · rw [decide_eq_true h4, Bool.or_true]; rfl

set_option maxRecDepth 100000 in
set_option maxHeartbeats 400000 in
theorem isSmall_any (v : Int) (w : World) : Calls Try.prog 71 #[.int .i64 v] w fun e w' => e = .returned (.bool (smB v)) ∧ w = w' := by
  by_cases h1 : (-1000000000) ≤ v
  · by_cases h2 : v ≤ 1000000000
    · rw [show smB v = true from vIn_true h1 h2]
      go_enter Try.func71, Try.ntmps71
      go_wp2
      go_ret
      exact ⟨rfl, rfl⟩
    · rw [show smB v = false from vIn_false (fun h => h2 h.2)]
      go_enter Try.func71, Try.ntmps71
      go_wp2
      go_ret
      exact ⟨rfl, rfl⟩
  · rw [show smB v = false from vIn_false (fun h => h1 h.1)]
    go_enter Try.func71, Try.ntmps71
    go_wp2
    go_ret
    exact ⟨rfl, rfl⟩
theorem isSmall_q (v : Int) (w : World) : Calls Try.prog 71 #[.int .i64 v] w fun e w' => e = .returned (.bool (smB v)) ∧ w' = w :=
  (isSmall_any v w).mono fun _ _ ⟨h, h'⟩ => ⟨h, h'.symm⟩

set_option maxRecDepth 100000 in
set_option maxHeartbeats 400000 in
theorem widthOk_any (v : Int) (w : World) : Calls Try.prog 68 #[.int .i64 v] w fun e w' => e = .returned (.bool (wdB v)) ∧ w = w' := by
  by_cases h1 : 1 ≤ v
  · by_cases h2 : v ≤ 1000000
    · rw [show wdB v = true from vIn_true h1 h2]
      go_enter Try.func68, Try.ntmps68
      go_wp2
      go_ret
      exact ⟨rfl, rfl⟩
    · rw [show wdB v = false from vIn_false (fun h => h2 h.2)]
      go_enter Try.func68, Try.ntmps68
      go_wp2
      go_ret
      exact ⟨rfl, rfl⟩
  · rw [show wdB v = false from vIn_false (fun h => h1 h.1)]
    go_enter Try.func68, Try.ntmps68
    go_wp2
    go_ret
    exact ⟨rfl, rfl⟩
theorem widthOk_q (v : Int) (w : World) : Calls Try.prog 68 #[.int .i64 v] w fun e w' => e = .returned (.bool (wdB v)) ∧ w' = w :=
  (widthOk_any v w).mono fun _ _ ⟨h, h'⟩ => ⟨h, h'.symm⟩

set_option maxRecDepth 100000 in
set_option maxHeartbeats 400000 in
theorem l7Val_any (v : Int) (w : World) : Calls Try.prog 74 #[.int .i64 v] w fun e w' => e = .returned (.bool (smB v)) ∧ w = w' := by
  go_enter Try.func74, Try.ntmps74
  go_wp2_with (go_at_call 61; refine (v_l1In_any v (-1000000000) 1000000000 _).mono ?_; rintro e w' ⟨rfl, rfl⟩)
  go_ret
  exact ⟨rfl, rfl⟩
theorem l7Val_q (v : Int) (w : World) : Calls Try.prog 74 #[.int .i64 v] w fun e w' => e = .returned (.bool (smB v)) ∧ w' = w :=
  (l7Val_any v w).mono fun _ _ ⟨h, h'⟩ => ⟨h, h'.symm⟩

set_option maxRecDepth 100000 in
set_option maxHeartbeats 400000 in
theorem l7Width_any (v : Int) (w : World) : Calls Try.prog 102 #[.int .i64 v] w fun e w' => e = .returned (.bool (wdB v)) ∧ w = w' := by
  go_enter Try.func102, Try.ntmps102
  go_wp2_with (go_at_call 61; refine (v_l1In_any v 1 1000000 _).mono ?_; rintro e w' ⟨rfl, rfl⟩)
  go_ret
  exact ⟨rfl, rfl⟩
theorem l7Width_q (v : Int) (w : World) : Calls Try.prog 102 #[.int .i64 v] w fun e w' => e = .returned (.bool (wdB v)) ∧ w' = w :=
  (l7Width_any v w).mono fun _ _ ⟨h, h'⟩ => ⟨h, h'.symm⟩

set_option maxRecDepth 100000 in
set_option maxHeartbeats 4000000 in
theorem valuesOk_any (t c s mn mx la : Int) (w : World) : Calls Try.prog 116 #[.agg #[.int .i64 t, .int .i64 c, .int .i64 s, .int .i64 mn, .int .i64 mx, .int .i64 la]] w fun e w' => e = .returned (.bool (okVB c s mn mx la)) ∧ Below w.heap.size w w' := by
  have HSn := Lib.hid (fun W => isSmall_any mn W)
  have HSx := Lib.hid (fun W => isSmall_any mx W)
  by_cases h0 : 1 ≤ c
  case neg =>
    have E : okVB c s mn mx la = false := by unfold okVB; rw [decide_eq_false_iff_not]; intro h; omega
    rw [E]
    have hd : decide (1 ≤ c) = false := decide_eq_false h0
    clear E
    go_enter Try.func116, Try.ntmps116
    go_wp2_with ((go_at_call 71; first | (with_reducible refine (HSn.out _).mono ?_) | (with_reducible refine (HSx.out _).mono ?_)); rintro e w' ⟨rfl, rfl⟩)
    go_ret
    exact ⟨rfl, by
      repeat (first | exact Below.refl _ _ | refine Below.alloc ?_ (by simp; try omega) _ | refine Below.setCell ?_ (by simp; try omega) _ | refine Below.drew ?_)⟩
  by_cases h1 : c ≤ 1000000
  case neg =>
    have E : okVB c s mn mx la = false := by unfold okVB; rw [decide_eq_false_iff_not]; intro h; omega
    rw [E]
    have hd : decide (c ≤ 1000000) = false := decide_eq_false h1
    clear E
    go_enter Try.func116, Try.ntmps116
    go_wp2_with ((go_at_call 71; first | (with_reducible refine (HSn.out _).mono ?_) | (with_reducible refine (HSx.out _).mono ?_)); rintro e w' ⟨rfl, rfl⟩)
    go_ret
    exact ⟨rfl, by
      repeat (first | exact Below.refl _ _ | refine Below.alloc ?_ (by simp; try omega) _ | refine Below.setCell ?_ (by simp; try omega) _ | refine Below.drew ?_)⟩
  by_cases h2 : -1000000000 ≤ mn ∧ mn ≤ 1000000000
  case neg =>
    have E : okVB c s mn mx la = false := by unfold okVB; rw [decide_eq_false_iff_not]; intro h; omega
    rw [E]
    rw [show smB mn = false from vIn_false h2] at HSn
    clear h2
    clear E
    go_enter Try.func116, Try.ntmps116
    go_wp2_with ((go_at_call 71; first | (with_reducible refine (HSn.out _).mono ?_) | (with_reducible refine (HSx.out _).mono ?_)); rintro e w' ⟨rfl, rfl⟩)
    go_ret
    exact ⟨rfl, by
      repeat (first | exact Below.refl _ _ | refine Below.alloc ?_ (by simp; try omega) _ | refine Below.setCell ?_ (by simp; try omega) _ | refine Below.drew ?_)⟩
  rw [show smB mn = true from vIn_true h2.1 h2.2] at HSn
  by_cases h3 : -1000000000 ≤ mx ∧ mx ≤ 1000000000
  case neg =>
    have E : okVB c s mn mx la = false := by unfold okVB; rw [decide_eq_false_iff_not]; intro h; omega
    rw [E]
    rw [show smB mx = false from vIn_false h3] at HSx
    clear h3
    clear E
    go_enter Try.func116, Try.ntmps116
    go_wp2_with ((go_at_call 71; first | (with_reducible refine (HSn.out _).mono ?_) | (with_reducible refine (HSx.out _).mono ?_)); rintro e w' ⟨rfl, rfl⟩)
    go_ret
    exact ⟨rfl, by
      repeat (first | exact Below.refl _ _ | refine Below.alloc ?_ (by simp; try omega) _ | refine Below.setCell ?_ (by simp; try omega) _ | refine Below.drew ?_)⟩
  rw [show smB mx = true from vIn_true h3.1 h3.2] at HSx
  have em1 := wrap_mul h0 h1 h2.1 h2.2
  have em2 := wrap_mul h0 h1 h3.1 h3.2
  by_cases h4 : mn ≤ mx
  case neg =>
    have E : okVB c s mn mx la = false := by unfold okVB; rw [decide_eq_false_iff_not]; intro h; omega
    rw [E]
    have hd : decide (mn ≤ mx) = false := decide_eq_false h4
    clear E
    go_enter Try.func116, Try.ntmps116
    go_wp2_with ((go_at_call 71; first | (with_reducible refine (HSn.out _).mono ?_) | (with_reducible refine (HSx.out _).mono ?_)); rintro e w' ⟨rfl, rfl⟩)
    go_ret
    exact ⟨rfl, by
      repeat (first | exact Below.refl _ _ | refine Below.alloc ?_ (by simp; try omega) _ | refine Below.setCell ?_ (by simp; try omega) _ | refine Below.drew ?_)⟩
  by_cases h5 : mn ≤ la
  case neg =>
    have E : okVB c s mn mx la = false := by unfold okVB; rw [decide_eq_false_iff_not]; intro h; omega
    rw [E]
    have hd : decide (mn ≤ la) = false := decide_eq_false h5
    clear E
    go_enter Try.func116, Try.ntmps116
    go_wp2_with ((go_at_call 71; first | (with_reducible refine (HSn.out _).mono ?_) | (with_reducible refine (HSx.out _).mono ?_)); rintro e w' ⟨rfl, rfl⟩)
    go_ret
    exact ⟨rfl, by
      repeat (first | exact Below.refl _ _ | refine Below.alloc ?_ (by simp; try omega) _ | refine Below.setCell ?_ (by simp; try omega) _ | refine Below.drew ?_)⟩
  by_cases h6 : la ≤ mx
  case neg =>
    have E : okVB c s mn mx la = false := by unfold okVB; rw [decide_eq_false_iff_not]; intro h; omega
    rw [E]
    have hd : decide (la ≤ mx) = false := decide_eq_false h6
    clear E
    go_enter Try.func116, Try.ntmps116
    go_wp2_with ((go_at_call 71; first | (with_reducible refine (HSn.out _).mono ?_) | (with_reducible refine (HSx.out _).mono ?_)); rintro e w' ⟨rfl, rfl⟩)
    go_ret
    exact ⟨rfl, by
      repeat (first | exact Below.refl _ _ | refine Below.alloc ?_ (by simp; try omega) _ | refine Below.setCell ?_ (by simp; try omega) _ | refine Below.drew ?_)⟩
  by_cases h7 : c * mn ≤ s
  case neg =>
    have E : okVB c s mn mx la = false := by unfold okVB; rw [decide_eq_false_iff_not]; intro h; omega
    rw [E]
    have hd : decide (c * mn ≤ s) = false := decide_eq_false h7
    clear E
    go_enter Try.func116, Try.ntmps116
    go_wp2_with ((go_at_call 71; first | (with_reducible refine (HSn.out _).mono ?_) | (with_reducible refine (HSx.out _).mono ?_)); rintro e w' ⟨rfl, rfl⟩)
    go_ret
    exact ⟨rfl, by
      repeat (first | exact Below.refl _ _ | refine Below.alloc ?_ (by simp; try omega) _ | refine Below.setCell ?_ (by simp; try omega) _ | refine Below.drew ?_)⟩
  by_cases h8 : s ≤ c * mx
  case neg =>
    have E : okVB c s mn mx la = false := by unfold okVB; rw [decide_eq_false_iff_not]; intro h; omega
    rw [E]
    have hd : decide (s ≤ c * mx) = false := decide_eq_false h8
    clear E
    go_enter Try.func116, Try.ntmps116
    go_wp2_with ((go_at_call 71; first | (with_reducible refine (HSn.out _).mono ?_) | (with_reducible refine (HSx.out _).mono ?_)); rintro e w' ⟨rfl, rfl⟩)
    go_ret
    exact ⟨rfl, by
      repeat (first | exact Below.refl _ _ | refine Below.alloc ?_ (by simp; try omega) _ | refine Below.setCell ?_ (by simp; try omega) _ | refine Below.drew ?_)⟩
  have E : okVB c s mn mx la = true := by unfold okVB; rw [decide_eq_true_iff]; exact ⟨⟨h0, h1⟩, h2, h3, h4, h5, h6, h7, h8⟩
  rw [E]
  clear E
  go_enter Try.func116, Try.ntmps116
  go_wp2_with ((go_at_call 71; first | (with_reducible refine (HSn.out _).mono ?_) | (with_reducible refine (HSx.out _).mono ?_)); rintro e w' ⟨rfl, rfl⟩)
  go_ret
  exact ⟨rfl, by
    repeat (first | exact Below.refl _ _ | refine Below.alloc ?_ (by simp; try omega) _ | refine Below.setCell ?_ (by simp; try omega) _ | refine Below.drew ?_)⟩

end Go.Proofs.Ytcjpedolmnahfaa
