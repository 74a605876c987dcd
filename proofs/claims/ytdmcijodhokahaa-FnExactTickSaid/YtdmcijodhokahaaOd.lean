/- Walks: cascades: the program's levels. -/
import Derived.Test.YtdmcijodhokahaaOc
set_option linter.unusedVariables false
set_option linter.unusedSimpArgs false
namespace Go.Proofs.Ytdmcijodhokahaa
open Go.RowKit

set_option maxRecDepth 100000 in
set_option maxHeartbeats 4000000 in
theorem follows_any (b o b' o' : Nat) (W K fw fk : Int) (x : Lv) (w : World) (hx : x.1 = W) (hk : x.2.1 = K) (hw : 1 ≤ fw) (hk0 : 0 ≤ fk)
    (c0 : w.cell? ⟨b, o, none⟩ = some (.int .i64 W)) (c1 : w.cell? ⟨b, o + 1, none⟩ = some (.int .i64 K)) (d0 : w.cell? ⟨b', o', none⟩ = some (.int .i64 fw)) (d1 : w.cell? ⟨b', o' + 1, none⟩ = some (.int .i64 fk)) :
    Calls Try.prog 72 #[.pointer (some ⟨b, o, none⟩), .pointer (some ⟨b', o', none⟩)] w fun e w' => e = .returned (.bool (shpB fw fk x)) ∧ ∃ n, w' = w.drewN n := by
  have HW := Lib.hid (fun w => widthOk_q W w)
  have hw0 : ¬ fw = 0 := by omega
  have hwz : (fw == 0) = false := by simpa using hw0
  have hE : shpB fw fk x = (wdB W && (decide (fw < W) && (decide (W % fw = 0) && (vIn K fk 1000000000 && decide (K % W = 0))))) := by unfold shpB; rw [hx, hk]
  rw [hE]
  clear hE hx hk
  cases h1 : wdB W with
  | false =>
    rw [h1] at HW
    clear h1
    go_enter Try.func72, Try.ntmps72
    go_wp2_with fail
    go_quiet ((go_at_call 93; exact Calls.quiet_of_same (HW.out _)))
    go_wp2_with fail
    go_ret
    exact ⟨by (rw [Bool.false_and]); rfl, _, rfl⟩
  | true =>
    rw [h1] at HW
    obtain ⟨hW1, hW2⟩ := wdB_in h1
    clear h1
    rw [Bool.true_and]
    have hW0 : ¬ W = 0 := by omega
    have hWz : (W == 0) = false := by simpa using hW0
    have htm : W.tmod fw = W % fw := Int.tmod_eq_emod_of_nonneg (by omega)
    by_cases h2 : fw < W
    case neg =>
      have h2' : decide (fw < W) = false := decide_eq_false h2
      go_enter Try.func72, Try.ntmps72
      go_wp2_with fail
      go_quiet ((go_at_call 93; exact Calls.quiet_of_same (HW.out _)))
      go_wp2_with fail
      go_ret
      exact ⟨by (rw [h2', Bool.false_and]); rfl, _, rfl⟩
    have h2' : decide (fw < W) = true := decide_eq_true h2
    by_cases h3 : W % fw = 0
    case neg =>
      have h3' : (W % fw == 0) = false := by simpa using h3
      have h3'' : decide (W % fw = 0) = false := decide_eq_false h3
      go_enter Try.func72, Try.ntmps72
      go_wp2_with fail
      go_quiet ((go_at_call 93; exact Calls.quiet_of_same (HW.out _)))
      go_wp2_with fail
      go_ret
      exact ⟨by (rw [h2', h3'', Bool.false_and, Bool.and_false]); rfl, _, rfl⟩
    have h3' : (W % fw == 0) = true := by simpa using h3
    have h3'' : decide (W % fw = 0) = true := decide_eq_true h3
    by_cases h4 : K.tmod W = 0
    case neg =>
      have h4' : (K.tmod W == 0) = false := by simpa using h4
      have h4'' : decide (K.tmod W = 0) = false := decide_eq_false h4
      have HF := Lib.hid (show (vIn K fk 1000000000 && decide (K % W = 0)) = false from by
        by_cases hK : 0 ≤ K
        · rw [Int.tmod_eq_emod_of_nonneg hK] at h4
          rw [decide_eq_false h4, Bool.and_false]
        · rw [vIn_false (fun h => by omega)]; rfl)
      go_enter Try.func72, Try.ntmps72
      go_wp2_with fail
      go_quiet ((go_at_call 93; exact Calls.quiet_of_same (HW.out _)))
      go_wp2_with fail
      go_ret
      exact ⟨by (rw [HF.out, Bool.and_false, Bool.and_false]); rfl, _, rfl⟩
    have h4' : (K.tmod W == 0) = true := by simpa using h4
    have h4'' : decide (K.tmod W = 0) = true := decide_eq_true h4
    by_cases h5 : fk ≤ K
    case neg =>
      have h5' : decide (fk ≤ K) = false := decide_eq_false h5
      have HF := Lib.hid (show vIn K fk 1000000000 = false from vIn_false (fun h => h5 h.1))
      go_enter Try.func72, Try.ntmps72
      go_wp2_with fail
      go_quiet ((go_at_call 93; exact Calls.quiet_of_same (HW.out _)))
      go_wp2_with fail
      go_ret
      exact ⟨by (rw [HF.out, Bool.false_and, Bool.and_false, Bool.and_false]); rfl, _, rfl⟩
    have h5' : decide (fk ≤ K) = true := decide_eq_true h5
    by_cases h6 : K ≤ 1000000000
    case neg =>
      have h6' : decide (K ≤ 1000000000) = false := decide_eq_false h6
      have HF := Lib.hid (show vIn K fk 1000000000 = false from vIn_false (fun h => h6 h.2))
      go_enter Try.func72, Try.ntmps72
      go_wp2_with fail
      go_quiet ((go_at_call 93; exact Calls.quiet_of_same (HW.out _)))
      go_wp2_with fail
      go_ret
      exact ⟨by (rw [HF.out, Bool.false_and, Bool.and_false, Bool.and_false]); rfl, _, rfl⟩
    have h6' : decide (K ≤ 1000000000) = true := decide_eq_true h6
    have HT := Lib.hid (show (vIn K fk 1000000000 && decide (K % W = 0)) = true from by
      rw [Int.tmod_eq_emod_of_nonneg (by omega)] at h4
      rw [vIn_true h5 h6, decide_eq_true h4]; rfl)
    go_enter Try.func72, Try.ntmps72
    go_wp2_with fail
    go_quiet ((go_at_call 93; exact Calls.quiet_of_same (HW.out _)))
    go_wp2_with fail
    go_ret
    exact ⟨by (rw [HT.out, h2', h3'']); rfl, _, rfl⟩

set_option maxRecDepth 100000 in
set_option maxHeartbeats 2000000 in
theorem retains_any (b o : Nat) (W K nw : Int) (r : R6) (x : Lv) (w : World) (hx : x.1 = W) (hk : x.2.1 = K) (hT : r.1 ≤ nw) (hW : 1 ≤ W ∧ W ≤ 1000000) (hn : 0 ≤ nw ∧ nw ≤ 1000000000000) (hT0 : 0 ≤ r.1) (hK : 0 ≤ K ∧ K ≤ 1000000000) (hb : b < w.heap.size)
    (c0 : w.cell? ⟨b, o, none⟩ = some (.int .i64 W)) (c1 : w.cell? ⟨b, o + 1, none⟩ = some (.int .i64 K)) :
    Calls Try.prog 107 #[.pointer (some ⟨b, o, none⟩), .agg #[.int .i64 r.1, .int .i64 r.2.1, .int .i64 r.2.2.1, .int .i64 r.2.2.2.1, .int .i64 r.2.2.2.2.1, .int .i64 r.2.2.2.2.2], .int .i64 nw] w fun e w' => e = .returned (.bool (rolAt nw x r)) ∧ Below w.heap.size w w' := by
  obtain ⟨t, r1, r2, r3, r4, r5⟩ := r
  simp only at hT hT0 ⊢
  have hE : rolAt nw x (t, r1, r2, r3, r4, r5) = decide (nw - K < t + W) := by unfold rolAt; rw [hx, hk, decide_eq_true (show (t, r1, r2, r3, r4, r5).1 ≤ nw from hT), Bool.true_and]
  rw [hE]
  have e1 : IntKind.i64.wrap (nw - K) = nw - K := IntWalk.i64_in _ (by omega)
  have e2 : IntKind.i64.wrap (t + W) = t + W := IntWalk.i64_in _ (by omega)
  have HR := Lib.hid (fun w => recent_q (t + W) nw K w e1)
  clear hE hx hk
  go_enter Try.func107, Try.ntmps107
  go_wp2_with fail
  go_quiet ((go_at_call 81; exact Calls.quiet_of_same (HR.out _)))
  go_wp2_with fail
  go_ret
  exact ⟨rfl, by
    repeat (first | exact Below.refl _ _ | refine Below.alloc ?_ (by simp; try omega) _ | refine Below.setCell ?_ (by simp; try omega) _ | refine Below.drew ?_ | refine below_drewN_u ?_ _)⟩
end Go.Proofs.Ytdmcijodhokahaa
