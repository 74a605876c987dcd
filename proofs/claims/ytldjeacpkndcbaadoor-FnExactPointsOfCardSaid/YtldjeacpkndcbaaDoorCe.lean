/- The walk of the law FnExactPutBits. -/
import Derived.Test.YtldjeacpkndcbaaDoorWo
import Derived.OpenShut
import Derived.Test.YtldjeacpkndcbaaDoorCd
set_option linter.unusedVariables false
set_option linter.unusedSimpArgs false
namespace Go.Proofs.YtldjeacpkndcbaaDoor
open Go.RowKit

set_option maxRecDepth 100000 in
set_option maxHeartbeats 400000 in
theorem eqBits_same (R : ByteArray) (M : Int) (w : World) :
    Calls Tryd.prog 29 #[.agg #[.string R, .int .i64 M], .agg #[.string R, .int .i64 M]] w (RetBelow (.bool true) w) := by
  go_enter Tryd.func29, Tryd.ntmps29
  go_wp2
  go_ret
  exact ⟨rfl, below2 w _ _⟩

end Go.Proofs.YtldjeacpkndcbaaDoor

/- Walks: the program's code of a step; the law FnExactCodeOf. -/
set_option linter.unusedVariables false
set_option linter.unusedSimpArgs false
namespace Go.Proofs.YtldjeacpkndcbaaDoor
open Go.RowKit

theorem fits0 (v : Int) : fitsB v 0 = decide (v = 0) := by
  unfold fitsB; apply decide_eq_decide.2
  rw [show (2 : Int) ^ (0 : Int).toNat = 1 by decide]; omega
theorem fits7 (v : Int) : fitsB v 7 = decide (0 ≤ v ∧ v < 128) := by
  unfold fitsB; apply decide_eq_decide.2
  rw [show (2 : Int) ^ (7 : Int).toNat = 128 by decide]; omega
theorem fits9 (v : Int) : fitsB v 9 = decide (0 ≤ v ∧ v < 512) := by
  unfold fitsB; apply decide_eq_decide.2
  rw [show (2 : Int) ^ (9 : Int).toNat = 512 by decide]; omega
theorem fits12 (v : Int) : fitsB v 12 = decide (0 ≤ v ∧ v < 4096) := by
  unfold fitsB; apply decide_eq_decide.2
  rw [show (2 : Int) ^ (12 : Int).toNat = 4096 by decide]; omega
theorem fits42 (v : Int) : fitsB v 42 = decide (0 ≤ v ∧ v < 4398046511104) := by
  unfold fitsB; apply decide_eq_decide.2
  rw [show (2 : Int) ^ (42 : Int).toNat = 4398046511104 by decide]; omega

set_option maxRecDepth 100000 in
set_option maxHeartbeats 1000000 in
theorem codesPut_out (g gc : Nat) (d : Int) (w : World) (hr : stepB d = false) :
    Calls Tryd.prog 109 #[.pointer (some ⟨gc, 0, none⟩), .pointer (some ⟨g, 0, none⟩), .int .i64 d] w fun e w' => e = .returned (.tuple #[]) ∧ w' = w := by
  have hh : d < -1000000000000 ∨ (¬ d < -1000000000000 ∧ 1000000000000 < d) := by
    have := mt stepB_iff.2 (by rw [hr]; decide : ¬ stepB d = true)
    omega
  clear hr
  rcases hh with hh | ⟨h1, h2⟩
  · go_enter Tryd.func109, Tryd.ntmps109
    go_wp2_with fail
    exact bodyPost_ret (results_none rfl _ _ _) rfl ⟨rfl, rfl⟩
  · go_enter Tryd.func109, Tryd.ntmps109
    go_wp2_with fail
    exact bodyPost_ret (results_none rfl _ _ _) rfl ⟨rfl, rfl⟩

theorem grownBy_rfl (w : World) (r : Option Nat) : w.grownBy w r := ⟨rfl, rfl, rfl, Nat.le_refl _, fun _ _ _ => rfl⟩
theorem codesPut_any (g gc : Nat) (l : List Bool) (d : Int) (w : World) (hcs : CodesAt w gc) (hl : BitsAt w g l) (hn : l.length + 46 ≤ 20000) :
    Calls Tryd.prog 109 #[.pointer (some ⟨gc, 0, none⟩), .pointer (some ⟨g, 0, none⟩), .int .i64 d] w (PutPost g (l ++ codeB d) (.tuple #[]) w) := by
  cases hs : stepB d with
  | false =>
    refine (codesPut_out g gc d w hs).mono ?_
    rintro e w' ⟨rfl, rfl⟩
    have hB : codeB d = [] := by unfold codeB; rw [hs]; rfl
    rw [hB, List.append_nil]
    exact ⟨rfl, hl, grownBy_rfl _ _⟩
  | true =>
    have hr := stepB_iff.1 hs
    have hB : codeB d = codeL d := by unfold codeB; rw [hs]; rfl
    rw [hB]
    unfold codeL
    split
    · rename_i h0
      subst h0
      exact codesPut_0 g gc l 0 w hcs hl hr.1 hr.2 hn (by rw [fits0]; decide) _ (Lib.hid (by rw [List.append_assoc]; rfl))
    · rename_i h0
      have F0 : fitsB (d + 0) 0 = false := by rw [fits0, decide_eq_false_iff_not]; omega
      split
      · rename_i h1
        exact codesPut_1 g gc l d w hcs hl hr.1 hr.2 hn F0 (by rw [fits7, decide_eq_true_iff]; omega) _ (Lib.hid (by rw [List.append_assoc]; rfl))
      · rename_i h1
        have F1 : fitsB (d + 63) 7 = false := by rw [fits7, decide_eq_false_iff_not]; omega
        split
        · rename_i h2
          exact codesPut_2 g gc l d w hcs hl hr.1 hr.2 hn F0 F1 (by rw [fits9, decide_eq_true_iff]; omega) _ (Lib.hid (by rw [List.append_assoc]; rfl))
        · rename_i h2
          have F2 : fitsB (d + 255) 9 = false := by rw [fits9, decide_eq_false_iff_not]; omega
          split
          · rename_i h3
            exact codesPut_3 g gc l d w hcs hl hr.1 hr.2 hn F0 F1 F2 (by rw [fits12, decide_eq_true_iff]; omega) _ (Lib.hid (by rw [List.append_assoc]; rfl))
          · rename_i h3
            have F3 : fitsB (d + 2047) 12 = false := by rw [fits12, decide_eq_false_iff_not]; omega
            exact codesPut_4 g gc l d w hcs hl hr.1 hr.2 hn F0 F1 F2 F3 (by rw [fits42, decide_eq_true_iff]; omega) _ (Lib.hid (by rw [List.append_assoc]; rfl))



end Go.Proofs.YtldjeacpkndcbaaDoor
