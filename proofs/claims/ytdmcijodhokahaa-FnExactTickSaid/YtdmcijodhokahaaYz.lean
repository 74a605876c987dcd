/- Walks: DeleteFunc at rows that may have no element. -/
import Derived.Test.YtdmcijodhokahaaWy
set_option linter.unusedVariables false
set_option linter.unusedSimpArgs false
namespace Go.Proofs.Ytdmcijodhokahaa
open Go.RowKit


set_option maxRecDepth 100000 in
set_option maxHeartbeats 1000000 in
theorem indexPt0_any (c1 c2 : Value) (A : Option Addr) (c : Nat) (w : World) :
    Calls Try.prog 131 #[.slice A 0 c, .func (.func 104) #[] #[c1, c2]] w fun e w' => e = .returned (.int .i64 (-1)) ∧ w' = w := by
  go_enter Try.func131, Try.ntmps131
  go_wp2_with fail
  refine wp_loop_rounds 1 ?_
  rw [rounds_succ]
  go_wp2_with fail
  go_ret
  exact ⟨rfl, rfl⟩
set_option maxRecDepth 100000 in
set_option maxHeartbeats 1000000 in
theorem deletePt0_any (c1 c2 : Value) (A : Option Addr) (c : Nat) (w : World) :
    Calls Try.prog 103 #[.slice A 0 c, .func (.func 104) #[] #[c1, c2]] w fun e w' => e = .returned (.slice A 0 c) ∧ w' = w := by
  have hix := Lib.hid (indexPt0_any c1 c2 A c w)
  go_enter Try.func103, Try.ntmps103
  go_wp2_with fail
  refine hix.out.mono ?_
  rintro e w1 ⟨rfl, rfl⟩
  go_wp2_with fail
  go_ret
  exact ⟨rfl, rfl⟩
/-- DeleteFunc at a row that may have no element: F must be kept by whatever changes the row's block alone -/
theorem deletePtO_any (c1 c2 : Value) (pd : (Int × Int) → Bool) (F : World → Prop) (xs : List (Int × Int)) (base top : Nat) (v : Value) (w : World)
    (hp : ∀ g, obk v xs.length = some g → PredPt c1 c2 pd g F xs) (hF : F w) (h : ORow w base top 47 2 v xs.length (prs xs)) (hl : xs.length ≤ 1048576) :
    Calls Try.prog 103 #[v, .func (.func 104) #[] #[c1, c2]] w fun e w' => ∃ v', e = .returned v' ∧ ORow w' base top 47 2 v' (xs.filter (fun p => !pd p)).length (prs (xs.filter (fun p => !pd p))) ∧ (∀ g, obk v' (xs.filter (fun p => !pd p)).length = some g → obk v xs.length = some g) ∧ Chg (fun b => obk v xs.length = some b) w w' := by
  by_cases hn : xs.length = 0
  · obtain rfl := List.eq_nil_of_length_eq_zero hn
    obtain ⟨_, A, c, rfl⟩ := (show ORow w base top 47 2 v 0 (prs []) from h).nil
    refine (deletePt0_any c1 c2 A c w).mono ?_
    rintro e w' ⟨rfl, rfl⟩
    exact ⟨_, rfl, ORow.of_nil _ _ _ _ _ _ _, fun g hg => hg, Chg.refl _ _⟩
  · rcases h with ⟨h, ht⟩ | ⟨h0, _⟩
    · rcases h.2 with ⟨_, h0⟩ | ⟨g, cap, cur, rfl, _⟩
      · exact absurd h0 hn
      · have hob : obk (.slice (some ⟨g, 0, none⟩) xs.length cap) xs.length = some g := by rw [obk_pos (by omega)]; rfl
        refine (deletePt_any c1 c2 pd g F xs (hp g hob) base cap w hF h hl).mono ?_
        rintro e w' ⟨rfl, h1, h2⟩
        refine ⟨_, rfl, .inl ⟨h1, fun g' hg' => ht g' hg'⟩, fun g' hg' => ?_, Chg.grown h2 (fun k hk => by rw [hob]; exact hk)⟩
        have := obk_own hg'
        rw [hob]; exact this
    · exact absurd h0 hn

set_option maxRecDepth 100000 in
set_option maxHeartbeats 1000000 in
theorem indexRl0_any (c1 c2 : Value) (A : Option Addr) (c : Nat) (w : World) :
    Calls Try.prog 132 #[.slice A 0 c, .func (.func 106) #[] #[c1, c2]] w fun e w' => e = .returned (.int .i64 (-1)) ∧ w' = w := by
  go_enter Try.func132, Try.ntmps132
  go_wp2_with fail
  refine wp_loop_rounds 1 ?_
  rw [rounds_succ]
  go_wp2_with fail
  go_ret
  exact ⟨rfl, rfl⟩
set_option maxRecDepth 100000 in
set_option maxHeartbeats 1000000 in
theorem deleteRl0_any (c1 c2 : Value) (A : Option Addr) (c : Nat) (w : World) :
    Calls Try.prog 105 #[.slice A 0 c, .func (.func 106) #[] #[c1, c2]] w fun e w' => e = .returned (.slice A 0 c) ∧ w' = w := by
  have hix := Lib.hid (indexRl0_any c1 c2 A c w)
  go_enter Try.func105, Try.ntmps105
  go_wp2_with fail
  refine hix.out.mono ?_
  rintro e w1 ⟨rfl, rfl⟩
  go_wp2_with fail
  go_ret
  exact ⟨rfl, rfl⟩
/-- DeleteFunc at a row that may have no element: F must be kept by whatever changes the row's block alone -/
theorem deleteRlO_any (c1 c2 : Value) (pd : R6 → Bool) (F : World → Prop) (xs : List R6) (base top : Nat) (v : Value) (w : World)
    (hp : ∀ g, obk v xs.length = some g → PredRl c1 c2 pd g F xs) (hF : F w) (h : ORow w base top 56 6 v xs.length (rls xs)) (hl : xs.length ≤ 1048576) :
    Calls Try.prog 105 #[v, .func (.func 106) #[] #[c1, c2]] w fun e w' => ∃ v', e = .returned v' ∧ ORow w' base top 56 6 v' (xs.filter (fun p => !pd p)).length (rls (xs.filter (fun p => !pd p))) ∧ (∀ g, obk v' (xs.filter (fun p => !pd p)).length = some g → obk v xs.length = some g) ∧ Chg (fun b => obk v xs.length = some b) w w' := by
  by_cases hn : xs.length = 0
  · obtain rfl := List.eq_nil_of_length_eq_zero hn
    obtain ⟨_, A, c, rfl⟩ := (show ORow w base top 56 6 v 0 (rls []) from h).nil
    refine (deleteRl0_any c1 c2 A c w).mono ?_
    rintro e w' ⟨rfl, rfl⟩
    exact ⟨_, rfl, ORow.of_nil _ _ _ _ _ _ _, fun g hg => hg, Chg.refl _ _⟩
  · rcases h with ⟨h, ht⟩ | ⟨h0, _⟩
    · rcases h.2 with ⟨_, h0⟩ | ⟨g, cap, cur, rfl, _⟩
      · exact absurd h0 hn
      · have hob : obk (.slice (some ⟨g, 0, none⟩) xs.length cap) xs.length = some g := by rw [obk_pos (by omega)]; rfl
        refine (deleteRl_any c1 c2 pd g F xs (hp g hob) base cap w hF h hl).mono ?_
        rintro e w' ⟨rfl, h1, h2⟩
        refine ⟨_, rfl, .inl ⟨h1, fun g' hg' => ht g' hg'⟩, fun g' hg' => ?_, Chg.grown h2 (fun k hk => by rw [hob]; exact hk)⟩
        have := obk_own hg'
        rw [hob]; exact this
    · exact absurd h0 hn
end Go.Proofs.Ytdmcijodhokahaa
