/- Walks: rolls, added one by one: the program's methods. -/
import Derived.Test.YtcjpedolmnahfaaYh
import Derived.StillTailTactics
set_option linter.unusedVariables false
set_option linter.unusedSimpArgs false
namespace Go.Proofs.Ytcjpedolmnahfaa
open Go.RowKit

theorem grew_drewN (w : World) (n : Nat) (row : Option Nat) : w.grownBy (w.drewN n) row := ⟨rfl, rfl, rfl, Nat.le_refl _, fun _ _ _ => rfl⟩
/-- the roll at the window of the width -/
def winR (W : Int) (x : R6) : R6 := (x.1 - x.1 % W, x.2)
def addI (W : Int) (xs : List R6) (x : R6) : List R6 := if xs.length = 0 ∨ (lastR xs).1 < (winR W x).1 then xs ++ [winR W x] else xs.set (xs.length - 1) (withR (lastR xs) (winR W x))
theorem addI_app {W : Int} {xs : List R6} {x : R6} (h : xs.length = 0 ∨ (lastR xs).1 < (winR W x).1) : addI W xs x = xs ++ [winR W x] := by unfold addI; rw [if_pos h]
theorem addI_in {W : Int} {xs : List R6} {x : R6} (h : ¬ xs.length = 0) (h2 : ¬ (lastR xs).1 < (winR W x).1) : addI W xs x = xs.set (xs.length - 1) (withR (lastR xs) (winR W x)) := by
  unfold addI; rw [if_neg (fun e => e.elim h h2)]
theorem addI_len (W : Int) (xs : List R6) (x : R6) : (addI W xs x).length ≤ xs.length + 1 := by
  unfold addI
  split <;> simp

set_option maxRecDepth 100000 in
set_option maxHeartbeats 1000000 in
theorem rollOf_any (t v : Int) (w : World) :
    Calls Try.prog 110 #[.agg #[.int .i64 t, .int .i64 v]] w fun e w' => e = .returned (.agg #[.int .i64 t, .int .i64 1, .int .i64 v, .int .i64 v, .int .i64 v, .int .i64 v]) ∧ Below w.heap.size w w' := by
  go_enter Try.func110, Try.ntmps110
  go_wp2_with fail
  exact bodyPost_ret (v := .agg #[.int .i64 t, .int .i64 1, .int .i64 v, .int .i64 v, .int .i64 v, .int .i64 v]) (by simp [results, Try.results110, go_sem]) rfl ⟨rfl, by
    repeat (first | exact Below.refl _ _ | refine Below.alloc ?_ (by simp; try omega) _ | refine Below.setCell ?_ (by simp; try omega) _ | refine Below.drew ?_ | refine below_drewN_u ?_ _)⟩

set_option maxRecDepth 100000 in
set_option maxHeartbeats 4000000 in
theorem with_any (y0 y1 y2 y3 y4 y5 a0 a1 a2 a3 a4 a5 : Int) (w : World) :
    Calls Try.prog 129 #[.agg #[.int .i64 y0, .int .i64 y1, .int .i64 y2, .int .i64 y3, .int .i64 y4, .int .i64 y5], .agg #[.int .i64 a0, .int .i64 a1, .int .i64 a2, .int .i64 a3, .int .i64 a4, .int .i64 a5]] w fun e w' => e = .returned (.agg #[.int .i64 y0, .int .i64 (wrap64 (y1 + a1)), .int .i64 (wrap64 (y2 + a2)), .int .i64 (min y3 a3), .int .i64 (max y4 a4), .int .i64 a5]) ∧ Below w.heap.size w w' := by
  go_enter Try.func129, Try.ntmps129
  go_wp2_with fail
  all_goals exact bodyPost_ret (v := .agg #[.int .i64 y0, .int .i64 (wrap64 (y1 + a1)), .int .i64 (wrap64 (y2 + a2)), .int .i64 (min y3 a3), .int .i64 (max y4 a4), .int .i64 a5]) (by simp [results, Try.results129, go_sem]; try omega) rfl ⟨rfl, by
    repeat (first | exact Below.refl _ _ | refine Below.alloc ?_ (by simp; try omega) _ | refine Below.setCell ?_ (by simp; try omega) _ | refine Below.drew ?_ | refine below_drewN_u ?_ _)⟩


set_option maxRecDepth 100000 in
set_option maxHeartbeats 4000000 in
theorem addRoll_app (base : Nat) (v : Value) (xs : List R6) (a0 a1 a2 a3 a4 a5 : Int) (W : Int) (w : World) (hW : 1 ≤ W) (h0 : 0 ≤ a0) (hR : Rng a0) (hl : xs.length + 1 ≤ 1048576) (hb : base ≤ w.heap.size) (h : w.ownsRow base 48 6 v xs.length (rls xs)) (hd : ¬ xs.length = 0) (hd2 : (lastR xs).1 < a0 - a0 % W) :
    Calls Try.prog 108 #[v, .agg #[.int .i64 a0, .int .i64 a1, .int .i64 a2, .int .i64 a3, .int .i64 a4, .int .i64 a5], .int .i64 W] w (fun e w' => ∃ v', e = .returned v' ∧ w'.ownsRow base 48 6 v' (addI W xs (a0, a1, a2, a3, a4, a5)).length (rls (addI W xs (a0, a1, a2, a3, a4, a5))) ∧ w.grownBy w' v.ownBlock ∧ Below base w w') := by
  rw [addI_app (.inr hd2)]
  have hwz : (W == 0) = false := by simpa using (show ¬ W = 0 by omega)
  have hw0 : ¬ W = 0 := by omega
  have htm : a0.tmod W = a0 % W := Int.tmod_eq_emod_of_nonneg h0
  have hm0 : 0 ≤ a0 % W := Int.emod_nonneg _ (by omega)
  have hm1 : a0 % W ≤ a0 := by
    have := Int.mul_ediv_add_emod a0 W
    have h2 := Int.mul_nonneg (show 0 ≤ W by omega) (Int.ediv_nonneg h0 (show 0 ≤ W by omega))
    omega
  unfold Rng at hR
  have ew : wrap64 (a0 - a0 % W) = a0 - a0 % W := by unfold wrap64; omega
  have ewi : IntKind.i64.wrap (a0 - a0 % W) = a0 - a0 % W := IntWalk.i64_in _ (by omega)
  obtain ⟨i0, hi, hz0, hz1, hz2⟩ := info_parts info_rl
  have e1 : IntKind.i64.wrap ((xs.length : Int) - 1) = (xs.length : Int) - 1 := IntWalk.i64_in _ (by omega)
  have e2 : (0 : Int) ≤ (xs.length : Int) - 1 := by omega
  have e2' : (1 : Int) ≤ (xs.length : Int) := by omega
  have e3 : ((xs.length : Int) - 1).toNat = xs.length - 1 := by omega
  have e4 : (xs.length : Int) - 1 < (xs.length : Int) := by omega
  have hn1 : decide ((xs.length : Int) - 1 < 0) = false := by simp; omega
  have HO := Lib.hid h
  rcases h.2 with ⟨rfl, hz⟩ | ⟨g, cap, cur, rfl, hgb, hg, _⟩
  · omega
  have hgl : g < w.heap.size := (Array.getElem?_eq_some_iff.1 hg).1
  clear hg
  have HC := Lib.hid h.cellAt
  have c0 : w.cell? ⟨g, (xs.length - 1) * 6, none⟩ = some (.int .i64 (lastR xs).1) := by
    rw [HC.out _ (by omega)]; exact rls_get0 _ _ (by omega)
  clear h
  go_enter Try.func108, Try.ntmps108
  go_wp2_with fail
  go_region_law (fail)
  all_goals
    go_simp
    have hd2' : decide ((lastR xs).1 < a0 - a0 % W) = true := decide_eq_true hd2
    go_wp2_with fail
    go_quiet (fail)
    obtain ⟨W0, hW0⟩ : ∃ W0, W0 = ((w.alloc (.cells #[.int .i64 (a0 - a0 % W), .int .i64 a1, .int .i64 a2, .int .i64 a3, .int .i64 a4, .int .i64 a5] 48)).drew.drewN nq) := ⟨_, rfl⟩
    have HB0 := Lib.hid (show Below w.heap.size w W0 from by rw [hW0]; exact below_drewN_u ((Below.refl _ _).alloc (Nat.le_refl _) _).drew nq)
    have HG0 := Lib.hid (fun row => show w.grownBy W0 row from by rw [hW0]; exact ((World.grownBy_alloc w _ row).trans (grew_drewN _ 1 row)).trans (grew_drewN _ nq row))
    have HS0 := Lib.hid (show W0.heap.size = w.heap.size + 1 from by rw [hW0]; simp)
    have hlt0 : w.heap.size < W0.heap.size := by have := HS0.out; omega
    have HO0 := Lib.hid (u_own_below HO.out HB0.out)
    have q0 : W0.cell? ⟨w.heap.size, 0, none⟩ = some (.int .i64 (a0 - a0 % W)) := by rw [hW0]; go_simp
    have q1 : W0.cell? ⟨w.heap.size, 1, none⟩ = some (.int .i64 a1) := by rw [hW0]; go_simp
    have q2 : W0.cell? ⟨w.heap.size, 2, none⟩ = some (.int .i64 a2) := by rw [hW0]; go_simp
    have q3 : W0.cell? ⟨w.heap.size, 3, none⟩ = some (.int .i64 a3) := by rw [hW0]; go_simp
    have q4 : W0.cell? ⟨w.heap.size, 4, none⟩ = some (.int .i64 a4) := by rw [hW0]; go_simp
    have q5 : W0.cell? ⟨w.heap.size, 5, none⟩ = some (.int .i64 a5) := by rw [hW0]; go_simp
    rw [← hW0]
    clear hW0
    go_wp2_with (at_builtin; refine wpList_append_own _ rfl _ _ 44 rfl base 48 i0 (.agg #[.int .i64 0, .int .i64 0, .int .i64 0, .int .i64 0, .int .i64 0, .int .i64 0]) 6 48 Try.underlying44 hi hz0 hz1 hz2 rfl (by decide) _ xs.length (rls xs) rfl (HO0.out.alloc _) ⟨W0.heap.size, 0, none⟩ 1 1 [.int .i64 (a0 - a0 % W), .int .i64 a1, .int .i64 a2, .int .i64 a3, .int .i64 a4, .int .i64 a5] rfl rfl (cells_six (by go_simp) (by go_simp) (by go_simp) (by go_simp) (by go_simp) (by go_simp)) ?c2 ?c3 ?c4 ?c5 ?_)
    case c2 => first | rfl | exact ⟨rfl, rfl⟩ | (intro u hu; simp at hu; rcases hu with rfl | rfl | rfl | rfl | rfl | rfl <;> rfl)
    case c3 => unfold maxLen; omega
    case c4 => omega
    case c5 => first | omega | (simp; omega)
    intro v' w4 hown4 hgrow4 _
    have hb4 := below_appendN (HB0.out.mono hb) (Nat.le_refl _) (by omega) HO0.out hgrow4
    have HO4 := Lib.hid hown4
    have HB4 := Lib.hid hb4
    have HG4 := Lib.hid (((HG0.out _).trans (World.grownBy_alloc W0 _ _)).trans hgrow4)
    clear hown4 hb4 hgrow4
    go_wp2_with fail
    go_ret
    exact ⟨_, rfl, by rw [List.length_append, rls_append]; exact HO4.out, HG4.out, HB4.out⟩

set_option maxRecDepth 100000 in
set_option maxHeartbeats 4000000 in
theorem addRoll_new (base : Nat) (v : Value) (a0 a1 a2 a3 a4 a5 : Int) (W : Int) (w : World) (hW : 1 ≤ W) (h0 : 0 ≤ a0) (hR : Rng a0) (hb : base ≤ w.heap.size) (h : w.ownsRow base 48 6 v 0 (rls [])) :
    Calls Try.prog 108 #[v, .agg #[.int .i64 a0, .int .i64 a1, .int .i64 a2, .int .i64 a3, .int .i64 a4, .int .i64 a5], .int .i64 W] w (fun e w' => ∃ v', e = .returned v' ∧ w'.ownsRow base 48 6 v' (addI W [] (a0, a1, a2, a3, a4, a5)).length (rls (addI W [] (a0, a1, a2, a3, a4, a5))) ∧ w.grownBy w' v.ownBlock ∧ Below base w w') := by
  rw [addI_app (.inl rfl)]
  have hwz : (W == 0) = false := by simpa using (show ¬ W = 0 by omega)
  have hw0 : ¬ W = 0 := by omega
  have htm : a0.tmod W = a0 % W := Int.tmod_eq_emod_of_nonneg h0
  have hm0 : 0 ≤ a0 % W := Int.emod_nonneg _ (by omega)
  have hm1 : a0 % W ≤ a0 := by
    have := Int.mul_ediv_add_emod a0 W
    have h2 := Int.mul_nonneg (show 0 ≤ W by omega) (Int.ediv_nonneg h0 (show 0 ≤ W by omega))
    omega
  unfold Rng at hR
  have ew : wrap64 (a0 - a0 % W) = a0 - a0 % W := by unfold wrap64; omega
  have ewi : IntKind.i64.wrap (a0 - a0 % W) = a0 - a0 % W := IntWalk.i64_in _ (by omega)
  obtain ⟨i0, hi, hz0, hz1, hz2⟩ := info_parts info_rl
  have HO := Lib.hid h
  obtain ⟨A, c, rfl⟩ : ∃ A c, v = .slice A 0 c := by
    rcases h.2 with ⟨rfl, hz⟩ | ⟨g, cap, cur, rfl, hgb, hg, _⟩
    · exact ⟨_, _, rfl⟩
    · exact ⟨_, _, rfl⟩
  clear h
  go_enter Try.func108, Try.ntmps108
  go_wp2_with fail
  go_region_law (fail)
  all_goals
    go_simp
    go_wp2_with fail
    go_quiet (fail)
    obtain ⟨W0, hW0⟩ : ∃ W0, W0 = ((w.alloc (.cells #[.int .i64 (a0 - a0 % W), .int .i64 a1, .int .i64 a2, .int .i64 a3, .int .i64 a4, .int .i64 a5] 48)).drew.drewN nq) := ⟨_, rfl⟩
    have HB0 := Lib.hid (show Below w.heap.size w W0 from by rw [hW0]; exact below_drewN_u ((Below.refl _ _).alloc (Nat.le_refl _) _).drew nq)
    have HG0 := Lib.hid (fun row => show w.grownBy W0 row from by rw [hW0]; exact ((World.grownBy_alloc w _ row).trans (grew_drewN _ 1 row)).trans (grew_drewN _ nq row))
    have HS0 := Lib.hid (show W0.heap.size = w.heap.size + 1 from by rw [hW0]; simp)
    have hlt0 : w.heap.size < W0.heap.size := by have := HS0.out; omega
    have HO0 := Lib.hid (u_own_below HO.out HB0.out)
    have q0 : W0.cell? ⟨w.heap.size, 0, none⟩ = some (.int .i64 (a0 - a0 % W)) := by rw [hW0]; go_simp
    have q1 : W0.cell? ⟨w.heap.size, 1, none⟩ = some (.int .i64 a1) := by rw [hW0]; go_simp
    have q2 : W0.cell? ⟨w.heap.size, 2, none⟩ = some (.int .i64 a2) := by rw [hW0]; go_simp
    have q3 : W0.cell? ⟨w.heap.size, 3, none⟩ = some (.int .i64 a3) := by rw [hW0]; go_simp
    have q4 : W0.cell? ⟨w.heap.size, 4, none⟩ = some (.int .i64 a4) := by rw [hW0]; go_simp
    have q5 : W0.cell? ⟨w.heap.size, 5, none⟩ = some (.int .i64 a5) := by rw [hW0]; go_simp
    rw [← hW0]
    clear hW0
    go_wp2_with (at_builtin; refine wpList_append_own _ rfl _ _ 44 rfl base 48 i0 (.agg #[.int .i64 0, .int .i64 0, .int .i64 0, .int .i64 0, .int .i64 0, .int .i64 0]) 6 48 Try.underlying44 hi hz0 hz1 hz2 rfl (by decide) _ 0 (rls []) rfl (HO0.out.alloc _) ⟨W0.heap.size, 0, none⟩ 1 1 [.int .i64 (a0 - a0 % W), .int .i64 a1, .int .i64 a2, .int .i64 a3, .int .i64 a4, .int .i64 a5] rfl rfl (cells_six (by go_simp) (by go_simp) (by go_simp) (by go_simp) (by go_simp) (by go_simp)) ?c2 ?c3 ?c4 ?c5 ?_)
    case c2 => first | rfl | exact ⟨rfl, rfl⟩ | (intro u hu; simp at hu; rcases hu with rfl | rfl | rfl | rfl | rfl | rfl <;> rfl)
    case c3 => unfold maxLen; omega
    case c4 => omega
    case c5 => first | omega | (simp; omega)
    intro v' w4 hown4 hgrow4 _
    have hb4 := below_appendN (HB0.out.mono hb) (Nat.le_refl _) (by omega) HO0.out hgrow4
    have HO4 := Lib.hid hown4
    have HB4 := Lib.hid hb4
    have HG4 := Lib.hid (((HG0.out _).trans (World.grownBy_alloc W0 _ _)).trans hgrow4)
    clear hown4 hb4 hgrow4
    go_wp2_with fail
    go_ret
    exact ⟨_, rfl, by skip; exact HO4.out, HG4.out, HB4.out⟩
end Go.Proofs.Ytcjpedolmnahfaa

/- Walks: rolls, added one by one: the program's, into the last roll. -/
set_option linter.unusedVariables false
set_option linter.unusedSimpArgs false
namespace Go.Proofs.Ytcjpedolmnahfaa
open Go.RowKit

theorem grew_of_below {w w' : World} (h : Below w.heap.size w w') (row : Option Nat) : w.grownBy w' row := ⟨h.os, h.tape, h.output, h.size, fun k hk _ => h.block k hk⟩
theorem lastR_get {xs : List R6} : xs.getD (xs.length - 1) z6 = lastR xs := rfl

set_option maxRecDepth 100000 in
set_option maxHeartbeats 8000000 in
theorem addRoll_in (base : Nat) (v : Value) (xs : List R6) (a0 a1 a2 a3 a4 a5 : Int) (W : Int) (w : World) (hW : 1 ≤ W) (h0 : 0 ≤ a0) (hR : Rng a0) (hl : xs.length + 1 ≤ 1048576) (hb : base ≤ w.heap.size) (h : w.ownsRow base 48 6 v xs.length (rls xs)) (hd : ¬ xs.length = 0) (hd2 : ¬ (lastR xs).1 < a0 - a0 % W) :
    Calls Try.prog 108 #[v, .agg #[.int .i64 a0, .int .i64 a1, .int .i64 a2, .int .i64 a3, .int .i64 a4, .int .i64 a5], .int .i64 W] w (fun e w' => ∃ v', e = .returned v' ∧ w'.ownsRow base 48 6 v' (addI W xs (a0, a1, a2, a3, a4, a5)).length (rls (addI W xs (a0, a1, a2, a3, a4, a5))) ∧ w.grownBy w' v.ownBlock ∧ Below base w w') := by
  rw [addI_in hd (show ¬ (lastR xs).1 < (winR W (a0, a1, a2, a3, a4, a5)).1 from hd2)]
  have hwz : (W == 0) = false := by simpa using (show ¬ W = 0 by omega)
  have hw0 : ¬ W = 0 := by omega
  have htm : a0.tmod W = a0 % W := Int.tmod_eq_emod_of_nonneg h0
  have hm0 : 0 ≤ a0 % W := Int.emod_nonneg _ (by omega)
  have hm1 : a0 % W ≤ a0 := by
    have := Int.mul_ediv_add_emod a0 W
    have h2 := Int.mul_nonneg (show 0 ≤ W by omega) (Int.ediv_nonneg h0 (show 0 ≤ W by omega))
    omega
  unfold Rng at hR
  have ew : wrap64 (a0 - a0 % W) = a0 - a0 % W := by unfold wrap64; omega
  have ewi : IntKind.i64.wrap (a0 - a0 % W) = a0 - a0 % W := IntWalk.i64_in _ (by omega)
  obtain ⟨i0, hi, hz0, hz1, hz2⟩ := info_parts info_rl
  have e1 : IntKind.i64.wrap ((xs.length : Int) - 1) = (xs.length : Int) - 1 := IntWalk.i64_in _ (by omega)
  have e2 : (0 : Int) ≤ (xs.length : Int) - 1 := by omega
  have e2' : (1 : Int) ≤ (xs.length : Int) := by omega
  have e3 : ((xs.length : Int) - 1).toNat = xs.length - 1 := by omega
  have e4 : (xs.length : Int) - 1 < (xs.length : Int) := by omega
  have hn1 : decide ((xs.length : Int) - 1 < 0) = false := by simp; omega
  have HO := Lib.hid h
  rcases h.2 with ⟨rfl, hz⟩ | ⟨g, cap, cur, rfl, hgb, hg, _⟩
  · omega
  have hgl : g < w.heap.size := (Array.getElem?_eq_some_iff.1 hg).1
  clear hg
  have HC := Lib.hid h.cellAt
  have c0 : w.cell? ⟨g, (xs.length - 1) * 6, none⟩ = some (.int .i64 (lastR xs).1) := by
    rw [HC.out _ (by omega)]; exact rls_get0 _ _ (by omega)
  clear h
  clear c0
  have HWi := Lib.hid (fun w => with_any (lastR xs).1 (lastR xs).2.1 (lastR xs).2.2.1 (lastR xs).2.2.2.1 (lastR xs).2.2.2.2.1 (lastR xs).2.2.2.2.2 (a0 - a0 % W) a1 a2 a3 a4 a5 w)
  have HXL := Lib.hid (rls_set xs (xs.length - 1) (lastR xs).1 (wrap64 ((lastR xs).2.1 + a1)) (wrap64 ((lastR xs).2.2.1 + a2)) (min (lastR xs).2.2.2.1 a3) (max (lastR xs).2.2.2.2.1 a4) a5 (by omega))
  have HXW : Hid (withR (lastR xs) (winR W (a0, a1, a2, a3, a4, a5)) = ((lastR xs).1, wrap64 ((lastR xs).2.1 + a1), wrap64 ((lastR xs).2.2.1 + a2), min (lastR xs).2.2.2.1 a3, max (lastR xs).2.2.2.2.1 a4, a5)) := Lib.hid rfl
  have hd2' : decide ((lastR xs).1 < a0 - a0 % W) = false := decide_eq_false hd2
  have d0 : w.cell? ⟨g, (xs.length - 1) * 6, none⟩ = some (.int .i64 (lastR xs).1) := by
    rw [HC.out _ (by omega)]; exact rls_get0 _ _ (by omega)
  have d1 : w.cell? ⟨g, (xs.length - 1) * 6 + 1, none⟩ = some (.int .i64 (lastR xs).2.1) := by
    rw [HC.out _ (by omega)]; exact rls_get1 _ _ (by omega)
  have d2 : w.cell? ⟨g, (xs.length - 1) * 6 + 2, none⟩ = some (.int .i64 (lastR xs).2.2.1) := by
    rw [HC.out _ (by omega)]; exact rls_get2 _ _ (by omega)
  have d3 : w.cell? ⟨g, (xs.length - 1) * 6 + 3, none⟩ = some (.int .i64 (lastR xs).2.2.2.1) := by
    rw [HC.out _ (by omega)]; exact rls_get3 _ _ (by omega)
  have d4 : w.cell? ⟨g, (xs.length - 1) * 6 + 4, none⟩ = some (.int .i64 (lastR xs).2.2.2.2.1) := by
    rw [HC.out _ (by omega)]; exact rls_get4 _ _ (by omega)
  have d5 : w.cell? ⟨g, (xs.length - 1) * 6 + 5, none⟩ = some (.int .i64 (lastR xs).2.2.2.2.2) := by
    rw [HC.out _ (by omega)]; exact rls_get5 _ _ (by omega)
  generalize (lastR xs).2.2.2.2.2 = y5 at *
  generalize (lastR xs).2.2.2.2.1 = y4 at *
  generalize (lastR xs).2.2.2.1 = y3 at *
  generalize (lastR xs).2.2.1 = y2 at *
  generalize (lastR xs).2.1 = y1 at *
  generalize (lastR xs).1 = y0 at *
  clear HC
  go_enter Try.func108, Try.ntmps108
  go_wp2_with fail
  go_region_law (fail)
  all_goals
    go_simp
    go_wp2_with fail
    go_quiet (fail)
    obtain ⟨W0, hW0⟩ : ∃ W0, W0 = ((w.alloc (.cells #[.int .i64 (a0 - a0 % W), .int .i64 a1, .int .i64 a2, .int .i64 a3, .int .i64 a4, .int .i64 a5] 48)).drew.drewN nq) := ⟨_, rfl⟩
    have HB0 := Lib.hid (show Below w.heap.size w W0 from by rw [hW0]; exact below_drewN_u ((Below.refl _ _).alloc (Nat.le_refl _) _).drew nq)
    have HG0 := Lib.hid (fun row => show w.grownBy W0 row from by rw [hW0]; exact ((World.grownBy_alloc w _ row).trans (grew_drewN _ 1 row)).trans (grew_drewN _ nq row))
    have HS0 := Lib.hid (show W0.heap.size = w.heap.size + 1 from by rw [hW0]; simp)
    have hlt0 : w.heap.size < W0.heap.size := by have := HS0.out; omega
    have HO0 := Lib.hid (u_own_below HO.out HB0.out)
    have q0 : W0.cell? ⟨w.heap.size, 0, none⟩ = some (.int .i64 (a0 - a0 % W)) := by rw [hW0]; go_simp
    have q1 : W0.cell? ⟨w.heap.size, 1, none⟩ = some (.int .i64 a1) := by rw [hW0]; go_simp
    have q2 : W0.cell? ⟨w.heap.size, 2, none⟩ = some (.int .i64 a2) := by rw [hW0]; go_simp
    have q3 : W0.cell? ⟨w.heap.size, 3, none⟩ = some (.int .i64 a3) := by rw [hW0]; go_simp
    have q4 : W0.cell? ⟨w.heap.size, 4, none⟩ = some (.int .i64 a4) := by rw [hW0]; go_simp
    have q5 : W0.cell? ⟨w.heap.size, 5, none⟩ = some (.int .i64 a5) := by rw [hW0]; go_simp
    rw [← hW0]
    clear hW0
    have k0 : W0.cell? ⟨g, (xs.length - 1) * 6, none⟩ = some (.int .i64 y0) := (HB0.out.cell (p := ⟨g, (xs.length - 1) * 6, none⟩) hgl).trans d0
    have k1 : W0.cell? ⟨g, (xs.length - 1) * 6 + 1, none⟩ = some (.int .i64 y1) := (HB0.out.cell (p := ⟨g, (xs.length - 1) * 6 + 1, none⟩) hgl).trans d1
    have k2 : W0.cell? ⟨g, (xs.length - 1) * 6 + 2, none⟩ = some (.int .i64 y2) := (HB0.out.cell (p := ⟨g, (xs.length - 1) * 6 + 2, none⟩) hgl).trans d2
    have k3 : W0.cell? ⟨g, (xs.length - 1) * 6 + 3, none⟩ = some (.int .i64 y3) := (HB0.out.cell (p := ⟨g, (xs.length - 1) * 6 + 3, none⟩) hgl).trans d3
    have k4 : W0.cell? ⟨g, (xs.length - 1) * 6 + 4, none⟩ = some (.int .i64 y4) := (HB0.out.cell (p := ⟨g, (xs.length - 1) * 6 + 4, none⟩) hgl).trans d4
    have k5 : W0.cell? ⟨g, (xs.length - 1) * 6 + 5, none⟩ = some (.int .i64 y5) := (HB0.out.cell (p := ⟨g, (xs.length - 1) * 6 + 5, none⟩) hgl).trans d5
    clear d0 d1 d2 d3 d4 d5
    go_wp2_with fail
    go_region_law (first
      | (go_simp; go_at_call 129; refine (HWi.out _).mono ?_; rintro e w5 ⟨rfl, hb5⟩; have o5 := u_own_below (by first | exact HO0.out | exact HO0.out.drew) hb5; have m0 := (hb5.cell (p := ⟨g, (xs.length - 1) * 6, none⟩) (by have := HS0.out; simp; omega)).trans (by first | exact k0 | (go_simp)); have m1 := (hb5.cell (p := ⟨g, (xs.length - 1) * 6 + 1, none⟩) (by have := HS0.out; simp; omega)).trans (by first | exact k1 | (go_simp)); have m2 := (hb5.cell (p := ⟨g, (xs.length - 1) * 6 + 2, none⟩) (by have := HS0.out; simp; omega)).trans (by first | exact k2 | (go_simp)); have m3 := (hb5.cell (p := ⟨g, (xs.length - 1) * 6 + 3, none⟩) (by have := HS0.out; simp; omega)).trans (by first | exact k3 | (go_simp)); have m4 := (hb5.cell (p := ⟨g, (xs.length - 1) * 6 + 4, none⟩) (by have := HS0.out; simp; omega)).trans (by first | exact k4 | (go_simp)); have m5 := (hb5.cell (p := ⟨g, (xs.length - 1) * 6 + 5, none⟩) (by have := HS0.out; simp; omega)).trans (by first | exact k5 | (go_simp)); have f0 : w5.frozen? ⟨g, (xs.length - 1) * 6, none⟩ = false := o5.frozenAt _; have f1 : w5.frozen? ⟨g, (xs.length - 1) * 6 + 1, none⟩ = false := o5.frozenAt _; have f2 : w5.frozen? ⟨g, (xs.length - 1) * 6 + 2, none⟩ = false := o5.frozenAt _; have f3 : w5.frozen? ⟨g, (xs.length - 1) * 6 + 3, none⟩ = false := o5.frozenAt _; have f4 : w5.frozen? ⟨g, (xs.length - 1) * 6 + 4, none⟩ = false := o5.frozenAt _; have f5 : w5.frozen? ⟨g, (xs.length - 1) * 6 + 5, none⟩ = false := o5.frozenAt _; have HO5 := Lib.hid o5; clear o5; have HB5 := Lib.hid hb5; clear hb5))
    all_goals
      go_simp
      have s0 := HO5.out.stored ((xs.length - 1) * 6) (.int .i64 y0)
      have s1 := s0.1.stored ((xs.length - 1) * 6 + 1) (.int .i64 (wrap64 (y1 + a1)))
      have s2 := s1.1.stored ((xs.length - 1) * 6 + 2) (.int .i64 (wrap64 (y2 + a2)))
      have s3 := s2.1.stored ((xs.length - 1) * 6 + 3) (.int .i64 (min y3 a3))
      have s4 := s3.1.stored ((xs.length - 1) * 6 + 4) (.int .i64 (max y4 a4))
      have s5 := s4.1.stored ((xs.length - 1) * 6 + 5) (.int .i64 a5)
      have hown6 := s5.1
      rw [HXL.out] at hown6
      have hg6 := ((((((((HG0.out (some g)).trans (grew_drewN _ 1 _)).trans (grew_of_below HB5.out _)).trans s0.2).trans s1.2).trans s2.2).trans s3.2).trans s4.2).trans s5.2
      have HO6 := Lib.hid hown6
      have HG6 := Lib.hid hg6
      have HB6 := Lib.hid (((Below.refl base w).grown hg6 hb (fun k e => by cases e; exact hgb)))
      clear s0 s1 s2 s3 s4 s5 hown6 hg6
      go_wp2_with fail
      go_ret
      exact ⟨_, rfl, by rw [HXW.out, List.length_set]; exact HO6.out, HG6.out, HB6.out⟩

theorem addRoll_any (base : Nat) (v : Value) (xs : List R6) (a0 a1 a2 a3 a4 a5 : Int) (W : Int) (w : World) (hW : 1 ≤ W) (h0 : 0 ≤ a0) (hR : Rng a0) (hl : xs.length + 1 ≤ 1048576) (hb : base ≤ w.heap.size) (h : w.ownsRow base 48 6 v xs.length (rls xs)) :
    Calls Try.prog 108 #[v, .agg #[.int .i64 a0, .int .i64 a1, .int .i64 a2, .int .i64 a3, .int .i64 a4, .int .i64 a5], .int .i64 W] w (fun e w' => ∃ v', e = .returned v' ∧ w'.ownsRow base 48 6 v' (addI W xs (a0, a1, a2, a3, a4, a5)).length (rls (addI W xs (a0, a1, a2, a3, a4, a5))) ∧ w.grownBy w' v.ownBlock ∧ Below base w w') := by
  by_cases hd : xs.length = 0
  · obtain rfl : xs = [] := List.eq_nil_of_length_eq_zero hd
    exact addRoll_new base v a0 a1 a2 a3 a4 a5 W w hW h0 hR hb h
  · by_cases hd2 : (lastR xs).1 < a0 - a0 % W
    · exact addRoll_app base v xs a0 a1 a2 a3 a4 a5 W w hW h0 hR hl hb h hd hd2
    · exact addRoll_in base v xs a0 a1 a2 a3 a4 a5 W w hW h0 hR hl hb h hd hd2
end Go.Proofs.Ytcjpedolmnahfaa

