/- Walks: a region that draws its order, in a round of a range over a function: walked under one condition on the world. -/
import Derived.Test.YtcjpedolmnahfaaProg
import Derived.RangeFuncBox
import Derived.RangeFuncNested
import Derived.OrdersHeld
import Derived.Stop.RegionWithIn
import Derived.Maps.AppendAt
import Derived.Test.YtcjpedolmnahfaaYo
import Derived.Test.YtcjpedolmnahfaaZo
import Derived.Test.YtcjpedolmnahfaaZl
set_option linter.unusedVariables false
set_option linter.unusedSimpArgs false
namespace Go.Proofs.Ytcjpedolmnahfaa
open Go.RowKit

def noDefer (ops : Array Oper) : Bool := ops.toList.all fun o => match o.op with
  | .defer _ => false
  | _ => true
theorem noDefer_at {ops : Array Oper} (h : noDefer ops = true) {i : Nat} {o : Oper} (hi : ops[i]? = some o) : ∀ c, o.op ≠ .defer c := by
  intro c e
  obtain ⟨hlt, rfl⟩ := Array.getElem?_eq_some_iff.1 hi
  have h1 := List.all_eq_true.1 h ops[i] (by simp)
  rw [e] at h1
  cases h1
theorem rows_round {P : Program} {l n : Nat} {row : String} {args : Array Value} {w : World} {R : Value → World → Prop} (h : Rows P row args w R) : RowsIn (Fence.wide.inRound l) n P row args w R := by
  intro c cs _
  obtain ⟨v, w', r, s⟩ := h c cs
  exact ⟨v, w', r, stepsIn_wide.2 s⟩
theorem oper_round {P : Program} {l n : Nat} {o : Oper} {a : Act} {w : World} {K : Act → World → Prop} {Q : Exit → Act → World → Prop} (hnd : ∀ c, o.op ≠ .defer c) (h : o.wp P a w K Q) : o.wpIn (Fence.wide.inRound l) n P a w K Q := by
  unfold Oper.wpIn
  refine ⟨fun f _ => trivial, ?_⟩
  rw [Fence.inRound_round, Oper.semAt_some l _ _ hnd]
  unfold Oper.wp at h
  generalize (execOp a.eval o).run P w = r at h ⊢
  cases r with
  | ok x w' =>
    cases x with
    | value v => exact h
    | skip => exact h
    | defer d => exact h
    | enter f args => exact ⟨fun hd => by simp [Fence.wide] at hd, CallsIn.inRound l (callsIn_wide.2 h)⟩
    | row row args => exact ⟨fun hd => by simp [Fence.wide] at hd, rows_round h⟩
    | _ => exact False.elim h
  | halt x w' => cases x <;> exact h
theorem wpAnyIn_of_held {P : Program} {md : Region.Mode} {ops : Array Oper} {Q : Exit → Act → World → Prop} {S : World → Prop} {l n : Nat} (hd : noDefer ops = true) (hN : ¬ LetsOut Q) :
    ∀ (fuel : Nat) (listed : Array Bool) (a : Act) (w : World), wpAnyH P md ops Q S fuel listed a w → wpAnyIn (Fence.wide.inRound l) n P md ops Q fuel listed a w := by
  intro fuel
  induction fuel with
  | zero => intro listed a w h; exact h
  | succ fuel ih =>
    intro listed a w h
    refine ⟨h.1, fun i hi => ?_⟩
    have h2 := h.2 i hi
    unfold wpOp at h2
    unfold wpOpIn
    cases ho : ops[i]? with
    | none =>
      rw [ho] at h2
      exact ih _ _ _ h2.2
    | some o =>
      rw [ho] at h2
      simp only at h2 ⊢
      split
      · rename_i hw
        rw [if_pos hw] at h2
        rcases h2 with h2 | h2
        · exact Oper.wpIn_mono (fun a' w' h' => ih _ a' w' h'.2) (oper_round (noDefer_at hd ho) h2)
        · exact absurd h2.2 hN
      · rename_i hw
        rw [if_neg hw] at h2
        exact ⟨fun f _ => trivial, ih _ _ _ h2.2⟩
/-- a region that draws, in a round: one condition on the world, as 'wpAnyH' has it -/
theorem wpIn_region_held_round {P : Program} {id : Nat} {ops : Array Oper} {Q : Exit → Act → World → Prop} {S : World → Prop} {l n : Nat} {a : Act} {w : World} (hd : noDefer ops = true) (hm : P.follows .mixedOrders = true) (hN : ¬ LetsOut Q) (hS : S w.drew)
    (h : S w.drew → wpAnyH P .any ops Q S ops.size (Array.replicate ops.size false) a w.drew) : (Code.region id ops true).wpIn (Fence.wide.inRound l) n P Q a w :=
  wpIn_region_any hm (wpAnyIn_of_held hd hN _ _ _ _ (h hS))
theorem letsOut_then {R : Act → World → Prop} : ¬ LetsOut (Exit.then R (fun _ _ _ => False)) := by
  intro h
  first | exact h | exact h default default | simp [LetsOut, Exit.then] at h
end Go.Proofs.Ytcjpedolmnahfaa

/- Walks: rolls, added one by one: the program's, with the place of the new row. -/
set_option linter.unusedVariables false
set_option linter.unusedSimpArgs false
namespace Go.Proofs.Ytcjpedolmnahfaa
open Go.RowKit

set_option maxRecDepth 100000 in
set_option maxHeartbeats 4000000 in
theorem addRollL_app (base : Nat) (v : Value) (xs : List R6) (a0 a1 a2 a3 a4 a5 : Int) (W : Int) (w : World) (hW : 1 ≤ W) (h0 : 0 ≤ a0) (hR : Rng a0) (hl : xs.length + 1 ≤ 1048576) (hb : base ≤ w.heap.size) (h : w.ownsRow base 48 6 v xs.length (rls xs)) (hd : ¬ xs.length = 0) (hd2 : (lastR xs).1 < a0 - a0 % W) :
    Calls Try.prog 108 #[v, .agg #[.int .i64 a0, .int .i64 a1, .int .i64 a2, .int .i64 a3, .int .i64 a4, .int .i64 a5], .int .i64 W] w (fun e w' => ∃ v', e = .returned v' ∧ w'.ownsRow base 48 6 v' (addI W xs (a0, a1, a2, a3, a4, a5)).length (rls (addI W xs (a0, a1, a2, a3, a4, a5))) ∧ w.grownBy w' v.ownBlock ∧ Below base w w' ∧ (v'.ownBlock = v.ownBlock ∨ ∃ g, v'.ownBlock = some g ∧ w.heap.size ≤ g)) := by
  rw [addI_app (.inr hd2)]
  have hwz : (W == 0) = false := by simpa using (show ¬ W = 0 by omega)
  have hw0 : ¬ W = 0 := by omega
  have htm : a0.tmod W = a0 % W := Int.tmod_eq_emod_of_nonneg h0
  have hm0 : 0 ≤ a0 % W := Int.emod_nonneg _ (by omega)
  have hm1 : a0 % W ≤ a0 := by
    have := Int.mul_ediv_add_emod a0 W
    have h2 := Int.mul_nonneg (show 0 ≤ W by omega) (Int.ediv_nonneg h0 (show 0 ≤ W by omega))
    omega
  unfold Rng at hR
  have ew : wrap64 (a0 - a0 % W) = a0 - a0 % W := by unfold wrap64; omega
  have ewi : IntKind.i64.wrap (a0 - a0 % W) = a0 - a0 % W := IntWalk.i64_in _ (by omega)
  obtain ⟨i0, hi, hz0, hz1, hz2⟩ := info_parts info_rl
  have e1 : IntKind.i64.wrap ((xs.length : Int) - 1) = (xs.length : Int) - 1 := IntWalk.i64_in _ (by omega)
  have e2 : (0 : Int) ≤ (xs.length : Int) - 1 := by omega
  have e2' : (1 : Int) ≤ (xs.length : Int) := by omega
  have e3 : ((xs.length : Int) - 1).toNat = xs.length - 1 := by omega
  have e4 : (xs.length : Int) - 1 < (xs.length : Int) := by omega
  have hn1 : decide ((xs.length : Int) - 1 < 0) = false := by simp; omega
  have HO := Lib.hid h
  rcases h.2 with ⟨rfl, hz⟩ | ⟨g, cap, cur, rfl, hgb, hg, _⟩
  · omega
  have hgl : g < w.heap.size := (Array.getElem?_eq_some_iff.1 hg).1
  clear hg
  have HC := Lib.hid h.cellAt
  have c0 : w.cell? ⟨g, (xs.length - 1) * 6, none⟩ = some (.int .i64 (lastR xs).1) := by
    rw [HC.out _ (by omega)]; exact rls_get0 _ _ (by omega)
  clear h
  go_enter Try.func108, Try.ntmps108
  go_wp2_with fail
  go_region_law (fail)
  all_goals
    go_simp
    have hd2' : decide ((lastR xs).1 < a0 - a0 % W) = true := decide_eq_true hd2
    go_wp2_with fail
    go_quiet (fail)
    obtain ⟨W0, hW0⟩ : ∃ W0, W0 = ((w.alloc (.cells #[.int .i64 (a0 - a0 % W), .int .i64 a1, .int .i64 a2, .int .i64 a3, .int .i64 a4, .int .i64 a5] 48)).drew.drewN nq) := ⟨_, rfl⟩
    have HB0 := Lib.hid (show Below w.heap.size w W0 from by rw [hW0]; exact below_drewN_u ((Below.refl _ _).alloc (Nat.le_refl _) _).drew nq)
    have HG0 := Lib.hid (fun row => show w.grownBy W0 row from by rw [hW0]; exact ((World.grownBy_alloc w _ row).trans (grew_drewN _ 1 row)).trans (grew_drewN _ nq row))
    have HS0 := Lib.hid (show W0.heap.size = w.heap.size + 1 from by rw [hW0]; simp)
    have hlt0 : w.heap.size < W0.heap.size := by have := HS0.out; omega
    have HO0 := Lib.hid (u_own_below HO.out HB0.out)
    have q0 : W0.cell? ⟨w.heap.size, 0, none⟩ = some (.int .i64 (a0 - a0 % W)) := by rw [hW0]; go_simp
    have q1 : W0.cell? ⟨w.heap.size, 1, none⟩ = some (.int .i64 a1) := by rw [hW0]; go_simp
    have q2 : W0.cell? ⟨w.heap.size, 2, none⟩ = some (.int .i64 a2) := by rw [hW0]; go_simp
    have q3 : W0.cell? ⟨w.heap.size, 3, none⟩ = some (.int .i64 a3) := by rw [hW0]; go_simp
    have q4 : W0.cell? ⟨w.heap.size, 4, none⟩ = some (.int .i64 a4) := by rw [hW0]; go_simp
    have q5 : W0.cell? ⟨w.heap.size, 5, none⟩ = some (.int .i64 a5) := by rw [hW0]; go_simp
    rw [← hW0]
    clear hW0
    go_wp2_with (at_builtin; refine wpList_append_own_at _ rfl _ _ 44 rfl base 48 i0 (.agg #[.int .i64 0, .int .i64 0, .int .i64 0, .int .i64 0, .int .i64 0, .int .i64 0]) 6 48 Try.underlying44 hi hz0 hz1 hz2 rfl (by decide) _ xs.length (rls xs) rfl (HO0.out.alloc _) ⟨W0.heap.size, 0, none⟩ 1 1 [.int .i64 (a0 - a0 % W), .int .i64 a1, .int .i64 a2, .int .i64 a3, .int .i64 a4, .int .i64 a5] rfl rfl (cells_six (by go_simp) (by go_simp) (by go_simp) (by go_simp) (by go_simp) (by go_simp)) ?c2 ?c3 ?c4 ?c5 ?_)
    case c2 => first | rfl | exact ⟨rfl, rfl⟩ | (intro u hu; simp at hu; rcases hu with rfl | rfl | rfl | rfl | rfl | rfl <;> rfl)
    case c3 => unfold maxLen; omega
    case c4 => omega
    case c5 => first | omega | (simp; omega)
    intro v' w4 hown4 hgrow4 _ hat4
    have HAT := Lib.hid (hat4.imp_right (fun e => (⟨_, e, by have := HB0.out.size; simp; omega⟩ : ∃ g, v'.ownBlock = some g ∧ w.heap.size ≤ g)))
    clear hat4
    have hb4 := below_appendN (HB0.out.mono hb) (Nat.le_refl _) (by omega) HO0.out hgrow4
    have HO4 := Lib.hid hown4
    have HB4 := Lib.hid hb4
    have HG4 := Lib.hid (((HG0.out _).trans (World.grownBy_alloc W0 _ _)).trans hgrow4)
    clear hown4 hb4 hgrow4
    go_wp2_with fail
    go_ret
    exact ⟨_, rfl, by rw [List.length_append, rls_append]; exact HO4.out, HG4.out, HB4.out, HAT.out⟩

set_option maxRecDepth 100000 in
set_option maxHeartbeats 4000000 in
theorem addRollL_new (base : Nat) (v : Value) (a0 a1 a2 a3 a4 a5 : Int) (W : Int) (w : World) (hW : 1 ≤ W) (h0 : 0 ≤ a0) (hR : Rng a0) (hb : base ≤ w.heap.size) (h : w.ownsRow base 48 6 v 0 (rls [])) :
    Calls Try.prog 108 #[v, .agg #[.int .i64 a0, .int .i64 a1, .int .i64 a2, .int .i64 a3, .int .i64 a4, .int .i64 a5], .int .i64 W] w (fun e w' => ∃ v', e = .returned v' ∧ w'.ownsRow base 48 6 v' (addI W [] (a0, a1, a2, a3, a4, a5)).length (rls (addI W [] (a0, a1, a2, a3, a4, a5))) ∧ w.grownBy w' v.ownBlock ∧ Below base w w' ∧ (v'.ownBlock = v.ownBlock ∨ ∃ g, v'.ownBlock = some g ∧ w.heap.size ≤ g)) := by
  rw [addI_app (.inl rfl)]
  have hwz : (W == 0) = false := by simpa using (show ¬ W = 0 by omega)
  have hw0 : ¬ W = 0 := by omega
  have htm : a0.tmod W = a0 % W := Int.tmod_eq_emod_of_nonneg h0
  have hm0 : 0 ≤ a0 % W := Int.emod_nonneg _ (by omega)
  have hm1 : a0 % W ≤ a0 := by
    have := Int.mul_ediv_add_emod a0 W
    have h2 := Int.mul_nonneg (show 0 ≤ W by omega) (Int.ediv_nonneg h0 (show 0 ≤ W by omega))
    omega
  unfold Rng at hR
  have ew : wrap64 (a0 - a0 % W) = a0 - a0 % W := by unfold wrap64; omega
  have ewi : IntKind.i64.wrap (a0 - a0 % W) = a0 - a0 % W := IntWalk.i64_in _ (by omega)
  obtain ⟨i0, hi, hz0, hz1, hz2⟩ := info_parts info_rl
  have HO := Lib.hid h
  obtain ⟨A, c, rfl⟩ : ∃ A c, v = .slice A 0 c := by
    rcases h.2 with ⟨rfl, hz⟩ | ⟨g, cap, cur, rfl, hgb, hg, _⟩
    · exact ⟨_, _, rfl⟩
    · exact ⟨_, _, rfl⟩
  clear h
  go_enter Try.func108, Try.ntmps108
  go_wp2_with fail
  go_region_law (fail)
  all_goals
    go_simp
    go_wp2_with fail
    go_quiet (fail)
    obtain ⟨W0, hW0⟩ : ∃ W0, W0 = ((w.alloc (.cells #[.int .i64 (a0 - a0 % W), .int .i64 a1, .int .i64 a2, .int .i64 a3, .int .i64 a4, .int .i64 a5] 48)).drew.drewN nq) := ⟨_, rfl⟩
    have HB0 := Lib.hid (show Below w.heap.size w W0 from by rw [hW0]; exact below_drewN_u ((Below.refl _ _).alloc (Nat.le_refl _) _).drew nq)
    have HG0 := Lib.hid (fun row => show w.grownBy W0 row from by rw [hW0]; exact ((World.grownBy_alloc w _ row).trans (grew_drewN _ 1 row)).trans (grew_drewN _ nq row))
    have HS0 := Lib.hid (show W0.heap.size = w.heap.size + 1 from by rw [hW0]; simp)
    have hlt0 : w.heap.size < W0.heap.size := by have := HS0.out; omega
    have HO0 := Lib.hid (u_own_below HO.out HB0.out)
    have q0 : W0.cell? ⟨w.heap.size, 0, none⟩ = some (.int .i64 (a0 - a0 % W)) := by rw [hW0]; go_simp
    have q1 : W0.cell? ⟨w.heap.size, 1, none⟩ = some (.int .i64 a1) := by rw [hW0]; go_simp
    have q2 : W0.cell? ⟨w.heap.size, 2, none⟩ = some (.int .i64 a2) := by rw [hW0]; go_simp
    have q3 : W0.cell? ⟨w.heap.size, 3, none⟩ = some (.int .i64 a3) := by rw [hW0]; go_simp
    have q4 : W0.cell? ⟨w.heap.size, 4, none⟩ = some (.int .i64 a4) := by rw [hW0]; go_simp
    have q5 : W0.cell? ⟨w.heap.size, 5, none⟩ = some (.int .i64 a5) := by rw [hW0]; go_simp
    rw [← hW0]
    clear hW0
    go_wp2_with (at_builtin; refine wpList_append_own_at _ rfl _ _ 44 rfl base 48 i0 (.agg #[.int .i64 0, .int .i64 0, .int .i64 0, .int .i64 0, .int .i64 0, .int .i64 0]) 6 48 Try.underlying44 hi hz0 hz1 hz2 rfl (by decide) _ 0 (rls []) rfl (HO0.out.alloc _) ⟨W0.heap.size, 0, none⟩ 1 1 [.int .i64 (a0 - a0 % W), .int .i64 a1, .int .i64 a2, .int .i64 a3, .int .i64 a4, .int .i64 a5] rfl rfl (cells_six (by go_simp) (by go_simp) (by go_simp) (by go_simp) (by go_simp) (by go_simp)) ?c2 ?c3 ?c4 ?c5 ?_)
    case c2 => first | rfl | exact ⟨rfl, rfl⟩ | (intro u hu; simp at hu; rcases hu with rfl | rfl | rfl | rfl | rfl | rfl <;> rfl)
    case c3 => unfold maxLen; omega
    case c4 => omega
    case c5 => first | omega | (simp; omega)
    intro v' w4 hown4 hgrow4 _ hat4
    have HAT := Lib.hid (hat4.imp_right (fun e => (⟨_, e, by have := HB0.out.size; simp; omega⟩ : ∃ g, v'.ownBlock = some g ∧ w.heap.size ≤ g)))
    clear hat4
    have hb4 := below_appendN (HB0.out.mono hb) (Nat.le_refl _) (by omega) HO0.out hgrow4
    have HO4 := Lib.hid hown4
    have HB4 := Lib.hid hb4
    have HG4 := Lib.hid (((HG0.out _).trans (World.grownBy_alloc W0 _ _)).trans hgrow4)
    clear hown4 hb4 hgrow4
    go_wp2_with fail
    go_ret
    exact ⟨_, rfl, by skip; exact HO4.out, HG4.out, HB4.out, HAT.out⟩
set_option maxRecDepth 100000 in
set_option maxHeartbeats 8000000 in
theorem addRollL_in (base : Nat) (v : Value) (xs : List R6) (a0 a1 a2 a3 a4 a5 : Int) (W : Int) (w : World) (hW : 1 ≤ W) (h0 : 0 ≤ a0) (hR : Rng a0) (hl : xs.length + 1 ≤ 1048576) (hb : base ≤ w.heap.size) (h : w.ownsRow base 48 6 v xs.length (rls xs)) (hd : ¬ xs.length = 0) (hd2 : ¬ (lastR xs).1 < a0 - a0 % W) :
    Calls Try.prog 108 #[v, .agg #[.int .i64 a0, .int .i64 a1, .int .i64 a2, .int .i64 a3, .int .i64 a4, .int .i64 a5], .int .i64 W] w (fun e w' => ∃ v', e = .returned v' ∧ w'.ownsRow base 48 6 v' (addI W xs (a0, a1, a2, a3, a4, a5)).length (rls (addI W xs (a0, a1, a2, a3, a4, a5))) ∧ w.grownBy w' v.ownBlock ∧ Below base w w' ∧ (v'.ownBlock = v.ownBlock ∨ ∃ g, v'.ownBlock = some g ∧ w.heap.size ≤ g)) := by
  rw [addI_in hd (show ¬ (lastR xs).1 < (winR W (a0, a1, a2, a3, a4, a5)).1 from hd2)]
  have hwz : (W == 0) = false := by simpa using (show ¬ W = 0 by omega)
  have hw0 : ¬ W = 0 := by omega
  have htm : a0.tmod W = a0 % W := Int.tmod_eq_emod_of_nonneg h0
  have hm0 : 0 ≤ a0 % W := Int.emod_nonneg _ (by omega)
  have hm1 : a0 % W ≤ a0 := by
    have := Int.mul_ediv_add_emod a0 W
    have h2 := Int.mul_nonneg (show 0 ≤ W by omega) (Int.ediv_nonneg h0 (show 0 ≤ W by omega))
    omega
  unfold Rng at hR
  have ew : wrap64 (a0 - a0 % W) = a0 - a0 % W := by unfold wrap64; omega
  have ewi : IntKind.i64.wrap (a0 - a0 % W) = a0 - a0 % W := IntWalk.i64_in _ (by omega)
  obtain ⟨i0, hi, hz0, hz1, hz2⟩ := info_parts info_rl
  have e1 : IntKind.i64.wrap ((xs.length : Int) - 1) = (xs.length : Int) - 1 := IntWalk.i64_in _ (by omega)
  have e2 : (0 : Int) ≤ (xs.length : Int) - 1 := by omega
  have e2' : (1 : Int) ≤ (xs.length : Int) := by omega
  have e3 : ((xs.length : Int) - 1).toNat = xs.length - 1 := by omega
  have e4 : (xs.length : Int) - 1 < (xs.length : Int) := by omega
  have hn1 : decide ((xs.length : Int) - 1 < 0) = false := by simp; omega
  have HO := Lib.hid h
  rcases h.2 with ⟨rfl, hz⟩ | ⟨g, cap, cur, rfl, hgb, hg, _⟩
  · omega
  have hgl : g < w.heap.size := (Array.getElem?_eq_some_iff.1 hg).1
  clear hg
  have HC := Lib.hid h.cellAt
  have c0 : w.cell? ⟨g, (xs.length - 1) * 6, none⟩ = some (.int .i64 (lastR xs).1) := by
    rw [HC.out _ (by omega)]; exact rls_get0 _ _ (by omega)
  clear h
  clear c0
  have HWi := Lib.hid (fun w => with_any (lastR xs).1 (lastR xs).2.1 (lastR xs).2.2.1 (lastR xs).2.2.2.1 (lastR xs).2.2.2.2.1 (lastR xs).2.2.2.2.2 (a0 - a0 % W) a1 a2 a3 a4 a5 w)
  have HXL := Lib.hid (rls_set xs (xs.length - 1) (lastR xs).1 (wrap64 ((lastR xs).2.1 + a1)) (wrap64 ((lastR xs).2.2.1 + a2)) (min (lastR xs).2.2.2.1 a3) (max (lastR xs).2.2.2.2.1 a4) a5 (by omega))
  have HXW : Hid (withR (lastR xs) (winR W (a0, a1, a2, a3, a4, a5)) = ((lastR xs).1, wrap64 ((lastR xs).2.1 + a1), wrap64 ((lastR xs).2.2.1 + a2), min (lastR xs).2.2.2.1 a3, max (lastR xs).2.2.2.2.1 a4, a5)) := Lib.hid rfl
  have hd2' : decide ((lastR xs).1 < a0 - a0 % W) = false := decide_eq_false hd2
  have d0 : w.cell? ⟨g, (xs.length - 1) * 6, none⟩ = some (.int .i64 (lastR xs).1) := by
    rw [HC.out _ (by omega)]; exact rls_get0 _ _ (by omega)
  have d1 : w.cell? ⟨g, (xs.length - 1) * 6 + 1, none⟩ = some (.int .i64 (lastR xs).2.1) := by
    rw [HC.out _ (by omega)]; exact rls_get1 _ _ (by omega)
  have d2 : w.cell? ⟨g, (xs.length - 1) * 6 + 2, none⟩ = some (.int .i64 (lastR xs).2.2.1) := by
    rw [HC.out _ (by omega)]; exact rls_get2 _ _ (by omega)
  have d3 : w.cell? ⟨g, (xs.length - 1) * 6 + 3, none⟩ = some (.int .i64 (lastR xs).2.2.2.1) := by
    rw [HC.out _ (by omega)]; exact rls_get3 _ _ (by omega)
  have d4 : w.cell? ⟨g, (xs.length - 1) * 6 + 4, none⟩ = some (.int .i64 (lastR xs).2.2.2.2.1) := by
    rw [HC.out _ (by omega)]; exact rls_get4 _ _ (by omega)
  have d5 : w.cell? ⟨g, (xs.length - 1) * 6 + 5, none⟩ = some (.int .i64 (lastR xs).2.2.2.2.2) := by
    rw [HC.out _ (by omega)]; exact rls_get5 _ _ (by omega)
  generalize (lastR xs).2.2.2.2.2 = y5 at *
  generalize (lastR xs).2.2.2.2.1 = y4 at *
  generalize (lastR xs).2.2.2.1 = y3 at *
  generalize (lastR xs).2.2.1 = y2 at *
  generalize (lastR xs).2.1 = y1 at *
  generalize (lastR xs).1 = y0 at *
  clear HC
  go_enter Try.func108, Try.ntmps108
  go_wp2_with fail
  go_region_law (fail)
  all_goals
    go_simp
    go_wp2_with fail
    go_quiet (fail)
    obtain ⟨W0, hW0⟩ : ∃ W0, W0 = ((w.alloc (.cells #[.int .i64 (a0 - a0 % W), .int .i64 a1, .int .i64 a2, .int .i64 a3, .int .i64 a4, .int .i64 a5] 48)).drew.drewN nq) := ⟨_, rfl⟩
    have HB0 := Lib.hid (show Below w.heap.size w W0 from by rw [hW0]; exact below_drewN_u ((Below.refl _ _).alloc (Nat.le_refl _) _).drew nq)
    have HG0 := Lib.hid (fun row => show w.grownBy W0 row from by rw [hW0]; exact ((World.grownBy_alloc w _ row).trans (grew_drewN _ 1 row)).trans (grew_drewN _ nq row))
    have HS0 := Lib.hid (show W0.heap.size = w.heap.size + 1 from by rw [hW0]; simp)
    have hlt0 : w.heap.size < W0.heap.size := by have := HS0.out; omega
    have HO0 := Lib.hid (u_own_below HO.out HB0.out)
    have q0 : W0.cell? ⟨w.heap.size, 0, none⟩ = some (.int .i64 (a0 - a0 % W)) := by rw [hW0]; go_simp
    have q1 : W0.cell? ⟨w.heap.size, 1, none⟩ = some (.int .i64 a1) := by rw [hW0]; go_simp
    have q2 : W0.cell? ⟨w.heap.size, 2, none⟩ = some (.int .i64 a2) := by rw [hW0]; go_simp
    have q3 : W0.cell? ⟨w.heap.size, 3, none⟩ = some (.int .i64 a3) := by rw [hW0]; go_simp
    have q4 : W0.cell? ⟨w.heap.size, 4, none⟩ = some (.int .i64 a4) := by rw [hW0]; go_simp
    have q5 : W0.cell? ⟨w.heap.size, 5, none⟩ = some (.int .i64 a5) := by rw [hW0]; go_simp
    rw [← hW0]
    clear hW0
    have k0 : W0.cell? ⟨g, (xs.length - 1) * 6, none⟩ = some (.int .i64 y0) := (HB0.out.cell (p := ⟨g, (xs.length - 1) * 6, none⟩) hgl).trans d0
    have k1 : W0.cell? ⟨g, (xs.length - 1) * 6 + 1, none⟩ = some (.int .i64 y1) := (HB0.out.cell (p := ⟨g, (xs.length - 1) * 6 + 1, none⟩) hgl).trans d1
    have k2 : W0.cell? ⟨g, (xs.length - 1) * 6 + 2, none⟩ = some (.int .i64 y2) := (HB0.out.cell (p := ⟨g, (xs.length - 1) * 6 + 2, none⟩) hgl).trans d2
    have k3 : W0.cell? ⟨g, (xs.length - 1) * 6 + 3, none⟩ = some (.int .i64 y3) := (HB0.out.cell (p := ⟨g, (xs.length - 1) * 6 + 3, none⟩) hgl).trans d3
    have k4 : W0.cell? ⟨g, (xs.length - 1) * 6 + 4, none⟩ = some (.int .i64 y4) := (HB0.out.cell (p := ⟨g, (xs.length - 1) * 6 + 4, none⟩) hgl).trans d4
    have k5 : W0.cell? ⟨g, (xs.length - 1) * 6 + 5, none⟩ = some (.int .i64 y5) := (HB0.out.cell (p := ⟨g, (xs.length - 1) * 6 + 5, none⟩) hgl).trans d5
    clear d0 d1 d2 d3 d4 d5
    go_wp2_with fail
    go_region_law (first
      | (go_simp; go_at_call 129; refine (HWi.out _).mono ?_; rintro e w5 ⟨rfl, hb5⟩; have o5 := u_own_below (by first | exact HO0.out | exact HO0.out.drew) hb5; have m0 := (hb5.cell (p := ⟨g, (xs.length - 1) * 6, none⟩) (by have := HS0.out; simp; omega)).trans (by first | exact k0 | (go_simp)); have m1 := (hb5.cell (p := ⟨g, (xs.length - 1) * 6 + 1, none⟩) (by have := HS0.out; simp; omega)).trans (by first | exact k1 | (go_simp)); have m2 := (hb5.cell (p := ⟨g, (xs.length - 1) * 6 + 2, none⟩) (by have := HS0.out; simp; omega)).trans (by first | exact k2 | (go_simp)); have m3 := (hb5.cell (p := ⟨g, (xs.length - 1) * 6 + 3, none⟩) (by have := HS0.out; simp; omega)).trans (by first | exact k3 | (go_simp)); have m4 := (hb5.cell (p := ⟨g, (xs.length - 1) * 6 + 4, none⟩) (by have := HS0.out; simp; omega)).trans (by first | exact k4 | (go_simp)); have m5 := (hb5.cell (p := ⟨g, (xs.length - 1) * 6 + 5, none⟩) (by have := HS0.out; simp; omega)).trans (by first | exact k5 | (go_simp)); have f0 : w5.frozen? ⟨g, (xs.length - 1) * 6, none⟩ = false := o5.frozenAt _; have f1 : w5.frozen? ⟨g, (xs.length - 1) * 6 + 1, none⟩ = false := o5.frozenAt _; have f2 : w5.frozen? ⟨g, (xs.length - 1) * 6 + 2, none⟩ = false := o5.frozenAt _; have f3 : w5.frozen? ⟨g, (xs.length - 1) * 6 + 3, none⟩ = false := o5.frozenAt _; have f4 : w5.frozen? ⟨g, (xs.length - 1) * 6 + 4, none⟩ = false := o5.frozenAt _; have f5 : w5.frozen? ⟨g, (xs.length - 1) * 6 + 5, none⟩ = false := o5.frozenAt _; have HO5 := Lib.hid o5; clear o5; have HB5 := Lib.hid hb5; clear hb5))
    all_goals
      go_simp
      have s0 := HO5.out.stored ((xs.length - 1) * 6) (.int .i64 y0)
      have s1 := s0.1.stored ((xs.length - 1) * 6 + 1) (.int .i64 (wrap64 (y1 + a1)))
      have s2 := s1.1.stored ((xs.length - 1) * 6 + 2) (.int .i64 (wrap64 (y2 + a2)))
      have s3 := s2.1.stored ((xs.length - 1) * 6 + 3) (.int .i64 (min y3 a3))
      have s4 := s3.1.stored ((xs.length - 1) * 6 + 4) (.int .i64 (max y4 a4))
      have s5 := s4.1.stored ((xs.length - 1) * 6 + 5) (.int .i64 a5)
      have hown6 := s5.1
      rw [HXL.out] at hown6
      have hg6 := ((((((((HG0.out (some g)).trans (grew_drewN _ 1 _)).trans (grew_of_below HB5.out _)).trans s0.2).trans s1.2).trans s2.2).trans s3.2).trans s4.2).trans s5.2
      have HO6 := Lib.hid hown6
      have HG6 := Lib.hid hg6
      have HB6 := Lib.hid (((Below.refl base w).grown hg6 hb (fun k e => by cases e; exact hgb)))
      clear s0 s1 s2 s3 s4 s5 hown6 hg6
      go_wp2_with fail
      go_ret
      exact ⟨_, rfl, by rw [HXW.out, List.length_set]; exact HO6.out, HG6.out, HB6.out, .inl rfl⟩

theorem addRollL_any (base : Nat) (v : Value) (xs : List R6) (a0 a1 a2 a3 a4 a5 : Int) (W : Int) (w : World) (hW : 1 ≤ W) (h0 : 0 ≤ a0) (hR : Rng a0) (hl : xs.length + 1 ≤ 1048576) (hb : base ≤ w.heap.size) (h : w.ownsRow base 48 6 v xs.length (rls xs)) :
    Calls Try.prog 108 #[v, .agg #[.int .i64 a0, .int .i64 a1, .int .i64 a2, .int .i64 a3, .int .i64 a4, .int .i64 a5], .int .i64 W] w (fun e w' => ∃ v', e = .returned v' ∧ w'.ownsRow base 48 6 v' (addI W xs (a0, a1, a2, a3, a4, a5)).length (rls (addI W xs (a0, a1, a2, a3, a4, a5))) ∧ w.grownBy w' v.ownBlock ∧ Below base w w' ∧ (v'.ownBlock = v.ownBlock ∨ ∃ g, v'.ownBlock = some g ∧ w.heap.size ≤ g)) := by
  by_cases hd : xs.length = 0
  · obtain rfl : xs = [] := List.eq_nil_of_length_eq_zero hd
    exact addRollL_new base v a0 a1 a2 a3 a4 a5 W w hW h0 hR hb h
  · by_cases hd2 : (lastR xs).1 < a0 - a0 % W
    · exact addRollL_app base v xs a0 a1 a2 a3 a4 a5 W w hW h0 hR hl hb h hd hd2
    · exact addRollL_in base v xs a0 a1 a2 a3 a4 a5 W w hW h0 hR hl hb h hd hd2
end Go.Proofs.Ytcjpedolmnahfaa

/- Walks: cascades: the program's add, level by level, in whatever order the levels come. -/
set_option linter.unusedVariables false
set_option linter.unusedSimpArgs false
namespace Go.Proofs.Ytcjpedolmnahfaa
open Go.RowKit

def addLvI (p : Int × Int) (x : Lv) : Lv := (x.1, x.2.1, addI x.1 x.2.2 (p.1, 1, p.2, p.2, p.2, p.2))
def foldA (p : Int × Int) (pre : List Nat) (ls : List Lv) : List Lv := pre.foldl (fun L x => L.set x (addLvI p (L.getD x zLv))) ls
theorem foldA_snoc (p : Int × Int) (pre : List Nat) (ls : List Lv) (x : Nat) : foldA p (pre ++ [x]) ls = (foldA p pre ls).set x (addLvI p ((foldA p pre ls).getD x zLv)) := by
  unfold foldA; rw [List.foldl_append]; rfl
theorem foldA_length (p : Int × Int) (ls : List Lv) : ∀ (n : Nat) (pre : List Nat), pre.length = n → (foldA p pre ls).length = ls.length := by
  intro n
  induction n with
  | zero => intro pre h; rw [List.eq_nil_of_length_eq_zero h]; rfl
  | succ n ih =>
    intro pre h
    have hne : pre ≠ [] := by rintro rfl; simp at h
    obtain ⟨q, x, rfl⟩ : ∃ q x, pre = q ++ [x] := ⟨_, _, (List.dropLast_concat_getLast hne).symm⟩
    rw [foldA_snoc, List.length_set]
    exact ih _ (by simpa using h)
theorem foldA_shape (p : Int × Int) (ls : List Lv) : ∀ (n : Nat) (pre : List Nat), pre.length = n → ∀ j, ((foldA p pre ls).getD j zLv).1 = (ls.getD j zLv).1 ∧ ((foldA p pre ls).getD j zLv).2.1 = (ls.getD j zLv).2.1 ∧ ((foldA p pre ls).getD j zLv).2.2.length ≤ (ls.getD j zLv).2.2.length + n := by
  intro n
  induction n with
  | zero => intro pre h j; rw [List.eq_nil_of_length_eq_zero h]; exact ⟨rfl, rfl, Nat.le_refl _⟩
  | succ n ih =>
    intro pre h j
    have hne : pre ≠ [] := by rintro rfl; simp at h
    obtain ⟨q, x, rfl⟩ : ∃ q x, pre = q ++ [x] := ⟨_, _, (List.dropLast_concat_getLast hne).symm⟩
    rw [foldA_snoc]
    have h1 := ih q (by simpa using h)
    by_cases hx : x < (foldA p q ls).length
    · rw [getD_set_lw _ _ _ _ hx]
      by_cases e : j = x
      · subst e
        rw [if_pos rfl]
        have h2 := addI_len ((foldA p q ls).getD j zLv).1 ((foldA p q ls).getD j zLv).2.2 (p.1, 1, p.2, p.2, p.2, p.2)
        have h3 := h1 j
        exact ⟨h3.1, h3.2.1, by show (addI _ _ _).length ≤ _; omega⟩
      · rw [if_neg e]
        have h3 := h1 j
        exact ⟨h3.1, h3.2.1, by omega⟩
    · rw [List.set_eq_of_length_le (by omega)]
      have h3 := h1 j
      exact ⟨h3.1, h3.2.1, by omega⟩
theorem foldA_range (p : Int × Int) (ls : List Lv) : ∀ n, n ≤ ls.length → ∀ j, (foldA p (List.range n) ls).getD j zLv = if j < n then addLvI p (ls.getD j zLv) else ls.getD j zLv := by
  intro n
  induction n with
  | zero => intro _ j; rw [if_neg (by omega)]; rfl
  | succ n ih =>
    intro hn j
    rw [List.range_succ, foldA_snoc, getD_set_lw _ _ _ _ (by rw [foldA_length p ls _ _ rfl]; omega)]
    have h1 := ih (by omega)
    by_cases e : j = n
    · subst e; rw [if_pos rfl, if_pos (by omega), h1 j, if_neg (by omega)]
    · rw [if_neg e, h1 j]
      by_cases e2 : j < n
      · rw [if_pos e2, if_pos (by omega)]
      · rw [if_neg e2, if_neg (by omega)]
theorem foldA_all (p : Int × Int) (ls : List Lv) : foldA p (List.range ls.length) ls = ls.map (addLvI p) := by
  refine lw_ext (by rw [foldA_length p ls _ _ rfl]; simp) (fun j hj => ?_)
  rw [foldA_length p ls _ _ rfl] at hj
  rw [foldA_range p ls _ (Nat.le_refl _) j, if_pos hj]
  rw [List.getD_eq_getElem?_getD, List.getD_eq_getElem?_getD, List.getElem?_map, List.getElem?_eq_getElem hj]; rfl
theorem CO.mach {X Y : World} {row : Option Nat} {base : Nat} {c : Cs} {rv lv : Value} {es : List LvC} (h : CO X base c rv lv es) (hg : X.grownBy Y row) (hr : ∀ r, row = some r → ∃ o : Obj, X.heap[r]? = some o ∧ o.isCells = false) : CO Y base c rv lv es :=
  h.at_ (fun g hgg => hg.block g (h.lt hgg).2 (fun e => by
    obtain ⟨o, ho, hc⟩ := h.isCells hgg
    obtain ⟨o', ho', hc'⟩ := hr g e.symm
    rw [ho] at ho'
    cases ho'
    rw [hc] at hc'
    cases hc'))
end Go.Proofs.Ytcjpedolmnahfaa

/- The law of a region that draws, in a round (Zz), beside the cascades. -/
set_option linter.unusedVariables false
set_option linter.unusedSimpArgs false
namespace Go.Proofs.Ytcjpedolmnahfaa
end Go.Proofs.Ytcjpedolmnahfaa
