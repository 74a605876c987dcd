/- Walks: sets of numbers as maps: the program's. -/
import Derived.Test.YtinpndoepppboaaAc
import Derived.Test.YtinpndoepppboaaShm
import Derived.Laws.AppendOwnNone
import Derived.Maps.OwnOps
import Derived.Maps.OwnSet
import Derived.Maps.Views
import Derived.Shelf.AbstractIn
import Derived.OwnWalkIn
import Derived.TacticsInMore
set_option linter.unusedVariables false
set_option linter.unusedSimpArgs false
namespace Go.Proofs.Ytinpndoepppboaa
open Go.RowKit Go.Maps Go.Shelf

theorem lawI : Keyed Try.prog 2 := int_keyed Try.underlying2
theorem key_tkn {x : Int} (h : Rng x) : keyOf Try.prog 2 (.int .i64 x) = some (tkn x) := keyOf_int_mk Try.underlying2 (by
  have h1 := h.1
  have h2 := h.2
  have e1 : IntKind.i64.min = -9223372036854775808 := by decide
  have e2 : IntKind.i64.max = 9223372036854775807 := by decide
  simp only [Lit.wf, e1, e2, Bool.and_eq_true, decide_eq_true_eq]
  omega)
theorem zeroB (w : World) : (zeroValue 4).run Try.prog w = .ok (.bool false) w := by kernel_rfl
theorem rb_bool (b : Bool) : (plainElem (H := Unit) Try.prog 4) (.bool b) = some (.lit (.bool b), []) := plainElem_bool Try.underlying4 b

set_option maxRecDepth 100000 in
set_option maxHeartbeats 1000000 in
theorem setOf_any (v : Value) (xs : List Int) (w : World) (h : IL w w.heap.size v xs) (hris : Ris xs) :
    Calls Try.prog 109 #[v] w fun e w' => e = .returned (.map (some w.heap.size)) ∧ w'.ownsMap Try.prog 2 (plainElem (H := Unit) Try.prog 4) w.heap.size xs.length (dOf xs) ∧ Below w.heap.size w w' := by
  obtain ⟨hr, hlen, A, c, rfl, h3⟩ := h
  have Hr := Lib.hid hr
  have HP : Hid (∀ k, k < xs.length → (dOf (xs.take k)).put (tkn (xs.getD k 0)) (.lit (.bool true)) = dOf (xs.take (k + 1))) := Lib.hid (fun k hk => by
    rw [dOf_put, take_snoc_int hk, putI_last]
    intro y hy
    obtain ⟨j, hj, rfl⟩ := List.getElem_of_mem hy
    have hj' : j < k := by rw [List.length_take] at hj; omega
    have := List.pairwise_iff_getElem.1 hris j k (by omega) hk hj'
    rw [List.getElem_take, List.getD_eq_getElem?_getD, List.getElem?_eq_getElem hk]
    exact this)
  clear hr hris
  have hmm := @run_makeMap Try.prog
  go_enter Try.func109, Try.ntmps109
  go_wp2_with fail
  go_loopw [9] (fun i wr => ∃ k : Nat, k ≤ xs.length ∧ i = .int .i64 k ∧ wr.ownsMap Try.prog 2 (plainElem (H := Unit) Try.prog 4) w.heap.size k (dOf (xs.take k)) ∧ Below w.heap.size w wr)
    (fun i _ => xs.length - (Go.RowKit.intOf i).toNat)
  case atStart => exact ⟨0, Nat.zero_le _, rfl, World.ownsMap_made _ _ _ _, (Below.refl _ _).alloc (Nat.le_refl _) _⟩
  case round =>
    obtain ⟨k, hk, rfl, hown, hb⟩ := hrel
    have hsz := hb.size
    by_cases hlt : k < xs.length
    · rcases h3 with h3 | ⟨b, off, rfl, hbl, hc⟩
      · subst h3; simp at hlt
      have hx0 : wr.cell? ⟨b, off + k, none⟩ = some (.int .i64 (xs.getD k 0)) := (hb.cell (p := ⟨b, off + k, none⟩) hbl).trans (hc k hlt)
      have hkey := key_tkn (Hr.out k)
      have hn := Lib.hid (HP.out k hlt)
      generalize xs.getD k 0 = x at *
      have HOM := Lib.hid hown
      have HB := Lib.hid hb
      clear hc hown hb
      go_wp2_with (at_mapUpdate; refine wpList_mapUpdate_own _ rfl _ _ _ 88 rfl 2 4 lawI Try.underlying88 _ w.heap.size k _ rfl HOM.out (by unfold maxLen; omega) _ _ _ rfl rfl hkey _ [] (rb_bool true) ?_)
      intro w4 hown4 hgrow4
      rw [hn.out] at hown4
      have hb4 := HB.out.grown hgrow4 hsz (fun j hj => by cases hj; exact Nat.le_refl _)
      clear hgrow4
      go_wp2_with fail
      go_roundw
      case rel => exact ⟨k + 1, by omega, by go_num, hown4, hb4⟩
      case measure => simp [Go.RowKit.intOf]; omega
    · obtain rfl : k = xs.length := by omega
      rw [List.take_length] at hown
      go_wp2_with fail
      go_ret
      exact ⟨rfl, hown, hb⟩

set_option maxRecDepth 100000 in
/-- a look-up by the map's own law, at a set -/
theorem wpList_lookup_set (w : World) {ops : Array Oper} {rest : List Oper} {o : Oper} {a : Act} {Q : Exit → Act → World → Prop}
    (hg : o.guard = none) (m x : Operand) (hop : o.op = Op.lookup 88 m x false) (b n : Nat) (l : List Int)
    (hm : a.eval m = .map (some b)) (hown : w.ownsMap Try.prog 2 (plainElem (H := Unit) Try.prog 4) b n (dOf l)) (z : Int) (hx : a.eval x = .int .i64 z) (hz : Rng z)
    (hK : wpList Try.prog ops Q rest (a.put o.dst (.bool (decide (z ∈ l)))) w) :
    wpList Try.prog ops Q (o :: rest) a w := by
  refine wpList_plain hg fun K' hK' => ?_
  obtain ⟨v, ps, hrun, hv⟩ := hown.lookup lawI Try.underlying88 (zeroB w) (rb_bool false) (key_tkn hz)
  rw [dOf_at] at hv
  have hv' : v = .bool (decide (z ∈ l)) := by
    have hsh : ∃ bb, v = .bool bb := by
      unfold plainElem at hv
      split at hv
      · exact ⟨_, rfl⟩
      · obtain ⟨q, h⟩ : ∃ q, Try.prog.underlying 4 = some (.int q) := ⟨_, by assumption⟩
        rw [Try.underlying4] at h; cases h
      · have h : Try.prog.underlying 4 = some .string := by assumption
        rw [Try.underlying4] at h; cases h
      · cases hv
    obtain ⟨bb, rfl⟩ := hsh
    rw [rb_bool] at hv
    by_cases e : z ∈ l
    · rw [if_pos e] at hv; simp at hv; rw [hv.1, decide_eq_true e]
    · rw [if_neg e] at hv; simp at hv; rw [hv.1, decide_eq_false e]
  subst hv'
  unfold Oper.wp
  simp [execOp, hop, hm, hx, hrun, Result.andThen]
  exact hK' _ _ hK

set_option maxRecDepth 100000 in
set_option maxHeartbeats 1000000 in
theorem less1_any (x : Int) (u : Value) (bx b n : Nat) (l : List Int) (w : World) (hx : w.cell? ⟨bx, 0, none⟩ = some (.map (some b))) (hown : w.ownsMap Try.prog 2 (plainElem (H := Unit) Try.prog 4) b n (dOf l)) (hr : Rng x) :
    Calls Try.prog 114 (#[.int .i64 x, u] ++ #[.pointer (some ⟨bx, 0, none⟩)]) w fun e w' => e = .returned (.bool (decide (x ∈ l))) ∧ w' = w := by
  have HO := Lib.hid hown
  clear hown
  go_enter Try.func114, Try.ntmps114
  go_wp2_with (at_lookup; refine wpList_lookup_set _ rfl _ _ rfl b n l rfl HO.out x rfl hr ?_)
  go_ret
  exact ⟨rfl, rfl⟩

theorem ownsMap_below {w w' : World} {P : Program} {k : TypeId} {R : Value → Option (DV × List MemPlace)} {b n B : Nat} {D : DV} (h : w.ownsMap P k R b n D) (hb : Below B w w') (hlt : b < B) : w'.ownsMap P k R b n D := by
  obtain ⟨es, clock, h1, h2⟩ := h
  exact ⟨es, clock, (hb.block b hlt).trans h1, h2⟩

set_option maxRecDepth 100000 in
set_option maxHeartbeats 2000000 in
theorem less_any (s o n m : Nat) (a b : List Int) (w : World) (h1 : w.ownsMap Try.prog 2 (plainElem (H := Unit) Try.prog 4) s n (dOf a)) (h2 : w.ownsMap Try.prog 2 (plainElem (H := Unit) Try.prog 4) o m (dOf b)) :
    Calls Try.prog 83 #[.map (some s), .map (some o)] w fun e w' => ∃ g, e = .returned (.map (some g)) ∧ w.heap.size ≤ g ∧ w'.ownsMap Try.prog 2 (plainElem (H := Unit) Try.prog 4) g n (dOf (lessL a b)) ∧ Below w.heap.size w w' := by
  have eg : ∀ args w, (callFunc 114 args).run Try.prog w = .ok (.enter 114 args) w := enters_of Try.func114 (by kernel_rfl) rfl
  have hs := h1.lt
  have ho := h2.lt
  obtain ⟨w1, hw1⟩ : ∃ w1, w.alloc (.cells #[.map (some o)] 88) = w1 := ⟨_, rfl⟩
  have hbx : w1.cell? ⟨w.heap.size, 0, none⟩ = some (.map (some o)) := by rw [← hw1, World.cell?_alloc_at _ _ _ _ (by simp)]; rfl
  have B1 := Lib.hid (show Below w.heap.size w w1 from by rw [← hw1]; exact (Below.refl _ _).alloc (Nat.le_refl _) _)
  have hz1 : w1.heap.size = w.heap.size + 1 := by rw [← hw1]; simp
  have h1' : w1.ownsMap Try.prog 2 (plainElem (H := Unit) Try.prog 4) s n (dOf a) := ownsMap_below h1 B1.out hs
  have h2' := Lib.hid (show w1.ownsMap Try.prog 2 (plainElem (H := Unit) Try.prog 4) o m (dOf b) from ownsMap_below h2 B1.out ho)
  have hcl : Calls Try.prog 111 #[.map (some s)] w1 fun e w' => e = .returned (.map (some w1.heap.size)) ∧ w'.ownsMap Try.prog 2 (plainElem (H := Unit) Try.prog 4) w1.heap.size n (dOf a) ∧ w'.ownsMap Try.prog 2 (plainElem (H := Unit) Try.prog 4) s n (dOf a) ∧ Below w1.heap.size w1 w' := AnyW.maps_Clone_owns Try.cloneM 2 _ s n (dOf a) w1 h1'
  have hdl : ∀ W : World, W.ownsMap Try.prog 2 (plainElem (H := Unit) Try.prog 4) w1.heap.size n (dOf a) → W.ownsMap Try.prog 2 (plainElem (H := Unit) Try.prog 4) o m (dOf b) → W.cell? ⟨w.heap.size, 0, none⟩ = some (.map (some o)) →
      Calls Try.prog 113 #[.map (some w1.heap.size), .func (.func 114) #[] #[.pointer (some ⟨w.heap.size, 0, none⟩)]] W fun e w' => e = .returned (.tuple #[]) ∧ w'.ownsMap Try.prog 2 (plainElem (H := Unit) Try.prog 4) w1.heap.size n (Lib.deleteFuncD (notIn b) (dOf a)) ∧ W.grownBy w' (some w1.heap.size) := by
    intro W hm hoo hx
    refine AnyDf.maps_DeleteFunc Try.deleteM lawI (plainElem (H := Unit) Try.prog 4) (notIn b) _ _ w1.heap.size n (dOf a) W eg hm (fun W' key val kl yd yp hgW hkey hv => ?_)
    obtain ⟨x, rfl, rfl, hwf⟩ := Maps.keyOf_i64 Try.underlying2 hkey
    have hrx : Rng x := by
      have e1 : IntKind.i64.min = -9223372036854775808 := by decide
      have e2 : IntKind.i64.max = 9223372036854775807 := by decide
      simp only [Lit.wf, e1, e2, Bool.and_eq_true, decide_eq_true_eq] at hwf
      exact hwf
    exact (less1_any x val w.heap.size o m b W' (hgW.cell hx (fun e => by have := Option.some.inj e; simp at this; omega)) (hoo.kept hgW (fun e => by have := Option.some.inj e; omega)) hrx).mono fun _ _ ⟨he, hw⟩ => ⟨he, hw ▸ World.grownBy.refl _ _⟩
  have HCL := Lib.hid hcl
  have HDL := Lib.hid hdl
  have HW1 := Lib.hid hw1
  have hlt1 : w.heap.size < w1.heap.size := by omega
  clear hcl hdl h1 h2 h1' hw1 hz1 eg
  go_enter Try.func83, Try.ntmps83
  go_wp2_with fail
  rw [HW1.out]
  refine HCL.out.mono ?_
  rintro e w2 ⟨rfl, hm2, _, hb2⟩
  have hz2 := hb2.size
  have hx2 := (hb2.cell (p := ⟨w.heap.size, 0, none⟩) hlt1).trans hbx
  have HO2 := Lib.hid (ownsMap_below h2'.out hb2 (by omega))
  have HM2 := Lib.hid hm2
  have B2 := Lib.hid (B1.out.trans (hb2.mono (by omega)))
  clear hm2 hb2 HCL
  go_wp2_with fail
  refine (HDL.out _ HM2.out HO2.out hx2).mono ?_
  rintro e w3 ⟨rfl, hm3, hg3⟩
  rw [delD_dOf] at hm3
  have B3 := Lib.hid (B2.out.grown hg3 B2.out.size (fun j e => by injection e with e; omega))
  have HM3 := Lib.hid hm3
  clear hm3 hg3
  go_wp2_with fail
  go_ret
  exact ⟨_, rfl, by omega, HM3.out, B3.out⟩
end Go.Proofs.Ytinpndoepppboaa
