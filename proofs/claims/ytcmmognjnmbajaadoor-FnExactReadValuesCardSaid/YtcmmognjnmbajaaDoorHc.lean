/- Walks: the program's reader of bits: a code's get. -/
import Derived.Test.YtcmmognjnmbajaaDoorHb
import Derived.RegionDies
set_option linter.unusedVariables false
set_option linter.unusedSimpArgs false
namespace Go.Proofs.YtcmmognjnmbajaaDoor
open Go.RowKit

theorem RK.drew {w : World} {g : Nat} {ws : List Nat} {N p : Int} (h : RK w g ws N p) : RK w.drew g ws N p := h
theorem grown_drew1 {a b : World} {r : Option Nat} (h : a.grownBy b r) : a.grownBy b.drew r := ⟨h.os, h.tape, h.output, h.size, h.block⟩
def offR (ws : List Nat) (N p B : Nat) (o : Int) : Option (Value × Nat) := if p + B ≤ N then some (.int .i64 ((BM.getW ws p B : Int) - o), p + B) else none
set_option maxRecDepth 100000 in
set_option maxHeartbeats 1000000 in
theorem getClos_any (pb po g B : Nat) (o : Int) (ws : List Nat) (N p : Nat) (w : World) (h5 : w.heap[pb]? = some (.cells #[.int .i64 (B : Int)] 2 (0, 0))) (h6 : w.heap[po]? = some (.cells #[.int .i64 o] 2 (0, 0)))
    (h : RK w g ws (N : Int) (p : Int)) (hw : RdW ws N) (hB : B ≤ 42) (hp : p ≤ N) (ho : 0 ≤ o) (ho2 : o ≤ 4398046511104) :
    Calls Tryd.prog 137 #[.pointer (some ⟨g, 0, none⟩), .pointer (some ⟨pb, 0, none⟩), .pointer (some ⟨po, 0, none⟩)] w (RdOut g ws N (offR ws N p B o) w) := by
  have c5 : w.cell? ⟨pb, 0, none⟩ = some (.int .i64 (B : Int)) := by rw [cell_of_row w pb 0 _ _ _ h5]; rfl
  have c6 : w.cell? ⟨po, 0, none⟩ = some (.int .i64 o) := by rw [cell_of_row w po 0 _ _ _ h6]; rfl
  have hpo := heap_lt h6
  have hne : po ≠ g := by
    intro he
    subst he
    unfold RK at h
    rw [h] at h6
    injection h6 with h6
    injection h6 with h6 _ _
    have := congrArg Array.size h6
    simp [rdCells, hw.l] at this
  have H6 := Lib.hid h6
  have hv := hw.v p B (by omega)
  have hv2 : (2 : Nat) ^ B ≤ 2 ^ 42 := Nat.pow_le_pow_right (by omega) hB
  have Ho := fun (W : World) (k : w.grownBy W (some g)) => show W.cell? ⟨po, 0, none⟩ = some (.int .i64 o) by
    rw [cell_of_row W po 0 _ _ _ ((k.block po hpo (by intro he; injection he with he; exact hne he)).trans H6.out)]; rfl
  have hV : BM.getW ws p B < 4398046511104 := by
    have : (2 : Nat) ^ 42 = 4398046511104 := by decide
    omega
  unfold offR
  by_cases hc : p + B ≤ N
  · rw [if_pos hc]
    have T := Lib.hid (fun (W : World) (hk : RK W g ws (N : Int) (p : Int)) (hG : w.grownBy W (some g)) => (take_any g ws N p B W hk hw (by omega) hp).mono (R' := fun e w' => e = .returned (.int .u64 (BM.getW ws p B : Int)) ∧ RK w' g ws (N : Int) ((p + B : Nat) : Int) ∧ w.grownBy w' (some g) ∧ w'.cell? ⟨po, 0, none⟩ = some (.int .i64 o)) (fun e w' q => by
      have q' := q.some' (by unfold takeR; rw [if_pos hc])
      exact ⟨q'.1, q'.2.1, grown_trans hG q'.2.2, Ho _ (grown_trans hG q'.2.2)⟩))
    have HK := Lib.hid h
    clear h h5 h6 hw hv hv2 H6 hpo Ho hc
    generalize BM.getW ws p B = V at *
    have hiv : IntKind.i64.wrap (V : Int) = (V : Int) := IntWalk.i64_in _ (by omega)
    go_enter Tryd.func137, Tryd.ntmps137
    go_wp2_with fail
    go_region_law (first
      | (go_simp; go_at_call 100; (refine (T.out _ (by first | exact HK.out | exact HK.out.drew) (by first | exact grownBy_rfl w _ | exact grown_drew1 (grownBy_rfl w _))).mono ?_); rintro e w3 ⟨rfl, hk3, hg3, c63⟩; have HK3 := Lib.hid hk3; have HG3 := Lib.hid hg3; clear hk3 hg3))
    all_goals
      go_simp
      go_wp2_with fail
      go_ret
      exact ⟨by first | exact HG3.out | exact grown_drewN HG3.out _, ret_int (IntWalk.i64_in _ (by omega)), HK3.out⟩
  · rw [if_neg hc]
    have T := Lib.hid (fun (W : World) (hk : RK W g ws (N : Int) (p : Int)) (hG : w.grownBy W (some g)) => (take_any g ws N p B W hk hw (by omega) hp).mono (R' := fun e w' => Cry e ∧ w.grownBy w' (some g)) (fun e w' q => by
      have q' := q.none' (by unfold takeR; rw [if_neg hc])
      exact ⟨q'.1, grown_trans hG q'.2⟩))
    have HK := Lib.hid h
    clear h h5 h6 hw hv hv2 H6 hpo Ho hc hV
    go_enter Tryd.func137, Tryd.ntmps137
    go_wp2_with fail
    go_region_dies
    all_goals
      refine (T.out _ (by first | exact HK.out | exact HK.out.drew) (by first | exact grownBy_rfl w _ | exact grown_drew1 (grownBy_rfl w _))).mono ?_
      rintro e w3 ⟨⟨u, pv, rfl⟩, hg3⟩
      exact ⟨rfl, hg3, ⟨_, _, rfl⟩⟩
end Go.Proofs.YtcmmognjnmbajaaDoor
