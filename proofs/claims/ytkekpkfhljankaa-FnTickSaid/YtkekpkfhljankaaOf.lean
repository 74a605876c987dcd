/- Walks: cascades: the program's levels. -/
import Derived.Test.YtkekpkfhljankaaOc
import Derived.RangeFuncBox
import Derived.RangeFuncLeaves
import Derived.RangeFuncNested
import Derived.Shelf.Abstract
import Derived.OwnWalkIn
import Derived.TacticsInMore
import Derived.LoopNIn
import Derived.LoopIn
set_option linter.unusedVariables false
set_option linter.unusedSimpArgs false
namespace Go.Proofs.Ytkekpkfhljankaa
open Go.RowKit

set_option maxRecDepth 100000 in
set_option maxHeartbeats 4000000 in
theorem follows_any (b o b' o' : Nat) (W K fw fk : Int) (x : Lv) (w : World) (hx : x.1 = W) (hk : x.2.1 = K) (hw : 1 ≤ fw) (hk0 : 0 ≤ fk)
    (c0 : w.cell? ⟨b, o, none⟩ = some (.int .i64 W)) (c1 : w.cell? ⟨b, o + 1, none⟩ = some (.int .i64 K)) (d0 : w.cell? ⟨b', o', none⟩ = some (.int .i64 fw)) (d1 : w.cell? ⟨b', o' + 1, none⟩ = some (.int .i64 fk)) :
    Calls Try.prog 82 #[.pointer (some ⟨b, o, none⟩), .pointer (some ⟨b', o', none⟩)] w fun e w' => e = .returned (.bool (shpB fw fk x)) ∧ ∃ n, w' = w.drewN n := by
  have HW := Lib.hid (fun w => widthOk_q W w)
  have hw0 : ¬ fw = 0 := by omega
  have hwz : (fw == 0) = false := by simpa using hw0
  have hE : shpB fw fk x = (wdB W && (decide (fw < W) && (decide (W % fw = 0) && (vIn K fk 1000000000 && decide (K % W = 0))))) := by unfold shpB; rw [hx, hk]
  rw [hE]
  clear hE hx hk
  cases h1 : wdB W with
  | false =>
    rw [h1] at HW
    clear h1
    go_enter Try.func82, Try.ntmps82
    go_wp2_with fail
    go_quiet ((go_at_call 98; exact Calls.quiet_of_same (HW.out _)))
    go_wp2_with fail
    go_ret
    exact ⟨by (rw [Bool.false_and]); rfl, _, rfl⟩
  | true =>
    rw [h1] at HW
    obtain ⟨hW1, hW2⟩ := wdB_in h1
    clear h1
    rw [Bool.true_and]
    have hW0 : ¬ W = 0 := by omega
    have hWz : (W == 0) = false := by simpa using hW0
    have htm : W.tmod fw = W % fw := Int.tmod_eq_emod_of_nonneg (by omega)
    by_cases h2 : fw < W
    case neg =>
      have h2' : decide (fw < W) = false := decide_eq_false h2
      go_enter Try.func82, Try.ntmps82
      go_wp2_with fail
      go_quiet ((go_at_call 98; exact Calls.quiet_of_same (HW.out _)))
      go_wp2_with fail
      go_ret
      exact ⟨by (rw [h2', Bool.false_and]); rfl, _, rfl⟩
    have h2' : decide (fw < W) = true := decide_eq_true h2
    by_cases h3 : W % fw = 0
    case neg =>
      have h3' : (W % fw == 0) = false := by simpa using h3
      have h3'' : decide (W % fw = 0) = false := decide_eq_false h3
      go_enter Try.func82, Try.ntmps82
      go_wp2_with fail
      go_quiet ((go_at_call 98; exact Calls.quiet_of_same (HW.out _)))
      go_wp2_with fail
      go_ret
      exact ⟨by (rw [h2', h3'', Bool.false_and, Bool.and_false]); rfl, _, rfl⟩
    have h3' : (W % fw == 0) = true := by simpa using h3
    have h3'' : decide (W % fw = 0) = true := decide_eq_true h3
    by_cases h4 : K.tmod W = 0
    case neg =>
      have h4' : (K.tmod W == 0) = false := by simpa using h4
      have h4'' : decide (K.tmod W = 0) = false := decide_eq_false h4
      have HF := Lib.hid (show (vIn K fk 1000000000 && decide (K % W = 0)) = false from by
        by_cases hK : 0 ≤ K
        · rw [Int.tmod_eq_emod_of_nonneg hK] at h4
          rw [decide_eq_false h4, Bool.and_false]
        · rw [vIn_false (fun h => by omega)]; rfl)
      go_enter Try.func82, Try.ntmps82
      go_wp2_with fail
      go_quiet ((go_at_call 98; exact Calls.quiet_of_same (HW.out _)))
      go_wp2_with fail
      go_ret
      exact ⟨by (rw [HF.out, Bool.and_false, Bool.and_false]); rfl, _, rfl⟩
    have h4' : (K.tmod W == 0) = true := by simpa using h4
    have h4'' : decide (K.tmod W = 0) = true := decide_eq_true h4
    by_cases h5 : fk ≤ K
    case neg =>
      have h5' : decide (fk ≤ K) = false := decide_eq_false h5
      have HF := Lib.hid (show vIn K fk 1000000000 = false from vIn_false (fun h => h5 h.1))
      go_enter Try.func82, Try.ntmps82
      go_wp2_with fail
      go_quiet ((go_at_call 98; exact Calls.quiet_of_same (HW.out _)))
      go_wp2_with fail
      go_ret
      exact ⟨by (rw [HF.out, Bool.false_and, Bool.and_false, Bool.and_false]); rfl, _, rfl⟩
    have h5' : decide (fk ≤ K) = true := decide_eq_true h5
    by_cases h6 : K ≤ 1000000000
    case neg =>
      have h6' : decide (K ≤ 1000000000) = false := decide_eq_false h6
      have HF := Lib.hid (show vIn K fk 1000000000 = false from vIn_false (fun h => h6 h.2))
      go_enter Try.func82, Try.ntmps82
      go_wp2_with fail
      go_quiet ((go_at_call 98; exact Calls.quiet_of_same (HW.out _)))
      go_wp2_with fail
      go_ret
      exact ⟨by (rw [HF.out, Bool.false_and, Bool.and_false, Bool.and_false]); rfl, _, rfl⟩
    have h6' : decide (K ≤ 1000000000) = true := decide_eq_true h6
    have HT := Lib.hid (show (vIn K fk 1000000000 && decide (K % W = 0)) = true from by
      rw [Int.tmod_eq_emod_of_nonneg (by omega)] at h4
      rw [vIn_true h5 h6, decide_eq_true h4]; rfl)
    go_enter Try.func82, Try.ntmps82
    go_wp2_with fail
    go_quiet ((go_at_call 98; exact Calls.quiet_of_same (HW.out _)))
    go_wp2_with fail
    go_ret
    exact ⟨by (rw [HT.out, h2', h3'']); rfl, _, rfl⟩

set_option maxRecDepth 100000 in
set_option maxHeartbeats 2000000 in
theorem retains_any (b o : Nat) (W K nw : Int) (r : R6) (x : Lv) (w : World) (hx : x.1 = W) (hk : x.2.1 = K) (hT : r.1 ≤ nw) (hW : 1 ≤ W ∧ W ≤ 1000000) (hn : 0 ≤ nw ∧ nw ≤ 1000000000000) (hT0 : 0 ≤ r.1) (hK : 0 ≤ K ∧ K ≤ 1000000000) (hb : b < w.heap.size)
    (c0 : w.cell? ⟨b, o, none⟩ = some (.int .i64 W)) (c1 : w.cell? ⟨b, o + 1, none⟩ = some (.int .i64 K)) :
    Calls Try.prog 123 #[.pointer (some ⟨b, o, none⟩), .agg #[.int .i64 r.1, .int .i64 r.2.1, .int .i64 r.2.2.1, .int .i64 r.2.2.2.1, .int .i64 r.2.2.2.2.1, .int .i64 r.2.2.2.2.2], .int .i64 nw] w fun e w' => e = .returned (.bool (rolAt nw x r)) ∧ Below w.heap.size w w' := by
  obtain ⟨t, r1, r2, r3, r4, r5⟩ := r
  simp only at hT hT0 ⊢
  have hE : rolAt nw x (t, r1, r2, r3, r4, r5) = decide (nw - K < t + W) := by unfold rolAt; rw [hx, hk, decide_eq_true (show (t, r1, r2, r3, r4, r5).1 ≤ nw from hT), Bool.true_and]
  rw [hE]
  have e1 : IntKind.i64.wrap (nw - K) = nw - K := IntWalk.i64_in _ (by omega)
  have e2 : IntKind.i64.wrap (t + W) = t + W := IntWalk.i64_in _ (by omega)
  have HR := Lib.hid (fun w => recent_q (t + W) nw K w e1)
  clear hE hx hk
  go_enter Try.func123, Try.ntmps123
  go_wp2_with fail
  go_quiet ((go_at_call 86; exact Calls.quiet_of_same (HR.out _)))
  go_wp2_with fail
  go_ret
  exact ⟨rfl, by
    repeat (first | exact Below.refl _ _ | refine Below.alloc ?_ (by simp; try omega) _ | refine Below.setCell ?_ (by simp; try omega) _ | refine Below.drew ?_ | refine below_drewN_u ?_ _)⟩
end Go.Proofs.Ytkekpkfhljankaa

/- Walks: cascades: the program's levels (2). -/
set_option linter.unusedVariables false
set_option linter.unusedSimpArgs false
namespace Go.Proofs.Ytkekpkfhljankaa
open Go.RowKit

def rlsM (nw : Int) (x : Lv) : Bool := rollsOkB x.2.2 x.1 && x.2.2.all (rolAt nw x)
theorem rlsM_bad {nw : Int} {x : Lv} {j : Nat} (hj : j < x.2.2.length) (h : rolAt nw x (x.2.2.getD j z6) = false) : rlsM nw x = false := by
  unfold rlsM
  have : x.2.2.all (rolAt nw x) = false := by
    rw [List.all_eq_false]
    refine ⟨x.2.2[j], List.getElem_mem hj, ?_⟩
    rw [List.getD_eq_getElem?_getD, List.getElem?_eq_getElem hj] at h
    simpa using h
  rw [this, Bool.and_false]
theorem rlsM_ok {nw : Int} {x : Lv} (h1 : rollsOkB x.2.2 x.1 = true) (h : ∀ j, j < x.2.2.length → rolAt nw x (x.2.2.getD j z6) = true) : rlsM nw x = true := by
  unfold rlsM
  have : x.2.2.all (rolAt nw x) = true := by
    rw [List.all_eq_true]
    intro p hp
    obtain ⟨i, hi, rfl⟩ := List.getElem_of_mem hp
    have := h i hi
    rw [List.getD_eq_getElem?_getD, List.getElem?_eq_getElem hi] at this
    exact this
  rw [h1, this]; rfl

set_option maxRecDepth 100000 in
set_option maxHeartbeats 4000000 in
theorem lvRollsOk_any (b o : Nat) (W K nw : Int) (rv : Value) (rs : List R6) (w : World) (hb : b < w.heap.size) (hW : 1 ≤ W ∧ W ≤ 1000000) (hn : 0 ≤ nw ∧ nw ≤ 1000000000000) (hK : 0 ≤ K ∧ K ≤ 1000000000)
    (c0 : w.cell? ⟨b, o, none⟩ = some (.int .i64 W)) (c1 : w.cell? ⟨b, o + 1, none⟩ = some (.int .i64 K)) (c2 : w.cell? ⟨b, o + 2, none⟩ = some rv) (hR : RL w w.heap.size rv rs) :
    Calls Try.prog 83 #[.pointer (some ⟨b, o, none⟩), .int .i64 nw] w (BoolPost (rlsM nw (W, K, rs)) w) := by
  have HR := Lib.hid hR
  obtain ⟨_, hrl, Ar, cr, rfl, hcr⟩ := hR
  have HRo := Lib.hid (fun W' h => implRollsOk_any (.slice Ar rs.length cr) rs W W' h)
  have HRd := Lib.hid (show RL w.drew w.drew.heap.size (.slice Ar rs.length cr) rs from HR.out)
  have C0 := Lib.hid c0
  have C1 := Lib.hid c1
  have C2 := Lib.hid c2
  cases hro : rollsOkB rs W with
  | false =>
    have E := Lib.hid (show rlsM nw (W, K, rs) = false from by unfold rlsM; rw [hro]; rfl)
    rw [hro] at HRo
    clear hro
    go_enter Try.func83, Try.ntmps83
    go_wp2_with fail
    go_region_law (go_simp; go_at_call 101; refine (HRo.out _ (by first | exact HRd.out | exact HR.out)).mono ?_; rintro e w5 ⟨rfl, hb5⟩; have HB5 := Lib.hid (show Below w.heap.size w w5 from ⟨hb5.os, hb5.tape, hb5.output, hb5.size, hb5.block⟩); clear hb5)
    all_goals
      go_simp
      go_wp2_with fail
      go_ret
      exact ⟨by rw [E.out]; rfl, HB5.out⟩
  | true =>
    have HBad := Lib.hid (fun j hj h => rlsM_bad (nw := nw) (x := (W, K, rs)) (j := j) hj h)
    have HOk := Lib.hid (fun h => rlsM_ok (nw := nw) (x := (W, K, rs)) hro h)
    have hr400 := (rollsOkB_in hro).1
    have HRin := Lib.hid (fun i hi => (gdR_in ((rollsOkB_in hro).2.2 i hi)).1)
    rw [hro] at HRo
    clear hro
    go_enter Try.func83, Try.ntmps83
    go_wp2_with fail
    go_region_law (go_simp; go_at_call 101; refine (HRo.out _ (by first | exact HRd.out | exact HR.out)).mono ?_; rintro e w5 ⟨rfl, hb5⟩; have HB5 := Lib.hid (show Below w.heap.size w w5 from ⟨hb5.os, hb5.tape, hb5.output, hb5.size, hb5.block⟩); clear hb5)
    all_goals
      go_simp
      have hs5 := HB5.out.size
      have d0 : w5.cell? ⟨b, o, none⟩ = some (.int .i64 W) := (HB5.out.cell (p := ⟨b, o, none⟩) hb).trans C0.out
      have d1 : w5.cell? ⟨b, o + 1, none⟩ = some (.int .i64 K) := (HB5.out.cell (p := ⟨b, o + 1, none⟩) hb).trans C1.out
      have d2 : w5.cell? ⟨b, o + 2, none⟩ = some (.slice Ar rs.length cr) := (HB5.out.cell (p := ⟨b, o + 2, none⟩) hb).trans C2.out
      clear c0 c1 c2
      go_wp2_with fail
      go_loopw [22] (fun i wr => ∃ j : Nat, j ≤ rs.length ∧ i = .int .i64 j ∧ Hid (Below w.heap.size w wr) ∧ Hid (∀ i, i < j → rolAt nw (W, K, rs) (rs.getD i z6) = true)) (fun i _ => rs.length - (intOf i).toNat)
      case atStart => exact ⟨0, Nat.zero_le _, rfl, HB5, Lib.hid (fun i hi => by omega)⟩
      case round =>
        clear d0 d1 d2
        obtain ⟨j, hj, rfl, HBr, HG⟩ := hrel
        have hszr := HBr.out.size
        have z0 : wr.cell? ⟨b, o, none⟩ = some (.int .i64 W) := (HBr.out.cell (p := ⟨b, o, none⟩) hb).trans C0.out
        have z1 : wr.cell? ⟨b, o + 1, none⟩ = some (.int .i64 K) := (HBr.out.cell (p := ⟨b, o + 1, none⟩) hb).trans C1.out
        by_cases hlt : j < rs.length
        · rcases hcr with hcr | ⟨br, or, rfl, hbr, hcr⟩
          · subst hcr; simp at hlt
          have hx0 : wr.cell? ⟨br, or + j * 6, none⟩ = some (.int .i64 (rs.getD j z6).1) := (HBr.out.cell (p := ⟨br, or + j * 6, none⟩) hbr).trans (hcr j hlt).1
          have hx1 : wr.cell? ⟨br, or + j * 6 + 1, none⟩ = some (.int .i64 (rs.getD j z6).2.1) := (HBr.out.cell (p := ⟨br, or + j * 6 + 1, none⟩) hbr).trans (hcr j hlt).2.1
          have hx2 : wr.cell? ⟨br, or + j * 6 + 2, none⟩ = some (.int .i64 (rs.getD j z6).2.2.1) := (HBr.out.cell (p := ⟨br, or + j * 6 + 2, none⟩) hbr).trans (hcr j hlt).2.2.1
          have hx3 : wr.cell? ⟨br, or + j * 6 + 3, none⟩ = some (.int .i64 (rs.getD j z6).2.2.2.1) := (HBr.out.cell (p := ⟨br, or + j * 6 + 3, none⟩) hbr).trans (hcr j hlt).2.2.2.1
          have hx4 : wr.cell? ⟨br, or + j * 6 + 4, none⟩ = some (.int .i64 (rs.getD j z6).2.2.2.2.1) := (HBr.out.cell (p := ⟨br, or + j * 6 + 4, none⟩) hbr).trans (hcr j hlt).2.2.2.2.1
          have hx5 : wr.cell? ⟨br, or + j * 6 + 5, none⟩ = some (.int .i64 (rs.getD j z6).2.2.2.2.2) := (HBr.out.cell (p := ⟨br, or + j * 6 + 5, none⟩) hbr).trans (hcr j hlt).2.2.2.2.2
          clear hcr
          have HBj := Lib.hid (fun h => HBad.out j hlt h)
          have hTj := HRin.out j hlt
          obtain ⟨r, hr⟩ : ∃ r, r = rs.getD j z6 := ⟨_, rfl⟩
          rw [← hr] at hx0 hx1 hx2 hx3 hx4 hx5 hTj
          have HBk : Hid (rolAt nw (W, K, rs) r = false → rlsM nw (W, K, rs) = false) := Lib.hid (by rw [hr]; exact HBj.out)
          have HRR := Lib.hid hr
          clear hr HBj
          obtain ⟨t, r1, r2, r3, r4, r5⟩ := r
          simp only at hx0 hx1 hx2 hx3 hx4 hx5 hTj
          have hbw : b < wr.heap.size := by omega
          by_cases g1 : t ≤ nw
          case neg =>
            have E := Lib.hid (HBk.out (by unfold rolAt; rw [decide_eq_false g1]; rfl))
            have g1' : decide (nw < t) = true := decide_eq_true (by omega)
            go_wp2_with fail
            go_ret
            exact ⟨by rw [E.out]; rfl, HBr.out.alloc hszr _⟩
          have g1' : decide (nw < t) = false := decide_eq_false (by omega)
          have HRt := Lib.hid (fun w h0 h1 h2 => retains_any b o W K nw (t, r1, r2, r3, r4, r5) (W, K, rs) w rfl rfl g1 hW hn hTj.1 hK h0 h1 h2)
          cases hra : rolAt nw (W, K, rs) (t, r1, r2, r3, r4, r5) with
          | false =>
            have E := Lib.hid (HBk.out hra)
            rw [hra] at HRt
            clear hra
            go_wp2_with (go_at_call 123; refine (HRt.out _ (by simp; omega) (by first | exact z0 | go_simp) (by first | exact z1 | go_simp)).mono ?_; rintro e w6 ⟨rfl, hb6⟩)
            have HB6 := Lib.hid ((HBr.out.alloc hszr (.cells #[.int .i64 t, .int .i64 r1, .int .i64 r2, .int .i64 r3, .int .i64 r4, .int .i64 r5] 60)).trans (hb6.mono (by simp; omega)))
            clear hb6
            go_wp2_with fail
            go_ret
            exact ⟨by rw [E.out]; rfl, HB6.out⟩
          | true =>
            have HT := Lib.hid hra
            rw [hra] at HRt
            clear hra
            go_wp2_with (go_at_call 123; refine (HRt.out _ (by simp; omega) (by first | exact z0 | go_simp) (by first | exact z1 | go_simp)).mono ?_; rintro e w6 ⟨rfl, hb6⟩)
            have HB6 := Lib.hid ((HBr.out.alloc hszr (.cells #[.int .i64 t, .int .i64 r1, .int .i64 r2, .int .i64 r3, .int .i64 r4, .int .i64 r5] 60)).trans (hb6.mono (by simp; omega)))
            clear hb6
            go_wp2_with fail
            go_roundw
            case rel =>
              refine ⟨j + 1, by omega, by go_num, HB6, Lib.hid (fun i hi => ?_)⟩
              by_cases e : i = j
              · rw [e, ← HRR.out]; exact HT.out
              · exact HG.out i (by omega)
            case measure => simp [intOf]; omega
        · obtain rfl : j = rs.length := by omega
          have E := Lib.hid (HOk.out HG.out)
          go_wp2_with fail
          go_ret
          exact ⟨by rw [E.out]; rfl, HBr.out⟩
end Go.Proofs.Ytkekpkfhljankaa

/- Walks: cascades: the range over the levels. -/
set_option linter.unusedVariables false
set_option linter.unusedSimpArgs false
namespace Go.Proofs.Ytkekpkfhljankaa
open Go.RowKit Go.Shelf

attribute [local go_sem] Oper.semAt_some

/-- a level at a place -/
abbrev Lp := (Nat × Nat) × Lv
/-- the level p.2 lies at the place p.1, in the blocks below n₀ -/
def LvHere (W : World) (n₀ : Nat) (p : Lp) : Prop :=
  p.1.1 < n₀ ∧ W.cell? ⟨p.1.1, p.1.2, none⟩ = some (.int .i64 p.2.1) ∧ W.cell? ⟨p.1.1, p.1.2 + 1, none⟩ = some (.int .i64 p.2.2.1) ∧ ∃ r, W.cell? ⟨p.1.1, p.1.2 + 2, none⟩ = some r ∧ RL W n₀ r p.2.2.2
theorem LvHere.below {W W' : World} {n₀ : Nat} {p : Lp} (h : LvHere W n₀ p) (hb : Below n₀ W W') : LvHere W' n₀ p := by
  obtain ⟨h1, h2, h3, r, h4, h5⟩ := h
  exact ⟨h1, (hb.cell (p := ⟨p.1.1, p.1.2, none⟩) h1).trans h2, (hb.cell (p := ⟨p.1.1, p.1.2 + 1, none⟩) h1).trans h3, r, (hb.cell (p := ⟨p.1.1, p.1.2 + 2, none⟩) h1).trans h4, h5.below hb⟩
abbrev LX (W : World) (n₀ : Nat) := {p : Lp // LvHere W n₀ p}
/-- what a round keeps: what lies below n₀, and the block Bn -/
def KpL (n₀ Bn : Nat) (W W' : World) : Prop := Below n₀ W W' ∧ W'.heap[Bn]? = W.heap[Bn]?
theorem KpL.trans {n₀ Bn : Nat} {A B C : World} (h : KpL n₀ Bn A B) (k : KpL n₀ Bn B C) : KpL n₀ Bn A C := ⟨h.1.trans k.1, k.2.trans h.2⟩
def lpAt (b off : Nat) (ls : List Lv) (j : Nat) : Lp := ((b, off + j * 3), ls.getD j zLv)
/-- a variable's box of several cells -/
def BoxN (W : World) (B : Nat) (cs : Array Value) (t : TypeId) : Prop := W.heap[B]? = some (.cells cs t (0, 0))
theorem BoxN.lt {W : World} {B : Nat} {cs : Array Value} {t : TypeId} (h : BoxN W B cs t) : B < W.heap.size := (Array.getElem?_eq_some_iff.1 h).1
theorem BoxN.own {X Y : World} {row : Option Nat} {B : Nat} {cs : Array Value} {t : TypeId} (h : BoxN X B cs t) (hg : X.grownBy Y row) (hr : ∀ r, row = some r → ∃ o : Obj, X.heap[r]? = some o ∧ o.isCells = false) : BoxN Y B cs t :=
  (hg.block B h.lt (fun e => by obtain ⟨o, ho, hc⟩ := hr B e.symm; rw [h] at ho; cases ho; cases hc)).trans h
theorem BoxN.below {X Y : World} {B : Nat} {cs : Array Value} {t : TypeId} (h : BoxN X B cs t) (hb : Below X.heap.size X Y) : BoxN Y B cs t := (hb.block B h.lt).trans h
theorem BoxN.cell {W : World} {B i : Nat} {cs : Array Value} {t : TypeId} {v : Value} (h : BoxN W B cs t) (hv : cs[i]? = some v) : W.cell? ⟨B, i, none⟩ = some v := by
  have hh : W.heap[B]? = some (.cells cs t (0, 0)) := h
  simp [World.cell?, hh, hv]
def lstW (ps : List Lv) : Int := match ps.getLast? with | none => 1 | some x => x.1
def lstK (k : Int) (ps : List Lv) : Int := match ps.getLast? with | none => k | some x => x.2.1
theorem lvsB_snoc (nw : Int) : ∀ (ps : List Lv) (w k : Int) (x : Lv), lvsB nw w k (ps ++ [x]) = (lvsB nw w k ps && lvB nw (match ps.getLast? with | none => w | some y => y.1) (match ps.getLast? with | none => k | some y => y.2.1) x)
  | [], w, k, x => by simp [lvsB]
  | [y], w, k, x => by simp [lvsB]
  | y :: z :: ps, w, k, x => by
    have ih := lvsB_snoc nw (z :: ps) y.1 y.2.1 x
    show (lvB nw w k y && lvsB nw y.1 y.2.1 ((z :: ps) ++ [x])) = _
    rw [ih]
    show _ = (lvB nw w k y && lvsB nw y.1 y.2.1 (z :: ps) && _)
    rw [Bool.and_assoc, List.getLast?_cons_cons]
    cases hq : (z :: ps).getLast? with
    | none => simp at hq
    | some q => rfl
theorem lvsB_app (nw : Int) : ∀ (ps qs : List Lv) (w k : Int), lvsB nw w k ps = false → lvsB nw w k (ps ++ qs) = false
  | [], qs, w, k, h => by simp [lvsB] at h
  | y :: ps, qs, w, k, h => by
    show (lvB nw w k y && lvsB nw y.1 y.2.1 (ps ++ qs)) = false
    cases hy : lvB nw w k y with
    | false => rfl
    | true =>
      have h2 : lvsB nw y.1 y.2.1 ps = false := by
        have h3 : (lvB nw w k y && lvsB nw y.1 y.2.1 ps) = false := h
        rw [hy] at h3; simpa using h3
      rw [lvsB_app nw ps qs y.1 y.2.1 h2]; rfl
theorem heap_cell {W W' : World} {Bn : Nat} {i : Nat} (h : W'.heap[Bn]? = W.heap[Bn]?) : W'.cell? ⟨Bn, i, none⟩ = W.cell? ⟨Bn, i, none⟩ := by
  unfold World.cell?
  rw [h]

set_option maxRecDepth 100000 in
set_option maxHeartbeats 4000000 in
theorem levels1_in (n : Nat) (hn : 1 ≤ n) (l Bn n₀ b off cl : Nat) (Al : Option Addr) (W0 : World) (ls : List Lv) (hA : 0 < ls.length → Al = some ⟨b, off, none⟩) (hll : ls.length ≤ 1048576) (hls : ∀ j, j < ls.length → LvHere W0 n₀ (lpAt b off ls j)) (J Jx : List (LX W0 n₀) → World → Prop)
    (hY : ∀ pre (x : LX W0 n₀) W, J pre W → pre.length < ls.length → YieldAt Fence.wide (n - 1) Try.prog l #[.pointer (some ⟨x.1.1.1, x.1.1.2, none⟩)] W fun e W' =>
      (e = .returned (.bool true) ∧ J (pre ++ [x]) W' ∧ KpL n₀ Bn W W') ∨ (e = .returned (.bool false) ∧ Jx (pre ++ [x]) W'))
    (W : World) (hBn : W.cell? ⟨Bn, 3, none⟩ = some (.slice Al ls.length cl)) (h0 : J [] W) :
    CallsIn Fence.wide n Try.prog 130 #[.func (.yield l) #[] #[], .pointer (some ⟨Bn, 0, none⟩)] W fun e W' => (∃ v, e = .returned v) ∧
      ((∃ ys, ys.map Subtype.val = (List.range ls.length).map (lpAt b off ls) ∧ J ys W') ∨ (∃ pre, (∃ k, k ≤ ls.length ∧ pre.map Subtype.val = (List.range k).map (lpAt b off ls)) ∧ Jx pre W')) := by
  have HLS := Lib.hid hls
  have HY := Lib.hid hY
  clear hls hY
  refine callsIn_of_wp Try.func130 rfl trivial ?_ rfl
  simp only [Try.ntmps130, List.size_toArray, List.length_cons, List.length_nil, Nat.reduceAdd, Nat.reduceSub, Array.replicate_succ, Array.replicate_zero, List.push_toArray, List.append_toArray, List.nil_append, List.cons_append]
  have HBn := Lib.hid hBn
  gi_wp2
  gi_loopw [7] (fun i wr => ∃ (k : Nat) (pre : List (LX W0 n₀)), k ≤ ls.length ∧ i = .int .i64 k ∧ Hid (pre.map Subtype.val = (List.range k).map (lpAt b off ls)) ∧ Hid (J pre wr) ∧ Hid (wr.cell? ⟨Bn, 3, none⟩ = some (.slice Al ls.length cl)))
    (fun i _ => ls.length - (intOf i).toNat)
  case atStart => exact ⟨0, [], Nat.zero_le _, rfl, Lib.hid rfl, Lib.hid h0, HBn⟩
  case round =>
    clear hBn
    obtain ⟨k, pre, hk, rfl, HP, HJk, HBk⟩ := hrel
    by_cases hlt : k < ls.length
    · have hb3 := HBk.out
      rw [hA (by omega)] at hb3
      have hpl : pre.length < ls.length := by
        have h := congrArg List.length HP.out
        rw [List.length_map, List.length_map, List.length_range] at h
        omega
      obtain ⟨fn, tmps, assign, body, hy, hR⟩ := HY.out pre ⟨lpAt b off ls k, HLS.out k hlt⟩ wr HJk.out hpl
      have HS : Hid ((pre ++ [(⟨lpAt b off ls k, HLS.out k hlt⟩ : LX W0 n₀)]).map Subtype.val = (List.range (k + 1)).map (lpAt b off ls)) := Lib.hid (by
        rw [List.map_append, HP.out, List.range_succ, List.map_append]; rfl)
      generalize pre ++ [(⟨lpAt b off ls k, HLS.out k hlt⟩ : LX W0 n₀)] = pre1 at *
      dsimp only [lpAt] at hy
      gi_wp2
      refine hR.mono ?_
      rintro e W3 (⟨rfl, hJ3, hk3⟩ | ⟨rfl, hJx3⟩)
      · gi_wp2
        go_roundw
        case rel => exact ⟨k + 1, pre1, by omega, by go_num, HS, Lib.hid hJ3, Lib.hid ((heap_cell hk3.2).trans HBk.out)⟩
        case measure => simp [intOf]; omega
      · gi_wp2
        refine bodyPost_ret (results_none rfl _ _ _) rfl ?_
        exact ⟨⟨_, rfl⟩, .inr ⟨pre1, ⟨k + 1, by omega, HS.out⟩, hJx3⟩⟩
    · obtain rfl : k = ls.length := by omega
      gi_wp2
      go_end0
      exact ⟨⟨_, rfl⟩, .inl ⟨pre, HP.out, HJk.out⟩⟩

set_option maxRecDepth 100000 in
set_option maxHeartbeats 1000000 in
theorem levels_any (nw kp : Int) (A B : Option Addr) (n m c d : Nat) (w : World) :
    Calls Try.prog 81 #[.agg #[.int .i64 nw, .int .i64 kp, .slice A n c, .slice B m d]] w fun e w' => e = .returned (.func (.func 130) #[] #[.pointer (some ⟨w.heap.size, 0, none⟩)]) ∧ w' = w.alloc (.cells #[.int .i64 nw, .int .i64 kp, .slice A n c, .slice B m d] 32) := by
  go_enter Try.func81, Try.ntmps81
  go_wp2_with fail
  go_ret
  exact ⟨rfl, rfl⟩
end Go.Proofs.Ytkekpkfhljankaa
