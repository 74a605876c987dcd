/- Walks: cascades: the program's levels (2). -/
import Derived.Test.YtdmcijodhokahaaOd
set_option linter.unusedVariables false
set_option linter.unusedSimpArgs false
namespace Go.Proofs.Ytdmcijodhokahaa
open Go.RowKit

def rlsM (nw : Int) (x : Lv) : Bool := rollsOkB x.2.2 x.1 && x.2.2.all (rolAt nw x)
theorem rlsM_bad {nw : Int} {x : Lv} {j : Nat} (hj : j < x.2.2.length) (h : rolAt nw x (x.2.2.getD j z6) = false) : rlsM nw x = false := by
  unfold rlsM
  have : x.2.2.all (rolAt nw x) = false := by
    rw [List.all_eq_false]
    refine ⟨x.2.2[j], List.getElem_mem hj, ?_⟩
    rw [List.getD_eq_getElem?_getD, List.getElem?_eq_getElem hj] at h
    simpa using h
  rw [this, Bool.and_false]
theorem rlsM_ok {nw : Int} {x : Lv} (h1 : rollsOkB x.2.2 x.1 = true) (h : ∀ j, j < x.2.2.length → rolAt nw x (x.2.2.getD j z6) = true) : rlsM nw x = true := by
  unfold rlsM
  have : x.2.2.all (rolAt nw x) = true := by
    rw [List.all_eq_true]
    intro p hp
    obtain ⟨i, hi, rfl⟩ := List.getElem_of_mem hp
    have := h i hi
    rw [List.getD_eq_getElem?_getD, List.getElem?_eq_getElem hi] at this
    exact this
  rw [h1, this]; rfl

set_option maxRecDepth 100000 in
set_option maxHeartbeats 4000000 in
theorem lvRollsOk_any (b o : Nat) (W K nw : Int) (rv : Value) (rs : List R6) (w : World) (hb : b < w.heap.size) (hW : 1 ≤ W ∧ W ≤ 1000000) (hn : 0 ≤ nw ∧ nw ≤ 1000000000000) (hK : 0 ≤ K ∧ K ≤ 1000000000)
    (c0 : w.cell? ⟨b, o, none⟩ = some (.int .i64 W)) (c1 : w.cell? ⟨b, o + 1, none⟩ = some (.int .i64 K)) (c2 : w.cell? ⟨b, o + 2, none⟩ = some rv) (hR : RL w w.heap.size rv rs) :
    Calls Try.prog 73 #[.pointer (some ⟨b, o, none⟩), .int .i64 nw] w (BoolPost (rlsM nw (W, K, rs)) w) := by
  have HR := Lib.hid hR
  obtain ⟨_, hrl, Ar, cr, rfl, hcr⟩ := hR
  have HRo := Lib.hid (fun W' h => implRollsOk_any (.slice Ar rs.length cr) rs W W' h)
  have HRd := Lib.hid (show RL w.drew w.drew.heap.size (.slice Ar rs.length cr) rs from HR.out)
  have C0 := Lib.hid c0
  have C1 := Lib.hid c1
  have C2 := Lib.hid c2
  cases hro : rollsOkB rs W with
  | false =>
    have E := Lib.hid (show rlsM nw (W, K, rs) = false from by unfold rlsM; rw [hro]; rfl)
    rw [hro] at HRo
    clear hro
    go_enter Try.func73, Try.ntmps73
    go_wp2_with fail
    go_region_law (go_simp; go_at_call 96; refine (HRo.out _ (by first | exact HRd.out | exact HR.out)).mono ?_; rintro e w5 ⟨rfl, hb5⟩; have HB5 := Lib.hid (show Below w.heap.size w w5 from ⟨hb5.os, hb5.tape, hb5.output, hb5.size, hb5.block⟩); clear hb5)
    all_goals
      go_simp
      go_wp2_with fail
      go_ret
      exact ⟨by rw [E.out]; rfl, HB5.out⟩
  | true =>
    have HBad := Lib.hid (fun j hj h => rlsM_bad (nw := nw) (x := (W, K, rs)) (j := j) hj h)
    have HOk := Lib.hid (fun h => rlsM_ok (nw := nw) (x := (W, K, rs)) hro h)
    have hr400 := (rollsOkB_in hro).1
    have HRin := Lib.hid (fun i hi => (gdR_in ((rollsOkB_in hro).2.2 i hi)).1)
    rw [hro] at HRo
    clear hro
    go_enter Try.func73, Try.ntmps73
    go_wp2_with fail
    go_region_law (go_simp; go_at_call 96; refine (HRo.out _ (by first | exact HRd.out | exact HR.out)).mono ?_; rintro e w5 ⟨rfl, hb5⟩; have HB5 := Lib.hid (show Below w.heap.size w w5 from ⟨hb5.os, hb5.tape, hb5.output, hb5.size, hb5.block⟩); clear hb5)
    all_goals
      go_simp
      have hs5 := HB5.out.size
      have d0 : w5.cell? ⟨b, o, none⟩ = some (.int .i64 W) := (HB5.out.cell (p := ⟨b, o, none⟩) hb).trans C0.out
      have d1 : w5.cell? ⟨b, o + 1, none⟩ = some (.int .i64 K) := (HB5.out.cell (p := ⟨b, o + 1, none⟩) hb).trans C1.out
      have d2 : w5.cell? ⟨b, o + 2, none⟩ = some (.slice Ar rs.length cr) := (HB5.out.cell (p := ⟨b, o + 2, none⟩) hb).trans C2.out
      clear c0 c1 c2
      go_wp2_with fail
      go_loopw [22] (fun i wr => ∃ j : Nat, j ≤ rs.length ∧ i = .int .i64 j ∧ Hid (Below w.heap.size w wr) ∧ Hid (∀ i, i < j → rolAt nw (W, K, rs) (rs.getD i z6) = true)) (fun i _ => rs.length - (intOf i).toNat)
      case atStart => exact ⟨0, Nat.zero_le _, rfl, HB5, Lib.hid (fun i hi => by omega)⟩
      case round =>
        clear d0 d1 d2
        obtain ⟨j, hj, rfl, HBr, HG⟩ := hrel
        have hszr := HBr.out.size
        have z0 : wr.cell? ⟨b, o, none⟩ = some (.int .i64 W) := (HBr.out.cell (p := ⟨b, o, none⟩) hb).trans C0.out
        have z1 : wr.cell? ⟨b, o + 1, none⟩ = some (.int .i64 K) := (HBr.out.cell (p := ⟨b, o + 1, none⟩) hb).trans C1.out
        by_cases hlt : j < rs.length
        · rcases hcr with hcr | ⟨br, or, rfl, hbr, hcr⟩
          · subst hcr; simp at hlt
          have hx0 : wr.cell? ⟨br, or + j * 6, none⟩ = some (.int .i64 (rs.getD j z6).1) := (HBr.out.cell (p := ⟨br, or + j * 6, none⟩) hbr).trans (hcr j hlt).1
          have hx1 : wr.cell? ⟨br, or + j * 6 + 1, none⟩ = some (.int .i64 (rs.getD j z6).2.1) := (HBr.out.cell (p := ⟨br, or + j * 6 + 1, none⟩) hbr).trans (hcr j hlt).2.1
          have hx2 : wr.cell? ⟨br, or + j * 6 + 2, none⟩ = some (.int .i64 (rs.getD j z6).2.2.1) := (HBr.out.cell (p := ⟨br, or + j * 6 + 2, none⟩) hbr).trans (hcr j hlt).2.2.1
          have hx3 : wr.cell? ⟨br, or + j * 6 + 3, none⟩ = some (.int .i64 (rs.getD j z6).2.2.2.1) := (HBr.out.cell (p := ⟨br, or + j * 6 + 3, none⟩) hbr).trans (hcr j hlt).2.2.2.1
          have hx4 : wr.cell? ⟨br, or + j * 6 + 4, none⟩ = some (.int .i64 (rs.getD j z6).2.2.2.2.1) := (HBr.out.cell (p := ⟨br, or + j * 6 + 4, none⟩) hbr).trans (hcr j hlt).2.2.2.2.1
          have hx5 : wr.cell? ⟨br, or + j * 6 + 5, none⟩ = some (.int .i64 (rs.getD j z6).2.2.2.2.2) := (HBr.out.cell (p := ⟨br, or + j * 6 + 5, none⟩) hbr).trans (hcr j hlt).2.2.2.2.2
          clear hcr
          have HBj := Lib.hid (fun h => HBad.out j hlt h)
          have hTj := HRin.out j hlt
          obtain ⟨r, hr⟩ : ∃ r, r = rs.getD j z6 := ⟨_, rfl⟩
          rw [← hr] at hx0 hx1 hx2 hx3 hx4 hx5 hTj
          have HBk : Hid (rolAt nw (W, K, rs) r = false → rlsM nw (W, K, rs) = false) := Lib.hid (by rw [hr]; exact HBj.out)
          have HRR := Lib.hid hr
          clear hr HBj
          obtain ⟨t, r1, r2, r3, r4, r5⟩ := r
          simp only at hx0 hx1 hx2 hx3 hx4 hx5 hTj
          have hbw : b < wr.heap.size := by omega
          by_cases g1 : t ≤ nw
          case neg =>
            have E := Lib.hid (HBk.out (by unfold rolAt; rw [decide_eq_false g1]; rfl))
            have g1' : decide (nw < t) = true := decide_eq_true (by omega)
            go_wp2_with fail
            go_ret
            exact ⟨by rw [E.out]; rfl, HBr.out.alloc hszr _⟩
          have g1' : decide (nw < t) = false := decide_eq_false (by omega)
          have HRt := Lib.hid (fun w h0 h1 h2 => retains_any b o W K nw (t, r1, r2, r3, r4, r5) (W, K, rs) w rfl rfl g1 hW hn hTj.1 hK h0 h1 h2)
          cases hra : rolAt nw (W, K, rs) (t, r1, r2, r3, r4, r5) with
          | false =>
            have E := Lib.hid (HBk.out hra)
            rw [hra] at HRt
            clear hra
            go_wp2_with (go_at_call 107; refine (HRt.out _ (by simp; omega) (by first | exact z0 | go_simp) (by first | exact z1 | go_simp)).mono ?_; rintro e w6 ⟨rfl, hb6⟩)
            have HB6 := Lib.hid ((HBr.out.alloc hszr (.cells #[.int .i64 t, .int .i64 r1, .int .i64 r2, .int .i64 r3, .int .i64 r4, .int .i64 r5] 56)).trans (hb6.mono (by simp; omega)))
            clear hb6
            go_wp2_with fail
            go_ret
            exact ⟨by rw [E.out]; rfl, HB6.out⟩
          | true =>
            have HT := Lib.hid hra
            rw [hra] at HRt
            clear hra
            go_wp2_with (go_at_call 107; refine (HRt.out _ (by simp; omega) (by first | exact z0 | go_simp) (by first | exact z1 | go_simp)).mono ?_; rintro e w6 ⟨rfl, hb6⟩)
            have HB6 := Lib.hid ((HBr.out.alloc hszr (.cells #[.int .i64 t, .int .i64 r1, .int .i64 r2, .int .i64 r3, .int .i64 r4, .int .i64 r5] 56)).trans (hb6.mono (by simp; omega)))
            clear hb6
            go_wp2_with fail
            go_roundw
            case rel =>
              refine ⟨j + 1, by omega, by go_num, HB6, Lib.hid (fun i hi => ?_)⟩
              by_cases e : i = j
              · rw [e, ← HRR.out]; exact HT.out
              · exact HG.out i (by omega)
            case measure => simp [intOf]; omega
        · obtain rfl : j = rs.length := by omega
          have E := Lib.hid (HOk.out HG.out)
          go_wp2_with fail
          go_ret
          exact ⟨by rw [E.out]; rfl, HBr.out⟩
end Go.Proofs.Ytdmcijodhokahaa
