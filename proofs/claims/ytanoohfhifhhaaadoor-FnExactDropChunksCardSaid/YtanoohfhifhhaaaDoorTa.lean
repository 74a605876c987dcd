/- Walks: TimesOk. -/
import Derived.Test.YtanoohfhifhhaaaDoorIb
import Derived.Test.YtanoohfhifhhaaaDoorUi
set_option linter.unusedVariables false
set_option linter.unusedSimpArgs false
namespace Go.Proofs.YtanoohfhifhhaaaDoor
open Go.RowKit

def goodAt (l : List Int) (j : Nat) : Bool := decide (0 ≤ l.getD j 0 ∧ l.getD j 0 ≤ 1000000000000) && (decide (j = 0) || decide (l.getD (j - 1) 0 < l.getD j 0))
def goodTo (l : List Int) (k : Nat) : Bool := (List.range k).all (goodAt l)
def timesOkB (l : List Int) : Bool := decide (l.length ≤ 120) && goodTo l l.length
theorem goodTo_zero (l : List Int) : goodTo l 0 = true := rfl
theorem goodTo_succ (l : List Int) (k : Nat) : goodTo l (k + 1) = (goodTo l k && goodAt l k) := by
  unfold goodTo; rw [List.range_succ, List.all_append]; simp
theorem goodTo_bad {l : List Int} {k n : Nat} (h : goodAt l k = false) (hk : k < n) : goodTo l n = false := by
  unfold goodTo
  rw [List.all_eq_false]
  exact ⟨k, by simpa using hk, by simp [h]⟩
theorem goodTo_at {l : List Int} {k j : Nat} (h : goodTo l k = true) (hj : j < k) : goodAt l j = true := by
  unfold goodTo at h
  exact List.all_eq_true.1 h j (by simpa using hj)
theorem timesOkB_bad {l : List Int} {k : Nat} (h : goodAt l k = false) (hk : k < l.length) : timesOkB l = false := by
  unfold timesOkB; rw [goodTo_bad h hk]; simp
theorem timesOkB_end {l : List Int} (h : goodTo l l.length = true) : timesOkB l = decide (l.length ≤ 120) := by unfold timesOkB; rw [h]; simp

theorem below_drewN_u {B : Nat} {a w : World} (h : Below B a w) (n : Nat) : Below B a (w.drewN n) := ⟨h.os, h.tape, h.output, h.size, h.block⟩

set_option maxRecDepth 100000 in
set_option maxHeartbeats 2000000 in
theorem specTimesOk_any (v : Value) (xs : List Int) (w : World) (h : IL w w.heap.size v xs) :
    Calls Tryd.prog 78 #[v] w (BoolPost (timesOkB xs) w) := by
  obtain ⟨hr, hlen, A, c, rfl, h3⟩ := h
  have hin := Lib.hid (fun n W => v_l1In_q n 0 1000000000000 W)
  have Hr := Lib.hid hr
  clear hr
  go_enter Tryd.func78, Tryd.ntmps78
  go_wp2_with fail
  go_loopw [3] (fun i wr => ∃ k : Nat, k ≤ xs.length ∧ i = .int .i64 k ∧ goodTo xs k = true ∧ Below w.heap.size w wr) (fun i _ => xs.length - (intOf i).toNat)
  case atStart => exact ⟨0, Nat.zero_le _, rfl, rfl, Below.refl _ _⟩
  case round =>
    obtain ⟨k, hk, rfl, hg, hb⟩ := hrel
    have Hg := Lib.hid hg
    clear hg
    by_cases hlt : k < xs.length
    · rcases h3 with h3 | ⟨b, off, rfl, hbl, hc⟩
      · subst h3; simp at hlt
      have hx : wr.cell? ⟨b, off + k, none⟩ = some (.int .i64 (xs.getD k 0)) := (hb.cell (p := ⟨b, off + k, none⟩) hbl).trans (hc k hlt)
      by_cases hin1 : 0 ≤ xs.getD k 0 ∧ xs.getD k 0 ≤ 1000000000000
      · have hI := Lib.hid (fun W => hin.out (xs.getD k 0) W)
        rw [vIn_true hin1.1 hin1.2] at hI
        by_cases hk0 : k ≤ 0
        · have G := Lib.hid (show goodTo xs (k + 1) = true from by rw [goodTo_succ, Hg.out]; unfold goodAt; rw [decide_eq_true hin1, decide_eq_true (show k = 0 by omega)]; rfl)
          have hd : decide (0 < k) = false := by simp; omega
          have Hk0 := Lib.hid hk0
          clear hk0
          generalize hX : xs.getD k 0 = x at *
          have HX := Lib.hid hX
          clear hX hc
          go_wp2_with fail
          go_quiet ((go_at_call 50; exact Calls.quiet_of_same (hI.out _)))
          go_wp2_with fail
          go_roundw
          case rel => exact ⟨k + 1, by omega, by go_num, G.out, by first | exact below_drewN_u hb _ | exact hb⟩
          case measure => simp [intOf]; omega
        · have hy : wr.cell? ⟨b, off + (k - 1), none⟩ = some (.int .i64 (xs.getD (k - 1) 0)) := (hb.cell (p := ⟨b, off + (k - 1), none⟩) hbl).trans (hc (k - 1) (by omega))
          have hd : decide (0 < k) = true := by simp; omega
          have e1 : IntKind.i64.wrap ((k : Int) - 1) = (k : Int) - 1 := IntWalk.i64_in _ (by omega)
          have e2 : (0 : Int) ≤ (k : Int) - 1 := by omega
          have e2' : (1 : Int) ≤ (k : Int) := by omega
          have e3 : ((k : Int) - 1).toNat = k - 1 := by omega
          have e4 : (k : Int) - 1 < (xs.length : Int) := by omega
          by_cases hlast : xs.getD (k - 1) 0 < xs.getD k 0
          · have G := Lib.hid (show goodTo xs (k + 1) = true from by rw [goodTo_succ, Hg.out]; unfold goodAt; rw [decide_eq_true hin1, decide_eq_true hlast, Bool.or_true]; rfl)
            generalize hX : xs.getD k 0 = x at *
            generalize hY : xs.getD (k - 1) 0 = y at *
            have HX := Lib.hid hX
            have HY := Lib.hid hY
            have hxy : decide (x ≤ y) = false := by simp; omega
            clear hX hY hc
            go_wp2_with fail
            go_quiet ((go_at_call 50; exact Calls.quiet_of_same (hI.out _)))
            clear e1 e2 e2' e3 e4
            go_wp2_with fail
            go_roundw
            case rel => exact ⟨k + 1, by omega, by go_num, G.out, by first | exact below_drewN_u hb _ | exact hb⟩
            case measure => simp [intOf]; omega
          · have G := Lib.hid (timesOkB_bad (l := xs) (k := k) (by unfold goodAt; rw [decide_eq_false hlast, decide_eq_false (show ¬ k = 0 by omega)]; simp) hlt)
            generalize hX : xs.getD k 0 = x at *
            generalize hY : xs.getD (k - 1) 0 = y at *
            have HX := Lib.hid hX
            have HY := Lib.hid hY
            have hxy : decide (x ≤ y) = true := by simp; omega
            clear hX hY hc
            go_wp2_with fail
            go_quiet ((go_at_call 50; exact Calls.quiet_of_same (hI.out _)))
            clear e1 e2 e2' e3 e4
            go_wp2_with fail
            go_ret
            exact ⟨by rw [G.out]; rfl, by first | exact below_drewN_u hb _ | exact hb⟩
      · have hI := Lib.hid (fun W => hin.out (xs.getD k 0) W)
        rw [vIn_false hin1] at hI
        have G := Lib.hid (timesOkB_bad (l := xs) (k := k) (by unfold goodAt; rw [decide_eq_false hin1]; rfl) hlt)
        generalize hX : xs.getD k 0 = x at *
        have HX := Lib.hid hX
        clear hX hc hin1
        go_wp2_with fail
        go_quiet ((go_at_call 50; exact Calls.quiet_of_same (hI.out _)))
        go_wp2_with fail
        go_ret
        exact ⟨by rw [G.out]; rfl, by first | exact below_drewN_u hb _ | exact hb⟩
    · obtain rfl : k = xs.length := by omega
      have E := Lib.hid (timesOkB_end Hg.out)
      have E2 := Lib.hid (show timesOkB xs = decide ((xs.length : Int) ≤ 120) from by rw [E.out]; exact decide_eq_decide.2 (by omega))
      go_wp2_with fail
      go_ret
      exact ⟨by rw [E2.out]; rfl, hb⟩

set_option maxRecDepth 100000 in
set_option maxHeartbeats 2000000 in
theorem implTimesOk_any (v : Value) (xs : List Int) (w : World) (h : IL w w.heap.size v xs) :
    Calls Tryd.prog 71 #[v] w (BoolPost (timesOkB xs) w) := by
  obtain ⟨hr, hlen, A, c, rfl, h3⟩ := h
  have Hr := Lib.hid hr
  clear hr
  by_cases h120 : 120 < xs.length
  · have E := Lib.hid (show timesOkB xs = false from by unfold timesOkB; rw [decide_eq_false (by omega)]; rfl)
    go_enter Tryd.func71, Tryd.ntmps71
    go_wp2_with fail
    go_ret
    exact ⟨by rw [E.out]; rfl, Below.refl _ _⟩
  · have h120' : xs.length ≤ 120 := by omega
    go_enter Tryd.func71, Tryd.ntmps71
    go_wp2_with fail
    go_loop [3, 11] (fun p i => ∃ (k : Nat) (y : Int), k ≤ xs.length ∧ i = .int .i64 k ∧ p = .int .i64 y ∧ -1 ≤ y ∧ Hid (y = if k = 0 then -1 else xs.getD (k - 1) 0) ∧ goodTo xs k = true) (fun _ i => xs.length - (intOf i).toNat)
    case atStart => exact ⟨0, -1, Nat.zero_le _, rfl, rfl, by omega, rfl, rfl⟩
    case round =>
      obtain ⟨k, y, hk, rfl, rfl, hy1, HY, hg⟩ := hrel
      have Hg := Lib.hid hg
      clear hg
      by_cases hlt : k < xs.length
      · rcases h3 with h3 | ⟨b, off, rfl, hbl, hc⟩
        · subst h3; simp at hlt
        have hx := hc k hlt
        generalize hX : xs.getD k 0 = x at *
        have HX := Lib.hid hX
        clear hX hc
        by_cases h1 : x ≤ y
        · have G := Lib.hid (timesOkB_bad (l := xs) (k := k) (by
            unfold goodAt
            have hy := HY.out
            rw [HX.out]
            by_cases e : k = 0
            · rw [if_pos e] at hy
              rw [decide_eq_false (by omega)]; rfl
            · rw [if_neg e] at hy
              rw [← hy, decide_eq_false e, decide_eq_false (show ¬ y < x by omega)]; simp) hlt)
          go_wp2_with fail
          go_ret
          exact ⟨by rw [G.out]; rfl, Below.refl _ _⟩
        · by_cases h2 : 1000000000000 < x
          · have G := Lib.hid (timesOkB_bad (l := xs) (k := k) (by unfold goodAt; rw [HX.out, decide_eq_false (by omega)]; rfl) hlt)
            go_wp2_with fail
            go_ret
            exact ⟨by rw [G.out]; rfl, Below.refl _ _⟩
          · have G := Lib.hid (show goodTo xs (k + 1) = true from by
              rw [goodTo_succ, Hg.out]
              unfold goodAt
              have hy := HY.out
              rw [HX.out, decide_eq_true (by omega)]
              by_cases e : k = 0
              · rw [decide_eq_true e]; rfl
              · rw [if_neg e] at hy
                rw [← hy, decide_eq_true (show y < x by omega)]; simp)
            go_wp2_with fail
            go_round
            case rel => exact ⟨k + 1, x, by omega, by go_num, rfl, by omega, Lib.hid (by rw [if_neg (by omega)]; exact HX.out.symm), G.out⟩
            case measure => simp [intOf]; omega
      · obtain rfl : k = xs.length := by omega
        have E := Lib.hid (show timesOkB xs = true from by rw [timesOkB_end Hg.out]; simpa using h120')
        go_wp2_with fail
        go_ret
        exact ⟨by rw [E.out]; rfl, Below.refl _ _⟩

end Go.Proofs.YtanoohfhifhhaaaDoor
