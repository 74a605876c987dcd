/- Walks: TimesOk. -/
import Derived.Test.YtpnfkmhhilnglaaIb
import Derived.Test.YtpnfkmhhilnglaaUi
set_option linter.unusedVariables false
set_option linter.unusedSimpArgs false
namespace Go.Proofs.Ytpnfkmhhilnglaa
open Go.RowKit

def goodAt (l : List Int) (j : Nat) : Bool := decide (0 ≤ l.getD j 0 ∧ l.getD j 0 ≤ 1000000000000) && (decide (j = 0) || decide (l.getD (j - 1) 0 < l.getD j 0))
def goodTo (l : List Int) (k : Nat) : Bool := (List.range k).all (goodAt l)
def timesOkB (l : List Int) : Bool := decide (l.length ≤ 120) && goodTo l l.length
theorem goodTo_zero (l : List Int) : goodTo l 0 = true := rfl
theorem goodTo_succ (l : List Int) (k : Nat) : goodTo l (k + 1) = (goodTo l k && goodAt l k) := by
  unfold goodTo; rw [List.range_succ, List.all_append]; simp
theorem goodTo_bad {l : List Int} {k n : Nat} (h : goodAt l k = false) (hk : k < n) : goodTo l n = false := by
  unfold goodTo
  rw [List.all_eq_false]
  exact ⟨k, by simpa using hk, by simp [h]⟩
theorem goodTo_at {l : List Int} {k j : Nat} (h : goodTo l k = true) (hj : j < k) : goodAt l j = true := by
  unfold goodTo at h
  exact List.all_eq_true.1 h j (by simpa using hj)
theorem timesOkB_bad {l : List Int} {k : Nat} (h : goodAt l k = false) (hk : k < l.length) : timesOkB l = false := by
  unfold timesOkB; rw [goodTo_bad h hk]; simp
theorem timesOkB_end {l : List Int} (h : goodTo l l.length = true) : timesOkB l = decide (l.length ≤ 120) := by unfold timesOkB; rw [h]; simp

theorem below_drewN_u {B : Nat} {a w : World} (h : Below B a w) (n : Nat) : Below B a (w.drewN n) := ⟨h.os, h.tape, h.output, h.size, h.block⟩

set_option maxRecDepth 100000 in
set_option maxHeartbeats 2000000 in
theorem specTimesOk_any (v : Value) (xs : List Int) (w : World) (h : IL w w.heap.size v xs) :
    Calls Try.prog 39 #[v] w (BoolPost (timesOkB xs) w) := by
  obtain ⟨hr, hlen, A, c, rfl, h3⟩ := h
  have hin := Lib.hid (fun n W => v_l1In_q n 0 1000000000000 W)
  have Hr := Lib.hid hr
  clear hr
  go_enter Try.func39, Try.ntmps39
  go_wp2_with fail
  go_loopw [3] (fun i wr => ∃ k : Nat, k ≤ xs.length ∧ i = .int .i64 k ∧ goodTo xs k = true ∧ Below w.heap.size w wr) (fun i _ => xs.length - (intOf i).toNat)
  case atStart => exact ⟨0, Nat.zero_le _, rfl, rfl, Below.refl _ _⟩
  case round =>
    obtain ⟨k, hk, rfl, hg, hb⟩ := hrel
    have Hg := Lib.hid hg
    clear hg
    by_cases hlt : k < xs.length
    · rcases h3 with h3 | ⟨b, off, rfl, hbl, hc⟩
      · subst h3; simp at hlt
      have hx : wr.cell? ⟨b, off + k, none⟩ = some (.int .i64 (xs.getD k 0)) := (hb.cell (p := ⟨b, off + k, none⟩) hbl).trans (hc k hlt)
      by_cases hin1 : 0 ≤ xs.getD k 0 ∧ xs.getD k 0 ≤ 1000000000000
      · have hI := Lib.hid (fun W => hin.out (xs.getD k 0) W)
        rw [vIn_true hin1.1 hin1.2] at hI
        by_cases hk0 : k ≤ 0
        · have G := Lib.hid (show goodTo xs (k + 1) = true from by rw [goodTo_succ, Hg.out]; unfold goodAt; rw [decide_eq_true hin1, decide_eq_true (show k = 0 by omega)]; rfl)
          have hd : decide (0 < k) = false := by simp; omega
          have Hk0 := Lib.hid hk0
          clear hk0
          generalize hX : xs.getD k 0 = x at *
          have HX := Lib.hid hX
          clear hX hc
          go_wp2_with fail
          go_quiet ((go_at_call 62; exact Calls.quiet_of_same (hI.out _)))
          go_wp2_with fail
          go_roundw
          case rel => exact ⟨k + 1, by omega, by go_num, G.out, by first | exact below_drewN_u hb _ | exact hb⟩
          case measure => simp [intOf]; omega
        · have hy : wr.cell? ⟨b, off + (k - 1), none⟩ = some (.int .i64 (xs.getD (k - 1) 0)) := (hb.cell (p := ⟨b, off + (k - 1), none⟩) hbl).trans (hc (k - 1) (by omega))
          have hd : decide (0 < k) = true := by simp; omega
          have e1 : IntKind.i64.wrap ((k : Int) - 1) = (k : Int) - 1 := IntWalk.i64_in _ (by omega)
          have e2 : (0 : Int) ≤ (k : Int) - 1 := by omega
          have e2' : (1 : Int) ≤ (k : Int) := by omega
          have e3 : ((k : Int) - 1).toNat = k - 1 := by omega
          have e4 : (k : Int) - 1 < (xs.length : Int) := by omega
          by_cases hlast : xs.getD (k - 1) 0 < xs.getD k 0
          · have G := Lib.hid (show goodTo xs (k + 1) = true from by rw [goodTo_succ, Hg.out]; unfold goodAt; rw [decide_eq_true hin1, decide_eq_true hlast, Bool.or_true]; rfl)
            generalize hX : xs.getD k 0 = x at *
            generalize hY : xs.getD (k - 1) 0 = y at *
            have HX := Lib.hid hX
            have HY := Lib.hid hY
            have hxy : decide (x ≤ y) = false := by simp; omega
            clear hX hY hc
            go_wp2_with fail
            go_quiet ((go_at_call 62; exact Calls.quiet_of_same (hI.out _)))
            clear e1 e2 e2' e3 e4
            go_wp2_with fail
            go_roundw
            case rel => exact ⟨k + 1, by omega, by go_num, G.out, by first | exact below_drewN_u hb _ | exact hb⟩
            case measure => simp [intOf]; omega
          · have G := Lib.hid (timesOkB_bad (l := xs) (k := k) (by unfold goodAt; rw [decide_eq_false hlast, decide_eq_false (show ¬ k = 0 by omega)]; simp) hlt)
            generalize hX : xs.getD k 0 = x at *
            generalize hY : xs.getD (k - 1) 0 = y at *
            have HX := Lib.hid hX
            have HY := Lib.hid hY
            have hxy : decide (x ≤ y) = true := by simp; omega
            clear hX hY hc
            go_wp2_with fail
            go_quiet ((go_at_call 62; exact Calls.quiet_of_same (hI.out _)))
            clear e1 e2 e2' e3 e4
            go_wp2_with fail
            go_ret
            exact ⟨by rw [G.out]; rfl, by first | exact below_drewN_u hb _ | exact hb⟩
      · have hI := Lib.hid (fun W => hin.out (xs.getD k 0) W)
        rw [vIn_false hin1] at hI
        have G := Lib.hid (timesOkB_bad (l := xs) (k := k) (by unfold goodAt; rw [decide_eq_false hin1]; rfl) hlt)
        generalize hX : xs.getD k 0 = x at *
        have HX := Lib.hid hX
        clear hX hc hin1
        go_wp2_with fail
        go_quiet ((go_at_call 62; exact Calls.quiet_of_same (hI.out _)))
        go_wp2_with fail
        go_ret
        exact ⟨by rw [G.out]; rfl, by first | exact below_drewN_u hb _ | exact hb⟩
    · obtain rfl : k = xs.length := by omega
      have E := Lib.hid (timesOkB_end Hg.out)
      have E2 := Lib.hid (show timesOkB xs = decide ((xs.length : Int) ≤ 120) from by rw [E.out]; exact decide_eq_decide.2 (by omega))
      go_wp2_with fail
      go_ret
      exact ⟨by rw [E2.out]; rfl, hb⟩

set_option maxRecDepth 100000 in
set_option maxHeartbeats 2000000 in
theorem implTimesOk_any (v : Value) (xs : List Int) (w : World) (h : IL w w.heap.size v xs) :
    Calls Try.prog 38 #[v] w (BoolPost (timesOkB xs) w) := by
  obtain ⟨hr, hlen, A, c, rfl, h3⟩ := h
  have Hr := Lib.hid hr
  clear hr
  by_cases h120 : 120 < xs.length
  · have E := Lib.hid (show timesOkB xs = false from by unfold timesOkB; rw [decide_eq_false (by omega)]; rfl)
    go_enter Try.func38, Try.ntmps38
    go_wp2_with fail
    go_ret
    exact ⟨by rw [E.out]; rfl, Below.refl _ _⟩
  · have h120' : xs.length ≤ 120 := by omega
    go_enter Try.func38, Try.ntmps38
    go_wp2_with fail
    go_loop [3, 11] (fun p i => ∃ (k : Nat) (y : Int), k ≤ xs.length ∧ i = .int .i64 k ∧ p = .int .i64 y ∧ -1 ≤ y ∧ Hid (y = if k = 0 then -1 else xs.getD (k - 1) 0) ∧ goodTo xs k = true) (fun _ i => xs.length - (intOf i).toNat)
    case atStart => exact ⟨0, -1, Nat.zero_le _, rfl, rfl, by omega, rfl, rfl⟩
    case round =>
      obtain ⟨k, y, hk, rfl, rfl, hy1, HY, hg⟩ := hrel
      have Hg := Lib.hid hg
      clear hg
      by_cases hlt : k < xs.length
      · rcases h3 with h3 | ⟨b, off, rfl, hbl, hc⟩
        · subst h3; simp at hlt
        have hx := hc k hlt
        generalize hX : xs.getD k 0 = x at *
        have HX := Lib.hid hX
        clear hX hc
        by_cases h1 : x ≤ y
        · have G := Lib.hid (timesOkB_bad (l := xs) (k := k) (by
            unfold goodAt
            have hy := HY.out
            rw [HX.out]
            by_cases e : k = 0
            · rw [if_pos e] at hy
              rw [decide_eq_false (by omega)]; rfl
            · rw [if_neg e] at hy
              rw [← hy, decide_eq_false e, decide_eq_false (show ¬ y < x by omega)]; simp) hlt)
          go_wp2_with fail
          go_ret
          exact ⟨by rw [G.out]; rfl, Below.refl _ _⟩
        · by_cases h2 : 1000000000000 < x
          · have G := Lib.hid (timesOkB_bad (l := xs) (k := k) (by unfold goodAt; rw [HX.out, decide_eq_false (by omega)]; rfl) hlt)
            go_wp2_with fail
            go_ret
            exact ⟨by rw [G.out]; rfl, Below.refl _ _⟩
          · have G := Lib.hid (show goodTo xs (k + 1) = true from by
              rw [goodTo_succ, Hg.out]
              unfold goodAt
              have hy := HY.out
              rw [HX.out, decide_eq_true (by omega)]
              by_cases e : k = 0
              · rw [decide_eq_true e]; rfl
              · rw [if_neg e] at hy
                rw [← hy, decide_eq_true (show y < x by omega)]; simp)
            go_wp2_with fail
            go_round
            case rel => exact ⟨k + 1, x, by omega, by go_num, rfl, by omega, Lib.hid (by rw [if_neg (by omega)]; exact HX.out.symm), G.out⟩
            case measure => simp [intOf]; omega
      · obtain rfl : k = xs.length := by omega
        have E := Lib.hid (show timesOkB xs = true from by rw [timesOkB_end Hg.out]; simpa using h120')
        go_wp2_with fail
        go_ret
        exact ⟨by rw [E.out]; rfl, Below.refl _ _⟩

set_option maxRecDepth 100000 in
set_option maxHeartbeats 1000000 in
theorem walkFnExactTimesOk (A : Option Addr) (n c : Nat) (w : World) (hx : n ≤ 1048576 → ∃ xs : List Int, xs.length = n ∧ IL w w.heap.size (.slice A n c) xs) :
    Calls Try.prog 13 #[.slice A n c] w fun e w' => e = .returned (.bool true) ∧ Below w.heap.size w w' := by
  by_cases hbig : (1048576 : Int) < n
  · clear hx
    go_enter Try.func13, Try.ntmps13
    go_wp2_with fail
    go_ret
    exact ⟨rfl, Below.refl _ _⟩
  · obtain ⟨xs, rfl, hil⟩ := hx (by omega)
    have Hil := Lib.hid hil
    have Hrng := Lib.hid hil.1
    clear hx hil
    have hsp := Lib.hid (fun v W h => specTimesOk_any v xs W h)
    have him := Lib.hid (fun v W h => implTimesOk_any v xs W h)
    generalize timesOkB xs = S at *
    have hcp := Lib.hid (fun v W h => toInt64S_any v xs W h)
    have heq := Lib.hid (fun v u W h h' => eqInt64S_any v u xs xs W h h')
    rw [decide_eq_true rfl] at heq
    cases S
    all_goals
      go_enter Try.func13, Try.ntmps13
      go_wp2_with fail
      refine (hcp.out _ _ Hil.out).mono ?_
      rintro e w1 ⟨v1, rfl, hown1, hb1⟩
      have H1 := Lib.hid (IL.of_own hown1 rfl Hrng.out (by omega))
      have Hil1 := Lib.hid ((Hil.out.below hb1).up hb1.size)
      have B1 := Lib.hid hb1
      clear hown1 hb1 Hil
      go_wp2_with fail
      refine (hsp.out _ _ H1.out).mono ?_
      rintro e w2 ⟨rfl, hb2⟩
      have Hil2 := Lib.hid ((Hil1.out.below hb2).up hb2.size)
      have B2 := Lib.hid (B1.out.trans (hb2.mono B1.out.size))
      clear hb2 Hil1 B1 H1
      go_wp2_with fail
      refine (hcp.out _ _ Hil2.out).mono ?_
      rintro e w3 ⟨v3, rfl, hown3, hb3⟩
      have H3 := Lib.hid (IL.of_own hown3 rfl Hrng.out (by omega))
      have Hil3 := Lib.hid ((Hil2.out.below hb3).up hb3.size)
      have B3 := Lib.hid (B2.out.trans (hb3.mono B2.out.size))
      clear hown3 hb3 Hil2 B2
      go_wp2_with fail
      refine (him.out _ _ H3.out).mono ?_
      rintro e w4 ⟨rfl, hb4⟩
      have Hil4 := Lib.hid ((Hil3.out.below hb4).up hb4.size)
      have H4 := Lib.hid ((H3.out.below hb4).up hb4.size)
      have B4 := Lib.hid (B3.out.trans (hb4.mono B3.out.size))
      clear hb4 Hil3 B3 H3
      go_wp2_with fail
      refine (hcp.out _ _ Hil4.out).mono ?_
      rintro e w5 ⟨v5, rfl, hown5, hb5⟩
      have H5 := Lib.hid (IL.of_own hown5 rfl Hrng.out (by omega))
      have H45 := Lib.hid ((H4.out.below hb5).up hb5.size)
      have B5 := Lib.hid (B4.out.trans (hb5.mono B4.out.size))
      clear hown5 hb5 Hil4 B4 H4
      go_wp2_with fail
      refine (heq.out _ _ _ H45.out H5.out).mono ?_
      rintro e w6 ⟨rfl, hb6⟩
      have B6 := Lib.hid (B5.out.trans (hb6.mono B5.out.size))
      clear hb6 B5
      go_wp2_with fail
      go_ret
      exact ⟨rfl, B6.out⟩
end Go.Proofs.Ytpnfkmhhilnglaa
