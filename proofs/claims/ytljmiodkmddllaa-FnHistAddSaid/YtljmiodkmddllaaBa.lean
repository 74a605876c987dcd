/- Walks: bounds of a histogram: both checks, and the law FnExactBoundsOk. -/
import Derived.Test.YtljmiodkmddllaaAb
set_option linter.unusedVariables false
set_option linter.unusedSimpArgs false
namespace Go.Proofs.Ytljmiodkmddllaa
open Go.RowKit

def bndB (l : List Int) : Bool := risTo l l.length && decide (l.length ≤ 20)
theorem bndB_bad {l : List Int} {k : Nat} (h : risAt l k = false) (hk : k < l.length) : bndB l = false := by
  unfold bndB; rw [risTo_bad h hk]; rfl
theorem bndB_ris {l : List Int} (h : bndB l = true) : Ris l := by unfold bndB at h; rw [Bool.and_eq_true] at h; exact ris_of h.1
theorem bndB_len {l : List Int} (h : bndB l = true) : l.length ≤ 20 := by unfold bndB at h; rw [Bool.and_eq_true] at h; simpa using h.2

set_option maxRecDepth 100000 in
set_option maxHeartbeats 2000000 in
theorem specBoundsOk_any (v : Value) (xs : List Int) (w : World) (h : IL w w.heap.size v xs) :
    Calls Try.prog 13 #[v] w (BoolPost (bndB xs) w) := by
  obtain ⟨hr, hlen, A, c, rfl, h3⟩ := h
  clear hr
  go_enter Try.func13, Try.ntmps13
  go_wp2_with fail
  go_loopw [3] (fun i wr => ∃ k q : Nat, k ≤ xs.length ∧ i = .int .i64 k ∧ Hid (risTo xs k = true) ∧ wr = w.drewN q) (fun i _ => xs.length - (Go.RowKit.intOf i).toNat)
  case atStart => exact ⟨0, 0, Nat.zero_le _, rfl, rfl, rfl⟩
  case round =>
    obtain ⟨k, q, hk, rfl, Hg, rfl⟩ := hrel
    by_cases hlt : k < xs.length
    · rcases h3 with h3 | ⟨b, off, rfl, hbl, hc⟩
      · subst h3; simp at hlt
      have HS := Lib.hid (risTo_succ xs k)
      by_cases h0 : k = 0
      · have G : Hid (risTo xs (k + 1) = true) := Lib.hid (by rw [HS.out, Hg.out]; unfold risAt; rw [decide_eq_true h0]; rfl)
        have hd : decide (0 < k) = false := by simp; omega
        have hd2 : decide ((0 : Int) < (k : Int)) = false := by simp; omega
        clear hc HS h0
        go_wp2_with fail
        go_quiet (fail)
        go_wp2_with fail
        go_roundw
        case rel => exact ⟨k + 1, _, by omega, by go_num, G, by first | rfl | (symm; rfl)⟩
        case measure => simp [Go.RowKit.intOf]; omega
      have hx : w.cell? ⟨b, off + k, none⟩ = some (.int .i64 (xs.getD k 0)) := hc k hlt
      have hy : w.cell? ⟨b, off + (k - 1), none⟩ = some (.int .i64 (xs.getD (k - 1) 0)) := hc (k - 1) (by omega)
      have e1 : IntKind.i64.wrap ((k : Int) - 1) = (k : Int) - 1 := IntWalk.i64_in _ (by omega)
      have e2 : (0 : Int) ≤ (k : Int) - 1 := by omega
      have e2' : (1 : Int) ≤ (k : Int) := by omega
      have e2s : decide (0 < k) = true := by simp; omega
      have e2t : decide ((0 : Int) < (k : Int)) = true := by simp; omega
      have e0 : (k == 0) = false := by simp; omega
      have e3 : ((k : Int) - 1).toNat = k - 1 := by omega
      have e4 : (k : Int) - 1 < (xs.length : Int) := by omega
      have HB := Lib.hid (fun h => bndB_bad (l := xs) (k := k) h hlt)
      have HA : Hid (risAt xs k = decide (xs.getD (k - 1) 0 < xs.getD k 0)) := Lib.hid (by unfold risAt; rw [decide_eq_false (show ¬ k = 0 by omega)]; rfl)
      clear hc
      generalize xs.getD k 0 = x at *
      generalize xs.getD (k - 1) 0 = y at *
      by_cases hxy : x ≤ y
      · have E := Lib.hid (HB.out (by rw [HA.out]; exact decide_eq_false (by omega)))
        go_wp2_with fail
        go_quiet (fail)
        clear e1 e2 e2' e2s e2t e0 e3 e4
        go_wp2_with fail
        go_ret
        exact ⟨by rw [E.out]; rfl, by first | exact below_drewN_u (below_drewN_u (Below.refl _ _) _) _ | exact below_drewN_u (Below.refl _ _) _ | exact Below.refl _ _⟩
      · have G : Hid (risTo xs (k + 1) = true) := Lib.hid (by rw [HS.out, Hg.out, HA.out, decide_eq_true (show y < x by omega)]; rfl)
        go_wp2_with fail
        go_quiet (fail)
        clear e1 e2 e2' e2s e2t e0 e3 e4
        go_wp2_with fail
        go_roundw
        case rel => exact ⟨k + 1, _, by omega, by go_num, G, rfl⟩
        case measure => simp [Go.RowKit.intOf]; omega
    · obtain rfl : k = xs.length := by omega
      have E2 := Lib.hid (show bndB xs = decide ((xs.length : Int) ≤ 20) from by
        unfold bndB; rw [Hg.out, Bool.true_and]; exact decide_eq_decide.2 (by omega))
      go_wp2_with fail
      go_ret
      exact ⟨by rw [E2.out]; rfl, by first | exact below_drewN_u (below_drewN_u (Below.refl _ _) _) _ | exact below_drewN_u (Below.refl _ _) _ | exact Below.refl _ _⟩

set_option maxRecDepth 100000 in
set_option maxHeartbeats 2000000 in
theorem implBoundsOk_any (v : Value) (xs : List Int) (w : World) (h : IL w w.heap.size v xs) :
    Calls Try.prog 15 #[v] w (BoolPost (bndB xs) w) := by
  have hS := Lib.hid (fun W h => strictly_any v xs W h)
  have HP := Lib.hid h
  obtain ⟨hr, hlen, A, c, rfl, h3⟩ := h
  clear hr h3
  by_cases hl : xs.length ≤ 20
  · have E : Hid (bndB xs = risTo xs xs.length) := Lib.hid (by unfold bndB; rw [decide_eq_true hl, Bool.and_true])
    rw [E.out]
    go_enter Try.func15, Try.ntmps15
    go_wp2_with fail
    refine (hS.out _ HP.out).mono ?_
    rintro e w1 ⟨rfl, hb1⟩
    go_wp2_with fail
    go_ret
    exact ⟨rfl, hb1⟩
  · have E : Hid (bndB xs = false) := Lib.hid (by unfold bndB; rw [decide_eq_false hl, Bool.and_false])
    rw [E.out]
    go_enter Try.func15, Try.ntmps15
    go_wp2_with fail
    go_ret
    exact ⟨rfl, Below.refl _ _⟩


set_option maxRecDepth 100000 in
set_option maxHeartbeats 1000000 in
theorem walkFnExactBoundsOk (A : Option Addr) (n c : Nat) (w : World) (hx : n ≤ 1048576 → ∃ xs : List Int, xs.length = n ∧ IL w w.heap.size (.slice A n c) xs) :
    Calls Try.prog 3 #[.slice A n c] w fun e w' => e = .returned (.bool true) ∧ Below w.heap.size w w' := by
  by_cases hbig : (1048576 : Int) < n
  · clear hx
    go_enter Try.func3, Try.ntmps3
    go_wp2_with fail
    go_ret
    exact ⟨rfl, Below.refl _ _⟩
  · obtain ⟨xs, rfl, hil⟩ := hx (by omega)
    have Hil := Lib.hid hil
    have Hrng := Lib.hid hil.1
    clear hx hil
    have hsp := Lib.hid (fun v W h => specBoundsOk_any v xs W h)
    have him := Lib.hid (fun v W h => implBoundsOk_any v xs W h)
    generalize bndB xs = S at *
    have hcp := Lib.hid (fun v W h => toInt64S_any v xs W h)
    have heq := Lib.hid (fun v u W h h' => eqInt64S_any v u xs xs W h h')
    rw [decide_eq_true rfl] at heq
    cases S
    all_goals
      go_enter Try.func3, Try.ntmps3
      go_wp2_with fail
      refine (hcp.out _ _ Hil.out).mono ?_
      rintro e w1 ⟨v1, rfl, hown1, hb1⟩
      have H1 := Lib.hid (IL.of_own hown1 rfl Hrng.out (by omega))
      have Hil1 := Lib.hid ((Hil.out.below hb1).up hb1.size)
      have B1 := Lib.hid hb1
      clear hown1 hb1 Hil
      go_wp2_with fail
      refine (hsp.out _ _ H1.out).mono ?_
      rintro e w2 ⟨rfl, hb2⟩
      have Hil2 := Lib.hid ((Hil1.out.below hb2).up hb2.size)
      have B2 := Lib.hid (B1.out.trans (hb2.mono B1.out.size))
      clear hb2 Hil1 B1 H1
      go_wp2_with fail
      refine (hcp.out _ _ Hil2.out).mono ?_
      rintro e w3 ⟨v3, rfl, hown3, hb3⟩
      have H3 := Lib.hid (IL.of_own hown3 rfl Hrng.out (by omega))
      have Hil3 := Lib.hid ((Hil2.out.below hb3).up hb3.size)
      have B3 := Lib.hid (B2.out.trans (hb3.mono B2.out.size))
      clear hown3 hb3 Hil2 B2
      go_wp2_with fail
      refine (him.out _ _ H3.out).mono ?_
      rintro e w4 ⟨rfl, hb4⟩
      have Hil4 := Lib.hid ((Hil3.out.below hb4).up hb4.size)
      have H4 := Lib.hid ((H3.out.below hb4).up hb4.size)
      have B4 := Lib.hid (B3.out.trans (hb4.mono B3.out.size))
      clear hb4 Hil3 B3 H3
      go_wp2_with fail
      refine (hcp.out _ _ Hil4.out).mono ?_
      rintro e w5 ⟨v5, rfl, hown5, hb5⟩
      have H5 := Lib.hid (IL.of_own hown5 rfl Hrng.out (by omega))
      have H45 := Lib.hid ((H4.out.below hb5).up hb5.size)
      have B5 := Lib.hid (B4.out.trans (hb5.mono B4.out.size))
      clear hown5 hb5 Hil4 B4 H4
      go_wp2_with fail
      refine (heq.out _ _ _ H45.out H5.out).mono ?_
      rintro e w6 ⟨rfl, hb6⟩
      have B6 := Lib.hid (B5.out.trans (hb6.mono B5.out.size))
      clear hb6 B5
      go_wp2_with fail
      go_ret
      exact ⟨rfl, B6.out⟩
end Go.Proofs.Ytljmiodkmddllaa
