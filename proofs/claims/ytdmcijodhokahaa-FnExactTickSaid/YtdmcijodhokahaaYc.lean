/- Walks: the program's check of rolls. -/
import Derived.Test.YtdmcijodhokahaaYb
set_option linter.unusedVariables false
set_option linter.unusedSimpArgs false
namespace Go.Proofs.Ytdmcijodhokahaa
open Go.RowKit

set_option maxRecDepth 100000 in
set_option maxHeartbeats 4000000 in
theorem implRollsOk_any (v : Value) (xs : List R6) (W : Int) (w : World) (h : RL w w.heap.size v xs) :
    Calls Try.prog 96 #[v, .int .i64 W] w (BoolPost (rollsOkB xs W) w) := by
  obtain ⟨hr, hlen, A, c, rfl, h3⟩ := h
  clear hr
  have HW := Lib.hid (fun w => widthOk_any W w)
  by_cases hw : 1 ≤ W ∧ W ≤ 1000000
  case neg =>
    have E := Lib.hid (show rollsOkB xs W = false from by unfold rollsOkB wdB; rw [vIn_false hw]; simp)
    rw [show wdB W = false from vIn_false hw] at HW
    clear hw
    go_enter Try.func96, Try.ntmps96
    go_wp2_with (go_at_call 93; refine (HW.out _).mono ?_; rintro e w' ⟨rfl, rfl⟩)
    go_ret
    exact ⟨by rw [E.out]; rfl, Below.refl _ _⟩
  rw [show wdB W = true from vIn_true hw.1 hw.2] at HW
  by_cases h400 : xs.length ≤ 400
  case neg =>
    have E := Lib.hid (show rollsOkB xs W = false from by unfold rollsOkB; rw [decide_eq_false h400]; simp)
    have hd : decide (400 < xs.length) = true := by simp; omega
    go_enter Try.func96, Try.ntmps96
    go_wp2_with (go_at_call 93; refine (HW.out _).mono ?_; rintro e w' ⟨rfl, rfl⟩)
    go_ret
    exact ⟨by rw [E.out]; rfl, Below.refl _ _⟩
  have hd : decide (400 < xs.length) = false := by simp; omega
  have EE := Lib.hid (show gdToR xs W xs.length = true → rollsOkB xs W = true from fun h => by unfold rollsOkB wdB; rw [vIn_true hw.1 hw.2, decide_eq_true h400, h]; rfl)
  have hw0 : ¬ W = 0 := by omega
  have hwz : (W == 0) = false := by simpa using hw0
  obtain ⟨hw1, hw2⟩ := hw
  have HV := Lib.hid (fun t c s mn mx la W => valuesOk_any t c s mn mx la W)
  go_enter Try.func96, Try.ntmps96
  go_wp2_with (go_at_call 93; refine (HW.out _).mono ?_; rintro e w' ⟨rfl, rfl⟩)
  go_loopw [5, 18] (fun p i wr => ∃ (k : Nat) (y : Int), k ≤ xs.length ∧ i = .int .i64 k ∧ p = .int .i64 y ∧ -1 ≤ y ∧ Hid (y = if k = 0 then -1 else (xs.getD (k - 1) z6).1) ∧ gdToR xs W k = true ∧ Below w.heap.size w wr) (fun _ i _ => xs.length - (intOf i).toNat)
  case atStart => exact ⟨0, -1, Nat.zero_le _, rfl, rfl, by omega, rfl, rfl, Below.refl _ _⟩
  case round =>
    obtain ⟨k, y, hk, rfl, rfl, hy1, HY, hg, hb⟩ := hrel
    have Hg := Lib.hid hg
    clear hg
    have hsz := hb.size
    by_cases hlt : k < xs.length
    · rcases h3 with h3 | ⟨b, off, rfl, hbl, hc⟩
      · subst h3; simp at hlt
      have hx0 : wr.cell? ⟨b, off + k * 6, none⟩ = some (.int .i64 (xs.getD k z6).1) := (hb.cell (p := ⟨b, off + k * 6, none⟩) hbl).trans (hc k hlt).1
      have hx1 : wr.cell? ⟨b, off + k * 6 + 1, none⟩ = some (.int .i64 (xs.getD k z6).2.1) := (hb.cell (p := ⟨b, off + k * 6 + 1, none⟩) hbl).trans (hc k hlt).2.1
      have hx2 : wr.cell? ⟨b, off + k * 6 + 2, none⟩ = some (.int .i64 (xs.getD k z6).2.2.1) := (hb.cell (p := ⟨b, off + k * 6 + 2, none⟩) hbl).trans (hc k hlt).2.2.1
      have hx3 : wr.cell? ⟨b, off + k * 6 + 3, none⟩ = some (.int .i64 (xs.getD k z6).2.2.2.1) := (hb.cell (p := ⟨b, off + k * 6 + 3, none⟩) hbl).trans (hc k hlt).2.2.2.1
      have hx4 : wr.cell? ⟨b, off + k * 6 + 4, none⟩ = some (.int .i64 (xs.getD k z6).2.2.2.2.1) := (hb.cell (p := ⟨b, off + k * 6 + 4, none⟩) hbl).trans (hc k hlt).2.2.2.2.1
      have hx5 : wr.cell? ⟨b, off + k * 6 + 5, none⟩ = some (.int .i64 (xs.getD k z6).2.2.2.2.2) := (hb.cell (p := ⟨b, off + k * 6 + 5, none⟩) hbl).trans (hc k hlt).2.2.2.2.2
      have G1 := Lib.hid (fun h => rollsOkB_bad (gdR_badT (l := xs) (W := W) (k := k) h) hlt)
      have G2 := Lib.hid (fun h => rollsOkB_bad (gdR_badM (l := xs) (W := W) (k := k) h) hlt)
      have G3 := Lib.hid (fun hk h => rollsOkB_bad (gdR_badL (l := xs) (W := W) (k := k) hk h) hlt)
      have G4 := Lib.hid (fun h => rollsOkB_bad (gdR_badV (l := xs) (W := W) (k := k) h) hlt)
      have G5 := Lib.hid (gdR_ok (l := xs) (W := W) (k := k))
      have HT := Lib.hid (rfl : (xs.getD k z6).1 = (xs.getD k z6).1)
      obtain ⟨t, ht⟩ : ∃ t, t = (xs.getD k z6).1 := ⟨_, rfl⟩
      rw [← ht] at hx0 G1 G2 G3 G5
      have Ht := Lib.hid ht
      clear ht hc HT
      generalize (xs.getD k z6).2.1 = c at *
      generalize (xs.getD k z6).2.2.1 = s at *
      generalize (xs.getD k z6).2.2.2.1 = mn at *
      generalize (xs.getD k z6).2.2.2.2.1 = mx at *
      generalize (xs.getD k z6).2.2.2.2.2 = la at *
      by_cases c1 : t ≤ y
      · have E := Lib.hid (show rollsOkB xs W = false from by
          have hy := HY.out
          by_cases hk0 : k = 0
          · rw [if_pos hk0] at hy; exact G1.out (by omega)
          · rw [if_neg hk0] at hy; exact G3.out hk0 (by omega))
        go_wp2_with fail
        go_ret
        exact ⟨by rw [E.out]; rfl, by
          first | exact hb | exact hb.alloc hsz _⟩
      by_cases c2 : 1000000000000 < t
      · have E := Lib.hid (G1.out (by omega))
        have c1' : decide (t ≤ y) = false := decide_eq_false c1
        have c2' : decide (1000000000000 < t) = true := decide_eq_true c2
        go_wp2_with fail
        go_ret
        exact ⟨by rw [E.out]; rfl, by
          first | exact hb | exact hb.alloc hsz _⟩
      have c1' : decide (t ≤ y) = false := decide_eq_false c1
      have c2' : decide (1000000000000 < t) = false := decide_eq_false c2
      by_cases c3 : t % W = 0
      case neg =>
        have E := Lib.hid (G2.out c3)
        have c3' : (t % W != 0) = true := by simpa using c3
        have c3'' : decide (t % W = 0) = false := decide_eq_false c3
        go_wp2_with fail
        go_ret
        exact ⟨by rw [E.out]; rfl, by
          first | exact hb | exact hb.alloc hsz _⟩
      have HVk := Lib.hid (fun w => HV.out t c s mn mx la w)
      cases hV : okVB c s mn mx la with
      | false =>
        have E := Lib.hid (G4.out hV)
        rw [hV] at HVk
        clear hV
        go_wp2_with fail
        refine (HVk.out _).mono ?_
        rintro e w5 ⟨rfl, hb5⟩
        have hb6 := (hb.alloc hsz _).trans (hb5.mono (by simp; omega))
        clear hb5
        go_wp2_with fail
        go_ret
        exact ⟨by rw [E.out]; rfl, hb6⟩
      | true =>
        have G := Lib.hid (show gdToR xs W (k + 1) = true from by
          rw [gdToR_succ, Hg.out]
          have hy := HY.out
          refine G5.out ?_ c3 hV ?_
          · by_cases hk0 : k = 0
            · rw [if_pos hk0] at hy; omega
            · rw [if_neg hk0] at hy; omega
          · by_cases hk0 : k = 0
            · exact .inl hk0
            · rw [if_neg hk0] at hy; right; omega)
        rw [hV] at HVk
        clear hV
        go_wp2_with fail
        refine (HVk.out _).mono ?_
        rintro e w5 ⟨rfl, hb5⟩
        have hx5 : w5.cell? ⟨wr.heap.size, 0, none⟩ = some (.int .i64 t) := (hb5.cell (p := ⟨wr.heap.size, 0, none⟩) (by simp)).trans (by go_simp)
        have hb6 := Lib.hid ((hb.alloc hsz _).trans (hb5.mono (by simp; omega)))
        clear hb5
        go_wp2_with fail
        go_roundw
        case rel => exact ⟨k + 1, t, by omega, by go_num, rfl, by omega, (show t = if k + 1 = 0 then -1 else (xs.getD (k + 1 - 1) z6).1 from by rw [if_neg (by omega)]; exact Ht.out), G.out, hb6.out⟩
        case measure => simp [intOf]; omega
    · obtain rfl : k = xs.length := by omega
      go_wp2_with fail
      go_ret
      exact ⟨by rw [EE.out Hg.out]; rfl, hb⟩

end Go.Proofs.Ytdmcijodhokahaa
