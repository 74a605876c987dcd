/- Walks: the program's words; valid labels. -/
import Derived.Test.YthnejknjngekiaaDoorNb
set_option linter.unusedVariables false
set_option linter.unusedSimpArgs false
namespace Go.Proofs.YthnejknjngekiaaDoor
open Go.RowKit

theorem str_empty (s : ByteArray) : s.toList.isEmpty = decide (s.size = 0) := by
  rw [ByteArray.toList_eq, Bool.eq_iff_iff, List.isEmpty_iff_length_eq_zero, decide_eq_true_iff]
  simp
set_option maxRecDepth 100000 in
set_option maxHeartbeats 4000000 in
theorem wordOk_any (s : ByteArray) (w : World) (hs : s.size ≤ maxLen) : Calls Tryd.prog 31 #[.string s] w fun e w' => e = .returned (.bool (wordB s)) ∧ w' = w := by
  have HL := Lib.hid (fun v W => letterOk_any v W)
  unfold maxLen at hs
  by_cases h1 : (1 : Int) ≤ (s.size : Int) ∧ (s.size : Int) ≤ 10
  · obtain ⟨g1, g10⟩ := h1
    have g0 : s.toList.isEmpty = false := by rw [str_empty, decide_eq_false_iff_not]; omega
    go_enter Tryd.func31, Tryd.ntmps31
    go_wp2_with fail
    go_loop [13] (fun i => ∃ k : Nat, k ≤ s.size ∧ i = .int .i64 k ∧ letTo s k) (fun i => s.size - (intOf i).toNat)
    case atStart => exact ⟨0, Nat.zero_le _, rfl, fun j hj => by omega⟩
    case round =>
      obtain ⟨k, hk, rfl, hto⟩ := hrel
      have Hto := Lib.hid hto
      clear hto
      by_cases hlt : k < s.size
      · have hv := n_byte_of s k hlt
        have Hk := Lib.hid (fun W => HL.out s[k].toNat W)
        cases hB : letB s[k].toNat with
        | true =>
          rw [hB] at Hk
          have HB := Lib.hid hB
          have Hv := Lib.hid hv
          clear hB hv
          go_wp2_with fail
          refine (Hk.out _).mono ?_
          rintro e w' ⟨rfl, rfl⟩
          go_wp2_with fail
          go_round
          case rel =>
            refine ⟨k + 1, by omega, by go_num, fun j hj => ?_⟩
            by_cases e : j = k
            · subst e; rw [Hv.out]; exact HB.out
            · exact Hto.out j (by omega)
          case measure => simp [intOf]; omega
        | false =>
          rw [hB] at Hk
          have H := Lib.hid (let_bad hlt (by rw [hv]; exact hB))
          clear hB hv
          go_wp2_with fail
          refine (Hk.out _).mono ?_
          rintro e w' ⟨rfl, rfl⟩
          go_wp2_with fail
          go_ret
          exact ⟨by rw [H.out]; rfl, rfl⟩
      · obtain rfl : k = s.size := by omega
        have H := Lib.hid (show wordB s = true from by unfold wordB; rw [letTo_all Hto.out, decide_eq_true (by omega)]; rfl)
        go_wp2_with fail
        go_ret
        exact ⟨by rw [H.out]; rfl, rfl⟩
  · have H := Lib.hid (show wordB s = false from by unfold wordB; rw [decide_eq_false (by omega)]; rfl)
    by_cases g1 : (1 : Int) ≤ (s.size : Int)
    · have g10 : (10 : Int) < (s.size : Int) := by omega
      have g0 : s.toList.isEmpty = false := by rw [str_empty, decide_eq_false_iff_not]; omega
      go_enter Tryd.func31, Tryd.ntmps31
      go_wp2_with fail
      go_ret
      exact ⟨by rw [H.out]; rfl, rfl⟩
    · have g0 : s.toList.isEmpty = true := by rw [str_empty, decide_eq_true_iff]; omega
      go_enter Tryd.func31, Tryd.ntmps31
      go_wp2_with fail
      go_ret
      exact ⟨by rw [H.out]; rfl, rfl⟩

theorem less_le : ∀ x y : List UInt8, (Go.Op.bytesLess x y || x == y) = !Go.Op.bytesLess y x
  | [], [] => rfl
  | [], _ :: _ => rfl
  | _ :: _, [] => rfl
  | a :: x, b :: y => by
    have ih := less_le x y
    simp only [Go.Op.bytesLess]
    by_cases e : a = b
    · subst e
      have hl : ¬ a < a := UInt8.lt_irrefl a
      simpa [hl] using ih
    · have e' : ¬ b = a := fun h => e h.symm
      by_cases h : a < b
      · have h2 : ¬ b < a := by rw [UInt8.lt_iff_toNat_lt] at h ⊢; omega
        simp [h, h2, e, e']
      · have h2 : b < a := by
          rw [UInt8.lt_iff_toNat_lt] at h ⊢
          have : a.toNat ≠ b.toNat := fun h => e (UInt8.toNat_inj.1 h)
          omega
        simp [h, h2, e, e']
def nmAt (xs : List (ByteArray × ByteArray)) (k : Nat) : ByteArray := (xs.getD k (em, em)).1
def vlAt (xs : List (ByteArray × ByteArray)) (k : Nat) : ByteArray := (xs.getD k (em, em)).2
def lAt (xs : List (ByteArray × ByteArray)) (k : Nat) : Bool := wordB (nmAt xs k) && (wordB (vlAt xs k) && (decide (k = 0) || Go.Op.bytesLess (nmAt xs (k - 1)).toList (nmAt xs k).toList))
def lTo (xs : List (ByteArray × ByteArray)) (k : Nat) : Bool := (List.range k).all (lAt xs)
def labOkB (xs : List (ByteArray × ByteArray)) : Bool := decide (1 ≤ xs.length ∧ xs.length ≤ 5) && lTo xs xs.length
theorem lTo_succ (xs : List (ByteArray × ByteArray)) (k : Nat) : lTo xs (k + 1) = (lTo xs k && lAt xs k) := by
  unfold lTo; rw [List.range_succ, List.all_append]; simp
theorem lTo_bad {xs : List (ByteArray × ByteArray)} {k : Nat} (h : lAt xs k = false) (hk : k < xs.length) : labOkB xs = false := by
  have : lTo xs xs.length = false := by
    unfold lTo
    rw [List.all_eq_false]
    exact ⟨k, by simpa using hk, by simp [h]⟩
  unfold labOkB; rw [this]; simp
theorem lTo_at {xs : List (ByteArray × ByteArray)} {k j : Nat} (h : lTo xs k = true) (hj : j < k) : lAt xs j = true := by
  unfold lTo at h
  exact List.all_eq_true.1 h j (by simpa using hj)

set_option maxRecDepth 100000 in
set_option maxHeartbeats 4000000 in
theorem specLabelsOk_any (v : Value) (xs : List (ByteArray × ByteArray)) (w : World) (h : LL w w.heap.size v xs) : Calls Tryd.prog 18 #[v] w (BoolPostL (labOkB xs) w) := by
  obtain ⟨hr, hlen, A, c, rfl, h3⟩ := h
  have HW := Lib.hid (fun s W (hs : s.size ≤ maxLen) => l6Word_any s W hs)
  have Hr := Lib.hid hr
  clear hr
  go_enter Tryd.func18, Tryd.ntmps18
  go_wp2_with fail
  go_loopw [3] (fun i wr => ∃ k : Nat, k ≤ xs.length ∧ i = .int .i64 k ∧ lTo xs k = true ∧ Below w.heap.size w wr) (fun i _ => xs.length - (intOf i).toNat)
  case atStart => exact ⟨0, Nat.zero_le _, rfl, rfl, Below.refl _ _⟩
  case round =>
    obtain ⟨k, hk, rfl, hg, hb⟩ := hrel
    have Hg := Lib.hid hg
    clear hg
    by_cases hlt : k < xs.length
    · rcases h3 with h3 | ⟨b, off, rfl, hbl, hc⟩
      · subst h3; simp at hlt
      have hx0 : wr.cell? ⟨b, off + k * 2, none⟩ = some (.string (nmAt xs k)) := (hb.cell (p := ⟨b, off + k * 2, none⟩) hbl).trans (hc k hlt).1
      have hx1 : wr.cell? ⟨b, off + k * 2 + 1, none⟩ = some (.string (vlAt xs k)) := (hb.cell (p := ⟨b, off + k * 2 + 1, none⟩) hbl).trans (hc k hlt).2
      have Hn := Lib.hid (fun W => HW.out (nmAt xs k) W (Hr.out k).1)
      have Hv := Lib.hid (fun W => HW.out (vlAt xs k) W (Hr.out k).2)
      cases hN : wordB (nmAt xs k) with
      | false =>
        have E := Lib.hid (lTo_bad (xs := xs) (k := k) (by unfold lAt; rw [hN]; rfl) hlt)
        rw [hN] at Hn
        generalize nmAt xs k = nm at *
        generalize vlAt xs k = vl at *
        clear hN hc
        go_wp2_with fail
        go_quiet ((go_at_call 30; first | (with_reducible exact Calls.quiet_of_same (Hn.out _)) | (with_reducible exact Calls.quiet_of_same (Hv.out _))))
        go_wp2_with fail
        go_ret
        exact ⟨by rw [E.out]; rfl, by first | exact l_below_drewN hb _ | exact hb⟩
      | true =>
        rw [hN] at Hn
        cases hV : wordB (vlAt xs k) with
        | false =>
          have E := Lib.hid (lTo_bad (xs := xs) (k := k) (by unfold lAt; rw [hN, hV]; rfl) hlt)
          rw [hV] at Hv
          generalize nmAt xs k = nm at *
          generalize vlAt xs k = vl at *
          clear hN hV hc
          go_wp2_with fail
          go_quiet ((go_at_call 30; first | (with_reducible exact Calls.quiet_of_same (Hn.out _)) | (with_reducible exact Calls.quiet_of_same (Hv.out _))))
          go_wp2_with fail
          go_ret
          exact ⟨by rw [E.out]; rfl, by first | exact l_below_drewN hb _ | exact hb⟩
        | true =>
          rw [hV] at Hv
          by_cases hk0 : k ≤ 0
          · have E := Lib.hid (show lTo xs (k + 1) = true from by rw [lTo_succ, Hg.out]; unfold lAt; rw [hN, hV, decide_eq_true (show k = 0 by omega)]; rfl)
            have hd : decide (0 < k) = false := by simp; omega
            have Hk0 := Lib.hid hk0
            clear hk0
            generalize nmAt xs k = nm at *
            generalize vlAt xs k = vl at *
            clear hN hV hc
            go_wp2_with fail
            go_quiet ((go_at_call 30; first | (with_reducible exact Calls.quiet_of_same (Hn.out _)) | (with_reducible exact Calls.quiet_of_same (Hv.out _))))
            go_wp2_with fail
            go_roundw
            case rel => exact ⟨k + 1, by omega, by go_num, E.out, by first | exact l_below_drewN hb _ | exact hb⟩
            case measure => simp [intOf]; omega
          · have hy : wr.cell? ⟨b, off + (k - 1) * 2, none⟩ = some (.string (nmAt xs (k - 1))) := (hb.cell (p := ⟨b, off + (k - 1) * 2, none⟩) hbl).trans (hc (k - 1) (by omega)).1
            have hd : decide (0 < k) = true := by simp; omega
            have e1 : IntKind.i64.wrap ((k : Int) - 1) = (k : Int) - 1 := IntWalk.i64_in _ (by omega)
            have e2 : (0 : Int) ≤ (k : Int) - 1 := by omega
            have e2' : (1 : Int) ≤ (k : Int) := by omega
            have e3 : ((k : Int) - 1).toNat = k - 1 := by omega
            have e4 : (k : Int) - 1 < (xs.length : Int) := by omega
            cases hL : Go.Op.bytesLess (nmAt xs (k - 1)).toList (nmAt xs k).toList with
            | true =>
              have E := Lib.hid (show lTo xs (k + 1) = true from by rw [lTo_succ, Hg.out]; unfold lAt; rw [hN, hV, hL, Bool.or_true]; rfl)
              generalize nmAt xs k = nm at *
              generalize vlAt xs k = vl at *
              generalize nmAt xs (k - 1) = nm' at *
              clear hN hV hc
              go_wp2_with fail
              go_quiet ((go_at_call 30; first | (with_reducible exact Calls.quiet_of_same (Hn.out _)) | (with_reducible exact Calls.quiet_of_same (Hv.out _))))
              clear e1 e2 e2' e3 e4
              go_wp2_with fail
              go_roundw
              case rel => exact ⟨k + 1, by omega, by go_num, E.out, by first | exact l_below_drewN hb _ | exact hb⟩
              case measure => simp [intOf]; omega
            | false =>
              have E := Lib.hid (lTo_bad (xs := xs) (k := k) (by unfold lAt; rw [hN, hV, hL, decide_eq_false (show ¬ k = 0 by omega)]; rfl) hlt)
              generalize nmAt xs k = nm at *
              generalize vlAt xs k = vl at *
              generalize nmAt xs (k - 1) = nm' at *
              clear hN hV hc
              go_wp2_with fail
              go_quiet ((go_at_call 30; first | (with_reducible exact Calls.quiet_of_same (Hn.out _)) | (with_reducible exact Calls.quiet_of_same (Hv.out _))))
              clear e1 e2 e2' e3 e4
              go_wp2_with fail
              go_ret
              exact ⟨by rw [E.out]; rfl, by first | exact l_below_drewN hb _ | exact hb⟩
    · obtain rfl : k = xs.length := by omega
      by_cases g1 : (1 : Int) ≤ (xs.length : Int) <;> by_cases g5 : (xs.length : Int) ≤ 5 <;> try omega
      all_goals
        first
          | (have H := Lib.hid (show labOkB xs = true from by unfold labOkB; rw [Hg.out, decide_eq_true (by omega)]; rfl))
          | (have H := Lib.hid (show labOkB xs = false from by unfold labOkB; rw [decide_eq_false (by omega)]; rfl))
        first
          | (have d1 := decide_eq_true g1)
          | (have d1 := decide_eq_false g1)
        first
          | (have d5 := decide_eq_true g5)
          | (have d5 := decide_eq_false g5)
        go_wp2_with fail
        go_ret
        exact ⟨by rw [H.out]; rfl, hb⟩
end Go.Proofs.YthnejknjngekiaaDoor
