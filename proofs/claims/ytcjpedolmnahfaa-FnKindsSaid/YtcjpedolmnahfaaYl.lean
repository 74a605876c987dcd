/- Walks: points whose values are small: both checks. -/
import Derived.Test.YtcjpedolmnahfaaYh
set_option linter.unusedVariables false
set_option linter.unusedSimpArgs false
namespace Go.Proofs.Ytcjpedolmnahfaa
open Go.RowKit

theorem ptsSmB_bad {xs : List (Int × Int)} {k : Nat} (hk : k < xs.length) (h : smB (xs.getD k (0, 0)).2 = false) : ptsSmB xs = false := by
  unfold ptsSmB
  have : xs.all (fun p => smB p.2) = false := by
    rw [List.all_eq_false]
    refine ⟨xs[k], List.getElem_mem hk, ?_⟩
    rw [List.getD_eq_getElem?_getD, List.getElem?_eq_getElem hk] at h
    simpa using h
  rw [this]; rfl
theorem ptsSmB_ok {xs : List (Int × Int)} (h : ∀ j, j < xs.length → smB (xs.getD j (0, 0)).2 = true) : ptsSmB xs = ptsOkB xs := by
  unfold ptsSmB
  have : xs.all (fun p => smB p.2) = true := by
    rw [List.all_eq_true]
    intro p hp
    obtain ⟨i, hi, rfl⟩ := List.getElem_of_mem hp
    have := h i hi
    rw [List.getD_eq_getElem?_getD, List.getElem?_eq_getElem hi] at this
    exact this
  rw [this]; rfl

set_option maxRecDepth 100000 in
set_option maxHeartbeats 2000000 in
theorem specL7Points_any (v : Value) (xs : List (Int × Int)) (w : World) (h : PL w w.heap.size v xs) :
    Calls Try.prog 62 #[v] w (BoolPost (ptsSmB xs) w) := by
  have HP := Lib.hid h
  obtain ⟨hr, hlen, A, c, rfl, h3⟩ := h
  clear hr
  have hV := Lib.hid (fun v W => l7Val_any v W)
  have hS := Lib.hid (fun W h => specPointsOk_any (.slice A xs.length c) xs W h)
  go_enter Try.func62, Try.ntmps62
  go_wp2_with fail
  go_loopw [3] (fun i wr => ∃ k : Nat, k ≤ xs.length ∧ i = .int .i64 k ∧ Hid (∀ j, j < k → smB (xs.getD j (0, 0)).2 = true) ∧ wr = w) (fun i _ => xs.length - (intOf i).toNat)
  case atStart => exact ⟨0, Nat.zero_le _, rfl, Lib.hid (fun j hj => by omega), rfl⟩
  case round =>
    obtain ⟨k, hk, rfl, HG, rfl⟩ := hrel
    by_cases hlt : k < xs.length
    · rcases h3 with h3 | ⟨b, off, rfl, hbl, hc⟩
      · subst h3; simp at hlt
      have hx1 := (hc k hlt).2
      clear hc
      have HB := Lib.hid (fun h => ptsSmB_bad (xs := xs) hlt h)
      generalize hy : (xs.getD k (0, 0)).2 = y at *
      have HY := Lib.hid hy
      have hVy := Lib.hid (fun W => hV.out y W)
      clear hy
      cases hs : smB y with
      | false =>
        have E := Lib.hid (HB.out hs)
        rw [hs] at hVy
        clear hs
        go_wp2_with (go_at_call 74; refine (hVy.out _).mono ?_; rintro e w' ⟨rfl, rfl⟩)
        go_ret
        exact ⟨by rw [E.out]; rfl, Below.refl _ _⟩
      | true =>
        have HS := Lib.hid hs
        rw [hs] at hVy
        clear hs
        go_wp2_with (go_at_call 74; refine (hVy.out _).mono ?_; rintro e w' ⟨rfl, rfl⟩)
        go_roundw
        case rel =>
          refine ⟨k + 1, by omega, by go_num, Lib.hid (fun j hj => ?_), by first | rfl | trivial⟩
          by_cases e : j = k
          · rw [e, HY.out]; exact HS.out
          · exact HG.out j (by omega)
        case measure => simp [intOf]; omega
    · obtain rfl : k = xs.length := by omega
      have E := Lib.hid (ptsSmB_ok HG.out)
      go_wp2_with fail
      refine (hS.out _ HP.out).mono ?_
      rintro e w1 ⟨rfl, hb1⟩
      go_wp2_with fail
      go_ret
      exact ⟨by rw [E.out]; rfl, hb1⟩

set_option maxRecDepth 100000 in
set_option maxHeartbeats 2000000 in
theorem smallPoints_any (v : Value) (xs : List (Int × Int)) (w : World) (h : PL w w.heap.size v xs) :
    Calls Try.prog 67 #[v] w (BoolPost (ptsSmB xs) w) := by
  have HP := Lib.hid h
  obtain ⟨hr, hlen, A, c, rfl, h3⟩ := h
  clear hr
  have hV := Lib.hid (fun v W => isSmall_any v W)
  have hS := Lib.hid (fun W h => implPointsOk_any (.slice A xs.length c) xs W h)
  go_enter Try.func67, Try.ntmps67
  go_wp2_with fail
  go_loopw [7] (fun i wr => ∃ k : Nat, k ≤ xs.length ∧ i = .int .i64 k ∧ Hid (∀ j, j < k → smB (xs.getD j (0, 0)).2 = true) ∧ Below w.heap.size w wr) (fun i _ => xs.length - (intOf i).toNat)
  case atStart => exact ⟨0, Nat.zero_le _, rfl, Lib.hid (fun j hj => by omega), Below.refl _ _⟩
  case round =>
    obtain ⟨k, hk, rfl, HG, hb⟩ := hrel
    have hsz := hb.size
    by_cases hlt : k < xs.length
    · rcases h3 with h3 | ⟨b, off, rfl, hbl, hc⟩
      · subst h3; simp at hlt
      have hx0 : wr.cell? ⟨b, off + k * 2, none⟩ = some (.int .i64 (xs.getD k (0, 0)).1) := (hb.cell (p := ⟨b, off + k * 2, none⟩) hbl).trans (hc k hlt).1
      have hx1 : wr.cell? ⟨b, off + k * 2 + 1, none⟩ = some (.int .i64 (xs.getD k (0, 0)).2) := (hb.cell (p := ⟨b, off + k * 2 + 1, none⟩) hbl).trans (hc k hlt).2
      clear hc
      have HB := Lib.hid (fun h => ptsSmB_bad (xs := xs) hlt h)
      generalize (xs.getD k (0, 0)).1 = x at *
      generalize hy : (xs.getD k (0, 0)).2 = y at *
      have HY := Lib.hid hy
      have hVy := Lib.hid (fun W => hV.out y W)
      clear hy
      cases hs : smB y with
      | false =>
        have E := Lib.hid (HB.out hs)
        rw [hs] at hVy
        clear hs
        go_wp2_with (go_at_call 71; refine (hVy.out _).mono ?_; rintro e w' ⟨rfl, rfl⟩)
        go_ret
        exact ⟨by rw [E.out]; rfl, hb.alloc hsz _⟩
      | true =>
        have HS := Lib.hid hs
        rw [hs] at hVy
        clear hs
        go_wp2_with (go_at_call 71; refine (hVy.out _).mono ?_; rintro e w' ⟨rfl, rfl⟩)
        go_roundw
        case rel =>
          refine ⟨k + 1, by omega, by go_num, Lib.hid (fun j hj => ?_), hb.alloc hsz _⟩
          by_cases e : j = k
          · rw [e, HY.out]; exact HS.out
          · exact HG.out j (by omega)
        case measure => simp [intOf]; omega
    · obtain rfl : k = xs.length := by omega
      have E := Lib.hid (ptsSmB_ok HG.out)
      have HB := Lib.hid hb
      clear hb
      go_wp2_with fail
      refine (hS.out _ ((HP.out.below HB.out).up hsz)).mono ?_
      rintro e w1 ⟨rfl, hb1⟩
      go_wp2_with fail
      go_ret
      exact ⟨by rw [E.out]; rfl, HB.out.trans (hb1.mono hsz)⟩
end Go.Proofs.Ytcjpedolmnahfaa
