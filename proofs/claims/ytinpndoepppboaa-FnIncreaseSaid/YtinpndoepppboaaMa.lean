/- Walks: what a counter has increased by. -/
import Derived.Test.YtinpndoepppboaaYl
set_option linter.unusedVariables false
set_option linter.unusedSimpArgs false
namespace Go.Proofs.Ytinpndoepppboaa
open Go.RowKit

def cntD (a b : Int) : Int := if a ≤ b then b - a else if 0 ≤ b then b else 0
def incN (xs : List (Int × Int)) : Nat → Int
  | 0 => 0
  | k + 1 => incN xs k + (if k = 0 then 0 else cntD (xs.getD (k - 1) (0, 0)).2 (xs.getD k (0, 0)).2)
def incM (xs : List (Int × Int)) : Int := if ptsSmB xs = true then incN xs xs.length else -1
theorem smB_bd {v : Int} (h : smB v = true) : -1000000000 ≤ v ∧ v ≤ 1000000000 := of_decide_eq_true h
theorem cntD_le {a b : Int} (ha : smB a = true) (hb : smB b = true) : 0 ≤ cntD a b ∧ cntD a b ≤ 2000000000 := by
  have h1 := smB_bd ha
  have h2 := smB_bd hb
  unfold cntD; split
  · omega
  · split <;> omega
theorem incN_le {xs : List (Int × Int)} {n : Nat} (h : ∀ j, j < xs.length → smB (xs.getD j (0, 0)).2 = true) (hn : n ≤ xs.length) : 0 ≤ incN xs n ∧ incN xs n ≤ 2000000000 * (n : Int) := by
  induction n with
  | zero => exact ⟨Int.le_refl _, by simp [incN]⟩
  | succ k ih =>
    have h1 := ih (by omega)
    unfold incN
    split
    · omega
    · have := cntD_le (h (k - 1) (by omega)) (h k (by omega))
      omega
theorem ptsSmB_at {xs : List (Int × Int)} (h : ptsSmB xs = true) (j : Nat) (hj : j < xs.length) : smB (xs.getD j (0, 0)).2 = true := by
  unfold ptsSmB at h
  rw [Bool.and_eq_true] at h
  have h1 := List.all_eq_true.1 h.1 _ (List.getElem_mem hj)
  rw [List.getD_eq_getElem?_getD, List.getElem?_eq_getElem hj]
  exact h1

set_option maxRecDepth 100000 in
set_option maxHeartbeats 1000000 in
theorem counted_any (a b : Int) (w : World) (ha : smB a = true) (hb : smB b = true) :
    Calls Try.prog 62 #[.int .i64 a, .int .i64 b] w fun e w' => e = .returned (.int .i64 (cntD a b)) ∧ w' = w := by
  have h1 := smB_bd ha
  have h2 := smB_bd hb
  unfold cntD
  by_cases g : a ≤ b
  · rw [if_pos g]
    have e1 : IntKind.i64.wrap (b - a) = b - a := IntWalk.i64_in _ (by omega)
    go_enter Try.func62, Try.ntmps62
    go_wp2
    go_ret
    exact ⟨rfl, rfl⟩
  · rw [if_neg g]
    by_cases g2 : 0 ≤ b
    · rw [if_pos g2]
      go_enter Try.func62, Try.ntmps62
      go_wp2
      go_ret
      exact ⟨by first | rfl | (congr; omega), rfl⟩
    · rw [if_neg g2]
      go_enter Try.func62, Try.ntmps62
      go_wp2
      go_ret
      exact ⟨by first | rfl | (congr; omega), rfl⟩

set_option maxRecDepth 100000 in
set_option maxHeartbeats 2000000 in
theorem implIncrease_any (v : Value) (xs : List (Int × Int)) (w : World) (h : PL w w.heap.size v xs) :
    Calls Try.prog 18 #[v] w fun e w' => e = .returned (.int .i64 (incM xs)) ∧ Below w.heap.size w w' := by
  have HP := Lib.hid h
  have hS := Lib.hid (fun W h => smallPoints_any v xs W h)
  obtain ⟨hr, hlen, A, c, rfl, h3⟩ := h
  clear hr
  unfold incM
  cases hok : ptsSmB xs with
  | false =>
    rw [hok] at hS
    clear hok
    go_enter Try.func18, Try.ntmps18
    go_wp2_with fail
    refine (hS.out _ HP.out).mono ?_
    rintro e w1 ⟨rfl, hb1⟩
    go_wp2_with fail
    go_ret
    exact ⟨rfl, hb1⟩
  | true =>
    have HAT := Lib.hid (fun j hj => ptsSmB_at hok j hj)
    have HLE := Lib.hid (fun (n : Nat) (hn : n ≤ xs.length) => incN_le (n := n) (ptsSmB_at hok) hn)
    have HC := Lib.hid (fun a b W ha hb => counted_any a b W ha hb)
    rw [hok] at hS
    clear hok
    rw [if_pos rfl]
    go_enter Try.func18, Try.ntmps18
    go_wp2_with fail
    refine (hS.out _ HP.out).mono ?_
    rintro e w1 ⟨rfl, hb1⟩
    go_wp2_with fail
    go_loopw [3, 4] (fun s i wr => ∃ k : Nat, 1 ≤ k ∧ (k ≤ xs.length ∨ k = 1) ∧ i = .int .i64 k ∧ s = .int .i64 (incN xs k) ∧ Below w.heap.size w wr) (fun _ i _ => xs.length - (intOf i).toNat)
    case atStart => exact ⟨1, by omega, .inr rfl, rfl, by simp [incN], hb1⟩
    case round =>
      obtain ⟨k, hk0, hk, rfl, rfl, hb⟩ := hrel
      by_cases hlt : k < xs.length
      · rcases h3 with h3 | ⟨b, off, rfl, hbl, hc⟩
        · subst h3; simp at hlt
        have hx1 : wr.cell? ⟨b, off + k * 2 + 1, none⟩ = some (.int .i64 (xs.getD k (0, 0)).2) := (hb.cell (p := ⟨b, off + k * 2 + 1, none⟩) hbl).trans (hc k hlt).2
        have hy1 : wr.cell? ⟨b, off + (k - 1) * 2 + 1, none⟩ = some (.int .i64 (xs.getD (k - 1) (0, 0)).2) := (hb.cell (p := ⟨b, off + (k - 1) * 2 + 1, none⟩) hbl).trans (hc (k - 1) (by omega)).2
        clear hc
        have ha := HAT.out (k - 1) (by omega)
        have hbb := HAT.out k hlt
        have hl1 := HLE.out k (by omega)
        have hl2 := HLE.out (k + 1) (by omega)
        have HS : Hid (incN xs (k + 1) = incN xs k + cntD (xs.getD (k - 1) (0, 0)).2 (xs.getD k (0, 0)).2) := Lib.hid (by
          conv => lhs; unfold incN
          rw [if_neg (by omega)])
        have hcd := cntD_le ha hbb
        generalize (xs.getD (k - 1) (0, 0)).2 = x at *
        generalize (xs.getD k (0, 0)).2 = y at *
        have HCx := Lib.hid (fun W => HC.out x y W ha hbb)
        clear ha hbb hl2
        obtain ⟨m, hm⟩ : ∃ m, m = incN xs k := ⟨_, rfl⟩
        rw [← hm] at hl1 HS ⊢
        clear hm
        obtain ⟨d, hd⟩ : ∃ d, d = cntD x y := ⟨_, rfl⟩
        rw [← hd] at hcd HS HCx
        clear hd
        have e1 : IntKind.i64.wrap ((k : Int) - 1) = (k : Int) - 1 := IntWalk.i64_in _ (by omega)
        have e2 : IntKind.i64.wrap (m + d) = m + d := IntWalk.i64_in _ (by omega)
        have e3 : ((k : Int) - 1).toNat = k - 1 := by omega
        have e4 : (k : Int) - 1 < (xs.length : Int) := by omega
        have e5 : (0 : Int) ≤ (k : Int) - 1 := by omega
        have e7 : (1 : Int) ≤ (k : Int) := by omega
        have e6 : wrap64 (m + d) = m + d := by unfold wrap64; omega
        go_wp2_with fail
        go_quiet ((go_at_call 62; exact Calls.quiet_of_same (HCx.out _)))
        clear e1 e3 e4 e5
        go_wp2_with fail
        go_roundw
        case rel => exact ⟨k + 1, by omega, by omega, by go_num, by rw [HS.out], by first | exact below_drewN_u hb _ | exact hb⟩
        case measure => simp [intOf]; omega
      · have E := Lib.hid (show incN xs k = incN xs xs.length by
          by_cases e : k = xs.length
          · rw [e]
          · have e1 : k = 1 := by omega
            have e2 : xs.length = 0 := by omega
            rw [e1, e2]; simp [incN])
        rw [E.out]
        go_wp2_with fail
        go_ret
        exact ⟨rfl, hb⟩

set_option maxRecDepth 100000 in
set_option maxHeartbeats 2000000 in
theorem specIncrease_any (v : Value) (xs : List (Int × Int)) (w : World) (h : PL w w.heap.size v xs) :
    Calls Try.prog 16 #[v] w fun e w' => e = .returned (.int .i64 (incM xs)) ∧ Below w.heap.size w w' := by
  have HP := Lib.hid h
  have hS := Lib.hid (fun W h => specL7Points_any v xs W h)
  obtain ⟨hr, hlen, A, c, rfl, h3⟩ := h
  clear hr
  unfold incM
  cases hok : ptsSmB xs with
  | false =>
    rw [hok] at hS
    clear hok
    go_enter Try.func16, Try.ntmps16
    go_wp2_with fail
    refine (hS.out _ HP.out).mono ?_
    rintro e w1 ⟨rfl, hb1⟩
    go_wp2_with fail
    go_ret
    exact ⟨rfl, hb1⟩
  | true =>
    have HAT := Lib.hid (fun j hj => ptsSmB_at hok j hj)
    have HLE := Lib.hid (fun (n : Nat) (hn : n ≤ xs.length) => incN_le (n := n) (ptsSmB_at hok) hn)
    rw [hok] at hS
    clear hok
    rw [if_pos rfl]
    go_enter Try.func16, Try.ntmps16
    go_wp2_with fail
    refine (hS.out _ HP.out).mono ?_
    rintro e w1 ⟨rfl, hb1⟩
    go_wp2_with fail
    go_loopw [3, 4] (fun s i wr => ∃ k : Nat, 1 ≤ k ∧ (k ≤ xs.length ∨ k = 1) ∧ i = .int .i64 k ∧ s = .int .i64 (incN xs k) ∧ ∃ q, wr = w1.drewN q) (fun _ i _ => xs.length - (intOf i).toNat)
    case atStart => exact ⟨1, by omega, .inr rfl, rfl, by simp [incN], 0, rfl⟩
    case round =>
      obtain ⟨k, hk0, hk, rfl, rfl, q, rfl⟩ := hrel
      by_cases hlt : k < xs.length
      · rcases h3 with h3 | ⟨b, off, rfl, hbl, hc⟩
        · subst h3; simp at hlt
        have hx1 : w1.cell? ⟨b, off + k * 2 + 1, none⟩ = some (.int .i64 (xs.getD k (0, 0)).2) := (hb1.cell (p := ⟨b, off + k * 2 + 1, none⟩) hbl).trans (hc k hlt).2
        have hy1 : w1.cell? ⟨b, off + (k - 1) * 2 + 1, none⟩ = some (.int .i64 (xs.getD (k - 1) (0, 0)).2) := (hb1.cell (p := ⟨b, off + (k - 1) * 2 + 1, none⟩) hbl).trans (hc (k - 1) (by omega)).2
        clear hc
        have ha := smB_bd (HAT.out (k - 1) (by omega))
        have hb := smB_bd (HAT.out k hlt)
        have hl1 := HLE.out k (by omega)
        have HS : Hid (incN xs (k + 1) = incN xs k + cntD (xs.getD (k - 1) (0, 0)).2 (xs.getD k (0, 0)).2) := Lib.hid (by
          conv => lhs; unfold incN
          rw [if_neg (by omega)])
        generalize (xs.getD (k - 1) (0, 0)).2 = x at *
        generalize (xs.getD k (0, 0)).2 = y at *
        obtain ⟨m, hm⟩ : ∃ m, m = incN xs k := ⟨_, rfl⟩
        rw [← hm] at hl1 HS ⊢
        clear hm
        have e1 : IntKind.i64.wrap ((k : Int) - 1) = (k : Int) - 1 := IntWalk.i64_in _ (by omega)
        have e3 : ((k : Int) - 1).toNat = k - 1 := by omega
        have e4 : (k : Int) - 1 < (xs.length : Int) := by omega
        have e5 : (0 : Int) ≤ (k : Int) - 1 := by omega
        have e7 : (1 : Int) ≤ (k : Int) := by omega
        by_cases g : x ≤ y
        · have E : Hid (incN xs (k + 1) = m + y - x) := Lib.hid (by rw [HS.out]; unfold cntD; rw [if_pos g]; omega)
          have f1 : IntKind.i64.wrap (m + y) = m + y := IntWalk.i64_in _ (by omega)
          have f2 : IntKind.i64.wrap (m + y - x) = m + y - x := IntWalk.i64_in _ (by omega)
          go_wp2_with fail
          go_quiet (fail)
          go_wp2_with fail
          go_quiet (fail)
          clear e1 e3 e4 e5
          go_wp2_with fail
          go_roundw
          case rel => exact ⟨k + 1, by omega, by omega, by go_num, by rw [E.out], _, rfl⟩
          case measure => simp [intOf]; omega
        · by_cases g2 : 0 ≤ y
          · have E : Hid (incN xs (k + 1) = m + y) := Lib.hid (by rw [HS.out]; unfold cntD; rw [if_neg g, if_pos g2])
            go_wp2_with fail
            go_quiet (fail)
            go_wp2_with fail
            go_roundw
            case rel => exact ⟨k + 1, by omega, by omega, by go_num, by rw [E.out]; congr; split <;> omega, _, rfl⟩
            case measure => simp [intOf]; omega
          · have E : Hid (incN xs (k + 1) = m) := Lib.hid (by rw [HS.out]; unfold cntD; rw [if_neg g, if_neg g2]; omega)
            go_wp2_with fail
            go_quiet (fail)
            go_wp2_with fail
            go_roundw
            case rel => exact ⟨k + 1, by omega, by omega, by go_num, by rw [E.out]; congr; split <;> omega, _, rfl⟩
            case measure => simp [intOf]; omega
      · have E := Lib.hid (show incN xs k = incN xs xs.length by
          by_cases e : k = xs.length
          · rw [e]
          · have e1 : k = 1 := by omega
            have e2 : xs.length = 0 := by omega
            rw [e1, e2]; simp [incN])
        rw [E.out]
        go_wp2_with fail
        go_ret
        exact ⟨rfl, below_drewN_u hb1 _⟩
end Go.Proofs.Ytinpndoepppboaa
