/- Walks: sameInts. -/
import Derived.Test.YtljmiodkmddllaaIb
set_option linter.unusedVariables false
set_option linter.unusedSimpArgs false
namespace Go.Proofs.Ytljmiodkmddllaa
open Go.RowKit

set_option maxRecDepth 100000 in
set_option maxHeartbeats 1000000 in
theorem sameInts_any (v u : Value) (xs ys : List Int) (w : World) (h : IL w w.heap.size v xs) (h' : IL w w.heap.size u ys) :
    Calls Try.prog 34 #[v, u] w (BoolPost (decide (xs = ys)) w) := by
  obtain ⟨hr, hlen, A, c, rfl, h3⟩ := h
  obtain ⟨hr', hlen', A', c', rfl, h3'⟩ := h'
  by_cases hl : xs.length = ys.length
  · have Hl := Lib.hid hl
    have hne : decide ((xs.length : Int) = (ys.length : Int)) = true := by simp; omega
    have hbne : ((xs.length : Int) != (ys.length : Int)) = false := by simp; omega
    clear hl
    go_enter Try.func34, Try.ntmps34
    go_wp2_with fail
    go_loopw [5] (fun i wr => ∃ k : Nat, k ≤ xs.length ∧ i = .int .i64 k ∧ (∀ j, j < k → xs.getD j 0 = ys.getD j 0) ∧ Below w.heap.size w wr) (fun i _ => xs.length - (intOf i).toNat)
    case atStart => exact ⟨0, Nat.zero_le _, rfl, fun j hj => by omega, Below.refl _ _⟩
    case round =>
      obtain ⟨k, hk, rfl, hag, hb⟩ := hrel
      have Hag := Lib.hid hag
      clear hag
      by_cases hlt : k < xs.length
      · have hlt' : k < ys.length := by have := Hl.out; omega
        rcases h3 with h3 | ⟨b, off, rfl, hbl, hc⟩
        · subst h3; simp at hlt
        rcases h3' with h3' | ⟨b', off', rfl, hbl', hc'⟩
        · subst h3'; simp at hlt'
        have hx : wr.cell? ⟨b, off + k, none⟩ = some (.int .i64 (xs.getD k 0)) := (hb.cell (p := ⟨b, off + k, none⟩) hbl).trans (hc k hlt)
        have hy : wr.cell? ⟨b', off' + k, none⟩ = some (.int .i64 (ys.getD k 0)) := (hb.cell (p := ⟨b', off' + k, none⟩) hbl').trans (hc' k hlt')
        have Hr := Lib.hid hr
        have Hr' := Lib.hid hr'
        by_cases e : xs.getD k 0 = ys.getD k 0
        · have E := Lib.hid e
          rw [← e] at hy
          generalize hX : xs.getD k 0 = x at hx hy
          have HX := Lib.hid hX
          clear hX hc hc' hr hr' e
          go_wp2_with fail
          go_region
          go_wp2_with fail
          go_roundw
          case rel =>
            refine ⟨k + 1, by omega, by go_num, fun j hj => ?_, by first | exact hb.drew | exact hb.drew.drew⟩
            by_cases e : j = k
            · subst e; exact E.out
            · exact Hag.out j (by omega)
          case measure => simp [intOf]; omega
        · have E := Lib.hid (ne_of_get k e)
          generalize hX : xs.getD k 0 = x at hx e
          generalize hY : ys.getD k 0 = y at hy e
          have HX := Lib.hid hX
          have HY := Lib.hid hY
          have hxy : decide (x = y) = false := by simpa using e
          have hxy' : (x != y) = true := by simpa using e
          clear hX hY hc hc' hr hr' e
          go_wp2_with fail
          go_region
          go_wp2_with fail
          go_ret
          exact ⟨by rw [E.out]; rfl, by first | exact hb.drew | exact hb.drew.drew⟩
      · obtain rfl : k = xs.length := by omega
        have e : xs = ys := ints_ext Hl.out (fun j hj => Hag.out j hj)
        have E := Lib.hid (show decide (xs = ys) = true from by simp [e])
        clear e
        go_wp2_with fail
        go_ret
        exact ⟨by rw [E.out]; rfl, hb⟩
  · have E := Lib.hid (ne_of_len hl)
    have hbne : ((xs.length : Int) != (ys.length : Int)) = true := by simp; omega
    have hbne2 : decide ((xs.length : Int) = (ys.length : Int)) = false := by simp; omega
    clear hl
    go_enter Try.func34, Try.ntmps34
    go_wp2_with fail
    go_ret
    exact ⟨by rw [E.out]; rfl, Below.refl _ _⟩

end Go.Proofs.Ytljmiodkmddllaa
