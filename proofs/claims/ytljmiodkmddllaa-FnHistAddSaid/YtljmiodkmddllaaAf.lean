/- Walks: marks of numbers from any start. -/
import Derived.Test.YtljmiodkmddllaaIb
set_option linter.unusedVariables false
set_option linter.unusedSimpArgs false
namespace Go.Proofs.Ytljmiodkmddllaa
open Go.RowKit

def marksK (K : Int) (n : Nat) : List Int := (List.range n).map fun j : Nat => K + (j : Int)
theorem marksK_length (K : Int) (n : Nat) : (marksK K n).length = n := by simp [marksK]
theorem marksK_getD (K : Int) (n j : Nat) (h : j < n) : (marksK K n).getD j 0 = K + j := by
  simp [marksK, List.getD_eq_getElem?_getD, h]
theorem marksK_rng (K : Int) (n : Nat) (hK : 0 ≤ K) (hK2 : K ≤ 1000000000000) (h : n ≤ 1048576) (j : Nat) : Rng ((marksK K n).getD j 0) := by
  by_cases hj : j < n
  · rw [marksK_getD _ _ _ hj]; exact ⟨by omega, by omega⟩
  · rw [List.getD_eq_getElem?_getD, List.getElem?_eq_none (by rw [marksK_length]; omega)]; exact ⟨by decide, by decide⟩
def MarkPostK (base : Nat) (v : Value) (n : Nat) (K : Int) (w : World) (e : Ending) (w' : World) : Prop :=
  e = .returned (.int .i64 (K + (n : Int))) ∧ w'.ownsRow base 2 1 v n (ints (marksK K n)) ∧ Below base w w' ∧ w.grownBy w' v.ownBlock

set_option maxRecDepth 100000 in
set_option maxHeartbeats 1000000 in
theorem markIntK_any (base : Nat) (v : Value) (K : Int) (xs : List Int) (w : World) (hK : 0 ≤ K) (hK2 : K ≤ 1000000000000) (hl : xs.length ≤ 1048576) (h : w.ownsRow base 2 1 v xs.length (ints xs)) :
    Calls Try.prog 19 #[v, .int .i64 K] w (MarkPostK base v xs.length K w) := by
  obtain ⟨n, hn⟩ : ∃ n, n = xs.length := ⟨_, rfl⟩
  rw [← hn] at h hl ⊢
  have Hn := Lib.hid hn
  clear hn
  rcases h.2 with ⟨rfl, h0⟩ | ⟨g, cap, cur, rfl, hb, hg, _⟩
  · subst h0
    go_enter Try.func19, Try.ntmps19
    go_wp2_with fail
    refine wp_loop_rounds 1 ?_
    rw [rounds_succ]
    go_wp2_with fail
    go_ret
    exact ⟨by simp, World.ownsRow_nil _ _ _ _, Below.refl _ _, World.grownBy.refl _ _⟩
  · clear hg
    go_enter Try.func19, Try.ntmps19
    go_wp2_with fail
    go_loopw [5, 1] (fun i q wr => ∃ (k : Nat) (l : List Int), k ≤ n ∧ i = .int .i64 k ∧ q = .int .i64 (K + (k : Int)) ∧ l.length = n ∧ (∀ j, j < k → l.getD j 0 = K + (j : Int)) ∧
      wr.ownsRow base 2 1 (.slice (some ⟨g, 0, none⟩) n cap) n (ints l) ∧ Below base w wr ∧ w.grownBy wr (some g))
      (fun i _ _ => n - (Go.RowKit.intOf i).toNat)
    case atStart => exact ⟨0, xs, Nat.zero_le _, rfl, by simp, Hn.out.symm, fun j hj => by omega, h, Below.refl _ _, World.grownBy.refl _ _⟩
    case round =>
      clear h
      obtain ⟨k, l, hk, rfl, rfl, hll, hag, hown, hb1, hg1⟩ := hrel
      have Hag := Lib.hid hag
      have Hll := Lib.hid hll
      clear hag hll
      by_cases hlt : k < n
      · have hcell : wr.cell? ⟨g, k, none⟩ = some (.int .i64 (l.getD k 0)) := by
          rw [hown.cellAt _ (by omega)]; exact ints_get _ _ (by have := Hll.out; omega)
        have hfro : wr.frozen? ⟨g, k, none⟩ = false := hown.frozenAt _
        generalize hY : l.getD k 0 = y at hcell
        have HY := Lib.hid hY
        clear hY
        have hst := hown.stored k (.int .i64 (K + (k : Int)))
        have hown2 := hst.1
        rw [ints_set] at hown2
        have hb2 : Below base w (wr.setCell ⟨g, k, none⟩ (.int .i64 (K + (k : Int)))) := hb1.setCell (by exact hb) _
        have hg2 : w.grownBy (wr.setCell ⟨g, k, none⟩ (.int .i64 (K + (k : Int)))) (some g) := hg1.trans hst.2
        clear hst hb1 hg1
        go_wp2_with fail
        go_roundw
        case rel =>
          refine ⟨k + 1, l.set k (K + (k : Int)), by omega, by go_num, by go_num, by simpa using Hll.out, fun j hj => ?_, hown2, hb2, hg2⟩
          rw [getD_set_int _ _ _ _ (by have := Hll.out; omega)]
          by_cases e : j = k
          · subst e; rw [if_pos rfl]
          · rw [if_neg e]; exact Hag.out j (by omega)
        case measure => simp [Go.RowKit.intOf]; omega
      · obtain rfl : k = n := by omega
        have e : l = marksK K k := ints_ext (by rw [marksK_length]; exact Hll.out) (fun j hj => by rw [marksK_getD _ _ _ (by have := Hll.out; omega)]; exact Hag.out j (by have := Hll.out; omega))
        subst e
        go_wp2_with fail
        go_ret
        exact ⟨rfl, hown, hb1, hg1⟩

set_option maxRecDepth 100000 in
set_option maxHeartbeats 1000000 in
theorem heldIntK_any (v : Value) (n : Nat) (K : Int) (w : World) (hK : 0 ≤ K) (hK2 : K ≤ 1000000000000) (h : IL w w.heap.size v (marksK K n)) :
    Calls Try.prog 20 #[v, .int .i64 K] w fun e w' => e = .returned (.int .i64 (K + (n : Int))) ∧ w = w' := by
  obtain ⟨hr, hlen, A, c, rfl, h3⟩ := h
  rw [marksK_length] at hlen
  have hc0 : marksK K n = [] ∨ ∃ b off, A = some ⟨b, off, none⟩ ∧ ∀ j, j < n → w.cell? ⟨b, off + j, none⟩ = some (.int .i64 (K + (j : Int))) := by
    rcases h3 with h3 | ⟨b, off, rfl, hbl, hc⟩
    · exact .inl h3
    · exact .inr ⟨b, off, rfl, fun j hj => by have := hc j (by rw [marksK_length]; exact hj); rw [marksK_getD _ _ _ hj] at this; exact this⟩
  rw [marksK_length]
  clear h3 hr
  go_enter Try.func20, Try.ntmps20
  go_wp2_with fail
  go_loop [5, 1] (fun i q => ∃ k : Nat, k ≤ n ∧ i = .int .i64 k ∧ q = .int .i64 (K + (k : Int))) (fun i _ => n - (Go.RowKit.intOf i).toNat)
  case atStart => exact ⟨0, Nat.zero_le _, rfl, by simp⟩
  case round =>
    obtain ⟨k, hk, rfl, rfl⟩ := hrel
    by_cases hlt : k < n
    · rcases hc0 with hc0 | ⟨b, off, rfl, hc⟩
      · have := marksK_length K n; rw [hc0] at this; simp at this; omega
      have hx := hc k hlt
      clear hc
      go_wp2_with fail
      go_round
      case rel => exact ⟨k + 1, by omega, by go_num, by go_num⟩
      case measure => simp [Go.RowKit.intOf]; omega
    · obtain rfl : k = n := by omega
      clear hc0
      go_wp2_with fail
      go_ret
      exact ⟨rfl, rfl⟩

end Go.Proofs.Ytljmiodkmddllaa
