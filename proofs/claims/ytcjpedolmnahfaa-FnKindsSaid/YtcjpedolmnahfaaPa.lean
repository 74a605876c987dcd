/- Walks: slices of points: the laws' marks. -/
import Derived.Test.YtcjpedolmnahfaaGa
import Derived.Test.YtcjpedolmnahfaaYa
import Derived.Test.YtcjpedolmnahfaaOk
set_option linter.unusedVariables false
set_option linter.unusedSimpArgs false
namespace Go.Proofs.Ytcjpedolmnahfaa
open Go.RowKit

def marks2 (K : Int) (n : Nat) : List (Int × Int) := (List.range n).map fun j : Nat => (K + 2 * (j : Int), K + 2 * (j : Int) + 1)
theorem marks2_length (K : Int) (n : Nat) : (marks2 K n).length = n := by simp [marks2]
theorem marks2_getD (K : Int) (n j : Nat) (h : j < n) : (marks2 K n).getD j (0, 0) = (K + 2 * (j : Int), K + 2 * (j : Int) + 1) := by
  simp [marks2, List.getD_eq_getElem?_getD, h]
theorem marks2_rng (K : Int) (n : Nat) (hK : 0 ≤ K) (hK2 : K ≤ 100000000000000) (h : n ≤ 1048576) (j : Nat) : Rng ((marks2 K n).getD j (0, 0)).1 ∧ Rng ((marks2 K n).getD j (0, 0)).2 := by
  by_cases hj : j < n
  · rw [marks2_getD _ _ _ hj]
    unfold Rng
    refine ⟨?_, ?_⟩ <;> (simp only []; omega)
  · rw [List.getD_eq_getElem?_getD, List.getElem?_eq_none (by rw [marks2_length]; omega)]; exact ⟨rng_zero, rng_zero⟩

def MarkPost2 (base : Nat) (v : Value) (n : Nat) (K : Int) (w : World) (e : Ending) (w' : World) : Prop :=
  e = .returned (.int .i64 (K + 2 * (n : Int))) ∧ w'.ownsRow base 43 2 v n (prs (marks2 K n)) ∧ Below base w w' ∧ w.grownBy w' v.ownBlock

set_option maxRecDepth 100000 in
set_option maxHeartbeats 4000000 in
theorem markPointS_any (base : Nat) (v : Value) (K : Int) (xs : List (Int × Int)) (w : World) (hK : 0 ≤ K) (hK2 : K ≤ 100000000000000) (hl : xs.length ≤ 1048576) (h : w.ownsRow base 43 2 v xs.length (prs xs)) :
    Calls Try.prog 48 #[v, .int .i64 K] w (MarkPost2 base v xs.length K w) := by
  obtain ⟨n, hn⟩ : ∃ n, n = xs.length := ⟨_, rfl⟩
  rw [← hn] at h hl ⊢
  have Hn := Lib.hid hn
  clear hn
  rcases h.2 with ⟨rfl, h0⟩ | ⟨g, cap, cur, rfl, hb, hg, _⟩
  · subst h0
    go_enter Try.func48, Try.ntmps48
    go_wp2_with fail
    refine wp_loop_rounds 1 ?_
    rw [rounds_succ]
    go_wp2_with fail
    go_ret
    exact ⟨by simp, World.ownsRow_nil _ _ _ _, Below.refl _ _, World.grownBy.refl _ _⟩
  · clear hg
    go_enter Try.func48, Try.ntmps48
    go_wp2_with fail
    go_loopw [5, 1] (fun i q wr => ∃ (k : Nat) (l : List (Int × Int)), k ≤ n ∧ i = .int .i64 k ∧ q = .int .i64 (K + 2 * (k : Int)) ∧ l.length = n ∧ (∀ j : Nat, j < k → l.getD j (0, 0) = (K + 2 * (j : Int), K + 2 * (j : Int) + 1)) ∧
      wr.ownsRow base 43 2 (.slice (some ⟨g, 0, none⟩) n cap) n (prs l) ∧ Below base w wr ∧ w.grownBy wr (some g))
      (fun i _ _ => n - (intOf i).toNat)
    case atStart => exact ⟨0, xs, Nat.zero_le _, rfl, by simp, Hn.out.symm, fun j hj => by omega, h, Below.refl _ _, World.grownBy.refl _ _⟩
    case round =>
      clear h
      obtain ⟨k, l, hk, rfl, rfl, hll, hag, hown, hb1, hg1⟩ := hrel
      have Hag := Lib.hid hag
      have Hll := Lib.hid hll
      clear hag hll
      by_cases hlt : k < n
      · have c0 : wr.cell? ⟨g, k * 2, none⟩ = some (.int .i64 (l.getD k (0, 0)).1) := by
          rw [hown.cellAt _ (by omega)]; exact prs_get0 _ _ (by have := Hll.out; omega)
        have c1 : wr.cell? ⟨g, k * 2 + 1, none⟩ = some (.int .i64 (l.getD k (0, 0)).2) := by
          rw [hown.cellAt _ (by omega)]; exact prs_get1 _ _ (by have := Hll.out; omega)
        have f0 : wr.frozen? ⟨g, k * 2, none⟩ = false := hown.frozenAt _
        have f1 : wr.frozen? ⟨g, k * 2 + 1, none⟩ = false := hown.frozenAt _
        generalize (l.getD k (0, 0)).1 = o0 at c0
        generalize (l.getD k (0, 0)).2 = o1 at c1
        have hst0 := hown.stored (k * 2) (.int .i64 (K + 2 * (k : Int)))
        have hst1 := hst0.1.stored (k * 2 + 1) (.int .i64 (K + 2 * (k : Int) + 1))
        have hown2 := hst1.1
        rw [prs_set l k (K + 2 * (k : Int)) (K + 2 * (k : Int) + 1) (by have := Hll.out; omega)] at hown2
        have hb2 := ((hb1.setCell (p := ⟨g, k * 2, none⟩) (by exact hb) (.int .i64 (K + 2 * (k : Int)))).setCell (p := ⟨g, k * 2 + 1, none⟩) (by exact hb) (.int .i64 (K + 2 * (k : Int) + 1)))
        have hg2 := ((hg1.trans hst0.2).trans hst1.2)
        have HO := Lib.hid hown2
        have HB := Lib.hid hb2
        have HG := Lib.hid hg2
        clear hst0 hst1 hown2 hb2 hg2 hb1 hg1 hown
        go_wp2_with fail
        go_roundw
        case rel =>
          have h1 := HO.out
          have h2 := HB.out
          have h3 := HG.out
          have h0 := Hll.out
          clear HO HB HG
          refine ⟨k + 1, l.set k (K + 2 * (k : Int), K + 2 * (k : Int) + 1), by omega, by go_num, by go_num, by simpa using h0, fun j hj => ?_, ?_, ?_, ?_⟩
          case refine_2 => with_reducible exact h1
          case refine_3 => with_reducible exact h2
          case refine_4 => with_reducible exact h3
          rw [getD_set_pr _ _ _ _ (by have := Hll.out; omega)]
          by_cases e : j = k
          · subst e; rw [if_pos rfl]; (try simp only [Prod.mk.injEq]); (repeat' (first | trivial | omega | apply And.intro))
          · rw [if_neg e]; exact Hag.out j (by omega)
        case measure => simp [intOf]; omega
      · obtain rfl : k = n := by omega
        have e : l = marks2 K k := prs_ext (by rw [marks2_length]; exact Hll.out) (fun j hj => by rw [marks2_getD _ _ _ (by have := Hll.out; omega)]; exact Hag.out j (by have := Hll.out; omega))
        subst e
        go_wp2_with fail
        go_ret
        exact ⟨rfl, hown, hb1, hg1⟩

set_option maxRecDepth 100000 in
set_option maxHeartbeats 4000000 in
theorem heldPointS_any (v : Value) (n : Nat) (K : Int) (w : World) (hK : 0 ≤ K) (hK2 : K ≤ 100000000000000) (h : PL w w.heap.size v (marks2 K n)) :
    Calls Try.prog 49 #[v, .int .i64 K] w fun e w' => e = .returned (.int .i64 (K + 2 * (n : Int))) ∧ w = w' := by
  obtain ⟨hr, hlen, A, c, rfl, h3⟩ := h
  rw [marks2_length] at hlen
  have hc0 : marks2 K n = [] ∨ ∃ b off, A = some ⟨b, off, none⟩ ∧ ∀ j, j < n → w.cell? ⟨b, off + j * 2, none⟩ = some (.int .i64 (K + 2 * (j : Int))) ∧ w.cell? ⟨b, off + j * 2 + 1, none⟩ = some (.int .i64 (K + 2 * (j : Int) + 1)) := by
    rcases h3 with h3 | ⟨b, off, rfl, hbl, hc⟩
    · exact .inl h3
    · exact .inr ⟨b, off, rfl, fun j hj => by have := hc j (by rw [marks2_length]; exact hj); rw [marks2_getD _ _ _ hj] at this; exact this⟩
  rw [marks2_length]
  clear h3 hr
  go_enter Try.func49, Try.ntmps49
  go_wp2_with fail
  go_loop [5, 1] (fun i q => ∃ k : Nat, k ≤ n ∧ i = .int .i64 k ∧ q = .int .i64 (K + 2 * (k : Int))) (fun i _ => n - (intOf i).toNat)
  case atStart => exact ⟨0, Nat.zero_le _, rfl, by simp⟩
  case round =>
    obtain ⟨k, hk, rfl, rfl⟩ := hrel
    by_cases hlt : k < n
    · rcases hc0 with hc0 | ⟨b, off, rfl, hc⟩
      · have := marks2_length K n; rw [hc0] at this; simp at this; omega
      obtain ⟨hx0, hx1⟩ := hc k hlt
      clear hc
      have e1 : wrap64 ((K + 2 * (k : Int)) + 1) = K + 2 * (k : Int) + 1 := by unfold wrap64; omega
      have e2 : wrap64 ((K + 2 * (k : Int) + 1) + 1) = K + 2 * (k : Int) + 2 := by unfold wrap64; omega
      go_wp2_with fail
      go_round
      case rel => exact ⟨k + 1, by omega, by go_num, by go_num⟩
      case measure => simp [intOf]; omega
    · obtain rfl : k = n := by omega
      clear hc0
      go_wp2_with fail
      go_ret
      exact ⟨rfl, rfl⟩
end Go.Proofs.Ytcjpedolmnahfaa

/- Walks: slices of rolls: the laws' marks. -/
set_option linter.unusedVariables false
set_option linter.unusedSimpArgs false
namespace Go.Proofs.Ytcjpedolmnahfaa
open Go.RowKit

def marks6 (K : Int) (n : Nat) : List R6 := (List.range n).map fun j : Nat => (K + 6 * (j : Int), K + 6 * (j : Int) + 1, K + 6 * (j : Int) + 2, K + 6 * (j : Int) + 3, K + 6 * (j : Int) + 4, K + 6 * (j : Int) + 5)
theorem marks6_length (K : Int) (n : Nat) : (marks6 K n).length = n := by simp [marks6]
theorem marks6_getD (K : Int) (n j : Nat) (h : j < n) : (marks6 K n).getD j z6 = (K + 6 * (j : Int), K + 6 * (j : Int) + 1, K + 6 * (j : Int) + 2, K + 6 * (j : Int) + 3, K + 6 * (j : Int) + 4, K + 6 * (j : Int) + 5) := by
  simp [marks6, List.getD_eq_getElem?_getD, h]
theorem marks6_rng (K : Int) (n : Nat) (hK : 0 ≤ K) (hK2 : K ≤ 100000000000000) (h : n ≤ 1048576) (j : Nat) : Rng ((marks6 K n).getD j z6).1 ∧ Rng ((marks6 K n).getD j z6).2.1 ∧ Rng ((marks6 K n).getD j z6).2.2.1 ∧ Rng ((marks6 K n).getD j z6).2.2.2.1 ∧ Rng ((marks6 K n).getD j z6).2.2.2.2.1 ∧ Rng ((marks6 K n).getD j z6).2.2.2.2.2 := by
  by_cases hj : j < n
  · rw [marks6_getD _ _ _ hj]
    unfold Rng
    refine ⟨?_, ?_, ?_, ?_, ?_, ?_⟩ <;> (simp only []; omega)
  · rw [List.getD_eq_getElem?_getD, List.getElem?_eq_none (by rw [marks6_length]; omega)]; exact ⟨rng_zero, rng_zero, rng_zero, rng_zero, rng_zero, rng_zero⟩

def MarkPost6 (base : Nat) (v : Value) (n : Nat) (K : Int) (w : World) (e : Ending) (w' : World) : Prop :=
  e = .returned (.int .i64 (K + 6 * (n : Int))) ∧ w'.ownsRow base 48 6 v n (rls (marks6 K n)) ∧ Below base w w' ∧ w.grownBy w' v.ownBlock

set_option maxRecDepth 100000 in
set_option maxHeartbeats 4000000 in
theorem markRollS_any (base : Nat) (v : Value) (K : Int) (xs : List R6) (w : World) (hK : 0 ≤ K) (hK2 : K ≤ 100000000000000) (hl : xs.length ≤ 1048576) (h : w.ownsRow base 48 6 v xs.length (rls xs)) :
    Calls Try.prog 125 #[v, .int .i64 K] w (MarkPost6 base v xs.length K w) := by
  obtain ⟨n, hn⟩ : ∃ n, n = xs.length := ⟨_, rfl⟩
  rw [← hn] at h hl ⊢
  have Hn := Lib.hid hn
  clear hn
  rcases h.2 with ⟨rfl, h0⟩ | ⟨g, cap, cur, rfl, hb, hg, _⟩
  · subst h0
    go_enter Try.func125, Try.ntmps125
    go_wp2_with fail
    refine wp_loop_rounds 1 ?_
    rw [rounds_succ]
    go_wp2_with fail
    go_ret
    exact ⟨by simp, World.ownsRow_nil _ _ _ _, Below.refl _ _, World.grownBy.refl _ _⟩
  · clear hg
    go_enter Try.func125, Try.ntmps125
    go_wp2_with fail
    go_loopw [5, 1] (fun i q wr => ∃ (k : Nat) (l : List R6), k ≤ n ∧ i = .int .i64 k ∧ q = .int .i64 (K + 6 * (k : Int)) ∧ l.length = n ∧ (∀ j : Nat, j < k → l.getD j z6 = (K + 6 * (j : Int), K + 6 * (j : Int) + 1, K + 6 * (j : Int) + 2, K + 6 * (j : Int) + 3, K + 6 * (j : Int) + 4, K + 6 * (j : Int) + 5)) ∧
      wr.ownsRow base 48 6 (.slice (some ⟨g, 0, none⟩) n cap) n (rls l) ∧ Below base w wr ∧ w.grownBy wr (some g))
      (fun i _ _ => n - (intOf i).toNat)
    case atStart => exact ⟨0, xs, Nat.zero_le _, rfl, by simp, Hn.out.symm, fun j hj => by omega, h, Below.refl _ _, World.grownBy.refl _ _⟩
    case round =>
      clear h
      obtain ⟨k, l, hk, rfl, rfl, hll, hag, hown, hb1, hg1⟩ := hrel
      have Hag := Lib.hid hag
      have Hll := Lib.hid hll
      clear hag hll
      by_cases hlt : k < n
      · have c0 : wr.cell? ⟨g, k * 6, none⟩ = some (.int .i64 (l.getD k z6).1) := by
          rw [hown.cellAt _ (by omega)]; exact rls_get0 _ _ (by have := Hll.out; omega)
        have c1 : wr.cell? ⟨g, k * 6 + 1, none⟩ = some (.int .i64 (l.getD k z6).2.1) := by
          rw [hown.cellAt _ (by omega)]; exact rls_get1 _ _ (by have := Hll.out; omega)
        have c2 : wr.cell? ⟨g, k * 6 + 2, none⟩ = some (.int .i64 (l.getD k z6).2.2.1) := by
          rw [hown.cellAt _ (by omega)]; exact rls_get2 _ _ (by have := Hll.out; omega)
        have c3 : wr.cell? ⟨g, k * 6 + 3, none⟩ = some (.int .i64 (l.getD k z6).2.2.2.1) := by
          rw [hown.cellAt _ (by omega)]; exact rls_get3 _ _ (by have := Hll.out; omega)
        have c4 : wr.cell? ⟨g, k * 6 + 4, none⟩ = some (.int .i64 (l.getD k z6).2.2.2.2.1) := by
          rw [hown.cellAt _ (by omega)]; exact rls_get4 _ _ (by have := Hll.out; omega)
        have c5 : wr.cell? ⟨g, k * 6 + 5, none⟩ = some (.int .i64 (l.getD k z6).2.2.2.2.2) := by
          rw [hown.cellAt _ (by omega)]; exact rls_get5 _ _ (by have := Hll.out; omega)
        have f0 : wr.frozen? ⟨g, k * 6, none⟩ = false := hown.frozenAt _
        have f1 : wr.frozen? ⟨g, k * 6 + 1, none⟩ = false := hown.frozenAt _
        have f2 : wr.frozen? ⟨g, k * 6 + 2, none⟩ = false := hown.frozenAt _
        have f3 : wr.frozen? ⟨g, k * 6 + 3, none⟩ = false := hown.frozenAt _
        have f4 : wr.frozen? ⟨g, k * 6 + 4, none⟩ = false := hown.frozenAt _
        have f5 : wr.frozen? ⟨g, k * 6 + 5, none⟩ = false := hown.frozenAt _
        generalize (l.getD k z6).1 = o0 at c0
        generalize (l.getD k z6).2.1 = o1 at c1
        generalize (l.getD k z6).2.2.1 = o2 at c2
        generalize (l.getD k z6).2.2.2.1 = o3 at c3
        generalize (l.getD k z6).2.2.2.2.1 = o4 at c4
        generalize (l.getD k z6).2.2.2.2.2 = o5 at c5
        have hst0 := hown.stored (k * 6) (.int .i64 (K + 6 * (k : Int)))
        have hst1 := hst0.1.stored (k * 6 + 1) (.int .i64 (K + 6 * (k : Int) + 1))
        have hst2 := hst1.1.stored (k * 6 + 2) (.int .i64 (K + 6 * (k : Int) + 1 + 1))
        have hst3 := hst2.1.stored (k * 6 + 3) (.int .i64 (K + 6 * (k : Int) + 1 + 1 + 1))
        have hst4 := hst3.1.stored (k * 6 + 4) (.int .i64 (K + 6 * (k : Int) + 1 + 1 + 1 + 1))
        have hst5 := hst4.1.stored (k * 6 + 5) (.int .i64 (K + 6 * (k : Int) + 1 + 1 + 1 + 1 + 1))
        have hown2 := hst5.1
        rw [rls_set l k (K + 6 * (k : Int)) (K + 6 * (k : Int) + 1) (K + 6 * (k : Int) + 1 + 1) (K + 6 * (k : Int) + 1 + 1 + 1) (K + 6 * (k : Int) + 1 + 1 + 1 + 1) (K + 6 * (k : Int) + 1 + 1 + 1 + 1 + 1) (by have := Hll.out; omega)] at hown2
        have hb2 := ((((((hb1.setCell (p := ⟨g, k * 6, none⟩) (by exact hb) (.int .i64 (K + 6 * (k : Int)))).setCell (p := ⟨g, k * 6 + 1, none⟩) (by exact hb) (.int .i64 (K + 6 * (k : Int) + 1))).setCell (p := ⟨g, k * 6 + 2, none⟩) (by exact hb) (.int .i64 (K + 6 * (k : Int) + 1 + 1))).setCell (p := ⟨g, k * 6 + 3, none⟩) (by exact hb) (.int .i64 (K + 6 * (k : Int) + 1 + 1 + 1))).setCell (p := ⟨g, k * 6 + 4, none⟩) (by exact hb) (.int .i64 (K + 6 * (k : Int) + 1 + 1 + 1 + 1))).setCell (p := ⟨g, k * 6 + 5, none⟩) (by exact hb) (.int .i64 (K + 6 * (k : Int) + 1 + 1 + 1 + 1 + 1)))
        have hg2 := ((((((hg1.trans hst0.2).trans hst1.2).trans hst2.2).trans hst3.2).trans hst4.2).trans hst5.2)
        have HO := Lib.hid hown2
        have HB := Lib.hid hb2
        have HG := Lib.hid hg2
        clear hst0 hst1 hst2 hst3 hst4 hst5 hown2 hb2 hg2 hb1 hg1 hown
        go_wp2_with fail
        go_roundw
        case rel =>
          have h1 := HO.out
          have h2 := HB.out
          have h3 := HG.out
          have h0 := Hll.out
          clear HO HB HG
          refine ⟨k + 1, l.set k (K + 6 * (k : Int), K + 6 * (k : Int) + 1, K + 6 * (k : Int) + 1 + 1, K + 6 * (k : Int) + 1 + 1 + 1, K + 6 * (k : Int) + 1 + 1 + 1 + 1, K + 6 * (k : Int) + 1 + 1 + 1 + 1 + 1), by omega, by go_num, by go_num, by simpa using h0, fun j hj => ?_, ?_, ?_, ?_⟩
          case refine_2 => with_reducible exact h1
          case refine_3 => with_reducible exact h2
          case refine_4 => with_reducible exact h3
          rw [getD_set_rl _ _ _ _ (by have := Hll.out; omega)]
          by_cases e : j = k
          · subst e; rw [if_pos rfl]; (try simp only [Prod.mk.injEq]); (repeat' (first | trivial | omega | apply And.intro))
          · rw [if_neg e]; exact Hag.out j (by omega)
        case measure => simp [intOf]; omega
      · obtain rfl : k = n := by omega
        have e : l = marks6 K k := rls_ext (by rw [marks6_length]; exact Hll.out) (fun j hj => by rw [marks6_getD _ _ _ (by have := Hll.out; omega)]; exact Hag.out j (by have := Hll.out; omega))
        subst e
        go_wp2_with fail
        go_ret
        exact ⟨rfl, hown, hb1, hg1⟩

set_option maxRecDepth 100000 in
set_option maxHeartbeats 4000000 in
theorem heldRollS_any (v : Value) (n : Nat) (K : Int) (w : World) (hK : 0 ≤ K) (hK2 : K ≤ 100000000000000) (h : RL w w.heap.size v (marks6 K n)) :
    Calls Try.prog 126 #[v, .int .i64 K] w fun e w' => e = .returned (.int .i64 (K + 6 * (n : Int))) ∧ w = w' := by
  obtain ⟨hr, hlen, A, c, rfl, h3⟩ := h
  rw [marks6_length] at hlen
  have hc0 : marks6 K n = [] ∨ ∃ b off, A = some ⟨b, off, none⟩ ∧ ∀ j, j < n → w.cell? ⟨b, off + j * 6, none⟩ = some (.int .i64 (K + 6 * (j : Int))) ∧ w.cell? ⟨b, off + j * 6 + 1, none⟩ = some (.int .i64 (K + 6 * (j : Int) + 1)) ∧ w.cell? ⟨b, off + j * 6 + 2, none⟩ = some (.int .i64 (K + 6 * (j : Int) + 2)) ∧ w.cell? ⟨b, off + j * 6 + 3, none⟩ = some (.int .i64 (K + 6 * (j : Int) + 3)) ∧ w.cell? ⟨b, off + j * 6 + 4, none⟩ = some (.int .i64 (K + 6 * (j : Int) + 4)) ∧ w.cell? ⟨b, off + j * 6 + 5, none⟩ = some (.int .i64 (K + 6 * (j : Int) + 5)) := by
    rcases h3 with h3 | ⟨b, off, rfl, hbl, hc⟩
    · exact .inl h3
    · exact .inr ⟨b, off, rfl, fun j hj => by have := hc j (by rw [marks6_length]; exact hj); rw [marks6_getD _ _ _ hj] at this; exact this⟩
  rw [marks6_length]
  clear h3 hr
  go_enter Try.func126, Try.ntmps126
  go_wp2_with fail
  go_loop [5, 1] (fun i q => ∃ k : Nat, k ≤ n ∧ i = .int .i64 k ∧ q = .int .i64 (K + 6 * (k : Int))) (fun i _ => n - (intOf i).toNat)
  case atStart => exact ⟨0, Nat.zero_le _, rfl, by simp⟩
  case round =>
    obtain ⟨k, hk, rfl, rfl⟩ := hrel
    by_cases hlt : k < n
    · rcases hc0 with hc0 | ⟨b, off, rfl, hc⟩
      · have := marks6_length K n; rw [hc0] at this; simp at this; omega
      obtain ⟨hx0, hx1, hx2, hx3, hx4, hx5⟩ := hc k hlt
      clear hc
      have e1 : wrap64 ((K + 6 * (k : Int)) + 1) = K + 6 * (k : Int) + 1 := by unfold wrap64; omega
      have e2 : wrap64 ((K + 6 * (k : Int) + 1) + 1) = K + 6 * (k : Int) + 2 := by unfold wrap64; omega
      have e3 : wrap64 ((K + 6 * (k : Int) + 2) + 1) = K + 6 * (k : Int) + 3 := by unfold wrap64; omega
      have e4 : wrap64 ((K + 6 * (k : Int) + 3) + 1) = K + 6 * (k : Int) + 4 := by unfold wrap64; omega
      have e5 : wrap64 ((K + 6 * (k : Int) + 4) + 1) = K + 6 * (k : Int) + 5 := by unfold wrap64; omega
      have e6 : wrap64 ((K + 6 * (k : Int) + 5) + 1) = K + 6 * (k : Int) + 6 := by unfold wrap64; omega
      go_wp2_with fail
      go_round
      case rel => exact ⟨k + 1, by omega, by go_num, by go_num⟩
      case measure => simp [intOf]; omega
    · obtain rfl : k = n := by omega
      clear hc0
      go_wp2_with fail
      go_ret
      exact ⟨rfl, rfl⟩
end Go.Proofs.Ytcjpedolmnahfaa

/- Walks: cascades: rows of their own that lie apart from each other; marks. -/
set_option linter.unusedVariables false
set_option linter.unusedSimpArgs false
namespace Go.Proofs.Ytcjpedolmnahfaa
open Go.RowKit

/-- the block of a slice of n elements; none: it has no element -/
def obk (v : Value) (n : Nat) : Option Nat := if n = 0 then none else v.ownBlock
/-- a row of the call's own in the blocks from base to top, or no element -/
def ORow (W : World) (base top : Nat) (e : TypeId) (sz : Nat) (v : Value) (n : Nat) (xs : List Value) : Prop :=
  (W.ownsRow base e sz v n xs ∧ ∀ g, v.ownBlock = some g → g < top) ∨ (n = 0 ∧ xs = [] ∧ ∃ A c, v = .slice A 0 c)
theorem obk_zero (v : Value) : obk v 0 = none := rfl
theorem obk_pos {v : Value} {n : Nat} (h : 0 < n) : obk v n = v.ownBlock := by unfold obk; rw [if_neg (by omega)]
theorem ORow.shape {W : World} {base top sz : Nat} {e : TypeId} {v : Value} {n : Nat} {xs : List Value} (h : ORow W base top e sz v n xs) : ∃ a c, v = .slice a n c := by
  rcases h with ⟨h, _⟩ | ⟨rfl, _, A, c, rfl⟩
  · rcases h.2 with ⟨rfl, rfl⟩ | ⟨g, cap, cur, rfl, _⟩
    · exact ⟨_, _, rfl⟩
    · exact ⟨_, _, rfl⟩
  · exact ⟨_, _, rfl⟩
theorem ORow.nil {W : World} {base top sz : Nat} {e : TypeId} {v : Value} {xs : List Value} (h : ORow W base top e sz v 0 xs) : xs = [] ∧ ∃ A c, v = .slice A 0 c := by
  obtain ⟨a, c, rfl⟩ := h.shape
  refine ⟨?_, a, c, rfl⟩
  rcases h with ⟨h, _⟩ | ⟨_, h, _⟩
  · exact List.eq_nil_of_length_eq_zero (by have := h.1; omega)
  · exact h
theorem ORow.of_nil (W : World) (base top : Nat) (e : TypeId) (sz : Nat) (A : Option Addr) (c : Nat) : ORow W base top e sz (.slice A 0 c) 0 [] := .inr ⟨rfl, rfl, A, c, rfl⟩
theorem ORow.of_own {W : World} {base sz : Nat} {e : TypeId} {v : Value} {n : Nat} {xs : List Value} (h : W.ownsRow base e sz v n xs) : ORow W base W.heap.size e sz v n xs := .inl ⟨h, fun g hg => (h.lt g hg).2⟩
theorem ORow.lt {W : World} {base top sz : Nat} {e : TypeId} {v : Value} {n : Nat} {xs : List Value} (h : ORow W base top e sz v n xs) {g : Nat} (hg : obk v n = some g) : base ≤ g ∧ g < top ∧ g < W.heap.size := by
  unfold obk at hg
  split at hg
  · cases hg
  · rename_i hn
    rcases h with ⟨h, ht⟩ | ⟨h0, _⟩
    · exact ⟨(h.lt g hg).1, ht g hg, (h.lt g hg).2⟩
    · exact absurd h0 hn
theorem ORow.at_ {W W' : World} {base top sz : Nat} {e : TypeId} {v : Value} {n : Nat} {xs : List Value} (h : ORow W base top e sz v n xs) (hb : ∀ g, obk v n = some g → W'.heap[g]? = W.heap[g]?) : ORow W' base top e sz v n xs := by
  by_cases hn : n = 0
  · subst hn
    obtain ⟨rfl, A, c, rfl⟩ := h.nil
    exact ORow.of_nil _ _ _ _ _ _ _
  · rcases h with ⟨h, ht⟩ | ⟨h0, _⟩
    · refine .inl ⟨⟨h.1, ?_⟩, ht⟩
      rcases h.2 with h | ⟨g, cap, cur, rfl, hbase, hg, hr⟩
      · exact .inl h
      · exact .inr ⟨g, cap, cur, rfl, hbase, (hb g (by unfold obk; rw [if_neg hn]; rfl)).trans hg, hr⟩
    · exact absurd h0 hn
theorem ORow.lift {W : World} {base base' top top' sz : Nat} {e : TypeId} {v : Value} {n : Nat} {xs : List Value} (h : ORow W base top e sz v n xs) (hb : base' ≤ base) (ht : top ≤ top') : ORow W base' top' e sz v n xs := by
  rcases h with ⟨h, h2⟩ | h
  · exact .inl ⟨oi_lift h hb, fun g hg => by have := h2 g hg; omega⟩
  · exact .inr h
/-- what is not in S stands as it was -/
structure Chg (S : Nat → Prop) (W W' : World) : Prop where
  os : W'.os = W.os
  tape : W'.tape = W.tape
  output : W'.output = W.output
  size : W.heap.size ≤ W'.heap.size
  block : ∀ k, k < W.heap.size → ¬ S k → W'.heap[k]? = W.heap[k]?
theorem Chg.refl (S : Nat → Prop) (W : World) : Chg S W W := ⟨rfl, rfl, rfl, Nat.le_refl _, fun _ _ _ => rfl⟩
theorem Chg.trans {S : Nat → Prop} {a b c : World} (h : Chg S a b) (k : Chg S b c) : Chg S a c :=
  ⟨k.os.trans h.os, k.tape.trans h.tape, k.output.trans h.output, Nat.le_trans h.size k.size, fun i hi hn => (k.block i (Nat.lt_of_lt_of_le hi h.size) hn).trans (h.block i hi hn)⟩
theorem Chg.mono {S T : Nat → Prop} {a b : World} (h : Chg S a b) (hs : ∀ k, S k → T k) : Chg T a b :=
  ⟨h.os, h.tape, h.output, h.size, fun k hk hn => h.block k hk (fun hS => hn (hs k hS))⟩
theorem Chg.grown {S : Nat → Prop} {a b : World} {row : Option Nat} (h : a.grownBy b row) (hs : ∀ k, row = some k → S k) : Chg S a b :=
  ⟨h.os, h.tape, h.output, h.size, fun k hk hn => h.block k hk (fun e => hn (hs k e.symm))⟩
theorem Chg.below {S : Nat → Prop} {a b : World} {base : Nat} (h : Chg S a b) (hB : base ≤ a.heap.size) (hs : ∀ k, S k → base ≤ k) : Below base a b :=
  ⟨h.os, h.tape, h.output, h.size, fun k hk => h.block k (by omega) (fun hS => by have := hs k hS; omega)⟩

def MarkPP (base top : Nat) (v : Value) (n : Nat) (K : Int) (w : World) (e : Ending) (w' : World) : Prop :=
  e = .returned (.int .i64 (K + 2 * (n : Int))) ∧ ORow w' base top 43 2 v n (prs (marks2 K n)) ∧ Chg (fun b => obk v n = some b) w w'
set_option maxRecDepth 100000 in
set_option maxHeartbeats 1000000 in
theorem markPoint0_any (A : Option Addr) (c : Nat) (K : Int) (w : World) :
    Calls Try.prog 48 #[.slice A 0 c, .int .i64 K] w fun e w' => e = .returned (.int .i64 K) ∧ w' = w := by
  go_enter Try.func48, Try.ntmps48
  go_wp2_with fail
  refine wp_loop_rounds 1 ?_
  rw [rounds_succ]
  go_wp2_with fail
  go_ret
  exact ⟨rfl, rfl⟩
theorem markPointO_any (base top : Nat) (v : Value) (K : Int) (xs : List (Int × Int)) (w : World) (hK : 0 ≤ K) (hK2 : K ≤ 100000000000000) (hl : xs.length ≤ 1048576) (h : ORow w base top 43 2 v xs.length (prs xs)) :
    Calls Try.prog 48 #[v, .int .i64 K] w (MarkPP base top v xs.length K w) := by
  by_cases hn : xs.length = 0
  · rw [hn] at h ⊢
    obtain ⟨_, A, c, rfl⟩ := h.nil
    refine (markPoint0_any A c K w).mono ?_
    rintro e w' ⟨rfl, rfl⟩
    exact ⟨by simp, ORow.of_nil _ _ _ _ _ _ _, Chg.refl _ _⟩
  · rcases h with ⟨h, ht⟩ | ⟨h0, _⟩
    · refine (markPointS_any base v K xs w hK hK2 hl h).mono ?_
      rintro e w' ⟨rfl, h1, h2, h3⟩
      exact ⟨rfl, .inl ⟨h1, ht⟩, Chg.grown h3 (fun k hk => by unfold obk; rw [if_neg hn]; exact hk)⟩
    · exact absurd h0 hn

def MarkPR (base top : Nat) (v : Value) (n : Nat) (K : Int) (w : World) (e : Ending) (w' : World) : Prop :=
  e = .returned (.int .i64 (K + 6 * (n : Int))) ∧ ORow w' base top 48 6 v n (rls (marks6 K n)) ∧ Chg (fun b => obk v n = some b) w w'
set_option maxRecDepth 100000 in
set_option maxHeartbeats 1000000 in
theorem markRoll0_any (A : Option Addr) (c : Nat) (K : Int) (w : World) :
    Calls Try.prog 125 #[.slice A 0 c, .int .i64 K] w fun e w' => e = .returned (.int .i64 K) ∧ w' = w := by
  go_enter Try.func125, Try.ntmps125
  go_wp2_with fail
  refine wp_loop_rounds 1 ?_
  rw [rounds_succ]
  go_wp2_with fail
  go_ret
  exact ⟨rfl, rfl⟩
theorem markRollO_any (base top : Nat) (v : Value) (K : Int) (xs : List R6) (w : World) (hK : 0 ≤ K) (hK2 : K ≤ 100000000000000) (hl : xs.length ≤ 1048576) (h : ORow w base top 48 6 v xs.length (rls xs)) :
    Calls Try.prog 125 #[v, .int .i64 K] w (MarkPR base top v xs.length K w) := by
  by_cases hn : xs.length = 0
  · rw [hn] at h ⊢
    obtain ⟨_, A, c, rfl⟩ := h.nil
    refine (markRoll0_any A c K w).mono ?_
    rintro e w' ⟨rfl, rfl⟩
    exact ⟨by simp, ORow.of_nil _ _ _ _ _ _ _, Chg.refl _ _⟩
  · rcases h with ⟨h, ht⟩ | ⟨h0, _⟩
    · refine (markRollS_any base v K xs w hK hK2 hl h).mono ?_
      rintro e w' ⟨rfl, h1, h2, h3⟩
      exact ⟨rfl, .inl ⟨h1, ht⟩, Chg.grown h3 (fun k hk => by unfold obk; rw [if_neg hn]; exact hk)⟩
    · exact absurd h0 hn
end Go.Proofs.Ytcjpedolmnahfaa
