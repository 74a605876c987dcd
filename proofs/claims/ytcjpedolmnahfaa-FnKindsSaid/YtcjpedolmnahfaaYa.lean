/- Walks: slices of rolls: the laws' own helpers. -/
import Derived.Test.YtcjpedolmnahfaaGb
import Derived.Deep.Slices
set_option linter.unusedVariables false
set_option linter.unusedSimpArgs false
namespace Go.Proofs.Ytcjpedolmnahfaa
open Go.RowKit

abbrev R6 := Int × Int × Int × Int × Int × Int
abbrev z6 : R6 := (0, 0, 0, 0, 0, 0)
def rl6 (p : R6) : List Value := [.int .i64 p.1, .int .i64 p.2.1, .int .i64 p.2.2.1, .int .i64 p.2.2.2.1, .int .i64 p.2.2.2.2.1, .int .i64 p.2.2.2.2.2]
def rls (xs : List R6) : List Value := xs.flatMap rl6
theorem rls_cons (p : R6) (xs : List R6) : rls (p :: xs) = .int .i64 p.1 :: .int .i64 p.2.1 :: .int .i64 p.2.2.1 :: .int .i64 p.2.2.2.1 :: .int .i64 p.2.2.2.2.1 :: .int .i64 p.2.2.2.2.2 :: rls xs := rfl
theorem rls_length (xs : List R6) : (rls xs).length = xs.length * 6 := by
  induction xs with
  | nil => rfl
  | cons p xs ih => rw [rls_cons]; simp only [List.length_cons]; rw [ih]; omega
theorem rls_append (xs ys : List R6) : rls (xs ++ ys) = rls xs ++ rls ys := by simp [rls]
theorem rls_get0 : ∀ (xs : List R6) (j : Nat), j < xs.length → (rls xs)[j * 6]? = some (.int .i64 (xs.getD j z6).1)
  | p :: xs, 0, _ => rfl
  | p :: xs, j + 1, h => by rw [rls_cons, show (j + 1) * 6 = j * 6 + 1 + 1 + 1 + 1 + 1 + 1 by omega, List.getElem?_cons_succ, List.getElem?_cons_succ, List.getElem?_cons_succ, List.getElem?_cons_succ, List.getElem?_cons_succ, List.getElem?_cons_succ, rls_get0 xs j (by simpa using h)]; rfl
theorem rls_get1 : ∀ (xs : List R6) (j : Nat), j < xs.length → (rls xs)[j * 6 + 1]? = some (.int .i64 (xs.getD j z6).2.1)
  | p :: xs, 0, _ => rfl
  | p :: xs, j + 1, h => by rw [rls_cons, show (j + 1) * 6 + 1 = j * 6 + 1 + 1 + 1 + 1 + 1 + 1 + 1 by omega, List.getElem?_cons_succ, List.getElem?_cons_succ, List.getElem?_cons_succ, List.getElem?_cons_succ, List.getElem?_cons_succ, List.getElem?_cons_succ, rls_get1 xs j (by simpa using h)]; rfl
theorem rls_get2 : ∀ (xs : List R6) (j : Nat), j < xs.length → (rls xs)[j * 6 + 2]? = some (.int .i64 (xs.getD j z6).2.2.1)
  | p :: xs, 0, _ => rfl
  | p :: xs, j + 1, h => by rw [rls_cons, show (j + 1) * 6 + 2 = j * 6 + 2 + 1 + 1 + 1 + 1 + 1 + 1 by omega, List.getElem?_cons_succ, List.getElem?_cons_succ, List.getElem?_cons_succ, List.getElem?_cons_succ, List.getElem?_cons_succ, List.getElem?_cons_succ, rls_get2 xs j (by simpa using h)]; rfl
theorem rls_get3 : ∀ (xs : List R6) (j : Nat), j < xs.length → (rls xs)[j * 6 + 3]? = some (.int .i64 (xs.getD j z6).2.2.2.1)
  | p :: xs, 0, _ => rfl
  | p :: xs, j + 1, h => by rw [rls_cons, show (j + 1) * 6 + 3 = j * 6 + 3 + 1 + 1 + 1 + 1 + 1 + 1 by omega, List.getElem?_cons_succ, List.getElem?_cons_succ, List.getElem?_cons_succ, List.getElem?_cons_succ, List.getElem?_cons_succ, List.getElem?_cons_succ, rls_get3 xs j (by simpa using h)]; rfl
theorem rls_get4 : ∀ (xs : List R6) (j : Nat), j < xs.length → (rls xs)[j * 6 + 4]? = some (.int .i64 (xs.getD j z6).2.2.2.2.1)
  | p :: xs, 0, _ => rfl
  | p :: xs, j + 1, h => by rw [rls_cons, show (j + 1) * 6 + 4 = j * 6 + 4 + 1 + 1 + 1 + 1 + 1 + 1 by omega, List.getElem?_cons_succ, List.getElem?_cons_succ, List.getElem?_cons_succ, List.getElem?_cons_succ, List.getElem?_cons_succ, List.getElem?_cons_succ, rls_get4 xs j (by simpa using h)]; rfl
theorem rls_get5 : ∀ (xs : List R6) (j : Nat), j < xs.length → (rls xs)[j * 6 + 5]? = some (.int .i64 (xs.getD j z6).2.2.2.2.2)
  | p :: xs, 0, _ => rfl
  | p :: xs, j + 1, h => by rw [rls_cons, show (j + 1) * 6 + 5 = j * 6 + 5 + 1 + 1 + 1 + 1 + 1 + 1 by omega, List.getElem?_cons_succ, List.getElem?_cons_succ, List.getElem?_cons_succ, List.getElem?_cons_succ, List.getElem?_cons_succ, List.getElem?_cons_succ, rls_get5 xs j (by simpa using h)]; rfl
theorem rls_set : ∀ (xs : List R6) (k : Nat) (a b c d g q : Int), k < xs.length → ((((((rls xs).set (k * 6) (.int .i64 a)).set (k * 6 + 1) (.int .i64 b)).set (k * 6 + 2) (.int .i64 c)).set (k * 6 + 3) (.int .i64 d)).set (k * 6 + 4) (.int .i64 g)).set (k * 6 + 5) (.int .i64 q) = rls (xs.set k (a, b, c, d, g, q))
  | p :: xs, 0, a, b, c, d, g, q, _ => rfl
  | p :: xs, k + 1, a, b, c, d, g, q, h => by
    rw [rls_cons, show (k + 1) * 6 = k * 6 + 1 + 1 + 1 + 1 + 1 + 1 by omega]
    simp only [List.set_cons_succ]
    rw [rls_set xs k a b c d g q (by simpa using h)]; rfl
theorem made_rls (n : Nat) : (madeCells #[Value.int .i64 0, Value.int .i64 0, Value.int .i64 0, Value.int .i64 0, Value.int .i64 0, Value.int .i64 0] (n * 6)).toList = rls (List.replicate n z6) := by
  have hl : ∀ n, (rls (List.replicate n z6)).length = n * 6 := fun n => by rw [rls_length, List.length_replicate]
  have h6 : ∀ n, rls (List.replicate n z6) = List.replicate (n * 6) (Value.int .i64 0) := by
    intro n
    induction n with
    | zero => rfl
    | succ n ih =>
      rw [List.replicate_succ, rls_cons, ih, show (n + 1) * 6 = n * 6 + 1 + 1 + 1 + 1 + 1 + 1 by omega]
      simp only [List.replicate_succ]
  rw [h6]
  apply List.ext_getElem?
  intro i
  by_cases hi : i < n * 6
  · have hm : i % 6 = 0 ∨ i % 6 = 1 ∨ i % 6 = 2 ∨ i % 6 = 3 ∨ i % 6 = 4 ∨ i % 6 = 5 := by omega
    rcases hm with h | h | h | h | h | h <;> simp [madeCells, hi, h]
  · rw [List.getElem?_eq_none (l := List.replicate _ _) (by simp; omega), List.getElem?_eq_none (by simp [madeCells]; omega)]

def Rng6 (p : R6) : Prop := Rng p.1 ∧ Rng p.2.1 ∧ Rng p.2.2.1 ∧ Rng p.2.2.2.1 ∧ Rng p.2.2.2.2.1 ∧ Rng p.2.2.2.2.2
theorem rng6_zero : Rng6 z6 := ⟨rng_zero, rng_zero, rng_zero, rng_zero, rng_zero, rng_zero⟩
/-- the slice v reads as the rolls xs in the blocks below B -/
def RL (w : World) (B : Nat) (v : Value) (xs : List R6) : Prop :=
  (∀ j, Rng6 (xs.getD j z6)) ∧ xs.length ≤ 1048576 ∧ ∃ A c, v = .slice A xs.length c ∧
    (xs = [] ∨ ∃ b off, A = some ⟨b, off, none⟩ ∧ b < B ∧ ∀ j, j < xs.length → w.cell? ⟨b, off + j * 6, none⟩ = some (.int .i64 (xs.getD j z6).1) ∧ w.cell? ⟨b, off + j * 6 + 1, none⟩ = some (.int .i64 (xs.getD j z6).2.1) ∧ w.cell? ⟨b, off + j * 6 + 2, none⟩ = some (.int .i64 (xs.getD j z6).2.2.1) ∧ w.cell? ⟨b, off + j * 6 + 3, none⟩ = some (.int .i64 (xs.getD j z6).2.2.2.1) ∧ w.cell? ⟨b, off + j * 6 + 4, none⟩ = some (.int .i64 (xs.getD j z6).2.2.2.2.1) ∧ w.cell? ⟨b, off + j * 6 + 5, none⟩ = some (.int .i64 (xs.getD j z6).2.2.2.2.2))
theorem RL.below {w w' : World} {B : Nat} {v : Value} {xs : List R6} (h : RL w B v xs) (hb : Below B w w') : RL w' B v xs := by
  obtain ⟨h1, h2, A, c, rfl, h3⟩ := h
  refine ⟨h1, h2, A, c, rfl, ?_⟩
  rcases h3 with h3 | ⟨b, off, rfl, hlt, hc⟩
  · exact .inl h3
  · exact .inr ⟨b, off, rfl, hlt, fun j hj => ⟨(hb.cell (p := ⟨b, off + j * 6, none⟩) hlt).trans (hc j hj).1, (hb.cell (p := ⟨b, off + j * 6 + 1, none⟩) hlt).trans (hc j hj).2.1, (hb.cell (p := ⟨b, off + j * 6 + 2, none⟩) hlt).trans (hc j hj).2.2.1, (hb.cell (p := ⟨b, off + j * 6 + 3, none⟩) hlt).trans (hc j hj).2.2.2.1, (hb.cell (p := ⟨b, off + j * 6 + 4, none⟩) hlt).trans (hc j hj).2.2.2.2.1, (hb.cell (p := ⟨b, off + j * 6 + 5, none⟩) hlt).trans (hc j hj).2.2.2.2.2⟩⟩
theorem RL.up {w : World} {B B' : Nat} {v : Value} {xs : List R6} (h : RL w B v xs) (hB : B ≤ B') : RL w B' v xs := by
  obtain ⟨h1, h2, A, c, rfl, h3⟩ := h
  refine ⟨h1, h2, A, c, rfl, ?_⟩
  rcases h3 with h3 | ⟨b, off, rfl, hlt, hc⟩
  · exact .inl h3
  · exact .inr ⟨b, off, rfl, by omega, hc⟩
theorem RL.of_own {w : World} {base : Nat} {v : Value} {n : Nat} {xs : List R6} (h : w.ownsRow base 48 6 v n (rls xs)) (hn : n = xs.length) (hr : ∀ j, Rng6 (xs.getD j z6)) (hl : xs.length ≤ 1048576) : RL w w.heap.size v xs := by
  subst hn
  refine ⟨hr, hl, ?_⟩
  rcases h.2 with ⟨rfl, h0⟩ | ⟨g, cap, cur, rfl, hb, hg, _⟩
  · exact ⟨none, 0, by rw [h0], .inl (List.eq_nil_of_length_eq_zero h0)⟩
  · refine ⟨_, cap, rfl, .inr ⟨g, 0, rfl, (Array.getElem?_eq_some_iff.1 hg).1, fun j hj => ⟨?_, ?_, ?_, ?_, ?_, ?_⟩⟩⟩
    · rw [Nat.zero_add, h.cellAt (j * 6) (by omega)]
      exact rls_get0 _ _ hj
    · rw [Nat.zero_add, h.cellAt (j * 6 + 1) (by omega)]
      exact rls_get1 _ _ hj
    · rw [Nat.zero_add, h.cellAt (j * 6 + 2) (by omega)]
      exact rls_get2 _ _ hj
    · rw [Nat.zero_add, h.cellAt (j * 6 + 3) (by omega)]
      exact rls_get3 _ _ hj
    · rw [Nat.zero_add, h.cellAt (j * 6 + 4) (by omega)]
      exact rls_get4 _ _ hj
    · rw [Nat.zero_add, h.cellAt (j * 6 + 5) (by omega)]
      exact rls_get5 _ _ hj
theorem rls_ext {xs ys : List R6} (hl : xs.length = ys.length) (h : ∀ j, j < xs.length → xs.getD j z6 = ys.getD j z6) : xs = ys := by
  apply List.ext_getElem hl
  intro j h1 h2
  have := h j h1
  simpa [List.getD_eq_getElem?_getD, h1, h2] using this
theorem getD_set_rl (l : List R6) (k j : Nat) (x : R6) (hk : k < l.length) : (l.set k x).getD j z6 = if j = k then x else l.getD j z6 := by
  simp only [List.getD_eq_getElem?_getD, List.getElem?_set]
  by_cases e : k = j
  · subst e; simp [hk]
  · have e' : ¬ j = k := fun h => e h.symm
    simp [e, e']
theorem rl_of (x : Addr) (n cap : Nat) (w : World) (V0 V1 V2 V3 V4 V5 : Nat → Value) (hn : n ≤ 1048576)
    (h : ∀ i, i < n → w.cell? (x.add (i * 6)) = some (V0 i) ∧ w.cell? (x.add (i * 6 + 1)) = some (V1 i) ∧ w.cell? (x.add (i * 6 + 2)) = some (V2 i) ∧ w.cell? (x.add (i * 6 + 3)) = some (V3 i) ∧ w.cell? (x.add (i * 6 + 4)) = some (V4 i) ∧ w.cell? (x.add (i * 6 + 5)) = some (V5 i) ∧ (∃ a, V0 i = .int .i64 a ∧ Rng a) ∧ (∃ a, V1 i = .int .i64 a ∧ Rng a) ∧ (∃ a, V2 i = .int .i64 a ∧ Rng a) ∧ (∃ a, V3 i = .int .i64 a ∧ Rng a) ∧ (∃ a, V4 i = .int .i64 a ∧ Rng a) ∧ (∃ a, V5 i = .int .i64 a ∧ Rng a)) :
    ∃ xs : List R6, xs.length = n ∧ RL w w.heap.size (.slice (some x) n cap) xs := by
  have hg : ∀ i, i < n → ((List.range n).map fun i => ((intOf (V0 i), intOf (V1 i), intOf (V2 i), intOf (V3 i), intOf (V4 i), intOf (V5 i)) : R6)).getD i z6 = (intOf (V0 i), intOf (V1 i), intOf (V2 i), intOf (V3 i), intOf (V4 i), intOf (V5 i)) := by
    intro i hi; simp [List.getD_eq_getElem?_getD, hi]
  refine ⟨(List.range n).map fun i => ((intOf (V0 i), intOf (V1 i), intOf (V2 i), intOf (V3 i), intOf (V4 i), intOf (V5 i)) : R6), by simp, ?_, by simpa using hn, some x, cap, by simp, ?_⟩
  · intro j
    by_cases hj : j < n
    · rw [hg j hj]
      obtain ⟨_, _, _, _, _, _, ⟨a0, e0, r0⟩, ⟨a1, e1, r1⟩, ⟨a2, e2, r2⟩, ⟨a3, e3, r3⟩, ⟨a4, e4, r4⟩, ⟨a5, e5, r5⟩⟩ := h j hj
      rw [e0, e1, e2, e3, e4, e5]; exact ⟨r0, r1, r2, r3, r4, r5⟩
    · rw [List.getD_eq_getElem?_getD, List.getElem?_eq_none (by simp; omega)]; exact rng6_zero
  · by_cases h0 : n = 0
    · subst h0; exact .inl rfl
    · right
      obtain ⟨b, off, spot⟩ := x
      obtain ⟨c0, _⟩ := h 0 (by omega)
      have hspot : spot = none := by simpa [Addr.add] using World.cell?_spot c0
      subst hspot
      have hadd : ∀ j, (⟨b, off, none⟩ : Addr).add j = ⟨b, off + j, none⟩ := fun j => by unfold Addr.add; split <;> simp_all
      refine ⟨b, off, rfl, ?_, fun j hj => ?_⟩
      · rw [hadd] at c0; exact World.block_lt_of_cell? w _ c0
      · have hj' : j < n := by simpa using hj
        obtain ⟨d0, d1, d2, d3, d4, d5, ⟨a0, e0, r0⟩, ⟨a1, e1, r1⟩, ⟨a2, e2, r2⟩, ⟨a3, e3, r3⟩, ⟨a4, e4, r4⟩, ⟨a5, e5, r5⟩⟩ := h j hj'
        rw [hadd] at d0 d1 d2 d3 d4 d5
        rw [← Nat.add_assoc] at d1 d2 d3 d4 d5
        rw [hg j hj', d0, d1, d2, d3, d4, d5, e0, e1, e2, e3, e4, e5]
        exact ⟨rfl, rfl, rfl, rfl, rfl, rfl⟩
theorem rl_nil (w : World) (c : Nat) (A : Option Addr) : RL w w.heap.size (.slice A 0 c) [] :=
  ⟨fun j => by simpa using rng6_zero, by simp, A, c, rfl, .inl rfl⟩
def ROwnPost (base : Nat) (xs : List R6) (w : World) (e : Ending) (w' : World) : Prop :=
  ∃ v, e = .returned v ∧ w'.ownsRow base 48 6 v xs.length (rls xs) ∧ Below w.heap.size w w'
theorem rne_of_len {xs ys : List R6} (h : ¬ xs.length = ys.length) : decide (xs = ys) = false := by
  rw [decide_eq_false_iff_not]; intro e; exact h (by rw [e])
theorem rne_of_get {xs ys : List R6} (k : Nat) (h : ¬ xs.getD k z6 = ys.getD k z6) : decide (xs = ys) = false := by
  rw [decide_eq_false_iff_not]; intro e; exact h (by rw [e])
theorem info_rl : (Try.prog.info? 48).map (fun i => (i.zero, i.size, i.bytes)) = some (some (.agg #[.int .i64 0, .int .i64 0, .int .i64 0, .int .i64 0, .int .i64 0, .int .i64 0]), 6, 48) := by kernel_rfl

set_option maxRecDepth 100000 in
set_option maxHeartbeats 1000000 in
theorem toRoll_any (a b c d g q : Int) (w : World) :
    Calls Try.prog 135 #[.agg #[.int .i64 a, .int .i64 b, .int .i64 c, .int .i64 d, .int .i64 g, .int .i64 q]] w fun e w' => e = .returned (.agg #[.int .i64 a, .int .i64 b, .int .i64 c, .int .i64 d, .int .i64 g, .int .i64 q]) ∧ Below w.heap.size w w' := by
  go_enter Try.func135, Try.ntmps135
  go_wp2
  exact bodyPost_ret (v := .agg #[.int .i64 a, .int .i64 b, .int .i64 c, .int .i64 d, .int .i64 g, .int .i64 q]) (by simp [results, Try.results135, go_sem]) rfl ⟨rfl, by
    repeat (first | exact Below.refl _ _ | refine Below.alloc ?_ (by simp; try omega) _ | refine Below.setCell ?_ (by simp; try omega) _ | refine Below.drew ?_)⟩

set_option maxRecDepth 100000 in
set_option maxHeartbeats 2000000 in
theorem toRollS_any (v : Value) (xs : List R6) (w : World) (h : RL w w.heap.size v xs) :
    Calls Try.prog 133 #[v] w (ROwnPost w.heap.size xs w) := by
  obtain ⟨hr, hlen, A, c, rfl, h3⟩ := h
  have Hr := Lib.hid hr
  clear hr
  obtain ⟨i0, hi, hz0, hz1, hz2⟩ := info_parts info_rl
  have hT := Lib.hid (fun a b c d g q W => toRoll_any a b c d g q W)
  go_enter Try.func133, Try.ntmps133
  go_wp2_with (at_make; refine wpList_make_full _ rfl _ _ 44 rfl w.heap.size 48 i0 (.agg #[.int .i64 0, .int .i64 0, .int .i64 0, .int .i64 0, .int .i64 0, .int .i64 0]) 6 Try.underlying44 hi hz0 hz1 _ _ _ _ xs.length rfl rfl rfl rfl ?b2 ?b3 ?b4 ?_)
  case b2 => rw [hz2]; omega
  case b3 => unfold maxLen; omega
  case b4 => exact Nat.le_refl _
  intro w1 hown hgrow
  rw [made_rls] at hown
  have hb1 : Below w.heap.size w w1 := (Below.refl _ _).grown hgrow (Nat.le_refl _) (fun k hk => by cases hk)
  clear hgrow
  go_wp2_with fail
  go_loopw [4] (fun i wr => ∃ (k : Nat) (l : List R6), k ≤ xs.length ∧ i = .int .i64 k ∧ l.length = xs.length ∧ (∀ j, j < k → l.getD j z6 = xs.getD j z6) ∧
      wr.ownsRow w.heap.size 48 6 (.slice (some ⟨w.heap.size, 0, none⟩) xs.length xs.length) xs.length (rls l) ∧ Below w.heap.size w wr)
    (fun i _ => xs.length - (intOf i).toNat)
  case atStart => exact ⟨0, List.replicate xs.length z6, Nat.zero_le _, rfl, by simp, fun j hj => by omega, hown, hb1⟩
  case round =>
    clear hown hb1
    obtain ⟨k, l, hk, rfl, hll, hag, hown, hb1⟩ := hrel
    have Hag := Lib.hid hag
    have Hll := Lib.hid hll
    clear hag hll
    by_cases hlt : k < xs.length
    · rcases h3 with h3 | ⟨b, off, rfl, hbl, hc⟩
      · subst h3; simp at hlt
      have hx0 : wr.cell? ⟨b, off + k * 6, none⟩ = some (.int .i64 (xs.getD k z6).1) := (hb1.cell (p := ⟨b, off + k * 6, none⟩) hbl).trans (hc k hlt).1
      have hx1 : wr.cell? ⟨b, off + k * 6 + 1, none⟩ = some (.int .i64 (xs.getD k z6).2.1) := (hb1.cell (p := ⟨b, off + k * 6 + 1, none⟩) hbl).trans (hc k hlt).2.1
      have hx2 : wr.cell? ⟨b, off + k * 6 + 2, none⟩ = some (.int .i64 (xs.getD k z6).2.2.1) := (hb1.cell (p := ⟨b, off + k * 6 + 2, none⟩) hbl).trans (hc k hlt).2.2.1
      have hx3 : wr.cell? ⟨b, off + k * 6 + 3, none⟩ = some (.int .i64 (xs.getD k z6).2.2.2.1) := (hb1.cell (p := ⟨b, off + k * 6 + 3, none⟩) hbl).trans (hc k hlt).2.2.2.1
      have hx4 : wr.cell? ⟨b, off + k * 6 + 4, none⟩ = some (.int .i64 (xs.getD k z6).2.2.2.2.1) := (hb1.cell (p := ⟨b, off + k * 6 + 4, none⟩) hbl).trans (hc k hlt).2.2.2.2.1
      have hx5 : wr.cell? ⟨b, off + k * 6 + 5, none⟩ = some (.int .i64 (xs.getD k z6).2.2.2.2.2) := (hb1.cell (p := ⟨b, off + k * 6 + 5, none⟩) hbl).trans (hc k hlt).2.2.2.2.2
      obtain ⟨x0, x1, x2, x3, x4, x5, hX⟩ : ∃ x0 x1 x2 x3 x4 x5, xs.getD k z6 = (x0, x1, x2, x3, x4, x5) := ⟨_, _, _, _, _, _, rfl⟩
      rw [hX] at hx0 hx1 hx2 hx3 hx4 hx5
      have HX := Lib.hid hX
      clear hX hc
      go_wp2_with fail
      refine (hT.out _ _ _ _ _ _ _).mono ?_
      rintro e w2 ⟨rfl, hb2⟩
      have hown2 := u_own_below hown hb2
      have hb3 := hb1.trans (hb2.mono hb1.size)
      clear hb2 hb1 hown hx0 hx1 hx2 hx3 hx4 hx5
      have c0 : w2.cell? ⟨w.heap.size, k * 6, none⟩ = some (.int .i64 (l.getD k z6).1) := by
        rw [hown2.cellAt _ (by omega)]; exact rls_get0 _ _ (by have := Hll.out; omega)
      have c1 : w2.cell? ⟨w.heap.size, k * 6 + 1, none⟩ = some (.int .i64 (l.getD k z6).2.1) := by
        rw [hown2.cellAt _ (by omega)]; exact rls_get1 _ _ (by have := Hll.out; omega)
      have c2 : w2.cell? ⟨w.heap.size, k * 6 + 2, none⟩ = some (.int .i64 (l.getD k z6).2.2.1) := by
        rw [hown2.cellAt _ (by omega)]; exact rls_get2 _ _ (by have := Hll.out; omega)
      have c3 : w2.cell? ⟨w.heap.size, k * 6 + 3, none⟩ = some (.int .i64 (l.getD k z6).2.2.2.1) := by
        rw [hown2.cellAt _ (by omega)]; exact rls_get3 _ _ (by have := Hll.out; omega)
      have c4 : w2.cell? ⟨w.heap.size, k * 6 + 4, none⟩ = some (.int .i64 (l.getD k z6).2.2.2.2.1) := by
        rw [hown2.cellAt _ (by omega)]; exact rls_get4 _ _ (by have := Hll.out; omega)
      have c5 : w2.cell? ⟨w.heap.size, k * 6 + 5, none⟩ = some (.int .i64 (l.getD k z6).2.2.2.2.2) := by
        rw [hown2.cellAt _ (by omega)]; exact rls_get5 _ _ (by have := Hll.out; omega)
      have f0 : w2.frozen? ⟨w.heap.size, k * 6, none⟩ = false := hown2.frozenAt _
      have f1 : w2.frozen? ⟨w.heap.size, k * 6 + 1, none⟩ = false := hown2.frozenAt _
      have f2 : w2.frozen? ⟨w.heap.size, k * 6 + 2, none⟩ = false := hown2.frozenAt _
      have f3 : w2.frozen? ⟨w.heap.size, k * 6 + 3, none⟩ = false := hown2.frozenAt _
      have f4 : w2.frozen? ⟨w.heap.size, k * 6 + 4, none⟩ = false := hown2.frozenAt _
      have f5 : w2.frozen? ⟨w.heap.size, k * 6 + 5, none⟩ = false := hown2.frozenAt _
      generalize (l.getD k z6).1 = o0 at c0
      generalize (l.getD k z6).2.1 = o1 at c1
      generalize (l.getD k z6).2.2.1 = o2 at c2
      generalize (l.getD k z6).2.2.2.1 = o3 at c3
      generalize (l.getD k z6).2.2.2.2.1 = o4 at c4
      generalize (l.getD k z6).2.2.2.2.2 = o5 at c5
      have hst0 := hown2.stored (k * 6) (.int .i64 x0)
      have hst1 := hst0.1.stored (k * 6 + 1) (.int .i64 x1)
      have hst2 := hst1.1.stored (k * 6 + 2) (.int .i64 x2)
      have hst3 := hst2.1.stored (k * 6 + 3) (.int .i64 x3)
      have hst4 := hst3.1.stored (k * 6 + 4) (.int .i64 x4)
      have hst5 := hst4.1.stored (k * 6 + 5) (.int .i64 x5)
      have hown4 := hst5.1
      rw [rls_set l k x0 x1 x2 x3 x4 x5 (by have := Hll.out; omega)] at hown4
      have hb4 := ((((((hb3.setCell (show w.heap.size ≤ (⟨w.heap.size, k * 6, none⟩ : Addr).block by simp) (.int .i64 x0)).setCell (show w.heap.size ≤ (⟨w.heap.size, k * 6 + 1, none⟩ : Addr).block by simp) (.int .i64 x1)).setCell (show w.heap.size ≤ (⟨w.heap.size, k * 6 + 2, none⟩ : Addr).block by simp) (.int .i64 x2)).setCell (show w.heap.size ≤ (⟨w.heap.size, k * 6 + 3, none⟩ : Addr).block by simp) (.int .i64 x3)).setCell (show w.heap.size ≤ (⟨w.heap.size, k * 6 + 4, none⟩ : Addr).block by simp) (.int .i64 x4)).setCell (show w.heap.size ≤ (⟨w.heap.size, k * 6 + 5, none⟩ : Addr).block by simp) (.int .i64 x5))
      have HO := Lib.hid hown4
      have HB := Lib.hid hb4
      clear hst0 hst1 hst2 hst3 hst4 hst5 hown4 hb4 hown2 hb3
      go_wp2_with fail
      go_roundw
      case rel =>
        have h1 := HO.out
        have h2 := HB.out
        have h0 := Hll.out
        clear HO HB
        refine ⟨k + 1, l.set k (x0, x1, x2, x3, x4, x5), by omega, by go_num, by simpa using h0, fun j hj => ?_, ?_, ?_⟩
        case refine_2 => with_reducible exact h1
        case refine_3 => with_reducible exact h2
        rw [getD_set_rl _ _ _ _ (by have := Hll.out; omega)]
        by_cases e : j = k
        · subst e; rw [if_pos rfl]; exact HX.out.symm
        · rw [if_neg e]; exact Hag.out j (by omega)
      case measure => simp [intOf]; omega
    · obtain rfl : k = xs.length := by omega
      have e : l = xs := rls_ext Hll.out (fun j hj => Hag.out j (by have := Hll.out; omega))
      subst e
      go_wp2_with fail
      go_ret
      exact ⟨_, rfl, hown, hb1⟩

set_option maxRecDepth 100000 in
set_option maxHeartbeats 1000000 in
theorem eqRoll_any (a b c d g q h i j k m n : Int) (w : World) :
    Calls Try.prog 136 #[.agg #[.int .i64 a, .int .i64 b, .int .i64 c, .int .i64 d, .int .i64 g, .int .i64 q], .agg #[.int .i64 h, .int .i64 i, .int .i64 j, .int .i64 k, .int .i64 m, .int .i64 n]] w (BoolPost (decide ((a, b, c, d, g, q) = (h, i, j, k, m, n))) w) := by
  by_cases h0 : a = h
  case neg =>
    have hn : decide ((a, b, c, d, g, q) = (h, i, j, k, m, n)) = false := by simp [h0]
    rw [hn]
    have hbne : (a != h) = true := by simpa using h0
    have hde : decide (a = h) = false := by simpa using h0
    clear hn
    go_enter Try.func136, Try.ntmps136
    go_wp2
    go_ret
    exact ⟨rfl, by
      repeat (first | exact Below.refl _ _ | refine Below.alloc ?_ (by simp; try omega) _ | refine Below.setCell ?_ (by simp; try omega) _ | refine Below.drew ?_)⟩
  subst h0
  by_cases h1 : b = i
  case neg =>
    have hn : decide ((a, b, c, d, g, q) = (a, i, j, k, m, n)) = false := by simp [h1]
    rw [hn]
    have hbne : (b != i) = true := by simpa using h1
    have hde : decide (b = i) = false := by simpa using h1
    clear hn
    go_enter Try.func136, Try.ntmps136
    go_wp2
    go_ret
    exact ⟨rfl, by
      repeat (first | exact Below.refl _ _ | refine Below.alloc ?_ (by simp; try omega) _ | refine Below.setCell ?_ (by simp; try omega) _ | refine Below.drew ?_)⟩
  subst h1
  by_cases h2 : c = j
  case neg =>
    have hn : decide ((a, b, c, d, g, q) = (a, b, j, k, m, n)) = false := by simp [h2]
    rw [hn]
    have hbne : (c != j) = true := by simpa using h2
    have hde : decide (c = j) = false := by simpa using h2
    clear hn
    go_enter Try.func136, Try.ntmps136
    go_wp2
    go_ret
    exact ⟨rfl, by
      repeat (first | exact Below.refl _ _ | refine Below.alloc ?_ (by simp; try omega) _ | refine Below.setCell ?_ (by simp; try omega) _ | refine Below.drew ?_)⟩
  subst h2
  by_cases h3 : d = k
  case neg =>
    have hn : decide ((a, b, c, d, g, q) = (a, b, c, k, m, n)) = false := by simp [h3]
    rw [hn]
    have hbne : (d != k) = true := by simpa using h3
    have hde : decide (d = k) = false := by simpa using h3
    clear hn
    go_enter Try.func136, Try.ntmps136
    go_wp2
    go_ret
    exact ⟨rfl, by
      repeat (first | exact Below.refl _ _ | refine Below.alloc ?_ (by simp; try omega) _ | refine Below.setCell ?_ (by simp; try omega) _ | refine Below.drew ?_)⟩
  subst h3
  by_cases h4 : g = m
  case neg =>
    have hn : decide ((a, b, c, d, g, q) = (a, b, c, d, m, n)) = false := by simp [h4]
    rw [hn]
    have hbne : (g != m) = true := by simpa using h4
    have hde : decide (g = m) = false := by simpa using h4
    clear hn
    go_enter Try.func136, Try.ntmps136
    go_wp2
    go_ret
    exact ⟨rfl, by
      repeat (first | exact Below.refl _ _ | refine Below.alloc ?_ (by simp; try omega) _ | refine Below.setCell ?_ (by simp; try omega) _ | refine Below.drew ?_)⟩
  subst h4
  by_cases h5 : q = n
  case neg =>
    have hn : decide ((a, b, c, d, g, q) = (a, b, c, d, g, n)) = false := by simp [h5]
    rw [hn]
    have hbne : (q != n) = true := by simpa using h5
    have hde : decide (q = n) = false := by simpa using h5
    clear hn
    go_enter Try.func136, Try.ntmps136
    go_wp2
    go_ret
    exact ⟨rfl, by
      repeat (first | exact Below.refl _ _ | refine Below.alloc ?_ (by simp; try omega) _ | refine Below.setCell ?_ (by simp; try omega) _ | refine Below.drew ?_)⟩
  subst h5
  rw [show decide ((a, b, c, d, g, q) = (a, b, c, d, g, q)) = true by simp]
  go_enter Try.func136, Try.ntmps136
  go_wp2
  go_ret
  exact ⟨rfl, by
    repeat (first | exact Below.refl _ _ | refine Below.alloc ?_ (by simp; try omega) _ | refine Below.setCell ?_ (by simp; try omega) _ | refine Below.drew ?_)⟩

set_option maxRecDepth 100000 in
set_option maxHeartbeats 2000000 in
theorem eqRollS_any (v u : Value) (xs ys : List R6) (w : World) (h : RL w w.heap.size v xs) (h' : RL w w.heap.size u ys) :
    Calls Try.prog 134 #[v, u] w (BoolPost (decide (xs = ys)) w) := by
  obtain ⟨hr, hlen, A, c, rfl, h3⟩ := h
  obtain ⟨hr', hlen', A', c', rfl, h3'⟩ := h'
  have Hr := Lib.hid hr
  have Hr' := Lib.hid hr'
  clear hr hr'
  have hE := Lib.hid (fun a b c d g q h i j k m n W => eqRoll_any a b c d g q h i j k m n W)
  by_cases hl : xs.length = ys.length
  · have Hl := Lib.hid hl
    have hne : decide ((xs.length : Int) = (ys.length : Int)) = true := by simp; omega
    have hbne : ((xs.length : Int) != (ys.length : Int)) = false := by simp; omega
    clear hl
    go_enter Try.func134, Try.ntmps134
    go_wp2_with fail
    go_loopw [5] (fun i wr => ∃ k : Nat, k ≤ xs.length ∧ i = .int .i64 k ∧ (∀ j, j < k → xs.getD j z6 = ys.getD j z6) ∧ Below w.heap.size w wr) (fun i _ => xs.length - (intOf i).toNat)
    case atStart => exact ⟨0, Nat.zero_le _, rfl, fun j hj => by omega, Below.refl _ _⟩
    case round =>
      obtain ⟨k, hk, rfl, hag, hb⟩ := hrel
      have Hag := Lib.hid hag
      clear hag
      by_cases hlt : k < xs.length
      · have hlt' : k < ys.length := by have := Hl.out; omega
        rcases h3 with h3 | ⟨b, off, rfl, hbl, hc⟩
        · subst h3; simp at hlt
        rcases h3' with h3' | ⟨b', off', rfl, hbl', hc'⟩
        · subst h3'; simp at hlt'
        have hx0 : wr.cell? ⟨b, off + k * 6, none⟩ = some (.int .i64 (xs.getD k z6).1) := (hb.cell (p := ⟨b, off + k * 6, none⟩) hbl).trans (hc k hlt).1
        have hx1 : wr.cell? ⟨b, off + k * 6 + 1, none⟩ = some (.int .i64 (xs.getD k z6).2.1) := (hb.cell (p := ⟨b, off + k * 6 + 1, none⟩) hbl).trans (hc k hlt).2.1
        have hx2 : wr.cell? ⟨b, off + k * 6 + 2, none⟩ = some (.int .i64 (xs.getD k z6).2.2.1) := (hb.cell (p := ⟨b, off + k * 6 + 2, none⟩) hbl).trans (hc k hlt).2.2.1
        have hx3 : wr.cell? ⟨b, off + k * 6 + 3, none⟩ = some (.int .i64 (xs.getD k z6).2.2.2.1) := (hb.cell (p := ⟨b, off + k * 6 + 3, none⟩) hbl).trans (hc k hlt).2.2.2.1
        have hx4 : wr.cell? ⟨b, off + k * 6 + 4, none⟩ = some (.int .i64 (xs.getD k z6).2.2.2.2.1) := (hb.cell (p := ⟨b, off + k * 6 + 4, none⟩) hbl).trans (hc k hlt).2.2.2.2.1
        have hx5 : wr.cell? ⟨b, off + k * 6 + 5, none⟩ = some (.int .i64 (xs.getD k z6).2.2.2.2.2) := (hb.cell (p := ⟨b, off + k * 6 + 5, none⟩) hbl).trans (hc k hlt).2.2.2.2.2
        have hy0 : wr.cell? ⟨b', off' + k * 6, none⟩ = some (.int .i64 (ys.getD k z6).1) := (hb.cell (p := ⟨b', off' + k * 6, none⟩) hbl').trans (hc' k hlt').1
        have hy1 : wr.cell? ⟨b', off' + k * 6 + 1, none⟩ = some (.int .i64 (ys.getD k z6).2.1) := (hb.cell (p := ⟨b', off' + k * 6 + 1, none⟩) hbl').trans (hc' k hlt').2.1
        have hy2 : wr.cell? ⟨b', off' + k * 6 + 2, none⟩ = some (.int .i64 (ys.getD k z6).2.2.1) := (hb.cell (p := ⟨b', off' + k * 6 + 2, none⟩) hbl').trans (hc' k hlt').2.2.1
        have hy3 : wr.cell? ⟨b', off' + k * 6 + 3, none⟩ = some (.int .i64 (ys.getD k z6).2.2.2.1) := (hb.cell (p := ⟨b', off' + k * 6 + 3, none⟩) hbl').trans (hc' k hlt').2.2.2.1
        have hy4 : wr.cell? ⟨b', off' + k * 6 + 4, none⟩ = some (.int .i64 (ys.getD k z6).2.2.2.2.1) := (hb.cell (p := ⟨b', off' + k * 6 + 4, none⟩) hbl').trans (hc' k hlt').2.2.2.2.1
        have hy5 : wr.cell? ⟨b', off' + k * 6 + 5, none⟩ = some (.int .i64 (ys.getD k z6).2.2.2.2.2) := (hb.cell (p := ⟨b', off' + k * 6 + 5, none⟩) hbl').trans (hc' k hlt').2.2.2.2.2
        obtain ⟨x0, x1, x2, x3, x4, x5, hX⟩ : ∃ x0 x1 x2 x3 x4 x5, xs.getD k z6 = (x0, x1, x2, x3, x4, x5) := ⟨_, _, _, _, _, _, rfl⟩
        obtain ⟨z0, z1, z2, z3, z4, z5, hZ⟩ : ∃ z0 z1 z2 z3 z4 z5, ys.getD k z6 = (z0, z1, z2, z3, z4, z5) := ⟨_, _, _, _, _, _, rfl⟩
        rw [hX] at hx0 hx1 hx2 hx3 hx4 hx5
        rw [hZ] at hy0 hy1 hy2 hy3 hy4 hy5
        have HX := Lib.hid hX
        have HZ := Lib.hid hZ
        clear hX hZ hc hc'
        have HB := Lib.hid hb
        have hsz := hb.size
        by_cases e : (x0, x1, x2, x3, x4, x5) = (z0, z1, z2, z3, z4, z5)
        · have E := Lib.hid e
          have hE2 := Lib.hid (fun W => hE.out x0 x1 x2 x3 x4 x5 z0 z1 z2 z3 z4 z5 W)
          rw [decide_eq_true e] at hE2
          clear e
          go_wp2_with fail
          go_region_law (go_simp; go_at_call 136; (refine (hE2.out _).mono ?_); rintro e w5 ⟨rfl, hb5⟩; have hb6 := HB.out.drew.trans (hb5.mono hsz); have HB6 := Lib.hid hb6; clear hb5 hb6)
          all_goals
           go_simp
           go_wp2_with fail
           go_roundw
           case rel =>
             refine ⟨k + 1, by omega, by go_num, fun j hj => ?_, HB6.out⟩
             by_cases e : j = k
             · subst e; rw [HX.out, HZ.out, E.out]
             · exact Hag.out j (by omega)
           case measure => simp [intOf]; omega
        · have E := Lib.hid (rne_of_get (xs := xs) (ys := ys) k (by rw [HX.out, HZ.out]; exact e))
          have hE2 := Lib.hid (fun W => hE.out x0 x1 x2 x3 x4 x5 z0 z1 z2 z3 z4 z5 W)
          rw [decide_eq_false e] at hE2
          clear e
          go_wp2_with fail
          go_region_law (go_simp; go_at_call 136; (refine (hE2.out _).mono ?_); rintro e w5 ⟨rfl, hb5⟩; have hb6 := HB.out.drew.trans (hb5.mono hsz); have HB6 := Lib.hid hb6; clear hb5 hb6)
          all_goals
           go_simp
           go_wp2_with fail
           go_ret
           exact ⟨by rw [E.out]; rfl, HB6.out⟩
      · obtain rfl : k = xs.length := by omega
        have e : xs = ys := rls_ext Hl.out (fun j hj => Hag.out j hj)
        have E := Lib.hid (show decide (xs = ys) = true from by simp [e])
        clear e
        go_wp2_with fail
        go_ret
        exact ⟨by rw [E.out]; rfl, hb⟩
  · have E := Lib.hid (rne_of_len hl)
    have hbne : ((xs.length : Int) != (ys.length : Int)) = true := by simp; omega
    have hbne2 : decide ((xs.length : Int) = (ys.length : Int)) = false := by simp; omega
    clear hl
    go_enter Try.func134, Try.ntmps134
    go_wp2_with fail
    go_ret
    exact ⟨by rw [E.out]; rfl, Below.refl _ _⟩
end Go.Proofs.Ytcjpedolmnahfaa
