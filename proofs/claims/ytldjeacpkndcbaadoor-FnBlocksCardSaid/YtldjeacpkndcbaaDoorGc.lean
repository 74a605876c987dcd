/- Walks: slices of points: the laws' own helpers. -/
import Derived.Test.YtldjeacpkndcbaaDoorTa
import Derived.OpenShut
import Derived.Deep.RegionLaw
import Derived.Test.YtldjeacpkndcbaaDoorDa
import Derived.Test.YtldjeacpkndcbaaDoorEg
import Derived.Deep.AppendLies
set_option linter.unusedVariables false
set_option linter.unusedSimpArgs false
namespace Go.Proofs.YtldjeacpkndcbaaDoor
open Go.RowKit

def prs (xs : List (Int × Int)) : List Value := xs.flatMap fun p => [.int .i64 p.1, .int .i64 p.2]
theorem prs_cons (p : Int × Int) (xs : List (Int × Int)) : prs (p :: xs) = .int .i64 p.1 :: .int .i64 p.2 :: prs xs := rfl
theorem prs_length (xs : List (Int × Int)) : (prs xs).length = xs.length * 2 := by
  induction xs with
  | nil => rfl
  | cons p xs ih => rw [prs_cons, List.length_cons, List.length_cons, List.length_cons, ih]; omega
theorem prs_append (xs ys : List (Int × Int)) : prs (xs ++ ys) = prs xs ++ prs ys := by simp [prs]
theorem prs_get0 : ∀ (xs : List (Int × Int)) (j : Nat), j < xs.length → (prs xs)[j * 2]? = some (.int .i64 (xs.getD j (0, 0)).1)
  | p :: xs, 0, _ => rfl
  | p :: xs, j + 1, h => by rw [prs_cons, show (j + 1) * 2 = j * 2 + 1 + 1 by omega, List.getElem?_cons_succ, List.getElem?_cons_succ, prs_get0 xs j (by simpa using h)]; rfl
theorem prs_get1 : ∀ (xs : List (Int × Int)) (j : Nat), j < xs.length → (prs xs)[j * 2 + 1]? = some (.int .i64 (xs.getD j (0, 0)).2)
  | p :: xs, 0, _ => rfl
  | p :: xs, j + 1, h => by rw [prs_cons, show (j + 1) * 2 + 1 = j * 2 + 1 + 1 + 1 by omega, List.getElem?_cons_succ, List.getElem?_cons_succ, prs_get1 xs j (by simpa using h)]; rfl
theorem prs_set : ∀ (xs : List (Int × Int)) (k : Nat) (a b : Int), k < xs.length → ((prs xs).set (k * 2) (.int .i64 a)).set (k * 2 + 1) (.int .i64 b) = prs (xs.set k (a, b))
  | p :: xs, 0, a, b, _ => rfl
  | p :: xs, k + 1, a, b, h => by
    rw [prs_cons, show (k + 1) * 2 = k * 2 + 1 + 1 by omega, List.set_cons_succ, List.set_cons_succ, List.set_cons_succ, List.set_cons_succ, prs_set xs k a b (by simpa using h)]; rfl
theorem made_prs (n : Nat) : (madeCells #[Value.int .i64 0, Value.int .i64 0] (n * 2)).toList = prs (List.replicate n (0, 0)) := by
  have h2 : ∀ n, prs (List.replicate n ((0 : Int), (0 : Int))) = List.replicate (n * 2) (Value.int .i64 0) := by
    intro n
    induction n with
    | zero => rfl
    | succ n ih => rw [List.replicate_succ, prs_cons, ih, show (n + 1) * 2 = n * 2 + 1 + 1 by omega, List.replicate_succ, List.replicate_succ]
  rw [h2]
  apply List.ext_getElem?
  intro i
  by_cases hi : i < n * 2
  · rcases Nat.mod_two_eq_zero_or_one i with h | h <;> simp [madeCells, hi, h]
  · rw [List.getElem?_eq_none (l := List.replicate _ _) (by simp; omega), List.getElem?_eq_none (by simp [madeCells]; omega)]

theorem k_below_drewN' {B : Nat} {a w : World} (h : Below B a w) (n : Nat) : Below B a (w.drewN n) := ⟨h.os, h.tape, h.output, h.size, h.block⟩
/-- the slice v reads as the points xs in the blocks below B -/
def PL (w : World) (B : Nat) (v : Value) (xs : List (Int × Int)) : Prop :=
  (∀ j, Rng (xs.getD j (0, 0)).1 ∧ Rng (xs.getD j (0, 0)).2) ∧ xs.length ≤ 1048576 ∧ ∃ A c, v = .slice A xs.length c ∧
    (xs = [] ∨ ∃ b off, A = some ⟨b, off, none⟩ ∧ b < B ∧ ∀ j, j < xs.length → w.cell? ⟨b, off + j * 2, none⟩ = some (.int .i64 (xs.getD j (0, 0)).1) ∧ w.cell? ⟨b, off + j * 2 + 1, none⟩ = some (.int .i64 (xs.getD j (0, 0)).2))
theorem PL.below {w w' : World} {B : Nat} {v : Value} {xs : List (Int × Int)} (h : PL w B v xs) (hb : Below B w w') : PL w' B v xs := by
  obtain ⟨h1, h2, A, c, rfl, h3⟩ := h
  refine ⟨h1, h2, A, c, rfl, ?_⟩
  rcases h3 with h3 | ⟨b, off, rfl, hlt, hc⟩
  · exact .inl h3
  · exact .inr ⟨b, off, rfl, hlt, fun j hj => ⟨(hb.cell (p := ⟨b, off + j * 2, none⟩) hlt).trans (hc j hj).1, (hb.cell (p := ⟨b, off + j * 2 + 1, none⟩) hlt).trans (hc j hj).2⟩⟩
theorem PL.up {w : World} {B B' : Nat} {v : Value} {xs : List (Int × Int)} (h : PL w B v xs) (hB : B ≤ B') : PL w B' v xs := by
  obtain ⟨h1, h2, A, c, rfl, h3⟩ := h
  refine ⟨h1, h2, A, c, rfl, ?_⟩
  rcases h3 with h3 | ⟨b, off, rfl, hlt, hc⟩
  · exact .inl h3
  · exact .inr ⟨b, off, rfl, by omega, hc⟩
theorem PL.of_own {w : World} {base : Nat} {v : Value} {n : Nat} {xs : List (Int × Int)} (h : w.ownsRow base 89 2 v n (prs xs)) (hn : n = xs.length) (hr : ∀ j, Rng (xs.getD j (0, 0)).1 ∧ Rng (xs.getD j (0, 0)).2) (hl : xs.length ≤ 1048576) : PL w w.heap.size v xs := by
  subst hn
  refine ⟨hr, hl, ?_⟩
  rcases h.2 with ⟨rfl, h0⟩ | ⟨g, cap, cur, rfl, hb, hg, _⟩
  · exact ⟨none, 0, by rw [h0], .inl (List.eq_nil_of_length_eq_zero h0)⟩
  · refine ⟨_, cap, rfl, .inr ⟨g, 0, rfl, (Array.getElem?_eq_some_iff.1 hg).1, fun j hj => ⟨?_, ?_⟩⟩⟩
    · rw [Nat.zero_add, h.cellAt (j * 2) (by omega)]
      exact prs_get0 _ _ hj
    · rw [Nat.zero_add, h.cellAt (j * 2 + 1) (by omega)]
      exact prs_get1 _ _ hj
theorem prs_ext {xs ys : List (Int × Int)} (hl : xs.length = ys.length) (h : ∀ j, j < xs.length → xs.getD j (0, 0) = ys.getD j (0, 0)) : xs = ys := by
  apply List.ext_getElem hl
  intro j h1 h2
  have := h j h1
  simpa [List.getD_eq_getElem?_getD, h1, h2] using this
theorem getD_set_pr (l : List (Int × Int)) (k j : Nat) (x : Int × Int) (hk : k < l.length) : (l.set k x).getD j (0, 0) = if j = k then x else l.getD j (0, 0) := by
  simp only [List.getD_eq_getElem?_getD, List.getElem?_set]
  by_cases e : k = j
  · subst e; simp [hk]
  · have e' : ¬ j = k := fun h => e h.symm
    simp [e, e']
theorem tsOf_getD (xs : List (Int × Int)) (j : Nat) : (xs.map Prod.fst).getD j 0 = (xs.getD j (0, 0)).1 := by
  simp only [List.getD_eq_getElem?_getD, List.getElem?_map]
  cases xs[j]? <;> rfl
theorem vsOf_getD (xs : List (Int × Int)) (j : Nat) : (xs.map Prod.snd).getD j 0 = (xs.getD j (0, 0)).2 := by
  simp only [List.getD_eq_getElem?_getD, List.getElem?_map]
  cases xs[j]? <;> rfl
theorem pl_of (x : Addr) (n cap : Nat) (w : World) (V0 V1 : Nat → Value) (hn : n ≤ 1048576)
    (h : ∀ i, i < n → w.cell? (x.add (i * 2)) = some (V0 i) ∧ w.cell? (x.add (i * 2 + 1)) = some (V1 i) ∧ (∃ a, V0 i = .int .i64 a ∧ Rng a) ∧ ∃ b, V1 i = .int .i64 b ∧ Rng b) :
    ∃ xs : List (Int × Int), xs.length = n ∧ PL w w.heap.size (.slice (some x) n cap) xs := by
  have hg : ∀ i, i < n → ((List.range n).map fun i => (intOf (V0 i), intOf (V1 i))).getD i (0, 0) = (intOf (V0 i), intOf (V1 i)) := by
    intro i hi; simp [List.getD_eq_getElem?_getD, hi]
  refine ⟨(List.range n).map fun i => (intOf (V0 i), intOf (V1 i)), by simp, ?_, by simpa using hn, some x, cap, by simp, ?_⟩
  · intro j
    by_cases hj : j < n
    · rw [hg j hj]
      obtain ⟨_, _, ⟨a, ha, ra⟩, b, hb, rb⟩ := h j hj
      rw [ha, hb]; exact ⟨ra, rb⟩
    · rw [List.getD_eq_getElem?_getD, List.getElem?_eq_none (by simp; omega)]; exact ⟨rng_zero, rng_zero⟩
  · by_cases h0 : n = 0
    · subst h0; exact .inl rfl
    · right
      obtain ⟨b, off, spot⟩ := x
      obtain ⟨c0, _⟩ := h 0 (by omega)
      have hspot : spot = none := by simpa [Addr.add] using World.cell?_spot c0
      subst hspot
      have hadd : ∀ j, (⟨b, off, none⟩ : Addr).add j = ⟨b, off + j, none⟩ := fun j => by unfold Addr.add; split <;> simp_all
      refine ⟨b, off, rfl, ?_, fun j hj => ?_⟩
      · rw [hadd] at c0; exact World.block_lt_of_cell? w _ c0
      · have hj' : j < n := by simpa using hj
        obtain ⟨d0, d1, ⟨a, ha, ra⟩, e, he, re⟩ := h j hj'
        rw [hadd] at d0 d1
        rw [← Nat.add_assoc] at d1
        rw [hg j hj', d0, d1, ha, he]
        exact ⟨rfl, rfl⟩
theorem pl_nil (w : World) (c : Nat) (A : Option Addr) : PL w w.heap.size (.slice A 0 c) [] :=
  ⟨fun j => ⟨by simpa using rng_zero, by simpa using rng_zero⟩, by simp, A, c, rfl, .inl rfl⟩
def POwnPost (base : Nat) (xs : List (Int × Int)) (w : World) (e : Ending) (w' : World) : Prop :=
  ∃ v, e = .returned v ∧ w'.ownsRow base 89 2 v xs.length (prs xs) ∧ Below w.heap.size w w'
theorem pne_of_len {xs ys : List (Int × Int)} (h : ¬ xs.length = ys.length) : decide (xs = ys) = false := by
  rw [decide_eq_false_iff_not]; intro e; exact h (by rw [e])
theorem pne_of_get {xs ys : List (Int × Int)} (k : Nat) (h : ¬ xs.getD k (0, 0) = ys.getD k (0, 0)) : decide (xs = ys) = false := by
  rw [decide_eq_false_iff_not]; intro e; exact h (by rw [e])
theorem info_pt : (Tryd.prog.info? 89).map (fun i => (i.zero, i.size, i.bytes)) = some (some (.agg #[.int .i64 0, .int .i64 0]), 2, 16) := by kernel_rfl



set_option maxRecDepth 100000 in
set_option maxHeartbeats 400000 in
theorem eqPoint_any (a b c d : Int) (w : World) :
    Calls Tryd.prog 78 #[.agg #[.int .i64 a, .int .i64 b], .agg #[.int .i64 c, .int .i64 d]] w (BoolPost (decide ((a, b) = (c, d))) w) := by
  by_cases h1 : a = c
  · by_cases h2 : b = d
    · subst h1 h2
      rw [show decide ((a, b) = (a, b)) = true by simp]
      go_enter Tryd.func78, Tryd.ntmps78
      go_wp2
      go_ret
      exact ⟨rfl, by
      repeat (first | exact Below.refl _ _ | refine Below.alloc ?_ (by simp; try omega) _ | refine Below.setCell ?_ (by simp; try omega) _ | refine Below.drew ?_)⟩
    · have hn : decide ((a, b) = (c, d)) = false := by simp [h2]
      rw [hn]
      have hbne : (b != d) = true := by simpa using h2
      have hde : decide (b = d) = false := by simpa using h2
      subst h1
      clear hn
      go_enter Tryd.func78, Tryd.ntmps78
      go_wp2
      go_ret
      exact ⟨rfl, by
      repeat (first | exact Below.refl _ _ | refine Below.alloc ?_ (by simp; try omega) _ | refine Below.setCell ?_ (by simp; try omega) _ | refine Below.drew ?_)⟩
  · have hn : decide ((a, b) = (c, d)) = false := by simp [h1]
    rw [hn]
    have hbne : (a != c) = true := by simpa using h1
    have hde : decide (a = c) = false := by simpa using h1
    clear hn
    go_enter Tryd.func78, Tryd.ntmps78
    go_wp2
    go_ret
    exact ⟨rfl, by
      repeat (first | exact Below.refl _ _ | refine Below.alloc ?_ (by simp; try omega) _ | refine Below.setCell ?_ (by simp; try omega) _ | refine Below.drew ?_)⟩

set_option maxRecDepth 100000 in
set_option maxHeartbeats 1000000 in
theorem eqPointS_any (v u : Value) (xs ys : List (Int × Int)) (w : World) (h : PL w w.heap.size v xs) (h' : PL w w.heap.size u ys) :
    Calls Tryd.prog 37 #[v, u] w (BoolPost (decide (xs = ys)) w) := by
  obtain ⟨hr, hlen, A, c, rfl, h3⟩ := h
  obtain ⟨hr', hlen', A', c', rfl, h3'⟩ := h'
  have Hr := Lib.hid hr
  have Hr' := Lib.hid hr'
  clear hr hr'
  have hE := Lib.hid (fun a b c d W => eqPoint_any a b c d W)
  by_cases hl : xs.length = ys.length
  · have Hl := Lib.hid hl
    have hne : decide ((xs.length : Int) = (ys.length : Int)) = true := by simp; omega
    have hbne : ((xs.length : Int) != (ys.length : Int)) = false := by simp; omega
    clear hl
    go_enter Tryd.func37, Tryd.ntmps37
    go_wp2_with fail
    go_loopw [5] (fun i wr => ∃ k : Nat, k ≤ xs.length ∧ i = .int .i64 k ∧ (∀ j, j < k → xs.getD j (0, 0) = ys.getD j (0, 0)) ∧ Below w.heap.size w wr) (fun i _ => xs.length - (intOf i).toNat)
    case atStart => exact ⟨0, Nat.zero_le _, rfl, fun j hj => by omega, Below.refl _ _⟩
    case round =>
      obtain ⟨k, hk, rfl, hag, hb⟩ := hrel
      have Hag := Lib.hid hag
      clear hag
      by_cases hlt : k < xs.length
      · have hlt' : k < ys.length := by have := Hl.out; omega
        rcases h3 with h3 | ⟨b, off, rfl, hbl, hc⟩
        · subst h3; simp at hlt
        rcases h3' with h3' | ⟨b', off', rfl, hbl', hc'⟩
        · subst h3'; simp at hlt'
        have hx0 : wr.cell? ⟨b, off + k * 2, none⟩ = some (.int .i64 (xs.getD k (0, 0)).1) := (hb.cell (p := ⟨b, off + k * 2, none⟩) hbl).trans (hc k hlt).1
        have hx1 : wr.cell? ⟨b, off + k * 2 + 1, none⟩ = some (.int .i64 (xs.getD k (0, 0)).2) := (hb.cell (p := ⟨b, off + k * 2 + 1, none⟩) hbl).trans (hc k hlt).2
        have hy0 : wr.cell? ⟨b', off' + k * 2, none⟩ = some (.int .i64 (ys.getD k (0, 0)).1) := (hb.cell (p := ⟨b', off' + k * 2, none⟩) hbl').trans (hc' k hlt').1
        have hy1 : wr.cell? ⟨b', off' + k * 2 + 1, none⟩ = some (.int .i64 (ys.getD k (0, 0)).2) := (hb.cell (p := ⟨b', off' + k * 2 + 1, none⟩) hbl').trans (hc' k hlt').2
        obtain ⟨x, y, hX⟩ : ∃ x y, xs.getD k (0, 0) = (x, y) := ⟨_, _, rfl⟩
        obtain ⟨z, t, hZ⟩ : ∃ x y, ys.getD k (0, 0) = (x, y) := ⟨_, _, rfl⟩
        rw [hX] at hx0 hx1
        rw [hZ] at hy0 hy1
        have HX := Lib.hid hX
        have HZ := Lib.hid hZ
        clear hX hZ hc hc'
        have HB := Lib.hid hb
        have hsz := hb.size
        by_cases e : (x, y) = (z, t)
        · have E := Lib.hid e
          have hE2 := Lib.hid (fun W => hE.out x y z t W)
          rw [decide_eq_true e] at hE2
          clear e
          go_wp2_with fail
          go_region_law (go_simp; go_at_call 78; (refine (hE2.out _).mono ?_); rintro e w5 ⟨rfl, hb5⟩; have hb6 := HB.out.drew.trans (hb5.mono hsz); have HB6 := Lib.hid hb6; clear hb5 hb6)
          all_goals
           go_simp
           go_wp2_with fail
           go_roundw
           case rel =>
             refine ⟨k + 1, by omega, by go_num, fun j hj => ?_, HB6.out⟩
             by_cases e : j = k
             · subst e; rw [HX.out, HZ.out, E.out]
             · exact Hag.out j (by omega)
           case measure => simp [intOf]; omega
        · have E := Lib.hid (pne_of_get (xs := xs) (ys := ys) k (by rw [HX.out, HZ.out]; exact e))
          have hE2 := Lib.hid (fun W => hE.out x y z t W)
          rw [decide_eq_false e] at hE2
          clear e
          go_wp2_with fail
          go_region_law (go_simp; go_at_call 78; (refine (hE2.out _).mono ?_); rintro e w5 ⟨rfl, hb5⟩; have hb6 := HB.out.drew.trans (hb5.mono hsz); have HB6 := Lib.hid hb6; clear hb5 hb6)
          all_goals
           go_simp
           go_wp2_with fail
           go_ret
           exact ⟨by rw [E.out]; rfl, HB6.out⟩
      · obtain rfl : k = xs.length := by omega
        have e : xs = ys := prs_ext Hl.out (fun j hj => Hag.out j hj)
        have E := Lib.hid (show decide (xs = ys) = true from by simp [e])
        clear e
        go_wp2_with fail
        go_ret
        exact ⟨by rw [E.out]; rfl, hb⟩
  · have E := Lib.hid (pne_of_len hl)
    have hbne : ((xs.length : Int) != (ys.length : Int)) = true := by simp; omega
    have hbne2 : decide ((xs.length : Int) = (ys.length : Int)) = false := by simp; omega
    clear hl
    go_enter Tryd.func37, Tryd.ntmps37
    go_wp2_with fail
    go_ret
    exact ⟨by rw [E.out]; rfl, Below.refl _ _⟩
end Go.Proofs.YtldjeacpkndcbaaDoor

/- Walks: points whose times are valid: the law FnExactPointsOk. -/
set_option linter.unusedVariables false
set_option linter.unusedSimpArgs false
namespace Go.Proofs.YtldjeacpkndcbaaDoor
open Go.RowKit

def ptsOkB (xs : List (Int × Int)) : Bool := timesOkB (xs.map Prod.fst)
theorem rng_fst {xs : List (Int × Int)} (h : ∀ j, Rng (xs.getD j (0, 0)).1 ∧ Rng (xs.getD j (0, 0)).2) (j : Nat) : Rng ((xs.map Prod.fst).getD j 0) := by
  rw [tsOf_getD]; exact (h j).1
theorem rng_snd {xs : List (Int × Int)} (h : ∀ j, Rng (xs.getD j (0, 0)).1 ∧ Rng (xs.getD j (0, 0)).2) (j : Nat) : Rng ((xs.map Prod.snd).getD j 0) := by
  rw [vsOf_getD]; exact (h j).2
theorem take_succ_int {T : List Int} {k : Nat} (hk : k < T.length) {x : Int} (h : T.getD k 0 = x) : T.take (k + 1) = T.take k ++ [x] := by
  rw [List.take_add_one, List.getElem?_eq_getElem hk]
  rw [List.getD_eq_getElem?_getD, List.getElem?_eq_getElem hk] at h
  simp only [Option.getD_some] at h
  simp [h]

set_option maxRecDepth 100000 in
set_option maxHeartbeats 1000000 in
theorem specPointsOk_any (v : Value) (xs : List (Int × Int)) (w : World) (h : PL w w.heap.size v xs) :
    Calls Tryd.prog 27 #[v] w (BoolPost (ptsOkB xs) w) := by
  obtain ⟨hr, hlen, A, c, rfl, h3⟩ := h
  have Hr := Lib.hid (rng_fst hr)
  clear hr
  have hT := Lib.hid (fun v W h => specTimesOk_any v (xs.map Prod.fst) W h)
  have HG := Lib.hid (tsOf_getD xs)
  have HL := Lib.hid (show (xs.map Prod.fst).length = xs.length by simp)
  unfold ptsOkB
  generalize xs.map Prod.fst = T at *
  obtain ⟨i0, hi, hz0, hz1, hz2⟩ := info_parts u_info_i64
  go_enter Tryd.func27, Tryd.ntmps27
  go_wp2_with fail
  go_loopw [3, 4] (fun v i wr => ∃ k : Nat, k ≤ xs.length ∧ i = .int .i64 k ∧ wr.ownsRow w.heap.size 2 1 v k (ints (T.take k)) ∧ Below w.heap.size w wr)
    (fun _ i _ => xs.length - (intOf i).toNat)
  case atStart =>
    refine ⟨0, Nat.zero_le _, rfl, ?_, ?_⟩
    · have := World.ownsRow_made w (base := w.heap.size) (e := 2) (size := 1) #[] 0 (Nat.le_refl _) (by simp [maxLen]) rfl
      simpa [ints] using this
    · exact (Below.refl _ _).alloc (Nat.le_refl _) _
  case round =>
    obtain ⟨k, hk, rfl, hown, hb⟩ := hrel
    have hsz := hb.size
    by_cases hlt : k < xs.length
    · rcases h3 with h3 | ⟨b, off, rfl, hbl, hc⟩
      · subst h3; simp at hlt
      have hx0 : wr.cell? ⟨b, off + k * 2, none⟩ = some (.int .i64 (xs.getD k (0, 0)).1) := (hb.cell (p := ⟨b, off + k * 2, none⟩) hbl).trans (hc k hlt).1
      have hx1 : wr.cell? ⟨b, off + k * 2 + 1, none⟩ = some (.int .i64 (xs.getD k (0, 0)).2) := (hb.cell (p := ⟨b, off + k * 2 + 1, none⟩) hbl).trans (hc k hlt).2
      obtain ⟨x, y, hX⟩ : ∃ x y, xs.getD k (0, 0) = (x, y) := ⟨_, _, rfl⟩
      rw [hX] at hx0 hx1
      have HX := Lib.hid (take_succ_int (T := T) (k := k) (x := x) (by have := HL.out; omega) (by rw [HG.out, hX]))
      clear hX hc
      go_wp2_with (at_builtin; refine wpList_append_own _ rfl _ _ 24 rfl w.heap.size 2 i0 (.int .i64 0) 1 8 Tryd.underlying24 hi hz0 hz1 hz2 rfl (by decide) _ _ _ rfl (hown.alloc _) ⟨wr.heap.size, 0, none⟩ 1 1 [.int .i64 x] rfl rfl ?c1 ?c2 ?c3 ?c4 ?c5 ?_)
      case c2 => rfl
      case c3 => unfold maxLen; omega
      case c4 => omega
      case c5 => first | omega | (simp; omega)
      intro v' w4 hown' hgrow _
      have hb4 := u_below_append hb (Nat.le_refl _) hsz hown hgrow
      have hown5 : w4.ownsRow w.heap.size 2 1 v' (k + 1) (ints (T.take (k + 1))) := by rw [HX.out, ints_append]; exact hown'
      clear hown' hown hgrow hb
      go_wp2_with fail
      go_roundw
      case rel => exact ⟨k + 1, by omega, by go_num, hown5, hb4⟩
      case measure => simp [intOf]; omega
    · obtain rfl : k = xs.length := by omega
      rw [← HL.out, List.take_length] at hown
      have HI := Lib.hid (IL.of_own hown rfl Hr.out (by have := HL.out; omega))
      have HB := Lib.hid hb
      clear hown hb
      go_wp2_with fail
      refine (hT.out _ _ HI.out).mono ?_
      rintro e w2 ⟨rfl, hb2⟩
      go_wp2_with fail
      go_ret
      exact ⟨rfl, HB.out.trans (hb2.mono hsz)⟩

set_option maxRecDepth 100000 in
set_option maxHeartbeats 1000000 in
theorem timesOf_any (v : Value) (xs : List (Int × Int)) (w : World) (h : PL w w.heap.size v xs) :
    Calls Tryd.prog 66 #[v] w (OwnPost w.heap.size (xs.map Prod.fst) w) := by
  obtain ⟨hr, hlen, A, c, rfl, h3⟩ := h
  clear hr
  obtain ⟨i0, hi, hz0, hz1, hz2⟩ := info_parts u_info_i64
  go_enter Tryd.func66, Tryd.ntmps66
  go_wp2_with (at_make; refine wpList_make_full _ rfl _ _ 24 rfl w.heap.size 2 i0 (.int .i64 0) 1 Tryd.underlying24 hi hz0 hz1 _ _ _ _ xs.length rfl rfl rfl rfl ?b2 ?b3 ?b4 ?_)
  case b2 => rw [hz2]; omega
  case b3 => unfold maxLen; omega
  case b4 => exact Nat.le_refl _
  intro w1 hown hgrow
  rw [made_ints] at hown
  have hb1 : Below w.heap.size w w1 := (Below.refl _ _).grown hgrow (Nat.le_refl _) (fun k hk => by cases hk)
  clear hgrow
  go_wp2_with fail
  go_loopw [11] (fun i wr => ∃ (k : Nat) (l : List Int), k ≤ xs.length ∧ i = .int .i64 k ∧ l.length = xs.length ∧ (∀ j, j < k → l.getD j 0 = (xs.getD j (0, 0)).1) ∧
      wr.ownsRow w.heap.size 2 1 (.slice (some ⟨w.heap.size, 0, none⟩) xs.length xs.length) xs.length (ints l) ∧ Below w.heap.size w wr)
    (fun i _ => xs.length - (intOf i).toNat)
  case atStart => exact ⟨0, List.replicate xs.length 0, Nat.zero_le _, rfl, by simp, fun j hj => by omega, hown, hb1⟩
  case round =>
    clear hown hb1
    obtain ⟨k, l, hk, rfl, hll, hag, hown, hb1⟩ := hrel
    have Hag := Lib.hid hag
    have Hll := Lib.hid hll
    clear hag hll
    by_cases hlt : k < xs.length
    · rcases h3 with h3 | ⟨b, off, rfl, hbl, hc⟩
      · subst h3; simp at hlt
      have hx0 : wr.cell? ⟨b, off + k * 2, none⟩ = some (.int .i64 (xs.getD k (0, 0)).1) := (hb1.cell (p := ⟨b, off + k * 2, none⟩) hbl).trans (hc k hlt).1
      have hx1 : wr.cell? ⟨b, off + k * 2 + 1, none⟩ = some (.int .i64 (xs.getD k (0, 0)).2) := (hb1.cell (p := ⟨b, off + k * 2 + 1, none⟩) hbl).trans (hc k hlt).2
      obtain ⟨x, y, hX⟩ : ∃ x y, xs.getD k (0, 0) = (x, y) := ⟨_, _, rfl⟩
      rw [hX] at hx0 hx1
      have HX := Lib.hid hX
      clear hX hc
      have hlk : k < l.length := by have := Hll.out; omega
      have c0 : wr.cell? ⟨w.heap.size, k, none⟩ = some (.int .i64 (l.getD k 0)) := by
        rw [hown.cellAt _ (by omega)]; exact ints_get _ _ hlk
      have f0 : wr.frozen? ⟨w.heap.size, k, none⟩ = false := hown.frozenAt _
      have hsz : w.heap.size < wr.heap.size := World.block_lt_of_cell? wr _ c0
      generalize l.getD k 0 = o0 at c0
      have hst := hown.stored k (.int .i64 x)
      have hown4 := hst.1
      rw [ints_set] at hown4
      have HO := Lib.hid (hown4.alloc (.cells #[.int .i64 x, .int .i64 y] 89))
      have HB := Lib.hid ((hb1.setCell (show w.heap.size ≤ (⟨w.heap.size, k, none⟩ : Addr).block by simp) (.int .i64 x)).alloc (by simp; omega) (.cells #[.int .i64 x, .int .i64 y] 89))
      clear hst hown4 hown hb1 hlk
      go_wp2_with fail
      refine ⟨⟨k + 1, l.set k x, by omega, by go_num, by simpa using Hll.out, fun j hj => ?_, HO.out, HB.out⟩, by simp [intOf]; omega⟩
      rw [getD_set_int _ _ _ _ (by have := Hll.out; omega)]
      by_cases e : j = k
      · subst e; rw [if_pos rfl, HX.out]
      · rw [if_neg e]; exact Hag.out j (by omega)
    · obtain rfl : k = xs.length := by omega
      have e : l = xs.map Prod.fst := ints_ext (by simpa using Hll.out) (fun j hj => by rw [tsOf_getD]; exact Hag.out j (by have := Hll.out; omega))
      subst e
      go_wp2_with fail
      go_ret
      exact ⟨_, rfl, by simpa using hown, hb1⟩

set_option maxRecDepth 100000 in
set_option maxHeartbeats 1000000 in
theorem implPointsOk_any (v : Value) (xs : List (Int × Int)) (w : World) (h : PL w w.heap.size v xs) :
    Calls Tryd.prog 26 #[v] w (BoolPost (ptsOkB xs) w) := by
  have hlen := h.2.1
  have Hr := Lib.hid (rng_fst h.1)
  have HP := Lib.hid h
  have hT := Lib.hid (fun v W h => implTimesOk_any v (xs.map Prod.fst) W h)
  have hO := Lib.hid (fun W h => timesOf_any v xs W h)
  clear h
  go_enter Tryd.func26, Tryd.ntmps26
  go_wp2_with fail
  refine (hO.out _ HP.out).mono ?_
  rintro e w1 ⟨v1, rfl, hown, hb⟩
  have HI := Lib.hid (IL.of_own hown (by simp) Hr.out (by simpa using hlen))
  have HB := Lib.hid hb
  have hsz := hb.size
  clear hown hb
  go_wp2_with fail
  refine (hT.out _ _ HI.out).mono ?_
  rintro e w2 ⟨rfl, hb2⟩
  go_wp2_with fail
  go_ret
  exact ⟨rfl, HB.out.trans (hb2.mono hsz)⟩

end Go.Proofs.YtldjeacpkndcbaaDoor

/- Walks: the times and the values of points; the model's block. -/
set_option linter.unusedVariables false
set_option linter.unusedSimpArgs false
namespace Go.Proofs.YtldjeacpkndcbaaDoor
open Go.RowKit

set_option maxRecDepth 100000 in
set_option maxHeartbeats 1000000 in
theorem valuesOf_any (v : Value) (xs : List (Int × Int)) (w : World) (h : PL w w.heap.size v xs) :
    Calls Tryd.prog 67 #[v] w (OwnPost w.heap.size (xs.map Prod.snd) w) := by
  obtain ⟨hr, hlen, A, c, rfl, h3⟩ := h
  clear hr
  obtain ⟨i0, hi, hz0, hz1, hz2⟩ := info_parts u_info_i64
  go_enter Tryd.func67, Tryd.ntmps67
  go_wp2_with (at_make; refine wpList_make_full _ rfl _ _ 24 rfl w.heap.size 2 i0 (.int .i64 0) 1 Tryd.underlying24 hi hz0 hz1 _ _ _ _ xs.length rfl rfl rfl rfl ?b2 ?b3 ?b4 ?_)
  case b2 => rw [hz2]; omega
  case b3 => unfold maxLen; omega
  case b4 => exact Nat.le_refl _
  intro w1 hown hgrow
  rw [made_ints] at hown
  have hb1 : Below w.heap.size w w1 := (Below.refl _ _).grown hgrow (Nat.le_refl _) (fun k hk => by cases hk)
  clear hgrow
  go_wp2_with fail
  go_loopw [11] (fun i wr => ∃ (k : Nat) (l : List Int), k ≤ xs.length ∧ i = .int .i64 k ∧ l.length = xs.length ∧ (∀ j, j < k → l.getD j 0 = (xs.getD j (0, 0)).2) ∧
      wr.ownsRow w.heap.size 2 1 (.slice (some ⟨w.heap.size, 0, none⟩) xs.length xs.length) xs.length (ints l) ∧ Below w.heap.size w wr)
    (fun i _ => xs.length - (intOf i).toNat)
  case atStart => exact ⟨0, List.replicate xs.length 0, Nat.zero_le _, rfl, by simp, fun j hj => by omega, hown, hb1⟩
  case round =>
    clear hown hb1
    obtain ⟨k, l, hk, rfl, hll, hag, hown, hb1⟩ := hrel
    have Hag := Lib.hid hag
    have Hll := Lib.hid hll
    clear hag hll
    by_cases hlt : k < xs.length
    · rcases h3 with h3 | ⟨b, off, rfl, hbl, hc⟩
      · subst h3; simp at hlt
      have hx0 : wr.cell? ⟨b, off + k * 2, none⟩ = some (.int .i64 (xs.getD k (0, 0)).1) := (hb1.cell (p := ⟨b, off + k * 2, none⟩) hbl).trans (hc k hlt).1
      have hx1 : wr.cell? ⟨b, off + k * 2 + 1, none⟩ = some (.int .i64 (xs.getD k (0, 0)).2) := (hb1.cell (p := ⟨b, off + k * 2 + 1, none⟩) hbl).trans (hc k hlt).2
      obtain ⟨x, y, hX⟩ : ∃ x y, xs.getD k (0, 0) = (x, y) := ⟨_, _, rfl⟩
      rw [hX] at hx0 hx1
      have HX := Lib.hid hX
      clear hX hc
      have hlk : k < l.length := by have := Hll.out; omega
      have c0 : wr.cell? ⟨w.heap.size, k, none⟩ = some (.int .i64 (l.getD k 0)) := by
        rw [hown.cellAt _ (by omega)]; exact ints_get _ _ hlk
      have f0 : wr.frozen? ⟨w.heap.size, k, none⟩ = false := hown.frozenAt _
      have hsz : w.heap.size < wr.heap.size := World.block_lt_of_cell? wr _ c0
      generalize l.getD k 0 = o0 at c0
      have hst := hown.stored k (.int .i64 y)
      have hown4 := hst.1
      rw [ints_set] at hown4
      have HO := Lib.hid (hown4.alloc (.cells #[.int .i64 x, .int .i64 y] 89))
      have HB := Lib.hid ((hb1.setCell (show w.heap.size ≤ (⟨w.heap.size, k, none⟩ : Addr).block by simp) (.int .i64 y)).alloc (by simp; omega) (.cells #[.int .i64 x, .int .i64 y] 89))
      clear hst hown4 hown hb1 hlk
      go_wp2_with fail
      refine ⟨⟨k + 1, l.set k y, by omega, by go_num, by simpa using Hll.out, fun j hj => ?_, HO.out, HB.out⟩, by simp [intOf]; omega⟩
      rw [getD_set_int _ _ _ _ (by have := Hll.out; omega)]
      by_cases e : j = k
      · subst e; rw [if_pos rfl, HX.out]
      · rw [if_neg e]; exact Hag.out j (by omega)
    · obtain rfl : k = xs.length := by omega
      have e : l = xs.map Prod.snd := ints_ext (by simpa using Hll.out) (fun j hj => by rw [vsOf_getD]; exact Hag.out j (by have := Hll.out; omega))
      subst e
      go_wp2_with fail
      go_ret
      exact ⟨_, rfl, by simpa using hown, hb1⟩


/-- two lists of numbers, each its own -/
def SplitPost (ts vs : List Int) (w : World) (e : Ending) (w' : World) : Prop :=
  ∃ v u, e = .returned (.tuple #[v, u]) ∧ w'.ownsRow w.heap.size 2 1 v ts.length (ints ts) ∧ w'.ownsRow w.heap.size 2 1 u vs.length (ints vs) ∧ Below w.heap.size w w'
theorem own_kept {w1 w2 : World} {B g b : Nat} {e : TypeId} {size c : Nat} {n : Nat} {xs : List Value} (h : w1.ownsRow B e size (.slice (some ⟨b, 0, none⟩) n c) n xs) (k : w1.grownBy w2 (some g)) (hg : b ≠ g) : w2.ownsRow B e size (.slice (some ⟨b, 0, none⟩) n c) n xs := by
  obtain ⟨h1, h2⟩ := h
  refine ⟨h1, ?_⟩
  rcases h2 with ⟨h2, _⟩ | ⟨b', cap, cur, he, hb, hh, rest⟩
  · cases h2
  · injection he with he1 he2 he3
    injection he1 with he1
    injection he1 with he1
    subst he1
    exact .inr ⟨b, cap, cur, by rw [he3], hb, (k.block b (Array.getElem?_eq_some_iff.1 hh).1 (by intro h; injection h with h; exact hg h)).trans hh, rest⟩
theorem own_lt {w1 : World} {B b : Nat} {e : TypeId} {size c : Nat} {n : Nat} {xs : List Value} (h : w1.ownsRow B e size (.slice (some ⟨b, 0, none⟩) n c) n xs) : B ≤ b ∧ b < w1.heap.size := h.lt b rfl
set_option maxRecDepth 100000 in
set_option maxHeartbeats 2000000 in
theorem l5Split_any (v : Value) (xs : List (Int × Int)) (w : World) (h : PL w w.heap.size v xs) :
    Calls Tryd.prog 69 #[v] w (SplitPost (xs.map Prod.fst) (xs.map Prod.snd) w) := by
  obtain ⟨hr, hlen, A, c, rfl, h3⟩ := h
  clear hr
  obtain ⟨i0, hi, hz0, hz1, hz2⟩ := info_parts u_info_i64
  have HG := Lib.hid (tsOf_getD xs)
  have HL := Lib.hid (show (xs.map Prod.fst).length = xs.length by simp)
  have HG2 := Lib.hid (vsOf_getD xs)
  have HL2 := Lib.hid (show (xs.map Prod.snd).length = xs.length by simp)
  generalize xs.map Prod.fst = T at *
  generalize xs.map Prod.snd = V at *
  have o1 : ((w.alloc (.cells #[] 2)).alloc (.cells #[] 2)).ownsRow w.heap.size 2 1 (.slice (some ⟨w.heap.size, 0, none⟩) 0 0) 0 (ints (T.take 0)) := by
    have := (World.ownsRow_made w (base := w.heap.size) (e := 2) (size := 1) #[] 0 (Nat.le_refl _) (by simp [maxLen]) rfl).alloc (.cells #[] 2)
    simpa [ints] using this
  have o2 : ((w.alloc (.cells #[] 2)).alloc (.cells #[] 2)).ownsRow w.heap.size 2 1 (.slice (some ⟨w.heap.size + 1, 0, none⟩) 0 0) 0 (ints (V.take 0)) := by
    have := World.ownsRow_made (w.alloc (.cells #[] 2)) (base := w.heap.size) (e := 2) (size := 1) #[] 0 (by simp) (by simp [maxLen]) rfl
    simpa [ints] using this
  have hb0 := below2 w (.cells #[] 2) (.cells #[] 2)
  go_enter Tryd.func69, Tryd.ntmps69
  go_wp2_with fail
  go_loopw [4, 5, 6] (fun v u i wr => ∃ k gt ct gv cv : Nat, k ≤ xs.length ∧ i = .int .i64 k ∧ v = .slice (some ⟨gt, 0, none⟩) k ct ∧ u = .slice (some ⟨gv, 0, none⟩) k cv ∧ gt ≠ gv ∧
      wr.ownsRow w.heap.size 2 1 (.slice (some ⟨gt, 0, none⟩) k ct) k (ints (T.take k)) ∧ wr.ownsRow w.heap.size 2 1 (.slice (some ⟨gv, 0, none⟩) k cv) k (ints (V.take k)) ∧ Below w.heap.size w wr)
    (fun _ _ i _ => xs.length - (intOf i).toNat)
  case atStart => exact ⟨0, w.heap.size, 0, w.heap.size + 1, 0, Nat.zero_le _, rfl, rfl, rfl, by omega, o1, o2, hb0⟩
  case round =>
    clear o1 o2 hb0
    obtain ⟨k, gt, ct, gv, cv, hk, rfl, rfl, rfl, hne, ot, ov, hb⟩ := hrel
    have hsz := hb.size
    by_cases hlt : k < xs.length
    · rcases h3 with h3 | ⟨b, off, rfl, hbl, hc⟩
      · subst h3; simp at hlt
      have hx0 : wr.cell? ⟨b, off + k * 2, none⟩ = some (.int .i64 (xs.getD k (0, 0)).1) := (hb.cell (p := ⟨b, off + k * 2, none⟩) hbl).trans (hc k hlt).1
      have hx1 : wr.cell? ⟨b, off + k * 2 + 1, none⟩ = some (.int .i64 (xs.getD k (0, 0)).2) := (hb.cell (p := ⟨b, off + k * 2 + 1, none⟩) hbl).trans (hc k hlt).2
      obtain ⟨x, y, hX⟩ : ∃ x y, xs.getD k (0, 0) = (x, y) := ⟨_, _, rfl⟩
      rw [hX] at hx0 hx1
      have HX := Lib.hid (take_succ_int (T := T) (k := k) (x := x) (by have := HL.out; omega) (by rw [HG.out, hX]))
      have HY := Lib.hid (take_succ_int (T := V) (k := k) (x := y) (by have := HL2.out; omega) (by rw [HG2.out, hX]))
      clear hX hc
      have HOT := Lib.hid (ot.alloc (.cells #[.int .i64 x] 2))
      have HOV := Lib.hid (ov.alloc (.cells #[.int .i64 x] 2))
      have HBA := Lib.hid (hb.alloc hsz (.cells #[.int .i64 x] 2))
      have hgt := (own_lt ot).2
      have hgv := (own_lt ov).2
      have hgt0 := (own_lt ot).1
      have hgv0 := (own_lt ov).1
      clear ot ov hb
      go_wp2_with (at_builtin; refine wpList_append_lies _ rfl _ _ 24 rfl w.heap.size 2 i0 (.int .i64 0) 1 8 Tryd.underlying24 hi hz0 hz1 hz2 rfl (by decide) _ _ _ rfl HOT.out ⟨wr.heap.size, 0, none⟩ 1 1 [.int .i64 x] rfl rfl ?c1 ?c2 (by decide) ?c3 ?c4 ?c5 (wr.heap.size + 1) ?c6 ?_)
      try (case c1 => first | exact cell_one_new _ _ _ | exact fun j u h => h)
      case c2 => first | rfl | (intro q hq; simp at hq; subst hq; rfl)
      case c3 => unfold maxLen; omega
      case c4 => omega
      case c5 => first | omega | (simp; omega)
      try (case c6 => simp)
      intro g1 cap1 w4 hown' hgrow hl1 hlt1
      have hg1 : g1 ≠ gv := by
        rcases hl1 with h | h
        · have h : gt = g1 := by simpa [Value.ownBlock] using h
          omega
        · omega
      have hg1b : w.heap.size ≤ g1 := (own_lt hown').1
      have ot4 : w4.ownsRow w.heap.size 2 1 (.slice (some ⟨g1, 0, none⟩) (k + 1) cap1) (k + 1) (ints (T.take (k + 1))) := by rw [HX.out, ints_append]; exact hown'
      have ov4 := own_kept HOV.out hgrow (fun h => hne h.symm)
      have hb4 : Below w.heap.size w w4 := HBA.out.grown hgrow (by simp; omega) (fun g hg => (HOT.out.lt g hg).1)
      have hx1' : w4.cell? ⟨b, off + k * 2 + 1, none⟩ = some (.int .i64 y) := (hgrow.cell_far ⟨b, off + k * 2 + 1, none⟩ (by simp; omega) (fun h => by (have h : b = gt := by simpa [Value.ownBlock] using h); omega)).trans ((World.cell?_alloc_lt wr _ ⟨b, off + k * 2 + 1, none⟩ (show b < wr.heap.size by omega)).trans hx1)
      clear hown' hgrow HBA HOT HOV hx0 hx1
      have HOT := Lib.hid (ot4.alloc (.cells #[.int .i64 y] 2))
      have HOV := Lib.hid (ov4.alloc (.cells #[.int .i64 y] 2))
      have hsz4 := hb4.size
      have HBA := Lib.hid (hb4.alloc hsz4 (.cells #[.int .i64 y] 2))
      have hgv4 := (own_lt ov4).2
      clear ot4 ov4 hb4
      go_wp2_with (at_builtin; refine wpList_append_lies _ rfl _ _ 24 rfl w.heap.size 2 i0 (.int .i64 0) 1 8 Tryd.underlying24 hi hz0 hz1 hz2 rfl (by decide) _ _ _ rfl HOV.out ⟨w4.heap.size, 0, none⟩ 1 1 [.int .i64 y] rfl rfl ?d1 ?d2 (by decide) ?d3 ?d4 ?d5 (w4.heap.size + 1) ?d6 ?_)
      try (case d1 => first | exact cell_one_new _ _ _ | exact fun j u h => h)
      case d2 => first | rfl | (intro q hq; simp at hq; subst hq; rfl)
      case d3 => unfold maxLen; omega
      case d4 => omega
      case d5 => first | omega | (simp; omega)
      try (case d6 => simp)
      intro g2 cap2 w5 hown' hgrow hl2 hlt2
      have hg2 : g1 ≠ g2 := by
        rcases hl2 with h | h
        · have h : gv = g2 := by simpa [Value.ownBlock] using h
          omega
        · omega
      have ov5 : w5.ownsRow w.heap.size 2 1 (.slice (some ⟨g2, 0, none⟩) (k + 1) cap2) (k + 1) (ints (V.take (k + 1))) := by rw [HY.out, ints_append]; exact hown'
      have ot5 := own_kept HOT.out hgrow hg1
      have hb5 : Below w.heap.size w w5 := HBA.out.grown hgrow (by simp; omega) (fun g hg => (HOV.out.lt g hg).1)
      clear hown' hgrow HBA HOT HOV
      go_wp2_with fail
      go_roundw
      case rel => exact ⟨k + 1, g1, cap1, g2, cap2, by omega, by go_num, rfl, rfl, hg2, ot5, ov5, hb5⟩
      case measure => simp [intOf]; omega
    · obtain rfl : k = xs.length := by omega
      rw [← HL.out, List.take_length, HL.out] at ot
      rw [← HL2.out, List.take_length, HL2.out] at ov
      go_wp2_with fail
      go_ret2
      exact ⟨_, _, rfl, by rw [HL.out]; exact ot, by rw [HL2.out]; exact ov, hb⟩
end Go.Proofs.YtldjeacpkndcbaaDoor
