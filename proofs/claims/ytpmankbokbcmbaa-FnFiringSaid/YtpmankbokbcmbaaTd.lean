/- Walks: slices of spans: the laws' own helpers and marks. -/
import Derived.Test.YtpmankbokbcmbaaYm
set_option linter.unusedVariables false
set_option linter.unusedSimpArgs false
namespace Go.Proofs.Ytpmankbokbcmbaa
open Go.RowKit

theorem PL.of_ownS {w : World} {base : Nat} {v : Value} {n : Nat} {xs : List (Int × Int)} (h : w.ownsRow base 40 2 v n (prs xs)) (hn : n = xs.length) (hr : ∀ j, Rng (xs.getD j (0, 0)).1 ∧ Rng (xs.getD j (0, 0)).2) (hl : xs.length ≤ 1048576) : PL w w.heap.size v xs := by
  subst hn
  refine ⟨hr, hl, ?_⟩
  rcases h.2 with ⟨rfl, h0⟩ | ⟨g, cap, cur, rfl, hb, hg, _⟩
  · exact ⟨none, 0, by rw [h0], .inl (List.eq_nil_of_length_eq_zero h0)⟩
  · refine ⟨_, cap, rfl, .inr ⟨g, 0, rfl, (Array.getElem?_eq_some_iff.1 hg).1, fun j hj => ⟨?_, ?_⟩⟩⟩
    · rw [Nat.zero_add, h.cellAt (j * 2) (by omega)]
      exact prs_get0 _ _ hj
    · rw [Nat.zero_add, h.cellAt (j * 2 + 1) (by omega)]
      exact prs_get1 _ _ hj
def SOwnPost (base : Nat) (xs : List (Int × Int)) (w : World) (e : Ending) (w' : World) : Prop :=
  ∃ v, e = .returned v ∧ w'.ownsRow base 40 2 v xs.length (prs xs) ∧ Below w.heap.size w w'
theorem info_sp : (Try.prog.info? 40).map (fun i => (i.zero, i.size, i.bytes)) = some (some (.agg #[.int .i64 0, .int .i64 0]), 2, 16) := by kernel_rfl
set_option maxRecDepth 100000 in
set_option maxHeartbeats 400000 in
theorem eqSpan_any (a b c d : Int) (w : World) :
    Calls Try.prog 38 #[.agg #[.int .i64 a, .int .i64 b], .agg #[.int .i64 c, .int .i64 d]] w (BoolPost (decide ((a, b) = (c, d))) w) := by
  by_cases h1 : a = c
  · by_cases h2 : b = d
    · subst h1 h2
      rw [show decide ((a, b) = (a, b)) = true by simp]
      go_enter Try.func38, Try.ntmps38
      go_wp2
      go_ret
      exact ⟨rfl, by
      repeat (first | exact Below.refl _ _ | refine Below.alloc ?_ (by simp; try omega) _ | refine Below.setCell ?_ (by simp; try omega) _ | refine Below.drew ?_)⟩
    · have hn : decide ((a, b) = (c, d)) = false := by simp [h2]
      rw [hn]
      have hbne : (b != d) = true := by simpa using h2
      have hde : decide (b = d) = false := by simpa using h2
      subst h1
      clear hn
      go_enter Try.func38, Try.ntmps38
      go_wp2
      go_ret
      exact ⟨rfl, by
      repeat (first | exact Below.refl _ _ | refine Below.alloc ?_ (by simp; try omega) _ | refine Below.setCell ?_ (by simp; try omega) _ | refine Below.drew ?_)⟩
  · have hn : decide ((a, b) = (c, d)) = false := by simp [h1]
    rw [hn]
    have hbne : (a != c) = true := by simpa using h1
    have hde : decide (a = c) = false := by simpa using h1
    clear hn
    go_enter Try.func38, Try.ntmps38
    go_wp2
    go_ret
    exact ⟨rfl, by
      repeat (first | exact Below.refl _ _ | refine Below.alloc ?_ (by simp; try omega) _ | refine Below.setCell ?_ (by simp; try omega) _ | refine Below.drew ?_)⟩

set_option maxRecDepth 100000 in
set_option maxHeartbeats 1000000 in
theorem eqSpanS_any (v u : Value) (xs ys : List (Int × Int)) (w : World) (h : PL w w.heap.size v xs) (h' : PL w w.heap.size u ys) :
    Calls Try.prog 14 #[v, u] w (BoolPost (decide (xs = ys)) w) := by
  obtain ⟨hr, hlen, A, c, rfl, h3⟩ := h
  obtain ⟨hr', hlen', A', c', rfl, h3'⟩ := h'
  have Hr := Lib.hid hr
  have Hr' := Lib.hid hr'
  clear hr hr'
  have hE := Lib.hid (fun a b c d W => eqSpan_any a b c d W)
  by_cases hl : xs.length = ys.length
  · have Hl := Lib.hid hl
    have hne : decide ((xs.length : Int) = (ys.length : Int)) = true := by simp; omega
    have hbne : ((xs.length : Int) != (ys.length : Int)) = false := by simp; omega
    clear hl
    go_enter Try.func14, Try.ntmps14
    go_wp2_with fail
    go_loopw [5] (fun i wr => ∃ k : Nat, k ≤ xs.length ∧ i = .int .i64 k ∧ (∀ j, j < k → xs.getD j (0, 0) = ys.getD j (0, 0)) ∧ Below w.heap.size w wr) (fun i _ => xs.length - (intOf i).toNat)
    case atStart => exact ⟨0, Nat.zero_le _, rfl, fun j hj => by omega, Below.refl _ _⟩
    case round =>
      obtain ⟨k, hk, rfl, hag, hb⟩ := hrel
      have Hag := Lib.hid hag
      clear hag
      by_cases hlt : k < xs.length
      · have hlt' : k < ys.length := by have := Hl.out; omega
        rcases h3 with h3 | ⟨b, off, rfl, hbl, hc⟩
        · subst h3; simp at hlt
        rcases h3' with h3' | ⟨b', off', rfl, hbl', hc'⟩
        · subst h3'; simp at hlt'
        have hx0 : wr.cell? ⟨b, off + k * 2, none⟩ = some (.int .i64 (xs.getD k (0, 0)).1) := (hb.cell (p := ⟨b, off + k * 2, none⟩) hbl).trans (hc k hlt).1
        have hx1 : wr.cell? ⟨b, off + k * 2 + 1, none⟩ = some (.int .i64 (xs.getD k (0, 0)).2) := (hb.cell (p := ⟨b, off + k * 2 + 1, none⟩) hbl).trans (hc k hlt).2
        have hy0 : wr.cell? ⟨b', off' + k * 2, none⟩ = some (.int .i64 (ys.getD k (0, 0)).1) := (hb.cell (p := ⟨b', off' + k * 2, none⟩) hbl').trans (hc' k hlt').1
        have hy1 : wr.cell? ⟨b', off' + k * 2 + 1, none⟩ = some (.int .i64 (ys.getD k (0, 0)).2) := (hb.cell (p := ⟨b', off' + k * 2 + 1, none⟩) hbl').trans (hc' k hlt').2
        obtain ⟨x, y, hX⟩ : ∃ x y, xs.getD k (0, 0) = (x, y) := ⟨_, _, rfl⟩
        obtain ⟨z, t, hZ⟩ : ∃ x y, ys.getD k (0, 0) = (x, y) := ⟨_, _, rfl⟩
        rw [hX] at hx0 hx1
        rw [hZ] at hy0 hy1
        have HX := Lib.hid hX
        have HZ := Lib.hid hZ
        clear hX hZ hc hc'
        have HB := Lib.hid hb
        have hsz := hb.size
        by_cases e : (x, y) = (z, t)
        · have E := Lib.hid e
          have hE2 := Lib.hid (fun W => hE.out x y z t W)
          rw [decide_eq_true e] at hE2
          clear e
          go_wp2_with fail
          go_region_law (go_simp; go_at_call 38; (refine (hE2.out _).mono ?_); rintro e w5 ⟨rfl, hb5⟩; have hb6 := HB.out.drew.trans (hb5.mono hsz); have HB6 := Lib.hid hb6; clear hb5 hb6)
          all_goals
           go_simp
           go_wp2_with fail
           go_roundw
           case rel =>
             refine ⟨k + 1, by omega, by go_num, fun j hj => ?_, HB6.out⟩
             by_cases e : j = k
             · subst e; rw [HX.out, HZ.out, E.out]
             · exact Hag.out j (by omega)
           case measure => simp [intOf]; omega
        · have E := Lib.hid (pne_of_get (xs := xs) (ys := ys) k (by rw [HX.out, HZ.out]; exact e))
          have hE2 := Lib.hid (fun W => hE.out x y z t W)
          rw [decide_eq_false e] at hE2
          clear e
          go_wp2_with fail
          go_region_law (go_simp; go_at_call 38; (refine (hE2.out _).mono ?_); rintro e w5 ⟨rfl, hb5⟩; have hb6 := HB.out.drew.trans (hb5.mono hsz); have HB6 := Lib.hid hb6; clear hb5 hb6)
          all_goals
           go_simp
           go_wp2_with fail
           go_ret
           exact ⟨by rw [E.out]; rfl, HB6.out⟩
      · obtain rfl : k = xs.length := by omega
        have e : xs = ys := prs_ext Hl.out (fun j hj => Hag.out j hj)
        have E := Lib.hid (show decide (xs = ys) = true from by simp [e])
        clear e
        go_wp2_with fail
        go_ret
        exact ⟨by rw [E.out]; rfl, hb⟩
  · have E := Lib.hid (pne_of_len hl)
    have hbne : ((xs.length : Int) != (ys.length : Int)) = true := by simp; omega
    have hbne2 : decide ((xs.length : Int) = (ys.length : Int)) = false := by simp; omega
    clear hl
    go_enter Try.func14, Try.ntmps14
    go_wp2_with fail
    go_ret
    exact ⟨by rw [E.out]; rfl, Below.refl _ _⟩
def MarkPostS (base : Nat) (v : Value) (n : Nat) (K : Int) (w : World) (e : Ending) (w' : World) : Prop :=
  e = .returned (.int .i64 (K + 2 * (n : Int))) ∧ w'.ownsRow base 40 2 v n (prs (marks2 K n)) ∧ Below base w w' ∧ w.grownBy w' v.ownBlock

set_option maxRecDepth 100000 in
set_option maxHeartbeats 4000000 in
theorem markSpanS_any (base : Nat) (v : Value) (K : Int) (xs : List (Int × Int)) (w : World) (hK : 0 ≤ K) (hK2 : K ≤ 100000000000000) (hl : xs.length ≤ 1048576) (h : w.ownsRow base 40 2 v xs.length (prs xs)) :
    Calls Try.prog 17 #[v, .int .i64 K] w (MarkPostS base v xs.length K w) := by
  obtain ⟨n, hn⟩ : ∃ n, n = xs.length := ⟨_, rfl⟩
  rw [← hn] at h hl ⊢
  have Hn := Lib.hid hn
  clear hn
  rcases h.2 with ⟨rfl, h0⟩ | ⟨g, cap, cur, rfl, hb, hg, _⟩
  · subst h0
    go_enter Try.func17, Try.ntmps17
    go_wp2_with fail
    refine wp_loop_rounds 1 ?_
    rw [rounds_succ]
    go_wp2_with fail
    go_ret
    exact ⟨by simp, World.ownsRow_nil _ _ _ _, Below.refl _ _, World.grownBy.refl _ _⟩
  · clear hg
    go_enter Try.func17, Try.ntmps17
    go_wp2_with fail
    go_loopw [5, 1] (fun i q wr => ∃ (k : Nat) (l : List (Int × Int)), k ≤ n ∧ i = .int .i64 k ∧ q = .int .i64 (K + 2 * (k : Int)) ∧ l.length = n ∧ (∀ j : Nat, j < k → l.getD j (0, 0) = (K + 2 * (j : Int), K + 2 * (j : Int) + 1)) ∧
      wr.ownsRow base 40 2 (.slice (some ⟨g, 0, none⟩) n cap) n (prs l) ∧ Below base w wr ∧ w.grownBy wr (some g))
      (fun i _ _ => n - (intOf i).toNat)
    case atStart => exact ⟨0, xs, Nat.zero_le _, rfl, by simp, Hn.out.symm, fun j hj => by omega, h, Below.refl _ _, World.grownBy.refl _ _⟩
    case round =>
      clear h
      obtain ⟨k, l, hk, rfl, rfl, hll, hag, hown, hb1, hg1⟩ := hrel
      have Hag := Lib.hid hag
      have Hll := Lib.hid hll
      clear hag hll
      by_cases hlt : k < n
      · have c0 : wr.cell? ⟨g, k * 2, none⟩ = some (.int .i64 (l.getD k (0, 0)).1) := by
          rw [hown.cellAt _ (by omega)]; exact prs_get0 _ _ (by have := Hll.out; omega)
        have c1 : wr.cell? ⟨g, k * 2 + 1, none⟩ = some (.int .i64 (l.getD k (0, 0)).2) := by
          rw [hown.cellAt _ (by omega)]; exact prs_get1 _ _ (by have := Hll.out; omega)
        have f0 : wr.frozen? ⟨g, k * 2, none⟩ = false := hown.frozenAt _
        have f1 : wr.frozen? ⟨g, k * 2 + 1, none⟩ = false := hown.frozenAt _
        generalize (l.getD k (0, 0)).1 = o0 at c0
        generalize (l.getD k (0, 0)).2 = o1 at c1
        have hst0 := hown.stored (k * 2) (.int .i64 (K + 2 * (k : Int)))
        have hst1 := hst0.1.stored (k * 2 + 1) (.int .i64 (K + 2 * (k : Int) + 1))
        have hown2 := hst1.1
        rw [prs_set l k (K + 2 * (k : Int)) (K + 2 * (k : Int) + 1) (by have := Hll.out; omega)] at hown2
        have hb2 := ((hb1.setCell (p := ⟨g, k * 2, none⟩) (by exact hb) (.int .i64 (K + 2 * (k : Int)))).setCell (p := ⟨g, k * 2 + 1, none⟩) (by exact hb) (.int .i64 (K + 2 * (k : Int) + 1)))
        have hg2 := ((hg1.trans hst0.2).trans hst1.2)
        have HO := Lib.hid hown2
        have HB := Lib.hid hb2
        have HG := Lib.hid hg2
        clear hst0 hst1 hown2 hb2 hg2 hb1 hg1 hown
        go_wp2_with fail
        go_roundw
        case rel =>
          have h1 := HO.out
          have h2 := HB.out
          have h3 := HG.out
          have h0 := Hll.out
          clear HO HB HG
          refine ⟨k + 1, l.set k (K + 2 * (k : Int), K + 2 * (k : Int) + 1), by omega, by go_num, by go_num, by simpa using h0, fun j hj => ?_, ?_, ?_, ?_⟩
          case refine_2 => with_reducible exact h1
          case refine_3 => with_reducible exact h2
          case refine_4 => with_reducible exact h3
          rw [getD_set_pr _ _ _ _ (by have := Hll.out; omega)]
          by_cases e : j = k
          · subst e; rw [if_pos rfl]; (try simp only [Prod.mk.injEq]); (repeat' (first | trivial | omega | apply And.intro))
          · rw [if_neg e]; exact Hag.out j (by omega)
        case measure => simp [intOf]; omega
      · obtain rfl : k = n := by omega
        have e : l = marks2 K k := prs_ext (by rw [marks2_length]; exact Hll.out) (fun j hj => by rw [marks2_getD _ _ _ (by have := Hll.out; omega)]; exact Hag.out j (by have := Hll.out; omega))
        subst e
        go_wp2_with fail
        go_ret
        exact ⟨rfl, hown, hb1, hg1⟩

set_option maxRecDepth 100000 in
set_option maxHeartbeats 4000000 in
theorem heldSpanS_any (v : Value) (n : Nat) (K : Int) (w : World) (hK : 0 ≤ K) (hK2 : K ≤ 100000000000000) (h : PL w w.heap.size v (marks2 K n)) :
    Calls Try.prog 18 #[v, .int .i64 K] w fun e w' => e = .returned (.int .i64 (K + 2 * (n : Int))) ∧ w = w' := by
  obtain ⟨hr, hlen, A, c, rfl, h3⟩ := h
  rw [marks2_length] at hlen
  have hc0 : marks2 K n = [] ∨ ∃ b off, A = some ⟨b, off, none⟩ ∧ ∀ j, j < n → w.cell? ⟨b, off + j * 2, none⟩ = some (.int .i64 (K + 2 * (j : Int))) ∧ w.cell? ⟨b, off + j * 2 + 1, none⟩ = some (.int .i64 (K + 2 * (j : Int) + 1)) := by
    rcases h3 with h3 | ⟨b, off, rfl, hbl, hc⟩
    · exact .inl h3
    · exact .inr ⟨b, off, rfl, fun j hj => by have := hc j (by rw [marks2_length]; exact hj); rw [marks2_getD _ _ _ hj] at this; exact this⟩
  rw [marks2_length]
  clear h3 hr
  go_enter Try.func18, Try.ntmps18
  go_wp2_with fail
  go_loop [5, 1] (fun i q => ∃ k : Nat, k ≤ n ∧ i = .int .i64 k ∧ q = .int .i64 (K + 2 * (k : Int))) (fun i _ => n - (intOf i).toNat)
  case atStart => exact ⟨0, Nat.zero_le _, rfl, by simp⟩
  case round =>
    obtain ⟨k, hk, rfl, rfl⟩ := hrel
    by_cases hlt : k < n
    · rcases hc0 with hc0 | ⟨b, off, rfl, hc⟩
      · have := marks2_length K n; rw [hc0] at this; simp at this; omega
      obtain ⟨hx0, hx1⟩ := hc k hlt
      clear hc
      have e1 : wrap64 ((K + 2 * (k : Int)) + 1) = K + 2 * (k : Int) + 1 := by unfold wrap64; omega
      have e2 : wrap64 ((K + 2 * (k : Int) + 1) + 1) = K + 2 * (k : Int) + 2 := by unfold wrap64; omega
      go_wp2_with fail
      go_round
      case rel => exact ⟨k + 1, by omega, by go_num, by go_num⟩
      case measure => simp [intOf]; omega
    · obtain rfl : k = n := by omega
      clear hc0
      go_wp2_with fail
      go_ret
      exact ⟨rfl, rfl⟩
end Go.Proofs.Ytpmankbokbcmbaa
