/- Walks: the points of a time range. -/
import Derived.Test.YtcjpedolmnahfaaGb
set_option linter.unusedVariables false
set_option linter.unusedSimpArgs false
namespace Go.Proofs.Ytcjpedolmnahfaa
open Go.RowKit

def inW (f t : Int) (p : Int × Int) : Bool := decide (f ≤ p.1) && decide (p.1 < t)
def btwL (xs : List (Int × Int)) (f t : Int) : List (Int × Int) := xs.filter (inW f t)
def btwM (xs : List (Int × Int)) (f t : Int) : List (Int × Int) := if ptsOkB xs = true then btwL xs f t else []
theorem btwL_succ {xs : List (Int × Int)} {k : Nat} (f t : Int) (hk : k < xs.length) :
    btwL (xs.take (k + 1)) f t = btwL (xs.take k) f t ++ (if inW f t (xs.getD k (0, 0)) = true then [xs.getD k (0, 0)] else []) := by
  unfold btwL
  rw [List.take_add_one, List.filter_append, List.getElem?_eq_getElem hk, List.getD_eq_getElem?_getD, List.getElem?_eq_getElem hk]
  simp [List.filter_cons]
theorem btwL_len (xs : List (Int × Int)) (f t : Int) (k : Nat) : (btwL (xs.take k) f t).length ≤ k := by
  have h1 : (btwL (xs.take k) f t).length ≤ (xs.take k).length := List.length_filter_le _ _
  have h2 : (xs.take k).length ≤ k := List.length_take_le _ _
  omega
theorem prng_mem {xs : List (Int × Int)} (h : ∀ j, Rng (xs.getD j (0, 0)).1 ∧ Rng (xs.getD j (0, 0)).2) : ∀ p ∈ xs, Rng p.1 ∧ Rng p.2 := by
  intro p hp
  obtain ⟨i, hi, rfl⟩ := List.getElem_of_mem hp
  have := h i
  rw [List.getD_eq_getElem?_getD, List.getElem?_eq_getElem hi] at this
  exact this
theorem prng_of {xs : List (Int × Int)} (h : ∀ p ∈ xs, Rng p.1 ∧ Rng p.2) (j : Nat) : Rng (xs.getD j (0, 0)).1 ∧ Rng (xs.getD j (0, 0)).2 := by
  by_cases hj : j < xs.length
  · rw [List.getD_eq_getElem?_getD, List.getElem?_eq_getElem hj]
    exact h _ (List.getElem_mem hj)
  · rw [List.getD_eq_getElem?_getD, List.getElem?_eq_none (by omega)]; exact ⟨rng_zero, rng_zero⟩
theorem btwL_ok (xs : List (Int × Int)) (f t : Int) (h : ∀ j, Rng (xs.getD j (0, 0)).1 ∧ Rng (xs.getD j (0, 0)).2) (hl : xs.length ≤ 1048576) :
    (∀ j, Rng ((btwL xs f t).getD j (0, 0)).1 ∧ Rng ((btwL xs f t).getD j (0, 0)).2) ∧ (btwL xs f t).length ≤ 1048576 :=
  ⟨prng_of fun p hp => prng_mem h p ((List.mem_filter.1 hp).1), Nat.le_trans (List.length_filter_le _ _) hl⟩
theorem btwM_ok (xs : List (Int × Int)) (f t : Int) (h : ∀ j, Rng (xs.getD j (0, 0)).1 ∧ Rng (xs.getD j (0, 0)).2) (hl : xs.length ≤ 1048576) :
    (∀ j, Rng ((btwM xs f t).getD j (0, 0)).1 ∧ Rng ((btwM xs f t).getD j (0, 0)).2) ∧ (btwM xs f t).length ≤ 1048576 := by
  unfold btwM
  split
  · exact btwL_ok xs f t h hl
  · exact ⟨fun j => ⟨rng_zero, rng_zero⟩, Nat.zero_le _⟩
theorem two_cells {w : World} {b : Nat} {x y : Value} (h0 : w.cell? ⟨b, 0, none⟩ = some x) (h1 : w.cell? ⟨b, 1, none⟩ = some y) : ∀ (j : Nat) (u : Value), [x, y][j]? = some u → w.cell? ((⟨b, 0, none⟩ : Addr).add j) = some u := by
  intro j u hj
  match j with
  | 0 => simp at hj; subst hj; exact h0
  | 1 => simp at hj; subst hj; exact h1
  | j + 2 => simp at hj

theorem own_mono {w : World} {base base' sz : Nat} {e : TypeId} {v : Value} {n : Nat} {xs : List Value} (h : w.ownsRow base e sz v n xs) (hb : base' ≤ base) : w.ownsRow base' e sz v n xs :=
  ⟨h.1, h.2.imp id fun ⟨g, cap, cur, a, b, c⟩ => ⟨g, cap, cur, a, Nat.le_trans hb b, c⟩⟩
theorem below_appendN {w wr w1 : World} {B base sz : Nat} {e : TypeId} {v : Value} {n : Nat} {xs : List Value} {o : Obj} (hb : Below B w wr) (hB : B ≤ base) (hBw : B ≤ wr.heap.size) (hown : wr.ownsRow base e sz v n xs) (hgrow : (wr.alloc o).grownBy w1 v.ownBlock) : Below B w w1 :=
  (hb.alloc (by omega) _).grown hgrow (by simp; omega) (fun k hk => by have := (hown.lt _ hk).1; omega)



set_option maxRecDepth 100000 in
set_option maxHeartbeats 2000000 in
theorem implBetween_any (v : Value) (xs : List (Int × Int)) (f t : Int) (w : World) (h : PL w w.heap.size v xs) :
    Calls Try.prog 24 #[v, .int .i64 f, .int .i64 t] w (POwnPost w.heap.size (btwM xs f t) w) := by
  have HP := Lib.hid h
  have hP := Lib.hid (fun W h => implPointsOk_any v xs W h)
  unfold btwM
  obtain ⟨hr, hlen, A, c, rfl, h3⟩ := h
  clear hr
  obtain ⟨i0, hi, hz0, hz1, hz2⟩ := info_parts info_pt
  have HL := Lib.hid (btwL_len xs f t)
  cases hok : ptsOkB xs with
  | false =>
    rw [hok] at hP
    clear hok
    go_enter Try.func24, Try.ntmps24
    go_wp2_with fail
    refine (hP.out _ HP.out).mono ?_
    rintro e w1 ⟨rfl, hb1⟩
    go_wp2_with fail
    go_ret
    exact ⟨_, rfl, World.ownsRow_nil _ _ _ _, hb1⟩
  | true =>
    rw [hok] at hP
    clear hok
    go_enter Try.func24, Try.ntmps24
    go_wp2_with fail
    refine (hP.out _ HP.out).mono ?_
    rintro e w1 ⟨rfl, hb1⟩
    clear HP hP
    go_wp2_with fail
    go_loopw [7, 15] (fun v i wr => ∃ k : Nat, k ≤ xs.length ∧ i = .int .i64 k ∧ wr.ownsRow w.heap.size 43 2 v (btwL (xs.take k) f t).length (prs (btwL (xs.take k) f t)) ∧ Below w.heap.size w wr)
      (fun _ i _ => xs.length - (intOf i).toNat)
    case atStart =>
      refine ⟨0, Nat.zero_le _, rfl, ?_, hb1⟩
      simpa [btwL, prs] using World.ownsRow_nil w1 w.heap.size 43 2
    case round =>
      clear hb1
      obtain ⟨k, hk, rfl, hown, hb⟩ := hrel
      have hsz := hb.size
      by_cases hlt : k < xs.length
      · rcases h3 with h3 | ⟨b, off, rfl, hbl, hc⟩
        · subst h3; simp at hlt
        have hx0 : wr.cell? ⟨b, off + k * 2, none⟩ = some (.int .i64 (xs.getD k (0, 0)).1) := (hb.cell (p := ⟨b, off + k * 2, none⟩) hbl).trans (hc k hlt).1
        have hx1 : wr.cell? ⟨b, off + k * 2 + 1, none⟩ = some (.int .i64 (xs.getD k (0, 0)).2) := (hb.cell (p := ⟨b, off + k * 2 + 1, none⟩) hbl).trans (hc k hlt).2
        have HS := btwL_succ f t hlt
        have hlk := HL.out k
        obtain ⟨x, y, hX⟩ : ∃ x y, xs.getD k (0, 0) = (x, y) := ⟨_, _, rfl⟩
        rw [hX] at hx0 hx1 HS
        have HS := Lib.hid HS
        clear hX hc
        generalize btwL (xs.take k) f t = ys at *
        have HB := Lib.hid (hb.alloc hsz (.cells #[.int .i64 x, .int .i64 y] 43))
        have HO := Lib.hid (hown.alloc (.cells #[.int .i64 x, .int .i64 y] 43))
        clear hb hown
        by_cases g1 : f ≤ x
        case neg =>
          have E := HS.out
          rw [show inW f t (x, y) = false from by unfold inW; rw [decide_eq_false g1]; rfl, if_neg (by simp), List.append_nil] at E
          have E := Lib.hid E
          go_wp2_with fail
          go_roundw
          case rel => exact ⟨k + 1, by omega, by go_num, by rw [E.out]; exact HO.out, HB.out⟩
          case measure => simp [intOf]; omega
        by_cases g2 : x < t
        case neg =>
          have E := HS.out
          rw [show inW f t (x, y) = false from by unfold inW; rw [decide_eq_false g2, Bool.and_false], if_neg (by simp), List.append_nil] at E
          have E := Lib.hid E
          go_wp2_with fail
          go_roundw
          case rel => exact ⟨k + 1, by omega, by go_num, by rw [E.out]; exact HO.out, HB.out⟩
          case measure => simp [intOf]; omega
        have E := HS.out
        rw [show inW f t (x, y) = true from by unfold inW; rw [decide_eq_true g1, decide_eq_true g2]; rfl, if_pos rfl] at E
        have E := Lib.hid E
        clear HS
        go_wp2_with (at_builtin; refine wpList_append_own _ rfl _ _ 27 rfl w.heap.size 43 i0 (.agg #[.int .i64 0, .int .i64 0]) 2 16 Try.underlying27 hi hz0 hz1 hz2 rfl (by decide) _ _ _ rfl (HO.out.alloc _) ⟨wr.heap.size + 1, 0, none⟩ 1 1 [.int .i64 x, .int .i64 y] rfl rfl (two_cells (by go_simp) (by go_simp)) ?c2 ?c3 ?c4 ?c5 ?_)
        case c2 => first | rfl | exact ⟨rfl, rfl⟩ | (intro u hu; simp at hu; rcases hu with rfl | rfl <;> rfl)
        case c3 => unfold maxLen; omega
        case c4 => omega
        case c5 => first | omega | (simp; omega)
        intro v' w4 hown' hgrow _
        have hb4 := below_appendN HB.out (Nat.le_refl _) (by simp; omega) HO.out hgrow
        have hown5 := Lib.hid (show w4.ownsRow w.heap.size 43 2 v' (btwL (xs.take (k + 1)) f t).length (prs (btwL (xs.take (k + 1)) f t)) from by rw [E.out, prs_append, List.length_append]; exact hown')
        have HB4 := Lib.hid hb4
        clear hown' hgrow hb4
        go_wp2_with fail
        go_roundw
        case rel => exact ⟨k + 1, by omega, by go_num, hown5.out, HB4.out⟩
        case measure => simp [intOf]; omega
      · obtain rfl : k = xs.length := by omega
        rw [List.take_length] at hown
        go_wp2_with fail
        go_ret
        exact ⟨_, rfl, by simpa using hown, hb⟩
end Go.Proofs.Ytcjpedolmnahfaa
