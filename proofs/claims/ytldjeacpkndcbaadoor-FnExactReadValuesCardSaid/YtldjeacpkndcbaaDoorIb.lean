/- Walks: slices of int64: the laws' own helpers. -/
import Derived.Test.YtldjeacpkndcbaaDoorUa
import Derived.Deep.QuietTactic
import Derived.OpenShut
set_option linter.unusedVariables false
set_option linter.unusedSimpArgs false
namespace Go.Proofs.YtldjeacpkndcbaaDoor
open Go.RowKit

def ints (l : List Int) : List Value := l.map (Value.int .i64)
theorem ints_length (l : List Int) : (ints l).length = l.length := by simp [ints]
theorem ints_append (l m : List Int) : ints (l ++ m) = ints l ++ ints m := by simp [ints]
theorem ints_get (l : List Int) (j : Nat) (h : j < l.length) : (ints l)[j]? = some (.int .i64 (l.getD j 0)) := by
  simp [ints, List.getD_eq_getElem?_getD, h]
theorem ints_set (l : List Int) (k : Nat) (x : Int) : (ints l).set k (.int .i64 x) = ints (l.set k x) := by simp [ints, List.map_set]
def Rng (x : Int) : Prop := -9223372036854775808 ≤ x ∧ x ≤ 9223372036854775807

/-- the slice v reads as xs in the blocks below B -/
def IL (w : World) (B : Nat) (v : Value) (xs : List Int) : Prop :=
  (∀ j, Rng (xs.getD j 0)) ∧ xs.length ≤ 1048576 ∧ ∃ A c, v = .slice A xs.length c ∧
    (xs = [] ∨ ∃ b off, A = some ⟨b, off, none⟩ ∧ b < B ∧ ∀ j, j < xs.length → w.cell? ⟨b, off + j, none⟩ = some (.int .i64 (xs.getD j 0)))
theorem IL.below {w w' : World} {B : Nat} {v : Value} {xs : List Int} (h : IL w B v xs) (hb : Below B w w') : IL w' B v xs := by
  obtain ⟨h1, h2, A, c, rfl, h3⟩ := h
  refine ⟨h1, h2, A, c, rfl, ?_⟩
  rcases h3 with h3 | ⟨b, off, rfl, hlt, hc⟩
  · exact .inl h3
  · exact .inr ⟨b, off, rfl, hlt, fun j hj => (hb.cell (p := ⟨b, off + j, none⟩) hlt).trans (hc j hj)⟩
theorem IL.up {w : World} {B B' : Nat} {v : Value} {xs : List Int} (h : IL w B v xs) (hB : B ≤ B') : IL w B' v xs := by
  obtain ⟨h1, h2, A, c, rfl, h3⟩ := h
  refine ⟨h1, h2, A, c, rfl, ?_⟩
  rcases h3 with h3 | ⟨b, off, rfl, hlt, hc⟩
  · exact .inl h3
  · exact .inr ⟨b, off, rfl, by omega, hc⟩
theorem rng_zero : Rng 0 := ⟨by omega, by omega⟩
theorem rng_of {xs : List Int} (h : ∀ x ∈ xs, Rng x) (j : Nat) : Rng (xs.getD j 0) := by
  rw [List.getD_eq_getElem?_getD]
  by_cases hj : j < xs.length
  · rw [List.getElem?_eq_getElem hj]; exact h _ (List.getElem_mem hj)
  · rw [List.getElem?_eq_none (by omega)]; exact rng_zero
theorem IL.of_own {w : World} {base : Nat} {v : Value} {n : Nat} {xs : List Int} (h : w.ownsRow base 2 1 v n (ints xs)) (hn : n = xs.length) (hr : ∀ j, Rng (xs.getD j 0)) (hl : xs.length ≤ 1048576) : IL w w.heap.size v xs := by
  subst hn
  refine ⟨hr, hl, ?_⟩
  rcases h.2 with ⟨rfl, h0⟩ | ⟨g, cap, cur, rfl, hb, hg, _⟩
  · exact ⟨none, 0, by rw [h0], .inl (List.eq_nil_of_length_eq_zero h0)⟩
  · refine ⟨_, cap, rfl, .inr ⟨g, 0, rfl, (Array.getElem?_eq_some_iff.1 hg).1, fun j hj => ?_⟩⟩
    rw [Nat.zero_add, h.cellAt j (by omega)]
    exact ints_get _ _ hj
theorem ints_ext {xs ys : List Int} (hl : xs.length = ys.length) (h : ∀ j, j < xs.length → xs.getD j 0 = ys.getD j 0) : xs = ys := by
  apply List.ext_getElem hl
  intro j h1 h2
  have := h j h1
  simpa [List.getD_eq_getElem?_getD, h1, h2] using this
theorem getD_set_int (l : List Int) (k j : Nat) (x : Int) (hk : k < l.length) : (l.set k x).getD j 0 = if j = k then x else l.getD j 0 := by
  simp only [List.getD_eq_getElem?_getD, List.getElem?_set]
  by_cases e : k = j
  · subst e; simp [hk]
  · have e' : ¬ j = k := fun h => e h.symm
    simp [e, e']
theorem made_ints (n : Nat) : (madeCells #[Value.int .i64 0] n).toList = ints (List.replicate n 0) := by
  apply List.ext_getElem?
  intro i
  by_cases hi : i < n
  · simp [madeCells, ints, hi, Nat.mod_one]
  · rw [List.getElem?_eq_none (l := ints _) (by simp [ints]; omega), List.getElem?_eq_none (by simp [madeCells]; omega)]

def OwnPost (base : Nat) (xs : List Int) (w : World) (e : Ending) (w' : World) : Prop :=
  ∃ v, e = .returned v ∧ w'.ownsRow base 2 1 v xs.length (ints xs) ∧ Below w.heap.size w w'

set_option maxRecDepth 100000 in
set_option maxHeartbeats 1000000 in
theorem toInt64S_any (v : Value) (xs : List Int) (w : World) (h : IL w w.heap.size v xs) :
    Calls Tryd.prog 28 #[v] w (OwnPost w.heap.size xs w) := by
  obtain ⟨hr, hlen, A, c, rfl, h3⟩ := h
  obtain ⟨i0, hi, hz0, hz1, hz2⟩ := info_parts u_info_i64
  go_enter Tryd.func28, Tryd.ntmps28
  go_wp2_with (at_make; refine wpList_make_full _ rfl _ _ 24 rfl w.heap.size 2 i0 (.int .i64 0) 1 Tryd.underlying24 hi hz0 hz1 _ _ _ _ xs.length rfl rfl rfl rfl ?b2 ?b3 ?b4 ?_)
  case b2 => rw [hz2]; omega
  case b3 => unfold maxLen; omega
  case b4 => exact Nat.le_refl _
  intro w1 hown hgrow
  rw [made_ints] at hown
  have hb1 : Below w.heap.size w w1 := (Below.refl _ _).grown hgrow (Nat.le_refl _) (fun k hk => by cases hk)
  clear hgrow
  go_wp2_with fail
  go_loopw [4] (fun i wr => ∃ (k : Nat) (l : List Int), k ≤ xs.length ∧ i = .int .i64 k ∧ l.length = xs.length ∧ (∀ j, j < k → l.getD j 0 = xs.getD j 0) ∧
      wr.ownsRow w.heap.size 2 1 (.slice (some ⟨w.heap.size, 0, none⟩) xs.length xs.length) xs.length (ints l) ∧ Below w.heap.size w wr)
    (fun i _ => xs.length - (intOf i).toNat)
  case atStart => exact ⟨0, List.replicate xs.length 0, Nat.zero_le _, rfl, by simp, fun j hj => by omega, hown, hb1⟩
  case round =>
    clear hown hb1
    obtain ⟨k, l, hk, rfl, hll, hag, hown, hb1⟩ := hrel
    have Hag := Lib.hid hag
    clear hag
    by_cases hlt : k < xs.length
    · rcases h3 with h3 | ⟨b, off, rfl, hbl, hc⟩
      · subst h3; simp at hlt
      have hx : wr.cell? ⟨b, off + k, none⟩ = some (.int .i64 (xs.getD k 0)) := (hb1.cell (p := ⟨b, off + k, none⟩) hbl).trans (hc k hlt)
      have hcell : wr.cell? ⟨w.heap.size, k, none⟩ = some (.int .i64 (l.getD k 0)) := by
        rw [hown.cellAt _ (by omega)]; exact ints_get _ _ (by omega)
      have hfro : wr.frozen? ⟨w.heap.size, k, none⟩ = false := hown.frozenAt _
      generalize hX : xs.getD k 0 = x at hx
      generalize hY : l.getD k 0 = y at hcell
      have HX := Lib.hid hX
      have Hl := Lib.hid hll
      have Hr := Lib.hid hr
      clear hX hY hll hc hr
      have hst := hown.stored k (.int .i64 x)
      have hown2 := hst.1
      rw [ints_set] at hown2
      have hb2 : Below w.heap.size w (wr.setCell ⟨w.heap.size, k, none⟩ (.int .i64 x)) := hb1.setCell (by simp) _
      clear hst hb1
      go_wp2_with fail
      go_roundw
      case rel =>
        refine ⟨k + 1, l.set k x, by omega, by go_num, by simpa using Hl.out, fun j hj => ?_, hown2, hb2⟩
        rw [getD_set_int _ _ _ _ (by have := Hl.out; omega)]
        by_cases e : j = k
        · subst e; rw [if_pos rfl, HX.out]
        · rw [if_neg e]; exact Hag.out j (by omega)
      case measure => simp [intOf]; omega
    · obtain rfl : k = xs.length := by omega
      obtain rfl : l = xs := ints_ext hll (fun j hj => Hag.out j (by omega))
      go_wp2_with fail
      go_ret
      exact ⟨_, rfl, hown, hb1⟩
end Go.Proofs.YtldjeacpkndcbaaDoor

/- Walks: two slices of int64 compared; marks. -/
set_option linter.unusedVariables false
set_option linter.unusedSimpArgs false
namespace Go.Proofs.YtldjeacpkndcbaaDoor
open Go.RowKit

def BoolPost (b : Bool) (w : World) (e : Ending) (w' : World) : Prop := e = .returned (.bool b) ∧ Below w.heap.size w w'

theorem ne_of_len {xs ys : List Int} (h : ¬ xs.length = ys.length) : decide (xs = ys) = false := by
  rw [decide_eq_false_iff_not]; intro e; exact h (by rw [e])
theorem ne_of_get {xs ys : List Int} (k : Nat) (h : ¬ xs.getD k 0 = ys.getD k 0) : decide (xs = ys) = false := by
  rw [decide_eq_false_iff_not]; intro e; exact h (by rw [e])

set_option maxRecDepth 100000 in
set_option maxHeartbeats 1000000 in
theorem eqInt64S_any (v u : Value) (xs ys : List Int) (w : World) (h : IL w w.heap.size v xs) (h' : IL w w.heap.size u ys) :
    Calls Tryd.prog 30 #[v, u] w (BoolPost (decide (xs = ys)) w) := by
  obtain ⟨hr, hlen, A, c, rfl, h3⟩ := h
  obtain ⟨hr', hlen', A', c', rfl, h3'⟩ := h'
  by_cases hl : xs.length = ys.length
  · have Hl := Lib.hid hl
    have hne : decide ((xs.length : Int) = (ys.length : Int)) = true := by simp; omega
    have hbne : ((xs.length : Int) != (ys.length : Int)) = false := by simp; omega
    clear hl
    go_enter Tryd.func30, Tryd.ntmps30
    go_wp2_with fail
    go_loopw [5] (fun i wr => ∃ k : Nat, k ≤ xs.length ∧ i = .int .i64 k ∧ (∀ j, j < k → xs.getD j 0 = ys.getD j 0) ∧ Below w.heap.size w wr) (fun i _ => xs.length - (intOf i).toNat)
    case atStart => exact ⟨0, Nat.zero_le _, rfl, fun j hj => by omega, Below.refl _ _⟩
    case round =>
      obtain ⟨k, hk, rfl, hag, hb⟩ := hrel
      have Hag := Lib.hid hag
      clear hag
      by_cases hlt : k < xs.length
      · have hlt' : k < ys.length := by have := Hl.out; omega
        rcases h3 with h3 | ⟨b, off, rfl, hbl, hc⟩
        · subst h3; simp at hlt
        rcases h3' with h3' | ⟨b', off', rfl, hbl', hc'⟩
        · subst h3'; simp at hlt'
        have hx : wr.cell? ⟨b, off + k, none⟩ = some (.int .i64 (xs.getD k 0)) := (hb.cell (p := ⟨b, off + k, none⟩) hbl).trans (hc k hlt)
        have hy : wr.cell? ⟨b', off' + k, none⟩ = some (.int .i64 (ys.getD k 0)) := (hb.cell (p := ⟨b', off' + k, none⟩) hbl').trans (hc' k hlt')
        have Hr := Lib.hid hr
        have Hr' := Lib.hid hr'
        by_cases e : xs.getD k 0 = ys.getD k 0
        · have E := Lib.hid e
          rw [← e] at hy
          generalize hX : xs.getD k 0 = x at hx hy
          have HX := Lib.hid hX
          clear hX hc hc' hr hr' e
          go_wp2_with fail
          go_region
          go_wp2_with fail
          go_roundw
          case rel =>
            refine ⟨k + 1, by omega, by go_num, fun j hj => ?_, by first | exact hb.drew | exact hb.drew.drew⟩
            by_cases e : j = k
            · subst e; exact E.out
            · exact Hag.out j (by omega)
          case measure => simp [intOf]; omega
        · have E := Lib.hid (ne_of_get k e)
          generalize hX : xs.getD k 0 = x at hx e
          generalize hY : ys.getD k 0 = y at hy e
          have HX := Lib.hid hX
          have HY := Lib.hid hY
          have hxy : decide (x = y) = false := by simpa using e
          have hxy' : (x != y) = true := by simpa using e
          clear hX hY hc hc' hr hr' e
          go_wp2_with fail
          go_region
          go_wp2_with fail
          go_ret
          exact ⟨by rw [E.out]; rfl, by first | exact hb.drew | exact hb.drew.drew⟩
      · obtain rfl : k = xs.length := by omega
        have e : xs = ys := ints_ext Hl.out (fun j hj => Hag.out j hj)
        have E := Lib.hid (show decide (xs = ys) = true from by simp [e])
        clear e
        go_wp2_with fail
        go_ret
        exact ⟨by rw [E.out]; rfl, hb⟩
  · have E := Lib.hid (ne_of_len hl)
    have hbne : ((xs.length : Int) != (ys.length : Int)) = true := by simp; omega
    have hbne2 : decide ((xs.length : Int) = (ys.length : Int)) = false := by simp; omega
    clear hl
    go_enter Tryd.func30, Tryd.ntmps30
    go_wp2_with fail
    go_ret
    exact ⟨by rw [E.out]; rfl, Below.refl _ _⟩

def marks (k : Int) (n : Nat) : List Int := (List.range n).map fun j : Nat => k + (j : Int)
theorem marks_length (k : Int) (n : Nat) : (marks k n).length = n := by simp [marks]
theorem marks_getD (k : Int) (n j : Nat) (h : j < n) : (marks k n).getD j 0 = k + j := by
  simp [marks, List.getD_eq_getElem?_getD, h]

def MarkPost (base : Nat) (v : Value) (n : Nat) (w : World) (e : Ending) (w' : World) : Prop :=
  e = .returned (.int .i64 (1 + (n : Int))) ∧ w'.ownsRow base 2 1 v n (ints (marks 1 n)) ∧ Below base w w' ∧ w.grownBy w' v.ownBlock

set_option maxRecDepth 100000 in
set_option maxHeartbeats 1000000 in
theorem markInt64S_any (base : Nat) (v : Value) (xs : List Int) (w : World) (hl : xs.length ≤ 1048576) (h : w.ownsRow base 2 1 v xs.length (ints xs)) :
    Calls Tryd.prog 33 #[v, .int .i64 1] w (MarkPost base v xs.length w) := by
  obtain ⟨n, hn⟩ : ∃ n, n = xs.length := ⟨_, rfl⟩
  rw [← hn] at h hl ⊢
  have Hn := Lib.hid hn
  clear hn
  rcases h.2 with ⟨rfl, h0⟩ | ⟨g, cap, cur, rfl, hb, hg, _⟩
  · subst h0
    go_enter Tryd.func33, Tryd.ntmps33
    go_wp2_with fail
    refine wp_loop_rounds 1 ?_
    rw [rounds_succ]
    go_wp2_with fail
    go_ret
    exact ⟨rfl, World.ownsRow_nil _ _ _ _, Below.refl _ _, World.grownBy.refl _ _⟩
  · clear hg
    go_enter Tryd.func33, Tryd.ntmps33
    go_wp2_with fail
    go_loopw [5, 1] (fun i q wr => ∃ (k : Nat) (l : List Int), k ≤ n ∧ i = .int .i64 k ∧ q = .int .i64 (1 + (k : Int)) ∧ l.length = n ∧ (∀ j, j < k → l.getD j 0 = 1 + (j : Int)) ∧
      wr.ownsRow base 2 1 (.slice (some ⟨g, 0, none⟩) n cap) n (ints l) ∧ Below base w wr ∧ w.grownBy wr (some g))
      (fun i _ _ => n - (intOf i).toNat)
    case atStart => exact ⟨0, xs, Nat.zero_le _, rfl, rfl, Hn.out.symm, fun j hj => by omega, h, Below.refl _ _, World.grownBy.refl _ _⟩
    case round =>
      clear h
      obtain ⟨k, l, hk, rfl, rfl, hll, hag, hown, hb1, hg1⟩ := hrel
      have Hag := Lib.hid hag
      have Hll := Lib.hid hll
      clear hag hll
      by_cases hlt : k < n
      · have hcell : wr.cell? ⟨g, k, none⟩ = some (.int .i64 (l.getD k 0)) := by
          rw [hown.cellAt _ (by omega)]; exact ints_get _ _ (by have := Hll.out; omega)
        have hfro : wr.frozen? ⟨g, k, none⟩ = false := hown.frozenAt _
        generalize hY : l.getD k 0 = y at hcell
        have HY := Lib.hid hY
        clear hY
        have hst := hown.stored k (.int .i64 (1 + (k : Int)))
        have hown2 := hst.1
        rw [ints_set] at hown2
        have hb2 : Below base w (wr.setCell ⟨g, k, none⟩ (.int .i64 (1 + (k : Int)))) := hb1.setCell (by exact hb) _
        have hg2 : w.grownBy (wr.setCell ⟨g, k, none⟩ (.int .i64 (1 + (k : Int)))) (some g) := hg1.trans hst.2
        clear hst hb1 hg1
        go_wp2_with fail
        go_roundw
        case rel =>
          refine ⟨k + 1, l.set k (1 + (k : Int)), by omega, by go_num, by go_num, by simpa using Hll.out, fun j hj => ?_, hown2, hb2, hg2⟩
          rw [getD_set_int _ _ _ _ (by have := Hll.out; omega)]
          by_cases e : j = k
          · subst e; rw [if_pos rfl]
          · rw [if_neg e]; exact Hag.out j (by omega)
        case measure => simp [intOf]; omega
      · obtain rfl : k = n := by omega
        have e : l = marks 1 k := ints_ext (by rw [marks_length]; exact Hll.out) (fun j hj => by rw [marks_getD _ _ _ (by have := Hll.out; omega)]; exact Hag.out j (by have := Hll.out; omega))
        subst e
        go_wp2_with fail
        go_ret
        exact ⟨rfl, hown, hb1, hg1⟩

set_option maxRecDepth 100000 in
set_option maxHeartbeats 1000000 in
theorem heldInt64S_any (v : Value) (n : Nat) (w : World) (h : IL w w.heap.size v (marks 1 n)) :
    Calls Tryd.prog 34 #[v, .int .i64 1] w fun e w' => e = .returned (.int .i64 (1 + (n : Int))) ∧ w = w' := by
  obtain ⟨hr, hlen, A, c, rfl, h3⟩ := h
  rw [marks_length] at hlen
  have hc0 : marks 1 n = [] ∨ ∃ b off, A = some ⟨b, off, none⟩ ∧ ∀ j, j < n → w.cell? ⟨b, off + j, none⟩ = some (.int .i64 (1 + (j : Int))) := by
    rcases h3 with h3 | ⟨b, off, rfl, hbl, hc⟩
    · exact .inl h3
    · exact .inr ⟨b, off, rfl, fun j hj => by have := hc j (by rw [marks_length]; exact hj); rw [marks_getD _ _ _ hj] at this; exact this⟩
  rw [marks_length]
  clear h3 hr
  go_enter Tryd.func34, Tryd.ntmps34
  go_wp2_with fail
  go_loop [5, 1] (fun i q => ∃ k : Nat, k ≤ n ∧ i = .int .i64 k ∧ q = .int .i64 (1 + (k : Int))) (fun i _ => n - (intOf i).toNat)
  case atStart => exact ⟨0, Nat.zero_le _, rfl, rfl⟩
  case round =>
    obtain ⟨k, hk, rfl, rfl⟩ := hrel
    by_cases hlt : k < n
    · rcases hc0 with hc0 | ⟨b, off, rfl, hc⟩
      · have := marks_length 1 n; rw [hc0] at this; simp at this; omega
      have hx := hc k hlt
      clear hc
      go_wp2_with fail
      go_round
      case rel => exact ⟨k + 1, by omega, by go_num, by go_num⟩
      case measure => simp [intOf]; omega
    · obtain rfl : k = n := by omega
      clear hc0
      go_wp2_with fail
      go_ret
      exact ⟨rfl, rfl⟩

/-- a slice that came in, as the frame of a law gives it -/
theorem il_nil (w : World) (c : Nat) (A : Option Addr) : IL w w.heap.size (.slice A 0 c) [] :=
  ⟨fun j => by simpa using rng_zero, by simp, A, c, rfl, .inl rfl⟩
theorem il_of (x : Addr) (n c : Nat) (zs : List Int) (w : World) (hn : n ≤ 1048576) (hl : n ≤ c) (hz : zs.length = c)
    (hcell : ∀ i, i < zs.length → w.cell? (x.add i) = some (.int .i64 (zs.getD i 0))) (hwz : ∀ k ∈ zs, (Lit.int .i64 k).wf = true) :
    ∃ xs : List Int, xs.length = n ∧ IL w w.heap.size (.slice (some x) n c) xs := by
  have hlen : (zs.take n).length = n := by rw [List.length_take]; omega
  by_cases h0 : n = 0
  · subst h0; exact ⟨[], rfl, il_nil _ _ _⟩
  · refine ⟨zs.take n, hlen, ?_, by omega, some x, c, by rw [hlen], .inr ?_⟩
    · refine rng_of fun y hy => ?_
      have := hwz y (List.mem_of_mem_take hy)
      have h2 := bounds_i64 this
      exact ⟨by omega, by omega⟩
    · obtain ⟨b, off, spot⟩ := x
      have hc := hcell 0 (by omega)
      have hspot : spot = none := by simpa [Addr.add] using World.cell?_spot hc
      subst hspot
      refine ⟨b, off, rfl, ?_, fun j hj => ?_⟩
      · have h1 : w.cell? ⟨b, off, none⟩ = some (.int .i64 (zs.getD 0 0)) := by simpa [Addr.add] using hc
        exact World.block_lt_of_cell? w _ h1
      · rw [hlen] at hj
        have h1 := hcell j (by omega)
        have h2 : (zs.take n).getD j 0 = zs.getD j 0 := by simp [List.getD_eq_getElem?_getD, hj]
        have hadd : (⟨b, off, none⟩ : Addr).add j = ⟨b, off + j, none⟩ := by unfold Addr.add; split <;> simp_all
        rw [hadd] at h1
        rw [h2]; exact h1
end Go.Proofs.YtldjeacpkndcbaaDoor
