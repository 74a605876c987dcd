/- Walks: two slices of int64 compared; marks. -/
import Derived.Test.YtcmmognjnmbajaaDoorIa
import Derived.OpenShut
set_option linter.unusedVariables false
set_option linter.unusedSimpArgs false
namespace Go.Proofs.YtcmmognjnmbajaaDoor
open Go.RowKit

def BoolPost (b : Bool) (w : World) (e : Ending) (w' : World) : Prop := e = .returned (.bool b) ∧ Below w.heap.size w w'

theorem ne_of_len {xs ys : List Int} (h : ¬ xs.length = ys.length) : decide (xs = ys) = false := by
  rw [decide_eq_false_iff_not]; intro e; exact h (by rw [e])
theorem ne_of_get {xs ys : List Int} (k : Nat) (h : ¬ xs.getD k 0 = ys.getD k 0) : decide (xs = ys) = false := by
  rw [decide_eq_false_iff_not]; intro e; exact h (by rw [e])

set_option maxRecDepth 100000 in
set_option maxHeartbeats 1000000 in
theorem eqInt64S_any (v u : Value) (xs ys : List Int) (w : World) (h : IL w w.heap.size v xs) (h' : IL w w.heap.size u ys) :
    Calls Tryd.prog 20 #[v, u] w (BoolPost (decide (xs = ys)) w) := by
  obtain ⟨hr, hlen, A, c, rfl, h3⟩ := h
  obtain ⟨hr', hlen', A', c', rfl, h3'⟩ := h'
  by_cases hl : xs.length = ys.length
  · have Hl := Lib.hid hl
    have hne : decide ((xs.length : Int) = (ys.length : Int)) = true := by simp; omega
    have hbne : ((xs.length : Int) != (ys.length : Int)) = false := by simp; omega
    clear hl
    go_enter Tryd.func20, Tryd.ntmps20
    go_wp2_with fail
    go_loopw [5] (fun i wr => ∃ k : Nat, k ≤ xs.length ∧ i = .int .i64 k ∧ (∀ j, j < k → xs.getD j 0 = ys.getD j 0) ∧ Below w.heap.size w wr) (fun i _ => xs.length - (intOf i).toNat)
    case atStart => exact ⟨0, Nat.zero_le _, rfl, fun j hj => by omega, Below.refl _ _⟩
    case round =>
      obtain ⟨k, hk, rfl, hag, hb⟩ := hrel
      have Hag := Lib.hid hag
      clear hag
      by_cases hlt : k < xs.length
      · have hlt' : k < ys.length := by have := Hl.out; omega
        rcases h3 with h3 | ⟨b, off, rfl, hbl, hc⟩
        · subst h3; simp at hlt
        rcases h3' with h3' | ⟨b', off', rfl, hbl', hc'⟩
        · subst h3'; simp at hlt'
        have hx : wr.cell? ⟨b, off + k, none⟩ = some (.int .i64 (xs.getD k 0)) := (hb.cell (p := ⟨b, off + k, none⟩) hbl).trans (hc k hlt)
        have hy : wr.cell? ⟨b', off' + k, none⟩ = some (.int .i64 (ys.getD k 0)) := (hb.cell (p := ⟨b', off' + k, none⟩) hbl').trans (hc' k hlt')
        have Hr := Lib.hid hr
        have Hr' := Lib.hid hr'
        by_cases e : xs.getD k 0 = ys.getD k 0
        · have E := Lib.hid e
          rw [← e] at hy
          generalize hX : xs.getD k 0 = x at hx hy
          have HX := Lib.hid hX
          clear hX hc hc' hr hr' e
          go_wp2_with fail
          go_region
          go_wp2_with fail
          go_roundw
          case rel =>
            refine ⟨k + 1, by omega, by go_num, fun j hj => ?_, by first | exact hb.drew | exact hb.drew.drew⟩
            by_cases e : j = k
            · subst e; exact E.out
            · exact Hag.out j (by omega)
          case measure => simp [intOf]; omega
        · have E := Lib.hid (ne_of_get k e)
          generalize hX : xs.getD k 0 = x at hx e
          generalize hY : ys.getD k 0 = y at hy e
          have HX := Lib.hid hX
          have HY := Lib.hid hY
          have hxy : decide (x = y) = false := by simpa using e
          have hxy' : (x != y) = true := by simpa using e
          clear hX hY hc hc' hr hr' e
          go_wp2_with fail
          go_region
          go_wp2_with fail
          go_ret
          exact ⟨by rw [E.out]; rfl, by first | exact hb.drew | exact hb.drew.drew⟩
      · obtain rfl : k = xs.length := by omega
        have e : xs = ys := ints_ext Hl.out (fun j hj => Hag.out j hj)
        have E := Lib.hid (show decide (xs = ys) = true from by simp [e])
        clear e
        go_wp2_with fail
        go_ret
        exact ⟨by rw [E.out]; rfl, hb⟩
  · have E := Lib.hid (ne_of_len hl)
    have hbne : ((xs.length : Int) != (ys.length : Int)) = true := by simp; omega
    have hbne2 : decide ((xs.length : Int) = (ys.length : Int)) = false := by simp; omega
    clear hl
    go_enter Tryd.func20, Tryd.ntmps20
    go_wp2_with fail
    go_ret
    exact ⟨by rw [E.out]; rfl, Below.refl _ _⟩

def marks (k : Int) (n : Nat) : List Int := (List.range n).map fun j : Nat => k + (j : Int)
theorem marks_length (k : Int) (n : Nat) : (marks k n).length = n := by simp [marks]
theorem marks_getD (k : Int) (n j : Nat) (h : j < n) : (marks k n).getD j 0 = k + j := by
  simp [marks, List.getD_eq_getElem?_getD, h]

def MarkPost (base : Nat) (v : Value) (n : Nat) (w : World) (e : Ending) (w' : World) : Prop :=
  e = .returned (.int .i64 (1 + (n : Int))) ∧ w'.ownsRow base 2 1 v n (ints (marks 1 n)) ∧ Below base w w' ∧ w.grownBy w' v.ownBlock

set_option maxRecDepth 100000 in
set_option maxHeartbeats 1000000 in
theorem markInt64S_any (base : Nat) (v : Value) (xs : List Int) (w : World) (hl : xs.length ≤ 1048576) (h : w.ownsRow base 2 1 v xs.length (ints xs)) :
    Calls Tryd.prog 21 #[v, .int .i64 1] w (MarkPost base v xs.length w) := by
  obtain ⟨n, hn⟩ : ∃ n, n = xs.length := ⟨_, rfl⟩
  rw [← hn] at h hl ⊢
  have Hn := Lib.hid hn
  clear hn
  rcases h.2 with ⟨rfl, h0⟩ | ⟨g, cap, cur, rfl, hb, hg, _⟩
  · subst h0
    go_enter Tryd.func21, Tryd.ntmps21
    go_wp2_with fail
    refine wp_loop_rounds 1 ?_
    rw [rounds_succ]
    go_wp2_with fail
    go_ret
    exact ⟨rfl, World.ownsRow_nil _ _ _ _, Below.refl _ _, World.grownBy.refl _ _⟩
  · clear hg
    go_enter Tryd.func21, Tryd.ntmps21
    go_wp2_with fail
    go_loopw [5, 1] (fun i q wr => ∃ (k : Nat) (l : List Int), k ≤ n ∧ i = .int .i64 k ∧ q = .int .i64 (1 + (k : Int)) ∧ l.length = n ∧ (∀ j, j < k → l.getD j 0 = 1 + (j : Int)) ∧
      wr.ownsRow base 2 1 (.slice (some ⟨g, 0, none⟩) n cap) n (ints l) ∧ Below base w wr ∧ w.grownBy wr (some g))
      (fun i _ _ => n - (intOf i).toNat)
    case atStart => exact ⟨0, xs, Nat.zero_le _, rfl, rfl, Hn.out.symm, fun j hj => by omega, h, Below.refl _ _, World.grownBy.refl _ _⟩
    case round =>
      clear h
      obtain ⟨k, l, hk, rfl, rfl, hll, hag, hown, hb1, hg1⟩ := hrel
      have Hag := Lib.hid hag
      have Hll := Lib.hid hll
      clear hag hll
      by_cases hlt : k < n
      · have hcell : wr.cell? ⟨g, k, none⟩ = some (.int .i64 (l.getD k 0)) := by
          rw [hown.cellAt _ (by omega)]; exact ints_get _ _ (by have := Hll.out; omega)
        have hfro : wr.frozen? ⟨g, k, none⟩ = false := hown.frozenAt _
        generalize hY : l.getD k 0 = y at hcell
        have HY := Lib.hid hY
        clear hY
        have hst := hown.stored k (.int .i64 (1 + (k : Int)))
        have hown2 := hst.1
        rw [ints_set] at hown2
        have hb2 : Below base w (wr.setCell ⟨g, k, none⟩ (.int .i64 (1 + (k : Int)))) := hb1.setCell (by exact hb) _
        have hg2 : w.grownBy (wr.setCell ⟨g, k, none⟩ (.int .i64 (1 + (k : Int)))) (some g) := hg1.trans hst.2
        clear hst hb1 hg1
        go_wp2_with fail
        go_roundw
        case rel =>
          refine ⟨k + 1, l.set k (1 + (k : Int)), by omega, by go_num, by go_num, by simpa using Hll.out, fun j hj => ?_, hown2, hb2, hg2⟩
          rw [getD_set_int _ _ _ _ (by have := Hll.out; omega)]
          by_cases e : j = k
          · subst e; rw [if_pos rfl]
          · rw [if_neg e]; exact Hag.out j (by omega)
        case measure => simp [intOf]; omega
      · obtain rfl : k = n := by omega
        have e : l = marks 1 k := ints_ext (by rw [marks_length]; exact Hll.out) (fun j hj => by rw [marks_getD _ _ _ (by have := Hll.out; omega)]; exact Hag.out j (by have := Hll.out; omega))
        subst e
        go_wp2_with fail
        go_ret
        exact ⟨rfl, hown, hb1, hg1⟩

set_option maxRecDepth 100000 in
set_option maxHeartbeats 1000000 in
theorem heldInt64S_any (v : Value) (n : Nat) (w : World) (h : IL w w.heap.size v (marks 1 n)) :
    Calls Tryd.prog 22 #[v, .int .i64 1] w fun e w' => e = .returned (.int .i64 (1 + (n : Int))) ∧ w = w' := by
  obtain ⟨hr, hlen, A, c, rfl, h3⟩ := h
  rw [marks_length] at hlen
  have hc0 : marks 1 n = [] ∨ ∃ b off, A = some ⟨b, off, none⟩ ∧ ∀ j, j < n → w.cell? ⟨b, off + j, none⟩ = some (.int .i64 (1 + (j : Int))) := by
    rcases h3 with h3 | ⟨b, off, rfl, hbl, hc⟩
    · exact .inl h3
    · exact .inr ⟨b, off, rfl, fun j hj => by have := hc j (by rw [marks_length]; exact hj); rw [marks_getD _ _ _ hj] at this; exact this⟩
  rw [marks_length]
  clear h3 hr
  go_enter Tryd.func22, Tryd.ntmps22
  go_wp2_with fail
  go_loop [5, 1] (fun i q => ∃ k : Nat, k ≤ n ∧ i = .int .i64 k ∧ q = .int .i64 (1 + (k : Int))) (fun i _ => n - (intOf i).toNat)
  case atStart => exact ⟨0, Nat.zero_le _, rfl, rfl⟩
  case round =>
    obtain ⟨k, hk, rfl, rfl⟩ := hrel
    by_cases hlt : k < n
    · rcases hc0 with hc0 | ⟨b, off, rfl, hc⟩
      · have := marks_length 1 n; rw [hc0] at this; simp at this; omega
      have hx := hc k hlt
      clear hc
      go_wp2_with fail
      go_round
      case rel => exact ⟨k + 1, by omega, by go_num, by go_num⟩
      case measure => simp [intOf]; omega
    · obtain rfl : k = n := by omega
      clear hc0
      go_wp2_with fail
      go_ret
      exact ⟨rfl, rfl⟩

/-- a slice that came in, as the frame of a law gives it -/
theorem il_nil (w : World) (c : Nat) (A : Option Addr) : IL w w.heap.size (.slice A 0 c) [] :=
  ⟨fun j => by simpa using rng_zero, by simp, A, c, rfl, .inl rfl⟩
theorem il_of (x : Addr) (n c : Nat) (zs : List Int) (w : World) (hn : n ≤ 1048576) (hl : n ≤ c) (hz : zs.length = c)
    (hcell : ∀ i, i < zs.length → w.cell? (x.add i) = some (.int .i64 (zs.getD i 0))) (hwz : ∀ k ∈ zs, (Lit.int .i64 k).wf = true) :
    ∃ xs : List Int, xs.length = n ∧ IL w w.heap.size (.slice (some x) n c) xs := by
  have hlen : (zs.take n).length = n := by rw [List.length_take]; omega
  by_cases h0 : n = 0
  · subst h0; exact ⟨[], rfl, il_nil _ _ _⟩
  · refine ⟨zs.take n, hlen, ?_, by omega, some x, c, by rw [hlen], .inr ?_⟩
    · refine rng_of fun y hy => ?_
      have := hwz y (List.mem_of_mem_take hy)
      have h2 := bounds_i64 this
      exact ⟨by omega, by omega⟩
    · obtain ⟨b, off, spot⟩ := x
      have hc := hcell 0 (by omega)
      have hspot : spot = none := by simpa [Addr.add] using World.cell?_spot hc
      subst hspot
      refine ⟨b, off, rfl, ?_, fun j hj => ?_⟩
      · have h1 : w.cell? ⟨b, off, none⟩ = some (.int .i64 (zs.getD 0 0)) := by simpa [Addr.add] using hc
        exact World.block_lt_of_cell? w _ h1
      · rw [hlen] at hj
        have h1 := hcell j (by omega)
        have h2 : (zs.take n).getD j 0 = zs.getD j 0 := by simp [List.getD_eq_getElem?_getD, hj]
        have hadd : (⟨b, off, none⟩ : Addr).add j = ⟨b, off + j, none⟩ := by unfold Addr.add; split <;> simp_all
        rw [hadd] at h1
        rw [h2]; exact h1
end Go.Proofs.YtcmmognjnmbajaaDoor
