/- Walks: slices of blocks: the laws' own helpers. -/
import Derived.Test.YtanoohfhifhhaaaDoorDj
import Derived.Deep.QuietTactic
import Derived.OpenShut
import Derived.Deep.RegionLaw
set_option linter.unusedVariables false
set_option linter.unusedSimpArgs false
namespace Go.Proofs.YtanoohfhifhhaaaDoor
open Go.RowKit

theorem str_neB {a b : ByteArray} (h : ¬ a = b) : (a.toList == b.toList) = false := by
  rw [ByteArray.toList_eq, ByteArray.toList_eq, beq_eq_false_iff_ne]
  intro e
  apply h
  cases a; cases b
  congr
  exact Array.toList_inj.1 e
abbrev emB : ByteArray := ⟨#[]⟩
def bks (xs : List (Int × ByteArray)) : List Value := xs.flatMap fun p => [.int .i64 p.1, .string p.2]
theorem bks_cons (p : Int × ByteArray) (xs : List (Int × ByteArray)) : bks (p :: xs) = .int .i64 p.1 :: .string p.2 :: bks xs := rfl
theorem bks_length (xs : List (Int × ByteArray)) : (bks xs).length = xs.length * 2 := by
  induction xs with
  | nil => rfl
  | cons p xs ih => rw [bks_cons, List.length_cons, List.length_cons, List.length_cons, ih]; omega
theorem bks_append (xs ys : List (Int × ByteArray)) : bks (xs ++ ys) = bks xs ++ bks ys := by simp [bks]
theorem bks_get0 : ∀ (xs : List (Int × ByteArray)) (j : Nat), j < xs.length → (bks xs)[j * 2]? = some (.int .i64 (xs.getD j (0, emB)).1)
  | p :: xs, 0, _ => rfl
  | p :: xs, j + 1, h => by rw [bks_cons, show (j + 1) * 2 = j * 2 + 1 + 1 by omega, List.getElem?_cons_succ, List.getElem?_cons_succ, bks_get0 xs j (by simpa using h)]; rfl
theorem bks_get1 : ∀ (xs : List (Int × ByteArray)) (j : Nat), j < xs.length → (bks xs)[j * 2 + 1]? = some (.string (xs.getD j (0, emB)).2)
  | p :: xs, 0, _ => rfl
  | p :: xs, j + 1, h => by rw [bks_cons, show (j + 1) * 2 + 1 = j * 2 + 1 + 1 + 1 by omega, List.getElem?_cons_succ, List.getElem?_cons_succ, bks_get1 xs j (by simpa using h)]; rfl
theorem bks_set : ∀ (xs : List (Int × ByteArray)) (k : Nat) (a : Int) (b : ByteArray), k < xs.length → ((bks xs).set (k * 2) (.int .i64 a)).set (k * 2 + 1) (.string b) = bks (xs.set k (a, b))
  | p :: xs, 0, a, b, _ => rfl
  | p :: xs, k + 1, a, b, h => by
    rw [bks_cons, show (k + 1) * 2 = k * 2 + 1 + 1 by omega, List.set_cons_succ, List.set_cons_succ, List.set_cons_succ, List.set_cons_succ, bks_set xs k a b (by simpa using h)]; rfl
theorem made_bks (n : Nat) : (madeCells #[Value.int .i64 0, Value.string emB] (n * 2)).toList = bks (List.replicate n (0, emB)) := by
  apply List.ext_getElem?
  intro i
  by_cases hi : i < n * 2
  · have hlen : (List.replicate n ((0 : Int), emB)).length = n := by simp
    rcases Nat.mod_two_eq_zero_or_one i with h | h
    · obtain ⟨j, rfl⟩ : ∃ j, i = j * 2 := ⟨i / 2, by omega⟩
      rw [bks_get0 _ j (by rw [hlen]; omega)]
      have hj : j < n := by omega
      simp [madeCells, hi, List.getD_eq_getElem?_getD, hj]
    · obtain ⟨j, rfl⟩ : ∃ j, i = j * 2 + 1 := ⟨i / 2, by omega⟩
      rw [bks_get1 _ j (by rw [hlen]; omega)]
      have hj : j < n := by omega
      have hm : (j * 2 + 1) % 2 = 1 := by omega
      simp [madeCells, hi, List.getD_eq_getElem?_getD, hj, hm]
  · rw [List.getElem?_eq_none (l := bks _) (by rw [bks_length]; simp; omega), List.getElem?_eq_none (by simp [madeCells]; omega)]

theorem bl_below_drewN {B : Nat} {a w : World} (h : Below B a w) (n : Nat) : Below B a (w.drewN n) := ⟨h.os, h.tape, h.output, h.size, h.block⟩
/-- the slice v reads as the points xs in the blocks below B -/
def BL (w : World) (B : Nat) (v : Value) (xs : List (Int × ByteArray)) : Prop :=
  (∀ j, Rng (xs.getD j (0, emB)).1 ∧ (xs.getD j (0, emB)).2.size ≤ maxLen) ∧ xs.length ≤ 1048576 ∧ ∃ A c, v = .slice A xs.length c ∧
    (xs = [] ∨ ∃ b off, A = some ⟨b, off, none⟩ ∧ b < B ∧ ∀ j, j < xs.length → w.cell? ⟨b, off + j * 2, none⟩ = some (.int .i64 (xs.getD j (0, emB)).1) ∧ w.cell? ⟨b, off + j * 2 + 1, none⟩ = some (.string (xs.getD j (0, emB)).2))
theorem BL.below {w w' : World} {B : Nat} {v : Value} {xs : List (Int × ByteArray)} (h : BL w B v xs) (hb : Below B w w') : BL w' B v xs := by
  obtain ⟨h1, h2, A, c, rfl, h3⟩ := h
  refine ⟨h1, h2, A, c, rfl, ?_⟩
  rcases h3 with h3 | ⟨b, off, rfl, hlt, hc⟩
  · exact .inl h3
  · exact .inr ⟨b, off, rfl, hlt, fun j hj => ⟨(hb.cell (p := ⟨b, off + j * 2, none⟩) hlt).trans (hc j hj).1, (hb.cell (p := ⟨b, off + j * 2 + 1, none⟩) hlt).trans (hc j hj).2⟩⟩
theorem BL.up {w : World} {B B' : Nat} {v : Value} {xs : List (Int × ByteArray)} (h : BL w B v xs) (hB : B ≤ B') : BL w B' v xs := by
  obtain ⟨h1, h2, A, c, rfl, h3⟩ := h
  refine ⟨h1, h2, A, c, rfl, ?_⟩
  rcases h3 with h3 | ⟨b, off, rfl, hlt, hc⟩
  · exact .inl h3
  · exact .inr ⟨b, off, rfl, by omega, hc⟩
theorem BL.of_own {w : World} {base : Nat} {v : Value} {n : Nat} {xs : List (Int × ByteArray)} (h : w.ownsRow base 36 2 v n (bks xs)) (hn : n = xs.length) (hr : ∀ j, Rng (xs.getD j (0, emB)).1 ∧ (xs.getD j (0, emB)).2.size ≤ maxLen) (hl : xs.length ≤ 1048576) : BL w w.heap.size v xs := by
  subst hn
  refine ⟨hr, hl, ?_⟩
  rcases h.2 with ⟨rfl, h0⟩ | ⟨g, cap, cur, rfl, hb, hg, _⟩
  · exact ⟨none, 0, by rw [h0], .inl (List.eq_nil_of_length_eq_zero h0)⟩
  · refine ⟨_, cap, rfl, .inr ⟨g, 0, rfl, (Array.getElem?_eq_some_iff.1 hg).1, fun j hj => ⟨?_, ?_⟩⟩⟩
    · rw [Nat.zero_add, h.cellAt (j * 2) (by omega)]
      exact bks_get0 _ _ hj
    · rw [Nat.zero_add, h.cellAt (j * 2 + 1) (by omega)]
      exact bks_get1 _ _ hj
theorem bks_ext {xs ys : List (Int × ByteArray)} (hl : xs.length = ys.length) (h : ∀ j, j < xs.length → xs.getD j (0, emB) = ys.getD j (0, emB)) : xs = ys := by
  apply List.ext_getElem hl
  intro j h1 h2
  have := h j h1
  simpa [List.getD_eq_getElem?_getD, h1, h2] using this
theorem getD_set_bk (l : List (Int × ByteArray)) (k j : Nat) (x : Int × ByteArray) (hk : k < l.length) : (l.set k x).getD j (0, emB) = if j = k then x else l.getD j (0, emB) := by
  simp only [List.getD_eq_getElem?_getD, List.getElem?_set]
  by_cases e : k = j
  · subst e; simp [hk]
  · have e' : ¬ j = k := fun h => e h.symm
    simp [e, e']
def strOfB : Value → ByteArray
  | .string s => s
  | _ => emB
def BoolPostB (b : Bool) (w : World) (e : Ending) (w' : World) : Prop := e = .returned (.bool b) ∧ Below w.heap.size w w'
theorem bl_of (x : Addr) (n cap : Nat) (w : World) (V0 V1 : Nat → Value) (hn : n ≤ 1048576)
    (h : ∀ i, i < n → w.cell? (x.add (i * 2)) = some (V0 i) ∧ w.cell? (x.add (i * 2 + 1)) = some (V1 i) ∧ (∃ a : Int, V0 i = .int .i64 a ∧ Rng a) ∧ ∃ b : ByteArray, V1 i = .string b ∧ b.size ≤ maxLen) :
    ∃ xs : List (Int × ByteArray), xs.length = n ∧ BL w w.heap.size (.slice (some x) n cap) xs := by
  have hg : ∀ i, i < n → ((List.range n).map fun i => (intOf (V0 i), strOfB (V1 i))).getD i (0, emB) = (intOf (V0 i), strOfB (V1 i)) := by
    intro i hi; simp [List.getD_eq_getElem?_getD, hi]
  refine ⟨(List.range n).map fun i => (intOf (V0 i), strOfB (V1 i)), by simp, ?_, by simpa using hn, some x, cap, by simp, ?_⟩
  · intro j
    by_cases hj : j < n
    · rw [hg j hj]
      obtain ⟨_, _, ⟨a, ha, ra⟩, b, hb, rb⟩ := h j hj
      rw [ha, hb]; exact ⟨ra, rb⟩
    · rw [List.getD_eq_getElem?_getD, List.getElem?_eq_none (by simp; omega)]; exact ⟨rng_zero, Nat.zero_le _⟩
  · by_cases h0 : n = 0
    · subst h0; exact .inl rfl
    · right
      obtain ⟨b, off, spot⟩ := x
      obtain ⟨c0, _⟩ := h 0 (by omega)
      have hspot : spot = none := by simpa [Addr.add] using World.cell?_spot c0
      subst hspot
      have hadd : ∀ j, (⟨b, off, none⟩ : Addr).add j = ⟨b, off + j, none⟩ := fun j => by unfold Addr.add; split <;> simp_all
      refine ⟨b, off, rfl, ?_, fun j hj => ?_⟩
      · rw [hadd] at c0; exact World.block_lt_of_cell? w _ c0
      · have hj' : j < n := by simpa using hj
        obtain ⟨d0, d1, ⟨a, ha, ra⟩, e, he, re⟩ := h j hj'
        rw [hadd] at d0 d1
        rw [← Nat.add_assoc] at d1
        rw [hg j hj', d0, d1, ha, he]
        exact ⟨rfl, rfl⟩
theorem bl_nil (w : World) (c : Nat) (A : Option Addr) : BL w w.heap.size (.slice A 0 c) [] :=
  ⟨fun j => ⟨by simpa using rng_zero, by simp; exact Nat.zero_le _⟩, by simp, A, c, rfl, .inl rfl⟩
def BOwnPost (base : Nat) (xs : List (Int × ByteArray)) (w : World) (e : Ending) (w' : World) : Prop :=
  ∃ v, e = .returned v ∧ w'.ownsRow base 36 2 v xs.length (bks xs) ∧ Below w.heap.size w w'
theorem bne_of_len {xs ys : List (Int × ByteArray)} (h : ¬ xs.length = ys.length) : decide (xs = ys) = false := by
  rw [decide_eq_false_iff_not]; intro e; exact h (by rw [e])
theorem bne_of_get {xs ys : List (Int × ByteArray)} (k : Nat) (h : ¬ xs.getD k (0, emB) = ys.getD k (0, emB)) : decide (xs = ys) = false := by
  rw [decide_eq_false_iff_not]; intro e; exact h (by rw [e])
theorem info_bk : (Tryd.prog.info? 36).map (fun i => (i.zero, i.size, i.bytes)) = some (some (.agg #[.int .i64 0, .string emB]), 2, 24) := by kernel_rfl

set_option maxRecDepth 100000 in
set_option maxHeartbeats 1000000 in
theorem toBlockB_any (a : Int) (b : ByteArray) (w : World) :
    Calls Tryd.prog 67 #[.agg #[.int .i64 a, .string b]] w fun e w' => e = .returned (.agg #[.int .i64 a, .string b]) ∧ Below w.heap.size w w' := by
  go_enter Tryd.func67, Tryd.ntmps67
  go_wp2
  exact bodyPost_ret (v := .agg #[.int .i64 a, .string b]) (by simp [results, Tryd.results67, go_sem]) rfl ⟨rfl, by
    repeat (first | exact Below.refl _ _ | refine Below.alloc ?_ (by simp; try omega) _ | refine Below.setCell ?_ (by simp; try omega) _ | refine Below.drew ?_)⟩

set_option maxRecDepth 100000 in
set_option maxHeartbeats 1000000 in
theorem toBlockS_any (v : Value) (xs : List (Int × ByteArray)) (w : World) (h : BL w w.heap.size v xs) :
    Calls Tryd.prog 41 #[v] w (BOwnPost w.heap.size xs w) := by
  obtain ⟨hr, hlen, A, c, rfl, h3⟩ := h
  have Hr := Lib.hid hr
  clear hr
  obtain ⟨i0, hi, hz0, hz1, hz2⟩ := info_parts info_bk
  have hT := Lib.hid (fun a b W => toBlockB_any a b W)
  go_enter Tryd.func41, Tryd.ntmps41
  go_wp2_with (at_make; refine wpList_make_full _ rfl _ _ 27 rfl w.heap.size 36 i0 (.agg #[.int .i64 0, .string emB]) 2 Tryd.underlying27 hi hz0 hz1 _ _ _ _ xs.length rfl rfl rfl rfl ?b2 ?b3 ?b4 ?_)
  case b2 => rw [hz2]; omega
  case b3 => unfold maxLen; omega
  case b4 => exact Nat.le_refl _
  intro w1 hown hgrow
  rw [made_bks] at hown
  have hb1 : Below w.heap.size w w1 := (Below.refl _ _).grown hgrow (Nat.le_refl _) (fun k hk => by cases hk)
  clear hgrow
  go_wp2_with fail
  go_loopw [4] (fun i wr => ∃ (k : Nat) (l : List (Int × ByteArray)), k ≤ xs.length ∧ i = .int .i64 k ∧ l.length = xs.length ∧ (∀ j, j < k → l.getD j (0, emB) = xs.getD j (0, emB)) ∧
      wr.ownsRow w.heap.size 36 2 (.slice (some ⟨w.heap.size, 0, none⟩) xs.length xs.length) xs.length (bks l) ∧ Below w.heap.size w wr)
    (fun i _ => xs.length - (intOf i).toNat)
  case atStart => exact ⟨0, List.replicate xs.length (0, emB), Nat.zero_le _, rfl, by simp, fun j hj => by omega, hown, hb1⟩
  case round =>
    clear hown hb1
    obtain ⟨k, l, hk, rfl, hll, hag, hown, hb1⟩ := hrel
    have Hag := Lib.hid hag
    have Hll := Lib.hid hll
    clear hag hll
    by_cases hlt : k < xs.length
    · rcases h3 with h3 | ⟨b, off, rfl, hbl, hc⟩
      · subst h3; simp at hlt
      have hx0 : wr.cell? ⟨b, off + k * 2, none⟩ = some (.int .i64 (xs.getD k (0, emB)).1) := (hb1.cell (p := ⟨b, off + k * 2, none⟩) hbl).trans (hc k hlt).1
      have hx1 : wr.cell? ⟨b, off + k * 2 + 1, none⟩ = some (.string (xs.getD k (0, emB)).2) := (hb1.cell (p := ⟨b, off + k * 2 + 1, none⟩) hbl).trans (hc k hlt).2
      obtain ⟨x, y, hX⟩ : ∃ x y, xs.getD k (0, emB) = (x, y) := ⟨_, _, rfl⟩
      rw [hX] at hx0 hx1
      have HX := Lib.hid hX
      clear hX hc
      go_wp2_with fail
      refine (hT.out _ _ _).mono ?_
      rintro e w2 ⟨rfl, hb2⟩
      have hown2 := u_own_below hown hb2
      have hb3 := hb1.trans (hb2.mono hb1.size)
      clear hb2 hb1 hown hx0 hx1
      have c0 : w2.cell? ⟨w.heap.size, k * 2, none⟩ = some (.int .i64 (l.getD k (0, emB)).1) := by
        rw [hown2.cellAt _ (by omega)]; exact bks_get0 _ _ (by have := Hll.out; omega)
      have c1 : w2.cell? ⟨w.heap.size, k * 2 + 1, none⟩ = some (.string (l.getD k (0, emB)).2) := by
        rw [hown2.cellAt _ (by omega)]; exact bks_get1 _ _ (by have := Hll.out; omega)
      have f0 : w2.frozen? ⟨w.heap.size, k * 2, none⟩ = false := hown2.frozenAt _
      have f1 : w2.frozen? ⟨w.heap.size, k * 2 + 1, none⟩ = false := hown2.frozenAt _
      generalize (l.getD k (0, emB)).1 = o0 at c0
      generalize (l.getD k (0, emB)).2 = o1 at c1
      have hst := hown2.stored (k * 2) (.int .i64 x)
      have hst2 := hst.1.stored (k * 2 + 1) (.string y)
      have hown4 := hst2.1
      rw [bks_set l k x y (by have := Hll.out; omega)] at hown4
      have hb4 := (hb3.setCell (show w.heap.size ≤ (⟨w.heap.size, k * 2, none⟩ : Addr).block by simp) (.int .i64 x)).setCell (show w.heap.size ≤ (⟨w.heap.size, k * 2 + 1, none⟩ : Addr).block by simp) (.string y)
      have HO := Lib.hid hown4
      have HB := Lib.hid hb4
      clear hst hst2 hown4 hb4 hown2 hb3
      go_wp2_with fail
      go_roundw
      case rel =>
        refine ⟨k + 1, l.set k (x, y), by omega, by go_num, by simpa using Hll.out, fun j hj => ?_, HO.out, HB.out⟩
        rw [getD_set_bk _ _ _ _ (by have := Hll.out; omega)]
        by_cases e : j = k
        · subst e; rw [if_pos rfl]; exact HX.out.symm
        · rw [if_neg e]; exact Hag.out j (by omega)
      case measure => simp [intOf]; omega
    · obtain rfl : k = xs.length := by omega
      have e : l = xs := bks_ext Hll.out (fun j hj => Hag.out j (by have := Hll.out; omega))
      subst e
      go_wp2_with fail
      go_ret
      exact ⟨_, rfl, hown, hb1⟩

set_option maxRecDepth 100000 in
set_option maxHeartbeats 400000 in
theorem eqBlock_any (a : Int) (b : ByteArray) (c : Int) (d : ByteArray) (w : World) :
    Calls Tryd.prog 63 #[.agg #[.int .i64 a, .string b], .agg #[.int .i64 c, .string d]] w (BoolPostB (decide ((a, b) = (c, d))) w) := by
  by_cases h1 : a = c
  · by_cases h2 : b = d
    · subst h1 h2
      rw [show decide ((a, b) = (a, b)) = true by simp]
      go_enter Tryd.func63, Tryd.ntmps63
      go_wp2
      go_ret
      exact ⟨rfl, by
      repeat (first | exact Below.refl _ _ | refine Below.alloc ?_ (by simp; try omega) _ | refine Below.setCell ?_ (by simp; try omega) _ | refine Below.drew ?_)⟩
    · have hn : decide ((a, b) = (c, d)) = false := by simp [h2]
      rw [hn]
      have hbne := str_neB h2
      subst h1
      clear hn
      go_enter Tryd.func63, Tryd.ntmps63
      go_wp2
      go_ret
      exact ⟨rfl, by
      repeat (first | exact Below.refl _ _ | refine Below.alloc ?_ (by simp; try omega) _ | refine Below.setCell ?_ (by simp; try omega) _ | refine Below.drew ?_)⟩
  · have hn : decide ((a, b) = (c, d)) = false := by simp [h1]
    rw [hn]
    have hbne : (a == c) = false := by simpa using h1
    clear hn
    go_enter Tryd.func63, Tryd.ntmps63
    go_wp2
    go_ret
    exact ⟨rfl, by
      repeat (first | exact Below.refl _ _ | refine Below.alloc ?_ (by simp; try omega) _ | refine Below.setCell ?_ (by simp; try omega) _ | refine Below.drew ?_)⟩

set_option maxRecDepth 100000 in
set_option maxHeartbeats 1000000 in
theorem eqBlockS_any (v u : Value) (xs ys : List (Int × ByteArray)) (w : World) (h : BL w w.heap.size v xs) (h' : BL w w.heap.size u ys) :
    Calls Tryd.prog 35 #[v, u] w (BoolPostB (decide (xs = ys)) w) := by
  obtain ⟨hr, hlen, A, c, rfl, h3⟩ := h
  obtain ⟨hr', hlen', A', c', rfl, h3'⟩ := h'
  have Hr := Lib.hid hr
  have Hr' := Lib.hid hr'
  clear hr hr'
  have hE := Lib.hid (fun a b c d W => eqBlock_any a b c d W)
  by_cases hl : xs.length = ys.length
  · have Hl := Lib.hid hl
    have hne : decide ((xs.length : Int) = (ys.length : Int)) = true := by simp; omega
    have hbne : ((xs.length : Int) != (ys.length : Int)) = false := by simp; omega
    clear hl
    go_enter Tryd.func35, Tryd.ntmps35
    go_wp2_with fail
    go_loopw [5] (fun i wr => ∃ k : Nat, k ≤ xs.length ∧ i = .int .i64 k ∧ (∀ j, j < k → xs.getD j (0, emB) = ys.getD j (0, emB)) ∧ Below w.heap.size w wr) (fun i _ => xs.length - (intOf i).toNat)
    case atStart => exact ⟨0, Nat.zero_le _, rfl, fun j hj => by omega, Below.refl _ _⟩
    case round =>
      obtain ⟨k, hk, rfl, hag, hb⟩ := hrel
      have Hag := Lib.hid hag
      clear hag
      by_cases hlt : k < xs.length
      · have hlt' : k < ys.length := by have := Hl.out; omega
        rcases h3 with h3 | ⟨b, off, rfl, hbl, hc⟩
        · subst h3; simp at hlt
        rcases h3' with h3' | ⟨b', off', rfl, hbl', hc'⟩
        · subst h3'; simp at hlt'
        have hx0 : wr.cell? ⟨b, off + k * 2, none⟩ = some (.int .i64 (xs.getD k (0, emB)).1) := (hb.cell (p := ⟨b, off + k * 2, none⟩) hbl).trans (hc k hlt).1
        have hx1 : wr.cell? ⟨b, off + k * 2 + 1, none⟩ = some (.string (xs.getD k (0, emB)).2) := (hb.cell (p := ⟨b, off + k * 2 + 1, none⟩) hbl).trans (hc k hlt).2
        have hy0 : wr.cell? ⟨b', off' + k * 2, none⟩ = some (.int .i64 (ys.getD k (0, emB)).1) := (hb.cell (p := ⟨b', off' + k * 2, none⟩) hbl').trans (hc' k hlt').1
        have hy1 : wr.cell? ⟨b', off' + k * 2 + 1, none⟩ = some (.string (ys.getD k (0, emB)).2) := (hb.cell (p := ⟨b', off' + k * 2 + 1, none⟩) hbl').trans (hc' k hlt').2
        obtain ⟨x, y, hX⟩ : ∃ x y, xs.getD k (0, emB) = (x, y) := ⟨_, _, rfl⟩
        obtain ⟨z, t, hZ⟩ : ∃ x y, ys.getD k (0, emB) = (x, y) := ⟨_, _, rfl⟩
        rw [hX] at hx0 hx1
        rw [hZ] at hy0 hy1
        have HX := Lib.hid hX
        have HZ := Lib.hid hZ
        clear hX hZ hc hc'
        have HB := Lib.hid hb
        have hsz := hb.size
        by_cases e : (x, y) = (z, t)
        · have E := Lib.hid e
          have hE2 := Lib.hid (fun W => hE.out x y z t W)
          rw [decide_eq_true e] at hE2
          clear e
          go_wp2_with fail
          go_region_law (go_simp; go_at_call 63; (refine (hE2.out _).mono ?_); rintro e w5 ⟨rfl, hb5⟩; have hb6 := HB.out.drew.trans (hb5.mono hsz); have HB6 := Lib.hid hb6; clear hb5 hb6)
          all_goals
           go_simp
           go_wp2_with fail
           go_roundw
           case rel =>
             refine ⟨k + 1, by omega, by go_num, fun j hj => ?_, HB6.out⟩
             by_cases e : j = k
             · subst e; rw [HX.out, HZ.out, E.out]
             · exact Hag.out j (by omega)
           case measure => simp [intOf]; omega
        · have E := Lib.hid (bne_of_get (xs := xs) (ys := ys) k (by rw [HX.out, HZ.out]; exact e))
          have hE2 := Lib.hid (fun W => hE.out x y z t W)
          rw [decide_eq_false e] at hE2
          clear e
          go_wp2_with fail
          go_region_law (go_simp; go_at_call 63; (refine (hE2.out _).mono ?_); rintro e w5 ⟨rfl, hb5⟩; have hb6 := HB.out.drew.trans (hb5.mono hsz); have HB6 := Lib.hid hb6; clear hb5 hb6)
          all_goals
           go_simp
           go_wp2_with fail
           go_ret
           exact ⟨by rw [E.out]; rfl, HB6.out⟩
      · obtain rfl : k = xs.length := by omega
        have e : xs = ys := bks_ext Hl.out (fun j hj => Hag.out j hj)
        have E := Lib.hid (show decide (xs = ys) = true from by simp [e])
        clear e
        go_wp2_with fail
        go_ret
        exact ⟨by rw [E.out]; rfl, hb⟩
  · have E := Lib.hid (bne_of_len hl)
    have hbne : ((xs.length : Int) != (ys.length : Int)) = true := by simp; omega
    have hbne2 : decide ((xs.length : Int) = (ys.length : Int)) = false := by simp; omega
    clear hl
    go_enter Tryd.func35, Tryd.ntmps35
    go_wp2_with fail
    go_ret
    exact ⟨by rw [E.out]; rfl, Below.refl _ _⟩
end Go.Proofs.YtanoohfhifhhaaaDoor
