/- Walks: slices of matches: the laws' own helpers. -/
import Derived.Test.YtbgogpfhdfgjeabNa
import Derived.Deep.Slices
set_option linter.unusedVariables false
set_option linter.unusedSimpArgs false
namespace Go.Proofs.Ytbgogpfhdfgjeab
open Go.RowKit

abbrev MT := ByteArray × ByteArray × Bool
abbrev em3 : MT := (em, em, false)
def mbs (xs : List MT) : List Value := xs.flatMap fun p => [.string p.1, .string p.2.1, .bool p.2.2]
theorem mbs_cons (p : MT) (xs : List MT) : mbs (p :: xs) = .string p.1 :: .string p.2.1 :: .bool p.2.2 :: mbs xs := rfl
theorem mbs_get0 : ∀ (xs : List MT) (j : Nat), j < xs.length → (mbs xs)[j * 3]? = some (.string (xs.getD j em3).1)
  | p :: xs, 0, _ => rfl
  | p :: xs, j + 1, h => by rw [mbs_cons, show (j + 1) * 3 = j * 3 + 1 + 1 + 1 by omega, List.getElem?_cons_succ, List.getElem?_cons_succ, List.getElem?_cons_succ, mbs_get0 xs j (by simpa using h)]; rfl
theorem mbs_get1 : ∀ (xs : List MT) (j : Nat), j < xs.length → (mbs xs)[j * 3 + 1]? = some (.string (xs.getD j em3).2.1)
  | p :: xs, 0, _ => rfl
  | p :: xs, j + 1, h => by rw [mbs_cons, show (j + 1) * 3 + 1 = j * 3 + 1 + 1 + 1 + 1 by omega, List.getElem?_cons_succ, List.getElem?_cons_succ, List.getElem?_cons_succ, mbs_get1 xs j (by simpa using h)]; rfl
theorem mbs_get2 : ∀ (xs : List MT) (j : Nat), j < xs.length → (mbs xs)[j * 3 + 2]? = some (.bool (xs.getD j em3).2.2)
  | p :: xs, 0, _ => rfl
  | p :: xs, j + 1, h => by rw [mbs_cons, show (j + 1) * 3 + 2 = j * 3 + 2 + 1 + 1 + 1 by omega, List.getElem?_cons_succ, List.getElem?_cons_succ, List.getElem?_cons_succ, mbs_get2 xs j (by simpa using h)]; rfl
theorem mbs_set : ∀ (xs : List MT) (k : Nat) (a b : ByteArray) (c : Bool), k < xs.length → (((mbs xs).set (k * 3) (.string a)).set (k * 3 + 1) (.string b)).set (k * 3 + 2) (.bool c) = mbs (xs.set k (a, b, c))
  | p :: xs, 0, a, b, c, _ => rfl
  | p :: xs, k + 1, a, b, c, h => by
    rw [mbs_cons, show (k + 1) * 3 = k * 3 + 1 + 1 + 1 by omega]
    simp only [List.set_cons_succ]
    rw [mbs_set xs k a b c (by simpa using h)]; rfl
theorem made_mbs (n : Nat) : (madeCells #[Value.string em, Value.string em, Value.bool false] (n * 3)).toList = mbs (List.replicate n em3) := by
  have hl : ∀ n, (mbs (List.replicate n em3)).length = n * 3 := by
    intro n
    induction n with
    | zero => rfl
    | succ n ih => rw [List.replicate_succ, mbs_cons, List.length_cons, List.length_cons, List.length_cons, ih]; omega
  apply List.ext_getElem?
  intro i
  by_cases hi : i < n * 3
  · have hd : i = i / 3 * 3 + i % 3 := by omega
    have hm : i % 3 = 0 ∨ i % 3 = 1 ∨ i % 3 = 2 := by omega
    have hj : i / 3 < (List.replicate n em3).length := by simp; omega
    have hg : (List.replicate n em3).getD (i / 3) em3 = em3 := by
      rw [List.getD_eq_getElem?_getD, List.getElem?_replicate]; split <;> rfl
    have h0 := mbs_get0 _ _ hj
    have h1 := mbs_get1 _ _ hj
    have h2 := mbs_get2 _ _ hj
    rw [hg] at h0 h1 h2
    rcases hm with h | h | h
    · have e : i = i / 3 * 3 := by omega
      rw [← e] at h0
      rw [h0]; simp [madeCells, hi, h]
    · have e : i = i / 3 * 3 + 1 := by omega
      rw [← e] at h1
      rw [h1]; simp [madeCells, hi, h]
    · have e : i = i / 3 * 3 + 2 := by omega
      rw [← e] at h2
      rw [h2]; simp [madeCells, hi, h]
  · rw [List.getElem?_eq_none (l := mbs _) (by rw [hl]; omega), List.getElem?_eq_none (by simp [madeCells]; omega)]

/-- the slice v reads as the matches xs in the blocks below B -/
def ML (w : World) (B : Nat) (v : Value) (xs : List MT) : Prop :=
  (∀ j, (xs.getD j em3).1.size ≤ maxLen ∧ (xs.getD j em3).2.1.size ≤ maxLen) ∧ xs.length ≤ 1048576 ∧ ∃ A c, v = .slice A xs.length c ∧
    (xs = [] ∨ ∃ b off, A = some ⟨b, off, none⟩ ∧ b < B ∧ ∀ j, j < xs.length → w.cell? ⟨b, off + j * 3, none⟩ = some (.string (xs.getD j em3).1) ∧ w.cell? ⟨b, off + j * 3 + 1, none⟩ = some (.string (xs.getD j em3).2.1) ∧ w.cell? ⟨b, off + j * 3 + 2, none⟩ = some (.bool (xs.getD j em3).2.2))
theorem ML.below {w w' : World} {B : Nat} {v : Value} {xs : List MT} (h : ML w B v xs) (hb : Below B w w') : ML w' B v xs := by
  obtain ⟨h1, h2, A, c, rfl, h3⟩ := h
  refine ⟨h1, h2, A, c, rfl, ?_⟩
  rcases h3 with h3 | ⟨b, off, rfl, hlt, hc⟩
  · exact .inl h3
  · exact .inr ⟨b, off, rfl, hlt, fun j hj => ⟨(hb.cell (p := ⟨b, off + j * 3, none⟩) hlt).trans (hc j hj).1, (hb.cell (p := ⟨b, off + j * 3 + 1, none⟩) hlt).trans (hc j hj).2.1, (hb.cell (p := ⟨b, off + j * 3 + 2, none⟩) hlt).trans (hc j hj).2.2⟩⟩
theorem ML.up {w : World} {B B' : Nat} {v : Value} {xs : List MT} (h : ML w B v xs) (hB : B ≤ B') : ML w B' v xs := by
  obtain ⟨h1, h2, A, c, rfl, h3⟩ := h
  refine ⟨h1, h2, A, c, rfl, ?_⟩
  rcases h3 with h3 | ⟨b, off, rfl, hlt, hc⟩
  · exact .inl h3
  · exact .inr ⟨b, off, rfl, by omega, hc⟩
theorem ML.of_own {w : World} {base : Nat} {v : Value} {n : Nat} {xs : List MT} (h : w.ownsRow base 54 3 v n (mbs xs)) (hn : n = xs.length) (hr : ∀ j, (xs.getD j em3).1.size ≤ maxLen ∧ (xs.getD j em3).2.1.size ≤ maxLen) (hl : xs.length ≤ 1048576) : ML w w.heap.size v xs := by
  subst hn
  refine ⟨hr, hl, ?_⟩
  rcases h.2 with ⟨rfl, h0⟩ | ⟨g, cap, cur, rfl, hb, hg, _⟩
  · exact ⟨none, 0, by rw [h0], .inl (List.eq_nil_of_length_eq_zero h0)⟩
  · refine ⟨_, cap, rfl, .inr ⟨g, 0, rfl, (Array.getElem?_eq_some_iff.1 hg).1, fun j hj => ⟨?_, ?_, ?_⟩⟩⟩
    · rw [Nat.zero_add, h.cellAt (j * 3) (by omega)]
      exact mbs_get0 _ _ hj
    · rw [Nat.zero_add, h.cellAt (j * 3 + 1) (by omega)]
      exact mbs_get1 _ _ hj
    · rw [Nat.zero_add, h.cellAt (j * 3 + 2) (by omega)]
      exact mbs_get2 _ _ hj
theorem mbs_ext {xs ys : List MT} (hl : xs.length = ys.length) (h : ∀ j, j < xs.length → xs.getD j em3 = ys.getD j em3) : xs = ys := by
  apply List.ext_getElem hl
  intro j h1 h2
  have := h j h1
  simpa [List.getD_eq_getElem?_getD, h1, h2] using this
theorem getD_set_mb (l : List MT) (k j : Nat) (x : MT) (hk : k < l.length) : (l.set k x).getD j em3 = if j = k then x else l.getD j em3 := by
  simp only [List.getD_eq_getElem?_getD, List.getElem?_set]
  by_cases e : k = j
  · subst e; simp [hk]
  · have e' : ¬ j = k := fun h => e h.symm
    simp [e, e']
def boolOf : Value → Bool
  | .bool b => b
  | _ => false
theorem ml_of (x : Addr) (n cap : Nat) (w : World) (V0 V1 V2 : Nat → Value) (hn : n ≤ 1048576)
    (h : ∀ i, i < n → w.cell? (x.add (i * 3)) = some (V0 i) ∧ w.cell? (x.add (i * 3 + 1)) = some (V1 i) ∧ w.cell? (x.add (i * 3 + 2)) = some (V2 i) ∧ (∃ a : ByteArray, V0 i = .string a ∧ a.size ≤ maxLen) ∧ (∃ b : ByteArray, V1 i = .string b ∧ b.size ≤ maxLen) ∧ ∃ c : Bool, V2 i = .bool c) :
    ∃ xs : List MT, xs.length = n ∧ ML w w.heap.size (.slice (some x) n cap) xs := by
  have hg : ∀ i, i < n → ((List.range n).map fun i => ((strOf (V0 i), strOf (V1 i), boolOf (V2 i)) : MT)).getD i em3 = (strOf (V0 i), strOf (V1 i), boolOf (V2 i)) := by
    intro i hi; simp [List.getD_eq_getElem?_getD, hi]
  refine ⟨(List.range n).map fun i => ((strOf (V0 i), strOf (V1 i), boolOf (V2 i)) : MT), by simp, ?_, by simpa using hn, some x, cap, by simp, ?_⟩
  · intro j
    by_cases hj : j < n
    · rw [hg j hj]
      obtain ⟨_, _, _, ⟨a, ha, ra⟩, ⟨b, hb, rb⟩, _⟩ := h j hj
      rw [ha, hb]; exact ⟨ra, rb⟩
    · rw [List.getD_eq_getElem?_getD, List.getElem?_eq_none (by simp; omega)]; exact ⟨by decide, by decide⟩
  · by_cases h0 : n = 0
    · subst h0; exact .inl rfl
    · right
      obtain ⟨b, off, spot⟩ := x
      obtain ⟨c0, _⟩ := h 0 (by omega)
      have hspot : spot = none := by simpa [Addr.add] using World.cell?_spot c0
      subst hspot
      have hadd : ∀ j, (⟨b, off, none⟩ : Addr).add j = ⟨b, off + j, none⟩ := fun j => by unfold Addr.add; split <;> simp_all
      refine ⟨b, off, rfl, ?_, fun j hj => ?_⟩
      · rw [hadd] at c0; exact World.block_lt_of_cell? w _ c0
      · have hj' : j < n := by simpa using hj
        obtain ⟨d0, d1, d2, ⟨a, ha, ra⟩, ⟨e, he, re⟩, f, hf⟩ := h j hj'
        rw [hadd] at d0 d1 d2
        rw [← Nat.add_assoc] at d1 d2
        rw [hg j hj', d0, d1, d2, ha, he, hf]
        exact ⟨rfl, rfl, rfl⟩
theorem ml_nil (w : World) (c : Nat) (A : Option Addr) : ML w w.heap.size (.slice A 0 c) [] :=
  ⟨fun j => ⟨by simp; exact Nat.zero_le _, by simp; exact Nat.zero_le _⟩, by simp, A, c, rfl, .inl rfl⟩
def MOwnPost (base : Nat) (xs : List MT) (w : World) (e : Ending) (w' : World) : Prop :=
  ∃ v, e = .returned v ∧ w'.ownsRow base 54 3 v xs.length (mbs xs) ∧ Below w.heap.size w w'
theorem mne_of_len {xs ys : List MT} (h : ¬ xs.length = ys.length) : decide (xs = ys) = false := by
  rw [decide_eq_false_iff_not]; intro e; exact h (by rw [e])
theorem mne_of_get {xs ys : List MT} (k : Nat) (h : ¬ xs.getD k em3 = ys.getD k em3) : decide (xs = ys) = false := by
  rw [decide_eq_false_iff_not]; intro e; exact h (by rw [e])
theorem info_mb : (Try.prog.info? 54).map (fun i => (i.zero, i.size, i.bytes)) = some (some (.agg #[.string em, .string em, .bool false]), 3, 40) := by kernel_rfl

set_option maxRecDepth 100000 in
set_option maxHeartbeats 1000000 in
theorem toMatch_any (a b : ByteArray) (c : Bool) (w : World) :
    Calls Try.prog 35 #[.agg #[.string a, .string b, .bool c]] w fun e w' => e = .returned (.agg #[.string a, .string b, .bool c]) ∧ Below w.heap.size w w' := by
  go_enter Try.func35, Try.ntmps35
  go_wp2
  exact bodyPost_ret (v := .agg #[.string a, .string b, .bool c]) (by simp [results, Try.results35, go_sem]) rfl ⟨rfl, by
    repeat (first | exact Below.refl _ _ | refine Below.alloc ?_ (by simp; try omega) _ | refine Below.setCell ?_ (by simp; try omega) _ | refine Below.drew ?_)⟩

set_option maxRecDepth 100000 in
set_option maxHeartbeats 1000000 in
theorem toMatchS_any (v : Value) (xs : List MT) (w : World) (h : ML w w.heap.size v xs) :
    Calls Try.prog 19 #[v] w (MOwnPost w.heap.size xs w) := by
  obtain ⟨hr, hlen, A, c, rfl, h3⟩ := h
  have Hr := Lib.hid hr
  clear hr
  obtain ⟨i0, hi, hz0, hz1, hz2⟩ := info_parts info_mb
  have hT := Lib.hid (fun a b c W => toMatch_any a b c W)
  go_enter Try.func19, Try.ntmps19
  go_wp2_with (at_make; refine wpList_make_full _ rfl _ _ 35 rfl w.heap.size 54 i0 (.agg #[.string em, .string em, .bool false]) 3 Try.underlying35 hi hz0 hz1 _ _ _ _ xs.length rfl rfl rfl rfl ?b2 ?b3 ?b4 ?_)
  case b2 => rw [hz2]; omega
  case b3 => unfold maxLen; omega
  case b4 => exact Nat.le_refl _
  intro w1 hown hgrow
  rw [made_mbs] at hown
  have hb1 : Below w.heap.size w w1 := (Below.refl _ _).grown hgrow (Nat.le_refl _) (fun k hk => by cases hk)
  clear hgrow
  go_wp2_with fail
  go_loopw [4] (fun i wr => ∃ (k : Nat) (l : List MT), k ≤ xs.length ∧ i = .int .i64 k ∧ l.length = xs.length ∧ (∀ j, j < k → l.getD j em3 = xs.getD j em3) ∧
      wr.ownsRow w.heap.size 54 3 (.slice (some ⟨w.heap.size, 0, none⟩) xs.length xs.length) xs.length (mbs l) ∧ Below w.heap.size w wr)
    (fun i _ => xs.length - (intOf i).toNat)
  case atStart => exact ⟨0, List.replicate xs.length em3, Nat.zero_le _, rfl, by simp, fun j hj => by omega, hown, hb1⟩
  case round =>
    clear hown hb1
    obtain ⟨k, l, hk, rfl, hll, hag, hown, hb1⟩ := hrel
    have Hag := Lib.hid hag
    have Hll := Lib.hid hll
    clear hag hll
    by_cases hlt : k < xs.length
    · rcases h3 with h3 | ⟨b, off, rfl, hbl, hc⟩
      · subst h3; simp at hlt
      have hx0 : wr.cell? ⟨b, off + k * 3, none⟩ = some (.string (xs.getD k em3).1) := (hb1.cell (p := ⟨b, off + k * 3, none⟩) hbl).trans (hc k hlt).1
      have hx1 : wr.cell? ⟨b, off + k * 3 + 1, none⟩ = some (.string (xs.getD k em3).2.1) := (hb1.cell (p := ⟨b, off + k * 3 + 1, none⟩) hbl).trans (hc k hlt).2.1
      have hx2 : wr.cell? ⟨b, off + k * 3 + 2, none⟩ = some (.bool (xs.getD k em3).2.2) := (hb1.cell (p := ⟨b, off + k * 3 + 2, none⟩) hbl).trans (hc k hlt).2.2
      obtain ⟨x, y, z, hX⟩ : ∃ x y z, xs.getD k em3 = (x, y, z) := ⟨_, _, _, rfl⟩
      rw [hX] at hx0 hx1 hx2
      have HX := Lib.hid hX
      clear hX hc
      go_wp2_with fail
      refine (hT.out _ _ _ _).mono ?_
      rintro e w2 ⟨rfl, hb2⟩
      have hown2 := u_own_below hown hb2
      have hb3 := hb1.trans (hb2.mono hb1.size)
      clear hb2 hb1 hown hx0 hx1 hx2
      have c0 : w2.cell? ⟨w.heap.size, k * 3, none⟩ = some (.string (l.getD k em3).1) := by
        rw [hown2.cellAt _ (by omega)]; exact mbs_get0 _ _ (by have := Hll.out; omega)
      have c1 : w2.cell? ⟨w.heap.size, k * 3 + 1, none⟩ = some (.string (l.getD k em3).2.1) := by
        rw [hown2.cellAt _ (by omega)]; exact mbs_get1 _ _ (by have := Hll.out; omega)
      have c2 : w2.cell? ⟨w.heap.size, k * 3 + 2, none⟩ = some (.bool (l.getD k em3).2.2) := by
        rw [hown2.cellAt _ (by omega)]; exact mbs_get2 _ _ (by have := Hll.out; omega)
      have f0 : w2.frozen? ⟨w.heap.size, k * 3, none⟩ = false := hown2.frozenAt _
      have f1 : w2.frozen? ⟨w.heap.size, k * 3 + 1, none⟩ = false := hown2.frozenAt _
      have f2 : w2.frozen? ⟨w.heap.size, k * 3 + 2, none⟩ = false := hown2.frozenAt _
      generalize (l.getD k em3).1 = o0 at c0
      generalize (l.getD k em3).2.1 = o1 at c1
      generalize (l.getD k em3).2.2 = o2 at c2
      have hst := hown2.stored (k * 3) (.string x)
      have hst2 := hst.1.stored (k * 3 + 1) (.string y)
      have hst3 := hst2.1.stored (k * 3 + 2) (.bool z)
      have hown4 := hst3.1
      rw [mbs_set l k x y z (by have := Hll.out; omega)] at hown4
      have hb4 := ((hb3.setCell (show w.heap.size ≤ (⟨w.heap.size, k * 3, none⟩ : Addr).block by simp) (.string x)).setCell (show w.heap.size ≤ (⟨w.heap.size, k * 3 + 1, none⟩ : Addr).block by simp) (.string y)).setCell (show w.heap.size ≤ (⟨w.heap.size, k * 3 + 2, none⟩ : Addr).block by simp) (.bool z)
      have HO := Lib.hid hown4
      have HB := Lib.hid hb4
      clear hst hst2 hst3 hown4 hb4 hown2 hb3
      go_wp2_with fail
      go_roundw
      case rel =>
        refine ⟨k + 1, l.set k (x, y, z), by omega, by go_num, by simpa using Hll.out, fun j hj => ?_, HO.out, HB.out⟩
        rw [getD_set_mb _ _ _ _ (by have := Hll.out; omega)]
        by_cases e : j = k
        · subst e; rw [if_pos rfl]; exact HX.out.symm
        · rw [if_neg e]; exact Hag.out j (by omega)
      case measure => simp [intOf]; omega
    · obtain rfl : k = xs.length := by omega
      have e : l = xs := mbs_ext Hll.out (fun j hj => Hag.out j (by have := Hll.out; omega))
      subst e
      go_wp2_with fail
      go_ret
      exact ⟨_, rfl, hown, hb1⟩
end Go.Proofs.Ytbgogpfhdfgjeab
