/- Walks: cascades: the law's sizes, copies and comparison. -/
import Derived.Test.YtkekpkfhljankaaOg
import Derived.Test.YtkekpkfhljankaaOb
set_option linter.unusedVariables false
set_option linter.unusedSimpArgs false
namespace Go.Proofs.Ytkekpkfhljankaa
open Go.RowKit

/-- a slice of levels as it comes in: the lengths of their rolls -/
def LI (w : World) (B : Nat) (v : Value) (ks : List Nat) : Prop :=
  ks.length ≤ maxLen ∧ (∀ k ∈ ks, k ≤ maxLen) ∧ ∃ A c, v = .slice A ks.length c ∧
    (ks = [] ∨ ∃ b off, A = some ⟨b, off, none⟩ ∧ b < B ∧ ∀ j, j < ks.length → ∃ W K Aj cj, w.cell? ⟨b, off + j * 3, none⟩ = some (.int .i64 W) ∧ w.cell? ⟨b, off + j * 3 + 1, none⟩ = some (.int .i64 K) ∧ w.cell? ⟨b, off + j * 3 + 2, none⟩ = some (.slice Aj (ks.getD j 0) cj) ∧ Rng W ∧ Rng K ∧ (ks.getD j 0 ≤ 1048576 → ∃ rs : List R6, rs.length = ks.getD j 0 ∧ RL w B (.slice Aj (ks.getD j 0) cj) rs))
open Classical in
theorem LI.read {w : World} {B : Nat} {v : Value} {ks : List Nat} (h : LI w B v ks) (hl : ks.length ≤ 1048576) (hk : ∀ k ∈ ks, k ≤ 1048576) : ∃ ls : List Lv, ls.length = ks.length ∧ LS w B v ls := by
  obtain ⟨_, _, A, c, rfl, h3⟩ := h
  rcases h3 with rfl | ⟨b, off, rfl, hb, hc⟩
  · exact ⟨[], rfl, fun j => ⟨rng_zero, rng_zero⟩, Nat.zero_le _, A, c, rfl, .inl rfl⟩
  · have hx : ∀ j, ∃ x : Lv, j < ks.length → (Rng x.1 ∧ Rng x.2.1) ∧ w.cell? ⟨b, off + j * 3, none⟩ = some (.int .i64 x.1) ∧ w.cell? ⟨b, off + j * 3 + 1, none⟩ = some (.int .i64 x.2.1) ∧ ∃ r, w.cell? ⟨b, off + j * 3 + 2, none⟩ = some r ∧ RL w B r x.2.2 := by
      intro j
      by_cases hj : j < ks.length
      · obtain ⟨W, K, Aj, cj, c0, c1, c2, hW, hK, hr⟩ := hc j hj
        have hkj : ks.getD j 0 ≤ 1048576 := hk _ (by rw [List.getD_eq_getElem?_getD, List.getElem?_eq_getElem hj]; exact List.getElem_mem hj)
        obtain ⟨rs, _, hrl⟩ := hr hkj
        exact ⟨(W, K, rs), fun _ => ⟨⟨hW, hK⟩, c0, c1, _, c2, hrl⟩⟩
      · exact ⟨zLv, fun h => absurd h hj⟩
    obtain ⟨g, hg⟩ := Classical.axiomOfChoice hx
    refine ⟨(List.range ks.length).map g, by simp, ?_, by simpa using hl, some ⟨b, off, none⟩, c, by simp, .inr ⟨b, off, rfl, hb, fun j hj => ?_⟩⟩
    · intro j
      by_cases hj : j < ks.length
      · have e : ((List.range ks.length).map g).getD j zLv = g j := by simp [List.getD_eq_getElem?_getD, hj]
        rw [e]; exact (hg j hj).1
      · rw [List.getD_eq_getElem?_getD, List.getElem?_eq_none (by simp; omega)]; exact ⟨rng_zero, rng_zero⟩
    · have hj' : j < ks.length := by simpa using hj
      have e : ((List.range ks.length).map g).getD j zLv = g j := by simp [List.getD_eq_getElem?_getD, hj']
      rw [e]; exact (hg j hj').2
def szF : Int → List Nat → Int
  | l, [] => l
  | l, k :: ks => if l - (k : Int) < 0 then -1 else szF (l - k) ks
theorem szF_ok : ∀ (l : Int) (ks : List Nat), 0 ≤ l → l ≤ 1048576 → ¬ szF l ks < 0 → ∀ k ∈ ks, k ≤ 1048576
  | l, [], _, _, _, k, hk => by cases hk
  | l, x :: ks, h0, h1, h, k, hk => by
    unfold szF at h
    split at h
    · exact absurd (show (-1 : Int) < 0 by omega) h
    · rcases List.mem_cons.1 hk with rfl | hk
      · omega
      · exact szF_ok _ ks (by omega) (by omega) h k hk
theorem szF_bd : ∀ (l : Int) (ks : List Nat), 0 ≤ l → l ≤ 1048576 → -1 ≤ szF l ks ∧ szF l ks ≤ 1048576
  | l, [], h0, h1 => ⟨by unfold szF; omega, by unfold szF; omega⟩
  | l, x :: ks, h0, h1 => by
    unfold szF
    split
    · omega
    · exact szF_bd _ ks (by omega) (by omega)
theorem szF_at {l : Int} {ks : List Nat} {j : Nat} (hj : j < ks.length) : szF l (ks.drop j) = if l - ((ks.getD j 0 : Nat) : Int) < 0 then -1 else szF (l - ((ks.getD j 0 : Nat) : Int)) (ks.drop (j + 1)) := by
  rw [List.drop_eq_getElem_cons hj]
  have e : ks.getD j 0 = ks[j] := by rw [List.getD_eq_getElem?_getD, List.getElem?_eq_getElem hj]; rfl
  rw [e]
  rfl

set_option maxRecDepth 100000 in
set_option maxHeartbeats 1000000 in
theorem szLevel_any (W K : Int) (A : Option Addr) (k c : Nat) (l : Int) (w : World) (h0 : 0 ≤ l) (h1 : l ≤ 1048576) (hk : k ≤ maxLen) :
    Calls Try.prog 111 #[.agg #[.int .i64 W, .int .i64 K, .slice A k c], .int .i64 l] w fun e w' => e = .returned (.int .i64 (if l - (k : Int) < 0 then -1 else l - k)) ∧ Below w.heap.size w w' := by
  unfold maxLen at hk
  have e1 : wrap64 (l - (k : Int)) = l - (k : Int) := by unfold wrap64; omega
  have e2 : IntKind.i64.wrap (l - (k : Int)) = l - (k : Int) := IntWalk.i64_in _ (by omega)
  by_cases h : l - (k : Int) < 0
  · rw [if_pos h]
    go_enter Try.func111, Try.ntmps111
    go_wp2_with (first | (go_at_call 152; go_in) | fail)
    go_ret
    exact ⟨rfl, by repeat (first | exact Below.refl _ _ | refine Below.alloc ?_ (by simp; try omega) _ | refine Below.drew ?_)⟩
  · rw [if_neg h]
    go_enter Try.func111, Try.ntmps111
    go_wp2_with (first | (go_at_call 152; go_in) | fail)
    go_ret
    exact ⟨rfl, by repeat (first | exact Below.refl _ _ | refine Below.alloc ?_ (by simp; try omega) _ | refine Below.drew ?_)⟩

set_option maxRecDepth 100000 in
set_option maxHeartbeats 2000000 in
theorem szLevelS_any (v : Value) (ks : List Nat) (l : Int) (w : World) (h : LI w w.heap.size v ks) (h0 : 0 ≤ l) (h1 : l ≤ 1048576) :
    Calls Try.prog 58 #[v, .int .i64 l] w fun e w' => e = .returned (.int .i64 (if l - (ks.length : Int) < 0 then -1 else szF (l - ks.length) ks)) ∧ Below w.heap.size w w' := by
  obtain ⟨hkl, hkm, A, c, rfl, h3⟩ := h
  have HS := Lib.hid (fun W K A k c l w h0 h1 hk => szLevel_any W K A k c l w h0 h1 hk)
  have HM := Lib.hid hkm
  clear hkm
  have hkl' := hkl
  unfold maxLen at hkl'
  have e1 : wrap64 (l - (ks.length : Int)) = l - (ks.length : Int) := by unfold wrap64; omega
  have e2 : IntKind.i64.wrap (l - (ks.length : Int)) = l - (ks.length : Int) := IntWalk.i64_in _ (by omega)
  by_cases hs : l - (ks.length : Int) < 0
  · rw [if_pos hs]
    go_enter Try.func58, Try.ntmps58
    go_wp2_with fail
    go_ret
    exact ⟨rfl, Below.refl _ _⟩
  · rw [if_neg hs]
    obtain ⟨l2, hl2⟩ : ∃ l2, l2 = l - (ks.length : Int) := ⟨_, rfl⟩
    have hb2 : 0 ≤ l2 ∧ l2 ≤ 1048576 := by omega
    rw [← hl2] at e1 e2 ⊢
    have HL2 := Lib.hid hl2
    clear hl2
    have e1 : IntKind.i64.wrap (l - (ks.length : Int)) = l2 := by rw [← HL2.out]; exact e2
    have e1' : wrap64 (l - (ks.length : Int)) = l2 := by rw [← HL2.out]; unfold wrap64; omega
    clear e2
    go_enter Try.func58, Try.ntmps58
    go_wp2_with fail
    go_loopw [1, 5] (fun a i wr => ∃ (j : Nat) (lj : Int), j ≤ ks.length ∧ i = .int .i64 j ∧ a = .int .i64 lj ∧ 0 ≤ lj ∧ lj ≤ 1048576 ∧ Hid (szF l2 ks = szF lj (ks.drop j)) ∧ Below w.heap.size w wr) (fun _ i _ => ks.length - (intOf i).toNat)
    case atStart => exact ⟨0, l2, Nat.zero_le _, rfl, by first | rfl | (congr 1; omega), hb2.1, hb2.2, Lib.hid rfl, Below.refl _ _⟩
    case round =>
      obtain ⟨j, lj, hj, rfl, rfl, hl0, hl1, HZ, hb⟩ := hrel
      have hsz := hb.size
      by_cases hlt : j < ks.length
      · rcases h3 with h3 | ⟨b, off, rfl, hbl, hc⟩
        · subst h3; simp at hlt
        obtain ⟨W, K, Aj, cj, c0, c1, c2, _, _, _⟩ := hc j hlt
        have x0 := (hb.cell (p := ⟨b, off + j * 3, none⟩) hbl).trans c0
        have x1 := (hb.cell (p := ⟨b, off + j * 3 + 1, none⟩) hbl).trans c1
        have x2 := (hb.cell (p := ⟨b, off + j * 3 + 2, none⟩) hbl).trans c2
        have hkj := HM.out (ks.getD j 0) (by rw [List.getD_eq_getElem?_getD, List.getElem?_eq_getElem hlt]; exact List.getElem_mem hlt)
        have HA := Lib.hid (szF_at (l := lj) hlt)
        clear hc c0 c1 c2
        generalize ks.getD j 0 = kj at *
        have hcal := Lib.hid (HS.out W K Aj kj cj lj wr hl0 hl1 hkj)
        have HB := Lib.hid hb
        clear hb
        by_cases hneg : lj - (kj : Int) < 0
        · rw [if_pos hneg] at hcal HA
          have E := Lib.hid (HZ.out.trans HA.out)
          go_wp2_with fail
          refine hcal.out.mono ?_
          rintro e w5 ⟨rfl, hb5⟩
          have HB5 := Lib.hid (HB.out.trans (hb5.mono hsz))
          clear hb5
          go_wp2_with fail
          go_ret
          exact ⟨by rw [E.out]; rfl, HB5.out⟩
        · rw [if_neg hneg] at hcal HA
          have E := Lib.hid (HZ.out.trans HA.out)
          have hlj : 0 ≤ lj - (kj : Int) ∧ lj - (kj : Int) ≤ 1048576 := by omega
          generalize lj - (kj : Int) = ln at *
          go_wp2_with fail
          refine hcal.out.mono ?_
          rintro e w5 ⟨rfl, hb5⟩
          have HB5 := Lib.hid (HB.out.trans (hb5.mono hsz))
          clear hb5
          go_wp2_with fail
          go_roundw
          case rel => exact ⟨j + 1, ln, by omega, by go_num, rfl, hlj.1, hlj.2, E, HB5.out⟩
          case measure => simp [intOf]; omega
      · obtain rfl : j = ks.length := by omega
        have E := Lib.hid (show szF l2 ks = lj by rw [HZ.out, List.drop_length]; rfl)
        go_wp2_with fail
        go_ret
        exact ⟨by rw [E.out]; rfl, hb⟩
end Go.Proofs.Ytkekpkfhljankaa

/- Walks: cascades: copies of levels and cascades; equal ones. -/
set_option linter.unusedVariables false
set_option linter.unusedSimpArgs false
namespace Go.Proofs.Ytkekpkfhljankaa
open Go.RowKit

/-- a level's three cells -/
abbrev LvC := Int × Int × Value
abbrev zLc : LvC := (0, 0, .slice none 0 0)
def lvs (es : List LvC) : List Value := es.flatMap (fun x => [.int .i64 x.1, .int .i64 x.2.1, x.2.2])
theorem lvs_cons (x : LvC) (es : List LvC) : lvs (x :: es) = .int .i64 x.1 :: .int .i64 x.2.1 :: x.2.2 :: lvs es := rfl
theorem lvs_length (es : List LvC) : (lvs es).length = es.length * 3 := by
  induction es with
  | nil => rfl
  | cons x es ih => rw [lvs_cons]; simp [ih]; omega
theorem lvs_get0 : ∀ (xs : List LvC) (j : Nat), j < xs.length → (lvs xs)[j * 3]? = some (.int .i64 (xs.getD j zLc).1)
  | p :: xs, 0, _ => rfl
  | p :: xs, j + 1, h => by rw [lvs_cons, show (j + 1) * 3 = j * 3 + 1 + 1 + 1 by omega, List.getElem?_cons_succ, List.getElem?_cons_succ, List.getElem?_cons_succ, lvs_get0 xs j (by simpa using h)]; rfl
theorem lvs_get1 : ∀ (xs : List LvC) (j : Nat), j < xs.length → (lvs xs)[j * 3 + 1]? = some (.int .i64 (xs.getD j zLc).2.1)
  | p :: xs, 0, _ => rfl
  | p :: xs, j + 1, h => by rw [lvs_cons, show (j + 1) * 3 + 1 = j * 3 + 1 + 1 + 1 + 1 by omega, List.getElem?_cons_succ, List.getElem?_cons_succ, List.getElem?_cons_succ, lvs_get1 xs j (by simpa using h)]; rfl
theorem lvs_get2 : ∀ (xs : List LvC) (j : Nat), j < xs.length → (lvs xs)[j * 3 + 2]? = some (xs.getD j zLc).2.2
  | p :: xs, 0, _ => rfl
  | p :: xs, j + 1, h => by rw [lvs_cons, show (j + 1) * 3 + 2 = j * 3 + 2 + 1 + 1 + 1 by omega, List.getElem?_cons_succ, List.getElem?_cons_succ, List.getElem?_cons_succ, lvs_get2 xs j (by simpa using h)]; rfl
theorem lvs_set : ∀ (xs : List LvC) (k : Nat) (a b : Int) (v : Value), k < xs.length → (((lvs xs).set (k * 3) (.int .i64 a)).set (k * 3 + 1) (.int .i64 b)).set (k * 3 + 2) v = lvs (xs.set k (a, b, v))
  | p :: xs, 0, a, b, v, _ => rfl
  | p :: xs, k + 1, a, b, v, h => by
    rw [lvs_cons, show (k + 1) * 3 = k * 3 + 1 + 1 + 1 by omega]
    simp only [List.set_cons_succ, List.set_cons_zero]
    rw [lvs_set xs k a b v (by simpa using h)]; rfl
theorem made_lvs (n : Nat) : (madeCells #[Value.int .i64 0, Value.int .i64 0, Value.slice none 0 0] (n * 3)).toList = lvs (List.replicate n zLc) := by
  have hl : (lvs (List.replicate n zLc)).length = n * 3 := by rw [lvs_length, List.length_replicate]
  apply List.ext_getElem?
  intro i
  by_cases hi : i < n * 3
  · have h3 : i % 3 = 0 ∨ i % 3 = 1 ∨ i % 3 = 2 := by omega
    have hq : i / 3 < (List.replicate n zLc).length := by rw [List.length_replicate]; omega
    have hg : ((List.replicate n zLc).getD (i / 3) zLc) = zLc := by
      rw [List.getD_eq_getElem?_getD, List.getElem?_eq_getElem hq]; simp
    rcases h3 with h | h | h
    · have e : i = i / 3 * 3 := by omega
      conv => rhs; rw [e, lvs_get0 _ _ hq, hg]
      simp [madeCells, hi, h]
    · have e : i = i / 3 * 3 + 1 := by omega
      conv => rhs; rw [e, lvs_get1 _ _ hq, hg]
      simp [madeCells, hi, h]
    · have e : i = i / 3 * 3 + 2 := by omega
      conv => rhs; rw [e, lvs_get2 _ _ hq, hg]
      simp [madeCells, hi, h]
  · rw [List.getElem?_eq_none (by simp [madeCells]; omega), List.getElem?_eq_none (by rw [hl]; omega)]
theorem info_lv : (Try.prog.info? 58).map (fun i => (i.zero, i.size, i.bytes)) = some (some (.agg #[.int .i64 0, .int .i64 0, .slice none 0 0]), 3, 40) := by kernel_rfl

theorem BoxN.frozen {W : World} {B i : Nat} {cs : Array Value} {t : TypeId} (h : BoxN W B cs t) : W.frozen? ⟨B, i, none⟩ = false := by
  have hh : W.heap[B]? = some (.cells cs t (0, 0)) := h
  simp [World.frozen?, hh]
theorem own_set_other {W : World} {base sz : Nat} {e : TypeId} {v : Value} {n : Nat} {xs : List Value} (h : W.ownsRow base e sz v n xs) (b i : Nat) (x : Value) (hb : b < base) : (W.setCell ⟨b, i, none⟩ x).ownsRow base e sz v n xs :=
  h.kept (grown_set (World.grownBy.refl W (some b)) i x) (by
    by_cases e : v.ownBlock = none
    · exact .inl e
    · right; intro he; have := (h.lt b he).1; omega)
theorem oi_lift {w : World} {base base' sz : Nat} {e : TypeId} {v : Value} {n : Nat} {xs : List Value} (h : w.ownsRow base e sz v n xs) (hb : base' ≤ base) : w.ownsRow base' e sz v n xs :=
  ⟨h.1, h.2.imp id fun ⟨g, cap, cur, a, b, c⟩ => ⟨g, cap, cur, a, Nat.le_trans hb b, c⟩⟩

set_option maxRecDepth 100000 in
set_option maxHeartbeats 1000000 in
theorem toLevel_any (W K : Int) (rv : Value) (rs : List R6) (w : World) (h : RL w w.heap.size rv rs) :
    Calls Try.prog 113 #[.agg #[.int .i64 W, .int .i64 K, rv]] w fun e w' => ∃ v, e = .returned (.agg #[.int .i64 W, .int .i64 K, v]) ∧ w'.ownsRow w.heap.size 60 6 v rs.length (rls rs) ∧ Below w.heap.size w w' := by
  have hT := Lib.hid (fun W h => toRollS_any rv rs W h)
  have HR := Lib.hid h
  obtain ⟨_, _, A, c, rfl, _⟩ := h
  obtain ⟨w1, hw1⟩ : ∃ w1, ((w.alloc (.cells #[.int .i64 W, .int .i64 K, .slice A rs.length c] 138)).alloc (.cells #[.int .i64 0, .int .i64 0, .slice none 0 0] 58)).alloc (.cells #[.int .i64 W, .int .i64 K, .slice none 0 0] 58) = w1 := ⟨_, rfl⟩
  have B1 := Lib.hid (show Below w.heap.size w w1 from by rw [← hw1]; exact (((Below.refl _ w).alloc (Nat.le_refl _) _).alloc (by simp) _).alloc (by simp; omega) _)
  have n1 : BoxN w1 (w.heap.size + 1) #[.int .i64 0, .int .i64 0, .slice none 0 0] 58 := by
    have h := World.alloc_heap_new (w.alloc (.cells #[.int .i64 W, .int .i64 K, .slice A rs.length c] 138)) (.cells #[.int .i64 0, .int .i64 0, .slice none 0 0] 58)
    rw [World.size_alloc] at h
    rw [← hw1]
    exact (Below.heap_alloc _ _ _ (by simp)).trans h
  have n2 : BoxN w1 (w.heap.size + 1 + 1) #[.int .i64 W, .int .i64 K, .slice none 0 0] 58 := by
    have h := World.alloc_heap_new ((w.alloc (.cells #[.int .i64 W, .int .i64 K, .slice A rs.length c] 138)).alloc (.cells #[.int .i64 0, .int .i64 0, .slice none 0 0] 58)) (.cells #[.int .i64 W, .int .i64 K, .slice none 0 0] 58)
    rw [World.size_alloc, World.size_alloc] at h
    rw [← hw1]; exact h
  have hz1 := Lib.hid (show w1.heap.size = w.heap.size + 3 from by rw [← hw1]; simp)
  have HW := Lib.hid hw1
  have N1 := Lib.hid n1
  have N2 := Lib.hid n2
  clear hw1 n1 n2
  go_enter Try.func113, Try.ntmps113
  go_wp2_with fail
  rw [HW.out]
  refine (hT.out _ ((HR.out.below B1.out).up B1.out.size)).mono ?_
  rintro e w2 ⟨v, rfl, hown, hb2⟩
  have r2 : BoxN w2 (w.heap.size + 1) #[.int .i64 0, .int .i64 0, .slice none 0 0] 58 := (hb2.block _ N1.out.lt).trans N1.out
  have o2 : BoxN w2 (w.heap.size + 1 + 1) #[.int .i64 W, .int .i64 K, .slice none 0 0] 58 := (hb2.block _ N2.out.lt).trans N2.out
  have HB := Lib.hid (B1.out.trans (hb2.mono B1.out.size))
  have HO := Lib.hid (show w2.ownsRow (w.heap.size + 3) 60 6 v rs.length (rls rs) from by rw [← hz1.out]; exact hown)
  clear hown hb2
  have c0 := r2.cell (i := 0) rfl
  have c1 := r2.cell (i := 1) rfl
  have c2 := r2.cell (i := 2) rfl
  have f0 := r2.frozen (i := 0)
  have f1 := r2.frozen (i := 1)
  have f2 := r2.frozen (i := 2)
  have d0 := o2.cell (i := 0) rfl
  have d1 := o2.cell (i := 1) rfl
  have d2 := o2.cell (i := 2) rfl
  have g0 := o2.frozen (i := 0)
  have g1 := o2.frozen (i := 1)
  have g2 := o2.frozen (i := 2)
  obtain ⟨va, vn, vc, rfl⟩ : ∃ a n c, v = .slice a n c := by
    rcases HO.out.2 with ⟨rfl, h0⟩ | ⟨gb, cap, cur, rfl, _⟩
    · exact ⟨_, _, _, rfl⟩
    · exact ⟨_, _, _, rfl⟩
  go_wp2_with fail
  refine bodyPost_ret (v := .agg #[.int .i64 W, .int .i64 K, .slice va vn vc]) (by simp [results, Try.results113, go_sem, c0, c1, c2, d0, d1, d2]) rfl ⟨_, rfl, ?_, ?_⟩
  · refine oi_lift (base := w.heap.size + 3) ?_ (by omega)
    repeat (first | exact HO.out | refine own_set_other ?_ _ _ _ (by omega))
  · repeat (first | exact HB.out | refine Below.setCell ?_ (by simp; try omega) _)
end Go.Proofs.Ytkekpkfhljankaa
