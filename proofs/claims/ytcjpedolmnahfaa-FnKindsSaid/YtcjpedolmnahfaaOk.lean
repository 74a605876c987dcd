/- Walks: cascades: the law's sizes, copies and comparison. -/
import Derived.Test.YtcjpedolmnahfaaOg
import Derived.Test.YtcjpedolmnahfaaOb
set_option linter.unusedVariables false
set_option linter.unusedSimpArgs false
namespace Go.Proofs.Ytcjpedolmnahfaa
open Go.RowKit

/-- a slice of levels as it comes in: the lengths of their rolls -/
def LI (w : World) (B : Nat) (v : Value) (ks : List Nat) : Prop :=
  ks.length ≤ maxLen ∧ (∀ k ∈ ks, k ≤ maxLen) ∧ ∃ A c, v = .slice A ks.length c ∧
    (ks = [] ∨ ∃ b off, A = some ⟨b, off, none⟩ ∧ b < B ∧ ∀ j, j < ks.length → ∃ W K Aj cj, w.cell? ⟨b, off + j * 3, none⟩ = some (.int .i64 W) ∧ w.cell? ⟨b, off + j * 3 + 1, none⟩ = some (.int .i64 K) ∧ w.cell? ⟨b, off + j * 3 + 2, none⟩ = some (.slice Aj (ks.getD j 0) cj) ∧ Rng W ∧ Rng K ∧ (ks.getD j 0 ≤ 1048576 → ∃ rs : List R6, rs.length = ks.getD j 0 ∧ RL w B (.slice Aj (ks.getD j 0) cj) rs))
open Classical in
theorem LI.read {w : World} {B : Nat} {v : Value} {ks : List Nat} (h : LI w B v ks) (hl : ks.length ≤ 1048576) (hk : ∀ k ∈ ks, k ≤ 1048576) : ∃ ls : List Lv, ls.length = ks.length ∧ LS w B v ls := by
  obtain ⟨_, _, A, c, rfl, h3⟩ := h
  rcases h3 with rfl | ⟨b, off, rfl, hb, hc⟩
  · exact ⟨[], rfl, fun j => ⟨rng_zero, rng_zero⟩, Nat.zero_le _, A, c, rfl, .inl rfl⟩
  · have hx : ∀ j, ∃ x : Lv, j < ks.length → (Rng x.1 ∧ Rng x.2.1) ∧ w.cell? ⟨b, off + j * 3, none⟩ = some (.int .i64 x.1) ∧ w.cell? ⟨b, off + j * 3 + 1, none⟩ = some (.int .i64 x.2.1) ∧ ∃ r, w.cell? ⟨b, off + j * 3 + 2, none⟩ = some r ∧ RL w B r x.2.2 := by
      intro j
      by_cases hj : j < ks.length
      · obtain ⟨W, K, Aj, cj, c0, c1, c2, hW, hK, hr⟩ := hc j hj
        have hkj : ks.getD j 0 ≤ 1048576 := hk _ (by rw [List.getD_eq_getElem?_getD, List.getElem?_eq_getElem hj]; exact List.getElem_mem hj)
        obtain ⟨rs, _, hrl⟩ := hr hkj
        exact ⟨(W, K, rs), fun _ => ⟨⟨hW, hK⟩, c0, c1, _, c2, hrl⟩⟩
      · exact ⟨zLv, fun h => absurd h hj⟩
    obtain ⟨g, hg⟩ := Classical.axiomOfChoice hx
    refine ⟨(List.range ks.length).map g, by simp, ?_, by simpa using hl, some ⟨b, off, none⟩, c, by simp, .inr ⟨b, off, rfl, hb, fun j hj => ?_⟩⟩
    · intro j
      by_cases hj : j < ks.length
      · have e : ((List.range ks.length).map g).getD j zLv = g j := by simp [List.getD_eq_getElem?_getD, hj]
        rw [e]; exact (hg j hj).1
      · rw [List.getD_eq_getElem?_getD, List.getElem?_eq_none (by simp; omega)]; exact ⟨rng_zero, rng_zero⟩
    · have hj' : j < ks.length := by simpa using hj
      have e : ((List.range ks.length).map g).getD j zLv = g j := by simp [List.getD_eq_getElem?_getD, hj']
      rw [e]; exact (hg j hj').2
def szF : Int → List Nat → Int
  | l, [] => l
  | l, k :: ks => if l - (k : Int) < 0 then -1 else szF (l - k) ks
theorem szF_ok : ∀ (l : Int) (ks : List Nat), 0 ≤ l → l ≤ 1048576 → ¬ szF l ks < 0 → ∀ k ∈ ks, k ≤ 1048576
  | l, [], _, _, _, k, hk => by cases hk
  | l, x :: ks, h0, h1, h, k, hk => by
    unfold szF at h
    split at h
    · exact absurd (show (-1 : Int) < 0 by omega) h
    · rcases List.mem_cons.1 hk with rfl | hk
      · omega
      · exact szF_ok _ ks (by omega) (by omega) h k hk
theorem szF_bd : ∀ (l : Int) (ks : List Nat), 0 ≤ l → l ≤ 1048576 → -1 ≤ szF l ks ∧ szF l ks ≤ 1048576
  | l, [], h0, h1 => ⟨by unfold szF; omega, by unfold szF; omega⟩
  | l, x :: ks, h0, h1 => by
    unfold szF
    split
    · omega
    · exact szF_bd _ ks (by omega) (by omega)
theorem szF_at {l : Int} {ks : List Nat} {j : Nat} (hj : j < ks.length) : szF l (ks.drop j) = if l - ((ks.getD j 0 : Nat) : Int) < 0 then -1 else szF (l - ((ks.getD j 0 : Nat) : Int)) (ks.drop (j + 1)) := by
  rw [List.drop_eq_getElem_cons hj]
  have e : ks.getD j 0 = ks[j] := by rw [List.getD_eq_getElem?_getD, List.getElem?_eq_getElem hj]; rfl
  rw [e]
  rfl

set_option maxRecDepth 100000 in
set_option maxHeartbeats 1000000 in
theorem szLevel_any (W K : Int) (A : Option Addr) (k c : Nat) (l : Int) (w : World) (h0 : 0 ≤ l) (h1 : l ≤ 1048576) (hk : k ≤ maxLen) :
    Calls Try.prog 122 #[.agg #[.int .i64 W, .int .i64 K, .slice A k c], .int .i64 l] w fun e w' => e = .returned (.int .i64 (if l - (k : Int) < 0 then -1 else l - k)) ∧ Below w.heap.size w w' := by
  unfold maxLen at hk
  have e1 : wrap64 (l - (k : Int)) = l - (k : Int) := by unfold wrap64; omega
  have e2 : IntKind.i64.wrap (l - (k : Int)) = l - (k : Int) := IntWalk.i64_in _ (by omega)
  by_cases h : l - (k : Int) < 0
  · rw [if_pos h]
    go_enter Try.func122, Try.ntmps122
    go_wp2_with (first | (go_at_call 132; go_in) | fail)
    go_ret
    exact ⟨rfl, by repeat (first | exact Below.refl _ _ | refine Below.alloc ?_ (by simp; try omega) _ | refine Below.drew ?_)⟩
  · rw [if_neg h]
    go_enter Try.func122, Try.ntmps122
    go_wp2_with (first | (go_at_call 132; go_in) | fail)
    go_ret
    exact ⟨rfl, by repeat (first | exact Below.refl _ _ | refine Below.alloc ?_ (by simp; try omega) _ | refine Below.drew ?_)⟩

set_option maxRecDepth 100000 in
set_option maxHeartbeats 2000000 in
theorem szLevelS_any (v : Value) (ks : List Nat) (l : Int) (w : World) (h : LI w w.heap.size v ks) (h0 : 0 ≤ l) (h1 : l ≤ 1048576) :
    Calls Try.prog 89 #[v, .int .i64 l] w fun e w' => e = .returned (.int .i64 (if l - (ks.length : Int) < 0 then -1 else szF (l - ks.length) ks)) ∧ Below w.heap.size w w' := by
  obtain ⟨hkl, hkm, A, c, rfl, h3⟩ := h
  have HS := Lib.hid (fun W K A k c l w h0 h1 hk => szLevel_any W K A k c l w h0 h1 hk)
  have HM := Lib.hid hkm
  clear hkm
  have hkl' := hkl
  unfold maxLen at hkl'
  have e1 : wrap64 (l - (ks.length : Int)) = l - (ks.length : Int) := by unfold wrap64; omega
  have e2 : IntKind.i64.wrap (l - (ks.length : Int)) = l - (ks.length : Int) := IntWalk.i64_in _ (by omega)
  by_cases hs : l - (ks.length : Int) < 0
  · rw [if_pos hs]
    go_enter Try.func89, Try.ntmps89
    go_wp2_with fail
    go_ret
    exact ⟨rfl, Below.refl _ _⟩
  · rw [if_neg hs]
    obtain ⟨l2, hl2⟩ : ∃ l2, l2 = l - (ks.length : Int) := ⟨_, rfl⟩
    have hb2 : 0 ≤ l2 ∧ l2 ≤ 1048576 := by omega
    rw [← hl2] at e1 e2 ⊢
    have HL2 := Lib.hid hl2
    clear hl2
    have e1 : IntKind.i64.wrap (l - (ks.length : Int)) = l2 := by rw [← HL2.out]; exact e2
    have e1' : wrap64 (l - (ks.length : Int)) = l2 := by rw [← HL2.out]; unfold wrap64; omega
    clear e2
    go_enter Try.func89, Try.ntmps89
    go_wp2_with fail
    go_loopw [1, 5] (fun a i wr => ∃ (j : Nat) (lj : Int), j ≤ ks.length ∧ i = .int .i64 j ∧ a = .int .i64 lj ∧ 0 ≤ lj ∧ lj ≤ 1048576 ∧ Hid (szF l2 ks = szF lj (ks.drop j)) ∧ Below w.heap.size w wr) (fun _ i _ => ks.length - (intOf i).toNat)
    case atStart => exact ⟨0, l2, Nat.zero_le _, rfl, by first | rfl | (congr 1; omega), hb2.1, hb2.2, Lib.hid rfl, Below.refl _ _⟩
    case round =>
      obtain ⟨j, lj, hj, rfl, rfl, hl0, hl1, HZ, hb⟩ := hrel
      have hsz := hb.size
      by_cases hlt : j < ks.length
      · rcases h3 with h3 | ⟨b, off, rfl, hbl, hc⟩
        · subst h3; simp at hlt
        obtain ⟨W, K, Aj, cj, c0, c1, c2, _, _, _⟩ := hc j hlt
        have x0 := (hb.cell (p := ⟨b, off + j * 3, none⟩) hbl).trans c0
        have x1 := (hb.cell (p := ⟨b, off + j * 3 + 1, none⟩) hbl).trans c1
        have x2 := (hb.cell (p := ⟨b, off + j * 3 + 2, none⟩) hbl).trans c2
        have hkj := HM.out (ks.getD j 0) (by rw [List.getD_eq_getElem?_getD, List.getElem?_eq_getElem hlt]; exact List.getElem_mem hlt)
        have HA := Lib.hid (szF_at (l := lj) hlt)
        clear hc c0 c1 c2
        generalize ks.getD j 0 = kj at *
        have hcal := Lib.hid (HS.out W K Aj kj cj lj wr hl0 hl1 hkj)
        have HB := Lib.hid hb
        clear hb
        by_cases hneg : lj - (kj : Int) < 0
        · rw [if_pos hneg] at hcal HA
          have E := Lib.hid (HZ.out.trans HA.out)
          go_wp2_with fail
          refine hcal.out.mono ?_
          rintro e w5 ⟨rfl, hb5⟩
          have HB5 := Lib.hid (HB.out.trans (hb5.mono hsz))
          clear hb5
          go_wp2_with fail
          go_ret
          exact ⟨by rw [E.out]; rfl, HB5.out⟩
        · rw [if_neg hneg] at hcal HA
          have E := Lib.hid (HZ.out.trans HA.out)
          have hlj : 0 ≤ lj - (kj : Int) ∧ lj - (kj : Int) ≤ 1048576 := by omega
          generalize lj - (kj : Int) = ln at *
          go_wp2_with fail
          refine hcal.out.mono ?_
          rintro e w5 ⟨rfl, hb5⟩
          have HB5 := Lib.hid (HB.out.trans (hb5.mono hsz))
          clear hb5
          go_wp2_with fail
          go_roundw
          case rel => exact ⟨j + 1, ln, by omega, by go_num, rfl, hlj.1, hlj.2, E, HB5.out⟩
          case measure => simp [intOf]; omega
      · obtain rfl : j = ks.length := by omega
        have E := Lib.hid (show szF l2 ks = lj by rw [HZ.out, List.drop_length]; rfl)
        go_wp2_with fail
        go_ret
        exact ⟨by rw [E.out]; rfl, hb⟩
end Go.Proofs.Ytcjpedolmnahfaa

/- Walks: cascades: copies of levels and cascades; equal ones. -/
set_option linter.unusedVariables false
set_option linter.unusedSimpArgs false
namespace Go.Proofs.Ytcjpedolmnahfaa
open Go.RowKit

/-- a level's three cells -/
abbrev LvC := Int × Int × Value
abbrev zLc : LvC := (0, 0, .slice none 0 0)
def lvs (es : List LvC) : List Value := es.flatMap (fun x => [.int .i64 x.1, .int .i64 x.2.1, x.2.2])
theorem lvs_cons (x : LvC) (es : List LvC) : lvs (x :: es) = .int .i64 x.1 :: .int .i64 x.2.1 :: x.2.2 :: lvs es := rfl
theorem lvs_length (es : List LvC) : (lvs es).length = es.length * 3 := by
  induction es with
  | nil => rfl
  | cons x es ih => rw [lvs_cons]; simp [ih]; omega
theorem lvs_get0 : ∀ (xs : List LvC) (j : Nat), j < xs.length → (lvs xs)[j * 3]? = some (.int .i64 (xs.getD j zLc).1)
  | p :: xs, 0, _ => rfl
  | p :: xs, j + 1, h => by rw [lvs_cons, show (j + 1) * 3 = j * 3 + 1 + 1 + 1 by omega, List.getElem?_cons_succ, List.getElem?_cons_succ, List.getElem?_cons_succ, lvs_get0 xs j (by simpa using h)]; rfl
theorem lvs_get1 : ∀ (xs : List LvC) (j : Nat), j < xs.length → (lvs xs)[j * 3 + 1]? = some (.int .i64 (xs.getD j zLc).2.1)
  | p :: xs, 0, _ => rfl
  | p :: xs, j + 1, h => by rw [lvs_cons, show (j + 1) * 3 + 1 = j * 3 + 1 + 1 + 1 + 1 by omega, List.getElem?_cons_succ, List.getElem?_cons_succ, List.getElem?_cons_succ, lvs_get1 xs j (by simpa using h)]; rfl
theorem lvs_get2 : ∀ (xs : List LvC) (j : Nat), j < xs.length → (lvs xs)[j * 3 + 2]? = some (xs.getD j zLc).2.2
  | p :: xs, 0, _ => rfl
  | p :: xs, j + 1, h => by rw [lvs_cons, show (j + 1) * 3 + 2 = j * 3 + 2 + 1 + 1 + 1 by omega, List.getElem?_cons_succ, List.getElem?_cons_succ, List.getElem?_cons_succ, lvs_get2 xs j (by simpa using h)]; rfl
theorem lvs_set : ∀ (xs : List LvC) (k : Nat) (a b : Int) (v : Value), k < xs.length → (((lvs xs).set (k * 3) (.int .i64 a)).set (k * 3 + 1) (.int .i64 b)).set (k * 3 + 2) v = lvs (xs.set k (a, b, v))
  | p :: xs, 0, a, b, v, _ => rfl
  | p :: xs, k + 1, a, b, v, h => by
    rw [lvs_cons, show (k + 1) * 3 = k * 3 + 1 + 1 + 1 by omega]
    simp only [List.set_cons_succ, List.set_cons_zero]
    rw [lvs_set xs k a b v (by simpa using h)]; rfl
theorem made_lvs (n : Nat) : (madeCells #[Value.int .i64 0, Value.int .i64 0, Value.slice none 0 0] (n * 3)).toList = lvs (List.replicate n zLc) := by
  have hl : (lvs (List.replicate n zLc)).length = n * 3 := by rw [lvs_length, List.length_replicate]
  apply List.ext_getElem?
  intro i
  by_cases hi : i < n * 3
  · have h3 : i % 3 = 0 ∨ i % 3 = 1 ∨ i % 3 = 2 := by omega
    have hq : i / 3 < (List.replicate n zLc).length := by rw [List.length_replicate]; omega
    have hg : ((List.replicate n zLc).getD (i / 3) zLc) = zLc := by
      rw [List.getD_eq_getElem?_getD, List.getElem?_eq_getElem hq]; simp
    rcases h3 with h | h | h
    · have e : i = i / 3 * 3 := by omega
      conv => rhs; rw [e, lvs_get0 _ _ hq, hg]
      simp [madeCells, hi, h]
    · have e : i = i / 3 * 3 + 1 := by omega
      conv => rhs; rw [e, lvs_get1 _ _ hq, hg]
      simp [madeCells, hi, h]
    · have e : i = i / 3 * 3 + 2 := by omega
      conv => rhs; rw [e, lvs_get2 _ _ hq, hg]
      simp [madeCells, hi, h]
  · rw [List.getElem?_eq_none (by simp [madeCells]; omega), List.getElem?_eq_none (by rw [hl]; omega)]
theorem info_lv : (Try.prog.info? 51).map (fun i => (i.zero, i.size, i.bytes)) = some (some (.agg #[.int .i64 0, .int .i64 0, .slice none 0 0]), 3, 40) := by kernel_rfl

theorem BoxN.frozen {W : World} {B i : Nat} {cs : Array Value} {t : TypeId} (h : BoxN W B cs t) : W.frozen? ⟨B, i, none⟩ = false := by
  have hh : W.heap[B]? = some (.cells cs t (0, 0)) := h
  simp [World.frozen?, hh]
theorem own_set_other {W : World} {base sz : Nat} {e : TypeId} {v : Value} {n : Nat} {xs : List Value} (h : W.ownsRow base e sz v n xs) (b i : Nat) (x : Value) (hb : b < base) : (W.setCell ⟨b, i, none⟩ x).ownsRow base e sz v n xs :=
  h.kept (grown_set (World.grownBy.refl W (some b)) i x) (by
    by_cases e : v.ownBlock = none
    · exact .inl e
    · right; intro he; have := (h.lt b he).1; omega)
theorem oi_lift {w : World} {base base' sz : Nat} {e : TypeId} {v : Value} {n : Nat} {xs : List Value} (h : w.ownsRow base e sz v n xs) (hb : base' ≤ base) : w.ownsRow base' e sz v n xs :=
  ⟨h.1, h.2.imp id fun ⟨g, cap, cur, a, b, c⟩ => ⟨g, cap, cur, a, Nat.le_trans hb b, c⟩⟩

set_option maxRecDepth 100000 in
set_option maxHeartbeats 1000000 in
theorem toLevel_any (W K : Int) (rv : Value) (rs : List R6) (w : World) (h : RL w w.heap.size rv rs) :
    Calls Try.prog 123 #[.agg #[.int .i64 W, .int .i64 K, rv]] w fun e w' => ∃ v, e = .returned (.agg #[.int .i64 W, .int .i64 K, v]) ∧ w'.ownsRow w.heap.size 48 6 v rs.length (rls rs) ∧ Below w.heap.size w w' := by
  have hT := Lib.hid (fun W h => toRollS_any rv rs W h)
  have HR := Lib.hid h
  obtain ⟨_, _, A, c, rfl, _⟩ := h
  obtain ⟨w1, hw1⟩ : ∃ w1, ((w.alloc (.cells #[.int .i64 W, .int .i64 K, .slice A rs.length c] 143)).alloc (.cells #[.int .i64 0, .int .i64 0, .slice none 0 0] 51)).alloc (.cells #[.int .i64 W, .int .i64 K, .slice none 0 0] 51) = w1 := ⟨_, rfl⟩
  have B1 := Lib.hid (show Below w.heap.size w w1 from by rw [← hw1]; exact (((Below.refl _ w).alloc (Nat.le_refl _) _).alloc (by simp) _).alloc (by simp; omega) _)
  have n1 : BoxN w1 (w.heap.size + 1) #[.int .i64 0, .int .i64 0, .slice none 0 0] 51 := by
    have h := World.alloc_heap_new (w.alloc (.cells #[.int .i64 W, .int .i64 K, .slice A rs.length c] 143)) (.cells #[.int .i64 0, .int .i64 0, .slice none 0 0] 51)
    rw [World.size_alloc] at h
    rw [← hw1]
    exact (Below.heap_alloc _ _ _ (by simp)).trans h
  have n2 : BoxN w1 (w.heap.size + 1 + 1) #[.int .i64 W, .int .i64 K, .slice none 0 0] 51 := by
    have h := World.alloc_heap_new ((w.alloc (.cells #[.int .i64 W, .int .i64 K, .slice A rs.length c] 143)).alloc (.cells #[.int .i64 0, .int .i64 0, .slice none 0 0] 51)) (.cells #[.int .i64 W, .int .i64 K, .slice none 0 0] 51)
    rw [World.size_alloc, World.size_alloc] at h
    rw [← hw1]; exact h
  have hz1 := Lib.hid (show w1.heap.size = w.heap.size + 3 from by rw [← hw1]; simp)
  have HW := Lib.hid hw1
  have N1 := Lib.hid n1
  have N2 := Lib.hid n2
  clear hw1 n1 n2
  go_enter Try.func123, Try.ntmps123
  go_wp2_with fail
  rw [HW.out]
  refine (hT.out _ ((HR.out.below B1.out).up B1.out.size)).mono ?_
  rintro e w2 ⟨v, rfl, hown, hb2⟩
  have r2 : BoxN w2 (w.heap.size + 1) #[.int .i64 0, .int .i64 0, .slice none 0 0] 51 := (hb2.block _ N1.out.lt).trans N1.out
  have o2 : BoxN w2 (w.heap.size + 1 + 1) #[.int .i64 W, .int .i64 K, .slice none 0 0] 51 := (hb2.block _ N2.out.lt).trans N2.out
  have HB := Lib.hid (B1.out.trans (hb2.mono B1.out.size))
  have HO := Lib.hid (show w2.ownsRow (w.heap.size + 3) 48 6 v rs.length (rls rs) from by rw [← hz1.out]; exact hown)
  clear hown hb2
  have c0 := r2.cell (i := 0) rfl
  have c1 := r2.cell (i := 1) rfl
  have c2 := r2.cell (i := 2) rfl
  have f0 := r2.frozen (i := 0)
  have f1 := r2.frozen (i := 1)
  have f2 := r2.frozen (i := 2)
  have d0 := o2.cell (i := 0) rfl
  have d1 := o2.cell (i := 1) rfl
  have d2 := o2.cell (i := 2) rfl
  have g0 := o2.frozen (i := 0)
  have g1 := o2.frozen (i := 1)
  have g2 := o2.frozen (i := 2)
  obtain ⟨va, vn, vc, rfl⟩ : ∃ a n c, v = .slice a n c := by
    rcases HO.out.2 with ⟨rfl, h0⟩ | ⟨gb, cap, cur, rfl, _⟩
    · exact ⟨_, _, _, rfl⟩
    · exact ⟨_, _, _, rfl⟩
  go_wp2_with fail
  refine bodyPost_ret (v := .agg #[.int .i64 W, .int .i64 K, .slice va vn vc]) (by simp [results, Try.results123, go_sem, c0, c1, c2, d0, d1, d2]) rfl ⟨_, rfl, ?_, ?_⟩
  · refine oi_lift (base := w.heap.size + 3) ?_ (by omega)
    repeat (first | exact HO.out | refine own_set_other ?_ _ _ _ (by omega))
  · repeat (first | exact HB.out | refine Below.setCell ?_ (by simp; try omega) _)
end Go.Proofs.Ytcjpedolmnahfaa

/- Walks: cascades: copies of cascades; equal ones. -/
set_option linter.unusedVariables false
set_option linter.unusedSimpArgs false
namespace Go.Proofs.Ytcjpedolmnahfaa
open Go.RowKit

theorem getD_set_lv (l : List LvC) (k j : Nat) (x : LvC) (h : k < l.length) : (l.set k x).getD j zLc = if j = k then x else l.getD j zLc := by
  rw [List.getD_eq_getElem?_getD, List.getD_eq_getElem?_getD, List.getElem?_set]
  by_cases e : k = j
  · subst e; simp [h]
  · rw [if_neg e, if_neg (fun h => e h.symm)]
theorem own_set_row {W : World} {base sz : Nat} {e : TypeId} {v : Value} {n : Nat} {xs : List Value} (h : W.ownsRow base e sz v n xs) {W' : World} {b : Nat} (hg : W.grownBy W' (some b)) (hb : b < base) : W'.ownsRow base e sz v n xs :=
  h.kept hg (by
    by_cases e : v.ownBlock = none
    · exact .inl e
    · right; intro he; have := (h.lt b he).1; omega)
/-- the levels' row of the call's own, each with a row of rolls of its own -/
def LOwn (W : World) (base : Nat) (v : Value) (ls : List Lv) : Prop :=
  ∃ es : List LvC, es.length = ls.length ∧ W.ownsRow base 51 3 v ls.length (lvs es) ∧ ∀ j, j < ls.length → (es.getD j zLc).1 = (ls.getD j zLv).1 ∧ (es.getD j zLc).2.1 = (ls.getD j zLv).2.1 ∧ W.ownsRow base 48 6 (es.getD j zLc).2.2 (ls.getD j zLv).2.2.length (rls (ls.getD j zLv).2.2)
theorem LOwn.below {W W' : World} {base : Nat} {v : Value} {ls : List Lv} (h : LOwn W base v ls) (hb : Below W.heap.size W W') : LOwn W' base v ls := by
  obtain ⟨es, h1, h2, h3⟩ := h
  exact ⟨es, h1, u_own_below h2 hb, fun j hj => ⟨(h3 j hj).1, (h3 j hj).2.1, u_own_below (h3 j hj).2.2 hb⟩⟩
theorem LOwn.read {W : World} {base : Nat} {v : Value} {ls : List Lv} (h : LOwn W base v ls) (hr : ∀ j, Rng (ls.getD j zLv).1 ∧ Rng (ls.getD j zLv).2.1) (hl : ls.length ≤ 1048576) (hrr : ∀ j, j < ls.length → (∀ i, Rng6 ((ls.getD j zLv).2.2.getD i z6)) ∧ (ls.getD j zLv).2.2.length ≤ 1048576) : LS W W.heap.size v ls := by
  obtain ⟨es, h1, h2, h3⟩ := h
  refine ⟨hr, hl, ?_⟩
  rcases h2.2 with ⟨rfl, h0⟩ | ⟨g, cap, cur, rfl, hb, hg, _⟩
  · exact ⟨none, 0, by rw [h0], .inl (List.eq_nil_of_length_eq_zero h0)⟩
  · refine ⟨_, cap, rfl, .inr ⟨g, 0, rfl, (Array.getElem?_eq_some_iff.1 hg).1, fun j hj => ?_⟩⟩
    obtain ⟨e1, e2, e3⟩ := h3 j hj
    refine ⟨?_, ?_, (es.getD j zLc).2.2, ?_, RL.of_own e3 rfl (hrr j hj).1 (hrr j hj).2⟩
    · rw [Nat.zero_add, h2.cellAt (j * 3) (by omega), ← e1]; exact lvs_get0 _ _ (by omega)
    · rw [Nat.zero_add, h2.cellAt (j * 3 + 1) (by omega), ← e2]; exact lvs_get1 _ _ (by omega)
    · rw [Nat.zero_add, h2.cellAt (j * 3 + 2) (by omega)]; exact lvs_get2 _ _ (by omega)
theorem LS.rolls {w : World} {B : Nat} {v : Value} {ls : List Lv} (h : LS w B v ls) : ∀ j, j < ls.length → (∀ i, Rng6 ((ls.getD j zLv).2.2.getD i z6)) ∧ (ls.getD j zLv).2.2.length ≤ 1048576 := by
  obtain ⟨_, _, A, c, rfl, h3⟩ := h
  intro j hj
  rcases h3 with h3 | ⟨b, off, rfl, hlt, hc⟩
  · rw [h3] at hj; simp at hj
  · obtain ⟨_, _, r, _, hr⟩ := hc j hj
    exact ⟨hr.1, hr.2.1⟩

def LPart (W : World) (b : Nat) (es : List LvC) (ls : List Lv) (k : Nat) : Prop :=
  es.length = ls.length ∧ W.ownsRow b 51 3 (.slice (some ⟨b, 0, none⟩) ls.length ls.length) ls.length (lvs es) ∧ ∀ j, j < k → (es.getD j zLc).1 = (ls.getD j zLv).1 ∧ (es.getD j zLc).2.1 = (ls.getD j zLv).2.1 ∧ W.ownsRow (b + 1) 48 6 (es.getD j zLc).2.2 (ls.getD j zLv).2.2.length (rls (ls.getD j zLv).2.2)

set_option maxRecDepth 100000 in
set_option maxHeartbeats 4000000 in
theorem toLevelS_any (v : Value) (ls : List Lv) (w : World) (h : LS w w.heap.size v ls) :
    Calls Try.prog 91 #[v] w fun e w' => ∃ v', e = .returned v' ∧ LOwn w' w.heap.size v' ls ∧ Below w.heap.size w w' := by
  obtain ⟨hr, hlen, A, c, rfl, h3⟩ := h
  clear hr
  obtain ⟨i0, hi, hz0, hz1, hz2⟩ := info_parts info_lv
  have hT := Lib.hid (fun W K rv rs w h => toLevel_any W K rv rs w h)
  go_enter Try.func91, Try.ntmps91
  go_wp2_with (at_make; refine wpList_make_full _ rfl _ _ 28 rfl w.heap.size 51 i0 (.agg #[.int .i64 0, .int .i64 0, .slice none 0 0]) 3 Try.underlying28 hi hz0 hz1 _ _ _ _ ls.length rfl rfl rfl rfl ?b2 ?b3 ?b4 ?_)
  case b2 => rw [hz2]; omega
  case b3 => unfold maxLen; omega
  case b4 => exact Nat.le_refl _
  intro w1 hown hgrow
  rw [made_lvs] at hown
  have hb1 : Below w.heap.size w w1 := (Below.refl _ _).grown hgrow (Nat.le_refl _) (fun k hk => by cases hk)
  have hlt1 : w.heap.size < w1.heap.size := by have := (hown.lt _ rfl).2; exact this
  clear hgrow
  go_wp2_with fail
  go_loopw [4] (fun i wr => ∃ (k : Nat) (es : List LvC), k ≤ ls.length ∧ i = .int .i64 k ∧ Hid (LPart wr w.heap.size es ls k) ∧ w.heap.size < wr.heap.size ∧ Below w.heap.size w wr)
    (fun i _ => ls.length - (intOf i).toNat)
  case atStart => exact ⟨0, List.replicate ls.length zLc, Nat.zero_le _, rfl, Lib.hid ⟨by simp, hown, fun j hj => by omega⟩, hlt1, hb1⟩
  case round =>
    clear hown hb1
    obtain ⟨k, es, hk, rfl, HE, hlt0, hb⟩ := hrel
    have HB := Lib.hid hb
    have hsz := hb.size
    clear hb
    by_cases hlt : k < ls.length
    · rcases h3 with h3 | ⟨b, off, rfl, hbl, hc⟩
      · subst h3; simp at hlt
      obtain ⟨q0, q1, rv, q2, hrl⟩ := hc k hlt
      have x0 := (HB.out.cell (p := ⟨b, off + k * 3, none⟩) hbl).trans q0
      have x1 := (HB.out.cell (p := ⟨b, off + k * 3 + 1, none⟩) hbl).trans q1
      have x2 := (HB.out.cell (p := ⟨b, off + k * 3 + 2, none⟩) hbl).trans q2
      have hcal := Lib.hid (hT.out (ls.getD k zLv).1 (ls.getD k zLv).2.1 rv (ls.getD k zLv).2.2 wr ((hrl.below HB.out).up hsz))
      obtain ⟨_, _, Ar, cr, hrv, _⟩ := id hrl
      obtain ⟨nr, hnr⟩ : ∃ nr, nr = (ls.getD k zLv).2.2.length := ⟨_, rfl⟩
      rw [← hnr] at hrv
      subst hrv
      clear hc q0 q1 q2 hrl hnr
      obtain ⟨W, hW⟩ : ∃ W, W = (ls.getD k zLv).1 := ⟨_, rfl⟩
      obtain ⟨K, hK⟩ : ∃ K, K = (ls.getD k zLv).2.1 := ⟨_, rfl⟩
      rw [← hW] at x0 hcal
      rw [← hK] at x1 hcal
      have HW := Lib.hid hW
      have HK := Lib.hid hK
      clear hW hK
      go_wp2_with fail
      refine hcal.out.mono ?_
      rintro e w2 ⟨vr, rfl, hownr, hb2⟩
      have hes := HE.out.1
      have hown2 := u_own_below HE.out.2.1 hb2
      have HR := Lib.hid (show w2.ownsRow (w.heap.size + 1) 48 6 vr (ls.getD k zLv).2.2.length (rls (ls.getD k zLv).2.2) from oi_lift hownr (by omega))
      have HOld := Lib.hid (fun j (hj : j < k) => (⟨(HE.out.2.2 j hj).1, (HE.out.2.2 j hj).2.1, u_own_below (HE.out.2.2 j hj).2.2 hb2⟩ : (es.getD j zLc).1 = (ls.getD j zLv).1 ∧ (es.getD j zLc).2.1 = (ls.getD j zLv).2.1 ∧ w2.ownsRow (w.heap.size + 1) 48 6 (es.getD j zLc).2.2 (ls.getD j zLv).2.2.length (rls (ls.getD j zLv).2.2)))
      have hb3 := HB.out.trans (hb2.mono hsz)
      have hsz2 := hb2.size
      obtain ⟨va, vn, vc, rfl⟩ : ∃ a n c, vr = .slice a n c := by
        rcases hownr.2 with ⟨rfl, h0⟩ | ⟨gb, cap, cur, rfl, _⟩
        · exact ⟨_, _, _, rfl⟩
        · exact ⟨_, _, _, rfl⟩
      clear hb2 hownr x0 x1 x2
      have c0 : w2.cell? ⟨w.heap.size, k * 3, none⟩ = some (.int .i64 (es.getD k zLc).1) := by
        rw [hown2.cellAt _ (by omega)]; exact lvs_get0 _ _ (by omega)
      have c1 : w2.cell? ⟨w.heap.size, k * 3 + 1, none⟩ = some (.int .i64 (es.getD k zLc).2.1) := by
        rw [hown2.cellAt _ (by omega)]; exact lvs_get1 _ _ (by omega)
      have c2 : w2.cell? ⟨w.heap.size, k * 3 + 2, none⟩ = some (es.getD k zLc).2.2 := by
        rw [hown2.cellAt _ (by omega)]; exact lvs_get2 _ _ (by omega)
      have f0 : w2.frozen? ⟨w.heap.size, k * 3, none⟩ = false := hown2.frozenAt _
      have f1 : w2.frozen? ⟨w.heap.size, k * 3 + 1, none⟩ = false := hown2.frozenAt _
      have f2 : w2.frozen? ⟨w.heap.size, k * 3 + 2, none⟩ = false := hown2.frozenAt _
      generalize (es.getD k zLc).1 = o0 at c0
      generalize (es.getD k zLc).2.1 = o1 at c1
      generalize (es.getD k zLc).2.2 = o2 at c2
      have s0 := hown2.stored (k * 3) (.int .i64 W)
      have s1 := s0.1.stored (k * 3 + 1) (.int .i64 K)
      have s2 := s1.1.stored (k * 3 + 2) (.slice va vn vc)
      have hown4 := s2.1
      rw [lvs_set es k W K (.slice va vn vc) (by omega)] at hown4
      have hg4 := (s0.2.trans s1.2).trans s2.2
      have HN := Lib.hid (show LPart _ w.heap.size (es.set k (W, K, .slice va vn vc)) ls (k + 1) from ⟨by simpa using hes, hown4, fun j hj => by
        rw [getD_set_lv _ _ _ _ (by omega)]
        by_cases e : j = k
        · subst e; rw [if_pos rfl]; exact ⟨HW.out, HK.out, own_set_row HR.out hg4 (by omega)⟩
        · rw [if_neg e]
          have ho := HOld.out j (by omega)
          exact ⟨ho.1, ho.2.1, own_set_row ho.2.2 hg4 (by omega)⟩⟩)
      have HB4 := Lib.hid (((hb3.setCell (p := ⟨w.heap.size, k * 3, none⟩) (by simp) (.int .i64 W)).setCell (p := ⟨w.heap.size, k * 3 + 1, none⟩) (by simp) (.int .i64 K)).setCell (p := ⟨w.heap.size, k * 3 + 2, none⟩) (by simp) (.slice va vn vc))
      have hlt4 := Lib.hid (show w.heap.size < (((w2.setCell ⟨w.heap.size, k * 3, none⟩ (.int .i64 W)).setCell ⟨w.heap.size, k * 3 + 1, none⟩ (.int .i64 K)).setCell ⟨w.heap.size, k * 3 + 2, none⟩ (.slice va vn vc)).heap.size from by have := hg4.size; omega)
      clear s0 s1 s2 hown4 hg4 hown2 hb3 HR HOld HE
      go_wp2_with fail
      go_roundw
      case rel => exact ⟨k + 1, es.set k (W, K, .slice va vn vc), by omega, by go_num, HN, hlt4.out, HB4.out⟩
      case measure => simp [intOf]; omega
    · obtain rfl : k = ls.length := by omega
      go_wp2_with fail
      go_ret
      exact ⟨_, rfl, ⟨es, HE.out.1, HE.out.2.1, fun j hj => ⟨(HE.out.2.2 j hj).1, (HE.out.2.2 j hj).2.1, oi_lift (HE.out.2.2 j hj).2.2 (by omega)⟩⟩, HB.out⟩
end Go.Proofs.Ytcjpedolmnahfaa

/- Walks: cascades: copies of cascades; equal cascades. -/
set_option linter.unusedVariables false
set_option linter.unusedSimpArgs false
namespace Go.Proofs.Ytcjpedolmnahfaa
open Go.RowKit

def CPost (base : Nat) (c : Cs) (w : World) (e : Ending) (w' : World) : Prop :=
  ∃ rv lv, e = .returned (.agg #[.int .i64 c.1, .int .i64 c.2.1, rv, lv]) ∧ w'.ownsRow base 43 2 rv c.2.2.1.length (prs c.2.2.1) ∧ LOwn w' base lv c.2.2.2 ∧ Below w.heap.size w w'
theorem LOwn.setOther {W : World} {base : Nat} {v : Value} {ls : List Lv} (h : LOwn W base v ls) (b i : Nat) (x : Value) (hb : b < base) : LOwn (W.setCell ⟨b, i, none⟩ x) base v ls := by
  obtain ⟨es, h1, h2, h3⟩ := h
  exact ⟨es, h1, own_set_other h2 b i x hb, fun j hj => ⟨(h3 j hj).1, (h3 j hj).2.1, own_set_other (h3 j hj).2.2 b i x hb⟩⟩
theorem LOwn.lift {W : World} {base base' : Nat} {v : Value} {ls : List Lv} (h : LOwn W base v ls) (hb : base' ≤ base) : LOwn W base' v ls := by
  obtain ⟨es, h1, h2, h3⟩ := h
  exact ⟨es, h1, oi_lift h2 hb, fun j hj => ⟨(h3 j hj).1, (h3 j hj).2.1, oi_lift (h3 j hj).2.2 hb⟩⟩
theorem LOwn.shape {W : World} {base : Nat} {v : Value} {ls : List Lv} (h : LOwn W base v ls) : ∃ a n c, v = .slice a n c := by
  obtain ⟨es, h1, h2, h3⟩ := h
  rcases h2.2 with ⟨rfl, h0⟩ | ⟨gb, cap, cur, rfl, _⟩
  · exact ⟨_, _, _, rfl⟩
  · exact ⟨_, _, _, rfl⟩
theorem own_shape {W : World} {base sz : Nat} {e : TypeId} {v : Value} {n : Nat} {xs : List Value} (h : W.ownsRow base e sz v n xs) : ∃ a n c, v = .slice a n c := by
  rcases h.2 with ⟨rfl, h0⟩ | ⟨gb, cap, cur, rfl, _⟩
  · exact ⟨_, _, _, rfl⟩
  · exact ⟨_, _, _, rfl⟩

set_option maxRecDepth 100000 in
set_option maxHeartbeats 2000000 in
theorem toCascade_any (v : Value) (c : Cs) (w : World) (h : CV w w.heap.size v c) :
    Calls Try.prog 42 #[v] w (CPost w.heap.size c w) := by
  obtain ⟨Ap, cp, Al, cl, rfl, hP, hL⟩ := h.cell2
  obtain ⟨nw, kp, rp, ls⟩ := c
  simp only at hP hL ⊢
  have hT := Lib.hid (fun W h => toPointS_any (.slice Ap rp.length cp) rp W h)
  have hS := Lib.hid (fun W h => toLevelS_any (.slice Al ls.length cl) ls W h)
  have HP := Lib.hid hP
  have HL := Lib.hid hL
  clear hP hL h
  obtain ⟨w1, hw1⟩ : ∃ w1, ((w.alloc (.cells #[.int .i64 nw, .int .i64 kp, .slice Ap rp.length cp, .slice Al ls.length cl] 66)).alloc (.cells #[.int .i64 0, .int .i64 0, .slice none 0 0, .slice none 0 0] 30)).alloc (.cells #[.int .i64 nw, .int .i64 kp, .slice none 0 0, .slice none 0 0] 30) = w1 := ⟨_, rfl⟩
  have B1 := Lib.hid (show Below w.heap.size w w1 from by rw [← hw1]; exact (((Below.refl _ w).alloc (Nat.le_refl _) _).alloc (by simp) _).alloc (by simp; omega) _)
  have n0 : BoxN w1 w.heap.size #[.int .i64 nw, .int .i64 kp, .slice Ap rp.length cp, .slice Al ls.length cl] 66 := by
    have h := World.alloc_heap_new w (.cells #[.int .i64 nw, .int .i64 kp, .slice Ap rp.length cp, .slice Al ls.length cl] 66)
    rw [← hw1]
    exact (Below.heap_alloc _ _ _ (by simp; omega)).trans ((Below.heap_alloc _ _ _ (by simp)).trans h)
  have n1 : BoxN w1 (w.heap.size + 1) #[.int .i64 0, .int .i64 0, .slice none 0 0, .slice none 0 0] 30 := by
    have h := World.alloc_heap_new (w.alloc (.cells #[.int .i64 nw, .int .i64 kp, .slice Ap rp.length cp, .slice Al ls.length cl] 66)) (.cells #[.int .i64 0, .int .i64 0, .slice none 0 0, .slice none 0 0] 30)
    rw [World.size_alloc] at h
    rw [← hw1]
    exact (Below.heap_alloc _ _ _ (by simp)).trans h
  have n2 : BoxN w1 (w.heap.size + 1 + 1) #[.int .i64 nw, .int .i64 kp, .slice none 0 0, .slice none 0 0] 30 := by
    have h := World.alloc_heap_new ((w.alloc (.cells #[.int .i64 nw, .int .i64 kp, .slice Ap rp.length cp, .slice Al ls.length cl] 66)).alloc (.cells #[.int .i64 0, .int .i64 0, .slice none 0 0, .slice none 0 0] 30)) (.cells #[.int .i64 nw, .int .i64 kp, .slice none 0 0, .slice none 0 0] 30)
    rw [World.size_alloc, World.size_alloc] at h
    rw [← hw1]; exact h
  have hz1 := Lib.hid (show w1.heap.size = w.heap.size + 3 from by rw [← hw1]; simp)
  have HW := Lib.hid hw1
  have N0 := Lib.hid n0
  have N1 := Lib.hid n1
  have N2 := Lib.hid n2
  clear hw1 n1 n2 n0
  go_enter Try.func42, Try.ntmps42
  go_wp2_with fail
  rw [HW.out]
  refine (hT.out _ ((HP.out.below B1.out).up B1.out.size)).mono ?_
  rintro e w2 ⟨v2, rfl, hown, hb2⟩
  have a2 := (hb2.block _ N0.out.lt).trans N0.out
  have r2 : BoxN w2 (w.heap.size + 1) #[.int .i64 0, .int .i64 0, .slice none 0 0, .slice none 0 0] 30 := (hb2.block _ N1.out.lt).trans N1.out
  have o2 : BoxN w2 (w.heap.size + 1 + 1) #[.int .i64 nw, .int .i64 kp, .slice none 0 0, .slice none 0 0] 30 := (hb2.block _ N2.out.lt).trans N2.out
  have A2 := Lib.hid (show BoxN w2 w.heap.size #[.int .i64 nw, .int .i64 kp, .slice Ap rp.length cp, .slice Al ls.length cl] 66 from a2)
  have x3 := A2.out.cell (i := 3) rfl
  have R2 := Lib.hid r2
  have d2 := o2.cell (i := 2) rfl
  have g2 := o2.frozen (i := 2)
  have HB2 := Lib.hid (B1.out.trans (hb2.mono B1.out.size))
  have hs2 : w.heap.size + 3 ≤ w2.heap.size := by have := hb2.size; rw [hz1.out] at this; exact this
  have HO2 := Lib.hid (show w2.ownsRow (w.heap.size + 3) 43 2 v2 rp.length (prs rp) from by rw [← hz1.out]; exact hown)
  obtain ⟨va, vn, vc, rfl⟩ := own_shape hown
  clear hown hb2 a2 r2
  obtain ⟨w3, hw3⟩ : ∃ w3, w2.setCell ⟨w.heap.size + 1 + 1, 2, none⟩ (.slice va vn vc) = w3 := ⟨_, rfl⟩
  have HB3 := Lib.hid (show Below w.heap.size w w3 from by rw [← hw3]; exact HB2.out.setCell (by simp; omega) _)
  have HO3 := Lib.hid (show w3.ownsRow (w.heap.size + 3) 43 2 (.slice va vn vc) rp.length (prs rp) from by rw [← hw3]; exact own_set_other HO2.out _ _ _ (by omega))
  have hs3 : w.heap.size + 3 ≤ w3.heap.size := by rw [← hw3]; simpa [World.setCell] using hs2
  have O3 := Lib.hid (show BoxN w3 (w.heap.size + 1 + 1) #[.int .i64 nw, .int .i64 kp, .slice va vn vc, .slice none 0 0] 30 from by
    rw [← hw3]
    have h := heap_setCell_same w2 (w.heap.size + 1 + 1) 2 _ _ (.slice va vn vc) o2
    exact h)
  have R3 := Lib.hid (show BoxN w3 (w.heap.size + 1) #[.int .i64 0, .int .i64 0, .slice none 0 0, .slice none 0 0] 30 from by
    rw [← hw3]; exact (Below.heap_setCell _ _ _ _ (by simp)).trans R2.out)
  have HW3 := Lib.hid hw3
  clear hw3
  go_wp2_with fail
  rw [HW3.out]
  refine (hS.out _ ((HL.out.below HB3.out).up HB3.out.size)).mono ?_
  rintro e w4 ⟨v4, rfl, hown4, hb4⟩
  obtain ⟨ua, un, uc, rfl⟩ := hown4.shape
  have r4 : BoxN w4 (w.heap.size + 1) #[.int .i64 0, .int .i64 0, .slice none 0 0, .slice none 0 0] 30 := (hb4.block _ R3.out.lt).trans R3.out
  have o4 : BoxN w4 (w.heap.size + 1 + 1) #[.int .i64 nw, .int .i64 kp, .slice va vn vc, .slice none 0 0] 30 := (hb4.block _ O3.out.lt).trans O3.out
  have HB4 := Lib.hid (HB3.out.trans (hb4.mono HB3.out.size))
  have HO4 := Lib.hid (u_own_below HO3.out hb4)
  have HL4 := Lib.hid (hown4.lift hs3)
  clear hown4 hb4
  have c0 := r4.cell (i := 0) rfl
  have f0 := r4.frozen (i := 0)
  have d0' := o4.cell (i := 0) rfl
  have g0' := o4.frozen (i := 0)
  have c1 := r4.cell (i := 1) rfl
  have f1 := r4.frozen (i := 1)
  have d1' := o4.cell (i := 1) rfl
  have g1' := o4.frozen (i := 1)
  have c2 := r4.cell (i := 2) rfl
  have f2 := r4.frozen (i := 2)
  have d2' := o4.cell (i := 2) rfl
  have g2' := o4.frozen (i := 2)
  have c3 := r4.cell (i := 3) rfl
  have f3 := r4.frozen (i := 3)
  have d3' := o4.cell (i := 3) rfl
  have g3' := o4.frozen (i := 3)
  clear d2 g2 x3
  go_wp2_with fail
  refine bodyPost_ret (v := .agg #[.int .i64 nw, .int .i64 kp, .slice va vn vc, .slice ua un uc]) (by simp [results, Try.results42, go_sem, c0, c1, c2, c3, d0', d1', d2', d3']) rfl ⟨_, _, rfl, ?_, ?_, ?_⟩
  · refine oi_lift (base := w.heap.size + 3) ?_ (by omega)
    repeat (first | with_reducible exact HO4.out | refine own_set_other ?_ _ _ _ (by omega))
  · refine LOwn.lift (base := w.heap.size + 3) ?_ (by omega)
    repeat (first | with_reducible exact HL4.out | refine LOwn.setOther ?_ _ _ _ (by omega))
  · repeat (first | with_reducible exact HB4.out | refine Below.setCell ?_ (by simp; try omega) _)
end Go.Proofs.Ytcjpedolmnahfaa
