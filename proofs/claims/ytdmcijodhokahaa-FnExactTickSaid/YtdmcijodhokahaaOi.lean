/- Walks: cascades: copies of levels and cascades; equal ones. -/
import Derived.Test.YtdmcijodhokahaaOh
set_option linter.unusedVariables false
set_option linter.unusedSimpArgs false
namespace Go.Proofs.Ytdmcijodhokahaa
open Go.RowKit

/-- a level's three cells -/
abbrev LvC := Int × Int × Value
abbrev zLc : LvC := (0, 0, .slice none 0 0)
def lvs (es : List LvC) : List Value := es.flatMap (fun x => [.int .i64 x.1, .int .i64 x.2.1, x.2.2])
theorem lvs_cons (x : LvC) (es : List LvC) : lvs (x :: es) = .int .i64 x.1 :: .int .i64 x.2.1 :: x.2.2 :: lvs es := rfl
theorem lvs_length (es : List LvC) : (lvs es).length = es.length * 3 := by
  induction es with
  | nil => rfl
  | cons x es ih => rw [lvs_cons]; simp [ih]; omega
theorem lvs_get0 : ∀ (xs : List LvC) (j : Nat), j < xs.length → (lvs xs)[j * 3]? = some (.int .i64 (xs.getD j zLc).1)
  | p :: xs, 0, _ => rfl
  | p :: xs, j + 1, h => by rw [lvs_cons, show (j + 1) * 3 = j * 3 + 1 + 1 + 1 by omega, List.getElem?_cons_succ, List.getElem?_cons_succ, List.getElem?_cons_succ, lvs_get0 xs j (by simpa using h)]; rfl
theorem lvs_get1 : ∀ (xs : List LvC) (j : Nat), j < xs.length → (lvs xs)[j * 3 + 1]? = some (.int .i64 (xs.getD j zLc).2.1)
  | p :: xs, 0, _ => rfl
  | p :: xs, j + 1, h => by rw [lvs_cons, show (j + 1) * 3 + 1 = j * 3 + 1 + 1 + 1 + 1 by omega, List.getElem?_cons_succ, List.getElem?_cons_succ, List.getElem?_cons_succ, lvs_get1 xs j (by simpa using h)]; rfl
theorem lvs_get2 : ∀ (xs : List LvC) (j : Nat), j < xs.length → (lvs xs)[j * 3 + 2]? = some (xs.getD j zLc).2.2
  | p :: xs, 0, _ => rfl
  | p :: xs, j + 1, h => by rw [lvs_cons, show (j + 1) * 3 + 2 = j * 3 + 2 + 1 + 1 + 1 by omega, List.getElem?_cons_succ, List.getElem?_cons_succ, List.getElem?_cons_succ, lvs_get2 xs j (by simpa using h)]; rfl
theorem lvs_set : ∀ (xs : List LvC) (k : Nat) (a b : Int) (v : Value), k < xs.length → (((lvs xs).set (k * 3) (.int .i64 a)).set (k * 3 + 1) (.int .i64 b)).set (k * 3 + 2) v = lvs (xs.set k (a, b, v))
  | p :: xs, 0, a, b, v, _ => rfl
  | p :: xs, k + 1, a, b, v, h => by
    rw [lvs_cons, show (k + 1) * 3 = k * 3 + 1 + 1 + 1 by omega]
    simp only [List.set_cons_succ, List.set_cons_zero]
    rw [lvs_set xs k a b v (by simpa using h)]; rfl
theorem made_lvs (n : Nat) : (madeCells #[Value.int .i64 0, Value.int .i64 0, Value.slice none 0 0] (n * 3)).toList = lvs (List.replicate n zLc) := by
  have hl : (lvs (List.replicate n zLc)).length = n * 3 := by rw [lvs_length, List.length_replicate]
  apply List.ext_getElem?
  intro i
  by_cases hi : i < n * 3
  · have h3 : i % 3 = 0 ∨ i % 3 = 1 ∨ i % 3 = 2 := by omega
    have hq : i / 3 < (List.replicate n zLc).length := by rw [List.length_replicate]; omega
    have hg : ((List.replicate n zLc).getD (i / 3) zLc) = zLc := by
      rw [List.getD_eq_getElem?_getD, List.getElem?_eq_getElem hq]; simp
    rcases h3 with h | h | h
    · have e : i = i / 3 * 3 := by omega
      conv => rhs; rw [e, lvs_get0 _ _ hq, hg]
      simp [madeCells, hi, h]
    · have e : i = i / 3 * 3 + 1 := by omega
      conv => rhs; rw [e, lvs_get1 _ _ hq, hg]
      simp [madeCells, hi, h]
    · have e : i = i / 3 * 3 + 2 := by omega
      conv => rhs; rw [e, lvs_get2 _ _ hq, hg]
      simp [madeCells, hi, h]
  · rw [List.getElem?_eq_none (by simp [madeCells]; omega), List.getElem?_eq_none (by rw [hl]; omega)]
theorem info_lv : (Try.prog.info? 54).map (fun i => (i.zero, i.size, i.bytes)) = some (some (.agg #[.int .i64 0, .int .i64 0, .slice none 0 0]), 3, 40) := by kernel_rfl

theorem BoxN.frozen {W : World} {B i : Nat} {cs : Array Value} {t : TypeId} (h : BoxN W B cs t) : W.frozen? ⟨B, i, none⟩ = false := by
  have hh : W.heap[B]? = some (.cells cs t (0, 0)) := h
  simp [World.frozen?, hh]
theorem own_set_other {W : World} {base sz : Nat} {e : TypeId} {v : Value} {n : Nat} {xs : List Value} (h : W.ownsRow base e sz v n xs) (b i : Nat) (x : Value) (hb : b < base) : (W.setCell ⟨b, i, none⟩ x).ownsRow base e sz v n xs :=
  h.kept (grown_set (World.grownBy.refl W (some b)) i x) (by
    by_cases e : v.ownBlock = none
    · exact .inl e
    · right; intro he; have := (h.lt b he).1; omega)
theorem oi_lift {w : World} {base base' sz : Nat} {e : TypeId} {v : Value} {n : Nat} {xs : List Value} (h : w.ownsRow base e sz v n xs) (hb : base' ≤ base) : w.ownsRow base' e sz v n xs :=
  ⟨h.1, h.2.imp id fun ⟨g, cap, cur, a, b, c⟩ => ⟨g, cap, cur, a, Nat.le_trans hb b, c⟩⟩

set_option maxRecDepth 100000 in
set_option maxHeartbeats 1000000 in
theorem toLevel_any (W K : Int) (rv : Value) (rs : List R6) (w : World) (h : RL w w.heap.size rv rs) :
    Calls Try.prog 99 #[.agg #[.int .i64 W, .int .i64 K, rv]] w fun e w' => ∃ v, e = .returned (.agg #[.int .i64 W, .int .i64 K, v]) ∧ w'.ownsRow w.heap.size 56 6 v rs.length (rls rs) ∧ Below w.heap.size w w' := by
  have hT := Lib.hid (fun W h => toRollS_any rv rs W h)
  have HR := Lib.hid h
  obtain ⟨_, _, A, c, rfl, _⟩ := h
  obtain ⟨w1, hw1⟩ : ∃ w1, ((w.alloc (.cells #[.int .i64 W, .int .i64 K, .slice A rs.length c] 120)).alloc (.cells #[.int .i64 0, .int .i64 0, .slice none 0 0] 54)).alloc (.cells #[.int .i64 W, .int .i64 K, .slice none 0 0] 54) = w1 := ⟨_, rfl⟩
  have B1 := Lib.hid (show Below w.heap.size w w1 from by rw [← hw1]; exact (((Below.refl _ w).alloc (Nat.le_refl _) _).alloc (by simp) _).alloc (by simp; omega) _)
  have n1 : BoxN w1 (w.heap.size + 1) #[.int .i64 0, .int .i64 0, .slice none 0 0] 54 := by
    have h := World.alloc_heap_new (w.alloc (.cells #[.int .i64 W, .int .i64 K, .slice A rs.length c] 120)) (.cells #[.int .i64 0, .int .i64 0, .slice none 0 0] 54)
    rw [World.size_alloc] at h
    rw [← hw1]
    exact (Below.heap_alloc _ _ _ (by simp)).trans h
  have n2 : BoxN w1 (w.heap.size + 1 + 1) #[.int .i64 W, .int .i64 K, .slice none 0 0] 54 := by
    have h := World.alloc_heap_new ((w.alloc (.cells #[.int .i64 W, .int .i64 K, .slice A rs.length c] 120)).alloc (.cells #[.int .i64 0, .int .i64 0, .slice none 0 0] 54)) (.cells #[.int .i64 W, .int .i64 K, .slice none 0 0] 54)
    rw [World.size_alloc, World.size_alloc] at h
    rw [← hw1]; exact h
  have hz1 := Lib.hid (show w1.heap.size = w.heap.size + 3 from by rw [← hw1]; simp)
  have HW := Lib.hid hw1
  have N1 := Lib.hid n1
  have N2 := Lib.hid n2
  clear hw1 n1 n2
  go_enter Try.func99, Try.ntmps99
  go_wp2_with fail
  rw [HW.out]
  refine (hT.out _ ((HR.out.below B1.out).up B1.out.size)).mono ?_
  rintro e w2 ⟨v, rfl, hown, hb2⟩
  have r2 : BoxN w2 (w.heap.size + 1) #[.int .i64 0, .int .i64 0, .slice none 0 0] 54 := (hb2.block _ N1.out.lt).trans N1.out
  have o2 : BoxN w2 (w.heap.size + 1 + 1) #[.int .i64 W, .int .i64 K, .slice none 0 0] 54 := (hb2.block _ N2.out.lt).trans N2.out
  have HB := Lib.hid (B1.out.trans (hb2.mono B1.out.size))
  have HO := Lib.hid (show w2.ownsRow (w.heap.size + 3) 56 6 v rs.length (rls rs) from by rw [← hz1.out]; exact hown)
  clear hown hb2
  have c0 := r2.cell (i := 0) rfl
  have c1 := r2.cell (i := 1) rfl
  have c2 := r2.cell (i := 2) rfl
  have f0 := r2.frozen (i := 0)
  have f1 := r2.frozen (i := 1)
  have f2 := r2.frozen (i := 2)
  have d0 := o2.cell (i := 0) rfl
  have d1 := o2.cell (i := 1) rfl
  have d2 := o2.cell (i := 2) rfl
  have g0 := o2.frozen (i := 0)
  have g1 := o2.frozen (i := 1)
  have g2 := o2.frozen (i := 2)
  obtain ⟨va, vn, vc, rfl⟩ : ∃ a n c, v = .slice a n c := by
    rcases HO.out.2 with ⟨rfl, h0⟩ | ⟨gb, cap, cur, rfl, _⟩
    · exact ⟨_, _, _, rfl⟩
    · exact ⟨_, _, _, rfl⟩
  go_wp2_with fail
  refine bodyPost_ret (v := .agg #[.int .i64 W, .int .i64 K, .slice va vn vc]) (by simp [results, Try.results99, go_sem, c0, c1, c2, d0, d1, d2]) rfl ⟨_, rfl, ?_, ?_⟩
  · refine oi_lift (base := w.heap.size + 3) ?_ (by omega)
    repeat (first | exact HO.out | refine own_set_other ?_ _ _ _ (by omega))
  · repeat (first | exact HB.out | refine Below.setCell ?_ (by simp; try omega) _)
end Go.Proofs.Ytdmcijodhokahaa
