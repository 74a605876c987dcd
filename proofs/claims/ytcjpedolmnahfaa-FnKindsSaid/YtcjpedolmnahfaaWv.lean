/- Walks: the model's copy of a cascade. -/
import Derived.Deep.DeepCutAuto
import Derived.Deep.RegionHeld3
import Derived.Test.YtcjpedolmnahfaaWu
import Derived.Test.YtcjpedolmnahfaaVa
set_option linter.unusedVariables false
set_option linter.unusedSimpArgs false
namespace Go.Proofs.Ytcjpedolmnahfaa
open Go.RowKit

theorem p_base'' {w : World} {base base' sz : Nat} {e : TypeId} {v : Value} {n : Nat} {xs : List Value} (h : w.ownsRow base e sz v n xs) (hb : base' ≤ base) : w.ownsRow base' e sz v n xs :=
  ⟨h.1, h.2.imp id fun ⟨g, cap, cur, a, b, c⟩ => ⟨g, cap, cur, a, Nat.le_trans hb b, c⟩⟩
theorem three_cells' {w : World} {b : Nat} {x y z : Value} (h0 : w.cell? ⟨b, 0, none⟩ = some x) (h1 : w.cell? ⟨b, 1, none⟩ = some y) (h2 : w.cell? ⟨b, 2, none⟩ = some z) : ∀ (j : Nat) (u : Value), [x, y, z][j]? = some u → w.cell? ((⟨b, 0, none⟩ : Addr).add j) = some u := by
  intro j u hj
  match j with
  | 0 => simp at hj; subst hj; exact h0
  | 1 => simp at hj; subst hj; exact h1
  | 2 => simp at hj; subst hj; exact h2
  | j + 3 => simp at hj
/-- the first k levels, copied: their row, and each level's rolls, all apart -/
structure LB (W : World) (base : Nat) (v : Value) (ls : List Lv) (k : Nat) (es : List LvC) : Prop where
  len : es.length = k
  row : W.ownsRow base 51 3 v k (lvs es)
  lv : ∀ j, j < k → (es.getD j zLc).1 = (ls.getD j zLv).1 ∧ (es.getD j zLc).2.1 = (ls.getD j zLv).2.1 ∧ W.ownsRow base 48 6 (es.getD j zLc).2.2 (ls.getD j zLv).2.2.length (rls (ls.getD j zLv).2.2)
  dist : ∀ i j g, i < j → j < k → (es.getD i zLc).2.2.ownBlock = some g → ¬ (es.getD j zLc).2.2.ownBlock = some g
theorem lv_ne_rt : ¬ 48 = 51 := by decide
theorem LB.ld {W : World} {base : Nat} {v : Value} {ls : List Lv} {es : List LvC} (h : LB W base v ls ls.length es) : LD W base W.heap.size v ls es :=
  ⟨h.len, ORow.of_own h.row, fun j hj => ⟨(h.lv j hj).1, (h.lv j hj).2.1, ORow.of_own (h.lv j hj).2.2⟩, fun j g hj hg => own_type_ne (h.lv j hj).2.2 h.row lv_ne_rt (obk_own hg), fun i j g hij hj hi hj' => h.dist i j g hij hj (obk_own hi) (obk_own hj')⟩
theorem LB.below {W W' : World} {base : Nat} {v : Value} {ls : List Lv} {k : Nat} {es : List LvC} (h : LB W base v ls k es) (hb : Below W.heap.size W W') : LB W' base v ls k es :=
  ⟨h.len, u_own_below h.row hb, fun j hj => ⟨(h.lv j hj).1, (h.lv j hj).2.1, u_own_below (h.lv j hj).2.2 hb⟩, h.dist⟩
theorem LB.setOther {W : World} {base : Nat} {v : Value} {ls : List Lv} {k : Nat} {es : List LvC} (h : LB W base v ls k es) (b i : Nat) (x : Value) (hb : b < base) : LB (W.setCell ⟨b, i, none⟩ x) base v ls k es :=
  ⟨h.len, own_set_other h.row b i x hb, fun j hj => ⟨(h.lv j hj).1, (h.lv j hj).2.1, own_set_other (h.lv j hj).2.2 b i x hb⟩, h.dist⟩
theorem lvs_snoc (es : List LvC) (a b : Int) (v : Value) : lvs (es ++ [(a, b, v)]) = lvs es ++ [.int .i64 a, .int .i64 b, v] := by
  unfold lvs; rw [List.flatMap_append]; rfl
theorem getD_snoc_lt {es : List LvC} {x : LvC} {j : Nat} (h : j < es.length) : (es ++ [x]).getD j zLc = es.getD j zLc := by
  rw [List.getD_eq_getElem?_getD, List.getD_eq_getElem?_getD, List.getElem?_append_left h]
theorem getD_snoc_eq {es : List LvC} {x : LvC} {j : Nat} (h : j = es.length) : (es ++ [x]).getD j zLc = x := by
  subst h
  rw [List.getD_eq_getElem?_getD, List.getElem?_append_right (Nat.le_refl _)]; simp
/-- one more level: its rolls lie from lo on, which no row reached before -/
theorem LB.step {W0 W1 W2 : World} {base lo : Nat} {v v' r : Value} {ls : List Lv} {k : Nat} {es : List LvC} (h : LB W0 base v ls k es) (hb : Below W0.heap.size W0 W1) (hlo : W0.heap.size ≤ lo) (hbase : base ≤ lo)
    (hr : W1.ownsRow lo 48 6 r (ls.getD k zLv).2.2.length (rls (ls.getD k zLv).2.2)) (hg : W1.grownBy W2 v.ownBlock)
    (hrow : W2.ownsRow base 51 3 v' (k + 1) (lvs es ++ [.int .i64 (ls.getD k zLv).1, .int .i64 (ls.getD k zLv).2.1, r])) : LB W2 base v' ls (k + 1) (es ++ [((ls.getD k zLv).1, (ls.getD k zLv).2.1, r)]) := by
  have h1 := h.below hb
  have hlen := h.len
  refine ⟨by simp [hlen], by rw [lvs_snoc]; exact hrow, fun j hj => ?_, fun i j g hij hj hi hj' => ?_⟩
  · by_cases e : j = k
    · subst e
      rw [getD_snoc_eq hlen.symm]
      exact ⟨rfl, rfl, p_base'' (own_kept_type hr h1.row lv_ne_rt hg) hbase⟩
    · rw [getD_snoc_lt (by omega)]
      have hj2 := h1.lv j (by omega)
      exact ⟨hj2.1, hj2.2.1, own_kept_type hj2.2.2 h1.row lv_ne_rt hg⟩
  · rw [getD_snoc_lt (by omega)] at hi
    by_cases e : j = k
    · subst e
      rw [getD_snoc_eq hlen.symm] at hj'
      have q1 := ((h.lv i (by omega)).2.2.lt g hi).2
      have q2 := (hr.lt g hj').1
      omega
    · rw [getD_snoc_lt (by omega)] at hj'
      exact h.dist i j g hij (by omega) hi hj'

theorem prs_one2 (xs : List (Int × Int)) : ∀ u ∈ prs xs, u.oneCell' = true := by
  intro u hu
  unfold prs at hu
  obtain ⟨p, _, h2⟩ := List.mem_flatMap.1 hu
  simp at h2
  rcases h2 with rfl | rfl <;> rfl
/-- while the copy's literal is made: the argument's box, and what lies below B -/
def KC (w1 : World) (s B : Nat) (c0 c1 c2 : Value) (W : World) : Prop :=
  W.cell? ⟨s, 0, none⟩ = some c0 ∧ W.cell? ⟨s, 1, none⟩ = some c1 ∧ W.cell? ⟨s, 2, none⟩ = some c2 ∧ Below B w1 W ∧ B ≤ W.heap.size ∧ s < B
theorem KC.low {w1 W W' : World} {s B : Nat} {c0 c1 c2 : Value} (h : KC w1 s B c0 c1 c2 W) (hb : Below B W W') : KC w1 s B c0 c1 c2 W' :=
  ⟨(hb.cell (p := ⟨s, 0, none⟩) h.2.2.2.2.2).trans h.1, (hb.cell (p := ⟨s, 1, none⟩) h.2.2.2.2.2).trans h.2.1, (hb.cell (p := ⟨s, 2, none⟩) h.2.2.2.2.2).trans h.2.2.1, h.2.2.2.1.trans hb, Nat.le_trans h.2.2.2.2.1 hb.size, h.2.2.2.2.2⟩
theorem KC.bl {w1 W : World} {s B : Nat} {c0 c1 c2 : Value} (h : KC w1 s B c0 c1 c2 W) : Below B w1 W := h.2.2.2.1
theorem KC.of {w1 W : World} {s B : Nat} {c0 c1 c2 : Value} (h : KC w1 s B c0 c1 c2 W) : KC w1 s B c0 c1 c2 W ∧ W.cell? ⟨s, 0, none⟩ = some c0 ∧ W.cell? ⟨s, 1, none⟩ = some c1 ∧ W.cell? ⟨s, 2, none⟩ = some c2 := ⟨h, h.1, h.2.1, h.2.2.1⟩
theorem KC.alloc {w1 W : World} {s B : Nat} {c0 c1 c2 : Value} (h : KC w1 s B c0 c1 c2 W) (o : Obj) : KC w1 s B c0 c1 c2 (W.alloc o) := h.low ((Below.refl _ _).alloc h.2.2.2.2.1 _)
theorem KC.allocD {w1 W : World} {s B : Nat} {c0 c1 c2 : Value} (h : KC w1 s B c0 c1 c2 W.drew) (o : Obj) : KC w1 s B c0 c1 c2 (W.alloc o).drew := KC.low (W := W.drew) h (show Below B W.drew (W.alloc o).drew from ⟨rfl, rfl, rfl, by show W.heap.size ≤ (W.alloc o).heap.size; simp, fun k hk => Below.heap_alloc W o k (Nat.lt_of_lt_of_le hk h.2.2.2.2.1)⟩)
theorem KC.swap {w1 W : World} {s B : Nat} {c0 c1 c2 : Value} {o : Obj} (h : KC w1 s B c0 c1 c2 (W.alloc o)) (hB : B ≤ W.heap.size) (o' : Obj) : KC w1 s B c0 c1 c2 (W.alloc o') :=
  h.low ⟨rfl, rfl, rfl, by simp, fun k hk => (Below.heap_alloc _ _ _ (by omega)).trans (Below.heap_alloc _ _ _ (by omega)).symm⟩
theorem KC.grown {w1 W W' : World} {s B : Nat} {c0 c1 c2 : Value} {row : Option Nat} (h : KC w1 s B c0 c1 c2 W) (hg : W.grownBy W' row) (hr : ∀ k, row = some k → B ≤ k) : KC w1 s B c0 c1 c2 W' :=
  h.low ((Below.refl _ _).grown hg h.2.2.2.2.1 hr)

theorem own_ne_box {W : World} {b1 s1 n1 : Nat} {e1 t : TypeId} {v1 : Value} {xs1 : List Value} {ob : Nat} {cs : Array Value} (h1 : W.ownsRow b1 e1 s1 v1 n1 xs1) (h2 : BoxN W ob cs t) (hne : ¬ e1 = t) : ¬ v1.ownBlock = some ob := by
  intro hg
  have hh2 : W.heap[ob]? = some (.cells cs t (0, 0)) := h2
  rcases h1.2 with ⟨rfl, _⟩ | ⟨g1, c1, u1, rfl, _, hh1, _⟩
  · cases hg
  · injection hg with hg
    simp only at hg
    rw [hg, hh2] at hh1
    injection hh1 with hh1
    injection hh1 with _ h9 _
    exact hne h9.symm
theorem own_set_box {W : World} {b1 s1 n1 : Nat} {e1 t : TypeId} {v1 : Value} {xs1 : List Value} {ob : Nat} {cs : Array Value} (h1 : W.ownsRow b1 e1 s1 v1 n1 xs1) (h2 : BoxN W ob cs t) (hne : ¬ e1 = t) (i : Nat) (x : Value) : (W.setCell ⟨ob, i, none⟩ x).ownsRow b1 e1 s1 v1 n1 xs1 :=
  h1.kept (grown_set (World.grownBy.refl W (some ob)) i x) (.inr (own_ne_box h1 h2 hne))
theorem LB.setBox {W : World} {base : Nat} {v : Value} {ls : List Lv} {k : Nat} {es : List LvC} (h : LB W base v ls k es) {ob : Nat} {cs : Array Value} {t : TypeId} (h2 : BoxN W ob cs t) (h3 : ¬ 51 = t) (h4 : ¬ 48 = t) (i : Nat) (x : Value) : LB (W.setCell ⟨ob, i, none⟩ x) base v ls k es :=
  ⟨h.len, own_set_box h.row h2 h3 i x, fun j hj => ⟨(h.lv j hj).1, (h.lv j hj).2.1, own_set_box (h.lv j hj).2.2 h2 h4 i x⟩, h.dist⟩
theorem BoxN.kept {W W' : World} {ob : Nat} {cs : Array Value} {t : TypeId} (h : BoxN W ob cs t) {row : Option Nat} (hg : W.grownBy W' row) (hr : ¬ row = some ob) : BoxN W' ob cs t := (hg.block _ h.lt (fun e => hr e.symm)).trans h

theorem BoxN.set4 {W : World} {ob : Nat} {a0 a1 a2 a3 : Value} {t : TypeId} (h : BoxN W ob #[a0, a1, a2, a3] t) (b0 b1 b2 b3 : Value) : BoxN ((((W.setCell ⟨ob, 0, none⟩ b0).setCell ⟨ob, 1, none⟩ b1).setCell ⟨ob, 2, none⟩ b2).setCell ⟨ob, 3, none⟩ b3) ob #[b0, b1, b2, b3] t := by
  have h0 : BoxN (W.setCell ⟨ob, 0, none⟩ b0) ob #[b0, a1, a2, a3] t := heap_setCell_same W ob 0 _ _ b0 h
  have h1 : BoxN ((W.setCell ⟨ob, 0, none⟩ b0).setCell ⟨ob, 1, none⟩ b1) ob #[b0, b1, a2, a3] t := heap_setCell_same _ ob 1 _ _ b1 h0
  have h2 : BoxN (((W.setCell ⟨ob, 0, none⟩ b0).setCell ⟨ob, 1, none⟩ b1).setCell ⟨ob, 2, none⟩ b2) ob #[b0, b1, b2, a3] t := heap_setCell_same _ ob 2 _ _ b2 h1
  exact heap_setCell_same _ ob 3 _ _ b3 h2
theorem own_set4 {W : World} {b1 s1 n1 : Nat} {e1 t : TypeId} {v1 : Value} {xs1 : List Value} {ob : Nat} {a0 a1 a2 a3 : Value} (h1 : W.ownsRow b1 e1 s1 v1 n1 xs1) (h : BoxN W ob #[a0, a1, a2, a3] t) (hne : ¬ e1 = t) (c0 c1 c2 c3 : Value) : ((((W.setCell ⟨ob, 0, none⟩ c0).setCell ⟨ob, 1, none⟩ c1).setCell ⟨ob, 2, none⟩ c2).setCell ⟨ob, 3, none⟩ c3).ownsRow b1 e1 s1 v1 n1 xs1 := by
  have h0 : BoxN (W.setCell ⟨ob, 0, none⟩ c0) ob #[c0, a1, a2, a3] t := heap_setCell_same W ob 0 _ _ c0 h
  have h1' : BoxN ((W.setCell ⟨ob, 0, none⟩ c0).setCell ⟨ob, 1, none⟩ c1) ob #[c0, c1, a2, a3] t := heap_setCell_same _ ob 1 _ _ c1 h0
  have h2 : BoxN (((W.setCell ⟨ob, 0, none⟩ c0).setCell ⟨ob, 1, none⟩ c1).setCell ⟨ob, 2, none⟩ c2) ob #[c0, c1, c2, a3] t := heap_setCell_same _ ob 2 _ _ c2 h1'
  exact own_set_box (own_set_box (own_set_box (own_set_box h1 h hne 0 c0) h0 hne 1 c1) h1' hne 2 c2) h2 hne 3 c3
theorem pt_ne_ic : ¬ 43 = 30 := by decide
theorem lv_ne_ic : ¬ 51 = 30 := by decide
theorem rt_ne_ic : ¬ 48 = 30 := by decide
theorem pt_ne_lv : ¬ 43 = 51 := by decide
theorem pt_ne_rt : ¬ 43 = 48 := by decide

set_option maxRecDepth 100000 in
set_option maxHeartbeats 8000000 in
theorem l8Copy_any (v : Value) (c : Cs) (w : World) (h : CV w w.heap.size v c) (hl4 : c.2.2.2.length ≤ 1000) :
    Calls Try.prog 76 #[v] w (CPostD w.heap.size c w) := by
  obtain ⟨nw, kp, rp, ls⟩ := c
  obtain ⟨rv, lv, rfl, hP, hL, z1, z2⟩ := h
  clear z1 z2
  simp only at hP hL hl4 ⊢
  have HP := Lib.hid hP
  have HL := Lib.hid hL
  have HPS := Lib.hid (show ∀ q ∈ prs rp, q.oneCell' = true from prs_one2 rp)
  obtain ⟨z3, hpl, Ap, cp, rfl, z4⟩ := hP
  obtain ⟨z5, hll, Al, cl, rfl, z6⟩ := hL
  clear z3 z4 z5 z6
  obtain ⟨i0, hi, hz0, hz1, hz2⟩ := info_parts info_pt
  obtain ⟨w1, hw1⟩ : ∃ w1, (w.alloc (.cells #[.int .i64 nw, .int .i64 kp, .slice Ap rp.length cp, .slice Al ls.length cl] 30)).alloc (.cells #[.int .i64 0, .int .i64 0, .slice none 0 0, .slice none 0 0] 30) = w1 := ⟨_, rfl⟩
  have B1 := Lib.hid (show Below w.heap.size w w1 from by rw [← hw1]; exact ((Below.refl _ w).alloc (Nat.le_refl _) _).alloc (by simp) _)
  have X1 : Hid (BoxN w1 w.heap.size #[.int .i64 nw, .int .i64 kp, .slice Ap rp.length cp, .slice Al ls.length cl] 30) := Lib.hid (by
    have h := World.alloc_heap_new w (.cells #[.int .i64 nw, .int .i64 kp, .slice Ap rp.length cp, .slice Al ls.length cl] 30)
    rw [← hw1]
    exact (Below.heap_alloc _ _ _ (by simp)).trans h)
  have R1 : Hid (BoxN w1 (w.heap.size + 1) #[.int .i64 0, .int .i64 0, .slice none 0 0, .slice none 0 0] 30) := Lib.hid (by
    have h := World.alloc_heap_new (w.alloc (.cells #[.int .i64 nw, .int .i64 kp, .slice Ap rp.length cp, .slice Al ls.length cl] 30)) (.cells #[.int .i64 0, .int .i64 0, .slice none 0 0, .slice none 0 0] 30)
    rw [World.size_alloc] at h
    rw [← hw1]; exact h)
  have hsz1 : w.heap.size + 2 ≤ w1.heap.size := by rw [← hw1]; simp
  have HW1 := Lib.hid hw1
  clear hw1
  have x0 := X1.out.cell (i := 0) rfl
  have x1 := X1.out.cell (i := 1) rfl
  have x2 := X1.out.cell (i := 2) rfl
  have hS0 : KC w1 w.heap.size w1.heap.size (.int .i64 nw) (.int .i64 kp) (.slice Ap rp.length cp) w1.drew := ⟨x0, x1, x2, (Below.refl _ _).drew, Nat.le_refl _, by omega⟩
  have HS0 := Lib.hid hS0
  have HSr := Lib.hid (fun W (hb : Below w1.heap.size w1 W) => (show Src W (.slice Ap rp.length cp) rp.length (prs rp) from (HP.out.below (B1.out.trans (hb.mono (by omega)))).src))
  clear hS0
  have OBz2 : Hid (BoxN ((w1.alloc (.cells #[] 43)).alloc (.cells #[.int .i64 0, .int .i64 0, .slice none 0 0, .slice none 0 0] 30)) (w1.heap.size + 1) #[.int .i64 0, .int .i64 0, .slice none 0 0, .slice none 0 0] 30) := Lib.hid (by
    have h := World.alloc_heap_new (w1.alloc (.cells #[] 43)) (.cells #[.int .i64 0, .int .i64 0, .slice none 0 0, .slice none 0 0] 30)
    rw [World.size_alloc] at h
    exact h)
  have OBz3 : Hid (BoxN ((w1.alloc (.cells #[.int .i64 0, .int .i64 0, .slice none 0 0, .slice none 0 0] 30)).alloc (.cells #[] 43)) w1.heap.size #[.int .i64 0, .int .i64 0, .slice none 0 0, .slice none 0 0] 30) := Lib.hid ((Below.heap_alloc _ _ _ (by simp)).trans (World.alloc_heap_new w1 _))
  go_enter Try.func76, Try.ntmps76
  go_upto_region 1 with fail
  rw [HW1.out]
  go_cut [3] (fun cv wx => ∃ (ob : Nat) (pa : Option Addr) (pc : Nat), cv = .pointer (some ⟨ob, 0, none⟩) ∧ BoxN wx ob #[.int .i64 nw, .int .i64 kp, .slice pa rp.length pc, .slice none 0 0] 30 ∧ wx.ownsRow w1.heap.size 43 2 (.slice pa rp.length pc) rp.length (prs rp) ∧ Below w1.heap.size w1 wx ∧ w1.heap.size ≤ ob)
  case first =>
    go_region_held3 (fun W => KC w1 w.heap.size w1.heap.size (.int .i64 nw) (.int .i64 kp) (.slice Ap rp.length cp) W ∧ W.cell? ⟨w.heap.size, 0, none⟩ = some (.int .i64 nw) ∧ W.cell? ⟨w.heap.size, 1, none⟩ = some (.int .i64 kp) ∧ W.cell? ⟨w.heap.size, 2, none⟩ = some (.slice Ap rp.length cp))
      (first | with_reducible assumption | (with_reducible refine KC.of (KC.low (And.left (by assumption)) ?_); (refine Below.setCell (Below.setCell (Below.setCell (Below.setCell (Below.refl _ _) ?_ _) ?_ _) ?_ _) ?_ _); all_goals first | (simp; done) | (simp; omega)) | with_reducible exact KC.of HS0.out | with_reducible exact KC.of (KC.allocD (And.left (by assumption)) _) | with_reducible exact KC.of (KC.alloc (And.left (by assumption)) _) | with_reducible exact KC.of (KC.swap (And.left (by assumption)) (by assumption) _) | with_reducible exact KC.of (KC.grown (And.left (by assumption)) (by assumption) (fun k hk => by simp [Value.ownBlock] at hk; omega)))
      (first
        | (refine step_append_src _ rfl _ _ 27 rfl w1.heap.size 43 i0 (.agg #[.int .i64 0, .int .i64 0]) 2 16 Try.underlying27 hi hz0 hz1 hz2 rfl (by decide) (.slice (some ⟨w1.heap.size, 0, none⟩) 0 0) 0 [] rfl ((World.ownsRow_made w1 (base := w1.heap.size) (e := 43) (size := 2) #[] 0 (Nat.le_refl _) (by simp [maxLen]) rfl).drew) (.slice Ap rp.length cp) rp.length (prs rp) rfl (HSr.out _ (KC.bl (And.left (by assumption)))) (prs_length rp) HPS.out (by unfold maxLen; omega) (by omega) (by simp; try omega) ?_; intro v4 w4 hown4 hgrow4; rw [Nat.zero_add, List.nil_append] at hown4; obtain ⟨pa, pc, rfl⟩ := (ORow.of_own hown4).shape; have hz4 : w1.heap.size ≤ w4.heap.size := Nat.le_trans (by simp; try omega) hgrow4.size)
        | (refine step_append_src _ rfl _ _ 27 rfl w1.heap.size 43 i0 (.agg #[.int .i64 0, .int .i64 0]) 2 16 Try.underlying27 hi hz0 hz1 hz2 rfl (by decide) (.slice (some ⟨w1.heap.size, 0, none⟩) 0 0) 0 [] rfl (((World.ownsRow_made w1 (base := w1.heap.size) (e := 43) (size := 2) #[] 0 (Nat.le_refl _) (by simp [maxLen]) rfl).alloc _).drew) (.slice Ap rp.length cp) rp.length (prs rp) rfl (HSr.out _ (KC.bl (And.left (by assumption)))) (prs_length rp) HPS.out (by unfold maxLen; omega) (by omega) (by simp; try omega) ?_; intro v4 w4 hown4 hgrow4; rw [Nat.zero_add, List.nil_append] at hown4; obtain ⟨pa, pc, rfl⟩ := (ORow.of_own hown4).shape; have hz4 : w1.heap.size ≤ w4.heap.size := Nat.le_trans (by simp; try omega) hgrow4.size; have OB4 : BoxN w4 (w1.heap.size + 1) #[.int .i64 0, .int .i64 0, .slice none 0 0, .slice none 0 0] 30 := (hgrow4.block _ (by first | (simp; done) | (simp; omega)) (by simp [Value.ownBlock])).trans OBz2.out; have f0 := OB4.frozen (i := 0); have f1 := OB4.frozen (i := 1); have f2 := OB4.frozen (i := 2); have f3 := OB4.frozen (i := 3); have o0 := OB4.cell (i := 0) rfl; have o1 := OB4.cell (i := 1) rfl; have o2 := OB4.cell (i := 2) rfl; have o3 := OB4.cell (i := 3) rfl)
        | (refine step_append_src _ rfl _ _ 27 rfl w1.heap.size 43 i0 (.agg #[.int .i64 0, .int .i64 0]) 2 16 Try.underlying27 hi hz0 hz1 hz2 rfl (by decide) (.slice (some ⟨w1.heap.size + 1, 0, none⟩) 0 0) 0 [] rfl (by have hq := World.ownsRow_made (w1.alloc (.cells #[.int .i64 0, .int .i64 0, .slice none 0 0, .slice none 0 0] 30)) (base := w1.heap.size) (e := 43) (size := 2) #[] 0 (by simp) (by simp [maxLen]) rfl; rw [World.size_alloc] at hq; exact hq.drew) (.slice Ap rp.length cp) rp.length (prs rp) rfl (HSr.out _ (KC.bl (And.left (by assumption)))) (prs_length rp) HPS.out (by unfold maxLen; omega) (by omega) (by simp; try omega) ?_; intro v4 w4 hown4 hgrow4; rw [Nat.zero_add, List.nil_append] at hown4; obtain ⟨pa, pc, rfl⟩ := (ORow.of_own hown4).shape; have hz4 : w1.heap.size ≤ w4.heap.size := Nat.le_trans (by simp; try omega) hgrow4.size; have OB4 : BoxN w4 (w1.heap.size) #[.int .i64 0, .int .i64 0, .slice none 0 0, .slice none 0 0] 30 := (hgrow4.block _ (by first | (simp; done) | (simp; omega)) (by simp [Value.ownBlock])).trans OBz3.out; have f0 := OB4.frozen (i := 0); have f1 := OB4.frozen (i := 1); have f2 := OB4.frozen (i := 2); have f3 := OB4.frozen (i := 3); have o0 := OB4.cell (i := 0) rfl; have o1 := OB4.cell (i := 1) rfl; have o2 := OB4.cell (i := 2) rfl; have o3 := OB4.cell (i := 3) rfl))
    all_goals
      go_wp2_with fail
      go_meet
      case rel => first
        | exact ⟨_, pa, pc, rfl, World.alloc_heap_new w4 _, hown4.alloc _, KC.bl (And.left (by assumption)), hz4⟩
        | exact ⟨_, pa, pc, rfl, BoxN.set4 OB4 _ _ _ _, own_set4 hown4 OB4 pt_ne_ic _ _ _ _, KC.bl (And.left (by assumption)), by omega⟩
  case rest =>
    obtain ⟨ob, pa, pc, rfl, hob, hraw, hbc, hobl⟩ := hcut
    have HOB := Lib.hid hob
    have HRW := Lib.hid hraw
    have HBC := Lib.hid hbc
    have hobw := hob.lt
    have HL1 := Lib.hid (show LS w1 w.heap.size (.slice Al ls.length cl) ls from HL.out.below B1.out)
    obtain ⟨j0, hj, hy0, hy1, hy2⟩ := info_parts info_lv
    obtain ⟨k0, hk, hv0, hv1, hv2⟩ := info_parts info_rl
    clear hob hraw hbc HS0 HSr x0 x1 x2
    have HX := Lib.hid (fun W (hb : Below w1.heap.size w1 W) => (show BoxN W w.heap.size #[.int .i64 nw, .int .i64 kp, .slice Ap rp.length cp, .slice Al ls.length cl] 30 from (hb.block _ (by omega)).trans X1.out))
    go_wp2_with fail
    go_loopw [4] (fun i wr => ∃ (k : Nat) (A : Option Addr) (c : Nat) (es : List LvC), k ≤ ls.length ∧ i = .int .i64 (k : Int) ∧ Hid (BoxN wr ob #[.int .i64 nw, .int .i64 kp, .slice pa rp.length pc, .slice A k c] 30) ∧ Hid (LB wr w1.heap.size (.slice A k c) ls k es) ∧ Hid (wr.ownsRow w1.heap.size 43 2 (.slice pa rp.length pc) rp.length (prs rp)) ∧ Hid (Below w1.heap.size w1 wr))
      (fun i _ => ls.length - (intOf i).toNat)
    case atStart => exact ⟨0, none, 0, [], Nat.zero_le _, rfl, HOB, Lib.hid ⟨rfl, World.ownsRow_nil _ _ _ _, fun j hj => by omega, fun i j g hij hj => by omega⟩, HRW, HBC⟩
    case round =>
      obtain ⟨k, A, c, es, hk2, rfl, HO, HLB, HR, HB⟩ := hrel
      have hsz := HB.out.size
      have HXr := HX.out _ HB.out
      have x3 := HXr.cell (i := 3) rfl
      by_cases hlt : k < ls.length
      · have hltI : (k : Int) < (ls.length : Int) := by omega
        obtain ⟨_, _, A', c', hv, h3⟩ := HL1.out
        injection hv with e1 e2 e3
        subst e1 e3
        clear e2
        rcases h3 with h3 | ⟨bl, ol, rfl, hbl, hc⟩
        · subst h3; simp at hlt
        obtain ⟨l0, l1, r, l2, hr⟩ := hc k hlt
        have d0 := (HB.out.cell (p := ⟨bl, ol + k * 3, none⟩) (show bl < w1.heap.size by omega)).trans l0
        have d1 := (HB.out.cell (p := ⟨bl, ol + k * 3 + 1, none⟩) (show bl < w1.heap.size by omega)).trans l1
        have d2 := (HB.out.cell (p := ⟨bl, ol + k * 3 + 2, none⟩) (show bl < w1.heap.size by omega)).trans l2
        clear l0 l1 l2 hc
        have hr' := hr
        have hrl := hr.2.1
        obtain ⟨_, _, Ar, cr, rfl, _⟩ := hr
        have HRL := Lib.hid (fun W (hb : Below w1.heap.size w1 W) => (hr'.below (hb.mono (by omega))).src)
        obtain ⟨Wv, Kv, rs, hx⟩ : ∃ Wv Kv rs, ls.getD k zLv = (Wv, Kv, rs) := ⟨_, _, _, rfl⟩
        have HXX := Lib.hid hx
        rw [hx] at d0 d1 d2 hrl HRL
        simp only at d0 d1 d2 hrl HRL
        have HST := Lib.hid (fun (W1 W2 : World) (lo : Nat) (v' r : Value) (hb : Below wr.heap.size wr W1) (hlo : wr.heap.size ≤ lo) (hr : W1.ownsRow lo 48 6 r rs.length (rls rs)) (hg : W1.grownBy W2 (Value.ownBlock (.slice A k c))) (hrow : W2.ownsRow w1.heap.size 51 3 v' (k + 1) (lvs es ++ [.int .i64 Wv, .int .i64 Kv, r])) => (by
          have h := HLB.out.step hb hlo (by omega) (by rw [hx]; exact hr) hg (by rw [hx]; exact hrow)
          rw [hx] at h; exact h : LB W2 w1.heap.size v' ls (k + 1) (es ++ [(Wv, Kv, r)])))
        clear hx hr'
        obtain ⟨wx, hwx⟩ : ∃ wx, wr.alloc (.cells #[.int .i64 Wv, .int .i64 Kv, .slice Ar rs.length cr] 51) = wx := ⟨_, rfl⟩
        have BX : BoxN wx wr.heap.size #[.int .i64 Wv, .int .i64 Kv, .slice Ar rs.length cr] 51 := by rw [← hwx]; exact World.alloc_heap_new wr _
        have hszx : wr.heap.size < wx.heap.size := BX.lt
        have Dx := Lib.hid (show Below wr.heap.size wr wx from by rw [← hwx]; exact (Below.refl _ _).alloc (Nat.le_refl _) _)
        have BX2 : BoxN (wx.alloc (.cells #[] 48)) wr.heap.size #[.int .i64 Wv, .int .i64 Kv, .slice Ar rs.length cr] 51 := (Below.heap_alloc _ _ _ BX.lt).trans BX
        have b2 := BX2.cell (i := 2) rfl
        have OE := Lib.hid (World.ownsRow_made wx (base := wx.heap.size) (e := 48) (size := 6) #[] 0 (Nat.le_refl _) (by simp [maxLen]) rfl)
        have De := Lib.hid (show Below wr.heap.size wr (wx.alloc (.cells #[] 48)) from Dx.out.alloc (by omega) _)
        have HWX := Lib.hid hwx
        clear hwx
        go_upto_region 6 with fail
        rw [HWX.out]
        go_wp2_with (at_builtin; refine wpList_append_src rfl _ _ 44 rfl wx.heap.size 48 k0 (.agg #[.int .i64 0, .int .i64 0, .int .i64 0, .int .i64 0, .int .i64 0, .int .i64 0]) 6 48 Try.underlying44 hk hv0 hv1 hv2 rfl (by decide) (.slice (some ⟨wx.heap.size, 0, none⟩) 0 0) 0 [] rfl OE.out (.slice Ar rs.length cr) rs.length (rls rs) rfl (HRL.out _ (HB.out.trans (De.out.mono hsz))) (rls_length rs) (rls_one rs) ?c3 ?c4 ?c5 ?_)
        case c3 => unfold maxLen; omega
        case c4 => omega
        case c5 => simp
        intro v6 w6 hown6 hgrow6
        try rw [Nat.zero_add, List.nil_append] at hown6
        obtain ⟨ra, rc, rfl⟩ := (ORow.of_own hown6).shape
        have BX6 : BoxN w6 wr.heap.size #[.int .i64 Wv, .int .i64 Kv, .slice Ar rs.length cr] 51 := BX2.kept hgrow6 (by simp [Value.ownBlock]; omega)
        have D6 : Below wr.heap.size wr w6 := De.out.grown hgrow6 (by simp; omega) (fun k e => by simp [Value.ownBlock] at e; omega)
        have hobr := HO.out.lt
        have OB6 : BoxN w6 ob #[.int .i64 nw, .int .i64 kp, .slice pa rp.length pc, .slice A k c] 30 := (D6.block ob hobr).trans HO.out
        have g2 := BX6.frozen (i := 2)
        have b62 := BX6.cell (i := 2) rfl
        obtain ⟨W7, hW7⟩ : ∃ W7, w6.setCell ⟨wr.heap.size, 2, none⟩ (.slice ra rs.length rc) = W7 := ⟨_, rfl⟩
        have BX7 : BoxN W7 wr.heap.size #[.int .i64 Wv, .int .i64 Kv, .slice ra rs.length rc] 51 := by rw [← hW7]; exact heap_setCell_same w6 wr.heap.size 2 _ _ (.slice ra rs.length rc) BX6
        have OB7 : BoxN W7 ob #[.int .i64 nw, .int .i64 kp, .slice pa rp.length pc, .slice A k c] 30 := by rw [← hW7]; exact (Below.heap_setCell _ _ _ _ (by simp; omega)).trans OB6
        have own7 : W7.ownsRow wx.heap.size 48 6 (.slice ra rs.length rc) rs.length (rls rs) := by rw [← hW7]; exact own_set_box hown6 BX6 lv_ne_rt 2 _
        have D7 : Below wr.heap.size wr W7 := by rw [← hW7]; exact D6.setCell (p := ⟨wr.heap.size, 2, none⟩) (Nat.le_refl _) _
        have HW7 := Lib.hid hW7
        have x70 := BX7.cell (i := 0) rfl
        have x71 := BX7.cell (i := 1) rfl
        have x72 := BX7.cell (i := 2) rfl
        have o73 := OB7.cell (i := 3) rfl
        have s7 := D7.size
        have OB8 := Lib.hid (show BoxN (W7.alloc (.cells #[.int .i64 Wv, .int .i64 Kv, .slice ra rs.length rc] 51)) ob #[.int .i64 nw, .int .i64 kp, .slice pa rp.length pc, .slice A k c] 30 from (Below.heap_alloc _ _ _ OB7.lt).trans OB7)
        have own8 := Lib.hid (own7.alloc (.cells #[.int .i64 Wv, .int .i64 Kv, .slice ra rs.length rc] 51))
        have D8 := Lib.hid (show Below wr.heap.size wr (W7.alloc (.cells #[.int .i64 Wv, .int .i64 Kv, .slice ra rs.length rc] 51)) from D7.alloc s7 _)
        have OR8 := Lib.hid (u_own_below HLB.out.row D8.out)
        have RW8 := Lib.hid (u_own_below HR.out D8.out)
        have LS7 := Lib.hid hszx
        clear hgrow6 hown6 OB6 D6 hW7 BX2 b2 BX OB7 own7 D7 BX7
        go_upto_region 7 with fail
        rw [HW7.out]
        go_wp2_with (at_builtin; refine wpList_append_own _ rfl _ _ 28 rfl w1.heap.size 51 j0 (.agg #[.int .i64 0, .int .i64 0, .slice none 0 0]) 3 40 Try.underlying28 hj hy0 hy1 hy2 rfl (by decide) (.slice A k c) k (lvs es) rfl OR8.out ⟨W7.heap.size, 0, none⟩ 1 1 [.int .i64 Wv, .int .i64 Kv, .slice ra rs.length rc] rfl rfl (three_cells' (by go_simp) (by go_simp) (by go_simp)) ?c2 ?c3 ?c4 ?c5 ?_)
        case c2 => intro u hu; simp at hu; rcases hu with rfl | rfl | rfl <;> rfl
        case c3 => unfold maxLen; omega
        case c4 => omega
        case c5 => simp; omega
        intro v9 w9 hown9 hgrow9 _
        obtain ⟨A9, c9, rfl⟩ := (ORow.of_own hown9).shape
        have OB9 : BoxN w9 ob #[.int .i64 nw, .int .i64 kp, .slice pa rp.length pc, .slice A k c] 30 := OB8.out.kept hgrow9 (own_ne_box OR8.out OB8.out lv_ne_ic)
        have LB9 := HST.out _ w9 wx.heap.size (.slice A9 (k + 1) c9) (.slice ra rs.length rc) D8.out (by omega) own8.out hgrow9 hown9
        have RW9 := own_kept_type RW8.out OR8.out pt_ne_lv hgrow9
        have HB9 := Lib.hid ((HB.out.trans (D8.out.mono hsz)).grown hgrow9 (Nat.le_trans hsz D8.out.size) (fun j e => (OR8.out.lt j e).1))
        have o93 := OB9.cell (i := 3) rfl
        have f93 := OB9.frozen (i := 3)
        have HO10 := Lib.hid (show BoxN (w9.setCell ⟨ob, 3, none⟩ (.slice A9 (k + 1) c9)) ob #[.int .i64 nw, .int .i64 kp, .slice pa rp.length pc, .slice A9 (k + 1) c9] 30 from heap_setCell_same w9 ob 3 _ _ (.slice A9 (k + 1) c9) OB9)
        have LB10 := Lib.hid (LB9.setBox OB9 lv_ne_ic rt_ne_ic 3 (.slice A9 (k + 1) c9))
        have RW10 := Lib.hid (own_set_box RW9 OB9 pt_ne_ic 3 (.slice A9 (k + 1) c9))
        have HB10 := Lib.hid (HB9.out.setCell (p := ⟨ob, 3, none⟩) hobl (.slice A9 (k + 1) c9))
        clear OB9 LB9 RW9 HB9 hown9 hgrow9
        go_wp2_with fail
        go_roundw
        case rel => exact ⟨k + 1, A9, c9, _, by omega, by go_num, HO10, LB10, RW10, HB10⟩
        case measure => simp [intOf]; omega
      · obtain rfl : k = ls.length := by omega
        have HRr : BoxN wr (w.heap.size + 1) #[.int .i64 0, .int .i64 0, .slice none 0 0, .slice none 0 0] 30 := (HB.out.block _ (by omega)).trans R1.out
        have y0 := HO.out.cell (i := 0) rfl
        have y1 := HO.out.cell (i := 1) rfl
        have y2 := HO.out.cell (i := 2) rfl
        have y3 := HO.out.cell (i := 3) rfl
        have r0 := HRr.cell (i := 0) rfl
        have r1 := HRr.cell (i := 1) rfl
        have r2 := HRr.cell (i := 2) rfl
        have r3 := HRr.cell (i := 3) rfl
        have f0 := HRr.frozen (i := 0)
        have f1 := HRr.frozen (i := 1)
        have f2 := HRr.frozen (i := 2)
        have f3 := HRr.frozen (i := 3)
        have hne1 : ¬ ob = w.heap.size + 1 := by omega
        have hne2 : ¬ w.heap.size + 1 = ob := by omega
        have HCD := Lib.hid (show CD wr w1.heap.size wr.heap.size (nw, kp, rp, ls) (.slice pa rp.length pc) (.slice A ls.length c) es from
          ⟨ORow.of_own HR.out, HLB.out.ld, fun g hg hl => by
            rcases hl with hl | ⟨j, hj', hl⟩
            · exact own_type_ne HR.out HLB.out.row pt_ne_lv (obk_own hg) (obk_own hl)
            · exact own_type_ne HR.out (HLB.out.lv j hj').2.2 pt_ne_rt (obk_own hg) (obk_own hl)⟩)
        have HBf := Lib.hid (B1.out.trans (HB.out.mono (by omega)))
        have hszf : w.heap.size ≤ w1.heap.size := by omega
        clear HRr HXr
        go_wp2_with fail
        refine bodyPost_ret (v := .agg #[.int .i64 nw, .int .i64 kp, .slice pa rp.length pc, .slice A ls.length c]) (by simp [results, Try.results76, go_sem, r0, r1, r2, r3]) rfl ⟨.slice pa rp.length pc, .slice A ls.length c, es, rfl, (CD.at_ (W := wr) HCD.out (fun g hg => ?_)).lift hszf (by simp [World.setCell]), ?_⟩
        · have hlo := (HCD.out.lt hg).1
          repeat (first | with_reducible rfl | refine (Below.heap_setCell _ _ _ _ (by simp; omega)).trans ?_)
        · repeat (first | with_reducible exact HBf.out | refine Below.setCell ?_ (by simp; try omega) _)
end Go.Proofs.Ytcjpedolmnahfaa
