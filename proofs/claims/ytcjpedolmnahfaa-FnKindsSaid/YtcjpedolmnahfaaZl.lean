/- Walks: cascades: facts on rows of the call's own: the cascade's box, a point appended; advance over them. -/
import Derived.Test.YtcjpedolmnahfaaZi
import Derived.Test.YtcjpedolmnahfaaZg
import Derived.Test.YtcjpedolmnahfaaWw
set_option linter.unusedVariables false
set_option linter.unusedSimpArgs false
namespace Go.Proofs.Ytcjpedolmnahfaa
open Go.RowKit Go.Shelf

theorem CO.ne_box {W : World} {base : Nat} {c : Cs} {rv lv : Value} {es : List LvC} (h : CO W base c rv lv es) {cb : Nat} {cs : Array Value} (hB : BoxN W cb cs 30) : ∀ g, OBk c rv lv es g → ¬ g = cb := by
  rintro g hg rfl
  rcases hg with hg | hg | ⟨j, hj, hg⟩
  · exact own_ne_box h.raw hB pt_ne_ic hg
  · exact own_ne_box h.row hB lv_ne_ic hg
  · exact own_ne_box (h.own j hj) hB rt_ne_ic hg
theorem CO.obk {c : Cs} {rv lv : Value} {es : List LvC} {g : Nat} (h : CBk c rv lv es g) : OBk c rv lv es g := by
  rcases h with h | h | ⟨j, hj, h⟩
  · exact .inl (obk_own h)
  · exact .inr (.inl (obk_own h))
  · exact .inr (.inr ⟨j, hj, obk_own h⟩)
/-- a point is appended to the raw points: the other rows stand -/
theorem CO.setRaw {W W' : World} {base : Nat} {nw kp : Int} {rp rp' : List (Int × Int)} {ls : List Lv} {rv rv' lv : Value} {es : List LvC} (h : CO W base (nw, kp, rp, ls) rv lv es) (hr : W'.ownsRow base 43 2 rv' rp'.length (prs rp')) (hg : W.grownBy W' rv.ownBlock) : CO W' base (nw, kp, rp', ls) rv' lv es :=
  ⟨hr, h.len, own_kept_type h.row h.raw (by decide) hg, h.lv, fun j hj => own_kept_type (h.own j hj) h.raw (by decide) hg, h.dist⟩
/-- a store into a box of another type: the rows stand -/
theorem CO.setBox {W : World} {base : Nat} {c : Cs} {rv lv : Value} {es : List LvC} (h : CO W base c rv lv es) {cb : Nat} {cs : Array Value} (hB : BoxN W cb cs 30) (i : Nat) (u : Value) : CO (W.setCell ⟨cb, i, none⟩ u) base c rv lv es :=
  h.at_ (fun g hg => Below.heap_setCell _ _ _ g (h.ne_box hB g hg))
/-- advance, over rows of the call's own -/
theorem advance_co (cb base : Nat) (nw0 nw kp : Int) (pa A3 : Option Addr) (pc c3 : Nat) (rp : List (Int × Int)) (ls : List Lv) (es : List LvC) (w : World)
    (hC : BoxN w cb #[.int .i64 nw0, .int .i64 kp, .slice pa rp.length pc, .slice A3 ls.length c3] 30) (hD : CO w base (nw0, kp, rp, ls) (.slice pa rp.length pc) (.slice A3 ls.length c3) es) (hbw : base ≤ w.heap.size)
    (hn : 0 ≤ nw ∧ nw ≤ 1000000000000) (hk : 0 ≤ kp ∧ kp ≤ 1000000000) (hrl : rp.length ≤ 1048576) (hll : ls.length ≤ 1048576)
    (hlv : ∀ j, j < ls.length → (1 ≤ (ls.getD j zLv).1 ∧ (ls.getD j zLv).1 ≤ 1000000) ∧ (0 ≤ (ls.getD j zLv).2.1 ∧ (ls.getD j zLv).2.1 ≤ 1000000000) ∧ (ls.getD j zLv).2.2.length ≤ 1048576 ∧ ∀ r ∈ (ls.getD j zLv).2.2, 0 ≤ r.1 ∧ r.1 ≤ nw) :
    Calls Try.prog 73 #[.pointer (some ⟨cb, 0, none⟩), .int .i64 nw] w fun e w' => (∃ v, e = .returned v) ∧ w'.os = w.os ∧ w'.tape = w.tape ∧ w'.output = w.output ∧ w.heap.size ≤ w'.heap.size ∧ (∀ k, k < base → ¬ k = cb → w'.heap[k]? = w.heap[k]?) ∧
      ∃ rv' es', BoxN w' cb #[.int .i64 nw, .int .i64 kp, rv', .slice A3 ls.length c3] 30 ∧ CD w' base w.heap.size (dropC nw (nw0, kp, rp, ls)) rv' (.slice A3 ls.length c3) es' :=
  advance2_go cb base w.heap.size nw0 nw kp pa A3 pc c3 rp ls es w hC hD.cd (fun g hg => hD.ne_box hC g (CO.obk hg)) hC.lt hbw (Nat.le_refl _) hn hk hrl hll hlv
end Go.Proofs.Ytcjpedolmnahfaa

/- Walks: cascades: one level's rolls replaced, rows of the call's own. -/
set_option linter.unusedVariables false
set_option linter.unusedSimpArgs false
namespace Go.Proofs.Ytcjpedolmnahfaa
open Go.RowKit Go.Shelf

theorem own_kept_blk {W W' : World} {row : Option Nat} {b s n : Nat} {e : TypeId} {v : Value} {xs : List Value} (h : W.ownsRow b e s v n xs) (hg : W.grownBy W' row) (hne : ∀ g, v.ownBlock = some g → ¬ row = some g) : W'.ownsRow b e s v n xs :=
  own_same h (fun g hgg => hg.block g (h.lt g hgg).2 (fun e => hne g hgg e.symm))
theorem lvs_set1 {es : List LvC} {x : Nat} (r : Value) (hx : x < es.length) : (lvs es).set (x * 3 + 2) r = lvs (es.set x ((es.getD x zLc).1, (es.getD x zLc).2.1, r)) := by
  have h3 := lvs_set es x (es.getD x zLc).1 (es.getD x zLc).2.1 r hx
  rw [← h3]
  congr 1
  apply List.ext_getElem?
  intro i
  by_cases e0 : i = x * 3
  · subst e0
    rw [List.getElem?_set_ne (by omega), List.getElem?_set_self (by rw [lvs_length]; omega)]
    exact lvs_get0 _ _ (by omega)
  · by_cases e1 : i = x * 3 + 1
    · subst e1
      rw [List.getElem?_set_self (by rw [List.length_set, lvs_length]; omega)]
      exact lvs_get1 _ _ (by omega)
    · rw [List.getElem?_set_ne (by omega), List.getElem?_set_ne (by omega)]
theorem CO.setRolls {W W2 : World} {base gl c3 x : Nat} {nw kp : Int} {rp : List (Int × Int)} {ls : List Lv} {kept : List R6} {rv r' : Value} {es : List LvC} (h : CO W base (nw, kp, rp, ls) rv (.slice (some ⟨gl, 0, none⟩) ls.length c3) es) (hx : x < ls.length)
    (hor : W2.ownsRow base 48 6 r' kept.length (rls kept)) (hg : W.grownBy W2 (es.getD x zLc).2.2.ownBlock) (hat : r'.ownBlock = (es.getD x zLc).2.2.ownBlock ∨ ∃ g, r'.ownBlock = some g ∧ W.heap.size ≤ g) :
    CO (W2.setCell ⟨gl, x * 3 + 2, none⟩ r') base (nw, kp, rp, ls.set x ((ls.getD x zLv).1, (ls.getD x zLv).2.1, kept)) rv (.slice (some ⟨gl, 0, none⟩) ls.length c3) (es.set x ((es.getD x zLc).1, (es.getD x zLc).2.1, r')) := by
  have hlen : es.length = ls.length := h.len
  have hox := h.own x hx
  have hrow1 := own_kept_type h.row hox (by decide) hg
  have hset := hrow1.stored (x * 3 + 2) r'
  have hsame : ∀ j, ¬ j = x → (es.set x ((es.getD x zLc).1, (es.getD x zLc).2.1, r')).getD j zLc = es.getD j zLc := fun j e => by rw [getD_set_lv _ _ _ _ (by omega), if_neg e]
  have hatx : (es.set x ((es.getD x zLc).1, (es.getD x zLc).2.1, r')).getD x zLc = ((es.getD x zLc).1, (es.getD x zLc).2.1, r') := by rw [getD_set_lv _ _ _ _ (by omega), if_pos rfl]
  have lsame : ∀ j, ¬ j = x → (ls.set x ((ls.getD x zLv).1, (ls.getD x zLv).2.1, kept)).getD j zLv = ls.getD j zLv := fun j e => by rw [getD_set_lw _ _ _ _ hx, if_neg e]
  have latx : (ls.set x ((ls.getD x zLv).1, (ls.getD x zLv).2.1, kept)).getD x zLv = ((ls.getD x zLv).1, (ls.getD x zLv).2.1, kept) := by rw [getD_set_lw _ _ _ _ hx, if_pos rfl]
  rw [lvs_set1 r' (by omega)] at hset
  have hkeepR : ∀ {b s n : Nat} {u : Value} {xs : List Value}, W2.ownsRow b 48 s u n xs → (W2.setCell ⟨gl, x * 3 + 2, none⟩ r').ownsRow b 48 s u n xs := fun hu => own_kept_type hu hrow1 (by decide) hset.2
  have hold : ∀ j, j < ls.length → ¬ j = x → ∀ g, (es.getD j zLc).2.2.ownBlock = some g → ¬ r'.ownBlock = some g := fun j hj e g hgj hr => by
    rcases hat with ha | ⟨g', hg', hge⟩
    · rw [ha] at hr
      exact h.dist j x g hj hx e hgj hr
    · rw [hg'] at hr
      injection hr with hr
      have := ((h.own j hj).lt g hgj).2
      omega
  refine ⟨own_kept_type (own_kept_type h.raw hox (by decide) hg) hrow1 (by decide) hset.2, by simpa using hlen, ?_, fun j hj0 => ?_, fun j hj0 => ?_, fun i j g hi0 hj0 hne ei ej => ?_⟩
  · show (W2.setCell ⟨gl, x * 3 + 2, none⟩ r').ownsRow base _ 3 _ (ls.set x _).length _
    rw [List.length_set]
    exact hset.1
  · have hj : j < (ls.set x ((ls.getD x zLv).1, (ls.getD x zLv).2.1, kept)).length := hj0
    clear hj0
    rw [List.length_set] at hj
    show (List.getD (es.set x _) j zLc).1 = ((ls.set x _).getD j zLv).1 ∧ (List.getD (es.set x _) j zLc).2.1 = ((ls.set x _).getD j zLv).2.1
    by_cases e : j = x
    · subst e; rw [hatx, latx]; exact h.lv j hj
    · rw [hsame j e, lsame j e]; exact h.lv j hj
  · have hj : j < (ls.set x ((ls.getD x zLv).1, (ls.getD x zLv).2.1, kept)).length := hj0
    clear hj0
    rw [List.length_set] at hj
    show (W2.setCell ⟨gl, x * 3 + 2, none⟩ r').ownsRow base _ 6 (List.getD (es.set x _) j zLc).2.2 ((ls.set x _).getD j zLv).2.2.length (rls ((ls.set x _).getD j zLv).2.2)
    by_cases e : j = x
    · subst e; rw [hatx, latx]; exact hkeepR hor
    · rw [hsame j e, lsame j e]
      exact hkeepR (own_kept_blk (h.own j hj) hg (fun g hgj hr => h.dist j x g hj hx e hgj hr))
  · have hi : i < (ls.set x ((ls.getD x zLv).1, (ls.getD x zLv).2.1, kept)).length := hi0
    clear hi0
    have hj : j < (ls.set x ((ls.getD x zLv).1, (ls.getD x zLv).2.1, kept)).length := hj0
    clear hj0
    rw [List.length_set] at hi hj
    by_cases e : i = x
    · subst e
      rw [hatx] at ei
      rw [hsame j (fun e => hne e.symm)] at ej
      exact hold j hj (fun e => hne e.symm) g ej ei
    · rw [hsame i e] at ei
      by_cases e2 : j = x
      · subst e2
        rw [hatx] at ej
        exact hold i hi e g ei ej
      · rw [hsame j e2] at ej
        exact h.dist i j g hi hj hne ei ej
end Go.Proofs.Ytcjpedolmnahfaa
