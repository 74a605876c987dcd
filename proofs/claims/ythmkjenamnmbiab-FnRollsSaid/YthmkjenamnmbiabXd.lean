/- Walks: rolls of two ranges: plain facts. -/
import Derived.Test.YthmkjenamnmbiabXc
import Derived.Test.YthmkjenamnmbiabYs
import Derived.BigFrame
set_option linter.unusedVariables false
set_option linter.unusedSimpArgs false
namespace Go.Proofs.Ythmkjenamnmbiab
open Go.RowKit

theorem wp_append_row {P : Program} {w : World} {o : Oper} {a : Act} {K : Act → World → Prop} {Q : Exit → Act → World → Prop} (s x : Operand) (t : TypeId)
    (ho : o.op = .call { callee := .builtin .append, args := #[s, x], argTypes := #[t, t] })
    (base : Nat) (e : TypeId) (i : TypeInfo) (z : Value) (size bytes : Nat) (ht : P.underlying t = some (.slice e)) (hi : P.info? e = some i) (hz : i.zero = some z)
    (hsize : i.size = size) (hby : i.bytes = bytes) (hzs : z.cells.size = size) (hsz : 0 < size)
    (v : Value) (n : Nat) (xs : List Value) (hs : a.eval s = v) (hown : w.ownsRow base e size v n xs)
    (b2 : Nat) (u : Value) (m : Nat) (ys : List Value) (hx : a.eval x = u) (hu : w.ownsRow b2 e size u m ys) (h1 : ∀ q ∈ ys, q.oneCell' = true)
    (h63 : n + m ≤ maxLen) (hbytes : (n + m) * bytes ≤ 140737488355328) (hbase : base ≤ w.heap.size)
    (h : ∀ v' w', w'.ownsRow base e size v' (n + m) (xs ++ ys) → w.grownBy w' v.ownBlock → K (a.put o.dst v') w') : o.wp P a w K Q := by
  rcases hu.2 with ⟨rfl, h0⟩ | ⟨g, cap, cur, rfl, _⟩
  · subst h0
    have hy : ys = [] := List.eq_nil_of_length_eq_zero (by have := hu.1; omega)
    subst hy
    have hrun := run_append_owned_none (P := P) (w := w) base t o.type e i size ht hi v n xs hown
    unfold Oper.wp
    simp [execOp, ho, resolve, invoke, builtin, hs, hx, hrun, Result.andThen]
    exact h v w (by simpa using hown) (World.grownBy.refl _ _)
  · exact wp_append_own w s x t ho base e i z size bytes ht hi hz hsize hby hzs hsz v n xs hs hown ⟨g, 0, none⟩ m cap ys hx hu.1 (fun j q hq => hu.cells rfl j q hq) h1 h63 hbytes hbase (fun v' w' h2 h3 _ => h v' w' h2 h3)
theorem wpList_append_rowG {P : Program} {w : World} {ops : Array Oper} {rest : List Oper} {o : Oper} {a : Act} {Q : Exit → Act → World → Prop} (hw : Region.wanted o (yielded ops a.tmps) = true) (s x : Operand) (t : TypeId)
    (ho : o.op = .call { callee := .builtin .append, args := #[s, x], argTypes := #[t, t] })
    (base : Nat) (e : TypeId) (i : TypeInfo) (z : Value) (size bytes : Nat) (ht : P.underlying t = some (.slice e)) (hi : P.info? e = some i) (hz : i.zero = some z)
    (hsize : i.size = size) (hby : i.bytes = bytes) (hzs : z.cells.size = size) (hsz : 0 < size)
    (v : Value) (n : Nat) (xs : List Value) (hs : a.eval s = v) (hown : w.ownsRow base e size v n xs)
    (b2 : Nat) (u : Value) (m : Nat) (ys : List Value) (hx : a.eval x = u) (hu : w.ownsRow b2 e size u m ys) (h1 : ∀ q ∈ ys, q.oneCell' = true)
    (h63 : n + m ≤ maxLen) (hbytes : (n + m) * bytes ≤ 140737488355328) (hbase : base ≤ w.heap.size)
    (h : ∀ v' w', w'.ownsRow base e size v' (n + m) (xs ++ ys) → w.grownBy w' v.ownBlock → wpList P ops Q rest (a.put o.dst v') w') : wpList P ops Q (o :: rest) a w :=
  BigFrame.wpList_want hw fun K hK => wp_append_row s x t ho base e i z size bytes ht hi hz hsize hby hzs hsz v n xs hs hown b2 u m ys hx hu h1 h63 hbytes hbase fun v' w' h2 h3 => hK _ _ (h v' w' h2 h3)

theorem ptsOkB_of {l : List (Int × Int)} (hl : l.length ≤ 120) (hp : l.Pairwise (fun p q => p.1 < q.1)) (hm : ∀ p ∈ l, 0 ≤ p.1 ∧ p.1 < 1000000000001) : ptsOkB l = true := by
  unfold ptsOkB timesOkB
  rw [Bool.and_eq_true, decide_eq_true_iff, List.length_map]
  refine ⟨hl, ?_⟩
  unfold goodTo
  rw [List.all_eq_true]
  intro j hj
  have hj : j < l.length := by simpa using hj
  unfold goodAt
  rw [tsOf_getD, tsOf_getD]
  have h1 := hm l[j] (List.getElem_mem hj)
  have e1 : l.getD j (0, 0) = l[j] := by rw [List.getD_eq_getElem?_getD, List.getElem?_eq_getElem hj]; rfl
  rw [e1]
  simp only [Bool.and_eq_true, Bool.or_eq_true, decide_eq_true_eq]
  refine ⟨by omega, ?_⟩
  rcases Nat.eq_zero_or_pos j with e | e
  · exact .inl e
  · right
    have e2 : l.getD (j - 1) (0, 0) = l[j - 1] := by rw [List.getD_eq_getElem?_getD, List.getElem?_eq_getElem (by omega)]; rfl
    rw [e2]
    exact List.pairwise_iff_getElem.1 hp (j - 1) j (by omega) hj (by omega)
theorem ptsSmB_sub {l l' : List (Int × Int)} (h : ptsSmB l = true) (hs : l'.Sublist l) : ptsSmB l' = true := by
  unfold ptsSmB at h ⊢
  rw [Bool.and_eq_true] at h ⊢
  have hk := h.2
  have hlen := ptsOkB_len hk
  have hll := hs.length_le
  refine ⟨?_, ptsOkB_of (by omega) ((pts_pairwise hk).sublist hs) (fun p hp => pts_mem hk p (hs.subset hp))⟩
  rw [List.all_eq_true] at h ⊢
  exact fun p hp => h.1 p (hs.subset hp)
theorem ptsSmB_ok' {l : List (Int × Int)} (h : ptsSmB l = true) : ptsOkB l = true := by unfold ptsSmB at h; rw [Bool.and_eq_true] at h; exact h.2
theorem btwL_sub (l : List (Int × Int)) (f t : Int) : (btwL l f t).Sublist l := List.filter_sublist
theorem addS_pre (acc : List R6) {ys : List R6} (x : R6) (h : ¬ ys.length = 0) : addS (acc ++ ys) x = acc ++ addS ys x := by
  have hlast : lastR (acc ++ ys) = lastR ys := by
    unfold lastR
    rw [List.getD_eq_getElem?_getD, List.getD_eq_getElem?_getD, List.length_append, List.getElem?_append_right (by omega)]
    congr 2
    omega
  have hn : ¬ (acc ++ ys).length = 0 := by rw [List.length_append]; omega
  by_cases h2 : (lastR ys).1 = x.1
  · rw [addS_in hn (by rw [hlast]; exact h2), addS_in h h2, hlast, List.length_append]
    have e : acc.length + ys.length - 1 = acc.length + (ys.length - 1) := by omega
    rw [e, List.set_append, if_neg (by omega), Nat.add_sub_cancel_left]
  · rw [addS_app (.inr (by rw [hlast]; exact h2)), addS_app (.inr h2), List.append_assoc]
theorem fold_pre (acc : List R6) : ∀ (l : List R6) (ys : List R6), ¬ ys.length = 0 → l.foldl addS (acc ++ ys) = acc ++ l.foldl addS ys := by
  intro l
  induction l with
  | nil => intro ys _; rfl
  | cons x l ih =>
    intro ys h
    rw [List.foldl_cons, List.foldl_cons, addS_pre acc x h]
    exact ih _ (by have := addS_pos ys x; omega)
theorem rolls_two (la lb : List (Int × Int)) (W m : Int) (hW : 1 ≤ W) (hm : m % W = 0) (ha : ∀ p ∈ la, 0 ≤ p.1 ∧ p.1 < m) (hb : ∀ p ∈ lb, m ≤ p.1) : rollsL (la ++ lb) W = rollsL la W ++ rollsL lb W := by
  unfold rollsL
  rw [List.map_append, List.foldl_append]
  cases lb with
  | nil => simp
  | cons q lb =>
    have hq := hb q (by simp)
    have hqW : m ≤ q.1 / W * W := by
      have h1 := ediv_mono_mul (s := m) (t := q.1) hq hW
      have h2 := Int.emod_add_mul_ediv m W
      have h3 := Int.mul_comm W (m / W)
      omega
    rw [List.map_cons, List.foldl_cons, List.foldl_cons]
    have hacc : addS ((la.map (oneR W)).foldl addS []) (oneR W q) = (la.map (oneR W)).foldl addS [] ++ [oneR W q] := by
      rcases List.eq_nil_or_concat la with rfl | ⟨l', p, rfl⟩
      · exact addS_app (.inl rfl)
      · refine addS_app (.inr ?_)
        rw [List.concat_eq_append, List.map_append, List.foldl_append]
        show ¬ (lastR (addS _ (oneR W p))).1 = _
        rw [lastR_addS]
        have hp := ha p (by simp)
        have h4 := (div_small (W := W) hp.1 hW).2
        show ¬ p.1 / W * W = q.1 / W * W
        omega
    have hone : addS [] (oneR W q) = [oneR W q] := addS_app (.inl rfl)
    rw [hacc, hone, fold_pre _ _ _ (by simp)]
theorem rolls_pieces {xs : List (Int × Int)} {W m : Int} (hp : ptsSmB xs = true) (hW : 1 ≤ W) (hm : m % W = 0) : rollsL (btwL xs 0 m) W ++ rollsL (btwL xs m 1000000000001) W = rollsL xs W := by
  rw [← rolls_two _ _ W m hW hm ?_ ?_, btw_all (ptsSmB_ok' hp) m]
  · intro p hq
    have := (List.mem_filter.1 hq).2
    unfold inW at this
    rw [Bool.and_eq_true, decide_eq_true_iff, decide_eq_true_iff] at this
    exact this
  · intro p hq
    have := (List.mem_filter.1 hq).2
    unfold inW at this
    rw [Bool.and_eq_true, decide_eq_true_iff, decide_eq_true_iff] at this
    exact this.1
end Go.Proofs.Ythmkjenamnmbiab
