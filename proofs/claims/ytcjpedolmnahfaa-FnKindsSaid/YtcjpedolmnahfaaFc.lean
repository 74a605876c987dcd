/- Walks: the law FnBetween. -/
import Derived.Test.YtcjpedolmnahfaaXb
import Derived.Test.YtcjpedolmnahfaaYs
import Derived.BigFrame
import Derived.Test.YtcjpedolmnahfaaYu
import Derived.Test.YtcjpedolmnahfaaPx
set_option linter.unusedVariables false
set_option linter.unusedSimpArgs false
namespace Go.Proofs.Ytcjpedolmnahfaa
open Go.RowKit

theorem pts_lt {xs : List (Int × Int)} (h : ptsOkB xs = true) : ∀ (d i : Nat), i + d + 1 < xs.length → (xs.getD i (0, 0)).1 < (xs.getD (i + d + 1) (0, 0)).1 := by
  intro d
  induction d with
  | zero =>
    intro i hi
    have := (ptsOkB_at h (j := i + 1) (by omega)).2
    rcases this with e | e
    · omega
    · simpa using e
  | succ d ih =>
    intro i hi
    have h1 := ih i (by omega)
    have h2 := (ptsOkB_at h (j := i + (d + 1) + 1) hi).2
    rcases h2 with e | e
    · omega
    · have e2 : i + (d + 1) + 1 - 1 = i + d + 1 := by omega
      rw [e2] at e
      omega
theorem pts_pairwise {xs : List (Int × Int)} (h : ptsOkB xs = true) : xs.Pairwise (fun p q => p.1 < q.1) := by
  rw [List.pairwise_iff_getElem]
  intro i j hi hj hij
  have := pts_lt h (j - i - 1) i (by omega)
  have e : i + (j - i - 1) + 1 = j := by omega
  rw [e, List.getD_eq_getElem?_getD, List.getElem?_eq_getElem hi, List.getD_eq_getElem?_getD, List.getElem?_eq_getElem hj] at this
  exact this
theorem btw_split (m M : Int) : ∀ (xs : List (Int × Int)), xs.Pairwise (fun p q => p.1 < q.1) → (∀ p ∈ xs, 0 ≤ p.1 ∧ p.1 < M) → btwL xs 0 m ++ btwL xs m M = xs := by
  intro xs
  induction xs with
  | nil => intro _ _; rfl
  | cons p xs ih =>
    intro hp hr
    have h1 := ih (List.pairwise_cons.1 hp).2 (fun q hq => hr q (by simp [hq]))
    have h2 := hr p (by simp)
    by_cases hm : p.1 < m
    · have a1 : inW 0 m p = true := by unfold inW; rw [decide_eq_true h2.1, decide_eq_true hm]; rfl
      have a2 : inW m M p = false := by unfold inW; rw [decide_eq_false (by omega)]; rfl
      unfold btwL at h1 ⊢
      rw [List.filter_cons_of_pos a1, List.filter_cons_of_neg (by rw [a2]; simp), List.cons_append, h1]
    · have a1 : inW 0 m p = false := by unfold inW; rw [decide_eq_false hm, Bool.and_false]
      have a2 : inW m M p = true := by unfold inW; rw [decide_eq_true (by omega), decide_eq_true h2.2]; rfl
      have a3 : xs.filter (inW 0 m) = [] := by
        rw [List.filter_eq_nil_iff]
        intro q hq
        have := (List.pairwise_cons.1 hp).1 q hq
        unfold inW
        rw [decide_eq_false (show ¬ q.1 < m by omega), Bool.and_false]; simp
      unfold btwL at h1 ⊢
      rw [List.filter_cons_of_neg (by rw [a1]; simp), List.filter_cons_of_pos a2, a3, List.nil_append]
      rw [a3, List.nil_append] at h1
      rw [h1]
theorem pts_mem {xs : List (Int × Int)} (h : ptsOkB xs = true) : ∀ p ∈ xs, 0 ≤ p.1 ∧ p.1 < 1000000000001 := by
  intro p hp
  obtain ⟨i, hi, rfl⟩ := List.getElem_of_mem hp
  have := (ptsOkB_at h hi).1
  rw [List.getD_eq_getElem?_getD, List.getElem?_eq_getElem hi] at this
  simp only [Option.getD_some] at this
  omega
theorem btw_all {xs : List (Int × Int)} (h : ptsOkB xs = true) (m : Int) : btwL xs 0 m ++ btwL xs m 1000000000001 = xs := btw_split m _ xs (pts_pairwise h) (pts_mem h)
theorem btw_at {xs : List (Int × Int)} {k : Nat} (f t : Int) (hk : k < xs.length) (h : inW f t (xs.getD k (0, 0)) = true) :
    (btwL (xs.take k) f t).length < (btwL xs f t).length ∧ (btwL xs f t).getD (btwL (xs.take k) f t).length (0, 0) = xs.getD k (0, 0) := by
  have h1 := btwL_succ f t hk
  rw [if_pos h] at h1
  have h2 : btwL xs f t = btwL (xs.take (k + 1)) f t ++ btwL (xs.drop (k + 1)) f t := by
    unfold btwL
    rw [← List.filter_append, List.take_append_drop]
  rw [h2, h1]
  constructor
  · simp
  · rw [List.getD_eq_getElem?_getD, List.append_assoc, List.getElem?_append_right (Nat.le_refl _)]
    simp
theorem drewN_cell (w : World) (n : Nat) (a : Addr) : (w.drewN n).cell? a = w.cell? a := rfl

end Go.Proofs.Ytcjpedolmnahfaa

/- Walks: rolls of two ranges: plain facts. -/
set_option linter.unusedVariables false
set_option linter.unusedSimpArgs false
namespace Go.Proofs.Ytcjpedolmnahfaa
open Go.RowKit

theorem wp_append_row {P : Program} {w : World} {o : Oper} {a : Act} {K : Act → World → Prop} {Q : Exit → Act → World → Prop} (s x : Operand) (t : TypeId)
    (ho : o.op = .call { callee := .builtin .append, args := #[s, x], argTypes := #[t, t] })
    (base : Nat) (e : TypeId) (i : TypeInfo) (z : Value) (size bytes : Nat) (ht : P.underlying t = some (.slice e)) (hi : P.info? e = some i) (hz : i.zero = some z)
    (hsize : i.size = size) (hby : i.bytes = bytes) (hzs : z.cells.size = size) (hsz : 0 < size)
    (v : Value) (n : Nat) (xs : List Value) (hs : a.eval s = v) (hown : w.ownsRow base e size v n xs)
    (b2 : Nat) (u : Value) (m : Nat) (ys : List Value) (hx : a.eval x = u) (hu : w.ownsRow b2 e size u m ys) (h1 : ∀ q ∈ ys, q.oneCell' = true)
    (h63 : n + m ≤ maxLen) (hbytes : (n + m) * bytes ≤ 140737488355328) (hbase : base ≤ w.heap.size)
    (h : ∀ v' w', w'.ownsRow base e size v' (n + m) (xs ++ ys) → w.grownBy w' v.ownBlock → K (a.put o.dst v') w') : o.wp P a w K Q := by
  rcases hu.2 with ⟨rfl, h0⟩ | ⟨g, cap, cur, rfl, _⟩
  · subst h0
    have hy : ys = [] := List.eq_nil_of_length_eq_zero (by have := hu.1; omega)
    subst hy
    have hrun := run_append_owned_none (P := P) (w := w) base t o.type e i size ht hi v n xs hown
    unfold Oper.wp
    simp [execOp, ho, resolve, invoke, builtin, hs, hx, hrun, Result.andThen]
    exact h v w (by simpa using hown) (World.grownBy.refl _ _)
  · exact wp_append_own w s x t ho base e i z size bytes ht hi hz hsize hby hzs hsz v n xs hs hown ⟨g, 0, none⟩ m cap ys hx hu.1 (fun j q hq => hu.cells rfl j q hq) h1 h63 hbytes hbase (fun v' w' h2 h3 _ => h v' w' h2 h3)
theorem wpList_append_rowG {P : Program} {w : World} {ops : Array Oper} {rest : List Oper} {o : Oper} {a : Act} {Q : Exit → Act → World → Prop} (hw : Region.wanted o (yielded ops a.tmps) = true) (s x : Operand) (t : TypeId)
    (ho : o.op = .call { callee := .builtin .append, args := #[s, x], argTypes := #[t, t] })
    (base : Nat) (e : TypeId) (i : TypeInfo) (z : Value) (size bytes : Nat) (ht : P.underlying t = some (.slice e)) (hi : P.info? e = some i) (hz : i.zero = some z)
    (hsize : i.size = size) (hby : i.bytes = bytes) (hzs : z.cells.size = size) (hsz : 0 < size)
    (v : Value) (n : Nat) (xs : List Value) (hs : a.eval s = v) (hown : w.ownsRow base e size v n xs)
    (b2 : Nat) (u : Value) (m : Nat) (ys : List Value) (hx : a.eval x = u) (hu : w.ownsRow b2 e size u m ys) (h1 : ∀ q ∈ ys, q.oneCell' = true)
    (h63 : n + m ≤ maxLen) (hbytes : (n + m) * bytes ≤ 140737488355328) (hbase : base ≤ w.heap.size)
    (h : ∀ v' w', w'.ownsRow base e size v' (n + m) (xs ++ ys) → w.grownBy w' v.ownBlock → wpList P ops Q rest (a.put o.dst v') w') : wpList P ops Q (o :: rest) a w :=
  BigFrame.wpList_want hw fun K hK => wp_append_row s x t ho base e i z size bytes ht hi hz hsize hby hzs hsz v n xs hs hown b2 u m ys hx hu h1 h63 hbytes hbase fun v' w' h2 h3 => hK _ _ (h v' w' h2 h3)

theorem ptsOkB_of {l : List (Int × Int)} (hl : l.length ≤ 120) (hp : l.Pairwise (fun p q => p.1 < q.1)) (hm : ∀ p ∈ l, 0 ≤ p.1 ∧ p.1 < 1000000000001) : ptsOkB l = true := by
  unfold ptsOkB timesOkB
  rw [Bool.and_eq_true, decide_eq_true_iff, List.length_map]
  refine ⟨hl, ?_⟩
  unfold goodTo
  rw [List.all_eq_true]
  intro j hj
  have hj : j < l.length := by simpa using hj
  unfold goodAt
  rw [tsOf_getD, tsOf_getD]
  have h1 := hm l[j] (List.getElem_mem hj)
  have e1 : l.getD j (0, 0) = l[j] := by rw [List.getD_eq_getElem?_getD, List.getElem?_eq_getElem hj]; rfl
  rw [e1]
  simp only [Bool.and_eq_true, Bool.or_eq_true, decide_eq_true_eq]
  refine ⟨by omega, ?_⟩
  rcases Nat.eq_zero_or_pos j with e | e
  · exact .inl e
  · right
    have e2 : l.getD (j - 1) (0, 0) = l[j - 1] := by rw [List.getD_eq_getElem?_getD, List.getElem?_eq_getElem (by omega)]; rfl
    rw [e2]
    exact List.pairwise_iff_getElem.1 hp (j - 1) j (by omega) hj (by omega)
theorem ptsSmB_sub {l l' : List (Int × Int)} (h : ptsSmB l = true) (hs : l'.Sublist l) : ptsSmB l' = true := by
  unfold ptsSmB at h ⊢
  rw [Bool.and_eq_true] at h ⊢
  have hk := h.2
  have hlen := ptsOkB_len hk
  have hll := hs.length_le
  refine ⟨?_, ptsOkB_of (by omega) ((pts_pairwise hk).sublist hs) (fun p hp => pts_mem hk p (hs.subset hp))⟩
  rw [List.all_eq_true] at h ⊢
  exact fun p hp => h.1 p (hs.subset hp)
theorem ptsSmB_ok' {l : List (Int × Int)} (h : ptsSmB l = true) : ptsOkB l = true := by unfold ptsSmB at h; rw [Bool.and_eq_true] at h; exact h.2
theorem btwL_sub (l : List (Int × Int)) (f t : Int) : (btwL l f t).Sublist l := List.filter_sublist
theorem addS_pre (acc : List R6) {ys : List R6} (x : R6) (h : ¬ ys.length = 0) : addS (acc ++ ys) x = acc ++ addS ys x := by
  have hlast : lastR (acc ++ ys) = lastR ys := by
    unfold lastR
    rw [List.getD_eq_getElem?_getD, List.getD_eq_getElem?_getD, List.length_append, List.getElem?_append_right (by omega)]
    congr 2
    omega
  have hn : ¬ (acc ++ ys).length = 0 := by rw [List.length_append]; omega
  by_cases h2 : (lastR ys).1 = x.1
  · rw [addS_in hn (by rw [hlast]; exact h2), addS_in h h2, hlast, List.length_append]
    have e : acc.length + ys.length - 1 = acc.length + (ys.length - 1) := by omega
    rw [e, List.set_append, if_neg (by omega), Nat.add_sub_cancel_left]
  · rw [addS_app (.inr (by rw [hlast]; exact h2)), addS_app (.inr h2), List.append_assoc]
theorem fold_pre (acc : List R6) : ∀ (l : List R6) (ys : List R6), ¬ ys.length = 0 → l.foldl addS (acc ++ ys) = acc ++ l.foldl addS ys := by
  intro l
  induction l with
  | nil => intro ys _; rfl
  | cons x l ih =>
    intro ys h
    rw [List.foldl_cons, List.foldl_cons, addS_pre acc x h]
    exact ih _ (by have := addS_pos ys x; omega)
theorem rolls_two (la lb : List (Int × Int)) (W m : Int) (hW : 1 ≤ W) (hm : m % W = 0) (ha : ∀ p ∈ la, 0 ≤ p.1 ∧ p.1 < m) (hb : ∀ p ∈ lb, m ≤ p.1) : rollsL (la ++ lb) W = rollsL la W ++ rollsL lb W := by
  unfold rollsL
  rw [List.map_append, List.foldl_append]
  cases lb with
  | nil => simp
  | cons q lb =>
    have hq := hb q (by simp)
    have hqW : m ≤ q.1 / W * W := by
      have h1 := ediv_mono_mul (s := m) (t := q.1) hq hW
      have h2 := Int.emod_add_mul_ediv m W
      have h3 := Int.mul_comm W (m / W)
      omega
    rw [List.map_cons, List.foldl_cons, List.foldl_cons]
    have hacc : addS ((la.map (oneR W)).foldl addS []) (oneR W q) = (la.map (oneR W)).foldl addS [] ++ [oneR W q] := by
      rcases List.eq_nil_or_concat la with rfl | ⟨l', p, rfl⟩
      · exact addS_app (.inl rfl)
      · refine addS_app (.inr ?_)
        rw [List.concat_eq_append, List.map_append, List.foldl_append]
        show ¬ (lastR (addS _ (oneR W p))).1 = _
        rw [lastR_addS]
        have hp := ha p (by simp)
        have h4 := (div_small (W := W) hp.1 hW).2
        show ¬ p.1 / W * W = q.1 / W * W
        omega
    have hone : addS [] (oneR W q) = [oneR W q] := addS_app (.inl rfl)
    rw [hacc, hone, fold_pre _ _ _ (by simp)]
theorem rolls_pieces {xs : List (Int × Int)} {W m : Int} (hp : ptsSmB xs = true) (hW : 1 ≤ W) (hm : m % W = 0) : rollsL (btwL xs 0 m) W ++ rollsL (btwL xs m 1000000000001) W = rollsL xs W := by
  rw [← rolls_two _ _ W m hW hm ?_ ?_, btw_all (ptsSmB_ok' hp) m]
  · intro p hq
    have := (List.mem_filter.1 hq).2
    unfold inW at this
    rw [Bool.and_eq_true, decide_eq_true_iff, decide_eq_true_iff] at this
    exact this
  · intro p hq
    have := (List.mem_filter.1 hq).2
    unfold inW at this
    rw [Bool.and_eq_true, decide_eq_true_iff, decide_eq_true_iff] at this
    exact this.1
end Go.Proofs.Ytcjpedolmnahfaa

/- Walks: what rolls contain: plain facts. -/
set_option linter.unusedVariables false
set_option linter.unusedSimpArgs false
namespace Go.Proofs.Ytcjpedolmnahfaa
open Go.RowKit

def sumP (p : List (Int × Int)) : Int := p.foldl (fun s q => s + q.2) 0
def minP (p : List (Int × Int)) : Int := p.foldl (fun s q => min s q.2) (p.getD 0 (0, 0)).2
def maxP (p : List (Int × Int)) : Int := p.foldl (fun s q => max s q.2) (p.getD 0 (0, 0)).2
def lasP (p : List (Int × Int)) : Int := (p.getD (p.length - 1) (0, 0)).2
def rlOf (T : Int) (p : List (Int × Int)) : R6 := (T, (p.length : Int), sumP p, minP p, maxP p, lasP p)
theorem sumP_snoc (p : List (Int × Int)) (x : Int × Int) : sumP (p ++ [x]) = sumP p + x.2 := by simp [sumP]
theorem head_snoc (p : List (Int × Int)) (x : Int × Int) (h : p ≠ []) : (p ++ [x]).getD 0 (0, 0) = p.getD 0 (0, 0) := by
  cases p with
  | nil => exact absurd rfl h
  | cons a p => rfl
theorem minP_snoc (p : List (Int × Int)) (x : Int × Int) (h : p ≠ []) : minP (p ++ [x]) = min (minP p) x.2 := by
  unfold minP; rw [head_snoc p x h, List.foldl_append]; rfl
theorem maxP_snoc (p : List (Int × Int)) (x : Int × Int) (h : p ≠ []) : maxP (p ++ [x]) = max (maxP p) x.2 := by
  unfold maxP; rw [head_snoc p x h, List.foldl_append]; rfl
theorem lasP_snoc (p : List (Int × Int)) (x : Int × Int) : lasP (p ++ [x]) = x.2 := by
  unfold lasP; rw [List.getD_eq_getElem?_getD]; simp
/-- bounds of what a list of small values adds up to -/
theorem bnd_P : ∀ (n : Nat) (p : List (Int × Int)), p.length = n → 0 < n → (∀ q ∈ p, -1000000000 ≤ q.2 ∧ q.2 ≤ 1000000000) →
    (n : Int) * minP p ≤ sumP p ∧ sumP p ≤ (n : Int) * maxP p ∧ minP p ≤ maxP p ∧ -1000000000 ≤ minP p ∧ maxP p ≤ 1000000000 ∧ minP p ≤ lasP p ∧ lasP p ≤ maxP p := by
  intro n
  induction n with
  | zero => intro p _ h _; omega
  | succ n ih =>
    intro p hl _ hs
    rcases List.eq_nil_or_concat p with rfl | ⟨l, x, rfl⟩
    · simp at hl
    · rw [List.concat_eq_append] at hl hs ⊢
      have hx := hs x (by simp)
      have hll : l.length = n := by simpa using hl
      rcases Nat.eq_zero_or_pos n with e | e
      · subst e
        obtain rfl : l = [] := List.eq_nil_of_length_eq_zero hll
        have h1 : sumP ([] ++ [x]) = x.2 := by rw [sumP_snoc]; simp [sumP]
        have h2 : minP ([] ++ [x]) = x.2 := by simp [minP]
        have h3 : maxP ([] ++ [x]) = x.2 := by simp [maxP]
        rw [h1, h2, h3, lasP_snoc]
        refine ⟨by simp, by simp, Int.le_refl _, hx.1, hx.2, Int.le_refl _, Int.le_refl _⟩
      · have hne : l ≠ [] := by intro h; rw [h] at hll; simp at hll; omega
        obtain ⟨a1, a2, a3, a4, a5, a6, a7⟩ := ih l hll e (fun q hq => hs q (by simp [hq]))
        rw [sumP_snoc, minP_snoc _ _ hne, maxP_snoc _ _ hne, lasP_snoc]
        have b1 : ((n : Int) + 1) * min (minP l) x.2 ≤ (n : Int) * minP l + x.2 := by
          rw [Int.add_mul, Int.one_mul]
          have := Int.mul_le_mul_of_nonneg_left (Int.min_le_left (minP l) x.2) (show (0 : Int) ≤ n by omega)
          have := Int.min_le_right (minP l) x.2
          omega
        have b2 : (n : Int) * maxP l + x.2 ≤ ((n : Int) + 1) * max (maxP l) x.2 := by
          rw [Int.add_mul, Int.one_mul]
          have := Int.mul_le_mul_of_nonneg_left (Int.le_max_left (maxP l) x.2) (show (0 : Int) ≤ n by omega)
          have := Int.le_max_right (maxP l) x.2
          omega
        push_cast
        refine ⟨by omega, by omega, by omega, by omega, by omega, by omega, by omega⟩
theorem sum_rng {p : List (Int × Int)} (hl : p.length ≤ 120) (hs : ∀ q ∈ p, -1000000000 ≤ q.2 ∧ q.2 ≤ 1000000000) : -120000000000 ≤ sumP p ∧ sumP p ≤ 120000000000 := by
  rcases Nat.eq_zero_or_pos p.length with e | e
  · obtain rfl : p = [] := List.eq_nil_of_length_eq_zero e
    simp [sumP]
  · obtain ⟨a1, a2, a3, a4, a5, _, _⟩ := bnd_P p.length p rfl e hs
    have b1 := Int.mul_le_mul_of_nonneg_left (show (-1000000000 : Int) ≤ minP p from a4) (show (0 : Int) ≤ (p.length : Int) by omega)
    have b2 := Int.mul_le_mul_of_nonneg_left (show maxP p ≤ (1000000000 : Int) from a5) (show (0 : Int) ≤ (p.length : Int) by omega)
    omega
theorem wrap_id {x : Int} (h : -9223372036854775808 ≤ x ∧ x ≤ 9223372036854775807) : wrap64 x = x := by unfold wrap64; omega
/-- the points of one window -/
theorem rolls_one (W T : Int) (hW : 1 ≤ W) (hT : T % W = 0) : ∀ (n : Nat) (p : List (Int × Int)), p.length = n → 0 < n → n ≤ 120 → (∀ q ∈ p, T ≤ q.1 ∧ q.1 < T + W) → (∀ q ∈ p, -1000000000 ≤ q.2 ∧ q.2 ≤ 1000000000) → rollsL p W = [rlOf T p] := by
  intro n
  induction n with
  | zero => intro p _ h; omega
  | succ n ih =>
    intro p hl _ h120 hw hs
    rcases List.eq_nil_or_concat p with rfl | ⟨l, x, rfl⟩
    · simp at hl
    · rw [List.concat_eq_append] at hl hs hw ⊢
      have hll : l.length = n := by simpa using hl
      have hx := hw x (by simp)
      have hxT : x.1 / W * W = T := by
        have h1 := Int.emod_add_mul_ediv T W
        have h2 : x.1 = (x.1 - T) + W * (T / W) := by omega
        have h3 : x.1 / W = T / W := by
          conv => lhs; rw [h2]
          rw [Int.add_mul_ediv_left _ _ (by omega), Int.ediv_eq_zero_of_lt (by omega) (by omega), Int.zero_add]
        rw [h3, Int.mul_comm]
        omega
      have hone : oneR W x = (T, 1, x.2, x.2, x.2, x.2) := by unfold oneR; rw [hxT]
      unfold rollsL
      rw [List.map_append, List.foldl_append]
      show addS (rollsL l W) (oneR W x) = _
      rw [hone]
      rcases Nat.eq_zero_or_pos n with e | e
      · subst e
        obtain rfl : l = [] := List.eq_nil_of_length_eq_zero hll
        show addS [] _ = _
        rw [addS_app (.inl rfl)]
        simp [rlOf, sumP, minP, maxP, lasP]
      · have hne : l ≠ [] := by intro h; rw [h] at hll; simp at hll; omega
        rw [ih l hll e (by omega) (fun q hq => hw q (by simp [hq])) (fun q hq => hs q (by simp [hq]))]
        rw [addS_in (by simp) (by rfl)]
        have hsr := sum_rng (p := l) (by omega) (fun q hq => hs q (by simp [hq]))
        have hxs := hs x (by simp)
        show [withR (rlOf T l) _] = _
        unfold withR rlOf
        simp only
        rw [sumP_snoc, minP_snoc _ _ hne, maxP_snoc _ _ hne, lasP_snoc, wrap_id (by omega), wrap_id (by omega), List.length_append]
        rfl
theorem mem_btw {l : List (Int × Int)} {f t : Int} {p : Int × Int} (h : p ∈ btwL l f t) : p ∈ l ∧ f ≤ p.1 ∧ p.1 < t := by
  have h1 := List.mem_filter.1 h
  have h2 := h1.2
  unfold inW at h2
  rw [Bool.and_eq_true, decide_eq_true_iff, decide_eq_true_iff] at h2
  exact ⟨h1.1, h2⟩
theorem btw_btw (l : List (Int × Int)) (a b f t : Int) (h1 : a ≤ f) (h2 : ∀ p ∈ l, p.1 < b) : btwL (btwL l a b) f t = btwL l f t := by
  unfold btwL
  rw [List.filter_filter]
  apply List.filter_congr
  intro p hp
  have := h2 p hp
  unfold inW
  by_cases c1 : f ≤ p.1
  · rw [decide_eq_true c1, decide_eq_true (show a ≤ p.1 by omega), decide_eq_true this]
    simp
  · rw [decide_eq_false c1]
    simp
theorem mult_lt {W a b : Int} (hW : 1 ≤ W) (ha : a % W = 0) (hb : b % W = 0) (h : a < b) : a + W ≤ b := by
  have h1 := Int.emod_add_mul_ediv a W
  have h2 := Int.emod_add_mul_ediv b W
  have h3 : a / W < b / W := by
    by_cases c : a / W < b / W
    · exact c
    · have := Int.mul_le_mul_of_nonneg_left (show b / W ≤ a / W by omega) (show 0 ≤ W by omega)
      omega
  have h4 := Int.mul_le_mul_of_nonneg_left (show a / W + 1 ≤ b / W by omega) (show 0 ≤ W by omega)
  rw [Int.mul_add, Int.mul_one] at h4
  omega
def cntR (l : List (Int × Int)) (W : Int) (R : List R6) : Nat := (R.map (fun r => (btwL l r.1 (r.1 + W)).length)).sum
theorem rolls_struct (W : Int) (hW : 1 ≤ W) : ∀ (n : Nat) (xs : List (Int × Int)), xs.length = n → n ≤ 120 → xs.Pairwise (fun p q => p.1 < q.1) → (∀ p ∈ xs, 0 ≤ p.1 ∧ p.1 < 1000000000001) → (∀ q ∈ xs, -1000000000 ≤ q.2 ∧ q.2 ≤ 1000000000) →
    (∀ r ∈ rollsL xs W, r = rlOf r.1 (btwL xs r.1 (r.1 + W)) ∧ btwL xs r.1 (r.1 + W) ≠ [] ∧ r.1 % W = 0 ∧ 0 ≤ r.1 ∧ r.1 < 1000000000001) ∧ (rollsL xs W).Pairwise (fun r s => r.1 < s.1) ∧ cntR xs W (rollsL xs W) = xs.length := by
  intro n
  induction n using Nat.strongRecOn with
  | ind n ih =>
    intro xs hl h120 hp hm hs
    cases xs with
    | nil => exact ⟨fun r hr => by simp [rollsL] at hr, List.Pairwise.nil, rfl⟩
    | cons p0 xt =>
      generalize hX : p0 :: xt = xs at *
      have hp0 : p0 ∈ xs := by rw [← hX]; simp
      have h0 := hm p0 hp0
      obtain ⟨T, hT⟩ : ∃ T, T = p0.1 / W * W := ⟨_, rfl⟩
      have hd := div_small (W := W) h0.1 hW
      rw [← hT] at hd
      have hTm : T % W = 0 := by rw [hT]; exact Int.mul_emod_left _ _
      have hTw : p0.1 < T + W := by
        have h1 := Int.emod_add_mul_ediv p0.1 W
        have h2 := Int.emod_lt_of_pos p0.1 (show 0 < W by omega)
        have h3 := Int.mul_comm W (p0.1 / W)
        omega
      have hfirst : ∀ q ∈ xs, p0.1 ≤ q.1 := by
        intro q hq
        rw [← hX] at hq hp
        rcases List.mem_cons.1 hq with e | e
        · rw [e]; exact Int.le_refl _
        · exact Int.le_of_lt ((List.pairwise_cons.1 hp).1 q e)
      have hge : ∀ q ∈ xs, T ≤ q.1 := fun q hq => by have := hfirst q hq; omega
      have hsplit := btw_split (T + W) 1000000000001 xs hp hm
      have hg0 : btwL xs 0 (T + W) = btwL xs T (T + W) := by
        unfold btwL
        apply List.filter_congr
        intro q hq
        unfold inW
        rw [decide_eq_true (hm q hq).1, decide_eq_true (hge q hq)]
      have hpg : p0 ∈ btwL xs T (T + W) := List.mem_filter.2 ⟨hp0, by unfold inW; rw [decide_eq_true (show T ≤ p0.1 by omega), decide_eq_true hTw]; rfl⟩
      have hgne : btwL xs T (T + W) ≠ [] := fun e => by rw [e] at hpg; simp at hpg
      obtain ⟨rest, hrest⟩ : ∃ r, r = btwL xs (T + W) 1000000000001 := ⟨_, rfl⟩
      obtain ⟨g, hg⟩ : ∃ g, g = btwL xs T (T + W) := ⟨_, rfl⟩
      rw [hg0, ← hg, ← hrest] at hsplit
      rw [← hg] at hgne
      have hgl : 0 < g.length := List.length_pos_iff.2 hgne
      have hlen : g.length + rest.length = xs.length := by rw [← hsplit, List.length_append]
      have hgs : g.Sublist xs := by rw [hg]; exact btwL_sub _ _ _
      have hrs : rest.Sublist xs := by rw [hrest]; exact btwL_sub _ _ _
      have hR : rollsL xs W = rlOf T g :: rollsL rest W := by
        conv => lhs; rw [← hsplit]
        rw [rolls_two g rest W (T + W) hW (by rw [Int.add_emod_right]; exact hTm) (fun p hpp => by rw [hg] at hpp; have := mem_btw hpp; omega) (fun p hpp => by rw [hrest] at hpp; exact (mem_btw hpp).2.1)]
        rw [rolls_one W T hW hTm g.length g rfl hgl (by omega) (fun q hq => by rw [hg] at hq; exact (mem_btw hq).2) (fun q hq => hs q (hgs.subset hq))]
        rfl
      obtain ⟨i1, i2, i3⟩ := ih rest.length (by omega) rest rfl (by omega) (hp.sublist hrs) (fun p hpp => hm p (hrs.subset hpp)) (fun q hq => hs q (hrs.subset hq))
      have hTr : ∀ r ∈ rollsL rest W, T + W ≤ r.1 ∧ btwL rest r.1 (r.1 + W) = btwL xs r.1 (r.1 + W) := by
        intro r hr
        obtain ⟨j1, j2, j3, j4, j5⟩ := i1 r hr
        have hlow : T + W ≤ r.1 := by
          obtain ⟨q, hq⟩ := List.exists_mem_of_ne_nil _ j2
          have k1 := mem_btw hq
          have k2 : T + W ≤ q.1 := by have := k1.1; rw [hrest] at this; exact (mem_btw this).2.1
          exact mult_lt hW hTm j3 (by omega)
        refine ⟨hlow, ?_⟩
        rw [hrest]
        exact btw_btw xs (T + W) 1000000000001 r.1 (r.1 + W) hlow (fun p hpp => (hm p hpp).2)
      rw [hR]
      refine ⟨?_, ?_, ?_⟩
      · intro r hr
        rcases List.mem_cons.1 hr with rfl | hr
        · show rlOf T g = rlOf T (btwL xs T (T + W)) ∧ btwL xs T (T + W) ≠ [] ∧ T % W = 0 ∧ 0 ≤ T ∧ T < 1000000000001
          rw [← hg]
          exact ⟨rfl, hgne, hTm, hd.1, by omega⟩
        · obtain ⟨j1, j2, j3, j4, j5⟩ := i1 r hr
          have k := (hTr r hr).2
          rw [k] at j1 j2
          exact ⟨j1, j2, j3, j4, j5⟩
      · rw [List.pairwise_cons]
        exact ⟨fun r hr => by have := (hTr r hr).1; show T < r.1; omega, i2⟩
      · unfold cntR at i3 ⊢
        rw [List.map_cons, List.sum_cons]
        show (btwL xs T (T + W)).length + _ = _
        rw [← hg]
        have hc : (rollsL rest W).map (fun r => (btwL xs r.1 (r.1 + W)).length) = (rollsL rest W).map (fun r => (btwL rest r.1 (r.1 + W)).length) := by
          apply List.map_congr_left
          intro r hr
          rw [(hTr r hr).2]
        rw [hc, i3]
        exact hlen
theorem ptsSm_mem {l : List (Int × Int)} (h : ptsSmB l = true) : ∀ q ∈ l, -1000000000 ≤ q.2 ∧ q.2 ≤ 1000000000 := by
  unfold ptsSmB at h
  rw [Bool.and_eq_true, List.all_eq_true] at h
  intro q hq
  have := h.1 q hq
  unfold smB vIn at this
  simpa using this
theorem rollsL_valid {xs : List (Int × Int)} {W : Int} (h : ptsSmB xs = true) (hw : wdB W = true) : rollsOkB (rollsL xs W) W = true := by
  have hk := ptsSmB_ok' h
  have hlen := ptsOkB_len hk
  obtain ⟨hW1, hW2⟩ := wdB_in hw
  obtain ⟨s1, s2, _⟩ := rolls_struct W hW1 xs.length xs rfl hlen (pts_pairwise hk) (pts_mem hk) (ptsSm_mem h)
  have hrl := rollsL_len xs W
  unfold rollsOkB
  rw [hw, decide_eq_true (by omega), Bool.true_and, Bool.true_and]
  unfold gdToR
  rw [List.all_eq_true]
  intro j hj
  have hj : j < (rollsL xs W).length := by simpa using hj
  have eg : (rollsL xs W).getD j z6 = (rollsL xs W)[j] := by rw [List.getD_eq_getElem?_getD, List.getElem?_eq_getElem hj]; rfl
  obtain ⟨j1, j2, j3, j4, j5⟩ := s1 _ (List.getElem_mem hj)
  rw [← eg] at j1 j2 j3 j4 j5
  have hgs := btwL_sub xs ((rollsL xs W).getD j z6).1 (((rollsL xs W).getD j z6).1 + W)
  have hgl := hgs.length_le
  obtain ⟨b1, b2, b3, b4, b5, b6, b7⟩ := bnd_P _ _ rfl (List.length_pos_iff.2 j2) (fun q hq => ptsSm_mem h q (hgs.subset hq))
  have hpos := List.length_pos_iff.2 j2
  apply gdR_ok
  · omega
  · exact j3
  · rw [j1]
    unfold okVB rlOf
    rw [decide_eq_true_iff]
    simp only
    refine ⟨by omega, by omega, by omega, b3, b6, b7, b1, b2⟩
  · rcases Nat.eq_zero_or_pos j with e | e
    · exact .inl e
    · right
      have eg2 : (rollsL xs W).getD (j - 1) z6 = (rollsL xs W)[j - 1] := by rw [List.getD_eq_getElem?_getD, List.getElem?_eq_getElem (by omega)]; rfl
      rw [eg, eg2]
      exact List.pairwise_iff_getElem.1 s2 (j - 1) j (by omega) hj (by omega)

theorem withR_assoc (z y x : R6) : withR z (withR y x) = withR (withR z y) x := by
  unfold withR
  simp only [Prod.mk.injEq]
  refine ⟨trivial, ?_, ?_, ?_, ?_, trivial⟩
  · unfold wrap64; omega
  · unfold wrap64; omega
  · omega
  · omega
theorem withR_win (W : Int) (y x : R6) : withR (winD W y) (winD W x) = winD W (withR y x) := rfl
theorem addS_twice (C : List R6) (a b : R6) (h : a.1 = b.1) : addS (addS C a) b = addS C (withR a b) := by
  have hab : (withR a b).1 = a.1 := rfl
  have hn : ¬ (addS C a).length = 0 := by have := addS_pos C a; omega
  rw [addS_in hn (by rw [lastR_addS]; exact h)]
  by_cases hc : C.length = 0 ∨ ¬ (lastR C).1 = a.1
  · rw [addS_app hc, lastR_app, addS_app (by rw [hab]; exact hc), List.length_append]
    show (C ++ [a]).set (C.length + 1 - 1) _ = _
    rw [Nat.add_sub_cancel, List.set_append, if_neg (by omega), Nat.sub_self]
    rfl
  · have h1 : ¬ C.length = 0 := fun e => hc (.inl e)
    have h2 : (lastR C).1 = a.1 := by
      by_cases e : (lastR C).1 = a.1
      · exact e
      · exact absurd (.inr e) hc
    rw [addS_in h1 h2, addS_in h1 (by rw [hab]; exact h2), lastR_set _ _ h1, List.length_set, List.set_set, withR_assoc]
theorem win_one {w to : Int} (hw : 1 ≤ w) (ht : 1 ≤ to) (hm : to % w = 0) (p : Int × Int) : winD to (oneR w p) = oneR to p := by
  unfold winD oneR
  simp only [Prod.mk.injEq, and_true]
  have h1 := Int.emod_add_mul_ediv to w
  rw [hm, Int.zero_add] at h1
  have h2 : p.1 / w * w / to = p.1 / to := by
    rw [← h1, ← Int.ediv_ediv_of_nonneg (by omega), ← Int.ediv_ediv_of_nonneg (by omega), Int.mul_ediv_cancel _ (by omega)]
  rw [h2]
theorem coar_rolls (l : List (Int × Int)) {w to : Int} (hw : 1 ≤ w) (ht : 1 ≤ to) (hm : to % w = 0) : coarL (rollsL l w) to = rollsL l to := by
  suffices H : ∀ n, ∀ l : List (Int × Int), l.length = n → coarL (rollsL l w) to = rollsL l to from H _ l rfl
  intro n
  induction n with
  | zero => intro l hl; obtain rfl : l = [] := List.eq_nil_of_length_eq_zero hl; rfl
  | succ n ih =>
    intro l hl
    rcases List.eq_nil_or_concat l with rfl | ⟨l', p, rfl⟩
    · simp at hl
    · rw [List.concat_eq_append] at hl ⊢
      have ih' := ih l' (by simpa using hl)
      have hsn : ∀ W, rollsL (l' ++ [p]) W = addS (rollsL l' W) (oneR W p) := fun W => by unfold rollsL; rw [List.map_append, List.foldl_append]; rfl
      rw [hsn, hsn, ← ih', ← win_one hw ht hm p]
      have hcs : ∀ (R : List R6) (x : R6), coarL (R ++ [x]) to = addS (coarL R to) (winD to x) := fun R x => by unfold coarL; rw [List.map_append, List.foldl_append]; rfl
      generalize rollsL l' w = R
      generalize oneR w p = x
      rcases List.eq_nil_or_concat R with rfl | ⟨R', y, rfl⟩
      · rfl
      · rw [List.concat_eq_append]
        by_cases e : y.1 = x.1
        · rw [addS_in (by simp) (by rw [lastR_app]; exact e), lastR_app, List.length_append]
          show coarL ((R' ++ [y]).set (R'.length + 1 - 1) _) to = _
          rw [Nat.add_sub_cancel, List.set_append, if_neg (by omega), Nat.sub_self]
          show coarL (R' ++ [withR y x]) to = _
          rw [hcs, hcs, addS_twice _ _ _ (show (winD to y).1 = (winD to x).1 from by unfold winD; rw [e]), withR_win]
        · rw [addS_app (.inr (by rw [lastR_app]; exact e)), hcs]
end Go.Proofs.Ytcjpedolmnahfaa

/- Walks: queries: plain facts on their parts and kinds. -/
set_option linter.unusedVariables false
set_option linter.unusedSimpArgs false
namespace Go.Proofs.Ytcjpedolmnahfaa
open Go.RowKit

theorem pickRs_ok {c : Cs} {p : Int} (hc : cascB c = true) (hp : p = -1 ∨ 0 ≤ p ∧ p < c.2.2.2.length) : ∃ W, rollsOkB (pickRs c p) W = true := by
  unfold cascB at hc
  rw [Bool.and_eq_true, Bool.and_eq_true] at hc
  obtain ⟨_, _, hsm, _⟩ := headB_in hc.1
  rcases hp with rfl | ⟨h0, h1⟩
  · exact ⟨1, by unfold pickRs; rw [if_pos rfl]; exact rollsL_valid hsm (by decide)⟩
  · unfold pickRs
    rw [if_neg (by omega)]
    have hj : p.toNat < c.2.2.2.length := by omega
    have hm : c.2.2.2.getD p.toNat zLv ∈ c.2.2.2 := by
      rw [List.getD_eq_getElem?_getD, List.getElem?_eq_getElem hj]; exact List.getElem_mem hj
    exact ⟨_, lvsB_rolls _ _ _ _ hc.2.2 _ hm⟩
theorem rollsOk_lt {rs : List R6} {W : Int} (h : rollsOkB rs W = true) : ∀ (d i : Nat), i + d + 1 < rs.length → (rs.getD i z6).1 < (rs.getD (i + d + 1) z6).1 := by
  have h1 := (rollsOkB_in h).2.2
  have step : ∀ i, i + 1 < rs.length → (rs.getD i z6).1 < (rs.getD (i + 1) z6).1 := fun i hi => by
    have := h1 (i + 1) hi
    unfold gdR at this
    rw [Bool.and_eq_true, Bool.or_eq_true, decide_eq_true_iff, decide_eq_true_iff] at this
    rcases this.2 with e | e
    · omega
    · simpa using e
  intro d
  induction d with
  | zero => intro i hi; exact step i hi
  | succ d ih =>
    intro i hi
    have a := ih i (by omega)
    have b := step (i + d + 1) (by omega)
    have e : i + (d + 1) + 1 = i + d + 1 + 1 := by omega
    rw [e]; omega
theorem rollsOk_pw {rs : List R6} {W : Int} (h : rollsOkB rs W = true) : rs.Pairwise (fun p q => p.1 < q.1) := by
  rw [List.pairwise_iff_getElem]
  intro i j hi hj hij
  have := rollsOk_lt h (j - i - 1) i (by omega)
  have e : i + (j - i - 1) + 1 = j := by omega
  rw [e, List.getD_eq_getElem?_getD, List.getElem?_eq_getElem hi, List.getD_eq_getElem?_getD, List.getElem?_eq_getElem hj] at this
  exact this
theorem qryL_in {rs : List R6} (hp : rs.Pairwise (fun p q => p.1 < q.1)) (f t h : Int) {j : Nat} (hj : j < (qryL rs f t h).length) :
    (f ≤ ((qryL rs f t h).getD j (0, 0)).1 ∧ ((qryL rs f t h).getD j (0, 0)).1 < t) ∧ ∀ k, k < j → ((qryL rs f t h).getD k (0, 0)).1 < ((qryL rs f t h).getD j (0, 0)).1 := by
  have hq : (qryL rs f t h).Pairwise (fun p q => p.1 < q.1) := by
    unfold qryL
    rw [List.pairwise_map]
    exact (hp.filter _).imp (fun h => h)
  have hm : ∀ p ∈ qryL rs f t h, f ≤ p.1 ∧ p.1 < t := by
    intro p hp
    unfold qryL at hp
    obtain ⟨r, hr1, rfl⟩ := List.mem_map.1 hp
    have := (List.mem_filter.1 hr1).2
    simpa using this
  have e : (qryL rs f t h).getD j (0, 0) = (qryL rs f t h)[j] := by rw [List.getD_eq_getElem?_getD, List.getElem?_eq_getElem hj]; rfl
  rw [e]
  refine ⟨hm _ (List.getElem_mem hj), fun k hk => ?_⟩
  have e2 : (qryL rs f t h).getD k (0, 0) = (qryL rs f t h)[k] := by rw [List.getD_eq_getElem?_getD, List.getElem?_eq_getElem (by omega)]; rfl
  rw [e2]
  exact List.pairwise_iff_getElem.1 hq k j (by omega) hj hk
def inQ (f t : Int) (r : R6) : Bool := decide (f ≤ r.1) && decide (r.1 < t)
theorem qryL_split (h : Int) {f m t : Int} (h1 : f ≤ m) (h2 : m ≤ t ∨ t ≤ f ∧ m = f) : ∀ (rs : List R6), rs.Pairwise (fun p q => p.1 < q.1) → qryL rs f m h ++ qryL rs m t h = qryL rs f t h := by
  intro rs
  induction rs with
  | nil => intro _; rfl
  | cons x rs ih =>
    intro hp
    have h3 := ih (List.pairwise_cons.1 hp).2
    change (rs.filter (inQ f m)).map (fun r => (r.1, aggV h r)) ++ (rs.filter (inQ m t)).map (fun r => (r.1, aggV h r)) = (rs.filter (inQ f t)).map (fun r => (r.1, aggV h r)) at h3
    show ((x :: rs).filter (inQ f m)).map (fun r => (r.1, aggV h r)) ++ ((x :: rs).filter (inQ m t)).map (fun r => (r.1, aggV h r)) = ((x :: rs).filter (inQ f t)).map (fun r => (r.1, aggV h r))
    by_cases hm : x.1 < m
    · have a2 : inQ m t x = false := by unfold inQ; simp; omega
      by_cases hf : f ≤ x.1
      · have a1 : inQ f m x = true := by unfold inQ; simp; omega
        have a3 : inQ f t x = true := by unfold inQ; simp; omega
        rw [List.filter_cons_of_pos a1, List.filter_cons_of_neg (by rw [a2]; simp), List.filter_cons_of_pos a3, List.map_cons, List.map_cons, List.cons_append, h3]
      · have a1 : inQ f m x = false := by unfold inQ; simp; omega
        have a3 : inQ f t x = false := by unfold inQ; simp; omega
        rw [List.filter_cons_of_neg (by rw [a1]; simp), List.filter_cons_of_neg (by rw [a2]; simp), List.filter_cons_of_neg (by rw [a3]; simp), h3]
    · have a1 : ∀ r ∈ x :: rs, inQ f m r = false := by
        intro r hr
        rcases List.mem_cons.1 hr with rfl | hr
        · unfold inQ; simp; omega
        · have := (List.pairwise_cons.1 hp).1 r hr
          unfold inQ; simp; omega
      have e1 : (x :: rs).filter (inQ f m) = [] := by
        rw [List.filter_eq_nil_iff]; intro r hr; rw [a1 r hr]; simp
      have e2 : (x :: rs).filter (inQ m t) = (x :: rs).filter (inQ f t) := by
        refine List.filter_congr (fun r hr => ?_)
        have hr' : m ≤ r.1 := by
          rcases List.mem_cons.1 hr with rfl | hr
          · omega
          · have := (List.pairwise_cons.1 hp).1 r hr; omega
        unfold inQ
        rw [decide_eq_true hr', decide_eq_true (show f ≤ r.1 by omega)]
      rw [e1, e2, List.map_nil, List.nil_append]
theorem qry_yes {c : Cs} {f t h : Int} (hb : qryB c f t h = true) : (cascB c = true ∧ 0 ≤ f ∧ f ≤ 1000000000000) ∧ (0 ≤ t ∧ t ≤ 1000000000000) ∧ (pickRs c (pickM c f)).Pairwise (fun p q => p.1 < q.1) ∧ ∃ W, rollsOkB (pickRs c (pickM c f)) W = true := by
  unfold qryB at hb
  rw [Bool.and_eq_true, decide_eq_true_iff, Bool.and_eq_true] at hb
  obtain ⟨hcb, hv, hpp⟩ := pickM_at hb.1
  obtain ⟨W, hW⟩ := pickRs_ok hcb hpp
  have ht := hb.2.1
  unfold vIn at hv ht
  exact ⟨⟨hcb, by simpa using hv⟩, by simpa using ht, rollsOk_pw hW, W, hW⟩
/-- what is asked of two parts of a time range -/
theorem qry_two {c : Cs} {f t h m : Int} (hb : qryB c f t h = true) (hm : m = f + (max 0 (t - f)) / 2) (hp : pickM c m = pickM c f) :
    qryB c f m h = true ∧ qryB c m t h = true ∧ qryM c f m h ++ qryM c m t h = qryM c f t h := by
  obtain ⟨⟨hcb, f0, f1⟩, ⟨t0, t1⟩, hpw, _⟩ := qry_yes hb
  have b1 : qryB c f m h = true := by
    unfold qryB at hb ⊢
    rw [Bool.and_eq_true, Bool.and_eq_true] at hb ⊢
    refine ⟨hb.1, ?_, hb.2.2⟩
    unfold vIn; simp; omega
  have b2 : qryB c m t h = true := by
    unfold qryB at hb ⊢
    rw [hp]; exact hb
  refine ⟨b1, b2, ?_⟩
  rw [qryM_yes b1, qryM_yes b2, qryM_yes hb, hp]
  exact qryL_split h (by omega) (by omega) _ hpw
theorem qry_in {c : Cs} {f t h : Int} (hb : qryB c f t h = true) {j : Nat} (hj : j < (qryM c f t h).length) :
    (f ≤ ((qryM c f t h).getD j (0, 0)).1 ∧ ((qryM c f t h).getD j (0, 0)).1 < t) ∧ (0 < j → ((qryM c f t h).getD (j - 1) (0, 0)).1 < ((qryM c f t h).getD j (0, 0)).1) := by
  obtain ⟨_, _, hpw, _⟩ := qry_yes hb
  rw [qryM_yes hb] at hj ⊢
  have := qryL_in hpw f t h hj
  exact ⟨this.1, fun h0 => this.2 (j - 1) (by omega)⟩
/-- the values of one roll, by their kinds -/
theorem qry_kinds {c : Cs} {f t : Int} (hb : qryB c f t 1 = true) : (∀ h, (1 ≤ h ∧ h ≤ 6) → qryB c f t h = true ∧ (qryM c f t h).length = (qryM c f t 1).length) ∧ ∀ j, j < (qryM c f t 1).length →
    ∃ n s a b l m, (qryM c f t 1).getD j (0, 0) = n ∧ (qryM c f t 2).getD j (0, 0) = s ∧ (qryM c f t 3).getD j (0, 0) = a ∧ (qryM c f t 4).getD j (0, 0) = b ∧ (qryM c f t 5).getD j (0, 0) = l ∧ (qryM c f t 6).getD j (0, 0) = m ∧
      ((1 ≤ n.2 ∧ n.2 ≤ 1000000) ∧ (-1000000000 ≤ a.2 ∧ a.2 ≤ m.2 ∧ m.2 ≤ b.2 ∧ b.2 ≤ 1000000000) ∧ (a.2 ≤ l.2 ∧ l.2 ≤ b.2) ∧ m.2 * n.2 ≤ s.2 ∧ s.2 < (m.2 + 1) * n.2 ∧ wrap64 (m.2 * n.2) = m.2 * n.2 ∧ wrap64 ((m.2 + 1) * n.2) = (m.2 + 1) * n.2) := by
  have hB : ∀ h, (1 ≤ h ∧ h ≤ 6) → qryB c f t h = true := by
    intro h hh
    unfold qryB at hb ⊢
    rw [Bool.and_eq_true, Bool.and_eq_true] at hb ⊢
    exact ⟨hb.1, hb.2.1, by unfold vIn; simp; omega⟩
  obtain ⟨_, _, _, W, hW⟩ := qry_yes hb
  have hL : ∀ h, (1 ≤ h ∧ h ≤ 6) → qryM c f t h = ((pickRs c (pickM c f)).filter (fun r => decide (f ≤ r.1) && decide (r.1 < t))).map (fun r => (r.1, aggV h r)) := fun h hh => by rw [qryM_yes (hB h hh)]; rfl
  have hok := (rollsOkB_in hW).2.2
  generalize pickRs c (pickM c f) = rs at hL hok
  have hok2 : ∀ r ∈ rs, okVB r.2.1 r.2.2.1 r.2.2.2.1 r.2.2.2.2.1 r.2.2.2.2.2 = true := by
    intro r hr
    obtain ⟨i, hi, rfl⟩ := List.getElem_of_mem hr
    have h := hok i hi
    unfold gdR okRB at h
    rw [List.getD_eq_getElem?_getD, List.getElem?_eq_getElem hi] at h
    simp only [Option.getD_some, Bool.and_eq_true] at h
    exact h.1.2
  obtain ⟨fs, hfs⟩ : ∃ fs, fs = rs.filter (fun r => decide (f ≤ r.1) && decide (r.1 < t)) := ⟨_, rfl⟩
  rw [← hfs] at hL
  have hok3 : ∀ r ∈ fs, okVB r.2.1 r.2.2.1 r.2.2.2.1 r.2.2.2.2.1 r.2.2.2.2.2 = true := fun r hr => hok2 r (by rw [hfs] at hr; exact (List.mem_filter.1 hr).1)
  refine ⟨fun h hh => ⟨hB h hh, by rw [hL h hh, hL 1 (by omega), List.length_map, List.length_map]⟩, fun j hj => ?_⟩
  rw [hL 1 (by omega), List.length_map] at hj
  have hg : ∀ h, (1 ≤ h ∧ h ≤ 6) → (qryM c f t h).getD j (0, 0) = (fs[j].1, aggV h fs[j]) := fun h hh => by
    rw [hL h hh, List.getD_eq_getElem?_getD, List.getElem?_map, List.getElem?_eq_getElem hj]; rfl
  refine ⟨_, _, _, _, _, _, hg 1 (by omega), hg 2 (by omega), hg 3 (by omega), hg 4 (by omega), hg 5 (by omega), hg 6 (by omega), ?_⟩
  have h := hok3 _ (List.getElem_mem hj)
  generalize fs[j] = r at h
  obtain ⟨T, n, s, a, b, l⟩ := r
  unfold okVB at h
  rw [decide_eq_true_iff] at h
  obtain ⟨⟨n1, n2⟩, ⟨a1, a2⟩, ⟨b1, b2⟩, hab, hal, hlb, hs1, hs2⟩ := h
  simp only at n1 n2 a1 a2 b1 b2 hab hal hlb hs1 hs2
  show (1 ≤ n ∧ n ≤ 1000000) ∧ (-1000000000 ≤ a ∧ a ≤ s / n ∧ s / n ≤ b ∧ b ≤ 1000000000) ∧ (a ≤ l ∧ l ≤ b) ∧ s / n * n ≤ s ∧ s < (s / n + 1) * n ∧ wrap64 (s / n * n) = s / n * n ∧ wrap64 ((s / n + 1) * n) = (s / n + 1) * n
  have hn : 0 < n := by omega
  have e1 : a ≤ s / n := (Int.le_ediv_iff_mul_le hn).2 (by rw [Int.mul_comm]; exact hs1)
  have e2 : s / n * n ≤ s := Int.ediv_mul_le s (by omega)
  have e3 : s < (s / n + 1) * n := Int.lt_ediv_add_one_mul_self s hn
  have e4 : s / n ≤ b := by
    have h5 : s / n < b + 1 := (Int.ediv_lt_iff_lt_mul hn).2 (by rw [Int.add_mul, Int.mul_comm b n]; omega)
    omega
  refine ⟨⟨n1, n2⟩, ⟨a1, e1, e4, b2⟩, ⟨hal, hlb⟩, e2, e3, ?_, ?_⟩
  · rw [Int.mul_comm]; exact wrap_mul n1 n2 (by omega) (by omega)
  · generalize s / n = q at *
    have k1 : n * q ≤ n * 1000000000 := Int.mul_le_mul_of_nonneg_left (by omega) (by omega)
    have k2 : n * (-1000000000) ≤ n * q := Int.mul_le_mul_of_nonneg_left (by omega) (by omega)
    have k3 : (q + 1) * n = n * q + n := by rw [Int.add_mul, Int.mul_comm q n, Int.one_mul]
    rw [k3]
    unfold wrap64; omega
end Go.Proofs.Ytcjpedolmnahfaa
