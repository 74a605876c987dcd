/- Walks: what rolls contain: plain facts. -/
import Derived.Test.YthmkjenamnmbiabXd
import Derived.Test.YthmkjenamnmbiabYu
set_option linter.unusedVariables false
set_option linter.unusedSimpArgs false
namespace Go.Proofs.Ythmkjenamnmbiab
open Go.RowKit

def sumP (p : List (Int × Int)) : Int := p.foldl (fun s q => s + q.2) 0
def minP (p : List (Int × Int)) : Int := p.foldl (fun s q => min s q.2) (p.getD 0 (0, 0)).2
def maxP (p : List (Int × Int)) : Int := p.foldl (fun s q => max s q.2) (p.getD 0 (0, 0)).2
def lasP (p : List (Int × Int)) : Int := (p.getD (p.length - 1) (0, 0)).2
def rlOf (T : Int) (p : List (Int × Int)) : R6 := (T, (p.length : Int), sumP p, minP p, maxP p, lasP p)
theorem sumP_snoc (p : List (Int × Int)) (x : Int × Int) : sumP (p ++ [x]) = sumP p + x.2 := by simp [sumP]
theorem head_snoc (p : List (Int × Int)) (x : Int × Int) (h : p ≠ []) : (p ++ [x]).getD 0 (0, 0) = p.getD 0 (0, 0) := by
  cases p with
  | nil => exact absurd rfl h
  | cons a p => rfl
theorem minP_snoc (p : List (Int × Int)) (x : Int × Int) (h : p ≠ []) : minP (p ++ [x]) = min (minP p) x.2 := by
  unfold minP; rw [head_snoc p x h, List.foldl_append]; rfl
theorem maxP_snoc (p : List (Int × Int)) (x : Int × Int) (h : p ≠ []) : maxP (p ++ [x]) = max (maxP p) x.2 := by
  unfold maxP; rw [head_snoc p x h, List.foldl_append]; rfl
theorem lasP_snoc (p : List (Int × Int)) (x : Int × Int) : lasP (p ++ [x]) = x.2 := by
  unfold lasP; rw [List.getD_eq_getElem?_getD]; simp
/-- bounds of what a list of small values adds up to -/
theorem bnd_P : ∀ (n : Nat) (p : List (Int × Int)), p.length = n → 0 < n → (∀ q ∈ p, -1000000000 ≤ q.2 ∧ q.2 ≤ 1000000000) →
    (n : Int) * minP p ≤ sumP p ∧ sumP p ≤ (n : Int) * maxP p ∧ minP p ≤ maxP p ∧ -1000000000 ≤ minP p ∧ maxP p ≤ 1000000000 ∧ minP p ≤ lasP p ∧ lasP p ≤ maxP p := by
  intro n
  induction n with
  | zero => intro p _ h _; omega
  | succ n ih =>
    intro p hl _ hs
    rcases List.eq_nil_or_concat p with rfl | ⟨l, x, rfl⟩
    · simp at hl
    · rw [List.concat_eq_append] at hl hs ⊢
      have hx := hs x (by simp)
      have hll : l.length = n := by simpa using hl
      rcases Nat.eq_zero_or_pos n with e | e
      · subst e
        obtain rfl : l = [] := List.eq_nil_of_length_eq_zero hll
        have h1 : sumP ([] ++ [x]) = x.2 := by rw [sumP_snoc]; simp [sumP]
        have h2 : minP ([] ++ [x]) = x.2 := by simp [minP]
        have h3 : maxP ([] ++ [x]) = x.2 := by simp [maxP]
        rw [h1, h2, h3, lasP_snoc]
        refine ⟨by simp, by simp, Int.le_refl _, hx.1, hx.2, Int.le_refl _, Int.le_refl _⟩
      · have hne : l ≠ [] := by intro h; rw [h] at hll; simp at hll; omega
        obtain ⟨a1, a2, a3, a4, a5, a6, a7⟩ := ih l hll e (fun q hq => hs q (by simp [hq]))
        rw [sumP_snoc, minP_snoc _ _ hne, maxP_snoc _ _ hne, lasP_snoc]
        have b1 : ((n : Int) + 1) * min (minP l) x.2 ≤ (n : Int) * minP l + x.2 := by
          rw [Int.add_mul, Int.one_mul]
          have := Int.mul_le_mul_of_nonneg_left (Int.min_le_left (minP l) x.2) (show (0 : Int) ≤ n by omega)
          have := Int.min_le_right (minP l) x.2
          omega
        have b2 : (n : Int) * maxP l + x.2 ≤ ((n : Int) + 1) * max (maxP l) x.2 := by
          rw [Int.add_mul, Int.one_mul]
          have := Int.mul_le_mul_of_nonneg_left (Int.le_max_left (maxP l) x.2) (show (0 : Int) ≤ n by omega)
          have := Int.le_max_right (maxP l) x.2
          omega
        push_cast
        refine ⟨by omega, by omega, by omega, by omega, by omega, by omega, by omega⟩
theorem sum_rng {p : List (Int × Int)} (hl : p.length ≤ 120) (hs : ∀ q ∈ p, -1000000000 ≤ q.2 ∧ q.2 ≤ 1000000000) : -120000000000 ≤ sumP p ∧ sumP p ≤ 120000000000 := by
  rcases Nat.eq_zero_or_pos p.length with e | e
  · obtain rfl : p = [] := List.eq_nil_of_length_eq_zero e
    simp [sumP]
  · obtain ⟨a1, a2, a3, a4, a5, _, _⟩ := bnd_P p.length p rfl e hs
    have b1 := Int.mul_le_mul_of_nonneg_left (show (-1000000000 : Int) ≤ minP p from a4) (show (0 : Int) ≤ (p.length : Int) by omega)
    have b2 := Int.mul_le_mul_of_nonneg_left (show maxP p ≤ (1000000000 : Int) from a5) (show (0 : Int) ≤ (p.length : Int) by omega)
    omega
theorem wrap_id {x : Int} (h : -9223372036854775808 ≤ x ∧ x ≤ 9223372036854775807) : wrap64 x = x := by unfold wrap64; omega
/-- the points of one window -/
theorem rolls_one (W T : Int) (hW : 1 ≤ W) (hT : T % W = 0) : ∀ (n : Nat) (p : List (Int × Int)), p.length = n → 0 < n → n ≤ 120 → (∀ q ∈ p, T ≤ q.1 ∧ q.1 < T + W) → (∀ q ∈ p, -1000000000 ≤ q.2 ∧ q.2 ≤ 1000000000) → rollsL p W = [rlOf T p] := by
  intro n
  induction n with
  | zero => intro p _ h; omega
  | succ n ih =>
    intro p hl _ h120 hw hs
    rcases List.eq_nil_or_concat p with rfl | ⟨l, x, rfl⟩
    · simp at hl
    · rw [List.concat_eq_append] at hl hs hw ⊢
      have hll : l.length = n := by simpa using hl
      have hx := hw x (by simp)
      have hxT : x.1 / W * W = T := by
        have h1 := Int.emod_add_mul_ediv T W
        have h2 : x.1 = (x.1 - T) + W * (T / W) := by omega
        have h3 : x.1 / W = T / W := by
          conv => lhs; rw [h2]
          rw [Int.add_mul_ediv_left _ _ (by omega), Int.ediv_eq_zero_of_lt (by omega) (by omega), Int.zero_add]
        rw [h3, Int.mul_comm]
        omega
      have hone : oneR W x = (T, 1, x.2, x.2, x.2, x.2) := by unfold oneR; rw [hxT]
      unfold rollsL
      rw [List.map_append, List.foldl_append]
      show addS (rollsL l W) (oneR W x) = _
      rw [hone]
      rcases Nat.eq_zero_or_pos n with e | e
      · subst e
        obtain rfl : l = [] := List.eq_nil_of_length_eq_zero hll
        show addS [] _ = _
        rw [addS_app (.inl rfl)]
        simp [rlOf, sumP, minP, maxP, lasP]
      · have hne : l ≠ [] := by intro h; rw [h] at hll; simp at hll; omega
        rw [ih l hll e (by omega) (fun q hq => hw q (by simp [hq])) (fun q hq => hs q (by simp [hq]))]
        rw [addS_in (by simp) (by rfl)]
        have hsr := sum_rng (p := l) (by omega) (fun q hq => hs q (by simp [hq]))
        have hxs := hs x (by simp)
        show [withR (rlOf T l) _] = _
        unfold withR rlOf
        simp only
        rw [sumP_snoc, minP_snoc _ _ hne, maxP_snoc _ _ hne, lasP_snoc, wrap_id (by omega), wrap_id (by omega), List.length_append]
        rfl
theorem mem_btw {l : List (Int × Int)} {f t : Int} {p : Int × Int} (h : p ∈ btwL l f t) : p ∈ l ∧ f ≤ p.1 ∧ p.1 < t := by
  have h1 := List.mem_filter.1 h
  have h2 := h1.2
  unfold inW at h2
  rw [Bool.and_eq_true, decide_eq_true_iff, decide_eq_true_iff] at h2
  exact ⟨h1.1, h2⟩
theorem btw_btw (l : List (Int × Int)) (a b f t : Int) (h1 : a ≤ f) (h2 : ∀ p ∈ l, p.1 < b) : btwL (btwL l a b) f t = btwL l f t := by
  unfold btwL
  rw [List.filter_filter]
  apply List.filter_congr
  intro p hp
  have := h2 p hp
  unfold inW
  by_cases c1 : f ≤ p.1
  · rw [decide_eq_true c1, decide_eq_true (show a ≤ p.1 by omega), decide_eq_true this]
    simp
  · rw [decide_eq_false c1]
    simp
theorem mult_lt {W a b : Int} (hW : 1 ≤ W) (ha : a % W = 0) (hb : b % W = 0) (h : a < b) : a + W ≤ b := by
  have h1 := Int.emod_add_mul_ediv a W
  have h2 := Int.emod_add_mul_ediv b W
  have h3 : a / W < b / W := by
    by_cases c : a / W < b / W
    · exact c
    · have := Int.mul_le_mul_of_nonneg_left (show b / W ≤ a / W by omega) (show 0 ≤ W by omega)
      omega
  have h4 := Int.mul_le_mul_of_nonneg_left (show a / W + 1 ≤ b / W by omega) (show 0 ≤ W by omega)
  rw [Int.mul_add, Int.mul_one] at h4
  omega
def cntR (l : List (Int × Int)) (W : Int) (R : List R6) : Nat := (R.map (fun r => (btwL l r.1 (r.1 + W)).length)).sum
theorem rolls_struct (W : Int) (hW : 1 ≤ W) : ∀ (n : Nat) (xs : List (Int × Int)), xs.length = n → n ≤ 120 → xs.Pairwise (fun p q => p.1 < q.1) → (∀ p ∈ xs, 0 ≤ p.1 ∧ p.1 < 1000000000001) → (∀ q ∈ xs, -1000000000 ≤ q.2 ∧ q.2 ≤ 1000000000) →
    (∀ r ∈ rollsL xs W, r = rlOf r.1 (btwL xs r.1 (r.1 + W)) ∧ btwL xs r.1 (r.1 + W) ≠ [] ∧ r.1 % W = 0 ∧ 0 ≤ r.1 ∧ r.1 < 1000000000001) ∧ (rollsL xs W).Pairwise (fun r s => r.1 < s.1) ∧ cntR xs W (rollsL xs W) = xs.length := by
  intro n
  induction n using Nat.strongRecOn with
  | ind n ih =>
    intro xs hl h120 hp hm hs
    cases xs with
    | nil => exact ⟨fun r hr => by simp [rollsL] at hr, List.Pairwise.nil, rfl⟩
    | cons p0 xt =>
      generalize hX : p0 :: xt = xs at *
      have hp0 : p0 ∈ xs := by rw [← hX]; simp
      have h0 := hm p0 hp0
      obtain ⟨T, hT⟩ : ∃ T, T = p0.1 / W * W := ⟨_, rfl⟩
      have hd := div_small (W := W) h0.1 hW
      rw [← hT] at hd
      have hTm : T % W = 0 := by rw [hT]; exact Int.mul_emod_left _ _
      have hTw : p0.1 < T + W := by
        have h1 := Int.emod_add_mul_ediv p0.1 W
        have h2 := Int.emod_lt_of_pos p0.1 (show 0 < W by omega)
        have h3 := Int.mul_comm W (p0.1 / W)
        omega
      have hfirst : ∀ q ∈ xs, p0.1 ≤ q.1 := by
        intro q hq
        rw [← hX] at hq hp
        rcases List.mem_cons.1 hq with e | e
        · rw [e]; exact Int.le_refl _
        · exact Int.le_of_lt ((List.pairwise_cons.1 hp).1 q e)
      have hge : ∀ q ∈ xs, T ≤ q.1 := fun q hq => by have := hfirst q hq; omega
      have hsplit := btw_split (T + W) 1000000000001 xs hp hm
      have hg0 : btwL xs 0 (T + W) = btwL xs T (T + W) := by
        unfold btwL
        apply List.filter_congr
        intro q hq
        unfold inW
        rw [decide_eq_true (hm q hq).1, decide_eq_true (hge q hq)]
      have hpg : p0 ∈ btwL xs T (T + W) := List.mem_filter.2 ⟨hp0, by unfold inW; rw [decide_eq_true (show T ≤ p0.1 by omega), decide_eq_true hTw]; rfl⟩
      have hgne : btwL xs T (T + W) ≠ [] := fun e => by rw [e] at hpg; simp at hpg
      obtain ⟨rest, hrest⟩ : ∃ r, r = btwL xs (T + W) 1000000000001 := ⟨_, rfl⟩
      obtain ⟨g, hg⟩ : ∃ g, g = btwL xs T (T + W) := ⟨_, rfl⟩
      rw [hg0, ← hg, ← hrest] at hsplit
      rw [← hg] at hgne
      have hgl : 0 < g.length := List.length_pos_iff.2 hgne
      have hlen : g.length + rest.length = xs.length := by rw [← hsplit, List.length_append]
      have hgs : g.Sublist xs := by rw [hg]; exact btwL_sub _ _ _
      have hrs : rest.Sublist xs := by rw [hrest]; exact btwL_sub _ _ _
      have hR : rollsL xs W = rlOf T g :: rollsL rest W := by
        conv => lhs; rw [← hsplit]
        rw [rolls_two g rest W (T + W) hW (by rw [Int.add_emod_right]; exact hTm) (fun p hpp => by rw [hg] at hpp; have := mem_btw hpp; omega) (fun p hpp => by rw [hrest] at hpp; exact (mem_btw hpp).2.1)]
        rw [rolls_one W T hW hTm g.length g rfl hgl (by omega) (fun q hq => by rw [hg] at hq; exact (mem_btw hq).2) (fun q hq => hs q (hgs.subset hq))]
        rfl
      obtain ⟨i1, i2, i3⟩ := ih rest.length (by omega) rest rfl (by omega) (hp.sublist hrs) (fun p hpp => hm p (hrs.subset hpp)) (fun q hq => hs q (hrs.subset hq))
      have hTr : ∀ r ∈ rollsL rest W, T + W ≤ r.1 ∧ btwL rest r.1 (r.1 + W) = btwL xs r.1 (r.1 + W) := by
        intro r hr
        obtain ⟨j1, j2, j3, j4, j5⟩ := i1 r hr
        have hlow : T + W ≤ r.1 := by
          obtain ⟨q, hq⟩ := List.exists_mem_of_ne_nil _ j2
          have k1 := mem_btw hq
          have k2 : T + W ≤ q.1 := by have := k1.1; rw [hrest] at this; exact (mem_btw this).2.1
          exact mult_lt hW hTm j3 (by omega)
        refine ⟨hlow, ?_⟩
        rw [hrest]
        exact btw_btw xs (T + W) 1000000000001 r.1 (r.1 + W) hlow (fun p hpp => (hm p hpp).2)
      rw [hR]
      refine ⟨?_, ?_, ?_⟩
      · intro r hr
        rcases List.mem_cons.1 hr with rfl | hr
        · show rlOf T g = rlOf T (btwL xs T (T + W)) ∧ btwL xs T (T + W) ≠ [] ∧ T % W = 0 ∧ 0 ≤ T ∧ T < 1000000000001
          rw [← hg]
          exact ⟨rfl, hgne, hTm, hd.1, by omega⟩
        · obtain ⟨j1, j2, j3, j4, j5⟩ := i1 r hr
          have k := (hTr r hr).2
          rw [k] at j1 j2
          exact ⟨j1, j2, j3, j4, j5⟩
      · rw [List.pairwise_cons]
        exact ⟨fun r hr => by have := (hTr r hr).1; show T < r.1; omega, i2⟩
      · unfold cntR at i3 ⊢
        rw [List.map_cons, List.sum_cons]
        show (btwL xs T (T + W)).length + _ = _
        rw [← hg]
        have hc : (rollsL rest W).map (fun r => (btwL xs r.1 (r.1 + W)).length) = (rollsL rest W).map (fun r => (btwL rest r.1 (r.1 + W)).length) := by
          apply List.map_congr_left
          intro r hr
          rw [(hTr r hr).2]
        rw [hc, i3]
        exact hlen
theorem ptsSm_mem {l : List (Int × Int)} (h : ptsSmB l = true) : ∀ q ∈ l, -1000000000 ≤ q.2 ∧ q.2 ≤ 1000000000 := by
  unfold ptsSmB at h
  rw [Bool.and_eq_true, List.all_eq_true] at h
  intro q hq
  have := h.1 q hq
  unfold smB vIn at this
  simpa using this
theorem rollsL_valid {xs : List (Int × Int)} {W : Int} (h : ptsSmB xs = true) (hw : wdB W = true) : rollsOkB (rollsL xs W) W = true := by
  have hk := ptsSmB_ok' h
  have hlen := ptsOkB_len hk
  obtain ⟨hW1, hW2⟩ := wdB_in hw
  obtain ⟨s1, s2, _⟩ := rolls_struct W hW1 xs.length xs rfl hlen (pts_pairwise hk) (pts_mem hk) (ptsSm_mem h)
  have hrl := rollsL_len xs W
  unfold rollsOkB
  rw [hw, decide_eq_true (by omega), Bool.true_and, Bool.true_and]
  unfold gdToR
  rw [List.all_eq_true]
  intro j hj
  have hj : j < (rollsL xs W).length := by simpa using hj
  have eg : (rollsL xs W).getD j z6 = (rollsL xs W)[j] := by rw [List.getD_eq_getElem?_getD, List.getElem?_eq_getElem hj]; rfl
  obtain ⟨j1, j2, j3, j4, j5⟩ := s1 _ (List.getElem_mem hj)
  rw [← eg] at j1 j2 j3 j4 j5
  have hgs := btwL_sub xs ((rollsL xs W).getD j z6).1 (((rollsL xs W).getD j z6).1 + W)
  have hgl := hgs.length_le
  obtain ⟨b1, b2, b3, b4, b5, b6, b7⟩ := bnd_P _ _ rfl (List.length_pos_iff.2 j2) (fun q hq => ptsSm_mem h q (hgs.subset hq))
  have hpos := List.length_pos_iff.2 j2
  apply gdR_ok
  · omega
  · exact j3
  · rw [j1]
    unfold okVB rlOf
    rw [decide_eq_true_iff]
    simp only
    refine ⟨by omega, by omega, by omega, b3, b6, b7, b1, b2⟩
  · rcases Nat.eq_zero_or_pos j with e | e
    · exact .inl e
    · right
      have eg2 : (rollsL xs W).getD (j - 1) z6 = (rollsL xs W)[j - 1] := by rw [List.getD_eq_getElem?_getD, List.getElem?_eq_getElem (by omega)]; rfl
      rw [eg, eg2]
      exact List.pairwise_iff_getElem.1 s2 (j - 1) j (by omega) hj (by omega)

theorem withR_assoc (z y x : R6) : withR z (withR y x) = withR (withR z y) x := by
  unfold withR
  simp only [Prod.mk.injEq]
  refine ⟨trivial, ?_, ?_, ?_, ?_, trivial⟩
  · unfold wrap64; omega
  · unfold wrap64; omega
  · omega
  · omega
theorem withR_win (W : Int) (y x : R6) : withR (winD W y) (winD W x) = winD W (withR y x) := rfl
theorem addS_twice (C : List R6) (a b : R6) (h : a.1 = b.1) : addS (addS C a) b = addS C (withR a b) := by
  have hab : (withR a b).1 = a.1 := rfl
  have hn : ¬ (addS C a).length = 0 := by have := addS_pos C a; omega
  rw [addS_in hn (by rw [lastR_addS]; exact h)]
  by_cases hc : C.length = 0 ∨ ¬ (lastR C).1 = a.1
  · rw [addS_app hc, lastR_app, addS_app (by rw [hab]; exact hc), List.length_append]
    show (C ++ [a]).set (C.length + 1 - 1) _ = _
    rw [Nat.add_sub_cancel, List.set_append, if_neg (by omega), Nat.sub_self]
    rfl
  · have h1 : ¬ C.length = 0 := fun e => hc (.inl e)
    have h2 : (lastR C).1 = a.1 := by
      by_cases e : (lastR C).1 = a.1
      · exact e
      · exact absurd (.inr e) hc
    rw [addS_in h1 h2, addS_in h1 (by rw [hab]; exact h2), lastR_set _ _ h1, List.length_set, List.set_set, withR_assoc]
theorem win_one {w to : Int} (hw : 1 ≤ w) (ht : 1 ≤ to) (hm : to % w = 0) (p : Int × Int) : winD to (oneR w p) = oneR to p := by
  unfold winD oneR
  simp only [Prod.mk.injEq, and_true]
  have h1 := Int.emod_add_mul_ediv to w
  rw [hm, Int.zero_add] at h1
  have h2 : p.1 / w * w / to = p.1 / to := by
    rw [← h1, ← Int.ediv_ediv_of_nonneg (by omega), ← Int.ediv_ediv_of_nonneg (by omega), Int.mul_ediv_cancel _ (by omega)]
  rw [h2]
theorem coar_rolls (l : List (Int × Int)) {w to : Int} (hw : 1 ≤ w) (ht : 1 ≤ to) (hm : to % w = 0) : coarL (rollsL l w) to = rollsL l to := by
  suffices H : ∀ n, ∀ l : List (Int × Int), l.length = n → coarL (rollsL l w) to = rollsL l to from H _ l rfl
  intro n
  induction n with
  | zero => intro l hl; obtain rfl : l = [] := List.eq_nil_of_length_eq_zero hl; rfl
  | succ n ih =>
    intro l hl
    rcases List.eq_nil_or_concat l with rfl | ⟨l', p, rfl⟩
    · simp at hl
    · rw [List.concat_eq_append] at hl ⊢
      have ih' := ih l' (by simpa using hl)
      have hsn : ∀ W, rollsL (l' ++ [p]) W = addS (rollsL l' W) (oneR W p) := fun W => by unfold rollsL; rw [List.map_append, List.foldl_append]; rfl
      rw [hsn, hsn, ← ih', ← win_one hw ht hm p]
      have hcs : ∀ (R : List R6) (x : R6), coarL (R ++ [x]) to = addS (coarL R to) (winD to x) := fun R x => by unfold coarL; rw [List.map_append, List.foldl_append]; rfl
      generalize rollsL l' w = R
      generalize oneR w p = x
      rcases List.eq_nil_or_concat R with rfl | ⟨R', y, rfl⟩
      · rfl
      · rw [List.concat_eq_append]
        by_cases e : y.1 = x.1
        · rw [addS_in (by simp) (by rw [lastR_app]; exact e), lastR_app, List.length_append]
          show coarL ((R' ++ [y]).set (R'.length + 1 - 1) _) to = _
          rw [Nat.add_sub_cancel, List.set_append, if_neg (by omega), Nat.sub_self]
          show coarL (R' ++ [withR y x]) to = _
          rw [hcs, hcs, addS_twice _ _ _ (show (winD to y).1 = (winD to x).1 from by unfold winD; rw [e]), withR_win]
        · rw [addS_app (.inr (by rw [lastR_app]; exact e)), hcs]
end Go.Proofs.Ythmkjenamnmbiab
