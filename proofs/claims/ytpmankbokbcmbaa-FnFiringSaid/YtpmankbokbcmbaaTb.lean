/- Spans: what Above and Firing answer, and plain facts on it. -/
import Derived.Test.YtpmankbokbcmbaaYf
set_option linter.unusedVariables false
set_option linter.unusedSimpArgs false
namespace Go.Proofs.Ytpmankbokbcmbaa
open Go.RowKit

def spL (lim : Int) : Option (Int × Int) → List (Int × Int) → List (Int × Int)
  | none, [] => []
  | some s, [] => [s]
  | none, p :: ps => if lim < p.2 then spL lim (some (p.1, p.1)) ps else spL lim none ps
  | some s, p :: ps => if lim < p.2 then spL lim (some (s.1, p.1)) ps else s :: spL lim none ps
def longB (long : Int) (s : Int × Int) : Bool := decide (long ≤ s.2 - s.1)
def abvL (xs : List (Int × Int)) (lim long : Int) : List (Int × Int) := (spL lim none xs).filter (longB long)
theorem spL_len (lim : Int) : ∀ (ps : List (Int × Int)) (st : Option (Int × Int)), (spL lim st ps).length ≤ ps.length + (if st.isSome then 1 else 0)
  | [], none => by simp [spL]
  | [], some s => by simp [spL]
  | p :: ps, none => by
    have h1 := spL_len lim ps (some (p.1, p.1))
    have h2 := spL_len lim ps none
    unfold spL
    split
    · simp at h1 ⊢; omega
    · simp at h2 ⊢; omega
  | p :: ps, some s => by
    have h1 := spL_len lim ps (some (s.1, p.1))
    have h2 := spL_len lim ps none
    unfold spL
    split
    · simp at h1 ⊢; omega
    · simp at h2 ⊢; omega
theorem spL_mem (lim : Int) (T : Int → Prop) : ∀ (ps : List (Int × Int)) (st : Option (Int × Int)), (∀ p ∈ ps, T p.1) → (∀ s, st = some s → T s.1 ∧ T s.2) → ∀ s ∈ spL lim st ps, T s.1 ∧ T s.2
  | [], none, _, _ => by intro s hs; simp [spL] at hs
  | [], some s, _, h2 => by intro u hu; simp [spL] at hu; subst hu; exact h2 _ rfl
  | p :: ps, none, h1, _ => by
    intro u hu
    have hp := h1 p (by simp)
    have hps : ∀ q ∈ ps, T q.1 := fun q hq => h1 q (by simp [hq])
    unfold spL at hu
    split at hu
    · exact spL_mem lim T ps (some (p.1, p.1)) hps (fun s hs => by injection hs with e; subst e; exact ⟨hp, hp⟩) u hu
    · exact spL_mem lim T ps none hps (fun s hs => by cases hs) u hu
  | p :: ps, some s, h1, h2 => by
    intro u hu
    have hp := h1 p (by simp)
    have hps : ∀ q ∈ ps, T q.1 := fun q hq => h1 q (by simp [hq])
    unfold spL at hu
    split at hu
    · exact spL_mem lim T ps (some (s.1, p.1)) hps (fun s' hs => by injection hs with e; subst e; exact ⟨(h2 s rfl).1, hp⟩) u hu
    · rcases List.mem_cons.1 hu with e | hu
      · subst e; exact h2 _ rfl
      · exact spL_mem lim T ps none hps (fun s hs => by cases hs) u hu
theorem dropP_getD {xs : List (Int × Int)} {k : Nat} (h : k < xs.length) : xs.drop k = xs.getD k (0, 0) :: xs.drop (k + 1) := by
  rw [List.drop_eq_getElem_cons h]; simp [List.getD_eq_getElem?_getD, h]
theorem spL_hi {xs : List (Int × Int)} {lim : Int} {k : Nat} (hk : k < xs.length) (h : lim < (xs.getD k (0, 0)).2) : spL lim none (xs.drop k) = spL lim (some ((xs.getD k (0, 0)).1, (xs.getD k (0, 0)).1)) (xs.drop (k + 1)) := by
  rw [dropP_getD hk]; simp only [spL]; rw [if_pos h]
theorem spL_lo {xs : List (Int × Int)} {lim : Int} {k : Nat} (hk : k < xs.length) (h : ¬ lim < (xs.getD k (0, 0)).2) : spL lim none (xs.drop k) = spL lim none (xs.drop (k + 1)) := by
  rw [dropP_getD hk]; simp only [spL]; rw [if_neg h]
theorem spL_hi' {xs : List (Int × Int)} {lim : Int} {k : Nat} {s : Int × Int} (hk : k < xs.length) (h : lim < (xs.getD k (0, 0)).2) : spL lim (some s) (xs.drop k) = spL lim (some (s.1, (xs.getD k (0, 0)).1)) (xs.drop (k + 1)) := by
  rw [dropP_getD hk]; simp only [spL]; rw [if_pos h]
theorem spL_lo' {xs : List (Int × Int)} {lim : Int} {k : Nat} {s : Int × Int} (hk : k < xs.length) (h : ¬ lim < (xs.getD k (0, 0)).2) : spL lim (some s) (xs.drop k) = s :: spL lim none (xs.drop (k + 1)) := by
  rw [dropP_getD hk]; simp only [spL]; rw [if_neg h]
theorem spL_end (xs : List (Int × Int)) (lim : Int) : spL lim none (xs.drop xs.length) = [] := by simp [spL]
theorem spL_end' (xs : List (Int × Int)) (lim : Int) (s : Int × Int) : spL lim (some s) (xs.drop xs.length) = [s] := by simp [spL]
/-- the end of the run from i -/
def isEnd (xs : List (Int × Int)) (lim : Int) (i j : Nat) : Prop := i ≤ j ∧ j ≤ xs.length ∧ (∀ m, i ≤ m → m < j → lim < (xs.getD m (0, 0)).2) ∧ (j < xs.length → ¬ lim < (xs.getD j (0, 0)).2)
theorem spL_run {xs : List (Int × Int)} {lim : Int} {i : Nat} : ∀ d, i + d + 1 ≤ xs.length → (∀ m, i ≤ m → m < i + d + 1 → lim < (xs.getD m (0, 0)).2) →
    spL lim none (xs.drop i) = spL lim (some ((xs.getD i (0, 0)).1, (xs.getD (i + d) (0, 0)).1)) (xs.drop (i + d + 1))
  | 0, h, hm => spL_hi (by omega) (hm i (by omega) (by omega))
  | d + 1, h, hm => by
    rw [spL_run d (by omega) (fun m h1 h2 => hm m h1 (by omega)), spL_hi' (by omega) (hm _ (by omega) (by omega))]
    rfl
theorem spL_isEnd {xs : List (Int × Int)} {lim : Int} {i j : Nat} (h : isEnd xs lim i j) (hj : i < j) :
    spL lim none (xs.drop i) = ((xs.getD i (0, 0)).1, (xs.getD (j - 1) (0, 0)).1) :: spL lim none (xs.drop (j + 1)) := by
  obtain ⟨h1, h2, h3, h4⟩ := h
  obtain ⟨d, rfl⟩ : ∃ d, j = i + d + 1 := ⟨j - i - 1, by omega⟩
  rw [spL_run d h2 h3, show i + d + 1 - 1 = i + d by omega]
  by_cases hl : i + d + 1 < xs.length
  · rw [spL_lo' hl (h4 hl)]
  · have e : i + d + 1 = xs.length := by omega
    rw [e, spL_end', List.drop_eq_nil_of_le (by omega)]; rfl
theorem spL_isEnd0 {xs : List (Int × Int)} {lim : Int} {i : Nat} (hi : i < xs.length) (h : isEnd xs lim i i) : spL lim none (xs.drop i) = spL lim none (xs.drop (i + 1)) :=
  spL_lo hi (h.2.2.2 hi)
/-- where the last run begins (the number of points if the last one is not above) -/
def rsN (xs : List (Int × Int)) (lim : Int) : Nat → Nat
  | 0 => 0
  | k + 1 => if lim < (xs.getD k (0, 0)).2 then rsN xs lim k else k + 1
theorem rsN_le (xs : List (Int × Int)) (lim : Int) : ∀ n, rsN xs lim n ≤ n
  | 0 => Nat.le_refl _
  | k + 1 => by
    have := rsN_le xs lim k
    unfold rsN; split <;> omega
theorem rsN_hi (xs : List (Int × Int)) (lim : Int) : ∀ n m, rsN xs lim n ≤ m → m < n → lim < (xs.getD m (0, 0)).2
  | 0, m, _, h => absurd h (Nat.not_lt_zero _)
  | k + 1, m, h1, h2 => by
    unfold rsN at h1
    split at h1
    · by_cases e : m = k
      · subst e; assumption
      · exact rsN_hi xs lim k m h1 (by omega)
    · omega
theorem rsN_lo (xs : List (Int × Int)) (lim : Int) : ∀ n, 0 < rsN xs lim n → ¬ lim < (xs.getD (rsN xs lim n - 1) (0, 0)).2
  | 0, h => absurd h (Nat.lt_irrefl _)
  | k + 1, h => by
    unfold rsN at h ⊢
    split
    · rename_i hp; rw [if_pos hp] at h; exact rsN_lo xs lim k h
    · rename_i hp; simpa using hp
theorem spL_low (lim : Int) (r : List (Int × Int)) (q : Int × Int) (hq : ¬ lim < q.2) : ∀ (a : List (Int × Int)) (st : Option (Int × Int)), ∃ A, spL lim st (a ++ q :: r) = A ++ spL lim none r
  | [], none => ⟨[], by simp only [List.nil_append, spL]; rw [if_neg hq]⟩
  | [], some s => ⟨[s], by simp only [List.nil_append, spL]; rw [if_neg hq]; rfl⟩
  | p :: a, none => by
    obtain ⟨A1, h1⟩ := spL_low lim r q hq a (some (p.1, p.1))
    obtain ⟨A2, h2⟩ := spL_low lim r q hq a none
    simp only [List.cons_append, spL]
    split
    · exact ⟨A1, h1⟩
    · exact ⟨A2, h2⟩
  | p :: a, some s => by
    obtain ⟨A1, h1⟩ := spL_low lim r q hq a (some (s.1, p.1))
    obtain ⟨A2, h2⟩ := spL_low lim r q hq a none
    simp only [List.cons_append, spL]
    split
    · exact ⟨A1, h1⟩
    · exact ⟨s :: A2, by rw [h2]; rfl⟩
theorem spL_last (xs : List (Int × Int)) (lim : Int) (h : rsN xs lim xs.length < xs.length) :
    ∃ A, spL lim none xs = A ++ [((xs.getD (rsN xs lim xs.length) (0, 0)).1, (xs.getD (xs.length - 1) (0, 0)).1)] := by
  have hh := rsN_hi xs lim xs.length
  have hl := rsN_lo xs lim xs.length
  generalize rsN xs lim xs.length = k at *
  have hrun : spL lim none (xs.drop k) = [((xs.getD k (0, 0)).1, (xs.getD (xs.length - 1) (0, 0)).1)] := by
    have e := spL_isEnd (i := k) (j := xs.length) ⟨by omega, Nat.le_refl _, hh, fun h => absurd h (Nat.lt_irrefl _)⟩ h
    rw [e, List.drop_eq_nil_of_le (by omega)]; rfl
  by_cases h0 : k = 0
  · subst h0; exact ⟨[], by simpa using hrun⟩
  · have hk1 : k - 1 < xs.length := by omega
    obtain ⟨A, hA⟩ := spL_low lim (xs.drop k) (xs.getD (k - 1) (0, 0)) (hl (by omega)) (xs.take (k - 1)) none
    refine ⟨A, ?_⟩
    rw [← hrun, ← hA]
    have e := dropP_getD hk1
    rw [show k - 1 + 1 = k by omega] at e
    rw [← e, List.take_append_drop]
theorem isEnd_ex (xs : List (Int × Int)) (lim : Int) : ∀ d i, xs.length - i = d → i ≤ xs.length → ∃ j, isEnd xs lim i j
  | 0, i, h, hi => ⟨i, Nat.le_refl _, hi, fun m h1 h2 => by omega, fun h2 => by omega⟩
  | d + 1, i, h, hi => by
    by_cases hh : lim < (xs.getD i (0, 0)).2
    · obtain ⟨j, h1, h2, h3, h4⟩ := isEnd_ex xs lim d (i + 1) (by omega) (by omega)
      refine ⟨j, by omega, h2, fun m m1 m2 => ?_, h4⟩
      by_cases e : m = i
      · subst e; exact hh
      · exact h3 m (by omega) m2
    · exact ⟨i, Nat.le_refl _, hi, fun m h1 h2 => by omega, fun _ => hh⟩
def runOf (xs : List (Int × Int)) (lim : Int) (q : Nat × Nat) : Prop :=
  q.1 ≤ q.2 ∧ q.2 < xs.length ∧ (∀ m, q.1 ≤ m → m ≤ q.2 → lim < (xs.getD m (0, 0)).2) ∧ (q.1 = 0 ∨ ¬ lim < (xs.getD (q.1 - 1) (0, 0)).2) ∧ (q.2 + 1 < xs.length → ¬ lim < (xs.getD (q.2 + 1) (0, 0)).2)
def spOf (xs : List (Int × Int)) (q : Nat × Nat) : Int × Int := ((xs.getD q.1 (0, 0)).1, (xs.getD q.2 (0, 0)).1)
theorem spL_idx (xs : List (Int × Int)) (lim : Int) : ∀ d k, xs.length - k ≤ d → (k = 0 ∨ xs.length < k ∨ ¬ lim < (xs.getD (k - 1) (0, 0)).2) →
    ∃ L : List (Nat × Nat), spL lim none (xs.drop k) = L.map (spOf xs) ∧ (∀ q ∈ L, k ≤ q.1 ∧ runOf xs lim q) ∧ L.Pairwise (fun p q => p.2 < q.1) ∧ ∀ m, k ≤ m → m < xs.length → lim < (xs.getD m (0, 0)).2 → ∃ q ∈ L, q.1 ≤ m ∧ m ≤ q.2 := by
  intro d
  induction d with
  | zero =>
    intro k h _
    refine ⟨[], ?_, by simp, by simp, fun m h1 h2 => by omega⟩
    rw [List.drop_eq_nil_of_le (by omega)]; rfl
  | succ d ih =>
    intro k h hk
    by_cases hlt : k < xs.length
    · by_cases hh : lim < (xs.getD k (0, 0)).2
      · obtain ⟨j, hj⟩ := isEnd_ex xs lim _ k rfl (by omega)
        have hkj : k < j := by
          rcases Nat.lt_or_ge k j with h1 | h1
          · exact h1
          · have e : j = k := by have := hj.1; omega
            subst e; exact absurd hh (hj.2.2.2 hlt)
        obtain ⟨L, h1, h2, h3, h4⟩ := ih (j + 1) (by have := hj.2.1; omega) (by
          by_cases e : j < xs.length
          · exact .inr (.inr (by simpa using hj.2.2.2 e))
          · exact .inr (.inl (by omega)))
        refine ⟨(k, j - 1) :: L, ?_, ?_, ?_, ?_⟩
        · rw [spL_isEnd hj hkj, h1]; rfl
        · intro q hq
          rcases List.mem_cons.1 hq with e | hq
          · subst e
            refine ⟨Nat.le_refl _, by simp only []; omega, by have := hj.2.1; simp only []; omega, fun m m1 m2 => hj.2.2.1 m m1 (by simp only [] at m2; omega), hk.elim .inl (fun h => h.elim (fun h => absurd hlt (by omega)) .inr), fun hb => ?_⟩
            simp only [] at hb ⊢
            rw [show j - 1 + 1 = j by omega] at hb ⊢
            exact hj.2.2.2 hb
          · have := h2 q hq
            exact ⟨by omega, this.2⟩
        · refine List.pairwise_cons.2 ⟨fun q hq => ?_, h3⟩
          have := (h2 q hq).1
          simp only []; omega
        · intro m m1 m2 m3
          by_cases e : m < j
          · exact ⟨(k, j - 1), by simp, m1, by simp only []; omega⟩
          · by_cases e2 : m = j
            · subst e2; exact absurd m3 (hj.2.2.2 m2)
            · obtain ⟨q, hq, hq2⟩ := h4 m (by omega) m2 m3
              exact ⟨q, by simp [hq], hq2⟩
      · obtain ⟨L, h1, h2, h3, h4⟩ := ih (k + 1) (by omega) (.inr (.inr (by simpa using hh)))
        refine ⟨L, by rw [spL_lo hlt hh, h1], fun q hq => ⟨by have := (h2 q hq).1; omega, (h2 q hq).2⟩, h3, fun m m1 m2 m3 => ?_⟩
        by_cases e : m = k
        · subst e; exact absurd m3 hh
        · exact h4 m (by omega) m2 m3
    · refine ⟨[], ?_, by simp, by simp, fun m h1 h2 => by omega⟩
      rw [List.drop_eq_nil_of_le (by omega)]; rfl
def upT (xs : List (Int × Int)) : Prop := ∀ i j, i < j → j < xs.length → (xs.getD i (0, 0)).1 < (xs.getD j (0, 0)).1
theorem upT_le {xs : List (Int × Int)} (h : upT xs) {i j : Nat} (hij : i ≤ j) (hj : j < xs.length) : (xs.getD i (0, 0)).1 ≤ (xs.getD j (0, 0)).1 := by
  by_cases e : i = j
  · subst e; exact Int.le_refl _
  · exact Int.le_of_lt (h i j (by omega) hj)
theorem upT_inv {xs : List (Int × Int)} (h : upT xs) {i j : Nat} (hi : i < xs.length) (hle : (xs.getD i (0, 0)).1 ≤ (xs.getD j (0, 0)).1) : i ≤ j := by
  by_cases e : i ≤ j
  · exact e
  · have := h j i (by omega) hi; omega
theorem abv_idx (xs : List (Int × Int)) (lim long : Int) : ∃ L : List (Nat × Nat), abvL xs lim long = L.map (spOf xs) ∧ (∀ q ∈ L, runOf xs lim q ∧ long ≤ (spOf xs q).2 - (spOf xs q).1) ∧ L.Pairwise (fun p q => p.2 < q.1) ∧
    ∀ m, m < xs.length → lim < (xs.getD m (0, 0)).2 → ∃ q, runOf xs lim q ∧ q.1 ≤ m ∧ m ≤ q.2 ∧ (long ≤ (spOf xs q).2 - (spOf xs q).1 → q ∈ L) := by
  obtain ⟨L, h1, h2, h3, h4⟩ := spL_idx xs lim xs.length 0 (by omega) (.inl rfl)
  simp only [List.drop_zero] at h1
  refine ⟨L.filter (fun q => longB long (spOf xs q)), ?_, ?_, ?_, ?_⟩
  · unfold abvL; rw [h1, List.filter_map]; rfl
  · intro q hq
    rw [List.mem_filter] at hq
    exact ⟨(h2 q hq.1).2, of_decide_eq_true hq.2⟩
  · exact h3.filter _
  · intro m m1 m2
    obtain ⟨q, hq, hq2⟩ := h4 m (by omega) m1 m2
    exact ⟨q, (h2 q hq).2, hq2.1, hq2.2, fun hl => List.mem_filter.2 ⟨hq, decide_eq_true hl⟩⟩
theorem getD_map_sp (xs : List (Int × Int)) (L : List (Nat × Nat)) (i : Nat) (h : i < L.length) : (L.map (spOf xs)).getD i (0, 0) = spOf xs L[i] := by
  simp [List.getD_eq_getElem?_getD, h]
def inS (s : Int × Int) (t : Int) : Bool := decide (s.1 ≤ t) && decide (t ≤ s.2)
/-- what FnAbove asks of each span -/
theorem abv_facts {xs : List (Int × Int)} (hT : upT xs) (lim long : Int) {i : Nat} (hi : i < (abvL xs lim long).length) :
    long ≤ ((abvL xs lim long).getD i (0, 0)).2 - ((abvL xs lim long).getD i (0, 0)).1 ∧
    (0 < i → ((abvL xs lim long).getD (i - 1) (0, 0)).2 < ((abvL xs lim long).getD i (0, 0)).1) ∧
    (∀ k, k < xs.length → inS ((abvL xs lim long).getD i (0, 0)) (xs.getD k (0, 0)).1 = true → lim < (xs.getD k (0, 0)).2) ∧
    (∀ k, 0 < k → k < xs.length → lim < (xs.getD k (0, 0)).2 → lim < (xs.getD (k - 1) (0, 0)).2 → inS ((abvL xs lim long).getD i (0, 0)) (xs.getD k (0, 0)).1 = inS ((abvL xs lim long).getD i (0, 0)) (xs.getD (k - 1) (0, 0)).1) := by
  obtain ⟨L, h1, h2, h3, _⟩ := abv_idx xs lim long
  rw [h1] at hi ⊢
  rw [List.length_map] at hi
  rw [getD_map_sp xs L i hi]
  obtain ⟨⟨r1, r2, r3, r4, r5⟩, hlong⟩ := h2 L[i] (List.getElem_mem hi)
  refine ⟨hlong, fun h0 => ?_, fun k hk hin => ?_, fun k h0 hk ha hb => ?_⟩
  · rw [getD_map_sp xs L (i - 1) (by omega)]
    have := List.pairwise_iff_getElem.1 h3 (i - 1) i (by omega) hi (by omega)
    exact hT _ _ this (by omega)
  · unfold inS spOf at hin
    rw [Bool.and_eq_true, decide_eq_true_iff, decide_eq_true_iff] at hin
    exact r3 k (upT_inv hT (by omega) hin.1) (upT_inv hT hk hin.2)
  · have key : ∀ k, k < xs.length → (inS (spOf xs L[i]) (xs.getD k (0, 0)).1 = true ↔ L[i].1 ≤ k ∧ k ≤ L[i].2) := by
      intro k hk
      unfold inS spOf
      rw [Bool.and_eq_true, decide_eq_true_iff, decide_eq_true_iff]
      exact ⟨fun h => ⟨upT_inv hT (by omega) h.1, upT_inv hT hk h.2⟩, fun h => ⟨upT_le hT h.1 hk, upT_le hT h.2 (by omega)⟩⟩
    rw [Bool.eq_iff_iff, key k hk, key (k - 1) (by omega)]
    constructor
    · rintro ⟨a1, a2⟩
      refine ⟨?_, by omega⟩
      rcases Nat.lt_or_ge (k - 1) L[i].1 with h | h
      · have e : L[i].1 = k := by omega
        rcases r4 with r4 | r4
        · omega
        · rw [e] at r4; exact absurd hb r4
      · exact h
    · rintro ⟨a1, a2⟩
      refine ⟨by omega, ?_⟩
      rcases Nat.lt_or_ge L[i].2 k with h | h
      · have e : L[i].2 + 1 = k := by omega
        rw [e] at r5; exact absurd ha (r5 hk)
      · exact h
/-- a span above a higher limit lies within one above a lower one -/
theorem abv_higher {xs : List (Int × Int)} (hT : upT xs) {lim low : Int} (hl : low ≤ lim) (long : Int) {i : Nat} (hi : i < (abvL xs lim long).length) :
    ∃ k, k < (abvL xs low long).length ∧ ((abvL xs low long).getD k (0, 0)).1 ≤ ((abvL xs lim long).getD i (0, 0)).1 ∧ ((abvL xs lim long).getD i (0, 0)).2 ≤ ((abvL xs low long).getD k (0, 0)).2 := by
  obtain ⟨L, h1, h2, h3, _⟩ := abv_idx xs lim long
  obtain ⟨L', h1', h2', h3', h4'⟩ := abv_idx xs low long
  rw [h1] at hi ⊢
  rw [h1']
  rw [List.length_map] at hi
  rw [getD_map_sp xs L i hi, List.length_map]
  obtain ⟨⟨r1, r2, r3, r4, r5⟩, hlong⟩ := h2 L[i] (List.getElem_mem hi)
  obtain ⟨q, ⟨q1, q2, q3, q4, q5⟩, qa, qb, qc⟩ := h4' L[i].1 (by omega) (by have := r3 L[i].1 (Nat.le_refl _) r1; omega)
  have hb : L[i].2 ≤ q.2 := by
    rcases Nat.lt_or_ge q.2 L[i].2 with h | h
    · have := r3 (q.2 + 1) (by omega) (by omega)
      exact absurd (show low < (xs.getD (q.2 + 1) (0, 0)).2 by omega) (q5 (by omega))
    · exact h
  have e1 : (spOf xs q).1 ≤ (spOf xs L[i]).1 := upT_le hT qa (by omega)
  have e2 : (spOf xs L[i]).2 ≤ (spOf xs q).2 := upT_le hT hb q2
  have hq := qc (by omega)
  obtain ⟨k, hk, rfl⟩ := List.getElem_of_mem hq
  exact ⟨k, hk, by rw [getD_map_sp xs L' k hk]; exact e1, by rw [getD_map_sp xs L' k hk]; exact e2⟩
theorem rsN_congr {xs ys : List (Int × Int)} (lim : Int) : ∀ n, (∀ k, k < n → xs.getD k (0, 0) = ys.getD k (0, 0)) → rsN xs lim n = rsN ys lim n
  | 0, _ => rfl
  | n + 1, h => by
    unfold rsN
    rw [h n (Nat.lt_succ_self _), rsN_congr lim n (fun k hk => h k (by omega))]
theorem getD_snocP_lt (xs : List (Int × Int)) (p : Int × Int) {k : Nat} (h : k < xs.length) : (xs ++ [p]).getD k (0, 0) = xs.getD k (0, 0) := by
  simp [List.getD_eq_getElem?_getD, List.getElem?_append_left h]
theorem getD_snocP_eq (xs : List (Int × Int)) (p : Int × Int) : (xs ++ [p]).getD xs.length (0, 0) = p := by
  simp [List.getD_eq_getElem?_getD]
/-- the last span, were there one more point as high -/
theorem fir_more {xs : List (Int × Int)} {lim long now : Int} {v : Int} (hT : upT (xs ++ [(now, v)])) (h0 : 0 < xs.length) (hv : lim < v) (hl : lim < (xs.getD (xs.length - 1) (0, 0)).2) :
    (long ≤ now - (xs.getD (rsN xs lim xs.length) (0, 0)).1 → ∃ A, abvL (xs ++ [(now, v)]) lim long = A ++ [((xs.getD (rsN xs lim xs.length) (0, 0)).1, now)]) ∧
    (¬ long ≤ now - (xs.getD (rsN xs lim xs.length) (0, 0)).1 → ∀ s ∈ abvL (xs ++ [(now, v)]) lim long, s.2 ≠ now) := by
  have hrs : rsN (xs ++ [(now, v)]) lim (xs ++ [(now, v)]).length = rsN xs lim xs.length := by
    rw [List.length_append, List.length_singleton]
    show rsN (xs ++ [(now, v)]) lim (xs.length + 1) = _
    rw [rsN, getD_snocP_eq, if_pos hv]
    exact rsN_congr lim _ (fun k hk => getD_snocP_lt xs _ hk)
  have hlt : rsN xs lim xs.length < xs.length := by
    obtain ⟨m, hm⟩ : ∃ m, xs.length = m + 1 := ⟨xs.length - 1, by omega⟩
    rw [hm] at hl ⊢
    rw [rsN, if_pos (by simpa using hl)]
    have := rsN_le xs lim m
    omega
  have hlast := spL_last (xs ++ [(now, v)]) lim (by rw [hrs, List.length_append, List.length_singleton]; omega)
  rw [hrs, List.length_append, List.length_singleton, Nat.add_sub_cancel, getD_snocP_eq, getD_snocP_lt xs _ hlt] at hlast
  obtain ⟨A, hA⟩ := hlast
  have hh := rsN_hi (xs ++ [(now, v)]) lim (xs ++ [(now, v)]).length
  have hlo := rsN_lo (xs ++ [(now, v)]) lim (xs ++ [(now, v)]).length
  rw [hrs] at hh hlo
  have hg := getD_snocP_lt xs (now, v) hlt
  generalize rsN xs lim xs.length = r at *
  constructor
  · intro hlong
    refine ⟨A.filter (longB long), ?_⟩
    unfold abvL
    rw [hA, List.filter_append]
    rw [List.filter_cons, if_pos (show longB long _ = true from decide_eq_true hlong)]
    rfl
  · intro hlong s hs e
    obtain ⟨L, h1, h2, h3, _⟩ := abv_idx (xs ++ [(now, v)]) lim long
    rw [h1, List.mem_map] at hs
    obtain ⟨q, hq, rfl⟩ := hs
    obtain ⟨⟨r1, r2, r3, r4, r5⟩, hq2⟩ := h2 q hq
    have hn : (xs ++ [(now, v)]).length = xs.length + 1 := by simp
    have e2 : q.2 = xs.length := by
      rcases Nat.lt_or_ge q.2 xs.length with h | h
      · have h5 := hT q.2 xs.length h (by omega)
        rw [getD_snocP_eq] at h5
        unfold spOf at e
        simp only [] at e h5
        omega
      · omega
    have e1 : q.1 = r := by
      rcases Nat.lt_trichotomy q.1 r with h | h | h
      · exact absurd (r3 (r - 1) (by omega) (by omega)) (hlo (by omega))
      · exact h
      · rcases r4 with r4 | r4
        · omega
        · exact absurd (hh (q.1 - 1) (by omega) (by omega)) r4
    unfold spOf at hq2 e
    rw [e1, hg] at hq2
    simp only [] at hq2 e
    omega

def abvM (xs : List (Int × Int)) (lim long : Int) : List (Int × Int) := if ptsOkB xs = true ∧ 0 ≤ long then abvL xs lim long else []
theorem ptsOkB_atT {l : List (Int × Int)} (h : ptsOkB l = true) {j : Nat} (hj : j < l.length) : (0 ≤ (l.getD j (0, 0)).1 ∧ (l.getD j (0, 0)).1 ≤ 1000000000000) ∧ (j = 0 ∨ (l.getD (j - 1) (0, 0)).1 < (l.getD j (0, 0)).1) := by
  unfold ptsOkB timesOkB at h
  rw [Bool.and_eq_true] at h
  have := goodTo_at h.2 (j := j) (by simpa using hj)
  unfold goodAt at this
  rw [tsOf_getD, tsOf_getD] at this
  simp only [Bool.and_eq_true, Bool.or_eq_true, decide_eq_true_eq] at this
  exact this
theorem upT_of {xs : List (Int × Int)} (h : ptsOkB xs = true) : upT xs := by
  have key : ∀ (d i : Nat), i + d + 1 < xs.length → (xs.getD i (0, 0)).1 < (xs.getD (i + d + 1) (0, 0)).1 := by
    intro d
    induction d with
    | zero =>
      intro i hi
      rcases (ptsOkB_atT h (j := i + 1) (by omega)).2 with e | e
      · omega
      · simpa using e
    | succ d ih =>
      intro i hi
      have h1 := ih i (by omega)
      rcases (ptsOkB_atT h (j := i + (d + 1) + 1) hi).2 with e | e
      · omega
      · have e2 : i + (d + 1) + 1 - 1 = i + d + 1 := by omega
        rw [e2] at e
        omega
  intro i j hij hj
  have := key (j - i - 1) i (by omega)
  rwa [show i + (j - i - 1) + 1 = j by omega] at this
theorem abvL_len (xs : List (Int × Int)) (lim long : Int) : (abvL xs lim long).length ≤ xs.length := by
  have h1 := spL_len lim xs none
  have h2 := List.length_filter_le (longB long) (spL lim none xs)
  unfold abvL; simp at h1; omega
theorem spL_rng (xs : List (Int × Int)) (lim : Int) (h : ∀ j, Rng (xs.getD j (0, 0)).1 ∧ Rng (xs.getD j (0, 0)).2) : ∀ s ∈ spL lim none xs, Rng s.1 ∧ Rng s.2 :=
  spL_mem lim Rng xs none (fun p hp => (prng_mem h p hp).1) (fun s hs => by cases hs)
theorem spL_ok (xs : List (Int × Int)) (lim : Int) (h : ∀ j, Rng (xs.getD j (0, 0)).1 ∧ Rng (xs.getD j (0, 0)).2) (hl : xs.length ≤ 1048576) :
    (∀ j, Rng ((spL lim none xs).getD j (0, 0)).1 ∧ Rng ((spL lim none xs).getD j (0, 0)).2) ∧ (spL lim none xs).length ≤ 1048576 :=
  ⟨prng_of (spL_rng xs lim h), by have := spL_len lim xs none; simp at this; omega⟩
theorem abvM_ok (xs : List (Int × Int)) (lim long : Int) (h : ∀ j, Rng (xs.getD j (0, 0)).1 ∧ Rng (xs.getD j (0, 0)).2) (hl : xs.length ≤ 1048576) :
    (∀ j, Rng ((abvM xs lim long).getD j (0, 0)).1 ∧ Rng ((abvM xs lim long).getD j (0, 0)).2) ∧ (abvM xs lim long).length ≤ 1048576 := by
  unfold abvM
  split
  · exact ⟨prng_of (fun s hs => spL_rng xs lim h s (List.mem_filter.1 (show s ∈ (spL lim none xs).filter (longB long) from hs)).1), by have := abvL_len xs lim long; omega⟩
  · exact ⟨fun j => ⟨by simpa using rng_zero, by simpa using rng_zero⟩, by simp⟩
def firB (xs : List (Int × Int)) (lim long now : Int) : Bool :=
  ptsOkB xs && (vIn long 0 1000000000000 && (vIn now 0 1000000000000 && (decide (0 < xs.length) && (decide (rsN xs lim xs.length < xs.length) && (decide ((xs.getD (xs.length - 1) (0, 0)).1 ≤ now) && decide (long ≤ now - (xs.getD (rsN xs lim xs.length) (0, 0)).1))))))
end Go.Proofs.Ytpmankbokbcmbaa
