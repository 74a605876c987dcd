/- Plain facts on digits and parts of lists of bits; no Go. -/
import Derived.Test.YtbgogpfhdfgjeaaBn
set_option linter.unusedVariables false
set_option linter.unusedSimpArgs false
namespace Go.Proofs.Ytbgogpfhdfgjeaa.BM
theorem digits_ofBits (f : Nat → Bool) (n : Nat) : digits (ofBits f n) n = (List.range n).map f := by
  apply list_ext_getD (by simp [digits])
  intro j hj
  rw [digits_length] at hj
  rw [digits_getD, if_pos hj, testBit_ofBits, if_pos (by omega), show n - 1 - (n - 1 - j) = j by omega]
  simp [List.getD_eq_getElem?_getD, hj]
theorem part_step (l : List Bool) (a k s : Nat) (h : a + k + s ≤ l.length) :
    (l.drop a).take (k + s) = (l.drop a).take k ++ (List.range s).map fun j => l.getD (a + k + j) false := by
  apply list_ext_getD (by simp; omega)
  intro j hj
  simp only [List.length_take, List.length_drop] at hj
  rw [getD_append]
  have hl : ((l.drop a).take k).length = k := by simp; omega
  rw [hl]
  by_cases hk : j < k
  · rw [if_pos hk]
    simp [List.getD_eq_getElem?_getD, hk, List.getElem?_take, show j < k + s by omega]
  · rw [if_neg hk]
    have h1 : j - k < s := by omega
    simp [List.getD_eq_getElem?_getD, List.getElem?_take, show j < k + s by omega, h1]
    congr 2
    omega
theorem part_words {ws wb : List Nat} {la lb : List Bool} {f k s : Nat} (hws : Words ws (la ++ (lb.drop f).take k)) (hwb : Words wb lb) (hs : s ≤ 64) (h : f + k + s ≤ lb.length) (hl : la.length + k + s ≤ 20000) :
    Words (putW ws (la.length + k) (getW wb (f + k) s) s) (la ++ (lb.drop f).take (k + s)) := by
  have hlen : (la ++ (lb.drop f).take k).length = la.length + k := by simp; omega
  have h1 := words_put hws (getW wb (f + k) s) s hs (by rw [hlen]; exact hl)
  rw [hlen, words_get hwb _ _ hs, digits_ofBits, List.append_assoc, ← part_step lb f k s h, ← words_get hwb _ _ hs] at h1
  exact h1
theorem getW_lt {wb : List Nat} {lb : List Bool} (hwb : Words wb lb) (a s : Nat) (hs : s ≤ 64) : getW wb a s < 2 ^ 64 := by
  rw [words_get hwb _ _ hs]
  exact Nat.lt_of_lt_of_le (ofBits_lt _ _) (Nat.pow_le_pow_right (by omega) hs)
theorem words_bound {ws : List Nat} {l : List Bool} (h : Words ws l) : ∀ i, ws.getD i 0 < 2 ^ 64 := h.2.1
end Go.Proofs.Ytbgogpfhdfgjeaa.BM
