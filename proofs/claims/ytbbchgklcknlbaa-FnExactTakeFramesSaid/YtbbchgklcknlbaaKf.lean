/- Plain facts on decimal numerals. -/
import Derived.Lib.ItoaNum
set_option linter.unusedVariables false
set_option linter.unusedSimpArgs false
namespace Go.Proofs.Ytbbchgklcknlbaa
open Go

theorem dd_len : ∀ (k u : Nat), u < 10 ^ (k + 1) → (Lib.decDigits u).length ≤ k + 1
  | 0, u, h => by rw [Lib.decDigits, dif_pos (by simpa using h)]; simp
  | k + 1, u, h => by
    by_cases h1 : u < 10
    · rw [Lib.decDigits, dif_pos h1]; simp
    · rw [Lib.decDigits, dif_neg h1, List.length_append]
      have := dd_len k (u / 10) (by rw [Nat.pow_succ] at h ⊢; rw [Nat.pow_succ] at h; omega)
      simp only [List.length_cons, List.length_nil]
      omega
def ddz (u : Nat) : List UInt8 := if u = 0 then [] else Lib.decDigits u
theorem ddz_zero : ddz 0 = [] := rfl
theorem ddz_pos {u : Nat} (h : u ≠ 0) : ddz u = Lib.decDigits u := if_neg h
theorem dd_step (u : Nat) : Lib.decDigits u = ddz (u / 10) ++ [UInt8.ofNat (48 + u % 10)] := by
  by_cases h : u < 10
  · rw [Lib.decDigits, dif_pos h, show u / 10 = 0 by omega, ddz_zero, show u % 10 = u by omega]; rfl
  · rw [Lib.decDigits, dif_neg h, ddz_pos (by omega)]
/-- What stands in a round: the rest of the number and the numeral so far. -/
def DJ (n0 n : Int) (s : List UInt8) : Prop := (n < 0 → n0 < 0) ∧ ((s = [] ∧ n = n0) ∨ (s ≠ [] ∧ ddz n.natAbs ++ s = Lib.decDigits n0.natAbs))
theorem DJ.start (n : Int) : DJ n n [] := ⟨fun h => h, .inl ⟨rfl, rfl⟩⟩
theorem tdiv_abs (n : Int) : (n.tdiv 10).natAbs = n.natAbs / 10 := by rw [Int.natAbs_tdiv]; rfl
theorem tmod_abs (n : Int) : (n.tmod 10).natAbs = n.natAbs % 10 := by rw [Int.natAbs_tmod]; rfl
theorem DJ.step {n0 n : Int} {s : List UInt8} (h : DJ n0 n s) (hc : s = [] ∨ n ≠ 0) : DJ n0 (n.tdiv 10) (UInt8.ofNat (48 + n.natAbs % 10) :: s) := by
  obtain ⟨h1, h2⟩ := h
  have hD : Lib.decDigits n.natAbs ++ s = Lib.decDigits n0.natAbs := by
    rcases h2 with ⟨rfl, rfl⟩ | ⟨h3, h4⟩
    · simp
    · have hn : n ≠ 0 := by rcases hc with h | h; exact absurd h h3; exact h
      rw [← h4, ddz_pos (by omega)]
  refine ⟨fun h => h1 ?_, .inr ⟨by simp, ?_⟩⟩
  · rcases Int.lt_or_le n 0 with h5 | h5
    · exact h5
    · have := Int.tdiv_nonneg h5 (show (0 : Int) ≤ 10 by omega)
      omega
  · rw [tdiv_abs, ← hD, dd_step n.natAbs]
    simp
theorem DJ.done {n0 : Int} {s : List UInt8} (h : DJ n0 0 s) (hs : s ≠ []) : s = Lib.decDigits n0.natAbs := by
  rcases h.2 with ⟨h1, _⟩ | ⟨_, h2⟩
  · exact absurd h1 hs
  · simpa [ddz_zero] using h2
theorem DJ.len {n0 n : Int} {s : List UInt8} (h : DJ n0 n s) {k : Nat} (hk : n0.natAbs < 10 ^ (k + 1)) : s.length ≤ k + 1 := by
  rcases h.2 with ⟨h1, _⟩ | ⟨_, h2⟩
  · rw [h1]; simp
  · have := dd_len k _ hk
    rw [← h2, List.length_append] at this
    omega
theorem itoa_neg {n : Int} (h : n < 0) : Lib.itoa n = 45 :: Lib.decDigits n.natAbs := if_pos h
theorem itoa_nonneg {n : Int} (h : ¬ n < 0) : Lib.itoa n = Lib.decDigits n.natAbs := by
  unfold Lib.itoa
  rw [if_neg h, show n.toNat = n.natAbs by omega]
def dec (n : Int) : ByteArray := ⟨(Lib.itoa n).toArray⟩
end Go.Proofs.Ytbbchgklcknlbaa
