/- Plain facts on words: bytes into words and back; no Go. -/
import Derived.Test.YtanoohfhifhhaaaDoorBm
set_option linter.unusedVariables false
set_option linter.unusedSimpArgs false
namespace Go.Proofs.YtanoohfhifhhaaaDoor.BM
def WordsF (ws : List Nat) (f : Nat → Bool) : Prop := ws.length = 313 ∧ (∀ i, ws.getD i 0 < 2 ^ 64) ∧ ∀ j, wbit ws j = f j
theorem wordsF_zero : WordsF (List.replicate 313 0) (fun _ => false) :=
  ⟨words_zero.1, words_zero.2.1, fun j => by rw [words_zero.2.2.2]; rfl⟩
theorem wordsF_congr {ws : List Nat} {f g : Nat → Bool} (h : WordsF ws f) (e : ∀ j, f j = g j) : WordsF ws g := ⟨h.1, h.2.1, fun j => (h.2.2 j).trans (e j)⟩
theorem wordsF_words {ws : List Nat} {l : List Bool} (h : WordsF ws (fun j => l.getD j false)) (hl : l.length ≤ 20000) : Words ws l := ⟨h.1, h.2.1, hl, h.2.2⟩
def orByte (ws : List Nat) (k x : Nat) : List Nat := ws.set (k / 8) (ws.getD (k / 8) 0 ||| x * 2 ^ (56 - k % 8 * 8) % 2 ^ 64)
theorem wordsF_step {ws : List Nat} {d : List UInt8} {k : Nat} (h : WordsF ws (fun j => decide (j < 8 * k) && bitAt d j)) (hk : k < 2504) :
    WordsF (orByte ws k (d.getD k 0).toNat) (fun j => decide (j < 8 * (k + 1)) && bitAt d j) := by
  obtain ⟨h1, h2, h3⟩ := h
  have hw : k / 8 < ws.length := by omega
  have hx : (d.getD k 0).toNat < 256 := UInt8.toNat_lt _
  unfold orByte
  refine ⟨by simp [h1], ?_, ?_⟩
  · intro i; rw [getD_set _ _ _ _ hw]; split
    · exact Nat.or_lt_two_pow (h2 _) (Nat.mod_lt _ (Nat.two_pow_pos _))
    · exact h2 i
  · intro j
    show ((ws.set _ _).getD (j / 64) 0).testBit (63 - j % 64) = _
    rw [getD_set _ _ _ _ hw]
    by_cases hj : j / 64 = k / 8
    · rw [if_pos hj, Nat.testBit_or, testBit_shl64]
      have e1 : (ws.getD (k / 8) 0).testBit (63 - j % 64) = wbit ws j := by unfold wbit; rw [hj]
      rw [e1, h3]
      dsimp only
      by_cases a : j < 8 * k
      · have b : ¬ (63 - j % 64 - (56 - k % 8 * 8) < 8) := by omega
        have c : (d.getD k 0).toNat.testBit (63 - j % 64 - (56 - k % 8 * 8)) = false := by
          apply Nat.testBit_lt_two_pow
          exact Nat.lt_of_lt_of_le hx (Nat.pow_le_pow_right (n := 2) (by omega) (show 8 ≤ _ by omega))
        rw [c, decide_eq_true a, decide_eq_true (show j < 8 * (k + 1) by omega)]; simp
      · rw [decide_eq_false a]
        by_cases b : j < 8 * (k + 1)
        · have b1 : 63 - j % 64 < 64 := by omega
          have b2 : 56 - k % 8 * 8 ≤ 63 - j % 64 := by omega
          have b3 : 63 - j % 64 - (56 - k % 8 * 8) = 7 - j % 8 := by omega
          have b4 : j / 8 = k := by omega
          rw [decide_eq_true b1, decide_eq_true b2, b3, decide_eq_true b]
          unfold bitAt
          rw [b4]; simp
        · have b2 : ¬ (56 - k % 8 * 8 ≤ 63 - j % 64) := by omega
          rw [decide_eq_false b2, decide_eq_false b]; simp
    · rw [if_neg hj]
      show wbit ws j = _
      rw [h3]
      dsimp only
      by_cases a : j < 8 * k
      · rw [decide_eq_true a, decide_eq_true (show j < 8 * (k + 1) by omega)]
      · rw [decide_eq_false a, decide_eq_false (show ¬ j < 8 * (k + 1) by omega)]
theorem words_byte {ws : List Nat} {l : List Bool} (h : Words ws l) (i : Nat) :
    ws.getD (i / 8) 0 / 2 ^ (56 - i % 8 * 8) % 256 = ofBits (fun k => l.getD (8 * i + k) false) 8 := by
  obtain ⟨h1, h2, h3, h4⟩ := h
  apply Nat.eq_of_testBit_eq
  intro b
  rw [testBit_ofBits, show (256 : Nat) = 2 ^ 8 from rfl, Nat.testBit_mod_two_pow, testBit_shr]
  by_cases hb : b < 8
  · rw [if_pos hb, decide_eq_true hb, ← h4]
    unfold wbit
    rw [show (8 * i + (8 - 1 - b)) / 64 = i / 8 by omega, show 63 - (8 * i + (8 - 1 - b)) % 64 = b + (56 - i % 8 * 8) by omega]
    simp
  · rw [if_neg hb, decide_eq_false hb]; simp
theorem getW_one {ws : List Nat} {a k : Nat} (h : ¬ 64 < a % 64 + k) : getW ws a k = ws.getD (a / 64) 0 * 2 ^ (a % 64) % 2 ^ 64 / 2 ^ (64 - k) := by
  unfold getW; simp only [if_neg h]
theorem getW_two {ws : List Nat} {a k : Nat} (h : 64 < a % 64 + k) : getW ws a k = (ws.getD (a / 64) 0 * 2 ^ (a % 64) % 2 ^ 64 ||| ws.getD (a / 64 + 1) 0 / 2 ^ (64 - a % 64)) / 2 ^ (64 - k) := by
  unfold getW; simp only [if_pos h]
theorem putW_one {ws : List Nat} {a v n : Nat} (h : ¬ 64 < a % 64 + n) : putW ws a v n = ws.set (a / 64) (ws.getD (a / 64) 0 ||| v * 2 ^ (64 - n) % 2 ^ 64 / 2 ^ (a % 64)) := by
  unfold putW; simp only [if_neg h]
theorem putW_two {ws : List Nat} {a v n : Nat} (h : 64 < a % 64 + n) (hl : a / 64 < ws.length) : putW ws a v n =
    (ws.set (a / 64) (ws.getD (a / 64) 0 ||| v * 2 ^ (64 - n) % 2 ^ 64 / 2 ^ (a % 64))).set (a / 64 + 1) (ws.getD (a / 64 + 1) 0 ||| v * 2 ^ (64 - n) % 2 ^ 64 * 2 ^ (64 - a % 64) % 2 ^ 64) := by
  unfold putW
  simp only [if_pos h]
  rw [getD_set _ _ _ _ hl, if_neg (by omega)]
end Go.Proofs.YtanoohfhifhhaaaDoor.BM
