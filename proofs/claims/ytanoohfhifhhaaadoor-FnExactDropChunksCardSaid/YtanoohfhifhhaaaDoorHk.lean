/- Walks: the program reads a code: ReadCode; what it reads, over the bits. -/
import Derived.Test.YtanoohfhifhhaaaDoorHj
set_option linter.unusedVariables false
set_option linter.unusedSimpArgs false
namespace Go.Proofs.YtanoohfhifhhaaaDoor
open Go.RowKit

/-- the number in k bits behind the place p -/
def numL (L : List Bool) (p k : Nat) : Nat := BM.ofBits (fun j => L.getD (p + j) false) k
def onesL (L : List Bool) : Nat → Nat → Nat → Option (Nat × Nat)
  | 0, i, p => some (i, p)
  | k + 1, i, p => if p + 1 ≤ L.length then (if numL L p 1 = 0 then some (i, p + 1) else onesL L k (i + 1) (p + 1)) else none
def getL (L : List Bool) (p : Nat) : Option (Int × Nat) :=
  match onesL L 4 0 p with
  | none => none
  | some (i, q) =>
    if q + bitsI i ≤ L.length then
      (if (codeB ((numL L q (bitsI i) : Int) - offI i)).length = q + bitsI i - p then some ((numL L q (bitsI i) : Int) - offI i, q + bitsI i) else none)
    else none
theorem onesR_L {ws : List Nat} {L : List Bool} (h : BM.Words ws L) : ∀ (k i p : Nat), onesR ws L.length k i p = onesL L k i p := by
  intro k
  induction k with
  | zero => intro i p; rfl
  | succ k ih => intro i p; simp only [onesR, onesL, ih, BM.words_get h p 1 (by omega), numL]; congr
theorem bitsI_le (i : Nat) : bitsI i ≤ 64 := by unfold bitsI; split <;> omega
theorem getR_L {ws : List Nat} {L : List Bool} (h : BM.Words ws L) (p : Nat) : getR ws L.length p = getL L p := by
  unfold getR getL
  rw [onesR_L h]
  cases onesL L 4 0 p with
  | none => rfl
  | some iq =>
    obtain ⟨i, q⟩ := iq
    simp only [BM.words_get h q (bitsI i) (bitsI_le i)]
    rfl
/-- what ReadCode returns -/
def readV (s : ByteArray) (N a : Int) : Value := if hasB s N a 0 = true then readT (getL (BM.listOf s.data.toList N.toNat) a.toNat) else readT none
theorem readV_form (s : ByteArray) (N a : Int) : ∃ d q b, readV s N a = .tuple #[.int .i64 d, .int .i64 q, .bool b] := by
  unfold readV
  split
  · cases getL (BM.listOf s.data.toList N.toNat) a.toNat with
    | none => exact ⟨_, _, _, rfl⟩
    | some dq => exact ⟨_, _, _, rfl⟩
  · exact ⟨_, _, _, rfl⟩
end Go.Proofs.YtanoohfhifhhaaaDoor
