/- Walks: the document's reader of a code, all its ends; ReadCode. -/
import Derived.Test.YtbgogpfhdfgjeaaHl
set_option linter.unusedVariables false
set_option linter.unusedSimpArgs false
namespace Go.Proofs.Ytbgogpfhdfgjeaa
open Go.RowKit

theorem numL_take {s : ByteArray} {n a k : Nat} (h : a + k ≤ n) : numL (BM.listOf s.data.toList n) a k = takeN s a k := by
  unfold numL takeN
  apply BM.ofBits_congr
  intro i hi
  rw [BM.listOf_getD, if_pos (by omega)]
theorem numL_one {s : ByteArray} {n a : Nat} (h : a + 1 ≤ n) : numL (BM.listOf s.data.toList n) a 1 = (BM.bitAt s.data.toList a).toNat := by
  rw [numL_take h]; unfold takeN; simp [BM.ofBits]
def tailL (L : List Bool) (p : Nat) : Option (Nat × Nat) → Option (Int × Nat)
  | none => none
  | some (i, q) =>
    if q + bitsI i ≤ L.length then
      (if (codeB ((numL L q (bitsI i) : Int) - offI i)).length = q + bitsI i - p then some ((numL L q (bitsI i) : Int) - offI i, q + bitsI i) else none)
    else none
theorem getL_tail (L : List Bool) (p : Nat) : getL L p = tailL L p (onesL L 4 0 p) := by
  unfold getL tailL; cases onesL L 4 0 p <;> rfl
theorem l3Read_j0 (s : ByteArray) (n p : Nat) (w : World) (hs : s.size ≤ maxLen) (hn : n ≤ 20000) (h8 : n ≤ 8 * s.size) (hp : p + 1 ≤ n) (b0 : BM.bitAt s.data.toList p = false) :
    Calls Try.prog 56 #[.agg #[.string s, .int .i64 (n : Int)], .int .i64 (p : Int)] w (RetBelow (readT (tailL (BM.listOf s.data.toList n) p (some (0, p + 1)))) w) := by
  have hL : (BM.listOf s.data.toList n).length = n := BM.listOf_length _ _
  by_cases hq : p + 1 + 0 ≤ n
  · have hX := (numL_take (s := s) hq).symm
    cases hst : stepB ((numL (BM.listOf s.data.toList n) (p + 1) 0 : Int) - 0) with
    | false =>
      have hB : codeB ((numL (BM.listOf s.data.toList n) (p + 1) 0 : Int) - 0) = [] := by unfold codeB; rw [hst]; rfl
      have e : tailL (BM.listOf s.data.toList n) p (some (0, p + 1)) = none := by
        show (if p + 1 + 0 ≤ (BM.listOf s.data.toList n).length then (if (codeB ((numL (BM.listOf s.data.toList n) (p + 1) 0 : Int) - 0)).length = p + 1 + 0 - p then _ else none) else none) = none
        rw [hB, if_pos (by rw [hL]; exact hq), if_neg (by simp <;> omega)]
      rw [e]
      exact l3Read_far0 s n p w hs hn h8 hp b0 hq _ hX hst
    | true =>
      by_cases hm : (codeB ((numL (BM.listOf s.data.toList n) (p + 1) 0 : Int) - 0)).length = 1
      · have e : tailL (BM.listOf s.data.toList n) p (some (0, p + 1)) = some (((numL (BM.listOf s.data.toList n) (p + 1) 0 : Int) - 0), p + 1) := by
          show (if p + 1 + 0 ≤ (BM.listOf s.data.toList n).length then (if (codeB ((numL (BM.listOf s.data.toList n) (p + 1) 0 : Int) - 0)).length = p + 1 + 0 - p then _ else none) else none) = _
          rw [if_pos (by rw [hL]; exact hq), if_pos (by omega)]
          rfl
        rw [e]
        exact l3Read_yes0 s n p w hs hn h8 hp b0 hq _ hX hst _ rfl hm
      · have e : tailL (BM.listOf s.data.toList n) p (some (0, p + 1)) = none := by
          show (if p + 1 + 0 ≤ (BM.listOf s.data.toList n).length then (if (codeB ((numL (BM.listOf s.data.toList n) (p + 1) 0 : Int) - 0)).length = p + 1 + 0 - p then _ else none) else none) = none
          rw [if_pos (by rw [hL]; exact hq), if_neg (by omega)]
        rw [e]
        exact l3Read_odd0 s n p w hs hn h8 hp b0 hq _ hX hst _ rfl hm
  · have e : tailL (BM.listOf s.data.toList n) p (some (0, p + 1)) = none := by
      show (if p + 1 + 0 ≤ (BM.listOf s.data.toList n).length then _ else none) = none
      rw [if_neg (by rw [hL]; exact hq)]
    rw [e]
    exact l3Read_short0 s n p w hs hn h8 hp b0 hq
theorem l3Read_j1 (s : ByteArray) (n p : Nat) (w : World) (hs : s.size ≤ maxLen) (hn : n ≤ 20000) (h8 : n ≤ 8 * s.size) (hp : p + 2 ≤ n) (b0 : BM.bitAt s.data.toList p = true) (b1 : BM.bitAt s.data.toList (p + 1) = false) :
    Calls Try.prog 56 #[.agg #[.string s, .int .i64 (n : Int)], .int .i64 (p : Int)] w (RetBelow (readT (tailL (BM.listOf s.data.toList n) p (some (1, p + 2)))) w) := by
  have hL : (BM.listOf s.data.toList n).length = n := BM.listOf_length _ _
  by_cases hq : p + 2 + 7 ≤ n
  · have hX := (numL_take (s := s) hq).symm
    cases hst : stepB ((numL (BM.listOf s.data.toList n) (p + 2) 7 : Int) - 63) with
    | false =>
      have hB : codeB ((numL (BM.listOf s.data.toList n) (p + 2) 7 : Int) - 63) = [] := by unfold codeB; rw [hst]; rfl
      have e : tailL (BM.listOf s.data.toList n) p (some (1, p + 2)) = none := by
        show (if p + 2 + 7 ≤ (BM.listOf s.data.toList n).length then (if (codeB ((numL (BM.listOf s.data.toList n) (p + 2) 7 : Int) - 63)).length = p + 2 + 7 - p then _ else none) else none) = none
        rw [hB, if_pos (by rw [hL]; exact hq), if_neg (by simp <;> omega)]
      rw [e]
      exact l3Read_far1 s n p w hs hn h8 hp b0 b1 hq _ hX hst
    | true =>
      by_cases hm : (codeB ((numL (BM.listOf s.data.toList n) (p + 2) 7 : Int) - 63)).length = 9
      · have e : tailL (BM.listOf s.data.toList n) p (some (1, p + 2)) = some (((numL (BM.listOf s.data.toList n) (p + 2) 7 : Int) - 63), p + 9) := by
          show (if p + 2 + 7 ≤ (BM.listOf s.data.toList n).length then (if (codeB ((numL (BM.listOf s.data.toList n) (p + 2) 7 : Int) - 63)).length = p + 2 + 7 - p then _ else none) else none) = _
          rw [if_pos (by rw [hL]; exact hq), if_pos (by omega)]
          rfl
        rw [e]
        exact l3Read_yes1 s n p w hs hn h8 hp b0 b1 hq _ hX hst _ rfl hm
      · have e : tailL (BM.listOf s.data.toList n) p (some (1, p + 2)) = none := by
          show (if p + 2 + 7 ≤ (BM.listOf s.data.toList n).length then (if (codeB ((numL (BM.listOf s.data.toList n) (p + 2) 7 : Int) - 63)).length = p + 2 + 7 - p then _ else none) else none) = none
          rw [if_pos (by rw [hL]; exact hq), if_neg (by omega)]
        rw [e]
        exact l3Read_odd1 s n p w hs hn h8 hp b0 b1 hq _ hX hst _ rfl hm
  · have e : tailL (BM.listOf s.data.toList n) p (some (1, p + 2)) = none := by
      show (if p + 2 + 7 ≤ (BM.listOf s.data.toList n).length then _ else none) = none
      rw [if_neg (by rw [hL]; exact hq)]
    rw [e]
    exact l3Read_short1 s n p w hs hn h8 hp b0 b1 hq
theorem l3Read_j2 (s : ByteArray) (n p : Nat) (w : World) (hs : s.size ≤ maxLen) (hn : n ≤ 20000) (h8 : n ≤ 8 * s.size) (hp : p + 3 ≤ n) (b0 : BM.bitAt s.data.toList p = true) (b1 : BM.bitAt s.data.toList (p + 1) = true) (b2 : BM.bitAt s.data.toList (p + 2) = false) :
    Calls Try.prog 56 #[.agg #[.string s, .int .i64 (n : Int)], .int .i64 (p : Int)] w (RetBelow (readT (tailL (BM.listOf s.data.toList n) p (some (2, p + 3)))) w) := by
  have hL : (BM.listOf s.data.toList n).length = n := BM.listOf_length _ _
  by_cases hq : p + 3 + 9 ≤ n
  · have hX := (numL_take (s := s) hq).symm
    cases hst : stepB ((numL (BM.listOf s.data.toList n) (p + 3) 9 : Int) - 255) with
    | false =>
      have hB : codeB ((numL (BM.listOf s.data.toList n) (p + 3) 9 : Int) - 255) = [] := by unfold codeB; rw [hst]; rfl
      have e : tailL (BM.listOf s.data.toList n) p (some (2, p + 3)) = none := by
        show (if p + 3 + 9 ≤ (BM.listOf s.data.toList n).length then (if (codeB ((numL (BM.listOf s.data.toList n) (p + 3) 9 : Int) - 255)).length = p + 3 + 9 - p then _ else none) else none) = none
        rw [hB, if_pos (by rw [hL]; exact hq), if_neg (by simp <;> omega)]
      rw [e]
      exact l3Read_far2 s n p w hs hn h8 hp b0 b1 b2 hq _ hX hst
    | true =>
      by_cases hm : (codeB ((numL (BM.listOf s.data.toList n) (p + 3) 9 : Int) - 255)).length = 12
      · have e : tailL (BM.listOf s.data.toList n) p (some (2, p + 3)) = some (((numL (BM.listOf s.data.toList n) (p + 3) 9 : Int) - 255), p + 12) := by
          show (if p + 3 + 9 ≤ (BM.listOf s.data.toList n).length then (if (codeB ((numL (BM.listOf s.data.toList n) (p + 3) 9 : Int) - 255)).length = p + 3 + 9 - p then _ else none) else none) = _
          rw [if_pos (by rw [hL]; exact hq), if_pos (by omega)]
          rfl
        rw [e]
        exact l3Read_yes2 s n p w hs hn h8 hp b0 b1 b2 hq _ hX hst _ rfl hm
      · have e : tailL (BM.listOf s.data.toList n) p (some (2, p + 3)) = none := by
          show (if p + 3 + 9 ≤ (BM.listOf s.data.toList n).length then (if (codeB ((numL (BM.listOf s.data.toList n) (p + 3) 9 : Int) - 255)).length = p + 3 + 9 - p then _ else none) else none) = none
          rw [if_pos (by rw [hL]; exact hq), if_neg (by omega)]
        rw [e]
        exact l3Read_odd2 s n p w hs hn h8 hp b0 b1 b2 hq _ hX hst _ rfl hm
  · have e : tailL (BM.listOf s.data.toList n) p (some (2, p + 3)) = none := by
      show (if p + 3 + 9 ≤ (BM.listOf s.data.toList n).length then _ else none) = none
      rw [if_neg (by rw [hL]; exact hq)]
    rw [e]
    exact l3Read_short2 s n p w hs hn h8 hp b0 b1 b2 hq
theorem l3Read_j3 (s : ByteArray) (n p : Nat) (w : World) (hs : s.size ≤ maxLen) (hn : n ≤ 20000) (h8 : n ≤ 8 * s.size) (hp : p + 4 ≤ n) (b0 : BM.bitAt s.data.toList p = true) (b1 : BM.bitAt s.data.toList (p + 1) = true) (b2 : BM.bitAt s.data.toList (p + 2) = true) (b3 : BM.bitAt s.data.toList (p + 3) = false) :
    Calls Try.prog 56 #[.agg #[.string s, .int .i64 (n : Int)], .int .i64 (p : Int)] w (RetBelow (readT (tailL (BM.listOf s.data.toList n) p (some (3, p + 4)))) w) := by
  have hL : (BM.listOf s.data.toList n).length = n := BM.listOf_length _ _
  by_cases hq : p + 4 + 12 ≤ n
  · have hX := (numL_take (s := s) hq).symm
    cases hst : stepB ((numL (BM.listOf s.data.toList n) (p + 4) 12 : Int) - 2047) with
    | false =>
      have hB : codeB ((numL (BM.listOf s.data.toList n) (p + 4) 12 : Int) - 2047) = [] := by unfold codeB; rw [hst]; rfl
      have e : tailL (BM.listOf s.data.toList n) p (some (3, p + 4)) = none := by
        show (if p + 4 + 12 ≤ (BM.listOf s.data.toList n).length then (if (codeB ((numL (BM.listOf s.data.toList n) (p + 4) 12 : Int) - 2047)).length = p + 4 + 12 - p then _ else none) else none) = none
        rw [hB, if_pos (by rw [hL]; exact hq), if_neg (by simp <;> omega)]
      rw [e]
      exact l3Read_far3 s n p w hs hn h8 hp b0 b1 b2 b3 hq _ hX hst
    | true =>
      by_cases hm : (codeB ((numL (BM.listOf s.data.toList n) (p + 4) 12 : Int) - 2047)).length = 16
      · have e : tailL (BM.listOf s.data.toList n) p (some (3, p + 4)) = some (((numL (BM.listOf s.data.toList n) (p + 4) 12 : Int) - 2047), p + 16) := by
          show (if p + 4 + 12 ≤ (BM.listOf s.data.toList n).length then (if (codeB ((numL (BM.listOf s.data.toList n) (p + 4) 12 : Int) - 2047)).length = p + 4 + 12 - p then _ else none) else none) = _
          rw [if_pos (by rw [hL]; exact hq), if_pos (by omega)]
          rfl
        rw [e]
        exact l3Read_yes3 s n p w hs hn h8 hp b0 b1 b2 b3 hq _ hX hst _ rfl hm
      · have e : tailL (BM.listOf s.data.toList n) p (some (3, p + 4)) = none := by
          show (if p + 4 + 12 ≤ (BM.listOf s.data.toList n).length then (if (codeB ((numL (BM.listOf s.data.toList n) (p + 4) 12 : Int) - 2047)).length = p + 4 + 12 - p then _ else none) else none) = none
          rw [if_pos (by rw [hL]; exact hq), if_neg (by omega)]
        rw [e]
        exact l3Read_odd3 s n p w hs hn h8 hp b0 b1 b2 b3 hq _ hX hst _ rfl hm
  · have e : tailL (BM.listOf s.data.toList n) p (some (3, p + 4)) = none := by
      show (if p + 4 + 12 ≤ (BM.listOf s.data.toList n).length then _ else none) = none
      rw [if_neg (by rw [hL]; exact hq)]
    rw [e]
    exact l3Read_short3 s n p w hs hn h8 hp b0 b1 b2 b3 hq
theorem l3Read_j4 (s : ByteArray) (n p : Nat) (w : World) (hs : s.size ≤ maxLen) (hn : n ≤ 20000) (h8 : n ≤ 8 * s.size) (hp : p + 4 ≤ n) (b0 : BM.bitAt s.data.toList p = true) (b1 : BM.bitAt s.data.toList (p + 1) = true) (b2 : BM.bitAt s.data.toList (p + 2) = true) (b3 : BM.bitAt s.data.toList (p + 3) = true) :
    Calls Try.prog 56 #[.agg #[.string s, .int .i64 (n : Int)], .int .i64 (p : Int)] w (RetBelow (readT (tailL (BM.listOf s.data.toList n) p (some (4, p + 4)))) w) := by
  have hL : (BM.listOf s.data.toList n).length = n := BM.listOf_length _ _
  by_cases hq : p + 4 + 42 ≤ n
  · have hX := (numL_take (s := s) hq).symm
    cases hst : stepB ((numL (BM.listOf s.data.toList n) (p + 4) 42 : Int) - 2199023255552) with
    | false =>
      have hB : codeB ((numL (BM.listOf s.data.toList n) (p + 4) 42 : Int) - 2199023255552) = [] := by unfold codeB; rw [hst]; rfl
      have e : tailL (BM.listOf s.data.toList n) p (some (4, p + 4)) = none := by
        show (if p + 4 + 42 ≤ (BM.listOf s.data.toList n).length then (if (codeB ((numL (BM.listOf s.data.toList n) (p + 4) 42 : Int) - 2199023255552)).length = p + 4 + 42 - p then _ else none) else none) = none
        rw [hB, if_pos (by rw [hL]; exact hq), if_neg (by simp <;> omega)]
      rw [e]
      exact l3Read_far4 s n p w hs hn h8 hp b0 b1 b2 b3 hq _ hX hst
    | true =>
      by_cases hm : (codeB ((numL (BM.listOf s.data.toList n) (p + 4) 42 : Int) - 2199023255552)).length = 46
      · have e : tailL (BM.listOf s.data.toList n) p (some (4, p + 4)) = some (((numL (BM.listOf s.data.toList n) (p + 4) 42 : Int) - 2199023255552), p + 46) := by
          show (if p + 4 + 42 ≤ (BM.listOf s.data.toList n).length then (if (codeB ((numL (BM.listOf s.data.toList n) (p + 4) 42 : Int) - 2199023255552)).length = p + 4 + 42 - p then _ else none) else none) = _
          rw [if_pos (by rw [hL]; exact hq), if_pos (by omega)]
          rfl
        rw [e]
        exact l3Read_yes4 s n p w hs hn h8 hp b0 b1 b2 b3 hq _ hX hst _ rfl hm
      · have e : tailL (BM.listOf s.data.toList n) p (some (4, p + 4)) = none := by
          show (if p + 4 + 42 ≤ (BM.listOf s.data.toList n).length then (if (codeB ((numL (BM.listOf s.data.toList n) (p + 4) 42 : Int) - 2199023255552)).length = p + 4 + 42 - p then _ else none) else none) = none
          rw [if_pos (by rw [hL]; exact hq), if_neg (by omega)]
        rw [e]
        exact l3Read_odd4 s n p w hs hn h8 hp b0 b1 b2 b3 hq _ hX hst _ rfl hm
  · have e : tailL (BM.listOf s.data.toList n) p (some (4, p + 4)) = none := by
      show (if p + 4 + 42 ≤ (BM.listOf s.data.toList n).length then _ else none) = none
      rw [if_neg (by rw [hL]; exact hq)]
    rw [e]
    exact l3Read_short4 s n p w hs hn h8 hp b0 b1 b2 b3 hq
theorem l3Read_any (s : ByteArray) (n p : Nat) (w : World) (hs : s.size ≤ maxLen) (hn : n ≤ 20000) (h8 : n ≤ 8 * s.size) (hp : p ≤ n) :
    Calls Try.prog 56 #[.agg #[.string s, .int .i64 (n : Int)], .int .i64 (p : Int)] w (RetBelow (readT (getL (BM.listOf s.data.toList n) p)) w) := by
  have hL : (BM.listOf s.data.toList n).length = n := BM.listOf_length _ _
  rw [getL_tail]
  by_cases c0 : p + 1 ≤ n
  · have n0 := numL_one (s := s) (n := n) (a := p) (by omega)
    cases b0 : BM.bitAt s.data.toList p with
    | false =>
      rw [b0] at n0
      have e : onesL (BM.listOf s.data.toList n) 4 0 p = some (0, p + 1) := by simp [onesL, hL, c0, n0]
      rw [e]
      exact l3Read_j0 s n p w hs hn h8 (by omega) b0
    | true =>
      rw [b0] at n0
      by_cases c1 : p + 2 ≤ n
      · have n1 := numL_one (s := s) (n := n) (a := (p + 1)) (by omega)
        cases b1 : BM.bitAt s.data.toList (p + 1) with
        | false =>
          rw [b1] at n1
          have e : onesL (BM.listOf s.data.toList n) 4 0 p = some (1, p + 2) := by simp [onesL, hL, c0, n0, c1, n1]
          rw [e]
          exact l3Read_j1 s n p w hs hn h8 (by omega) b0 b1
        | true =>
          rw [b1] at n1
          by_cases c2 : p + 3 ≤ n
          · have n2 := numL_one (s := s) (n := n) (a := (p + 2)) (by omega)
            cases b2 : BM.bitAt s.data.toList (p + 2) with
            | false =>
              rw [b2] at n2
              have e : onesL (BM.listOf s.data.toList n) 4 0 p = some (2, p + 3) := by simp [onesL, hL, c0, n0, c1, n1, c2, n2]
              rw [e]
              exact l3Read_j2 s n p w hs hn h8 (by omega) b0 b1 b2
            | true =>
              rw [b2] at n2
              by_cases c3 : p + 4 ≤ n
              · have n3 := numL_one (s := s) (n := n) (a := (p + 3)) (by omega)
                cases b3 : BM.bitAt s.data.toList (p + 3) with
                | false =>
                  rw [b3] at n3
                  have e : onesL (BM.listOf s.data.toList n) 4 0 p = some (3, p + 4) := by simp [onesL, hL, c0, n0, c1, n1, c2, n2, c3, n3]
                  rw [e]
                  exact l3Read_j3 s n p w hs hn h8 (by omega) b0 b1 b2 b3
                | true =>
                  rw [b3] at n3
                  have e : onesL (BM.listOf s.data.toList n) 4 0 p = some (4, p + 4) := by simp [onesL, hL, c0, n0, c1, n1, c2, n2, c3, n3]
                  rw [e]
                  exact l3Read_j4 s n p w hs hn h8 (by omega) b0 b1 b2 b3
              · have e : onesL (BM.listOf s.data.toList n) 4 0 p = none := by simp [onesL, hL, c0, n0, c1, n1, c2, n2, c3]
                rw [e]
                exact l3Read_out3 s n p w hs hn h8 (by omega) b0 b1 b2
          · have e : onesL (BM.listOf s.data.toList n) 4 0 p = none := by simp [onesL, hL, c0, n0, c1, n1, c2]
            rw [e]
            exact l3Read_out2 s n p w hs hn h8 (by omega) b0 b1
      · have e : onesL (BM.listOf s.data.toList n) 4 0 p = none := by simp [onesL, hL, c0, n0, c1]
        rw [e]
        exact l3Read_out1 s n p w hs hn h8 (by omega) b0
  · have e : onesL (BM.listOf s.data.toList n) 4 0 p = none := by simp [onesL, hL, c0]
    rw [e]
    exact l3Read_out0 s n p w hs hn h8 (by omega) 

end Go.Proofs.Ytbgogpfhdfgjeaa

/- Walks: the document's ReadCode; the law FnExactReadCode. -/
set_option linter.unusedVariables false
set_option linter.unusedSimpArgs false
namespace Go.Proofs.Ytbgogpfhdfgjeaa
open Go.RowKit

set_option maxRecDepth 100000 in
set_option maxHeartbeats 1000000 in
theorem specReadCode_any (s : ByteArray) (N a : Int) (w : World) (hs : s.size ≤ maxLen) :
    Calls Try.prog 14 #[.agg #[.string s, .int .i64 N], .int .i64 a] w (RetBelow (readV s N a) w) := by
  have hok := fun W => specBitsOk_any s N W hs
  cases h : okB s N with
  | false =>
    have hV : readV s N a = readT none := by unfold readV hasB; rw [h]; rfl
    rw [hV]
    rw [h] at hok
    have Hok := Lib.hid hok
    clear hok h hV
    go_enter Try.func14, Try.ntmps14
    go_wp2_with fail
    refine (Hok.out _).mono ?_
    rintro e w1 ⟨rfl, hb1⟩
    have hf := ((Below.refl w.heap.size w).alloc (Nat.le_refl _) (.cells #[.string s, .int .i64 N] 26)).trans (hb1.mono (by simp))
    clear hb1
    go_wp2_with fail
    exact bodyPost_ret (v := .tuple #[.int .i64 0, .int .i64 0, .bool false]) (by simp [results, Try.results14, go_sem]) rfl ⟨rfl, hf⟩
  | true =>
    rw [h] at hok
    have Hok := Lib.hid hok
    clear hok
    by_cases hin : 0 ≤ a ∧ a ≤ N
    · obtain ⟨f0, f1, f2, f3⟩ := okB_facts h
      obtain ⟨n, rfl⟩ : ∃ n : Nat, N = (n : Int) := ⟨N.toNat, by omega⟩
      obtain ⟨p, rfl⟩ : ∃ p : Nat, a = (p : Int) := ⟨a.toNat, by omega⟩
      have hV : readV s (n : Int) (p : Int) = readT (getL (BM.listOf s.data.toList n) p) := by
        unfold readV hasB
        rw [h, if_pos (by rw [Bool.true_and, decide_eq_true_iff]; omega), Int.toNat_natCast, Int.toNat_natCast]
      obtain ⟨d, q, b, hform⟩ := readV_form s (n : Int) (p : Int)
      have H3 := Lib.hid (fun W => l3Read_any s n p W hs (by omega) (by omega) (by omega))
      rw [← hV, hform] at H3
      rw [hform]
      have hI := fun W => l1In_any (p : Int) 0 (n : Int) W
      rw [inB_true (by omega) (by omega)] at hI
      have HI := Lib.hid hI
      clear hI hV hform h f0 f1 f2 f3 hin
      go_enter Try.func14, Try.ntmps14
      go_wp2_with fail
      refine (Hok.out _).mono ?_
      rintro e w1 ⟨rfl, hb1⟩
      obtain ⟨x0, x1, hgg⟩ := kept2' hb1 (g := w.heap.size) (s := s) (n := (n : Int)) (by simp) (by go_simp) (by go_simp)
      have HF := Lib.hid (((Below.refl w.heap.size w).alloc (Nat.le_refl _) (.cells #[.string s, .int .i64 (n : Int)] 26)).trans (hb1.mono (by simp)))
      clear hb1
      go_wp2_with fail
      refine (HI.out _).mono ?_
      rintro e w2 ⟨rfl, rfl⟩
      go_wp2_with fail
      refine (H3.out _).mono ?_
      rintro e w3 ⟨rfl, hb3⟩
      have HF3 := Lib.hid (HF.out.trans (hb3.mono HF.out.size))
      clear hb3 x0 x1
      go_wp2_with fail
      exact bodyPost_ret (v := .tuple #[.int .i64 d, .int .i64 q, .bool b]) (by simp [results, Try.results14, go_sem]) rfl ⟨rfl, HF3.out⟩
    · have hV : readV s N a = readT none := by
        unfold readV hasB
        rw [h, if_neg (by rw [Bool.true_and, decide_eq_true_iff]; omega)]
      rw [hV]
      have hI := fun W => l1In_any a 0 N W
      rw [inB_false (by omega)] at hI
      have HI := Lib.hid hI
      clear hI hV hin h
      go_enter Try.func14, Try.ntmps14
      go_wp2_with fail
      refine (Hok.out _).mono ?_
      rintro e w1 ⟨rfl, hb1⟩
      obtain ⟨x0, x1, hgg⟩ := kept2' hb1 (g := w.heap.size) (s := s) (n := N) (by simp) (by go_simp) (by go_simp)
      have HF := Lib.hid (((Below.refl w.heap.size w).alloc (Nat.le_refl _) (.cells #[.string s, .int .i64 N] 26)).trans (hb1.mono (by simp)))
      clear hb1
      go_wp2_with fail
      refine (HI.out _).mono ?_
      rintro e w2 ⟨rfl, rfl⟩
      go_wp2_with fail
      exact bodyPost_ret (v := .tuple #[.int .i64 0, .int .i64 0, .bool false]) (by simp [results, Try.results14, go_sem]) rfl ⟨rfl, HF.out⟩
end Go.Proofs.Ytbgogpfhdfgjeaa
