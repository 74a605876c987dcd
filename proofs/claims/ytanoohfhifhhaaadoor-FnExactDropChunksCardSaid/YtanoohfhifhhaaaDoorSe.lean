/- Walks: the document's reader of a code, all its ends; ReadCode. -/
import Derived.Test.YtanoohfhifhhaaaDoorHl
import Derived.Test.YtanoohfhifhhaaaDoorSd
set_option linter.unusedVariables false
set_option linter.unusedSimpArgs false
namespace Go.Proofs.YtanoohfhifhhaaaDoor
open Go.RowKit

theorem numL_take {s : ByteArray} {n a k : Nat} (h : a + k ≤ n) : numL (BM.listOf s.data.toList n) a k = takeN s a k := by
  unfold numL takeN
  apply BM.ofBits_congr
  intro i hi
  rw [BM.listOf_getD, if_pos (by omega)]
theorem numL_one {s : ByteArray} {n a : Nat} (h : a + 1 ≤ n) : numL (BM.listOf s.data.toList n) a 1 = (BM.bitAt s.data.toList a).toNat := by
  rw [numL_take h]; unfold takeN; simp [BM.ofBits]
def tailL (L : List Bool) (p : Nat) : Option (Nat × Nat) → Option (Int × Nat)
  | none => none
  | some (i, q) =>
    if q + bitsI i ≤ L.length then
      (if (codeB ((numL L q (bitsI i) : Int) - offI i)).length = q + bitsI i - p then some ((numL L q (bitsI i) : Int) - offI i, q + bitsI i) else none)
    else none
theorem getL_tail (L : List Bool) (p : Nat) : getL L p = tailL L p (onesL L 4 0 p) := by
  unfold getL tailL; cases onesL L 4 0 p <;> rfl
theorem l3Read_j0 (s : ByteArray) (n p : Nat) (w : World) (hs : s.size ≤ maxLen) (hn : n ≤ 20000) (h8 : n ≤ 8 * s.size) (hp : p + 1 ≤ n) (b0 : BM.bitAt s.data.toList p = false) :
    Calls Tryd.prog 110 #[.agg #[.string s, .int .i64 (n : Int)], .int .i64 (p : Int)] w (RetBelow (readT (tailL (BM.listOf s.data.toList n) p (some (0, p + 1)))) w) := by
  have hL : (BM.listOf s.data.toList n).length = n := BM.listOf_length _ _
  by_cases hq : p + 1 + 0 ≤ n
  · have hX := (numL_take (s := s) hq).symm
    cases hst : stepB ((numL (BM.listOf s.data.toList n) (p + 1) 0 : Int) - 0) with
    | false =>
      have hB : codeB ((numL (BM.listOf s.data.toList n) (p + 1) 0 : Int) - 0) = [] := by unfold codeB; rw [hst]; rfl
      have e : tailL (BM.listOf s.data.toList n) p (some (0, p + 1)) = none := by
        show (if p + 1 + 0 ≤ (BM.listOf s.data.toList n).length then (if (codeB ((numL (BM.listOf s.data.toList n) (p + 1) 0 : Int) - 0)).length = p + 1 + 0 - p then _ else none) else none) = none
        rw [hB, if_pos (by rw [hL]; exact hq), if_neg (by simp <;> omega)]
      rw [e]
      exact l3Read_far0 s n p w hs hn h8 hp b0 hq _ hX hst
    | true =>
      by_cases hm : (codeB ((numL (BM.listOf s.data.toList n) (p + 1) 0 : Int) - 0)).length = 1
      · have e : tailL (BM.listOf s.data.toList n) p (some (0, p + 1)) = some (((numL (BM.listOf s.data.toList n) (p + 1) 0 : Int) - 0), p + 1) := by
          show (if p + 1 + 0 ≤ (BM.listOf s.data.toList n).length then (if (codeB ((numL (BM.listOf s.data.toList n) (p + 1) 0 : Int) - 0)).length = p + 1 + 0 - p then _ else none) else none) = _
          rw [if_pos (by rw [hL]; exact hq), if_pos (by omega)]
          rfl
        rw [e]
        exact l3Read_yes0 s n p w hs hn h8 hp b0 hq _ hX hst _ rfl hm
      · have e : tailL (BM.listOf s.data.toList n) p (some (0, p + 1)) = none := by
          show (if p + 1 + 0 ≤ (BM.listOf s.data.toList n).length then (if (codeB ((numL (BM.listOf s.data.toList n) (p + 1) 0 : Int) - 0)).length = p + 1 + 0 - p then _ else none) else none) = none
          rw [if_pos (by rw [hL]; exact hq), if_neg (by omega)]
        rw [e]
        exact l3Read_odd0 s n p w hs hn h8 hp b0 hq _ hX hst _ rfl hm
  · have e : tailL (BM.listOf s.data.toList n) p (some (0, p + 1)) = none := by
      show (if p + 1 + 0 ≤ (BM.listOf s.data.toList n).length then _ else none) = none
      rw [if_neg (by rw [hL]; exact hq)]
    rw [e]
    exact l3Read_short0 s n p w hs hn h8 hp b0 hq
theorem l3Read_j1 (s : ByteArray) (n p : Nat) (w : World) (hs : s.size ≤ maxLen) (hn : n ≤ 20000) (h8 : n ≤ 8 * s.size) (hp : p + 2 ≤ n) (b0 : BM.bitAt s.data.toList p = true) (b1 : BM.bitAt s.data.toList (p + 1) = false) :
    Calls Tryd.prog 110 #[.agg #[.string s, .int .i64 (n : Int)], .int .i64 (p : Int)] w (RetBelow (readT (tailL (BM.listOf s.data.toList n) p (some (1, p + 2)))) w) := by
  have hL : (BM.listOf s.data.toList n).length = n := BM.listOf_length _ _
  by_cases hq : p + 2 + 7 ≤ n
  · have hX := (numL_take (s := s) hq).symm
    cases hst : stepB ((numL (BM.listOf s.data.toList n) (p + 2) 7 : Int) - 63) with
    | false =>
      have hB : codeB ((numL (BM.listOf s.data.toList n) (p + 2) 7 : Int) - 63) = [] := by unfold codeB; rw [hst]; rfl
      have e : tailL (BM.listOf s.data.toList n) p (some (1, p + 2)) = none := by
        show (if p + 2 + 7 ≤ (BM.listOf s.data.toList n).length then (if (codeB ((numL (BM.listOf s.data.toList n) (p + 2) 7 : Int) - 63)).length = p + 2 + 7 - p then _ else none) else none) = none
        rw [hB, if_pos (by rw [hL]; exact hq), if_neg (by simp <;> omega)]
      rw [e]
      exact l3Read_far1 s n p w hs hn h8 hp b0 b1 hq _ hX hst
    | true =>
      by_cases hm : (codeB ((numL (BM.listOf s.data.toList n) (p + 2) 7 : Int) - 63)).length = 9
      · have e : tailL (BM.listOf s.data.toList n) p (some (1, p + 2)) = some (((numL (BM.listOf s.data.toList n) (p + 2) 7 : Int) - 63), p + 9) := by
          show (if p + 2 + 7 ≤ (BM.listOf s.data.toList n).length then (if (codeB ((numL (BM.listOf s.data.toList n) (p + 2) 7 : Int) - 63)).length = p + 2 + 7 - p then _ else none) else none) = _
          rw [if_pos (by rw [hL]; exact hq), if_pos (by omega)]
          rfl
        rw [e]
        exact l3Read_yes1 s n p w hs hn h8 hp b0 b1 hq _ hX hst _ rfl hm
      · have e : tailL (BM.listOf s.data.toList n) p (some (1, p + 2)) = none := by
          show (if p + 2 + 7 ≤ (BM.listOf s.data.toList n).length then (if (codeB ((numL (BM.listOf s.data.toList n) (p + 2) 7 : Int) - 63)).length = p + 2 + 7 - p then _ else none) else none) = none
          rw [if_pos (by rw [hL]; exact hq), if_neg (by omega)]
        rw [e]
        exact l3Read_odd1 s n p w hs hn h8 hp b0 b1 hq _ hX hst _ rfl hm
  · have e : tailL (BM.listOf s.data.toList n) p (some (1, p + 2)) = none := by
      show (if p + 2 + 7 ≤ (BM.listOf s.data.toList n).length then _ else none) = none
      rw [if_neg (by rw [hL]; exact hq)]
    rw [e]
    exact l3Read_short1 s n p w hs hn h8 hp b0 b1 hq
theorem l3Read_j2 (s : ByteArray) (n p : Nat) (w : World) (hs : s.size ≤ maxLen) (hn : n ≤ 20000) (h8 : n ≤ 8 * s.size) (hp : p + 3 ≤ n) (b0 : BM.bitAt s.data.toList p = true) (b1 : BM.bitAt s.data.toList (p + 1) = true) (b2 : BM.bitAt s.data.toList (p + 2) = false) :
    Calls Tryd.prog 110 #[.agg #[.string s, .int .i64 (n : Int)], .int .i64 (p : Int)] w (RetBelow (readT (tailL (BM.listOf s.data.toList n) p (some (2, p + 3)))) w) := by
  have hL : (BM.listOf s.data.toList n).length = n := BM.listOf_length _ _
  by_cases hq : p + 3 + 9 ≤ n
  · have hX := (numL_take (s := s) hq).symm
    cases hst : stepB ((numL (BM.listOf s.data.toList n) (p + 3) 9 : Int) - 255) with
    | false =>
      have hB : codeB ((numL (BM.listOf s.data.toList n) (p + 3) 9 : Int) - 255) = [] := by unfold codeB; rw [hst]; rfl
      have e : tailL (BM.listOf s.data.toList n) p (some (2, p + 3)) = none := by
        show (if p + 3 + 9 ≤ (BM.listOf s.data.toList n).length then (if (codeB ((numL (BM.listOf s.data.toList n) (p + 3) 9 : Int) - 255)).length = p + 3 + 9 - p then _ else none) else none) = none
        rw [hB, if_pos (by rw [hL]; exact hq), if_neg (by simp <;> omega)]
      rw [e]
      exact l3Read_far2 s n p w hs hn h8 hp b0 b1 b2 hq _ hX hst
    | true =>
      by_cases hm : (codeB ((numL (BM.listOf s.data.toList n) (p + 3) 9 : Int) - 255)).length = 12
      · have e : tailL (BM.listOf s.data.toList n) p (some (2, p + 3)) = some (((numL (BM.listOf s.data.toList n) (p + 3) 9 : Int) - 255), p + 12) := by
          show (if p + 3 + 9 ≤ (BM.listOf s.data.toList n).length then (if (codeB ((numL (BM.listOf s.data.toList n) (p + 3) 9 : Int) - 255)).length = p + 3 + 9 - p then _ else none) else none) = _
          rw [if_pos (by rw [hL]; exact hq), if_pos (by omega)]
          rfl
        rw [e]
        exact l3Read_yes2 s n p w hs hn h8 hp b0 b1 b2 hq _ hX hst _ rfl hm
      · have e : tailL (BM.listOf s.data.toList n) p (some (2, p + 3)) = none := by
          show (if p + 3 + 9 ≤ (BM.listOf s.data.toList n).length then (if (codeB ((numL (BM.listOf s.data.toList n) (p + 3) 9 : Int) - 255)).length = p + 3 + 9 - p then _ else none) else none) = none
          rw [if_pos (by rw [hL]; exact hq), if_neg (by omega)]
        rw [e]
        exact l3Read_odd2 s n p w hs hn h8 hp b0 b1 b2 hq _ hX hst _ rfl hm
  · have e : tailL (BM.listOf s.data.toList n) p (some (2, p + 3)) = none := by
      show (if p + 3 + 9 ≤ (BM.listOf s.data.toList n).length then _ else none) = none
      rw [if_neg (by rw [hL]; exact hq)]
    rw [e]
    exact l3Read_short2 s n p w hs hn h8 hp b0 b1 b2 hq
theorem l3Read_j3 (s : ByteArray) (n p : Nat) (w : World) (hs : s.size ≤ maxLen) (hn : n ≤ 20000) (h8 : n ≤ 8 * s.size) (hp : p + 4 ≤ n) (b0 : BM.bitAt s.data.toList p = true) (b1 : BM.bitAt s.data.toList (p + 1) = true) (b2 : BM.bitAt s.data.toList (p + 2) = true) (b3 : BM.bitAt s.data.toList (p + 3) = false) :
    Calls Tryd.prog 110 #[.agg #[.string s, .int .i64 (n : Int)], .int .i64 (p : Int)] w (RetBelow (readT (tailL (BM.listOf s.data.toList n) p (some (3, p + 4)))) w) := by
  have hL : (BM.listOf s.data.toList n).length = n := BM.listOf_length _ _
  by_cases hq : p + 4 + 12 ≤ n
  · have hX := (numL_take (s := s) hq).symm
    cases hst : stepB ((numL (BM.listOf s.data.toList n) (p + 4) 12 : Int) - 2047) with
    | false =>
      have hB : codeB ((numL (BM.listOf s.data.toList n) (p + 4) 12 : Int) - 2047) = [] := by unfold codeB; rw [hst]; rfl
      have e : tailL (BM.listOf s.data.toList n) p (some (3, p + 4)) = none := by
        show (if p + 4 + 12 ≤ (BM.listOf s.data.toList n).length then (if (codeB ((numL (BM.listOf s.data.toList n) (p + 4) 12 : Int) - 2047)).length = p + 4 + 12 - p then _ else none) else none) = none
        rw [hB, if_pos (by rw [hL]; exact hq), if_neg (by simp <;> omega)]
      rw [e]
      exact l3Read_far3 s n p w hs hn h8 hp b0 b1 b2 b3 hq _ hX hst
    | true =>
      by_cases hm : (codeB ((numL (BM.listOf s.data.toList n) (p + 4) 12 : Int) - 2047)).length = 16
      · have e : tailL (BM.listOf s.data.toList n) p (some (3, p + 4)) = some (((numL (BM.listOf s.data.toList n) (p + 4) 12 : Int) - 2047), p + 16) := by
          show (if p + 4 + 12 ≤ (BM.listOf s.data.toList n).length then (if (codeB ((numL (BM.listOf s.data.toList n) (p + 4) 12 : Int) - 2047)).length = p + 4 + 12 - p then _ else none) else none) = _
          rw [if_pos (by rw [hL]; exact hq), if_pos (by omega)]
          rfl
        rw [e]
        exact l3Read_yes3 s n p w hs hn h8 hp b0 b1 b2 b3 hq _ hX hst _ rfl hm
      · have e : tailL (BM.listOf s.data.toList n) p (some (3, p + 4)) = none := by
          show (if p + 4 + 12 ≤ (BM.listOf s.data.toList n).length then (if (codeB ((numL (BM.listOf s.data.toList n) (p + 4) 12 : Int) - 2047)).length = p + 4 + 12 - p then _ else none) else none) = none
          rw [if_pos (by rw [hL]; exact hq), if_neg (by omega)]
        rw [e]
        exact l3Read_odd3 s n p w hs hn h8 hp b0 b1 b2 b3 hq _ hX hst _ rfl hm
  · have e : tailL (BM.listOf s.data.toList n) p (some (3, p + 4)) = none := by
      show (if p + 4 + 12 ≤ (BM.listOf s.data.toList n).length then _ else none) = none
      rw [if_neg (by rw [hL]; exact hq)]
    rw [e]
    exact l3Read_short3 s n p w hs hn h8 hp b0 b1 b2 b3 hq
theorem l3Read_j4 (s : ByteArray) (n p : Nat) (w : World) (hs : s.size ≤ maxLen) (hn : n ≤ 20000) (h8 : n ≤ 8 * s.size) (hp : p + 4 ≤ n) (b0 : BM.bitAt s.data.toList p = true) (b1 : BM.bitAt s.data.toList (p + 1) = true) (b2 : BM.bitAt s.data.toList (p + 2) = true) (b3 : BM.bitAt s.data.toList (p + 3) = true) :
    Calls Tryd.prog 110 #[.agg #[.string s, .int .i64 (n : Int)], .int .i64 (p : Int)] w (RetBelow (readT (tailL (BM.listOf s.data.toList n) p (some (4, p + 4)))) w) := by
  have hL : (BM.listOf s.data.toList n).length = n := BM.listOf_length _ _
  by_cases hq : p + 4 + 42 ≤ n
  · have hX := (numL_take (s := s) hq).symm
    cases hst : stepB ((numL (BM.listOf s.data.toList n) (p + 4) 42 : Int) - 2199023255552) with
    | false =>
      have hB : codeB ((numL (BM.listOf s.data.toList n) (p + 4) 42 : Int) - 2199023255552) = [] := by unfold codeB; rw [hst]; rfl
      have e : tailL (BM.listOf s.data.toList n) p (some (4, p + 4)) = none := by
        show (if p + 4 + 42 ≤ (BM.listOf s.data.toList n).length then (if (codeB ((numL (BM.listOf s.data.toList n) (p + 4) 42 : Int) - 2199023255552)).length = p + 4 + 42 - p then _ else none) else none) = none
        rw [hB, if_pos (by rw [hL]; exact hq), if_neg (by simp <;> omega)]
      rw [e]
      exact l3Read_far4 s n p w hs hn h8 hp b0 b1 b2 b3 hq _ hX hst
    | true =>
      by_cases hm : (codeB ((numL (BM.listOf s.data.toList n) (p + 4) 42 : Int) - 2199023255552)).length = 46
      · have e : tailL (BM.listOf s.data.toList n) p (some (4, p + 4)) = some (((numL (BM.listOf s.data.toList n) (p + 4) 42 : Int) - 2199023255552), p + 46) := by
          show (if p + 4 + 42 ≤ (BM.listOf s.data.toList n).length then (if (codeB ((numL (BM.listOf s.data.toList n) (p + 4) 42 : Int) - 2199023255552)).length = p + 4 + 42 - p then _ else none) else none) = _
          rw [if_pos (by rw [hL]; exact hq), if_pos (by omega)]
          rfl
        rw [e]
        exact l3Read_yes4 s n p w hs hn h8 hp b0 b1 b2 b3 hq _ hX hst _ rfl hm
      · have e : tailL (BM.listOf s.data.toList n) p (some (4, p + 4)) = none := by
          show (if p + 4 + 42 ≤ (BM.listOf s.data.toList n).length then (if (codeB ((numL (BM.listOf s.data.toList n) (p + 4) 42 : Int) - 2199023255552)).length = p + 4 + 42 - p then _ else none) else none) = none
          rw [if_pos (by rw [hL]; exact hq), if_neg (by omega)]
        rw [e]
        exact l3Read_odd4 s n p w hs hn h8 hp b0 b1 b2 b3 hq _ hX hst _ rfl hm
  · have e : tailL (BM.listOf s.data.toList n) p (some (4, p + 4)) = none := by
      show (if p + 4 + 42 ≤ (BM.listOf s.data.toList n).length then _ else none) = none
      rw [if_neg (by rw [hL]; exact hq)]
    rw [e]
    exact l3Read_short4 s n p w hs hn h8 hp b0 b1 b2 b3 hq
theorem l3Read_any (s : ByteArray) (n p : Nat) (w : World) (hs : s.size ≤ maxLen) (hn : n ≤ 20000) (h8 : n ≤ 8 * s.size) (hp : p ≤ n) :
    Calls Tryd.prog 110 #[.agg #[.string s, .int .i64 (n : Int)], .int .i64 (p : Int)] w (RetBelow (readT (getL (BM.listOf s.data.toList n) p)) w) := by
  have hL : (BM.listOf s.data.toList n).length = n := BM.listOf_length _ _
  rw [getL_tail]
  by_cases c0 : p + 1 ≤ n
  · have n0 := numL_one (s := s) (n := n) (a := p) (by omega)
    cases b0 : BM.bitAt s.data.toList p with
    | false =>
      rw [b0] at n0
      have e : onesL (BM.listOf s.data.toList n) 4 0 p = some (0, p + 1) := by simp [onesL, hL, c0, n0]
      rw [e]
      exact l3Read_j0 s n p w hs hn h8 (by omega) b0
    | true =>
      rw [b0] at n0
      by_cases c1 : p + 2 ≤ n
      · have n1 := numL_one (s := s) (n := n) (a := (p + 1)) (by omega)
        cases b1 : BM.bitAt s.data.toList (p + 1) with
        | false =>
          rw [b1] at n1
          have e : onesL (BM.listOf s.data.toList n) 4 0 p = some (1, p + 2) := by simp [onesL, hL, c0, n0, c1, n1]
          rw [e]
          exact l3Read_j1 s n p w hs hn h8 (by omega) b0 b1
        | true =>
          rw [b1] at n1
          by_cases c2 : p + 3 ≤ n
          · have n2 := numL_one (s := s) (n := n) (a := (p + 2)) (by omega)
            cases b2 : BM.bitAt s.data.toList (p + 2) with
            | false =>
              rw [b2] at n2
              have e : onesL (BM.listOf s.data.toList n) 4 0 p = some (2, p + 3) := by simp [onesL, hL, c0, n0, c1, n1, c2, n2]
              rw [e]
              exact l3Read_j2 s n p w hs hn h8 (by omega) b0 b1 b2
            | true =>
              rw [b2] at n2
              by_cases c3 : p + 4 ≤ n
              · have n3 := numL_one (s := s) (n := n) (a := (p + 3)) (by omega)
                cases b3 : BM.bitAt s.data.toList (p + 3) with
                | false =>
                  rw [b3] at n3
                  have e : onesL (BM.listOf s.data.toList n) 4 0 p = some (3, p + 4) := by simp [onesL, hL, c0, n0, c1, n1, c2, n2, c3, n3]
                  rw [e]
                  exact l3Read_j3 s n p w hs hn h8 (by omega) b0 b1 b2 b3
                | true =>
                  rw [b3] at n3
                  have e : onesL (BM.listOf s.data.toList n) 4 0 p = some (4, p + 4) := by simp [onesL, hL, c0, n0, c1, n1, c2, n2, c3, n3]
                  rw [e]
                  exact l3Read_j4 s n p w hs hn h8 (by omega) b0 b1 b2 b3
              · have e : onesL (BM.listOf s.data.toList n) 4 0 p = none := by simp [onesL, hL, c0, n0, c1, n1, c2, n2, c3]
                rw [e]
                exact l3Read_out3 s n p w hs hn h8 (by omega) b0 b1 b2
          · have e : onesL (BM.listOf s.data.toList n) 4 0 p = none := by simp [onesL, hL, c0, n0, c1, n1, c2]
            rw [e]
            exact l3Read_out2 s n p w hs hn h8 (by omega) b0 b1
      · have e : onesL (BM.listOf s.data.toList n) 4 0 p = none := by simp [onesL, hL, c0, n0, c1]
        rw [e]
        exact l3Read_out1 s n p w hs hn h8 (by omega) b0
  · have e : onesL (BM.listOf s.data.toList n) 4 0 p = none := by simp [onesL, hL, c0]
    rw [e]
    exact l3Read_out0 s n p w hs hn h8 (by omega) 

end Go.Proofs.YtanoohfhifhhaaaDoor

/- Walks: the document's ReadCode; the law FnExactReadCode. -/
set_option linter.unusedVariables false
set_option linter.unusedSimpArgs false
namespace Go.Proofs.YtanoohfhifhhaaaDoor
open Go.RowKit

end Go.Proofs.YtanoohfhifhhaaaDoor

/- Walks: the document's reader of times. -/
set_option linter.unusedVariables false
set_option linter.unusedSimpArgs false
namespace Go.Proofs.YtanoohfhifhhaaaDoor
open Go.RowKit

def BackOut (r : Option (List Int × Nat)) (w : World) (e : Ending) (w' : World) : Prop := match r with
  | some (xs, q) => ∃ v, e = .returned (.tuple #[v, .int .i64 (q : Int), .bool (timesOkB xs)]) ∧ w'.ownsRow w.heap.size 2 1 v xs.length (ints xs)
  | none => e = .returned (.tuple #[.slice none 0 0, .int .i64 0, .bool false])

theorem onesL_lt (L : List Bool) : ∀ (k i p j q : Nat), 0 < k → onesL L k i p = some (j, q) → p < q
  | k + 1, i, p, j, q, _, h => by
    rw [onesL] at h
    split at h
    · split at h
      · simp only [Option.some.injEq, Prod.mk.injEq] at h; omega
      · cases k with
        | zero => simp only [onesL, Option.some.injEq, Prod.mk.injEq] at h; omega
        | succ k => have := onesL_lt L (k + 1) (i + 1) (p + 1) j q (by omega) h; omega
    · cases h
theorem rdOk_L (L : List Bool) : RdOk (fL L) (getL L) L.length where
  f := fun p d q hp h => by
    unfold fL at h
    split at h
    · simp only [Option.some.injEq, Prod.mk.injEq] at h
      have : numL L p 40 < 2 ^ 40 := BM.ofBits_lt _ _
      omega
    · cases h
  g := fun p d q hp h => by
    unfold getL at h
    cases h1 : onesL L 4 0 p with
    | none => rw [h1] at h; cases h
    | some a =>
      obtain ⟨i, m⟩ := a
      rw [h1] at h
      have hm := onesL_lt L 4 0 p i m (by omega) h1
      simp only at h
      split at h
      · split at h
        · rename_i hc hn
          simp only [Option.some.injEq, Prod.mk.injEq] at h
          obtain ⟨rfl, rfl⟩ := h
          have := codeB_lim (d := (numL L m (bitsI i) : Int) - offI i) (by omega)
          omega
        · cases h
      · cases h

set_option maxRecDepth 100000 in
set_option maxHeartbeats 4000000 in
theorem l3Back_any (s : ByteArray) (N p n : Nat) (w : World) (hs : s.size ≤ maxLen) (hN : N ≤ 20000) (h8 : N ≤ 8 * s.size) (hp : p ≤ N) (hn : n ≤ 120) (L : List Bool) (hL : BM.listOf s.data.toList N = L) :
    Calls Tryd.prog 86 #[.agg #[.string s, .int .i64 (N : Int)], .int .i64 (p : Int), .int .i64 (n : Int)] w fun e w' => BackOut (timesG (fL L) (getL L) n p) w e w' ∧ Below w.heap.size w w' := by
  have hlen : L.length = N := by rw [← hL]; exact BM.listOf_length _ _
  have HNum := Lib.hid (fun q (hq : q + 40 ≤ N) => (numL_take (s := s) (n := N) (a := q) (k := 40) hq).symm)
  rw [hL] at HNum
  have HTk := Lib.hid (fun (q : Nat) W (hq : q + 40 ≤ N) => l1Take_any s (N : Int) q 40 W (by omega) (by omega) hs)
  have HRd := Lib.hid (fun (q : Nat) W (hq : q ≤ N) => l3Read_any s N q W hs hN h8 hq)
  rw [hL] at HRd
  have HT := Lib.hid (fun v xs W h => specTimesOk_any v xs W h)
  have HO := Lib.hid (fun k xs q hk h => timesG_ok (rdOk_L L) (p := p) (by omega) k xs q hk h)
  rw [hlen] at HO
  have HfL := Lib.hid (show ∀ q, fL L q = if q + 40 ≤ N then some ((numL L q 40 : Int), q + 40) else none from fun q => by unfold fL; rw [hlen])
  obtain ⟨i0, hi, hz0, hz1, hz2⟩ := info_parts u_info_i64
  have hB0 : Below w.heap.size w (w.alloc (.cells #[.string s, .int .i64 (N : Int)] 77)) := below1 w _
  have hx0 : (w.alloc (.cells #[.string s, .int .i64 (N : Int)] 77)).cell? ⟨w.heap.size, 0, none⟩ = some (.string s) := by go_simp
  have hx1 : (w.alloc (.cells #[.string s, .int .i64 (N : Int)] 77)).cell? ⟨w.heap.size, 1, none⟩ = some (.int .i64 (N : Int)) := by go_simp
  have hsz0 : (w.alloc (.cells #[.string s, .int .i64 (N : Int)] 77)).heap.size = w.heap.size + 1 := by simp
  have hown0 : ((w.alloc (.cells #[.string s, .int .i64 (N : Int)] 77)).alloc (.cells #[] 2)).ownsRow (w.heap.size + 1) 2 1 (.slice (some ⟨w.heap.size + 1, 0, none⟩) 0 0) 0 (ints []) := by
    have := World.ownsRow_made (w.alloc (.cells #[.string s, .int .i64 (N : Int)] 77)) (base := w.heap.size + 1) (e := 2) (size := 1) #[] 0 (by rw [hsz0]; omega) (by simp [maxLen]) rfl
    rw [hsz0] at this
    simpa [ints] using this
  have HB0 := Lib.hid hB0
  have HX0 := Lib.hid hx0
  have HX1 := Lib.hid hx1
  have HZ0 := Lib.hid hsz0
  have HOw := Lib.hid hown0
  have HLn := Lib.hid hlen
  clear hB0 hx0 hx1 hsz0 hown0 hL hlen
  go_enter Tryd.func86, Tryd.ntmps86
  go_wp2_with fail
  have hb0 : Below (w.heap.size + 1) (w.alloc (.cells #[.string s, .int .i64 (N : Int)] 77)) ((w.alloc (.cells #[.string s, .int .i64 (N : Int)] 77)).alloc (.cells #[] 2)) := (Below.refl _ _).alloc (by rw [HZ0.out]; omega) _
  generalize w.alloc (.cells #[.string s, .int .i64 (N : Int)] 77) = w0 at *
  go_loopw [1, 9, 10, 11] (fun a v st i wr => ∃ (k : Nat) (xs : List Int) (q : Nat), k ≤ n ∧ i = .int .i64 k ∧ timesG (fL L) (getL L) k p = some (xs, q) ∧ a = .int .i64 (q : Int) ∧ st = .int .i64 (stepAt xs (k - 1)) ∧
      wr.ownsRow (w.heap.size + 1) 2 1 v k (ints xs) ∧ Below (w.heap.size + 1) w0 wr)
    (fun _ _ _ i _ => n - (intOf i).toNat)
  case atStart => exact ⟨0, [], p, Nat.zero_le _, rfl, rfl, rfl, rfl, HOw.out, hb0⟩
  case round =>
    clear hb0
    obtain ⟨k, xs, q, hk, rfl, ht, rfl, rfl, hown, hb⟩ := hrel
    have hT := HO.out k xs q (by omega) ht
    have HTw := Lib.hid ht
    have hqN := hT.qN
    have x0 : wr.cell? ⟨w.heap.size, 0, none⟩ = some (.string s) := (hb.cell (p := ⟨w.heap.size, 0, none⟩) (by simp)).trans HX0.out
    have x1 : wr.cell? ⟨w.heap.size, 1, none⟩ = some (.int .i64 (N : Int)) := (hb.cell (p := ⟨w.heap.size, 1, none⟩) (by simp)).trans HX1.out
    have hsz : w.heap.size + 1 ≤ wr.heap.size := by have := hb.size; have := HZ0.out; omega
    have HBr := Lib.hid hb
    have HOr := Lib.hid hown
    clear ht hb hown
    by_cases hlt : k < n
    · by_cases hk0 : k = 0
      · subst hk0
        rw [show stepAt xs (0 - 1) = 0 from rfl]
        by_cases c : q + 40 ≤ N
        · have ci : ¬ (N : Int) < (q : Int) + 40 := by omega
          have e40 : wrap64 ((q : Int) + 40) = ((q + 40 : Nat) : Int) := by unfold wrap64; omega
          have hn1 := Lib.hid (show timesG (fL L) (getL L) (0 + 1) p = some (xs ++ [(numL L q 40 : Int)], q + 40) from by
            rw [timesG_step HTw.out]; simp only [if_true]; rw [HfL.out, if_pos c])
          have HTk2 := Lib.hid (fun W => HTk.out q W c)
          rw [HNum.out q c] at HTk2
          have hV : numL L q 40 < 2 ^ 40 := BM.ofBits_lt _ _
          generalize numL L q 40 = V at *
          rw [show wrap64 (V : Int) = (V : Int) by unfold wrap64; omega] at HTk2
          have hs1 : stepAt (xs ++ [(V : Int)]) 0 = 0 := rfl
          clear HNum HTk
          go_wp2_with fail
          refine (HTk2.out _).mono ?_
          rintro e w2 ⟨rfl, hb2⟩
          have ho2 := u_own_below HOr.out hb2
          have hb3 := HBr.out.trans (hb2.mono hsz)
          have hsz2 : w.heap.size + 1 ≤ w2.heap.size := Nat.le_trans hsz hb2.size
          clear hb2 x0 x1 e40
          go_wp2_with (at_builtin; refine wpList_append_own _ rfl _ _ 94 rfl (w.heap.size + 1) 2 i0 (.int .i64 0) 1 8 Tryd.underlying94 hi hz0 hz1 hz2 rfl (by decide) _ _ _ rfl (ho2.alloc _) ⟨w2.heap.size, 0, none⟩ 1 1 [.int .i64 (V : Int)] rfl rfl ?c1 ?c2 ?c3 ?c4 ?c5 ?_)
          case c1 => exact cell_one_new _ _ _
          case c2 => intro q hq; simp at hq; subst hq; rfl
          case c3 => unfold maxLen; omega
          case c4 => omega
          case c5 => simp; omega
          intro v' w4 hown' hgrow _
          have hb4 := u_below_append hb3 (Nat.le_refl _) hsz2 ho2 hgrow
          have hown5 : w4.ownsRow (w.heap.size + 1) 2 1 v' (0 + 1) (ints (xs ++ [(V : Int)])) := by rw [ints_append]; exact hown'
          clear hown' hgrow
          go_wp2_with fail
          exact ⟨⟨0 + 1, _, q + 40, by omega, rfl, hn1.out, by rw [show ((q + 40 : Nat) : Int) = (q : Int) + 40 by omega], by rw [hs1], hown5, hb4⟩, by simp [intOf]; omega⟩
        · have ci : (N : Int) < (q : Int) + 40 := by omega
          have E := Lib.hid (show timesG (fL L) (getL L) n p = none from by
            have h1 : timesG (fL L) (getL L) 1 p = none := by
              rw [timesG_step HTw.out]; simp only [if_true]; rw [HfL.out, if_neg c]
            exact timesG_none h1 n (by omega))
          go_wp2_with fail
          go_ret3
          rw [E.out]
          exact ⟨rfl, HB0.out.trans (HBr.out.mono (by omega))⟩
      · have hst := hT.step
        have hla := hT.last (by omega)
        have hki : ¬ (k : Int) = 0 := by omega
        have hkb : ((k : Int) == 0) = false := by rw [beq_eq_false_iff_ne]; exact hki
        have hkd : decide ((k : Int) = 0) = false := decide_eq_false hki
        have HRd2 := Lib.hid (fun W => HRd.out q W hqN)
        cases hr : getL L q with
        | none =>
          have E := Lib.hid (show timesG (fL L) (getL L) n p = none from by
            have h1 : timesG (fL L) (getL L) (k + 1) p = none := by
              rw [timesG_step HTw.out]; simp only [if_neg hk0]; rw [hr]
            exact timesG_none h1 n (by omega))
          rw [hr, show readT none = .tuple #[.int .i64 0, .int .i64 0, .bool false] from rfl] at HRd2
          clear hr HRd
          generalize stepAt xs (k - 1) = st at *
          go_wp2_with fail
          refine (HRd2.out _).mono ?_
          rintro e w2 ⟨rfl, hb2⟩
          go_wp2_with fail
          go_ret3
          rw [E.out]
          exact ⟨rfl, HB0.out.trans ((HBr.out.trans (hb2.mono hsz)).mono (by omega))⟩
        | some dq =>
          obtain ⟨d, q2⟩ := dq
          have hd := (rdOk_L L).g q d q2 (by have : L.length = N := HLn.out; omega) hr
          obtain ⟨la, hla1⟩ : ∃ la, xs.getD (k - 1) 0 = la := ⟨_, rfl⟩
          obtain ⟨st, hst1⟩ : ∃ st, stepAt xs (k - 1) = st := ⟨_, rfl⟩
          have hn1 := Lib.hid (show timesG (fL L) (getL L) (k + 1) p = some (xs ++ [la + (st + d)], q2) from by
            rw [timesG_step HTw.out]; simp only [if_neg hk0]; rw [hr, hla1, hst1])
          have hs1 : stepAt (xs ++ [la + (st + d)]) k = st + d := by
            have := stepAt_snoc (ys := xs) (k := k) (d := d) hT.len hk0
            rw [hla1, hst1] at this; exact this
          have HS1 := Lib.hid hs1
          have hlen : xs.length = k := hT.len
          have hget : (ints xs)[k - 1]? = some (.int .i64 la) := by rw [ints_get _ _ (by omega), hla1]
          rw [hla1] at hla
          rw [hst1] at hst ⊢
          rw [hr, show readT (some (d, q2)) = .tuple #[.int .i64 d, .int .i64 (q2 : Int), .bool true] from rfl] at HRd2
          clear hr HRd hs1 hla1 hst1
          have e1 : wrap64 (st + d) = st + d := by unfold wrap64; omega
          have e2 : wrap64 (la + (st + d)) = la + (st + d) := by unfold wrap64; omega
          have e3 : IntKind.i64.wrap ((k : Int) - 1) = (k : Int) - 1 := IntWalk.i64_in _ (by omega)
          have e4 : (0 : Int) ≤ (k : Int) - 1 := by omega
          have e5 : ((k : Int) - 1).toNat = k - 1 := by omega
          have e6 : (k : Int) - 1 < (k : Int) := by omega
          have e7 : (1 : Int) ≤ (k : Int) := by omega
          rcases HOr.out.2 with ⟨_, h0⟩ | ⟨gO, cO, cuO, rfl, hgO, hcO, hnO, _⟩
          · omega
          have hcl : wr.cell? ⟨gO, k - 1, none⟩ = some (.int .i64 la) := by rw [HOr.out.cellAt _ (by omega)]; exact hget
          have hgO2 : gO < wr.heap.size := (Array.getElem?_eq_some_iff.1 hcO).1
          go_wp2_with fail
          refine (HRd2.out _).mono ?_
          rintro e w2 ⟨rfl, hb2⟩
          have hcl2 : w2.cell? ⟨gO, k - 1, none⟩ = some (.int .i64 la) := (hb2.cell (p := ⟨gO, k - 1, none⟩) hgO2).trans hcl
          have ho2 := u_own_below HOr.out hb2
          have hb3 := HBr.out.trans (hb2.mono hsz)
          have hsz2 : w.heap.size + 1 ≤ w2.heap.size := Nat.le_trans hsz hb2.size
          clear hb2 x0 x1 hcl hget
          go_wp2_with (at_builtin; refine wpList_append_own _ rfl _ _ 94 rfl (w.heap.size + 1) 2 i0 (.int .i64 0) 1 8 Tryd.underlying94 hi hz0 hz1 hz2 rfl (by decide) _ _ _ rfl (ho2.alloc _) ⟨w2.heap.size, 0, none⟩ 1 1 [.int .i64 (la + (st + d))] rfl rfl ?c1 ?c2 ?c3 ?c4 ?c5 ?_)
          case c1 => exact cell_one_new _ _ _
          case c2 => intro q hq; simp at hq; subst hq; rfl
          case c3 => unfold maxLen; omega
          case c4 => omega
          case c5 => simp; omega
          intro v' w4 hown' hgrow _
          have hb4 := u_below_append hb3 (Nat.le_refl _) hsz2 ho2 hgrow
          have hown5 : w4.ownsRow (w.heap.size + 1) 2 1 v' (k + 1) (ints (xs ++ [la + (st + d)])) := by rw [ints_append]; exact hown'
          clear hown' hgrow hcl2
          go_wp2_with fail
          go_roundw
          case rel => exact ⟨k + 1, _, _, by omega, by go_num, hn1.out, rfl, by rw [show k + 1 - 1 = k from rfl, HS1.out], hown5, hb4⟩
          case measure => simp [intOf]; omega
    · obtain rfl : k = n := by omega
      have HI := Lib.hid (IL.of_own HOr.out hT.len.symm hT.rng (by have := hT.len; omega))
      have HOk := Lib.hid (HT.out _ xs wr HI.out)
      generalize stepAt xs (k - 1) = st
      go_wp2_with fail
      refine HOk.out.mono ?_
      rintro e w5 ⟨rfl, hb5⟩
      have ho5 := u_own_below HOr.out hb5
      go_wp2_with fail
      go_ret3
      rw [HTw.out]
      exact ⟨⟨_, rfl, by rw [hT.len]; exact u_ownsRow_base ho5 (by omega)⟩, (HB0.out.trans (HBr.out.mono (by omega))).trans (hb5.mono (by omega))⟩
end Go.Proofs.YtanoohfhifhhaaaDoor
