/- Walks: the program reads a code: ReadCode; what it reads, over the bits. -/
import Derived.Test.YtbgogpfhdfgjeaaHj
set_option linter.unusedVariables false
set_option linter.unusedSimpArgs false
namespace Go.Proofs.Ytbgogpfhdfgjeaa
open Go.RowKit

/-- the number in k bits behind the place p -/
def numL (L : List Bool) (p k : Nat) : Nat := BM.ofBits (fun j => L.getD (p + j) false) k
def onesL (L : List Bool) : Nat → Nat → Nat → Option (Nat × Nat)
  | 0, i, p => some (i, p)
  | k + 1, i, p => if p + 1 ≤ L.length then (if numL L p 1 = 0 then some (i, p + 1) else onesL L k (i + 1) (p + 1)) else none
def getL (L : List Bool) (p : Nat) : Option (Int × Nat) :=
  match onesL L 4 0 p with
  | none => none
  | some (i, q) =>
    if q + bitsI i ≤ L.length then
      (if (codeB ((numL L q (bitsI i) : Int) - offI i)).length = q + bitsI i - p then some ((numL L q (bitsI i) : Int) - offI i, q + bitsI i) else none)
    else none
theorem onesR_L {ws : List Nat} {L : List Bool} (h : BM.Words ws L) : ∀ (k i p : Nat), onesR ws L.length k i p = onesL L k i p := by
  intro k
  induction k with
  | zero => intro i p; rfl
  | succ k ih => intro i p; simp only [onesR, onesL, ih, BM.words_get h p 1 (by omega), numL]; congr
theorem bitsI_le (i : Nat) : bitsI i ≤ 64 := by unfold bitsI; split <;> omega
theorem getR_L {ws : List Nat} {L : List Bool} (h : BM.Words ws L) (p : Nat) : getR ws L.length p = getL L p := by
  unfold getR getL
  rw [onesR_L h]
  cases onesL L 4 0 p with
  | none => rfl
  | some iq =>
    obtain ⟨i, q⟩ := iq
    simp only [BM.words_get h q (bitsI i) (bitsI_le i)]
    rfl
/-- what ReadCode returns -/
def readV (s : ByteArray) (N a : Int) : Value := if hasB s N a 0 = true then readT (getL (BM.listOf s.data.toList N.toNat) a.toNat) else readT none
set_option maxRecDepth 100000 in
set_option maxHeartbeats 1000000 in
theorem readFrom1_any (s : ByteArray) (N a : Int) (gc : Nat) (w : World) (hs : s.size ≤ maxLen) (hcs : CodesAt w gc) :
    Calls Try.prog 52 #[.agg #[.string s, .int .i64 N], .int .i64 a, .func (.func 53) #[.pointer (some ⟨gc, 0, none⟩)] #[]] w (RetBelow (readV s N a) w) := by
  unfold readV
  cases h : hasB s N a 0 with
  | false => exact readFrom1_bad s N a _ w hs h rfl
  | true =>
    rw [if_pos rfl]
    have hh := h
    unfold hasB at hh
    rw [Bool.and_eq_true, decide_eq_true_iff] at hh
    obtain ⟨hok, _, ha, haN⟩ := hh
    obtain ⟨f0, f1, f2, f3⟩ := okB_facts hok
    obtain ⟨n, rfl⟩ : ∃ n : Nat, N = (n : Int) := ⟨N.toNat, by omega⟩
    obtain ⟨p, rfl⟩ : ∃ p : Nat, a = (p : Int) := ⟨a.toNat, by omega⟩
    refine (readFrom1_go s n p gc w hs h (by omega) hcs (by omega) hok (by omega)).mono ?_
    rintro e w' ⟨⟨ws, hws, rfl⟩, hb⟩
    have hW := ok_words hok hws
    have e1 := getR_L hW p
    rw [BM.listOf_length] at e1
    rw [e1, Int.toNat_natCast, Int.toNat_natCast]
    exact ⟨rfl, hb⟩
theorem readV_form (s : ByteArray) (N a : Int) : ∃ d q b, readV s N a = .tuple #[.int .i64 d, .int .i64 q, .bool b] := by
  unfold readV
  split
  · cases getL (BM.listOf s.data.toList N.toNat) a.toNat with
    | none => exact ⟨_, _, _, rfl⟩
    | some dq => exact ⟨_, _, _, rfl⟩
  · exact ⟨_, _, _, rfl⟩
set_option maxRecDepth 100000 in
set_option maxHeartbeats 1000000 in
theorem implReadCode_any (s : ByteArray) (N a : Int) (w : World) (hs : s.size ≤ maxLen) :
    Calls Try.prog 13 #[.agg #[.string s, .int .i64 N], .int .i64 a] w (RetBelow (readV s N a) w) := by
  have H := Lib.hid (fun W gc (hcs : CodesAt W gc) => readFrom1_any s N a gc W hs hcs)
  obtain ⟨d, q, b, hV⟩ := readV_form s N a
  rw [hV] at H ⊢
  clear hV
  go_enter Try.func13, Try.ntmps13
  go_wp2_with fail
  go_region_law (first
    | (go_simp; go_at_call 44; (refine (newStepCodes_any _).mono ?_); rintro e w1 ⟨gc, rfl, hcs, hgc, hb1⟩; obtain ⟨x0, x1, hgg⟩ := kept2' hb1 (g := w.heap.size) (s := s) (n := N) (show w.heap.size < (w.alloc (.cells #[.string s, .int .i64 N] 26)).heap.size by simp) (by go_simp) (by go_simp); have HC := Lib.hid hcs; have HB := Lib.hid (((Below.refl w.heap.size w).alloc (Nat.le_refl _) (.cells #[.string s, .int .i64 N] 26)).drew.trans (hb1.mono (show w.heap.size ≤ (w.alloc (.cells #[.string s, .int .i64 N] 26)).heap.size by simp))); clear hcs hb1)
    | (go_simp; go_at_call 52; (refine (H.out _ _ (RowKit.Hid.out (by assumption))).mono ?_); rintro e w4 ⟨rfl, hb4⟩; have HB4 := Lib.hid hb4; clear hb4))
  all_goals
    go_simp
    go_wp2_with fail
    exact bodyPost_ret (v := .tuple #[.int .i64 d, .int .i64 q, .bool b]) (by simp [results, Try.results13, go_sem]) rfl ⟨rfl, HB.out.trans (HB4.out.mono HB.out.size)⟩
end Go.Proofs.Ytbgogpfhdfgjeaa
