/- Walks of the small functions over bit strings. -/
import Derived.Test.YtanoohfhifhhaaaDoorProg
import Derived.Test.YtanoohfhifhhaaaDoorBm
import Derived.WalkKit
import Derived.WalkSpells
import Derived.WalkLawsBesides
import Derived.BigQuiet
import Derived.Lib.Hide
set_option linter.unusedVariables false
set_option linter.unusedSimpArgs false
namespace Go.Proofs.YtanoohfhifhhaaaDoor
open Go.RowKit

theorem ret_bool {a b : Bool} (h : a = b) : Ending.returned (.bool a) = .returned (.bool b) := by rw [h]
theorem ret_int {k : IntKind} {a b : Int} (h : a = b) : Ending.returned (.int k a) = .returned (.int k b) := by rw [h]

def inB (n lo hi : Int) : Bool := decide (lo ≤ n ∧ n ≤ hi)

set_option maxRecDepth 100000 in
set_option maxHeartbeats 400000 in
theorem l1In_any (n lo hi : Int) (w : World) :
    Calls Tryd.prog 50 #[.int .i64 n, .int .i64 lo, .int .i64 hi] w fun e w' => e = .returned (.bool (inB n lo hi)) ∧ w = w' := by
  by_cases h1 : lo ≤ n
  · go_enter Tryd.func50, Tryd.ntmps50
    go_wp2
    go_ret
    exact ⟨ret_bool (by simp [inB, h1]), rfl⟩
  · go_enter Tryd.func50, Tryd.ntmps50
    go_wp2
    go_ret
    exact ⟨ret_bool (by simp [inB]; omega), rfl⟩

set_option maxRecDepth 100000 in
set_option maxHeartbeats 400000 in
theorem bytesFor_any (n : Int) (w : World) (h0 : 0 ≤ n) (h1 : n ≤ 100000) :
    Calls Tryd.prog 117 #[.int .i64 n] w fun e w' => e = .returned (.int .i64 ((n + 7) / 8)) ∧ w = w' := by
  go_enter Tryd.func117, Tryd.ntmps117
  go_wp2
  go_ret
  exact ⟨rfl, rfl⟩

def bitsV (s : ByteArray) (n : Int) : Value := .agg #[.string s, .int .i64 n]



theorem l1Bit_val (x : UInt8) (k : Nat) : (wrap64 ((x.toNat : Int) / 2 ^ k)).tmod 2 = ((x.toNat.testBit k).toNat : Int) := by
  have hx := UInt8.toNat_lt x
  have e : ((x.toNat : Int) / 2 ^ k) = ((x.toNat / 2 ^ k : Nat) : Int) := by simp
  have hle : x.toNat / 2 ^ k ≤ x.toNat := Nat.div_le_self _ _
  rw [e, Nat.testBit_eq_decide_div_mod_eq]
  generalize x.toNat / 2 ^ k = y at *
  rw [IntWalk.wrap64_in _ (by omega), Int.tmod_eq_emod_of_nonneg (by omega)]
  by_cases h : y % 2 = 1 <;> simp [h] <;> omega

theorem bitAt_of (s : ByteArray) (n : Nat) (h : n / 8 < s.size) : BM.bitAt s.data.toList n = s[n / 8].toNat.testBit (7 - n % 8) := by
  unfold BM.bitAt
  have h' : n / 8 < s.data.toList.length := by simpa using h
  rw [List.getD_eq_getElem?_getD, List.getElem?_eq_getElem h']
  rfl

set_option maxRecDepth 100000 in
set_option maxHeartbeats 400000 in
theorem l1Bit_any (s : ByteArray) (n : Nat) (w : World) (h0 : n ≤ 100000) (h1 : n / 8 < s.size) (hs : s.size ≤ maxLen) :
    Calls Tryd.prog 111 #[.string s, .int .i64 (n : Int)] w fun e w' => e = .returned (.int .i64 ((BM.bitAt s.data.toList n).toNat : Int)) ∧ w = w' := by
  unfold maxLen at hs
  have H := Lib.hid (bitAt_of s n h1)
  have V := Lib.hid (l1Bit_val s[n / 8] (7 - n % 8))
  go_enter Tryd.func111, Tryd.ntmps111
  go_wp2
  go_ret
  exact ⟨by rw [H.out]; exact ret_int V.out, rfl⟩

end Go.Proofs.YtanoohfhifhhaaaDoor

/- Walks: the model's lists of bits. -/
set_option linter.unusedVariables false
set_option linter.unusedSimpArgs false
namespace Go.Proofs.YtanoohfhifhhaaaDoor
open Go.RowKit

theorem info_i64 : (Tryd.prog.info? 2).map (fun i => (i.zero, i.size, i.bytes)) = some (some (.int .i64 0), 1, 8) := by kernel_rfl

def bitInts (l : List Bool) : List Value := l.map fun b => .int .i64 (b.toNat : Int)
theorem bitInts_length (l : List Bool) : (bitInts l).length = l.length := by simp [bitInts]
theorem listOf_succ (d : List UInt8) (n : Nat) : BM.listOf d (n + 1) = BM.listOf d n ++ [BM.bitAt d n] := by simp [BM.listOf, List.range_succ]
theorem bitInts_succ (d : List UInt8) (n : Nat) : bitInts (BM.listOf d (n + 1)) = bitInts (BM.listOf d n) ++ [.int .i64 ((BM.bitAt d n).toNat : Int)] := by
  rw [listOf_succ]; simp [bitInts]

theorem ownsRow_base {w : World} {base base' : Nat} {e : TypeId} {size : Nat} {v : Value} {n : Nat} {xs : List Value} (h : w.ownsRow base e size v n xs) (hb : base' ≤ base) : w.ownsRow base' e size v n xs := by
  obtain ⟨h1, h2⟩ := h
  refine ⟨h1, ?_⟩
  rcases h2 with h2 | ⟨g, cap, cur, rfl, hg, rest⟩
  · exact .inl h2
  · exact .inr ⟨g, cap, cur, rfl, Nat.le_trans hb hg, rest⟩

def ListPost (base : Nat) (l : List Bool) (w : World) (e : Ending) (w' : World) : Prop :=
  ∃ v, e = .returned v ∧ w'.ownsRow base 2 1 v l.length (bitInts l) ∧ Below w.heap.size w w' ∧ v ≠ .slice none 0 0

end Go.Proofs.YtanoohfhifhhaaaDoor
