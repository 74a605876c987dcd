/- Walks: the model's reader of a number in bytes of seven bits. -/
import Derived.Test.YtpnfkmhhilnglabVc
import Derived.Deep.RegionLaw
namespace Go.Proofs.Ytpnfkmhhilnglab
open Go.RowKit

def rdVal (s : ByteArray) : Value :=
  match VM.readV s.data.toList with
  | some (u, k) => .tuple #[.int .i64 (wrap64 (u : Int)), .int .i64 (k : Int), .bool true]
  | none => .tuple #[.int .i64 0, .int .i64 0, .bool false]
def RdVPost (s : ByteArray) (w : World) (e : Ending) (w' : World) : Prop := e = .returned (rdVal s) ∧ Below w.heap.size w w'

theorem rdPost_end {s : ByteArray} {w w1 : World} {v : Value} (h : rdVal s = v) (hb : Below w.heap.size w w1) : RdVPost s w (.returned v) w1 := ⟨by rw [h], hb⟩

theorem getD_byte (s : ByteArray) (k : Nat) (h : k < s.size) : s.data.toList.getD k 0 = s[k] := by
  have h' : k < s.data.toList.length := by simpa using h
  rw [List.getD_eq_getElem?_getD, List.getElem?_eq_getElem h']
  rfl

theorem acc_val (s : ByteArray) (k : Nat) (h : k < s.size) :
    bits .or .u64 (VM.acc s.data.toList k : Int) (IntKind.u64.wrap ((s[k].toNat : Int) % 128 * 2 ^ (7 * k))) = (VM.acc s.data.toList (k + 1) : Int) := by
  have e : (s[k].toNat : Int) % 128 = ((s[k].toNat % 128 : Nat) : Int) := by omega
  rw [e, u_u64_shl, bits_or_u64_nat _ _ (VM.acc_lt _ _) (Nat.mod_lt _ (by decide)), VM.acc, getD_byte s k h]
theorem varS_wrap (u : Nat) (h : u < 2 ^ 64) : varS (wrap64 (u : Int)) = ⟨(VM.varU u).toArray⟩ := by unfold varS; rw [i64u_wrap u h]
theorem go128_step {s : ByteArray} {k : Nat} (h : VM.Go128 s.data.toList k) (hk : k < s.size) (hb : 128 ≤ s[k].toNat) : VM.Go128 s.data.toList (k + 1) :=
  VM.go128_succ h (by rw [getD_byte s k hk]; exact hb)
theorem extract_take (s : ByteArray) (j : Nat) : (s.extract 0 j).data.toList = s.data.toList.take j := by
  simp [ByteArray.extract, ByteArray.copySlice]

theorem eq_code (s : ByteArray) (B k : Nat) (hB : B < 2 ^ 64) :
    ((varS (IntKind.i64.wrap (B : Int))).toList == (s.extract 0 (k + 1)).toList) = decide (VM.varU B = s.data.toList.take (k + 1)) := by
  rw [u_i64_wrap, varS_wrap B hB, ByteArray.toList_eq, ByteArray.toList_eq, extract_take]
  rw [Bool.eq_iff_iff]
  simp
theorem rdVal_yes {s : ByteArray} {B k : Nat} (hgo : VM.Go128 s.data.toList k) (hk : k < 10) (h1 : k < s.size) (hlt : s[k].toNat < 128) (hB : VM.acc s.data.toList (k + 1) = B) (e : VM.varU B = s.data.toList.take (k + 1)) :
    rdVal s = .tuple #[.int .i64 (wrap64 (B : Int)), .int .i64 ((k : Int) + 1), .bool true] := by
  unfold rdVal
  rw [VM.readV_end hgo hk (by simpa using h1) (by rw [getD_byte s k h1]; exact hlt), hB, if_pos e]
  simp
theorem rdVal_no {s : ByteArray} {B k : Nat} (hgo : VM.Go128 s.data.toList k) (hk : k < 10) (h1 : k < s.size) (hlt : s[k].toNat < 128) (hB : VM.acc s.data.toList (k + 1) = B) (e : ¬ VM.varU B = s.data.toList.take (k + 1)) :
    rdVal s = .tuple #[.int .i64 0, .int .i64 0, .bool false] := by
  unfold rdVal
  rw [VM.readV_end hgo hk (by simpa using h1) (by rw [getD_byte s k h1]; exact hlt), hB, if_neg e]
theorem rdVal_stop {s : ByteArray} {k : Nat} (hgo : VM.Go128 s.data.toList k) (hk : k = 10 ∨ k = s.size) :
    rdVal s = .tuple #[.int .i64 0, .int .i64 0, .bool false] := by
  unfold rdVal
  rw [VM.readV_stop hgo (by simpa using hk)]

set_option maxRecDepth 100000 in
set_option maxHeartbeats 1000000 in
theorem specReadVar_any (s : ByteArray) (w : World) (hs : s.size ≤ maxLen) :
    Calls Try.prog 15 #[.string s] w (RdVPost s w) := by
  unfold maxLen at hs
  have hc := Lib.hid (fun n W => specL2Var_any n W)
  go_enter Try.func15, Try.ntmps15
  go_wp2
  go_loop [5, 6] (fun u i => ∃ k : Nat, k ≤ s.size ∧ k ≤ 10 ∧ i = .int .i64 k ∧ u = .int .u64 (VM.acc s.data.toList k : Int) ∧ VM.Go128 s.data.toList k) (fun _ i => 10 - (intOf i).toNat)
  case atStart => exact ⟨0, by omega, by omega, rfl, rfl, VM.go128_zero _⟩
  case round =>
    obtain ⟨k, hk, hk10, rfl, rfl, hgo⟩ := hrel
    have hacc := VM.acc_lt s.data.toList k
    have Hgo := Lib.hid hgo
    clear hgo
    by_cases hlt : k < s.size ∧ k < 10
    · obtain ⟨h1, h2⟩ := hlt
      have hval := acc_val s k h1
      have hb := UInt8.toNat_lt s[k]
      generalize hA : VM.acc s.data.toList k = A at *
      generalize hB : VM.acc s.data.toList (k + 1) = B at *
      have HA := Lib.hid hA
      have HB := Lib.hid hB
      have Hacc := Lib.hid hacc
      clear hA hB hacc
      by_cases hge : 128 ≤ s[k].toNat
      · go_wp2_with fail
        go_round
        case rel => exact ⟨k + 1, by omega, by omega, by go_num, by rw [HB.out], go128_step Hgo.out h1 hge⟩
        case measure => simp [intOf]; omega
      · go_wp2_with fail
        have e1 : IntKind.i64.wrap ((k : Int) + 1) = (k : Int) + 1 := IntWalk.i64_in _ (by omega)
        have e2 : (0 : Int) ≤ (k : Int) + 1 := by omega
        have e3 : ((k : Int) + 1).toNat = k + 1 := by omega
        have e4 : (k : Int) + 1 ≤ (s.size : Int) := by omega
        go_region_law (go_simp; go_at_call 40; refine (hc.out _ _).mono ?_; rintro e w1 ⟨rfl, hb1⟩)
        have heq := eq_code s B k (by rw [← HB.out]; exact VM.acc_lt _ _)
        have hb1' : Below w.heap.size w w1 := ((Below.refl _ w).drew).trans hb1
        clear hb1 e1 e2 e3 e4 hval
        by_cases e : VM.varU B = s.data.toList.take (k + 1)
        · have hr := rdVal_yes Hgo.out h2 h1 (by omega) HB.out e
          simp only [heq, e, decide_true, Bool.not_true]
          have Hr := Lib.hid hr
          clear heq hr e
          go_simp
          go_wp2_with fail
          go_ret3
          exact rdPost_end Hr.out hb1'
        · have hr := rdVal_no Hgo.out h2 h1 (by omega) HB.out e
          simp only [heq, e, decide_false, Bool.not_false]
          have Hr := Lib.hid hr
          clear heq hr e
          go_simp
          go_wp2_with fail
          go_ret3
          exact rdPost_end Hr.out hb1'
    · have hr := rdVal_stop Hgo.out (by omega)
      have Hr := Lib.hid hr
      clear hr
      by_cases h1 : k < s.size
      · go_wp2_with fail
        go_ret3
        exact rdPost_end Hr.out (Below.refl _ _)
      · go_wp2_with fail
        go_ret3
        exact rdPost_end Hr.out (Below.refl _ _)
end Go.Proofs.Ytpnfkmhhilnglab
