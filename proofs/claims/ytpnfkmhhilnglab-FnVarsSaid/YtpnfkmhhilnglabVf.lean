/- Walks: the program's reader of a number in bytes of seven bits. -/
import Derived.Test.YtpnfkmhhilnglabVe
import Derived.Test.YtpnfkmhhilnglabSh
namespace Go.Proofs.Ytpnfkmhhilnglab
open Go.RowKit

theorem hasPrefix_iff (s p : List UInt8) : Lib.hasPrefix s p = decide (p <+: s) := by
  unfold Lib.hasPrefix
  rw [Bool.eq_iff_iff]
  simp

set_option maxRecDepth 100000 in
set_option maxHeartbeats 1000000 in
theorem checkedVar_any (s : ByteArray) (n : Int) (w : World) (b : Bool) (hb : Lib.hasPrefix s.data.toList (varS n).data.toList = b) :
    Calls Try.prog 39 #[.string s, .int .i64 n] w fun e w' =>
      e = .returned (if b = true then .tuple #[.int .i64 n, .int .i64 ((varS n).size : Int), .bool true] else .tuple #[.int .i64 0, .int .i64 0, .bool false]) ∧ Below w.heap.size w w' := by
  have hc := Lib.hid (fun W => implVarOf_any n W)
  have hp := fun W => Try.strings_HasPrefix s (varS n) W
  rw [hb] at hp
  have Hp := Lib.hid hp
  clear hp hb
  generalize varS n = S at *
  cases b with
  | true =>
    go_enter Try.func39, Try.ntmps39
    go_wp2_with fail
    refine (hc.out _).mono ?_
    rintro e w1 ⟨rfl, hb1⟩
    go_wp2_with fail
    refine (Hp.out _).mono ?_
    rintro e w2 ⟨rfl, rfl⟩
    go_wp2_with fail
    go_ret3
    exact ⟨rfl, hb1⟩
  | false =>
    go_enter Try.func39, Try.ntmps39
    go_wp2_with fail
    refine (hc.out _).mono ?_
    rintro e w1 ⟨rfl, hb1⟩
    go_wp2_with fail
    refine (Hp.out _).mono ?_
    rintro e w2 ⟨rfl, rfl⟩
    go_wp2_with fail
    go_ret3
    exact ⟨rfl, hb1⟩

theorem rdVal_checked {s : ByteArray} {B k : Nat} (hgo : VM.Go128 s.data.toList k) (hk : k < 10) (h1 : k < s.size) (hlt : s[k].toNat < 128) (hB : VM.acc s.data.toList (k + 1) = B) :
    rdVal s = if Lib.hasPrefix s.data.toList (varS (wrap64 (B : Int))).data.toList = true then .tuple #[.int .i64 (wrap64 (B : Int)), .int .i64 ((varS (wrap64 (B : Int))).size : Int), .bool true] else .tuple #[.int .i64 0, .int .i64 0, .bool false] := by
  have hBl : B < 2 ^ 64 := by rw [← hB]; exact VM.acc_lt _ _
  have hl : (s.data.toList.getD k 0).toNat < 128 := by rw [getD_byte s k h1]; exact hlt
  have hiff := VM.prefix_iff hgo hl B
  rw [varS_wrap B hBl, hasPrefix_iff]
  show rdVal s = if decide (VM.varU B <+: s.data.toList) = true then .tuple #[.int .i64 (wrap64 (B : Int)), .int .i64 ((VM.varU B).toArray.size : Int), .bool true] else _
  by_cases e : VM.varU B = s.data.toList.take (k + 1)
  · rw [rdVal_yes hgo hk h1 hlt hB e, if_pos (by simpa using hiff.2 e)]
    have : (VM.varU B).toArray.size = k + 1 := by rw [e]; simp; omega
    rw [this]
    simp
  · rw [rdVal_no hgo hk h1 hlt hB e, if_neg (by simpa using fun h => e (hiff.1 h))]

theorem and127 (x : Nat) (h : x < 256) : bits .and .u8 (x : Int) 127 = (x : Int) % 128 := by
  have hx : x &&& 127 = x % 128 := Nat.and_two_pow_sub_one_eq_mod x 7
  have h1 : (BitVec.ofInt 8 (x : Int)).toNat = x := by
    rw [BitVec.ofInt_natCast, BitVec.toNat_ofNat]; exact Nat.mod_eq_of_lt (by omega)
  have h2 : (BitVec.ofInt 8 (127 : Int)).toNat = 127 := by decide
  show IntKind.u8.wrap ((BitVec.ofInt 8 (x : Int) &&& BitVec.ofInt 8 (127 : Int)).toNat : Int) = _
  rw [BitVec.toNat_and, h1, h2, hx, IntKind.wrap_u8]
  omega

set_option maxRecDepth 100000 in
set_option maxHeartbeats 1000000 in
theorem implReadVar_any (s : ByteArray) (w : World) (hs : s.size ≤ maxLen) :
    Calls Try.prog 14 #[.string s] w (RdVPost s w) := by
  unfold maxLen at hs
  obtain ⟨M, hM⟩ : ∃ M : Nat, M = min s.size 10 := ⟨_, rfl⟩
  have hm : min (s.size : Int) 10 = (M : Int) := by omega
  have hM1 : M ≤ s.size := by omega
  have hM2 : M ≤ 10 := by omega
  have HM := Lib.hid hM
  clear hM
  have hc := Lib.hid (fun n W b hb => checkedVar_any s n W b hb)
  go_enter Try.func14, Try.ntmps14
  go_wp2
  go_loop [5, 10] (fun u i => ∃ k : Nat, k ≤ M ∧ i = .int .i64 k ∧ u = .int .u64 (VM.acc s.data.toList k : Int) ∧ VM.Go128 s.data.toList k) (fun _ i => M - (intOf i).toNat)
  case atStart => exact ⟨0, by omega, rfl, rfl, VM.go128_zero _⟩
  case round =>
    clear hm
    obtain ⟨k, hk, rfl, rfl, hgo⟩ := hrel
    have hacc := VM.acc_lt s.data.toList k
    have Hgo := Lib.hid hgo
    clear hgo
    by_cases hlt : k < M
    · have h1 : k < s.size := by omega
      have hval := acc_val s k h1
      have hb := UInt8.toNat_lt s[k]
      have hand := and127 s[k].toNat hb
      have hbit : decide (s[k].toNat < 128) = decide (s[k].toNat < 128) := rfl
      generalize hA : VM.acc s.data.toList k = A at *
      generalize hB : VM.acc s.data.toList (k + 1) = B at *
      have HA := Lib.hid hA
      have HB := Lib.hid hB
      have Hacc := Lib.hid hacc
      clear hA hB hacc hbit
      by_cases hge : 128 ≤ s[k].toNat
      · go_wp2_with fail
        go_round
        case rel => exact ⟨k + 1, by omega, by go_num, by rw [HB.out], go128_step Hgo.out h1 hge⟩
        case measure => simp [intOf]; omega
      · have hr := rdVal_checked Hgo.out (by omega) h1 (by omega) HB.out
        have Hr := Lib.hid hr
        have Hck := Lib.hid (hc.out (wrap64 (B : Int)) w _ rfl)
        clear hr
        go_wp2_with fail
        refine (Hck.out).mono ?_
        rintro e w1 ⟨rfl, hb1⟩
        have hr := Hr.out
        clear Hr Hck hc
        generalize Lib.hasPrefix s.data.toList (varS (wrap64 (B : Int))).data.toList = b at hr ⊢
        generalize ((varS (wrap64 (B : Int))).size : Int) = z at hr ⊢
        have Hr := Lib.hid hr
        clear hr
        cases b
        all_goals
          simp only [if_true, if_false, Bool.false_eq_true] at Hr ⊢
          go_wp2_with fail
          go_ret3
          exact rdPost_end Hr.out hb1
    · have hr := rdVal_stop (k := k) Hgo.out (by have := HM.out; omega)
      have Hr := Lib.hid hr
      clear hr
      go_wp2_with fail
      go_ret3
      exact rdPost_end Hr.out (Below.refl _ _)
end Go.Proofs.Ytpnfkmhhilnglab
