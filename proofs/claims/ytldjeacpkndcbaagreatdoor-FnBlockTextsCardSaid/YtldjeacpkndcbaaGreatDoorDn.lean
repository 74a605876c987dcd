/- Walks: the model's reader of a number in bytes of seven bits. -/
import Derived.Test.YtldjeacpkndcbaaGreatDoorVc
import Derived.Deep.RegionLaw
import Derived.Test.YtldjeacpkndcbaaGreatDoorSh
import Derived.Test.YtldjeacpkndcbaaGreatDoorDl
set_option linter.unusedVariables false
set_option linter.unusedSimpArgs false
namespace Go.Proofs.YtldjeacpkndcbaaGreatDoor
open Go.RowKit

def rdVal (s : ByteArray) : Value :=
  match VM.readV s.data.toList with
  | some (u, k) => .tuple #[.int .i64 (wrap64 (u : Int)), .int .i64 (k : Int), .bool true]
  | none => .tuple #[.int .i64 0, .int .i64 0, .bool false]
def RdVPost (s : ByteArray) (w : World) (e : Ending) (w' : World) : Prop := e = .returned (rdVal s) ∧ Below w.heap.size w w'

theorem rdPost_end {s : ByteArray} {w w1 : World} {v : Value} (h : rdVal s = v) (hb : Below w.heap.size w w1) : RdVPost s w (.returned v) w1 := ⟨by rw [h], hb⟩

theorem getD_byte (s : ByteArray) (k : Nat) (h : k < s.size) : s.data.toList.getD k 0 = s[k] := by
  have h' : k < s.data.toList.length := by simpa using h
  rw [List.getD_eq_getElem?_getD, List.getElem?_eq_getElem h']
  rfl

theorem acc_val (s : ByteArray) (k : Nat) (h : k < s.size) :
    bits .or .u64 (VM.acc s.data.toList k : Int) (IntKind.u64.wrap ((s[k].toNat : Int) % 128 * 2 ^ (7 * k))) = (VM.acc s.data.toList (k + 1) : Int) := by
  have e : (s[k].toNat : Int) % 128 = ((s[k].toNat % 128 : Nat) : Int) := by omega
  rw [e, u_u64_shl, bits_or_u64_nat _ _ (VM.acc_lt _ _) (Nat.mod_lt _ (by decide)), VM.acc, getD_byte s k h]
theorem varS_wrap (u : Nat) (h : u < 2 ^ 64) : varS (wrap64 (u : Int)) = ⟨(VM.varU u).toArray⟩ := by unfold varS; rw [i64u_wrap u h]
theorem go128_step {s : ByteArray} {k : Nat} (h : VM.Go128 s.data.toList k) (hk : k < s.size) (hb : 128 ≤ s[k].toNat) : VM.Go128 s.data.toList (k + 1) :=
  VM.go128_succ h (by rw [getD_byte s k hk]; exact hb)
theorem extract_take (s : ByteArray) (j : Nat) : (s.extract 0 j).data.toList = s.data.toList.take j := by
  simp [ByteArray.extract, ByteArray.copySlice]

theorem eq_code (s : ByteArray) (B k : Nat) (hB : B < 2 ^ 64) :
    ((varS (IntKind.i64.wrap (B : Int))).toList == (s.extract 0 (k + 1)).toList) = decide (VM.varU B = s.data.toList.take (k + 1)) := by
  rw [u_i64_wrap, varS_wrap B hB, ByteArray.toList_eq, ByteArray.toList_eq, extract_take]
  rw [Bool.eq_iff_iff]
  simp
theorem rdVal_yes {s : ByteArray} {B k : Nat} (hgo : VM.Go128 s.data.toList k) (hk : k < 10) (h1 : k < s.size) (hlt : s[k].toNat < 128) (hB : VM.acc s.data.toList (k + 1) = B) (e : VM.varU B = s.data.toList.take (k + 1)) :
    rdVal s = .tuple #[.int .i64 (wrap64 (B : Int)), .int .i64 ((k : Int) + 1), .bool true] := by
  unfold rdVal
  rw [VM.readV_end hgo hk (by simpa using h1) (by rw [getD_byte s k h1]; exact hlt), hB, if_pos e]
  simp
theorem rdVal_no {s : ByteArray} {B k : Nat} (hgo : VM.Go128 s.data.toList k) (hk : k < 10) (h1 : k < s.size) (hlt : s[k].toNat < 128) (hB : VM.acc s.data.toList (k + 1) = B) (e : ¬ VM.varU B = s.data.toList.take (k + 1)) :
    rdVal s = .tuple #[.int .i64 0, .int .i64 0, .bool false] := by
  unfold rdVal
  rw [VM.readV_end hgo hk (by simpa using h1) (by rw [getD_byte s k h1]; exact hlt), hB, if_neg e]
theorem rdVal_stop {s : ByteArray} {k : Nat} (hgo : VM.Go128 s.data.toList k) (hk : k = 10 ∨ k = s.size) :
    rdVal s = .tuple #[.int .i64 0, .int .i64 0, .bool false] := by
  unfold rdVal
  rw [VM.readV_stop hgo (by simpa using hk)]

set_option maxRecDepth 100000 in
set_option maxHeartbeats 1000000 in
theorem specReadVar_any (s : ByteArray) (w : World) (hs : s.size ≤ maxLen) :
    Calls Tryz.prog 27 #[.string s] w (RdVPost s w) := by
  unfold maxLen at hs
  have hc := Lib.hid (fun n W => specL2Var_any n W)
  go_enter Tryz.func27, Tryz.ntmps27
  go_wp2
  go_loop [5, 6] (fun u i => ∃ k : Nat, k ≤ s.size ∧ k ≤ 10 ∧ i = .int .i64 k ∧ u = .int .u64 (VM.acc s.data.toList k : Int) ∧ VM.Go128 s.data.toList k) (fun _ i => 10 - (intOf i).toNat)
  case atStart => exact ⟨0, by omega, by omega, rfl, rfl, VM.go128_zero _⟩
  case round =>
    obtain ⟨k, hk, hk10, rfl, rfl, hgo⟩ := hrel
    have hacc := VM.acc_lt s.data.toList k
    have Hgo := Lib.hid hgo
    clear hgo
    by_cases hlt : k < s.size ∧ k < 10
    · obtain ⟨h1, h2⟩ := hlt
      have hval := acc_val s k h1
      have hb := UInt8.toNat_lt s[k]
      generalize hA : VM.acc s.data.toList k = A at *
      generalize hB : VM.acc s.data.toList (k + 1) = B at *
      have HA := Lib.hid hA
      have HB := Lib.hid hB
      have Hacc := Lib.hid hacc
      clear hA hB hacc
      by_cases hge : 128 ≤ s[k].toNat
      · go_wp2_with fail
        go_round
        case rel => exact ⟨k + 1, by omega, by omega, by go_num, by rw [HB.out], go128_step Hgo.out h1 hge⟩
        case measure => simp [intOf]; omega
      · go_wp2_with fail
        have e1 : IntKind.i64.wrap ((k : Int) + 1) = (k : Int) + 1 := IntWalk.i64_in _ (by omega)
        have e2 : (0 : Int) ≤ (k : Int) + 1 := by omega
        have e3 : ((k : Int) + 1).toNat = k + 1 := by omega
        have e4 : (k : Int) + 1 ≤ (s.size : Int) := by omega
        go_region_law (go_simp; go_at_call 47; refine (hc.out _ _).mono ?_; rintro e w1 ⟨rfl, hb1⟩)
        have heq := eq_code s B k (by rw [← HB.out]; exact VM.acc_lt _ _)
        have hb1' : Below w.heap.size w w1 := ((Below.refl _ w).drew).trans hb1
        clear hb1 e1 e2 e3 e4 hval
        by_cases e : VM.varU B = s.data.toList.take (k + 1)
        · have hr := rdVal_yes Hgo.out h2 h1 (by omega) HB.out e
          simp only [heq, e, decide_true, Bool.not_true]
          have Hr := Lib.hid hr
          clear heq hr e
          go_simp
          go_wp2_with fail
          go_ret3
          exact rdPost_end Hr.out hb1'
        · have hr := rdVal_no Hgo.out h2 h1 (by omega) HB.out e
          simp only [heq, e, decide_false, Bool.not_false]
          have Hr := Lib.hid hr
          clear heq hr e
          go_simp
          go_wp2_with fail
          go_ret3
          exact rdPost_end Hr.out hb1'
    · have hr := rdVal_stop Hgo.out (by omega)
      have Hr := Lib.hid hr
      clear hr
      by_cases h1 : k < s.size
      · go_wp2_with fail
        go_ret3
        exact rdPost_end Hr.out (Below.refl _ _)
      · go_wp2_with fail
        go_ret3
        exact rdPost_end Hr.out (Below.refl _ _)
end Go.Proofs.YtldjeacpkndcbaaGreatDoor

/- Walks: the program's reader of a number in bytes of seven bits. -/
set_option linter.unusedVariables false
set_option linter.unusedSimpArgs false
namespace Go.Proofs.YtldjeacpkndcbaaGreatDoor
open Go.RowKit

theorem hasPrefix_iff (s p : List UInt8) : Lib.hasPrefix s p = decide (p <+: s) := by
  unfold Lib.hasPrefix
  rw [Bool.eq_iff_iff]
  simp

set_option maxRecDepth 100000 in
set_option maxHeartbeats 1000000 in
theorem checkedVar_any (s : ByteArray) (n : Int) (w : World) (b : Bool) (hb : Lib.hasPrefix s.data.toList (varS n).data.toList = b) :
    Calls Tryz.prog 38 #[.string s, .int .i64 n] w fun e w' =>
      e = .returned (if b = true then .tuple #[.int .i64 n, .int .i64 ((varS n).size : Int), .bool true] else .tuple #[.int .i64 0, .int .i64 0, .bool false]) ∧ Below w.heap.size w w' := by
  have hc := Lib.hid (fun W => implVarOf_any n W)
  have hp := fun W => Tryz.strings_HasPrefix s (varS n) W
  rw [hb] at hp
  have Hp := Lib.hid hp
  clear hp hb
  generalize varS n = S at *
  cases b with
  | true =>
    go_enter Tryz.func38, Tryz.ntmps38
    go_wp2_with fail
    refine (hc.out _).mono ?_
    rintro e w1 ⟨rfl, hb1⟩
    go_wp2_with fail
    refine (Hp.out _).mono ?_
    rintro e w2 ⟨rfl, rfl⟩
    go_wp2_with fail
    go_ret3
    exact ⟨rfl, hb1⟩
  | false =>
    go_enter Tryz.func38, Tryz.ntmps38
    go_wp2_with fail
    refine (hc.out _).mono ?_
    rintro e w1 ⟨rfl, hb1⟩
    go_wp2_with fail
    refine (Hp.out _).mono ?_
    rintro e w2 ⟨rfl, rfl⟩
    go_wp2_with fail
    go_ret3
    exact ⟨rfl, hb1⟩

theorem rdVal_checked {s : ByteArray} {B k : Nat} (hgo : VM.Go128 s.data.toList k) (hk : k < 10) (h1 : k < s.size) (hlt : s[k].toNat < 128) (hB : VM.acc s.data.toList (k + 1) = B) :
    rdVal s = if Lib.hasPrefix s.data.toList (varS (wrap64 (B : Int))).data.toList = true then .tuple #[.int .i64 (wrap64 (B : Int)), .int .i64 ((varS (wrap64 (B : Int))).size : Int), .bool true] else .tuple #[.int .i64 0, .int .i64 0, .bool false] := by
  have hBl : B < 2 ^ 64 := by rw [← hB]; exact VM.acc_lt _ _
  have hl : (s.data.toList.getD k 0).toNat < 128 := by rw [getD_byte s k h1]; exact hlt
  have hiff := VM.prefix_iff hgo hl B
  rw [varS_wrap B hBl, hasPrefix_iff]
  show rdVal s = if decide (VM.varU B <+: s.data.toList) = true then .tuple #[.int .i64 (wrap64 (B : Int)), .int .i64 ((VM.varU B).toArray.size : Int), .bool true] else _
  by_cases e : VM.varU B = s.data.toList.take (k + 1)
  · rw [rdVal_yes hgo hk h1 hlt hB e, if_pos (by simpa using hiff.2 e)]
    have : (VM.varU B).toArray.size = k + 1 := by rw [e]; simp; omega
    rw [this]
    simp
  · rw [rdVal_no hgo hk h1 hlt hB e, if_neg (by simpa using fun h => e (hiff.1 h))]

theorem and127 (x : Nat) (h : x < 256) : bits .and .u8 (x : Int) 127 = (x : Int) % 128 := by
  have hx : x &&& 127 = x % 128 := Nat.and_two_pow_sub_one_eq_mod x 7
  have h1 : (BitVec.ofInt 8 (x : Int)).toNat = x := by
    rw [BitVec.ofInt_natCast, BitVec.toNat_ofNat]; exact Nat.mod_eq_of_lt (by omega)
  have h2 : (BitVec.ofInt 8 (127 : Int)).toNat = 127 := by decide
  show IntKind.u8.wrap ((BitVec.ofInt 8 (x : Int) &&& BitVec.ofInt 8 (127 : Int)).toNat : Int) = _
  rw [BitVec.toNat_and, h1, h2, hx, IntKind.wrap_u8]
  omega

set_option maxRecDepth 100000 in
set_option maxHeartbeats 1000000 in
theorem implReadVar_any (s : ByteArray) (w : World) (hs : s.size ≤ maxLen) :
    Calls Tryz.prog 20 #[.string s] w (RdVPost s w) := by
  unfold maxLen at hs
  obtain ⟨M, hM⟩ : ∃ M : Nat, M = min s.size 10 := ⟨_, rfl⟩
  have hm : min (s.size : Int) 10 = (M : Int) := by omega
  have hM1 : M ≤ s.size := by omega
  have hM2 : M ≤ 10 := by omega
  have HM := Lib.hid hM
  clear hM
  have hc := Lib.hid (fun n W b hb => checkedVar_any s n W b hb)
  go_enter Tryz.func20, Tryz.ntmps20
  go_wp2
  go_loop [5, 10] (fun u i => ∃ k : Nat, k ≤ M ∧ i = .int .i64 k ∧ u = .int .u64 (VM.acc s.data.toList k : Int) ∧ VM.Go128 s.data.toList k) (fun _ i => M - (intOf i).toNat)
  case atStart => exact ⟨0, by omega, rfl, rfl, VM.go128_zero _⟩
  case round =>
    clear hm
    obtain ⟨k, hk, rfl, rfl, hgo⟩ := hrel
    have hacc := VM.acc_lt s.data.toList k
    have Hgo := Lib.hid hgo
    clear hgo
    by_cases hlt : k < M
    · have h1 : k < s.size := by omega
      have hval := acc_val s k h1
      have hb := UInt8.toNat_lt s[k]
      have hand := and127 s[k].toNat hb
      have hbit : decide (s[k].toNat < 128) = decide (s[k].toNat < 128) := rfl
      generalize hA : VM.acc s.data.toList k = A at *
      generalize hB : VM.acc s.data.toList (k + 1) = B at *
      have HA := Lib.hid hA
      have HB := Lib.hid hB
      have Hacc := Lib.hid hacc
      clear hA hB hacc hbit
      by_cases hge : 128 ≤ s[k].toNat
      · go_wp2_with fail
        go_round
        case rel => exact ⟨k + 1, by omega, by go_num, by rw [HB.out], go128_step Hgo.out h1 hge⟩
        case measure => simp [intOf]; omega
      · have hr := rdVal_checked Hgo.out (by omega) h1 (by omega) HB.out
        have Hr := Lib.hid hr
        have Hck := Lib.hid (hc.out (wrap64 (B : Int)) w _ rfl)
        clear hr
        go_wp2_with fail
        refine (Hck.out).mono ?_
        rintro e w1 ⟨rfl, hb1⟩
        have hr := Hr.out
        clear Hr Hck hc
        generalize Lib.hasPrefix s.data.toList (varS (wrap64 (B : Int))).data.toList = b at hr ⊢
        generalize ((varS (wrap64 (B : Int))).size : Int) = z at hr ⊢
        have Hr := Lib.hid hr
        clear hr
        cases b
        all_goals
          simp only [if_true, if_false, Bool.false_eq_true] at Hr ⊢
          go_wp2_with fail
          go_ret3
          exact rdPost_end Hr.out hb1
    · have hr := rdVal_stop (k := k) Hgo.out (by have := HM.out; omega)
      have Hr := Lib.hid hr
      clear hr
      go_wp2_with fail
      go_ret3
      exact rdPost_end Hr.out (Below.refl _ _)
end Go.Proofs.YtldjeacpkndcbaaGreatDoor

/- Walks: a block read from its text, both. -/
set_option linter.unusedVariables false
set_option linter.unusedSimpArgs false
namespace Go.Proofs.YtldjeacpkndcbaaGreatDoor
open Go.RowKit Go.Shelf

set_option maxRecDepth 100000 in
set_option maxHeartbeats 1000000 in
theorem dmClone_any (s : ByteArray) (w : World) (hs : s.size ≤ 281474976710656) :
    Calls Tryz.prog 21 #[.string s] w fun e w' => e = .returned (.string s) ∧ Below w.heap.size w w' := by
  have HC := Lib.hid (fun W => Tryz.stringslite_Clone s W hs)
  go_enter Tryz.func21, Tryz.ntmps21
  go_wp2_with fail
  refine (HC.out _).mono ?_
  rintro e w1 ⟨rfl, hb1⟩
  go_wp2_with fail
  go_ret
  exact ⟨rfl, hb1⟩
theorem rdVal_n {s : ByteArray} (h : VM.readV s.data.toList = none) : rdVal s = .tuple #[.int .i64 0, .int .i64 0, .bool false] := by unfold rdVal; rw [h]
theorem rdVal_s {s : ByteArray} {u k : Nat} (h : VM.readV s.data.toList = some (u, k)) : rdVal s = .tuple #[.int .i64 (wrap64 (u : Int)), .int .i64 (k : Int), .bool true] := by unfold rdVal; rw [h]
theorem ex_drop (s : ByteArray) (b : Nat) : (s.extract b s.size).data.toList = s.data.toList.drop b := by
  have h : List.take (s.size - b) (List.drop b s.data.toList) = List.drop b s.data.toList := List.take_of_length_le (by rw [List.length_drop]; exact Nat.le_refl _)
  simpa [ByteArray.extract, ByteArray.copySlice] using h
theorem ex_part (s : ByteArray) (a b : Nat) (h : a ≤ b) : (s.extract a b).data.toList = (s.data.toList.drop a).take (b - a) := by
  simp [ByteArray.extract, ByteArray.copySlice]
theorem ba_ext {a b : ByteArray} (h : a.data.toList = b.data.toList) : a = b := by
  apply ByteArray.ext; apply Array.ext'; exact h
/-- the candidate: the number, the place behind both numbers, the bytes' number -/
def rbC (s : ByteArray) : Option (Nat × Nat × Nat) := match VM.readV s.data.toList with
  | none => none
  | some (u, a) => match VM.readV (s.data.toList.drop a) with
    | none => none
    | some (v, k) => if a + k + v ≤ s.size then some (u, a + k, v) else none
/-- what ReadBlock reads -/
def rbO (s : ByteArray) : Option (Int × ByteArray) := if s.size ≤ 5000 then match rbC s with
    | none => none
    | some (u, p, v) => if btS (wrap64 (u : Int)) (s.extract p (p + v)) = s then some (wrap64 (u : Int), s.extract p (p + v)) else none
  else none
def rbN (r : Option (Int × ByteArray)) : Int := match r with | some x => x.1 | none => 0
def rbD (r : Option (Int × ByteArray)) : ByteArray := match r with | some x => x.2 | none => ⟨#[]⟩
def rbF (r : Option (Int × ByteArray)) : Bool := match r with | some _ => true | none => false
theorem btT_size (n : Int) (d : ByteArray) : (btT n d).size = (varS n).size + (varS (d.size : Int)).size + d.size + 4 := by
  unfold btT btB
  rw [ByteArray.size_append, ByteArray.size_append, ByteArray.size_append]
  rfl
theorem i64u_small (v : Nat) (h : v < 2 ^ 63) : i64u (v : Int) = v := by unfold i64u; omega
/-- a block's text is as long as its parts -/
theorem rb_len {s : ByteArray} {u p v : Nat} (h : rbC s = some (u, p, v)) (h5 : s.size ≤ 5000) (he : btS (wrap64 (u : Int)) (s.extract p (p + v)) = s) : p + v + 4 = s.size := by
  unfold rbC at h
  cases h1 : VM.readV s.data.toList with
  | none => rw [h1] at h; cases h
  | some x =>
    obtain ⟨u', a⟩ := x
    rw [h1] at h
    simp only at h
    cases h2 : VM.readV (s.data.toList.drop a) with
    | none => rw [h2] at h; cases h
    | some y =>
      obtain ⟨v', k⟩ := y
      rw [h2] at h
      simp only at h
      split at h
      · rename_i hc
        simp only [Option.some.injEq, Prod.mk.injEq] at h
        obtain ⟨rfl, rfl, rfl⟩ := h
        obtain ⟨g1, g2, g3, g4, g5⟩ := VM.readV_spec h1
        obtain ⟨k1, k2, k3, k4, k5⟩ := VM.readV_spec h2
        unfold btS at he
        split at he
        · have hz := btT_size (wrap64 (u' : Int)) (s.extract (a + k) (a + k + v'))
          rw [he] at hz
          have hd : (s.extract (a + k) (a + k + v')).size = v' := by rw [ByteArray.size_extract]; omega
          rw [hd] at hz
          have e1 : (varS (wrap64 (u' : Int))).size = a := by
            rw [varS_size, i64u_wrap u' g1]
            have := congrArg List.length g2
            rw [VM.varU_length, List.length_take, ba_len] at this
            rw [ba_len] at g5
            omega
          have e2 : (varS (v' : Int)).size = k := by
            rw [varS_size, i64u_small v' (by omega)]
            have := congrArg List.length k2
            rw [VM.varU_length, List.length_take] at this
            omega
          omega
        · rw [ba_len] at g5
          have h0 : s.size = 0 := by rw [← he]; rfl
          omega
      · cases h
theorem rbO_big {s : ByteArray} (h : 5000 < s.size) : rbO s = none := by unfold rbO; rw [if_neg (by omega)]
theorem rbO_c {s : ByteArray} (h : rbC s = none) : rbO s = none := by
  unfold rbO
  split
  · rw [h]
  · rfl
theorem rbC_0 {s : ByteArray} (h : VM.readV s.data.toList = none) : rbC s = none := by unfold rbC; rw [h]
theorem rbC_1 {s : ByteArray} {u a : Nat} (h : VM.readV s.data.toList = some (u, a)) (h2 : VM.readV (s.data.toList.drop a) = none) : rbC s = none := by unfold rbC; rw [h]; simp only; rw [h2]
theorem rbC_2 {s : ByteArray} {u a v k : Nat} (h : VM.readV s.data.toList = some (u, a)) (h2 : VM.readV (s.data.toList.drop a) = some (v, k)) : rbC s = if a + k + v ≤ s.size then some (u, a + k, v) else none := by unfold rbC; rw [h]; simp only; rw [h2]
theorem rbO_s {s : ByteArray} {u p v : Nat} (h5 : s.size ≤ 5000) (h : rbC s = some (u, p, v)) : rbO s = if btS (wrap64 (u : Int)) (s.extract p (p + v)) = s then some (wrap64 (u : Int), s.extract p (p + v)) else none := by unfold rbO; rw [if_pos h5, h]
theorem ex_ex (s : ByteArray) (a k v : Nat) (h : a + k + v ≤ s.size) : ((s.extract a s.size).extract k (s.extract a s.size).size).extract 0 v = s.extract (a + k) (a + k + v) := by
  apply ba_ext
  rw [ex_part _ 0 v (Nat.zero_le _), ex_drop, ex_drop, ex_part _ _ _ (by omega), List.drop_zero, List.drop_drop, Nat.sub_zero]
  congr 1
  omega
theorem wz_in (v : Nat) (h : v ≤ 1000000000) : wrap64 (v : Int) = (v : Int) := by unfold wrap64; omega
theorem wz_out (v q : Nat) (h : v < 2 ^ 64) (hq : q ≤ 1000000000) (hc : ¬ v ≤ q) : wrap64 (v : Int) < 0 ∨ (0 ≤ wrap64 (v : Int) ∧ (q : Int) < wrap64 (v : Int)) := by unfold wrap64; omega
theorem ba_ne {a b : ByteArray} (h : ¬ a = b) : ¬ a.toList = b.toList := by
  intro hl
  rw [ByteArray.toList_eq, ByteArray.toList_eq] at hl
  exact h (ba_ext hl)

set_option maxRecDepth 100000 in
set_option maxHeartbeats 4000000 in
theorem implRB_good (s R Q D : ByteArray) (n : Int) (T : ByteArray) (a k v : Nat) (w : World) (h5' : s.size ≤ 5000)
    (hr : Hid (∀ W, Calls Tryz.prog 20 #[.string s] W fun e w' => e = .returned (.tuple #[.int .i64 n, .int .i64 (a : Int), .bool true]) ∧ Below W.heap.size W w'))
    (hr2 : Hid (∀ W, Calls Tryz.prog 20 #[.string R] W fun e w' => e = .returned (.tuple #[.int .i64 (v : Int), .int .i64 (k : Int), .bool true]) ∧ Below W.heap.size W w'))
    (HO : Hid (rbO s = if T = s then some (n, D) else none))
    (HBT : Hid (∀ W, Tab W → Calls Tryz.prog 7 #[.agg #[.int .i64 n, .string D]] W fun e w' => e = .returned (.string T) ∧ Below W.heap.size W w'))
    (HCl : Hid (∀ W, Calls Tryz.prog 21 #[.string D] W fun e w' => e = .returned (.string D) ∧ Below W.heap.size W w'))
    (HTab : Hid (Tab w)) (hR : s.extract a s.size = R) (hQ : R.extract k R.size = Q) (hQD : Q.extract 0 v = D)
    (hai : (a : Int) ≤ (s.size : Int)) (hai0 : (0 : Int) ≤ (a : Int)) (hki : (k : Int) ≤ (R.size : Int)) (hki0 : (0 : Int) ≤ (k : Int)) (hvq : (v : Int) ≤ (Q.size : Int)) (hv0 : (0 : Int) ≤ (v : Int)) (hvt : ((v : Int)).toNat = v) (hi : ¬ (5000 : Int) < s.size) :
    Calls Tryz.prog 8 #[.string s] w (BlkPost (rbN (rbO s)) (rbD (rbO s)) (rbF (rbO s)) w) := by
  have HK0 := Lib.hid (KB.new w 0 ⟨#[]⟩)
  have HB0 := Lib.hid (below1 w (.cells #[.int .i64 0, .string ⟨#[]⟩] 25))
  have z0 : w.heap.size < (w.alloc (.cells #[.int .i64 0, .string ⟨#[]⟩] 25)).heap.size := by simp
  go_enter Tryz.func8, Tryz.ntmps8
  go_wp2_with fail
  refine (hr.out _).mono ?_
  rintro e w1 ⟨rfl, hb1⟩
  have HK1 := Lib.hid (HK0.out.below hb1 z0)
  have HF := Lib.hid (HB0.out.trans (hb1.mono HB0.out.size))
  clear hb1
  go_wp2_with fail
  refine (hr2.out _).mono ?_
  rintro e w2 ⟨rfl, hb2⟩
  have HK2 := Lib.hid (HK1.out.below hb2 HK1.out.lt)
  have HF2 := Lib.hid (HF.out.trans (hb2.mono HF.out.size))
  clear hb2
  go_wp2_with fail
  refine (HCl.out _).mono ?_
  rintro e w3 ⟨rfl, hb3⟩
  have HK3 := HK2.out.below hb3 HK2.out.lt
  have HF3 := HF2.out.trans (hb3.mono HF2.out.size)
  have z3 := HK3.lt
  have HK4 := Lib.hid (HK3.below (below1 w3 (.cells #[.int .i64 n, .string D] 25)) z3)
  have HF4 := Lib.hid (HF3.trans ((below1 w3 (.cells #[.int .i64 n, .string D] 25)).mono HF3.size))
  have HD4 := Lib.hid (KB.new w3 n D)
  clear hb3 HK3 HF3
  go_wp2_with fail
  refine (HBT.out _ (HTab.out.below HF4.out)).mono ?_
  rintro e w5 ⟨rfl, hb5⟩
  have HK5 := HK4.out.below hb5 HK4.out.lt
  have HD5 := HD4.out.below hb5 HD4.out.lt
  have HF5 := Lib.hid (HF4.out.trans (hb5.mono HF4.out.size))
  have r0 := HK5.c0
  have r1 := HK5.c1
  have f0 := HK5.f 0
  have f1 := HK5.f 1
  have d0 := HD5.c0
  have d1 := HD5.c1
  clear hb5 HK5 HD5
  by_cases hTs : T = s
  · have E := Lib.hid (show rbO s = some (n, D) by rw [HO.out, if_pos hTs])
    subst hTs
    go_wp2_with fail
    exact bodyPost_ret (v := .tuple #[.agg #[.int .i64 n, .string D], .bool true]) (by simp [results, Tryz.results8, go_sem, r0, r1]) rfl ⟨by rw [E.out]; rfl, by
      repeat (first | exact HF5.out | refine Below.setCell ?_ (by simp) _)⟩
  · have E := Lib.hid (show rbO s = none by rw [HO.out, if_neg hTs])
    have hne := ba_ne hTs
    have hne1 : (T.toList == s.toList) = false := by simpa using hne
    have hne2 : (T.toList != s.toList) = true := by simpa using hne
    have hne3 : decide (T.toList = s.toList) = false := by simpa using hne
    go_wp2_with fail
    exact bodyPost_ret (v := .tuple #[.agg #[.int .i64 0, .string ⟨#[]⟩], .bool false]) (by simp [results, Tryz.results8, go_sem, r0, r1]) rfl ⟨by rw [E.out]; rfl, by
      repeat (first | exact HF5.out | refine Below.setCell ?_ (by simp) _)⟩

set_option maxRecDepth 100000 in
set_option maxHeartbeats 4000000 in
theorem implReadBlock_any (s : ByteArray) (w : World) (hs : s.size ≤ 1000000000) (hT : Tab w) :
    Calls Tryz.prog 8 #[.string s] w (BlkPost (rbN (rbO s)) (rbD (rbO s)) (rbF (rbO s)) w) := by
  have hrd := Lib.hid (fun t W ht => implReadVar_any t W ht)
  unfold RdVPost at hrd
  have hm : ∀ t : ByteArray, t.size ≤ 1000000000 → t.size ≤ maxLen := fun t h => by unfold maxLen; omega
  have HM := Lib.hid hm
  have HK0 := Lib.hid (KB.new w 0 ⟨#[]⟩)
  have HB0 := Lib.hid (below1 w (.cells #[.int .i64 0, .string ⟨#[]⟩] 25))
  have z0 : w.heap.size < (w.alloc (.cells #[.int .i64 0, .string ⟨#[]⟩] 25)).heap.size := by simp
  by_cases h5 : 5000 < s.size
  · have hi : (5000 : Int) < s.size := by omega
    have E := Lib.hid (rbO_big h5)
    have r0 := HK0.out.c0
    have r1 := HK0.out.c1
    have f0 := HK0.out.f 0
    have f1 := HK0.out.f 1
    clear hm hT
    go_enter Tryz.func8, Tryz.ntmps8
    go_wp2_with fail
    exact bodyPost_ret (v := .tuple #[.agg #[.int .i64 0, .string ⟨#[]⟩], .bool false]) (by simp [results, Tryz.results8, go_sem, r0, r1]) rfl ⟨by rw [E.out]; rfl, by
      repeat (first | exact HB0.out | refine Below.setCell ?_ (by simp) _)⟩
  · have hi : ¬ (5000 : Int) < s.size := by omega
    have h5' : s.size ≤ 5000 := by omega
    cases hv : VM.readV s.data.toList with
    | none =>
      have E := Lib.hid (rbO_c (rbC_0 hv))
      have hr := Lib.hid (fun W => hrd.out s W (hm s hs))
      rw [rdVal_n hv] at hr
      clear hv hm hT
      go_enter Tryz.func8, Tryz.ntmps8
      go_wp2_with fail
      refine (hr.out _).mono ?_
      rintro e w1 ⟨rfl, hb1⟩
      have HK1 := HK0.out.below hb1 z0
      have HF := Lib.hid (HB0.out.trans (hb1.mono HB0.out.size))
      have r0 := HK1.c0
      have r1 := HK1.c1
      have f0 := HK1.f 0
      have f1 := HK1.f 1
      clear hb1 HK1
      go_wp2_with fail
      exact bodyPost_ret (v := .tuple #[.agg #[.int .i64 0, .string ⟨#[]⟩], .bool false]) (by simp [results, Tryz.results8, go_sem, r0, r1]) rfl ⟨by rw [E.out]; rfl, by
        repeat (first | exact HF.out | refine Below.setCell ?_ (by simp) _)⟩
    | some p =>
      obtain ⟨u, a⟩ := p
      obtain ⟨g1, g2, g3, g4, g5⟩ := VM.readV_spec hv
      rw [ba_len] at g5
      have hr := Lib.hid (fun W => hrd.out s W (hm s hs))
      rw [rdVal_s hv] at hr
      obtain ⟨R, hR⟩ : ∃ R, s.extract a s.size = R := ⟨_, rfl⟩
      have hRz : R.size = s.size - a := by rw [← hR, ByteArray.size_extract]; omega
      have hRd : R.data.toList = s.data.toList.drop a := by rw [← hR, ex_drop]
      have hai : (a : Int) ≤ (s.size : Int) := by omega
      have hai0 : (0 : Int) ≤ (a : Int) := by omega
      cases hv2 : VM.readV (s.data.toList.drop a) with
      | none =>
        have E := Lib.hid (rbO_c (rbC_1 hv hv2))
        have hr2 := Lib.hid (fun W => hrd.out R W (hm _ (by omega)))
        rw [rdVal_n (by rw [hRd]; exact hv2)] at hr2
        clear hv hv2 g2 hm hT hRz hRd
        go_enter Tryz.func8, Tryz.ntmps8
        go_wp2_with fail
        refine (hr.out _).mono ?_
        rintro e w1 ⟨rfl, hb1⟩
        have HK1 := Lib.hid (HK0.out.below hb1 z0)
        have HF := Lib.hid (HB0.out.trans (hb1.mono HB0.out.size))
        clear hb1
        go_wp2_with fail
        refine (hr2.out _).mono ?_
        rintro e w2 ⟨rfl, hb2⟩
        have HK2 := HK1.out.below hb2 HK1.out.lt
        have HF2 := Lib.hid (HF.out.trans (hb2.mono HF.out.size))
        have r0 := HK2.c0
        have r1 := HK2.c1
        have f0 := HK2.f 0
        have f1 := HK2.f 1
        clear hb2 HK2
        go_wp2_with fail
        exact bodyPost_ret (v := .tuple #[.agg #[.int .i64 0, .string ⟨#[]⟩], .bool false]) (by simp [results, Tryz.results8, go_sem, r0, r1]) rfl ⟨by rw [E.out]; rfl, by
          repeat (first | exact HF2.out | refine Below.setCell ?_ (by simp) _)⟩
      | some q =>
        obtain ⟨v, k⟩ := q
        obtain ⟨k1, k2, k3, k4, k5⟩ := VM.readV_spec hv2
        rw [List.length_drop, ba_len] at k5
        have hr2 := Lib.hid (fun W => hrd.out R W (hm _ (by omega)))
        rw [rdVal_s (by rw [hRd]; exact hv2)] at hr2
        have HC := Lib.hid (rbC_2 hv hv2)
        have hki : (k : Int) ≤ (R.size : Int) := by omega
        have hki0 : (0 : Int) ≤ (k : Int) := by omega
        obtain ⟨Q, hQ⟩ : ∃ Q, R.extract k R.size = Q := ⟨_, rfl⟩
        have hQz : Q.size = s.size - a - k := by rw [← hQ, ByteArray.size_extract]; omega
        by_cases hc : a + k + v ≤ s.size
        · rw [if_pos hc] at HC
          obtain ⟨D, hD⟩ : ∃ D, s.extract (a + k) (a + k + v) = D := ⟨_, rfl⟩
          have hQD : Q.extract 0 v = D := by
            rw [← hQ, ← hR, ← hD]
            exact ex_ex s a k v hc
          have HO := Lib.hid (rbO_s h5' HC.out)
          have hvs : v ≤ 1000000000 := by omega
          rw [show wrap64 (v : Int) = (v : Int) from wz_in v hvs] at hr2
          have hDz : D.size ≤ 5000 := by rw [← hD, ByteArray.size_extract]; omega
          rw [hD] at HO
          have HBT := Lib.hid (fun W hT => implBlockText_any (wrap64 (u : Int)) D W (by omega) hT)
          have HCl := Lib.hid (fun W => dmClone_any D W (by omega))
          have hvq : (v : Int) ≤ (Q.size : Int) := by omega
          have hv0 : (0 : Int) ≤ (v : Int) := by omega
          have HTab := Lib.hid hT
          have hvt : ((v : Int)).toNat = v := by omega
          clear hv hv2 g2 k2 hm hT hD hRd hRz hQz
          generalize wrap64 (u : Int) = n at *
          generalize btS n D = T at *
          have hs' := h5'
          exact implRB_good s R Q D n T a k v w hs' hr hr2 HO HBT HCl HTab hR hQ hQD hai hai0 hki hki0 hvq hv0 hvt hi
        · rw [if_neg hc] at HC
          have E := Lib.hid (rbO_c HC.out)
          have hcase := wz_out v Q.size k1 (by omega) (by omega)
          clear hv hv2 g2 k2 hm hT hRd hRz hQz hc k1 g1 k5 g5 h5 h5'
          generalize wrap64 (v : Int) = z at *
          rcases hcase with hz | ⟨hz0, hz1⟩
          · go_enter Tryz.func8, Tryz.ntmps8
            go_wp2_with fail
            refine (hr.out _).mono ?_
            rintro e w1 ⟨rfl, hb1⟩
            have HK1 := Lib.hid (HK0.out.below hb1 z0)
            have HF := Lib.hid (HB0.out.trans (hb1.mono HB0.out.size))
            clear hb1
            go_wp2_with fail
            refine (hr2.out _).mono ?_
            rintro e w2 ⟨rfl, hb2⟩
            have HK2 := HK1.out.below hb2 HK1.out.lt
            have HF2 := Lib.hid (HF.out.trans (hb2.mono HF.out.size))
            have r0 := HK2.c0
            have r1 := HK2.c1
            have f0 := HK2.f 0
            have f1 := HK2.f 1
            clear hb2 HK2
            go_wp2_with fail
            exact bodyPost_ret (v := .tuple #[.agg #[.int .i64 0, .string ⟨#[]⟩], .bool false]) (by simp [results, Tryz.results8, go_sem, r0, r1]) rfl ⟨by rw [E.out]; rfl, by
              repeat (first | exact HF2.out | refine Below.setCell ?_ (by simp) _)⟩
          · have hz2 : ¬ z < 0 := by omega
            have hz3 : decide ((Q.size : Int) < z) = true := by simpa using hz1
            have hz4 : decide (z < 0) = false := by simpa using hz2
            clear hz0
            go_enter Tryz.func8, Tryz.ntmps8
            go_wp2_with fail
            refine (hr.out _).mono ?_
            rintro e w1 ⟨rfl, hb1⟩
            have HK1 := Lib.hid (HK0.out.below hb1 z0)
            have HF := Lib.hid (HB0.out.trans (hb1.mono HB0.out.size))
            clear hb1
            go_wp2_with fail
            refine (hr2.out _).mono ?_
            rintro e w2 ⟨rfl, hb2⟩
            have HK2 := HK1.out.below hb2 HK1.out.lt
            have HF2 := Lib.hid (HF.out.trans (hb2.mono HF.out.size))
            have r0 := HK2.c0
            have r1 := HK2.c1
            have f0 := HK2.f 0
            have f1 := HK2.f 1
            clear hb2 HK2
            go_wp2_with fail
            exact bodyPost_ret (v := .tuple #[.agg #[.int .i64 0, .string ⟨#[]⟩], .bool false]) (by simp [results, Tryz.results8, go_sem, r0, r1]) rfl ⟨by rw [E.out]; rfl, by
              repeat (first | exact HF2.out | refine Below.setCell ?_ (by simp) _)⟩
end Go.Proofs.YtldjeacpkndcbaaGreatDoor

/- Walks: a block read from its text: the document. -/
set_option linter.unusedVariables false
set_option linter.unusedSimpArgs false
namespace Go.Proofs.YtldjeacpkndcbaaGreatDoor
open Go.RowKit Go.Shelf

theorem dn_wrap {x : Int} (h : -9223372036854775808 ≤ x) (h2 : x ≤ 9223372036854775807) : IntKind.i64.wrap x = x ∧ wrap64 x = x := ⟨IntWalk.i64_in _ (by omega), by unfold wrap64; omega⟩
theorem dn_far {p v n : Nat} (hp : p ≤ 20) (hv : v < 2 ^ 63) (hn : n ≤ 5000) (h : ¬ p + v + 4 = n) : ¬ wrap64 (wrap64 ((p : Int) + (v : Int)) + 4) = (n : Int) := by unfold wrap64; omega
theorem dn_zv {v : Nat} (h : v < 2 ^ 64) : wrap64 (v : Int) < 0 ∨ (v < 2 ^ 63 ∧ wrap64 (v : Int) = (v : Int)) := by unfold wrap64; omega
theorem dn_neg {p v n : Nat} (h : n ≤ 5000) (hz : wrap64 (v : Int) < 0) : ¬ p + v ≤ n := by unfold wrap64 at hz; omega
theorem rb_far {s : ByteArray} {u p v : Nat} (h5 : s.size ≤ 5000) (h : rbC s = some (u, p, v)) (hn : ¬ p + v + 4 = s.size) : rbO s = none := by
  rw [rbO_s h5 h, if_neg (fun he => hn (rb_len h h5 he))]

set_option maxRecDepth 100000 in
set_option maxHeartbeats 4000000 in
theorem specRB_good (s R D : ByteArray) (n : Int) (T : ByteArray) (a k p v t : Nat) (w : World) (h5' : s.size ≤ 5000)
    (hr : Hid (∀ W, Calls Tryz.prog 27 #[.string s] W fun e w' => e = .returned (.tuple #[.int .i64 n, .int .i64 (a : Int), .bool true]) ∧ Below W.heap.size W w'))
    (hr2 : Hid (∀ W, Calls Tryz.prog 27 #[.string R] W fun e w' => e = .returned (.tuple #[.int .i64 (v : Int), .int .i64 (k : Int), .bool true]) ∧ Below W.heap.size W w'))
    (HO : Hid (rbO s = if T = s then some (n, D) else none))
    (HBT : Hid (∀ W, Calls Tryz.prog 12 #[.agg #[.int .i64 n, .string D]] W fun e w' => e = .returned (.string T) ∧ Below W.heap.size W w'))
    (hR : s.extract a s.size = R) (hD : s.extract p t = D)
    (hai : (a : Int) ≤ (s.size : Int)) (hai0 : (0 : Int) ≤ (a : Int)) (hi : ¬ (5000 : Int) < s.size)
    (e1 : IntKind.i64.wrap ((a : Int) + (k : Int)) = (p : Int)) (e2 : IntKind.i64.wrap ((p : Int) + (v : Int)) = (t : Int)) (e3 : IntKind.i64.wrap ((t : Int) + 4) = (s.size : Int))
    (e1' : wrap64 ((a : Int) + (k : Int)) = (p : Int)) (e2' : wrap64 ((p : Int) + (v : Int)) = (t : Int)) (e3' : wrap64 ((t : Int) + 4) = (s.size : Int))
    (hpt : (p : Int) ≤ (t : Int)) (hp0 : (0 : Int) ≤ (p : Int)) (hts : (t : Int) ≤ (s.size : Int)) (hv0 : decide ((v : Int) < 0) = false) (hv1 : ¬ (v : Int) < 0) (htn : ((t : Int)).toNat = t) (hpn : ((p : Int)).toNat = p) :
    Calls Tryz.prog 10 #[.string s] w (BlkPost (rbN (rbO s)) (rbD (rbO s)) (rbF (rbO s)) w) := by
  have HK0 := Lib.hid (KB.new w 0 ⟨#[]⟩)
  have HB0 := Lib.hid (below1 w (.cells #[.int .i64 0, .string ⟨#[]⟩] 25))
  have z0 : w.heap.size < (w.alloc (.cells #[.int .i64 0, .string ⟨#[]⟩] 25)).heap.size := by simp
  go_enter Tryz.func10, Tryz.ntmps10
  go_wp2_with fail
  refine (hr.out _).mono ?_
  rintro e w1 ⟨rfl, hb1⟩
  have HK1 := Lib.hid (HK0.out.below hb1 z0)
  have HF := Lib.hid (HB0.out.trans (hb1.mono HB0.out.size))
  clear hb1
  go_wp2_with fail
  refine (hr2.out _).mono ?_
  rintro e w2 ⟨rfl, hb2⟩
  have HK2 := Lib.hid (HK1.out.below hb2 HK1.out.lt)
  have HF2 := Lib.hid (HF.out.trans (hb2.mono HF.out.size))
  clear hb2
  have HK4 := Lib.hid (HK2.out.below (below1 w2 (.cells #[.int .i64 n, .string D] 25)) HK2.out.lt)
  have HF4 := Lib.hid (HF2.out.trans ((below1 w2 (.cells #[.int .i64 n, .string D] 25)).mono HF2.out.size))
  have HD4 := Lib.hid (KB.new w2 n D)
  go_wp2_with fail
  refine (HBT.out _).mono ?_
  rintro e w5 ⟨rfl, hb5⟩
  have HK5 := Lib.hid (HK4.out.below hb5 HK4.out.lt)
  have HD5 := HD4.out.below hb5 HD4.out.lt
  have HF5 := Lib.hid (HF4.out.trans (hb5.mono HF4.out.size))
  have r0 := HK5.out.c0
  have r1 := HK5.out.c1
  have f0 := HK5.out.f 0
  have f1 := HK5.out.f 1
  have d0 := HD5.c0
  have d1 := HD5.c1
  clear hb5 HD5 e3 e3'
  by_cases hTs : T = s
  · have E := Lib.hid (show rbO s = some (n, D) by rw [HO.out, if_pos hTs])
    subst hTs
    go_wp2_with fail
    exact bodyPost_ret (v := .tuple #[.agg #[.int .i64 n, .string D], .bool true]) (by simp [results, Tryz.results10, go_sem, r0, r1]) rfl ⟨by rw [E.out]; rfl, by
      repeat (first | exact HF5.out | refine Below.setCell ?_ (by simp) _)⟩
  · have E := Lib.hid (show rbO s = none by rw [HO.out, if_neg hTs])
    have hne := ba_ne hTs
    have hne1 : (T.toList == s.toList) = false := by simpa using hne
    have hne2 : (T.toList != s.toList) = true := by simpa using hne
    have hne3 : decide (T.toList = s.toList) = false := by simpa using hne
    go_wp2_with fail
    exact bodyPost_ret (v := .tuple #[.agg #[.int .i64 0, .string ⟨#[]⟩], .bool false]) (by simp [results, Tryz.results10, go_sem, r0, r1]) rfl ⟨by rw [E.out]; rfl, by
      repeat (first | exact HF5.out | refine Below.setCell ?_ (by simp) _)⟩

set_option maxRecDepth 100000 in
set_option maxHeartbeats 4000000 in
theorem specReadBlock_any (s : ByteArray) (w : World) (hs : s.size ≤ 1000000000) :
    Calls Tryz.prog 10 #[.string s] w (BlkPost (rbN (rbO s)) (rbD (rbO s)) (rbF (rbO s)) w) := by
  have hrd := Lib.hid (fun t W ht => specReadVar_any t W ht)
  unfold RdVPost at hrd
  have hm : ∀ t : ByteArray, t.size ≤ 1000000000 → t.size ≤ maxLen := fun t h => by unfold maxLen; omega
  have HK0 := Lib.hid (KB.new w 0 ⟨#[]⟩)
  have HB0 := Lib.hid (below1 w (.cells #[.int .i64 0, .string ⟨#[]⟩] 25))
  have z0 : w.heap.size < (w.alloc (.cells #[.int .i64 0, .string ⟨#[]⟩] 25)).heap.size := by simp
  cases hv : VM.readV s.data.toList with
  | none =>
    have E := Lib.hid (rbO_c (rbC_0 hv))
    have hr := Lib.hid (fun W => hrd.out s W (hm s hs))
    rw [rdVal_n hv] at hr
    clear hv hm
    go_enter Tryz.func10, Tryz.ntmps10
    go_wp2_with fail
    refine (hr.out _).mono ?_
    rintro e w1 ⟨rfl, hb1⟩
    have HK1 := Lib.hid (HK0.out.below hb1 z0)
    have HF := Lib.hid (HB0.out.trans (hb1.mono HB0.out.size))
    have r0 := HK1.out.c0
    have r1 := HK1.out.c1
    have f0 := HK1.out.f 0
    have f1 := HK1.out.f 1
    clear hb1
    go_wp2_with fail
    exact bodyPost_ret (v := .tuple #[.agg #[.int .i64 0, .string ⟨#[]⟩], .bool false]) (by simp [results, Tryz.results10, go_sem, r0, r1]) rfl ⟨by rw [E.out]; rfl, by
      repeat (first | exact HF.out | refine Below.setCell ?_ (by simp) _)⟩
  | some p =>
    obtain ⟨u, a⟩ := p
    obtain ⟨g1, g2, g3, g4, g5⟩ := VM.readV_spec hv
    rw [ba_len] at g5
    have hr := Lib.hid (fun W => hrd.out s W (hm s hs))
    rw [rdVal_s hv] at hr
    by_cases h5 : 5000 < s.size
    · have hi : (5000 : Int) < s.size := by omega
      have E := Lib.hid (rbO_big h5)
      clear hv hm g1 g2
      go_enter Tryz.func10, Tryz.ntmps10
      go_wp2_with fail
      refine (hr.out _).mono ?_
      rintro e w1 ⟨rfl, hb1⟩
      have HK1 := Lib.hid (HK0.out.below hb1 z0)
      have HF := Lib.hid (HB0.out.trans (hb1.mono HB0.out.size))
      have r0 := HK1.out.c0
      have r1 := HK1.out.c1
      have f0 := HK1.out.f 0
      have f1 := HK1.out.f 1
      clear hb1
      go_wp2_with fail
      exact bodyPost_ret (v := .tuple #[.agg #[.int .i64 0, .string ⟨#[]⟩], .bool false]) (by simp [results, Tryz.results10, go_sem, r0, r1]) rfl ⟨by rw [E.out]; rfl, by
        repeat (first | exact HF.out | refine Below.setCell ?_ (by simp) _)⟩
    · have hi : ¬ (5000 : Int) < s.size := by omega
      have h5' : s.size ≤ 5000 := by omega
      obtain ⟨R, hR⟩ : ∃ R, s.extract a s.size = R := ⟨_, rfl⟩
      have hRz : R.size = s.size - a := by rw [← hR, ByteArray.size_extract]; omega
      have hRd : R.data.toList = s.data.toList.drop a := by rw [← hR, ex_drop]
      have hai : (a : Int) ≤ (s.size : Int) := by omega
      have hai0 : (0 : Int) ≤ (a : Int) := by omega
      have hr2 := Lib.hid (fun W => hrd.out R W (hm _ (by omega)))
      cases hv2 : VM.readV (s.data.toList.drop a) with
      | none =>
        have E := Lib.hid (rbO_c (rbC_1 hv hv2))
        rw [rdVal_n (by rw [hRd]; exact hv2)] at hr2
        clear hv hv2 g1 g2 hm hRz hRd
        go_enter Tryz.func10, Tryz.ntmps10
        go_wp2_with fail
        refine (hr.out _).mono ?_
        rintro e w1 ⟨rfl, hb1⟩
        have HK1 := Lib.hid (HK0.out.below hb1 z0)
        have HF := Lib.hid (HB0.out.trans (hb1.mono HB0.out.size))
        clear hb1
        go_wp2_with fail
        refine (hr2.out _).mono ?_
        rintro e w2 ⟨rfl, hb2⟩
        have HK2 := Lib.hid (HK1.out.below hb2 HK1.out.lt)
        have HF2 := Lib.hid (HF.out.trans (hb2.mono HF.out.size))
        clear hb2
        have r0 := HK2.out.c0
        have r1 := HK2.out.c1
        have f0 := HK2.out.f 0
        have f1 := HK2.out.f 1
        go_wp2_with fail
        exact bodyPost_ret (v := .tuple #[.agg #[.int .i64 0, .string ⟨#[]⟩], .bool false]) (by simp [results, Tryz.results10, go_sem, r0, r1]) rfl ⟨by rw [E.out]; rfl, by
          repeat (first | exact HF2.out | refine Below.setCell ?_ (by simp) _)⟩
      | some q =>
        obtain ⟨v, k⟩ := q
        obtain ⟨k1, k2, k3, k4, k5⟩ := VM.readV_spec hv2
        rw [List.length_drop, ba_len] at k5
        rw [rdVal_s (by rw [hRd]; exact hv2)] at hr2
        have HC := Lib.hid (rbC_2 hv hv2)
        obtain ⟨p, hp⟩ : ∃ p, a + k = p := ⟨_, rfl⟩
        have hp20 : p ≤ 20 := by omega
        rw [hp] at HC
        have e1 := Lib.hid (dn_wrap (x := (p : Int)) (by omega) (by omega))
        have hap : (a : Int) + (k : Int) = (p : Int) := by omega
        have hp' : p ≤ s.size := by omega
        clear hv hv2 g2 k2 hRd hRz
        rcases dn_zv k1 with hz | ⟨hv63, hz⟩
        · have E := Lib.hid (show rbO s = none by
            rw [if_neg (dn_neg h5' hz)] at HC; exact rbO_c HC.out)
          have hz2 : decide (wrap64 (v : Int) < 0) = true := by simpa using hz
          generalize wrap64 (v : Int) = z at *
          clear hm g1 k1 k5 g5 h5 h5' HC hp' hp
          go_enter Tryz.func10, Tryz.ntmps10
          go_wp2_with fail
          refine (hr.out _).mono ?_
          rintro e w1 ⟨rfl, hb1⟩
          have HK1 := Lib.hid (HK0.out.below hb1 z0)
          have HF := Lib.hid (HB0.out.trans (hb1.mono HB0.out.size))
          clear hb1
          go_wp2_with fail
          refine (hr2.out _).mono ?_
          rintro e w2 ⟨rfl, hb2⟩
          have HK2 := Lib.hid (HK1.out.below hb2 HK1.out.lt)
          have HF2 := Lib.hid (HF.out.trans (hb2.mono HF.out.size))
          clear hb2
          have r0 := HK2.out.c0
          have r1 := HK2.out.c1
          have f0 := HK2.out.f 0
          have f1 := HK2.out.f 1
          go_wp2_with fail
          exact bodyPost_ret (v := .tuple #[.agg #[.int .i64 0, .string ⟨#[]⟩], .bool false]) (by simp [results, Tryz.results10, go_sem, r0, r1]) rfl ⟨by rw [E.out]; rfl, by
            repeat (first | exact HF2.out | refine Below.setCell ?_ (by simp) _)⟩
        · rw [hz] at hr2
          clear hz
          by_cases hg : p + v + 4 = s.size
          · rw [if_pos (by omega)] at HC
            have HO := Lib.hid (rbO_s h5' HC.out)
            obtain ⟨t, ht⟩ : ∃ t, p + v = t := ⟨_, rfl⟩
            rw [ht] at HO
            obtain ⟨D, hD⟩ : ∃ D, s.extract p t = D := ⟨_, rfl⟩
            rw [hD] at HO
            have hDz : D.size ≤ 5000 := by rw [← hD, ByteArray.size_extract]; omega
            have HBT := Lib.hid (fun W => specBlockText_any (wrap64 (u : Int)) D W (by unfold maxLen; omega))
            have q2 : (p : Int) + (v : Int) = (t : Int) := by omega
            have q3 : (t : Int) + 4 = (s.size : Int) := by omega
            have q4 : (p : Int) ≤ (t : Int) ∧ (0 : Int) ≤ (p : Int) ∧ (t : Int) ≤ (s.size : Int) ∧ ¬ (v : Int) < 0 ∧ ((t : Int)).toNat = t ∧ ((p : Int)).toNat = p := by omega
            have e2 := Lib.hid (dn_wrap (x := (t : Int)) (by omega) (by omega))
            have e3 := Lib.hid (dn_wrap (x := (s.size : Int)) (by omega) (by omega))
            exact specRB_good s R D _ _ a k p v t w h5' hr hr2 HO HBT hR hD hai hai0 hi (by rw [hap]; exact e1.out.1) (by rw [q2]; exact e2.out.1) (by rw [q3]; exact e3.out.1) (by rw [hap]; exact e1.out.2) (by rw [q2]; exact e2.out.2) (by rw [q3]; exact e3.out.2) q4.1 q4.2.1 q4.2.2.1 (decide_eq_false q4.2.2.2.1) q4.2.2.2.1 q4.2.2.2.2.1 q4.2.2.2.2.2
          · have hv1 : ¬ (v : Int) < 0 := by omega
            have hv0 : decide ((v : Int) < 0) = false := decide_eq_false hv1
            have E := Lib.hid (show rbO s = none by
              by_cases hc : p + v ≤ s.size
              · rw [if_pos hc] at HC; exact rb_far h5' HC.out hg
              · rw [if_neg hc] at HC; exact rbO_c HC.out)
            have hfar := dn_far hp20 hv63 h5' hg
            have w1 : wrap64 ((a : Int) + (k : Int)) = (p : Int) := by rw [hap]; exact e1.out.2
            have w2 : IntKind.i64.wrap ((a : Int) + (k : Int)) = (p : Int) := by rw [hap]; exact e1.out.1
            have w3 : IntKind.i64.wrap ((p : Int) + (v : Int)) = wrap64 ((p : Int) + (v : Int)) := u_i64_wrap _
            have w4 : IntKind.i64.wrap (wrap64 ((p : Int) + (v : Int)) + 4) = wrap64 (wrap64 ((p : Int) + (v : Int)) + 4) := u_i64_wrap _
            clear hm g1 k1 k5 g5 h5 h5' HC hp' hp hap e1 hg hv63
            obtain ⟨X, hX⟩ : ∃ X, wrap64 ((p : Int) + (v : Int)) = X := ⟨_, rfl⟩
            rw [hX] at w3 w4 hfar
            obtain ⟨Y, hY⟩ : ∃ Y, wrap64 (X + 4) = Y := ⟨_, rfl⟩
            rw [hY] at w4 hfar
            have hf2 : decide (Y = (s.size : Int)) = false := by simpa using hfar
            go_enter Tryz.func10, Tryz.ntmps10
            go_wp2_with fail
            refine (hr.out _).mono ?_
            rintro e w1 ⟨rfl, hb1⟩
            have HK1 := Lib.hid (HK0.out.below hb1 z0)
            have HF := Lib.hid (HB0.out.trans (hb1.mono HB0.out.size))
            clear hb1
            go_wp2_with fail
            refine (hr2.out _).mono ?_
            rintro e w2 ⟨rfl, hb2⟩
            have HK2 := Lib.hid (HK1.out.below hb2 HK1.out.lt)
            have HF2 := Lib.hid (HF.out.trans (hb2.mono HF.out.size))
            clear hb2
            have r0 := HK2.out.c0
            have r1 := HK2.out.c1
            have f0 := HK2.out.f 0
            have f1 := HK2.out.f 1
            go_wp2_with fail
            exact bodyPost_ret (v := .tuple #[.agg #[.int .i64 0, .string ⟨#[]⟩], .bool false]) (by simp [results, Tryz.results10, go_sem, r0, r1]) rfl ⟨by rw [E.out]; rfl, by
              repeat (first | exact HF2.out | refine Below.setCell ?_ (by simp) _)⟩
end Go.Proofs.YtldjeacpkndcbaaGreatDoor
