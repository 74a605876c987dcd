/- Walks: the checksum's bytes; a number's four bytes; the frame of some data. -/
import Derived.Test.YtldjeacpkndcbaaGreatDoorKa
import Derived.Lib.AppendStr
import Derived.Deep.RegionLaw
import Derived.Test.YtldjeacpkndcbaaGreatDoorDj
import Derived.Test.YtldjeacpkndcbaaGreatDoorVc
import Derived.Deep.RegionHeld3
set_option linter.unusedVariables false
set_option linter.unusedSimpArgs false
namespace Go.Proofs.YtldjeacpkndcbaaGreatDoor
open Go.RowKit

def bstr (l : List Nat) : ByteArray := ⟨(l.map UInt8.ofNat).toArray⟩
def be4 (n : Nat) : List Nat := [n / 16777216 % 256, n / 65536 % 256, n / 256 % 256, n % 256]
def le4 (n : Nat) : List Nat := [n % 256, n / 256 % 256, n / 65536 % 256, n / 16777216 % 256]
def rev4 (n : Nat) : Nat := n % 256 * 16777216 + n / 256 % 256 * 65536 + n / 65536 % 256 * 256 + n / 16777216 % 256
theorem be4_rev {n : Nat} (h : n < 2 ^ 32) : be4 (rev4 n) = le4 n := by
  unfold be4 rev4 le4
  have a0 := Nat.mod_lt n (show 256 > 0 by decide)
  have a1 := Nat.mod_lt (n / 256) (show 256 > 0 by decide)
  have a2 := Nat.mod_lt (n / 65536) (show 256 > 0 by decide)
  have a3 := Nat.mod_lt (n / 16777216) (show 256 > 0 by decide)
  generalize n % 256 = x0 at *
  generalize n / 256 % 256 = x1 at *
  generalize n / 65536 % 256 = x2 at *
  generalize n / 16777216 % 256 = x3 at *
  have e0 : (x0 * 16777216 + x1 * 65536 + x2 * 256 + x3) / 16777216 % 256 = x0 := by omega
  have e1 : (x0 * 16777216 + x1 * 65536 + x2 * 256 + x3) / 65536 % 256 = x1 := by omega
  have e2 : (x0 * 16777216 + x1 * 65536 + x2 * 256 + x3) / 256 % 256 = x2 := by omega
  have e3 : (x0 * 16777216 + x1 * 65536 + x2 * 256 + x3) % 256 = x3 := by omega
  rw [e0, e1, e2, e3]
theorem and_split (h l h' l' : Nat) (hl : l < 2 ^ 16) (hl' : l' < 2 ^ 16) : (2 ^ 16 * h + l) &&& (2 ^ 16 * h' + l') = 2 ^ 16 * (h &&& h') + (l &&& l') := by
  apply Nat.eq_of_testBit_eq
  intro i
  rw [Nat.testBit_and, Nat.testBit_two_pow_mul_add _ hl, Nat.testBit_two_pow_mul_add _ hl', Nat.testBit_two_pow_mul_add _ (Nat.and_lt_two_pow _ hl')]
  by_cases hi : i < 16
  · rw [if_pos hi, if_pos hi, if_pos hi, Nat.testBit_and]
  · rw [if_neg hi, if_neg hi, if_neg hi, Nat.testBit_and]
theorem or_split (h l h' l' : Nat) (hl : l < 2 ^ 16) (hl' : l' < 2 ^ 16) : (2 ^ 16 * h + l) ||| (2 ^ 16 * h' + l') = 2 ^ 16 * (h ||| h') + (l ||| l') := by
  apply Nat.eq_of_testBit_eq
  intro i
  rw [Nat.testBit_or, Nat.testBit_two_pow_mul_add _ hl, Nat.testBit_two_pow_mul_add _ hl', Nat.testBit_two_pow_mul_add _ (Nat.or_lt_two_pow hl hl')]
  by_cases hi : i < 16
  · rw [if_pos hi, if_pos hi, if_pos hi, Nat.testBit_or]
  · rw [if_neg hi, if_neg hi, if_neg hi, Nat.testBit_or]
theorem and_255 (n : Nat) : n &&& 255 = n % 256 := Nat.and_two_pow_sub_one_eq_mod n 8
theorem mask_rb {n : Nat} : n &&& 16711935 = 65536 * (n / 65536 % 256) + n % 256 := by
  have e : n = 2 ^ 16 * (n / 65536) + n % 65536 := by omega
  have h := and_split (n / 65536) (n % 65536) 255 255 (by omega) (by omega)
  rw [← e, and_255, and_255] at h
  have e2 : n % 65536 % 256 = n % 256 := by omega
  rw [e2] at h
  exact h
theorem or_byte {a b : Nat} (ha : a < 256) : a ||| b * 256 = b * 256 + a := by
  have := Nat.two_pow_add_eq_or_of_lt (i := 8) (b := a) (by omega) b
  rw [Nat.or_comm, Nat.mul_comm b 256]
  exact this.symm
theorem rb_step {n : Nat} (h : n < 2 ^ 32) : (n / 256 &&& 16711935) ||| (n &&& 16711935) * 256 % 4294967296 = n / 65536 % 256 * 16777216 + n / 16777216 % 256 * 65536 + n % 256 * 256 + n / 256 % 256 := by
  rw [mask_rb, mask_rb]
  have a0 := Nat.mod_lt n (show 256 > 0 by decide)
  have a1 := Nat.mod_lt (n / 256) (show 256 > 0 by decide)
  have a2 := Nat.mod_lt (n / 65536) (show 256 > 0 by decide)
  have a3 := Nat.mod_lt (n / 16777216) (show 256 > 0 by decide)
  have e3 : n / 256 / 65536 % 256 = n / 16777216 % 256 := by rw [Nat.div_div_eq_div_mul]
  rw [e3]
  generalize n % 256 = x0 at *
  generalize n / 256 % 256 = x1 at *
  generalize n / 65536 % 256 = x2 at *
  generalize n / 16777216 % 256 = x3 at *
  have e4 : (65536 * x2 + x0) * 256 % 4294967296 = 2 ^ 16 * (x2 * 256) + x0 * 256 := by omega
  rw [e4]
  have h5 := or_split x3 x1 (x2 * 256) (x0 * 256) (by omega) (by omega)
  rw [or_byte a3, or_byte a1] at h5
  rw [show 65536 * x3 + x1 = 2 ^ 16 * x3 + x1 from rfl, h5]
  omega
theorem rb_last {m : Nat} (h : m < 2 ^ 32) : (m / 65536) ||| m * 65536 % 4294967296 = m % 65536 * 65536 + m / 65536 := by
  have h1 := or_split 0 (m / 65536) (m % 65536) 0 (by omega) (by omega)
  rw [Nat.zero_or, Nat.or_zero, Nat.mul_zero, Nat.zero_add, Nat.add_zero] at h1
  rw [show m * 65536 % 4294967296 = 2 ^ 16 * (m % 65536) by omega, h1]
  omega
theorem k_or32 {a b : Nat} (ha : a < 2 ^ 32) (hb : b < 2 ^ 32) : bits .or .u32 (a : Int) (b : Int) = ((a ||| b : Nat) : Int) := by
  have hx : a ||| b < 2 ^ 32 := Nat.or_lt_two_pow ha hb
  show IntKind.u32.wrap ((BitVec.ofInt 32 (a : Int) ||| BitVec.ofInt 32 (b : Int)).toNat : Int) = _
  rw [BitVec.toNat_or, k_of32 ha, k_of32 hb, k_wrap32]
  omega
theorem bytes_one (l : List Nat) : ∀ u ∈ byteCells l, u.oneCell' = true := by
  intro u hu
  unfold byteCells at hu
  obtain ⟨p, _, rfl⟩ := List.mem_map.1 hu
  rfl
theorem bytes_made (l : List Nat) (w : World) (hl : l.length ≤ maxLen) : (w.alloc (.cells (byteCells l).toArray 5)).ownsRow w.heap.size 5 1 (.slice (some ⟨w.heap.size, 0, none⟩) l.length l.length) l.length (byteCells l) :=
  ⟨by rw [byteCells_length, Nat.mul_one], .inr ⟨w.heap.size, l.length, _, rfl, Nat.le_refl _, heap_alloc_new w _, Nat.le_refl _, hl, by simp [byteCells], by rw [Nat.mul_one]; show (byteCells l).take l.length = byteCells l; rw [← byteCells_length l, List.take_length]⟩⟩
theorem cells_new (w : World) (xs : List Value) (t : TypeId) : ∀ j u, xs[j]? = some u → (w.alloc (.cells xs.toArray t)).cell? ((⟨w.heap.size, 0, none⟩ : Addr).add j) = some u := by
  intro j u hj
  rw [Addr.add_lit]
  simp [hj]

end Go.Proofs.YtldjeacpkndcbaaGreatDoor

/- Walks: the frame of some data; the law FnExactFrameOf. -/
set_option linter.unusedVariables false
set_option linter.unusedSimpArgs false
namespace Go.Proofs.YtldjeacpkndcbaaGreatDoor
open Go.RowKit

def mid4 (n : Nat) : Nat := n / 65536 % 256 * 16777216 + n / 16777216 % 256 * 65536 + n % 256 * 256 + n / 256 % 256
theorem mid4_rev (n : Nat) : mid4 n < 2 ^ 32 ∧ mid4 n % 65536 * 65536 + mid4 n / 65536 = rev4 n := by
  unfold mid4 rev4
  have a0 := Nat.mod_lt n (show 256 > 0 by decide)
  have a1 := Nat.mod_lt (n / 256) (show 256 > 0 by decide)
  have a2 := Nat.mod_lt (n / 65536) (show 256 > 0 by decide)
  have a3 := Nat.mod_lt (n / 16777216) (show 256 > 0 by decide)
  generalize n % 256 = x0 at *
  generalize n / 256 % 256 = x1 at *
  generalize n / 65536 % 256 = x2 at *
  generalize n / 16777216 % 256 = x3 at *
  omega
theorem rev4_lt (n : Nat) : rev4 n < 2 ^ 32 := by
  unfold rev4
  have a0 := Nat.mod_lt n (show 256 > 0 by decide)
  have a1 := Nat.mod_lt (n / 256) (show 256 > 0 by decide)
  have a2 := Nat.mod_lt (n / 65536) (show 256 > 0 by decide)
  have a3 := Nat.mod_lt (n / 16777216) (show 256 > 0 by decide)
  generalize n % 256 = x0 at *
  generalize n / 256 % 256 = x1 at *
  generalize n / 65536 % 256 = x2 at *
  generalize n / 16777216 % 256 = x3 at *
  omega
theorem rb_mid {n : Nat} (hn : n < 2 ^ 32) : bits .or .u32 (bits .and .u32 ((n : Int) / 256) 16711935) (bits .and .u32 (n : Int) 16711935 * 256 % 4294967296) = (mid4 n : Int) := by
  have a1 : bits .and .u32 ((n : Int) / 256) 16711935 = ((n / 256 &&& 16711935 : Nat) : Int) := k_and32 (a := n / 256) (b := 16711935) (by omega) (by omega)
  have a2 : bits .and .u32 (n : Int) 16711935 = ((n &&& 16711935 : Nat) : Int) := k_and32 (a := n) (b := 16711935) hn (by omega)
  have hst := rb_step hn
  rw [a1, a2]
  have hA : n / 256 &&& 16711935 < 2 ^ 32 := Nat.and_lt_two_pow _ (by omega)
  generalize n / 256 &&& 16711935 = X at *
  generalize n &&& 16711935 = Y at *
  have e : (Y : Int) * 256 % 4294967296 = ((Y * 256 % 4294967296 : Nat) : Int) := by omega
  rw [e, k_or32 hA (by omega), hst]
  rfl
theorem rb_all {n : Nat} (hn : n < 2 ^ 32) : bits .or .u32 (bits .or .u32 (bits .and .u32 ((n : Int) / 256) 16711935) (bits .and .u32 (n : Int) 16711935 * 256 % 4294967296) / 65536) (bits .or .u32 (bits .and .u32 ((n : Int) / 256) 16711935) (bits .and .u32 (n : Int) 16711935 * 256 % 4294967296) * 65536 % 4294967296) = (rev4 n : Int) := by
  rw [rb_mid hn]
  obtain ⟨h1, h2⟩ := mid4_rev n
  have hl := rb_last h1
  generalize mid4 n = m at *
  rw [show (m : Int) / 65536 = ((m / 65536 : Nat) : Int) by omega, show (m : Int) * 65536 % 4294967296 = ((m * 65536 % 4294967296 : Nat) : Int) by omega, k_or32 (by omega) (by omega), hl, h2]


set_option maxRecDepth 100000 in
set_option maxHeartbeats 2000000 in
theorem appendBig_any (base : Nat) (v : Value) (l : List Nat) (n : Nat) (w : World) (hn : n < 2 ^ 32) (hl : l.length ≤ 1000000) (hb : base ≤ w.heap.size) (h : w.ownsRow base 5 1 v l.length (byteCells l)) :
    Calls Tryz.prog 18 #[v, .int .u32 (n : Int)] w fun e w' => ∃ v', e = .returned v' ∧ w'.ownsRow base 5 1 v' (l ++ be4 n).length (byteCells (l ++ be4 n)) ∧ w.grownBy w' v.ownBlock := by
  obtain ⟨i0, hi, hz0, hz1, hz2⟩ := info_parts u_info_u8
  have HC := Lib.hid (cells_new w (byteCells (be4 n)) 5)
  have HO := Lib.hid (h.alloc (.cells (byteCells (be4 n)).toArray 5))
  have HV := Lib.hid h
  have HB := Lib.hid (bytes_one (be4 n))
  have hq1 : (n : Int) / 16777216 = ((n / 16777216 : Nat) : Int) := by omega
  have hq2 : (n : Int) / 65536 = ((n / 65536 : Nat) : Int) := by omega
  have hq3 : (n : Int) / 256 = ((n / 256 : Nat) : Int) := by omega
  have HE : Hid (byteCells (be4 n) = [.int .u8 ((n : Int) / 16777216), .int .u8 ((n : Int) / 65536 % 256), .int .u8 ((n : Int) / 256 % 256), .int .u8 ((n : Int) % 256)]) := Lib.hid (by
    simp only [byteCells, be4, List.map_cons, List.map_nil]
    rw [hq1, hq2, hq3, show n / 16777216 % 256 = n / 16777216 by omega, show ((n / 65536 : Nat) : Int) % 256 = ((n / 65536 % 256 : Nat) : Int) by omega, show ((n / 256 : Nat) : Int) % 256 = ((n / 256 % 256 : Nat) : Int) by omega, show (n : Int) % 256 = ((n % 256 : Nat) : Int) by omega])
  rw [HE.out] at HC HO HB
  clear hq1 hq2 hq3 h
  go_enter Tryz.func18, Tryz.ntmps18
  go_wp2_with (at_builtin; refine wpList_append_own _ rfl _ _ 22 rfl base 5 i0 (.int .u8 0) 1 1 Tryz.underlying22 hi hz0 hz1 hz2 rfl (by decide) v l.length (byteCells l) rfl HO.out ⟨w.heap.size, 0, none⟩ 4 4 _ rfl ?a1 HC.out HB.out ?a4 ?a5 ?a6 ?_)
  case a1 => rfl
  case a4 => unfold maxLen; omega
  case a5 => omega
  case a6 => first | omega | (simp; omega)
  intro v' w1 hown hg _
  have HO1 := Lib.hid hown
  have HG1 := Lib.hid ((World.grownBy_alloc w _ _).trans hg)
  clear hown hg
  go_wp2_with fail
  go_ret
  refine ⟨v', rfl, ?_, HG1.out⟩
  rw [byteCells_append, HE.out, List.length_append]
  exact HO1.out

theorem bytes_made' (l : List Nat) (xs : List Value) (h : byteCells l = xs) (W : World) (hl : l.length ≤ maxLen) :
    (W.alloc (.cells xs.toArray 5)).ownsRow W.heap.size 5 1 (.slice (some ⟨W.heap.size, 0, none⟩) l.length l.length) l.length (byteCells l) := by
  subst h
  exact bytes_made l W hl
def frS (s : ByteArray) : ByteArray := if 100000 < s.size then ⟨#[]⟩ else bstr (be4 s.size ++ le4 (CR.sumN s.data.toList) ++ s.data.toList.map UInt8.toNat)
theorem sumN_lt' (l : List UInt8) : CR.sumN l < 2 ^ 32 := Nat.xor_lt_two_pow (CR.sumFrom_lt (by omega) l) (by omega)
theorem strCells_bytes (s : ByteArray) : Go.Lib.strCells s = byteCells (s.data.toList.map UInt8.toNat) := by
  unfold Go.Lib.strCells byteCells
  simp
theorem bstr_append (l m : List Nat) : bstr l ++ bstr m = bstr (l ++ m) := by
  unfold bstr
  apply ByteArray.ext
  simp
theorem bstr_self (s : ByteArray) : bstr (s.data.toList.map UInt8.toNat) = s := by
  unfold bstr
  apply ByteArray.ext
  simp [Function.comp_def]


end Go.Proofs.YtldjeacpkndcbaaGreatDoor

/- Walks: the text of a block, both. -/
set_option linter.unusedVariables false
set_option linter.unusedSimpArgs false
namespace Go.Proofs.YtldjeacpkndcbaaGreatDoor
open Go.RowKit

/-- a block's numbers and bytes, and its text -/
def btB (n : Int) (s : ByteArray) : ByteArray := varS n ++ varS (s.size : Int) ++ s
def btT (n : Int) (s : ByteArray) : ByteArray := btB n s ++ bstr (be4 (CR.sumN (btB n s).data.toList))
def btS (n : Int) (s : ByteArray) : ByteArray := if ptsF (ptsB s n) = true then btT n s else ⟨#[]⟩
theorem varS_short (n : Int) : (varS n).size ≤ 10 := by
  rw [varS_size]; exact VM.var_len64 _ (i64u_lt n)
theorem bstr_size (l : List Nat) : (bstr l).size = l.length := by
  show (l.map UInt8.ofNat).toArray.size = _
  simp
theorem varS_bstr (n : Int) : varS n = bstr (VM.var (i64u n)) := rfl
theorem ptsF_size {s : ByteArray} {n : Int} (h : ptsF (ptsB s n) = true) : s.size ≤ 2500 := by
  cases hp : ptsB s n with
  | none => rw [hp] at h; cases h
  | some xs =>
    obtain ⟨_, _, hD, _⟩ := ptsB_some hp
    have := bkD_size xs
    rw [hD] at this; omega

set_option maxRecDepth 100000 in
set_option maxHeartbeats 2000000 in
theorem l5Text_any (n : Int) (s : ByteArray) (w : World) (hs : s.size ≤ 100000) :
    Calls Tryz.prog 30 #[.agg #[.int .i64 n, .string s]] w fun e w' => e = .returned (.string (btT n s)) ∧ Below w.heap.size w w' := by
  have HLA := Lib.hid (fun W => specL2Var_any n W)
  have HLB := Lib.hid (fun W => specL2Var_any (s.size : Int) W)
  have HE1 := Lib.hid (show btT n s = btB n s ++ bstr (be4 (CR.sumN (btB n s).data.toList)) from rfl)
  have HE2 := Lib.hid (show btB n s = varS n ++ varS (s.size : Int) ++ s from rfl)
  have hA := varS_short n
  have hB := varS_short (s.size : Int)
  have HSm := Lib.hid (fun W => l5Sum_any (btB n s) W (by rw [show btB n s = varS n ++ varS (s.size : Int) ++ s from rfl, ByteArray.size_append, ByteArray.size_append]; unfold maxLen; omega))
  have hbz : (btB n s).size = (varS n).size + (varS (s.size : Int)).size + s.size := by rw [show btB n s = varS n ++ varS (s.size : Int) ++ s from rfl, ByteArray.size_append, ByteArray.size_append]
  have hZ := sumN_lt' (btB n s).data.toList
  have HK0 := Lib.hid (KB.new w n s)
  have HB0 := Lib.hid (below1 w (.cells #[.int .i64 n, .string s] 25))
  generalize CR.sumN (btB n s).data.toList = Z at *
  have hq1 : (Z : Int) / 16777216 = ((Z / 16777216 : Nat) : Int) := by omega
  have hq2 : (Z : Int) / 65536 = ((Z / 65536 : Nat) : Int) := by omega
  have hq3 : (Z : Int) / 256 = ((Z / 256 : Nat) : Int) := by omega
  have HM : Hid (∀ W : World, (W.alloc (.cells #[.int .u8 ((Z : Int) / 16777216), .int .u8 ((Z : Int) / 65536 % 256), .int .u8 ((Z : Int) / 256 % 256), .int .u8 ((Z : Int) % 256)] 5)).ownsRow W.heap.size 5 1 (.slice (some ⟨W.heap.size, 0, none⟩) 4 4) 4 (byteCells (be4 Z))) := Lib.hid (fun W => by
    refine bytes_made' (be4 Z) _ ?_ W (by simp [be4, maxLen])
    simp only [byteCells, be4, List.map_cons, List.map_nil]
    rw [hq1, hq2, hq3, show Z / 16777216 % 256 = Z / 16777216 by omega, show ((Z / 65536 : Nat) : Int) % 256 = ((Z / 65536 % 256 : Nat) : Int) by omega, show ((Z / 256 : Nat) : Int) % 256 = ((Z / 256 % 256 : Nat) : Int) by omega, show (Z : Int) % 256 = ((Z % 256 : Nat) : Int) by omega])
  clear hq1 hq2 hq3
  have HCV : Hid (∀ (W : World) (base b : Nat), W.ownsRow base 5 1 (.slice (some ⟨b, 0, none⟩) 4 4) 4 (byteCells (be4 Z)) → (convert 22 9 (.slice (some ⟨b, 0, none⟩) 4 4)).run Tryz.prog W = .ok (.string (bstr (be4 Z))) W) := Lib.hid (fun W base b h9 => conv_own (l := be4 Z) h9)
  have hz4 : (bstr (be4 Z)).size = 4 := rfl
  generalize bstr (be4 Z) = TZ at *
  generalize btB n s = BT at *
  generalize hVA : varS n = VA at *
  generalize hVB : varS (s.size : Int) = VB at *
  have HVA := Lib.hid hVA
  have HVB := Lib.hid hVB
  have hs1 : ¬ 9223372036854775807 < VA.size + VB.size := by omega
  have hs2 : ¬ 9223372036854775807 < (VA ++ VB).size + s.size := by rw [ByteArray.size_append]; omega
  have hs2b : ¬ 9223372036854775807 < VA.size + VB.size + s.size := by omega
  have hs3 : ¬ 9223372036854775807 < BT.size + TZ.size := by omega
  have hs4b : ¬ 9223372036854775807 < VA.size + VB.size + s.size + TZ.size := by omega
  have hs4 : ¬ 9223372036854775807 < (VA ++ VB ++ s).size + TZ.size := by rw [ByteArray.size_append, ByteArray.size_append]; omega
  clear hVA hVB
  have k0 := HK0.out.c0
  have k1 := HK0.out.c1
  have hS0 : Hid ((w.alloc (.cells #[.int .i64 n, .string s] 25)).drew.cell? ⟨w.heap.size, 0, none⟩ = some (.int .i64 n) ∧ (w.alloc (.cells #[.int .i64 n, .string s] 25)).drew.cell? ⟨w.heap.size, 1, none⟩ = some (.string s)) := Lib.hid ⟨k0, k1⟩
  have hz1 : w.heap.size < (w.alloc (.cells #[.int .i64 n, .string s] 25)).heap.size := by simp
  have HBX : Hid (Below (w.alloc (.cells #[.int .i64 n, .string s] 25)).heap.size (w.alloc (.cells #[.int .i64 n, .string s] 25)) (w.alloc (.cells #[.int .i64 n, .string s] 25)).drew) := Lib.hid (Below.refl _ _).drew
  go_enter Tryz.func30, Tryz.ntmps30
  go_wp2_with fail
  generalize hW1 : w.alloc (.cells #[.int .i64 n, .string s] 25) = w1 at *
  clear hW1
  go_region_held3 (fun W => W.cell? ⟨w.heap.size, 0, none⟩ = some (.int .i64 n) ∧ W.cell? ⟨w.heap.size, 1, none⟩ = some (.string s))
    (first | with_reducible assumption | with_reducible exact hS0.out)
    (first
      | (go_at_call 47; (with_reducible refine (HLA.out _).mono ?_); rintro e w5 ⟨rfl, hb5⟩; have HBY := Lib.hid (HBX.out.trans (hb5.mono HBX.out.size)); clear HBX hb5; have HBX := HBY; clear HBY; have hB5 : w5.cell? ⟨w.heap.size, 0, none⟩ = some (.int .i64 n) ∧ w5.cell? ⟨w.heap.size, 1, none⟩ = some (.string s) := ⟨(HBX.out.cell (p := ⟨w.heap.size, 0, none⟩) hz1).trans k0, (HBX.out.cell (p := ⟨w.heap.size, 1, none⟩) hz1).trans k1⟩)
      | (go_at_call 47; (with_reducible refine (HLB.out _).mono ?_); rintro e w5 ⟨rfl, hb5⟩; have HBY := Lib.hid (HBX.out.trans (hb5.mono HBX.out.size)); clear HBX hb5; have HBX := HBY; clear HBY; have hB5 : w5.cell? ⟨w.heap.size, 0, none⟩ = some (.int .i64 n) ∧ w5.cell? ⟨w.heap.size, 1, none⟩ = some (.string s) := ⟨(HBX.out.cell (p := ⟨w.heap.size, 0, none⟩) hz1).trans k0, (HBX.out.cell (p := ⟨w.heap.size, 1, none⟩) hz1).trans k1⟩))
  all_goals
    have HF5 := Lib.hid (HB0.out.trans (HBX.out.mono HB0.out.size))
    rw [← HE2.out]
    clear hB5
    go_wp2_with fail
    refine (HSm.out _).mono ?_
    rintro e w6 ⟨rfl, rfl⟩
    have hcva := HCV.out _ _ _ (HM.out w5)
    go_wp2_with fail
    go_ret
    exact ⟨by rw [HE1.out]; rfl, HF5.out.alloc HF5.out.size _⟩

set_option maxRecDepth 100000 in
set_option maxHeartbeats 2000000 in
theorem specBlockText_any (n : Int) (s : ByteArray) (w : World) (hs : s.size ≤ maxLen) :
    Calls Tryz.prog 12 #[.agg #[.int .i64 n, .string s]] w fun e w' => e = .returned (.string (btS n s)) ∧ Below w.heap.size w w' := by
  have HP := Lib.hid (fun W => specPointsOf_any n s W hs)
  unfold POutF at HP
  have HT := Lib.hid (fun W h => l5Text_any n s W h)
  have HSz := Lib.hid (@ptsF_size s n)
  have HK0 := Lib.hid (KB.new w n s)
  have HB0 := Lib.hid (below1 w (.cells #[.int .i64 n, .string s] 25))
  have HE : Hid (btS n s = if ptsF (ptsB s n) = true then btT n s else ⟨#[]⟩) := Lib.hid rfl
  generalize ptsF (ptsB s n) = F at *
  cases F with
  | false =>
    go_enter Tryz.func12, Tryz.ntmps12
    go_wp2_with fail
    refine (HP.out _).mono ?_
    rintro e w2 ⟨v, rfl, _, hb2⟩
    have HF := Lib.hid (HB0.out.trans (hb2.mono HB0.out.size))
    clear hb2
    go_wp2_with fail
    go_ret
    exact ⟨by rw [HE.out]; rfl, HF.out⟩
  | true =>
    have hsz := HSz.out rfl
    go_enter Tryz.func12, Tryz.ntmps12
    go_wp2_with fail
    refine (HP.out _).mono ?_
    rintro e w2 ⟨v, rfl, _, hb2⟩
    have HF := Lib.hid (HB0.out.trans (hb2.mono HB0.out.size))
    have HK2 := HK0.out.below hb2 (by simp)
    have x0 := HK2.c0
    have x1 := HK2.c1
    clear hb2
    go_wp2_with fail
    refine (HT.out _ (by omega)).mono ?_
    rintro e w3 ⟨rfl, hb3⟩
    have HF3 := Lib.hid (HF.out.trans (hb3.mono HF.out.size))
    clear hb3 x0 x1
    go_wp2_with fail
    go_ret
    exact ⟨by rw [HE.out]; rfl, HF3.out⟩

set_option maxRecDepth 100000 in
set_option maxHeartbeats 2000000 in
theorem implBlockText_any (n : Int) (s : ByteArray) (w : World) (hs : s.size ≤ 1000000000000) (hT : Tab w) :
    Calls Tryz.prog 7 #[.agg #[.int .i64 n, .string s]] w fun e w' => e = .returned (.string (btS n s)) ∧ Below w.heap.size w w' := by
  have HP := Lib.hid (fun W hT => implPointsOf_any n s W hs hT)
  unfold POutF at HP
  have HSz := Lib.hid (@ptsF_size s n)
  have HK0 := Lib.hid (KB.new w n s)
  have HB0 := Lib.hid (below1 w (.cells #[.int .i64 n, .string s] 25))
  have HT0 := Lib.hid (hT.below HB0.out)
  have HE : Hid (btS n s = if ptsF (ptsB s n) = true then btT n s else ⟨#[]⟩) := Lib.hid rfl
  have HE1 := Lib.hid (show btT n s = btB n s ++ bstr (be4 (CR.sumN (btB n s).data.toList)) from rfl)
  have HE2 := Lib.hid (show btB n s = bstr (VM.var (i64u n) ++ VM.var (i64u (s.size : Int)) ++ s.data.toList.map UInt8.toNat) by
    rw [show btB n s = varS n ++ varS (s.size : Int) ++ s from rfl, ← bstr_append, ← bstr_append, bstr_self]; rfl)
  have hA := VM.var_len64 _ (i64u_lt n)
  have hB := VM.var_len64 _ (i64u_lt (s.size : Int))
  have HAV := Lib.hid (fun n₀ v0 xs m W h1 h2 h3 => appendVar_any n₀ v0 xs m W h1 h2 h3)
  have HCS := Lib.hid (fun (t : ByteArray) W (h : t.size ≤ maxLen) => checksum_any t W h)
  have HSC := Lib.hid (strCells_bytes s)
  obtain ⟨i0, hii, hz0, hz1, hz2⟩ := info_parts u_info_u8
  generalize ptsF (ptsB s n) = F at *
  cases F with
  | false =>
    clear hT
    go_enter Tryz.func7, Tryz.ntmps7
    go_wp2_with fail
    refine (HP.out _ HT0.out).mono ?_
    rintro e w2 ⟨v, rfl, _, hb2⟩
    have HF := Lib.hid (HB0.out.trans (hb2.mono HB0.out.size))
    clear hb2
    go_wp2_with fail
    go_ret
    exact ⟨by rw [HE.out]; rfl, HF.out⟩
  | true =>
    have hsz := HSz.out rfl
    clear hT
    have HAV1 := Lib.hid (fun W => HAV.out W.heap.size (.slice none 0 0) [] n W (Nat.le_refl _) (by simp) (World.ownsRow_nil _ _ _ _))
    obtain ⟨LA, hLA⟩ : ∃ LA, VM.var (i64u n) = LA := ⟨_, rfl⟩
    obtain ⟨LB, hLB⟩ : ∃ LB, VM.var (i64u (s.size : Int)) = LB := ⟨_, rfl⟩
    rw [hLA] at hA HE2
    rw [hLB] at hB HE2
    have HLA := Lib.hid hLA
    have HLB := Lib.hid hLB
    clear hLA hLB
    go_enter Tryz.func7, Tryz.ntmps7
    go_wp2_with fail
    refine (HP.out _ HT0.out).mono ?_
    rintro e w2 ⟨v, rfl, _, hb2⟩
    have HF := Lib.hid (HB0.out.trans (hb2.mono HB0.out.size))
    have HK2 := Lib.hid (HK0.out.below hb2 (by simp))
    have x0 := HK2.out.c0
    have z2 : w.heap.size < w2.heap.size := HK2.out.lt
    clear hb2
    go_wp2_with fail
    refine (HAV1.out _).mono ?_
    rintro e w3 ⟨v1, rfl, ho1, hb3⟩
    rw [List.nil_append, HLA.out] at ho1
    have HO1 := Lib.hid ho1
    have HB3 := Lib.hid hb3
    have HK3 := Lib.hid (HK2.out.below hb3 z2)
    have x1 := HK3.out.c1
    clear hb3 ho1 x0
    go_wp2_with fail
    refine (HAV.out w2.heap.size v1 LA (s.size : Int) _ HB3.out.size (by omega) HO1.out).mono ?_
    rintro e w4 ⟨v2, rfl, ho2, hb4⟩
    rw [HLB.out] at ho2
    have HO2 := Lib.hid ho2
    have HB4 := Lib.hid (HB3.out.trans hb4)
    have HK4 := Lib.hid (HK3.out.below hb4 z2)
    have x2 := HK4.out.c1
    have hz4 := HB4.out.size
    clear hb4 ho2 x1
    go_wp2_with (at_builtin; refine Go.Lib.wpList_append_own_string _ rfl _ _ 22 9 rfl w2.heap.size 5 i0 Tryz.underlying22 Tryz.underlying9 hii hz0 hz1 hz2 v2 (LA ++ LB).length (byteCells (LA ++ LB)) rfl HO2.out s rfl ?a4 ?a5 ?a6 ?_)
    case a4 => simp [maxLen]; omega
    case a5 => simp; omega
    case a6 => exact hz4
    intro v5 w5 hown hg _
    have HB5 := Lib.hid (HB4.out.grown hg hz4 (fun k hk => (HO2.out.lt k hk).1))
    have hfin : w5.ownsRow w2.heap.size 5 1 v5 (LA ++ LB ++ s.data.toList.map UInt8.toNat).length (byteCells (LA ++ LB ++ s.data.toList.map UInt8.toNat)) := by
      rw [byteCells_append, ← HSC.out, List.length_append, List.length_append, show (s.data.toList.map UInt8.toNat).length = s.size by simp]
      exact hown
    have hlen : (LA ++ LB ++ s.data.toList.map UInt8.toNat).length ≤ 3000 := by
      rw [List.length_append, List.length_append, show (s.data.toList.map UInt8.toNat).length = s.size by simp]; omega
    have HLen := Lib.hid hlen
    generalize LA ++ LB ++ s.data.toList.map UInt8.toNat = BL at *
    have hconv := conv_own hfin
    rw [show (⟨(BL.map UInt8.ofNat).toArray⟩ : ByteArray) = bstr BL from rfl, ← HE2.out] at hconv
    have HO5 := Lib.hid hfin
    have HBz := Lib.hid (show (btB n s).size ≤ 3000 by rw [HE2.out, bstr_size]; exact hlen)
    have HZ := Lib.hid (sumN_lt' (btB n s).data.toList)
    have HCS1 := Lib.hid (fun W => HCS.out (btB n s) W (by have := HBz.out; unfold maxLen; omega))
    generalize btB n s = BT at *
    generalize CR.sumN BT.data.toList = Z at *
    have HBT := Lib.hid (show bstr BL = BT from HE2.out.symm)
    clear hown hg hfin hlen x2 HE2
    go_wp2_with fail
    refine (HCS1.out _).mono ?_
    rintro e w6 ⟨rfl, hb6⟩
    have HB6 := Lib.hid (HB5.out.trans (hb6.mono HB5.out.size))
    have HO6 := Lib.hid (u_own_below HO5.out hb6)
    clear hb6 HO5 HB5 hconv
    go_wp2_with fail
    refine (appendBig_any w2.heap.size v5 BL Z w6 HZ.out (by have := HLen.out; omega) HB6.out.size HO6.out).mono ?_
    rintro e w7 ⟨v7, rfl, ho7, hg7⟩
    have HB7 := Lib.hid (HB6.out.grown hg7 HB6.out.size (fun k hk => (HO6.out.lt k hk).1))
    have hconv7 := conv_own ho7
    clear ho7 hg7
    go_wp2_with fail
    go_ret
    refine ⟨?_, HF.out.trans (HB7.out.mono (by omega))⟩
    have h1 : btS n s = ⟨(BL.map UInt8.ofNat ++ (be4 Z).map UInt8.ofNat).toArray⟩ := by
      rw [show btS n s = btT n s from by rw [HE.out]; simp, HE1.out, ← HBT.out, bstr_append]
      unfold bstr
      rw [List.map_append]
    rw [h1]
    rfl
end Go.Proofs.YtldjeacpkndcbaaGreatDoor
