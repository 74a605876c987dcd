/- Walks: one frame read by the program. -/
import Derived.Test.YtbbchgklcknlbaaKd
import Derived.Test.YtbbchgklcknlbaaSh
set_option linter.unusedVariables false
set_option linter.unusedSimpArgs false
namespace Go.Proofs.Ytbbchgklcknlbaa
open Go.RowKit

theorem k_of64 {a : Nat} (ha : a < 2 ^ 63) : (BitVec.ofInt 64 (a : Int)).toNat = a := by
  rw [BitVec.ofInt_natCast, BitVec.toNat_ofNat]; exact Nat.mod_eq_of_lt (by omega)
theorem k_or64 {a b : Nat} (ha : a < 2 ^ 62) (hb : b < 2 ^ 62) : bits .or .i64 (a : Int) (b : Int) = ((a ||| b : Nat) : Int) := by
  have hx : a ||| b < 2 ^ 62 := Nat.or_lt_two_pow ha hb
  show IntKind.i64.wrap ((BitVec.ofInt 64 (a : Int) ||| BitVec.ofInt 64 (b : Int)).toNat : Int) = _
  rw [BitVec.toNat_or, k_of64 (by omega), k_of64 (by omega)]
  simp only [IntKind.wrap, IntKind.bits, IntKind.signed]
  generalize a ||| b = x at *
  simp
  omega
theorem or_at {i a P b : Nat} (hP : P = 2 ^ i * a) (h : b < 2 ^ i) : P ||| b = P + b := by
  subst hP
  exact (Nat.two_pow_add_eq_or_of_lt h a).symm
theorem hdr4 {a b c d : Nat} (ha : a < 256) (hb : b < 256) (hc : c < 256) (hd : d < 256) :
    bits .or .i64 (bits .or .i64 (bits .or .i64 ((a : Int) * 16777216) ((b : Int) * 65536)) ((c : Int) * 256)) (d : Int) = ((a * 16777216 + b * 65536 + c * 256 + d : Nat) : Int) := by
  have e1 : a * 16777216 ||| b * 65536 = a * 16777216 + b * 65536 := or_at (i := 24) (a := a) (by omega) (by omega)
  have e2 : (a * 16777216 + b * 65536) ||| c * 256 = a * 16777216 + b * 65536 + c * 256 := or_at (i := 16) (a := a * 256 + b) (by omega) (by omega)
  have e3 : (a * 16777216 + b * 65536 + c * 256) ||| d = a * 16777216 + b * 65536 + c * 256 + d := or_at (i := 8) (a := a * 65536 + b * 256 + c) (by omega) (by omega)
  rw [show (a : Int) * 16777216 = ((a * 16777216 : Nat) : Int) by omega, show (b : Int) * 65536 = ((b * 65536 : Nat) : Int) by omega, show (c : Int) * 256 = ((c * 256 : Nat) : Int) by omega,
    k_or64 (by omega) (by omega), e1, k_or64 (by omega) (by omega), e2, k_or64 (by omega) (by omega), e3]

theorem below_drewN_d {B : Nat} {a w : World} (h : Below B a w) (n : Nat) : Below B a (w.drewN n) := ⟨h.os, h.tape, h.output, h.size, h.block⟩
def byA (s : ByteArray) (k : Nat) : Nat := (s.data.toList.getD k 0).toNat
def hd4 (s : ByteArray) : Nat := byA s 0 * 16777216 + byA s 1 * 65536 + byA s 2 * 256 + byA s 3
def rdD (s : ByteArray) : ByteArray := s.extract 8 (8 + hd4 s)
def rdOk (s : ByteArray) : Bool := decide (8 ≤ s.size ∧ hd4 s ≤ 100000 ∧ hd4 s + 8 ≤ s.size) && Lib.hasPrefix s.data.toList (frS (rdD s)).data.toList
def RdPost (s : ByteArray) (w : World) (e : Ending) (w' : World) : Prop :=
  (∃ x, e = .returned (.tuple #[.string x, .bool (rdOk s)]) ∧ (rdOk s = true → x = rdD s)) ∧ Below w.heap.size w w'
theorem rdOk_bad {s : ByteArray} (h : ¬ (8 ≤ s.size ∧ hd4 s ≤ 100000 ∧ hd4 s + 8 ≤ s.size)) : rdOk s = false := by
  unfold rdOk; rw [decide_eq_false h, Bool.false_and]
theorem rdOk_good {s : ByteArray} (h : 8 ≤ s.size ∧ hd4 s ≤ 100000 ∧ hd4 s + 8 ≤ s.size) : rdOk s = Lib.hasPrefix s.data.toList (frS (rdD s)).data.toList := by
  unfold rdOk; rw [decide_eq_true h, Bool.true_and]
theorem byA_of (s : ByteArray) (k : Nat) (h : k < s.size) : s[k].toNat = byA s k := by unfold byA; rw [k_byte_of s k h]
set_option maxRecDepth 100000 in
set_option maxHeartbeats 2000000 in
theorem readFrame_any (s : ByteArray) (w : World) (hs : s.size ≤ 1048576) :
    Calls Try.prog 100 #[.string s] w (RdPost s w) := by
  have HBAD := Lib.hid (fun h => rdOk_bad (s := s) h)
  have HGOOD := Lib.hid (fun h => rdOk_good (s := s) h)
  have HPF := Lib.hid (fun p W => Try.strings_HasPrefix s p W)
  have HFR := Lib.hid (fun d W h => implFrameOf_any d W h)
  by_cases h8 : s.size < 8
  · have hi : (s.size : Int) < 8 := by omega
    have HF := Lib.hid (HBAD.out (by omega))
    go_enter Try.func100, Try.ntmps100
    go_wp2_with fail
    go_ret2
    exact ⟨⟨_, by rw [HF.out]; rfl, by rw [HF.out]; intro h; cases h⟩, Below.refl _ _⟩
  · have hi : ¬ (s.size : Int) < 8 := by omega
    have l0 : 0 < s.size := by omega
    have l1 : 1 < s.size := by omega
    have l2 : 2 < s.size := by omega
    have l3 : 3 < s.size := by omega
    have i0 : (0 : Int) < s.size := by omega
    have i1 : (1 : Int) < s.size := by omega
    have i2 : (2 : Int) < s.size := by omega
    have i3 : (3 : Int) < s.size := by omega
    have hb0 := s[0].toNat_lt
    have hb1 := s[1].toNat_lt
    have hb2 := s[2].toNat_lt
    have hb3 := s[3].toNat_lt
    have H4 := Lib.hid (hdr4 hb0 hb1 hb2 hb3)
    have HN : Hid (s[0].toNat * 16777216 + s[1].toNat * 65536 + s[2].toNat * 256 + s[3].toNat = hd4 s) := Lib.hid (by unfold hd4; rw [byA_of s 0 l0, byA_of s 1 l1, byA_of s 2 l2, byA_of s 3 l3])
    have HD : Hid (rdD s = s.extract 8 (8 + hd4 s)) := Lib.hid rfl
    generalize hd4 s = n at HBAD HGOOD HN HD
    go_enter Try.func100, Try.ntmps100
    go_wp2_with fail
    go_quiet (fail)
    rw [H4.out, HN.out]
    by_cases hbig : 100000 < n
    · have hni : (100000 : Int) < (n : Int) := by omega
      have HF := Lib.hid (HBAD.out (by omega))
      go_wp2_with fail
      go_ret2
      exact ⟨⟨_, by rw [HF.out]; rfl, by rw [HF.out]; intro h; cases h⟩, below_drewN_d (Below.refl _ _) _⟩
    · have hni : ¬ (100000 : Int) < (n : Int) := by omega
      by_cases hlong : s.size < 8 + n
      · have hli : wrap64 ((s.size : Int) - 8) < (n : Int) := by unfold wrap64; omega
        have HF := Lib.hid (HBAD.out (by omega))
        go_wp2_with fail
        go_ret2
        exact ⟨⟨_, by rw [HF.out]; rfl, by rw [HF.out]; intro h; cases h⟩, below_drewN_d (Below.refl _ _) _⟩
      · have hli : ¬ wrap64 ((s.size : Int) - 8) < (n : Int) := by unfold wrap64; omega
        have HF := Lib.hid (HGOOD.out (by omega))
        have hds : (s.extract 8 (8 + n)).size ≤ maxLen := by
          rw [ByteArray.size_extract]; unfold maxLen; omega
        have HFD := Lib.hid (fun W => HFR.out (s.extract 8 (8 + n)) W hds)
        have HEX : Hid (rdD s = s.extract 8 (8 + n)) := Lib.hid HD.out
        rw [HEX.out] at HF
        go_wp2_with fail
        refine (HFD.out _).mono ?_
        rintro e w2 ⟨rfl, hb2⟩
        have HB2 := Lib.hid ((below_drewN_d (Below.refl w.heap.size w) _).trans hb2)
        clear hb2
        go_wp2_with fail
        refine (HPF.out _ _).mono ?_
        rintro e w3 ⟨rfl, rfl⟩
        go_wp2_with fail
        go_ret2
        exact ⟨⟨_, by rw [HF.out]; rfl, fun _ => HEX.out.symm⟩, HB2.out⟩
end Go.Proofs.Ytbbchgklcknlbaa
