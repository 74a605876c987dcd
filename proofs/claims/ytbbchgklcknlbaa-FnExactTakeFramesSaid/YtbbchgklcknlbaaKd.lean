/- Walks: the frame of some data; the law FnExactFrameOf. -/
import Derived.Lib.AppendStr
import Derived.Deep.RegionLaw
import Derived.Test.YtbbchgklcknlbaaKc
set_option linter.unusedVariables false
set_option linter.unusedSimpArgs false
namespace Go.Proofs.Ytbbchgklcknlbaa
open Go.RowKit

def mid4 (n : Nat) : Nat := n / 65536 % 256 * 16777216 + n / 16777216 % 256 * 65536 + n % 256 * 256 + n / 256 % 256
theorem mid4_rev (n : Nat) : mid4 n < 2 ^ 32 ∧ mid4 n % 65536 * 65536 + mid4 n / 65536 = rev4 n := by
  unfold mid4 rev4
  have a0 := Nat.mod_lt n (show 256 > 0 by decide)
  have a1 := Nat.mod_lt (n / 256) (show 256 > 0 by decide)
  have a2 := Nat.mod_lt (n / 65536) (show 256 > 0 by decide)
  have a3 := Nat.mod_lt (n / 16777216) (show 256 > 0 by decide)
  generalize n % 256 = x0 at *
  generalize n / 256 % 256 = x1 at *
  generalize n / 65536 % 256 = x2 at *
  generalize n / 16777216 % 256 = x3 at *
  omega
theorem rev4_lt (n : Nat) : rev4 n < 2 ^ 32 := by
  unfold rev4
  have a0 := Nat.mod_lt n (show 256 > 0 by decide)
  have a1 := Nat.mod_lt (n / 256) (show 256 > 0 by decide)
  have a2 := Nat.mod_lt (n / 65536) (show 256 > 0 by decide)
  have a3 := Nat.mod_lt (n / 16777216) (show 256 > 0 by decide)
  generalize n % 256 = x0 at *
  generalize n / 256 % 256 = x1 at *
  generalize n / 65536 % 256 = x2 at *
  generalize n / 16777216 % 256 = x3 at *
  omega
theorem rb_mid {n : Nat} (hn : n < 2 ^ 32) : bits .or .u32 (bits .and .u32 ((n : Int) / 256) 16711935) (bits .and .u32 (n : Int) 16711935 * 256 % 4294967296) = (mid4 n : Int) := by
  have a1 : bits .and .u32 ((n : Int) / 256) 16711935 = ((n / 256 &&& 16711935 : Nat) : Int) := k_and32 (a := n / 256) (b := 16711935) (by omega) (by omega)
  have a2 : bits .and .u32 (n : Int) 16711935 = ((n &&& 16711935 : Nat) : Int) := k_and32 (a := n) (b := 16711935) hn (by omega)
  have hst := rb_step hn
  rw [a1, a2]
  have hA : n / 256 &&& 16711935 < 2 ^ 32 := Nat.and_lt_two_pow _ (by omega)
  generalize n / 256 &&& 16711935 = X at *
  generalize n &&& 16711935 = Y at *
  have e : (Y : Int) * 256 % 4294967296 = ((Y * 256 % 4294967296 : Nat) : Int) := by omega
  rw [e, k_or32 hA (by omega), hst]
  rfl
theorem rb_all {n : Nat} (hn : n < 2 ^ 32) : bits .or .u32 (bits .or .u32 (bits .and .u32 ((n : Int) / 256) 16711935) (bits .and .u32 (n : Int) 16711935 * 256 % 4294967296) / 65536) (bits .or .u32 (bits .and .u32 ((n : Int) / 256) 16711935) (bits .and .u32 (n : Int) 16711935 * 256 % 4294967296) * 65536 % 4294967296) = (rev4 n : Int) := by
  rw [rb_mid hn]
  obtain ⟨h1, h2⟩ := mid4_rev n
  have hl := rb_last h1
  generalize mid4 n = m at *
  rw [show (m : Int) / 65536 = ((m / 65536 : Nat) : Int) by omega, show (m : Int) * 65536 % 4294967296 = ((m * 65536 % 4294967296 : Nat) : Int) by omega, k_or32 (by omega) (by omega), hl, h2]

set_option maxRecDepth 100000 in
set_option maxHeartbeats 1000000 in
theorem reverse32_any (n : Nat) (w : World) (hn : n < 2 ^ 32) :
    Calls Try.prog 57 #[.int .u32 (n : Int)] w fun e w' => e = .returned (.int .u32 (rev4 n : Int)) ∧ w' = w := by
  have HA := Lib.hid (rb_all hn)
  go_enter Try.func57, Try.ntmps57
  go_wp2_with fail
  go_ret
  exact ⟨by rw [← HA.out]; rfl, rfl⟩

set_option maxRecDepth 100000 in
set_option maxHeartbeats 2000000 in
theorem appendBig_any (base : Nat) (v : Value) (l : List Nat) (n : Nat) (w : World) (hn : n < 2 ^ 32) (hl : l.length ≤ 1000000) (hb : base ≤ w.heap.size) (h : w.ownsRow base 5 1 v l.length (byteCells l)) :
    Calls Try.prog 56 #[v, .int .u32 (n : Int)] w fun e w' => ∃ v', e = .returned v' ∧ w'.ownsRow base 5 1 v' (l ++ be4 n).length (byteCells (l ++ be4 n)) ∧ w.grownBy w' v.ownBlock := by
  obtain ⟨i0, hi, hz0, hz1, hz2⟩ := info_parts u_info_u8
  have HC := Lib.hid (cells_new w (byteCells (be4 n)) 5)
  have HO := Lib.hid (h.alloc (.cells (byteCells (be4 n)).toArray 5))
  have HV := Lib.hid h
  have HB := Lib.hid (bytes_one (be4 n))
  have hq1 : (n : Int) / 16777216 = ((n / 16777216 : Nat) : Int) := by omega
  have hq2 : (n : Int) / 65536 = ((n / 65536 : Nat) : Int) := by omega
  have hq3 : (n : Int) / 256 = ((n / 256 : Nat) : Int) := by omega
  have HE : Hid (byteCells (be4 n) = [.int .u8 ((n : Int) / 16777216), .int .u8 ((n : Int) / 65536 % 256), .int .u8 ((n : Int) / 256 % 256), .int .u8 ((n : Int) % 256)]) := Lib.hid (by
    simp only [byteCells, be4, List.map_cons, List.map_nil]
    rw [hq1, hq2, hq3, show n / 16777216 % 256 = n / 16777216 by omega, show ((n / 65536 : Nat) : Int) % 256 = ((n / 65536 % 256 : Nat) : Int) by omega, show ((n / 256 : Nat) : Int) % 256 = ((n / 256 % 256 : Nat) : Int) by omega, show (n : Int) % 256 = ((n % 256 : Nat) : Int) by omega])
  rw [HE.out] at HC HO HB
  clear hq1 hq2 hq3 h
  go_enter Try.func56, Try.ntmps56
  go_wp2_with (at_builtin; refine wpList_append_own _ rfl _ _ 29 rfl base 5 i0 (.int .u8 0) 1 1 Try.underlying29 hi hz0 hz1 hz2 rfl (by decide) v l.length (byteCells l) rfl HO.out ⟨w.heap.size, 0, none⟩ 4 4 _ rfl ?a1 HC.out HB.out ?a4 ?a5 ?a6 ?_)
  case a1 => rfl
  case a4 => unfold maxLen; omega
  case a5 => omega
  case a6 => first | omega | (simp; omega)
  intro v' w1 hown hg _
  have HO1 := Lib.hid hown
  have HG1 := Lib.hid ((World.grownBy_alloc w _ _).trans hg)
  clear hown hg
  go_wp2_with fail
  go_ret
  refine ⟨v', rfl, ?_, HG1.out⟩
  rw [byteCells_append, HE.out, List.length_append]
  exact HO1.out

theorem bytes_made' (l : List Nat) (xs : List Value) (h : byteCells l = xs) (W : World) (hl : l.length ≤ maxLen) :
    (W.alloc (.cells xs.toArray 5)).ownsRow W.heap.size 5 1 (.slice (some ⟨W.heap.size, 0, none⟩) l.length l.length) l.length (byteCells l) := by
  subst h
  exact bytes_made l W hl
def frS (s : ByteArray) : ByteArray := if 100000 < s.size then ⟨#[]⟩ else bstr (be4 s.size ++ le4 (CR.sumN s.data.toList) ++ s.data.toList.map UInt8.toNat)
theorem sumN_lt' (l : List UInt8) : CR.sumN l < 2 ^ 32 := Nat.xor_lt_two_pow (CR.sumFrom_lt (by omega) l) (by omega)
theorem strCells_bytes (s : ByteArray) : Go.Lib.strCells s = byteCells (s.data.toList.map UInt8.toNat) := by
  unfold Go.Lib.strCells byteCells
  simp
theorem bstr_append (l m : List Nat) : bstr l ++ bstr m = bstr (l ++ m) := by
  unfold bstr
  apply ByteArray.ext
  simp
theorem bstr_self (s : ByteArray) : bstr (s.data.toList.map UInt8.toNat) = s := by
  unfold bstr
  apply ByteArray.ext
  simp [Function.comp_def]

set_option maxRecDepth 100000 in
set_option maxHeartbeats 2000000 in
theorem implFrameOf_any (s : ByteArray) (w : World) (hs : s.size ≤ maxLen) :
    Calls Try.prog 21 #[.string s] w fun e w' => e = .returned (.string (frS s)) ∧ Below w.heap.size w w' := by
  have HCS := Lib.hid (fun W => checksum_any s W hs)
  unfold maxLen at hs
  by_cases h : 100000 < s.size
  · have hi : (100000 : Int) < s.size := by omega
    have E : Hid (frS s = ⟨#[]⟩) := Lib.hid (by unfold frS; rw [if_pos h])
    go_enter Try.func21, Try.ntmps21
    go_wp2_with fail
    go_ret
    exact ⟨by rw [E.out]; rfl, Below.refl _ _⟩
  · have hi : ¬ (100000 : Int) < s.size := by omega
    have E : Hid (frS s = bstr (be4 s.size ++ le4 (CR.sumN s.data.toList) ++ s.data.toList.map UInt8.toNat)) := Lib.hid (by unfold frS; rw [if_neg h])
    obtain ⟨i0, hii, hz0, hz1, hz2⟩ := info_parts u_info_u8
    have HZ := Lib.hid (sumN_lt' s.data.toList)
    have HBR := Lib.hid (be4_rev HZ.out)
    have HRL := Lib.hid (rev4_lt (CR.sumN s.data.toList))
    have HRV := Lib.hid (fun W => reverse32_any (CR.sumN s.data.toList) W HZ.out)
    have HA1 := Lib.hid (appendBig_any w.heap.size (.slice none 0 0) [] s.size w (by omega) (by simp) (Nat.le_refl _) (World.ownsRow_nil _ _ _ _))
    have HSC := Lib.hid (strCells_bytes s)
    generalize CR.sumN s.data.toList = Z at *
    go_enter Try.func21, Try.ntmps21
    go_wp2_with fail
    refine HA1.out.mono ?_
    rintro e w1 ⟨v1, rfl, ho1, hg1⟩
    have HB1 := Lib.hid ((Below.refl w.heap.size w).grown hg1 (Nat.le_refl _) (fun k hk => by cases hk))
    have HO1 := Lib.hid ho1
    clear ho1 hg1
    go_wp2_with fail
    refine (HCS.out _).mono ?_
    rintro e w2 ⟨rfl, hb2⟩
    have HB2 := Lib.hid (HB1.out.trans (hb2.mono HB1.out.size))
    have HO2 := Lib.hid (u_own_below HO1.out hb2)
    clear hb2 HO1 HB1
    go_wp2_with fail
    refine (HRV.out _).mono ?_
    rintro e w2 ⟨rfl, rfl⟩
    go_wp2_with fail
    refine (appendBig_any w.heap.size v1 ([] ++ be4 s.size) (rev4 Z) w2 HRL.out (by simp [be4]) HB2.out.size HO2.out).mono ?_
    rintro e w4 ⟨v4, rfl, ho4, hg4⟩
    have HB4 := Lib.hid (HB2.out.grown hg4 HB2.out.size (fun k hk => (HO2.out.lt k hk).1))
    have HO4 := Lib.hid ho4
    clear ho4 hg4 HO2 HB2
    have hz4 := HB4.out.size
    go_wp2_with (at_builtin; refine Go.Lib.wpList_append_own_string _ rfl _ _ 29 9 rfl w.heap.size 5 i0 Try.underlying29 Try.underlying9 hii hz0 hz1 hz2 v4 ([] ++ be4 s.size ++ be4 (rev4 Z)).length (byteCells ([] ++ be4 s.size ++ be4 (rev4 Z))) rfl HO4.out s rfl ?a4 ?a5 ?a6 ?_)
    case a4 => simp [be4, maxLen]; omega
    case a5 => simp [be4]; omega
    case a6 => exact hz4
    intro v5 w5 hown hg _
    have HB5 := Lib.hid (HB4.out.grown hg hz4 (fun k hk => (HO4.out.lt k hk).1))
    have hfin : w5.ownsRow w.heap.size 5 1 v5 ([] ++ be4 s.size ++ be4 (rev4 Z) ++ s.data.toList.map UInt8.toNat).length (byteCells ([] ++ be4 s.size ++ be4 (rev4 Z) ++ s.data.toList.map UInt8.toNat)) := by
      rw [byteCells_append, ← HSC.out, List.length_append, show (s.data.toList.map UInt8.toNat).length = s.size by simp]
      exact hown
    have hconv := conv_own hfin
    clear hown hg hfin
    go_wp2_with fail
    go_ret
    refine ⟨?_, HB5.out⟩
    rw [E.out, ← HBR.out]
    exact congrArg (fun z => Ending.returned (.string z)) (by simp [bstr])

set_option maxRecDepth 100000 in
set_option maxHeartbeats 2000000 in
theorem specFrameOf_any (s : ByteArray) (w : World) (hs : s.size ≤ maxLen) :
    Calls Try.prog 20 #[.string s] w fun e w' => e = .returned (.string (frS s)) ∧ Below w.heap.size w w' := by
  have HCS := Lib.hid (fun W => l15Sum_any s W hs)
  unfold maxLen at hs
  by_cases h : 100000 < s.size
  · have hi : (100000 : Int) < s.size := by omega
    have E : Hid (frS s = ⟨#[]⟩) := Lib.hid (by unfold frS; rw [if_pos h])
    go_enter Try.func20, Try.ntmps20
    go_wp2_with fail
    go_ret
    exact ⟨by rw [E.out]; rfl, Below.refl _ _⟩
  · have hi : ¬ (100000 : Int) < s.size := by omega
    have E : Hid (frS s = bstr (be4 s.size) ++ bstr (le4 (CR.sumN s.data.toList)) ++ s) := Lib.hid (by unfold frS; rw [if_neg h, ← bstr_append, ← bstr_append, bstr_self])
    generalize CR.sumN s.data.toList = Z at *
    obtain ⟨n, hn⟩ : ∃ n, s.size = n := ⟨_, rfl⟩
    have HE : byteCells (be4 n) = [.int .u8 (IntKind.u8.wrap ((n : Int) / 16777216)), .int .u8 (IntKind.u8.wrap ((n : Int) / 65536)), .int .u8 (IntKind.u8.wrap ((n : Int) / 256)), .int .u8 (IntKind.u8.wrap (n : Int))] := by
      simp only [byteCells, be4, List.map_cons, List.map_nil, k_wrap8]
      rw [show ((n / 16777216 % 256 : Nat) : Int) = (n : Int) / 16777216 % 256 by omega, show ((n / 65536 % 256 : Nat) : Int) = (n : Int) / 65536 % 256 by omega, show ((n / 256 % 256 : Nat) : Int) = (n : Int) / 256 % 256 by omega, show ((n % 256 : Nat) : Int) = (n : Int) % 256 by omega]
    have HM : Hid (∀ W : World, (W.alloc (.cells #[.int .u8 (IntKind.u8.wrap ((n : Int) / 16777216)), .int .u8 (IntKind.u8.wrap ((n : Int) / 65536)), .int .u8 (IntKind.u8.wrap ((n : Int) / 256)), .int .u8 (IntKind.u8.wrap (n : Int))] 5)).ownsRow W.heap.size 5 1 (.slice (some ⟨W.heap.size, 0, none⟩) 4 4) 4 (byteCells (be4 n))) := Lib.hid (fun W => by
      exact bytes_made' (be4 n) _ HE W (by simp [be4, maxLen]))
    have HCV : Hid (∀ (W : World) (base b : Nat), W.ownsRow base 5 1 (.slice (some ⟨b, 0, none⟩) 4 4) 4 (byteCells (be4 n)) → (convert 29 9 (.slice (some ⟨b, 0, none⟩) 4 4)).run Try.prog W = .ok (.string (bstr (be4 n))) W) := Lib.hid (fun W base b h9 => conv_own (l := be4 n) h9)
    rw [hn] at E
    have hn2 : n ≤ 100000 := by omega
    have hin : ¬ (100000 : Int) < (n : Int) := by omega
    have HN := Lib.hid hn
    have hz1 : (bstr (be4 n)).size = 4 := rfl
    have hz2 : (bstr (le4 Z)).size = 4 := rfl
    obtain ⟨B1, hB1⟩ : ∃ B1, bstr (be4 n) = B1 := ⟨_, rfl⟩
    obtain ⟨B2, hB2⟩ : ∃ B2, bstr (le4 Z) = B2 := ⟨_, rfl⟩
    rw [hB1] at E HCV hz1
    rw [hB2] at E HCS hz2
    have hs1 : ¬ 9223372036854775807 < B1.size + B2.size := by omega
    have hs2 : ¬ 9223372036854775807 < B1.size + B2.size + s.size := by omega
    have hs3 : ¬ 9223372036854775807 < (B1 ++ B2).size + s.size := by rw [ByteArray.size_append]; omega
    clear hz1 hz2
    clear hB1 hB2 HE
    have HMa := Lib.hid (show ((w.alloc (.cells #[.int .u8 (IntKind.u8.wrap ((n : Int) / 16777216)), .int .u8 (IntKind.u8.wrap ((n : Int) / 65536)), .int .u8 (IntKind.u8.wrap ((n : Int) / 256)), .int .u8 (IntKind.u8.wrap (n : Int))] 5)).drew).ownsRow w.heap.size 5 1 (.slice (some ⟨w.heap.size, 0, none⟩) 4 4) 4 (byteCells (be4 n)) from HM.out w)
    have HBa := Lib.hid (((Below.refl w.heap.size w).alloc (Nat.le_refl _) (.cells #[.int .u8 (IntKind.u8.wrap ((n : Int) / 16777216)), .int .u8 (IntKind.u8.wrap ((n : Int) / 65536)), .int .u8 (IntKind.u8.wrap ((n : Int) / 256)), .int .u8 (IntKind.u8.wrap (n : Int))] 5)).drew)
    have HBd := Lib.hid ((Below.refl w.heap.size w).drew)
    rw [← hn] at hin
    subst hn
    go_enter Try.func20, Try.ntmps20
    go_wp2_with fail
    have hcva := HCV.out _ _ _ HMa.out
    go_region_law (go_simp; go_at_call 52; refine (HCS.out _).mono ?_; rintro e w5 ⟨rfl, hb5⟩; first
          | (have HMb := Lib.hid (u_own_below HMa.out hb5); have HBX := Lib.hid (HBa.out.trans (hb5.mono HBa.out.size)); have hcvb := HCV.out _ _ _ HMb.out; clear hb5)
          | (have HBX := Lib.hid (HBd.out.trans (hb5.mono HBd.out.size)); have hcvc := HCV.out _ _ _ (HM.out w5); clear hb5))
    all_goals (
      try go_simp
      go_wp2_with fail
      go_ret
      exact ⟨by rw [E.out]; rfl, by first | exact HBX.out | exact HBX.out.alloc HBX.out.size _⟩)
end Go.Proofs.Ytbbchgklcknlbaa
