/- Walks: Zig and Zag; the law FnZigzag. -/
import Derived.Test.YtoajpbainmbhlaaRc
import Derived.OpenShut
namespace Go.Proofs.Ytoajpbainmbhlaa
open Go.RowKit

theorem xor_zero (x : Int) (h0 : -9223372036854775808 ≤ x) (h1 : x ≤ 9223372036854775807) : bits .xor .i64 x 0 = x := by
  show IntKind.i64.wrap ((BitVec.ofInt 64 x ^^^ BitVec.ofInt 64 0).toNat : Int) = _
  rw [BitVec.toNat_xor, show (BitVec.ofInt 64 0).toNat = 0 from rfl, Nat.xor_zero, BitVec.toNat_ofInt, IntKind.wrap_i64]
  omega
theorem xor_ones (x : Int) (h0 : -9223372036854775808 ≤ x) (h1 : x ≤ 9223372036854775807) : bits .xor .i64 x (-1) = -x - 1 := by
  show IntKind.i64.wrap ((BitVec.ofInt 64 x ^^^ BitVec.ofInt 64 (-1)).toNat : Int) = _
  rw [show BitVec.ofInt 64 (-1) = BitVec.allOnes 64 from rfl, BitVec.xor_allOnes, BitVec.toNat_not, BitVec.toNat_ofInt, IntKind.wrap_i64]
  omega
theorem zand_one (x : Int) : bits .and .i64 x 1 = x % 2 := by
  show IntKind.i64.wrap ((BitVec.ofInt 64 x &&& BitVec.ofInt 64 1).toNat : Int) = _
  rw [BitVec.toNat_and, show (BitVec.ofInt 64 1).toNat = 1 from rfl, Nat.and_one_is_mod, BitVec.toNat_ofInt, IntKind.wrap_i64]
  have : (x % ((2 ^ 64 : Nat) : Int)).toNat % 2 = (x % 2).toNat := by omega
  omega

def zigF (n : Int) : Int := if 0 ≤ n then wrap64 (2 * n) else wrap64 (-2 * n - 1)
def zagF (m : Int) : Int := if m % 2 = 0 then (m % 18446744073709551616) / 2 else -((m % 18446744073709551616) / 2) - 1
theorem zig_val (n : Int) (h0 : -9223372036854775808 ≤ n) (h1 : n ≤ 9223372036854775807) : bits .xor .i64 (wrap64 (n * 2)) (n / 9223372036854775808) = zigF n := by
  unfold zigF
  have hb := wrap64_bd (n * 2)
  by_cases h : 0 ≤ n
  · rw [if_pos h, show n / 9223372036854775808 = 0 by omega, xor_zero _ hb.1 hb.2, Int.mul_comm]
  · rw [if_neg h, show n / 9223372036854775808 = -1 by omega, xor_ones _ hb.1 hb.2]
    unfold wrap64; omega
theorem zag_val (m : Int) : bits .xor .i64 (wrap64 (IntKind.u64.wrap m / 2)) (wrap64 (-(bits .and .i64 m 1))) = zagF m := by
  unfold zagF
  have hb := wrap64_bd (IntKind.u64.wrap m / 2)
  rw [zand_one]
  have e1 : wrap64 (IntKind.u64.wrap m / 2) = (m % 18446744073709551616) / 2 := by rw [IntKind.wrap_u64]; unfold wrap64; omega
  by_cases h : m % 2 = 0
  · rw [if_pos h, h, show wrap64 (-0) = 0 by unfold wrap64; omega, xor_zero _ hb.1 hb.2, e1]
  · have h1 : m % 2 = 1 := by omega
    rw [if_neg h, h1, show wrap64 (-1) = -1 by unfold wrap64; omega, xor_ones _ hb.1 hb.2, e1]
theorem zag_zig (n : Int) (h0 : -9223372036854775808 ≤ n) (h1 : n ≤ 9223372036854775807) : zagF (zigF n) = n := by
  unfold zagF zigF wrap64; split <;> split <;> omega
theorem zig_zag (m : Int) (h0 : -9223372036854775808 ≤ m) (h1 : m ≤ 9223372036854775807) : zigF (zagF m) = m := by
  unfold zagF zigF wrap64; split <;> split <;> omega
theorem zag_bd (m : Int) : -9223372036854775808 ≤ zagF m ∧ zagF m ≤ 9223372036854775807 := by unfold zagF; split <;> omega
theorem zig_bd (m : Int) : -9223372036854775808 ≤ zigF m ∧ zigF m ≤ 9223372036854775807 := by unfold zigF; split <;> exact wrap64_bd _

set_option maxHeartbeats 400000 in
theorem implZig_any (n : Int) (w : World) (h0 : -9223372036854775808 ≤ n) (h1 : n ≤ 9223372036854775807) :
    Calls Try.prog 33 #[.int .i64 n] w fun e w' => e = .returned (.int .i64 (zigF n)) ∧ w = w' := by
  have H := Lib.hid (zig_val n h0 h1)
  go_enter Try.func33, Try.ntmps33
  go_wp2
  go_ret
  exact ⟨ret_int H.out, rfl⟩
set_option maxHeartbeats 400000 in
theorem specZig_any (n : Int) (w : World) (h0 : -9223372036854775808 ≤ n) (h1 : n ≤ 9223372036854775807) :
    Calls Try.prog 34 #[.int .i64 n] w fun e w' => e = .returned (.int .i64 (zigF n)) ∧ w = w' := by
  have H := Lib.hid (zig_val n h0 h1)
  go_enter Try.func34, Try.ntmps34
  go_wp2
  go_ret
  exact ⟨ret_int H.out, rfl⟩
set_option maxHeartbeats 400000 in
theorem implZag_any (n : Int) (w : World) :
    Calls Try.prog 35 #[.int .i64 n] w fun e w' => e = .returned (.int .i64 (zagF n)) ∧ w = w' := by
  have H := Lib.hid (zag_val n)
  go_enter Try.func35, Try.ntmps35
  go_wp2
  go_ret
  exact ⟨ret_int H.out, rfl⟩
set_option maxHeartbeats 400000 in
theorem specZag_any (n : Int) (w : World) :
    Calls Try.prog 36 #[.int .i64 n] w fun e w' => e = .returned (.int .i64 (zagF n)) ∧ w = w' := by
  have H := Lib.hid (zag_val n)
  go_enter Try.func36, Try.ntmps36
  go_wp2
  go_ret
  exact ⟨ret_int H.out, rfl⟩

set_option maxHeartbeats 1000000 in
theorem DrawZag_any (A : Option Addr) (n c : Nat) (w : World) (h : CodeAt w A n c) :
    Calls Try.prog 32 #[.slice A n c] w fun e w' => (∃ v, e = .returned v ∧ IsI64 v) ∧ Below w.heap.size w w' := by
  have H := Lib.hid h
  clear h
  go_enter Try.func32, Try.ntmps32
  go_wp2_with fail
  refine (DrawZig_any A n c _ H.out).mono ?_
  rintro e w1 ⟨⟨v, rfl, z, rfl, hz0, hz1⟩, hb1⟩
  go_wp2_with fail
  go_ret
  exact ⟨⟨_, rfl, ⟨z, rfl, hz0, hz1⟩⟩, hb1⟩

set_option maxHeartbeats 400000 in
theorem big_any (A : Option Addr) (n c : Nat) (w : World) :
    Calls Try.prog 15 #[.slice A n c] w fun e w' => e = .returned (.bool (decide (1048576 < (n : Int)))) ∧ w = w' := by
  go_enter Try.func15, Try.ntmps15
  go_wp2
  go_ret
  exact ⟨rfl, rfl⟩

theorem codeAt_of (x : Addr) (n c : Nat) (zs : List Int) (w : World) (hn : n ≤ 1048576) (hl : n ≤ c) (hz : zs.length = c)
    (hcell : ∀ i, i < zs.length → w.cell? (x.add i) = some (.int .u8 (zs.getD i 0))) (hwz : ∀ k ∈ zs, (Lit.int .u8 k).wf = true) : CodeAt w (some x) n c := by
  refine ⟨hn, hl, ?_⟩
  by_cases h0 : n = 0
  · exact .inl h0
  · right
    obtain ⟨b, off, spot⟩ := x
    have hc := hcell 0 (by omega)
    have hspot : spot = none := by simpa [Addr.add] using World.cell?_spot hc
    subst hspot
    refine ⟨b, off, rfl, ?_, fun j hj => ?_⟩
    · have h1 : w.cell? ⟨b, off, none⟩ = some (.int .u8 (zs.getD 0 0)) := by simpa [Addr.add] using hc
      exact World.block_lt_of_cell? w _ h1
    · have hj' : j < zs.length := by omega
      have h2 := hcell j hj'
      have hadd : (⟨b, off, none⟩ : Addr).add j = ⟨b, off + j, none⟩ := by unfold Addr.add; split <;> simp_all
      rw [hadd] at h2
      have hm : zs.getD j 0 ∈ zs := by
        rw [List.getD_eq_getElem?_getD, List.getElem?_eq_getElem hj']; exact List.getElem_mem hj'
      have hb := bounds_u8 (hwz _ hm)
      refine ⟨(zs.getD j 0).toNat, by omega, ?_⟩
      rw [h2, show (((zs.getD j 0).toNat : Nat) : Int) = zs.getD j 0 by omega]

set_option maxRecDepth 100000 in
set_option maxHeartbeats 1000000 in
theorem walkFnZigzag (A : Option Addr) (n c : Nat) (w : World) (h : n ≤ 1048576 → CodeAt w A n c) :
    Calls Try.prog 6 #[.slice A n c] w fun e w' => e = .returned (.bool true) ∧ Below w.heap.size w w' := by
  have hbig := fun W => big_any A n c W
  by_cases hn : n ≤ 1048576
  · have H := Lib.hid (h hn)
    have hd : decide (1048576 < (n : Int)) = false := by simp; omega
    rw [hd] at hbig
    have Hbig := Lib.hid hbig
    clear hbig hd h
    go_enter Try.func6, Try.ntmps6
    go_wp2_with fail
    refine (Hbig.out _).mono ?_
    rintro e w' ⟨rfl, rfl⟩
    go_wp2_with fail
    refine (DrawZig_any A n c _ H.out).mono ?_
    rintro e w1 ⟨⟨v, rfl, x, rfl, hx0, hx1⟩, hb1⟩
    have H1 := Lib.hid (H.out.below hb1)
    go_wp2_with fail
    refine (DrawZag_any A n c _ H1.out).mono ?_
    rintro e w2 ⟨⟨v, rfl, y, rfl, hy0, hy1⟩, hb2⟩
    have hf := hb1.trans (hb2.mono hb1.size)
    clear hb1 hb2
    obtain ⟨z, hz⟩ : ∃ z, zigF x = z := ⟨_, rfl⟩
    obtain ⟨u, hu⟩ : ∃ u, zagF y = u := ⟨_, rfl⟩
    have hc1 : ∀ W, Calls Try.prog 33 #[.int .i64 x] W fun e w' => e = .returned (.int .i64 z) ∧ W = w' := fun W => hz ▸ implZig_any x W hx0 hx1
    have hc2 : ∀ W, Calls Try.prog 34 #[.int .i64 x] W fun e w' => e = .returned (.int .i64 z) ∧ W = w' := fun W => hz ▸ specZig_any x W hx0 hx1
    have hc3 : ∀ W, Calls Try.prog 35 #[.int .i64 y] W fun e w' => e = .returned (.int .i64 u) ∧ W = w' := fun W => hu ▸ implZag_any y W
    have hc4 : ∀ W, Calls Try.prog 36 #[.int .i64 y] W fun e w' => e = .returned (.int .i64 u) ∧ W = w' := fun W => hu ▸ specZag_any y W
    have hc5 : ∀ W, Calls Try.prog 35 #[.int .i64 z] W fun e w' => e = .returned (.int .i64 x) ∧ W = w' := fun W => by
      have := implZag_any z W; rw [← hz, zag_zig x hx0 hx1] at this; rw [← hz]; exact this
    have hc6 : ∀ W, Calls Try.prog 33 #[.int .i64 u] W fun e w' => e = .returned (.int .i64 y) ∧ W = w' := fun W => by
      have hbu := zag_bd y
      rw [hu] at hbu
      have := implZig_any u W hbu.1 hbu.2; rw [← hu, zig_zag y hy0 hy1] at this; rw [← hu]; exact this
    have hzb : z = if 0 ≤ x then wrap64 (2 * x) else wrap64 (-2 * x - 1) := by rw [← hz]; rfl
    have Hzb := Lib.hid hzb
    have Hc1 := Lib.hid hc1
    have Hc2 := Lib.hid hc2
    have Hc3 := Lib.hid hc3
    have Hc4 := Lib.hid hc4
    have Hc5 := Lib.hid hc5
    have Hc6 := Lib.hid hc6
    clear hc1 hc2 hc3 hc4 hc5 hc6 hz hu hzb
    go_wp2_with fail
    refine (Hc1.out _).mono ?_
    rintro e w' ⟨rfl, rfl⟩
    go_wp2_with fail
    refine (Hc2.out _).mono ?_
    rintro e w' ⟨rfl, rfl⟩
    go_wp2_with fail
    refine (Hc3.out _).mono ?_
    rintro e w' ⟨rfl, rfl⟩
    go_wp2_with fail
    refine (Hc4.out _).mono ?_
    rintro e w' ⟨rfl, rfl⟩
    go_wp2_with fail
    refine (Hc5.out _).mono ?_
    rintro e w' ⟨rfl, rfl⟩
    go_wp2_with fail
    refine (Hc3.out _).mono ?_
    rintro e w' ⟨rfl, rfl⟩
    go_wp2_with fail
    refine (Hc6.out _).mono ?_
    rintro e w' ⟨rfl, rfl⟩
    by_cases h1 : x < -1000000
    · have d1 : decide (x < -1000000) = true := by simpa using h1
      go_wp2_with fail
      go_ret
      exact ⟨rfl, hf⟩
    · have d1 : decide (x < -1000000) = false := by simpa using h1
      by_cases h2 : 1000000 < x
      · have d2 : decide (1000000 < x) = true := by simpa using h2
        go_wp2_with fail
        go_ret
        exact ⟨rfl, hf⟩
      · have d2 : decide (1000000 < x) = false := by simpa using h2
        have hzz := Hzb.out
        by_cases h3 : 0 ≤ x
        · have d3 : (z == 2 * x) = true := by rw [if_pos h3] at hzz; rw [beq_iff_eq, hzz]; unfold wrap64; omega
          clear hzz
          go_wp2_with fail
          go_ret
          exact ⟨rfl, hf⟩
        · have d3 : (z == -2 * x - 1) = true := by rw [if_neg h3] at hzz; rw [beq_iff_eq, hzz]; unfold wrap64; omega
          have d4 : decide (0 ≤ x) = false := by simpa using h3
          clear hzz
          go_wp2_with fail
          go_ret
          exact ⟨rfl, hf⟩
  · have hd : decide (1048576 < (n : Int)) = true := by simp; omega
    rw [hd] at hbig
    have Hbig := Lib.hid hbig
    clear hbig hd h
    go_enter Try.func6, Try.ntmps6
    go_wp2_with fail
    refine (Hbig.out _).mono ?_
    rintro e w' ⟨rfl, rfl⟩
    go_wp2_with fail
    go_ret
    exact ⟨rfl, Below.refl _ _⟩
end Go.Proofs.Ytoajpbainmbhlaa
