/- The walk of the law FnGet. -/
import Derived.Test.YtoajpbainmbhlaaRe
import Derived.Test.YtoajpbainmbhlaaLb
import Derived.Test.YtoajpbainmbhlaaZa
namespace Go.Proofs.Ytoajpbainmbhlaa
open Go.RowKit

theorem ofBits_split (f : Nat → Bool) (k m : Nat) : BM.ofBits f (k + m) = BM.ofBits f k * 2 ^ m + BM.ofBits (fun j => f (k + j)) m := by
  induction m with
  | zero => simp [BM.ofBits]
  | succ m ih =>
    rw [← Nat.add_assoc, BM.ofBits, ih, BM.ofBits, Nat.pow_succ, ← Nat.mul_assoc]
    generalize BM.ofBits f k * 2 ^ m = Z
    omega
theorem takeN_split (s : ByteArray) (a k m : Nat) : takeN s a (k + m) = takeN s a k * 2 ^ m + takeN s (a + k) m := by
  unfold takeN
  rw [ofBits_split]
  congr 1
  apply BM.ofBits_congr
  intro i _
  rw [Nat.add_assoc]
theorem takeN_lt (s : ByteArray) (a k : Nat) : takeN s a k < 2 ^ k := BM.ofBits_lt _ _

theorem get_num (X Y V : Nat) (h : V = X + Y) (hV : V < 4611686018427387904) : wrap64 (wrap64 (X : Int) + wrap64 (Y : Int)) = wrap64 (V : Int) := by
  subst h; unfold wrap64; omega
theorem get_small (X : Nat) (hX : X < 4611686018427387904) : wrap64 (X : Int) = (X : Int) := by unfold wrap64; omega
theorem get_w1 (a q : Nat) (h : a + q ≤ 30000) : wrap64 ((a : Int) + (q : Int)) = (a : Int) + (q : Int) := by unfold wrap64; omega
theorem get_w2 (k q : Nat) (h : k ≤ 100) (h2 : q ≤ k) : wrap64 ((k : Int) - (q : Int)) = (k : Int) - (q : Int) := by unfold wrap64; omega
theorem pow62 {n : Nat} (hn : n ≤ 62) : 2 ^ n ≤ 4611686018427387904 := Nat.le_trans (Nat.pow_le_pow_right (by omega) hn) (by decide)
theorem get_sum {s : ByteArray} {a n : Nat} (hn : n ≤ 62) (k : Nat) (hk : k ≤ n) :
    wrap64 (wrap64 (wrap64 (takeN s a k : Int) * 2 ^ (n - k)) + wrap64 (takeN s (a + k) (n - k) : Int)) = wrap64 (takeN s a n : Int) := by
  have h1 := takeN_split s a k (n - k)
  rw [show k + (n - k) = n by omega] at h1
  have h2 : takeN s a n < 4611686018427387904 := Nat.lt_of_lt_of_le (takeN_lt s a n) (pow62 hn)
  have h4 : takeN s a k < 4611686018427387904 := Nat.lt_of_lt_of_le (takeN_lt s a k) (pow62 (by omega))
  have e : ((takeN s a k : Int) * 2 ^ (n - k)) = ((takeN s a k * 2 ^ (n - k) : Nat) : Int) := by rw [Int.natCast_mul, Int.natCast_pow]; rfl
  rw [get_small _ h4, e]
  exact get_num _ _ _ h1 h2

set_option maxRecDepth 100000 in
set_option maxHeartbeats 1000000 in
theorem walkFnGet (A : Option Addr) (n c : Nat) (w : World) (h : n ≤ 1048576 → CodeAt w A n c) :
    Calls Try.prog 4 #[.slice A n c] w fun e w' => e = .returned (.bool true) ∧ Below w.heap.size w w' := by
  have hbig := fun W => big_any A n c W
  by_cases hn : n ≤ 1048576
  · have H := Lib.hid (h hn)
    have hd : decide (1048576 < (n : Int)) = false := by simp; omega
    rw [hd] at hbig
    have Hbig := Lib.hid hbig
    clear hbig hd h
    go_enter Try.func4, Try.ntmps4
    go_wp2_with fail
    refine (Hbig.out _).mono ?_
    rintro e w' ⟨rfl, rfl⟩
    go_wp2_with fail
    refine (DrawGetBits_any A n c _ H.out).mono ?_
    rintro e w1 ⟨s, N, a, k, rfl, hs, ⟨_, hN, hN0, hN1⟩, ⟨_, ha, ha0, ha1⟩, ⟨_, hk, hk0, hk1⟩, hb1⟩
    injection hN with _ hN
    injection ha with _ ha
    injection hk with _ hk
    subst hN ha hk
    have hs' : s.size ≤ maxLen := by unfold maxLen; omega
    obtain ⟨X, hX⟩ : ∃ X : Int, X = (if getB s N a k then wrap64 (takeN s a.toNat k.toNat : Int) else 0) := ⟨_, rfl⟩
    obtain ⟨B, hB⟩ : ∃ B : Bool, B = getB s N a k := ⟨_, rfl⟩
    have hsp : ∀ W, Calls Try.prog 25 #[.agg #[.string s, .int .i64 N], .int .i64 a, .int .i64 k] W (PairPost X B W) := fun W => by
      subst hX hB; exact specGetBits_any s N a k W hs'
    have him : ∀ W, Calls Try.prog 22 #[.agg #[.string s, .int .i64 N], .int .i64 a, .int .i64 k] W (PairPost X B W) := fun W => by
      subst hX hB; exact implGetBits_any s N a k W hs'
    have Hsp := Lib.hid hsp
    have Him := Lib.hid him
    have HX := Lib.hid hX
    have HB := Lib.hid hB
    have hz1 := hb1.size
    clear hsp him hX hB
    have hw2 : Below w1.heap.size w1 (w1.alloc (.cells #[.string s, .int .i64 N] 25)) := below1 w1 _
    have hsb : SB (w1.alloc (.cells #[.string s, .int .i64 N] 25)) w1.heap.size s N := SB.new w1 s N
    go_wp2_with fail
    generalize (w1.alloc (.cells #[.string s, .int .i64 N] 25)) = w2 at hw2 hsb ⊢
    refine (Him.out _).mono ?_
    rintro e w3 ⟨rfl, hb3⟩
    have hsb3 := hsb.below hb3
    have hg0 := hsb3.c0
    have hg1 := hsb3.c1
    go_wp2_with fail
    refine (Hsp.out _).mono ?_
    rintro e w4 ⟨rfl, hb4⟩
    have hsb4 := hsb3.below hb4
    have hf4 : Below w.heap.size w w4 := hb1.trans ((hw2.mono hz1).trans ((hb3.mono (Nat.le_trans hz1 hw2.size)).trans (hb4.mono (Nat.le_trans hz1 (Nat.le_trans hw2.size hb3.size)))))
    clear hg0 hg1
    have hg0 := hsb4.c0
    have hg1 := hsb4.c1
    clear hsb hsb3 hb3 hb4 hw2 hb1
    cases B with
    | false =>
      go_wp2_with fail
      go_ret
      exact ⟨rfl, hf4⟩
    | true =>
      have hgt := HB.out.symm
      by_cases h62 : 62 < k
      · have d1 : decide (62 < k) = true := by simpa using h62
        go_wp2_with fail
        go_ret
        exact ⟨rfl, hf4⟩
      · have d1 : decide (62 < k) = false := by simpa using h62
        have hgt' := hgt
        unfold getB at hgt'
        rw [Bool.and_eq_true] at hgt'
        have hbd := of_decide_eq_true hgt'.2
        obtain ⟨hN0', hN1', _, _⟩ := okB_facts hgt'.1
        obtain ⟨a', rfl⟩ : ∃ a' : Nat, a = (a' : Int) := ⟨a.toNat, by omega⟩
        obtain ⟨k', rfl⟩ : ∃ k' : Nat, k = (k' : Int) := ⟨k.toNat, by omega⟩
        obtain ⟨q, hq⟩ : ∃ q : Nat, q = k' / 2 := ⟨_, rfl⟩
        have hg3 : getB s N (a' : Int) (q : Int) = true := by unfold getB; rw [hgt'.1, Bool.true_and]; apply decide_eq_true; omega
        have hg4 : getB s N ((a' : Int) + (q : Int)) ((k' : Int) - (q : Int)) = true := by unfold getB; rw [hgt'.1, Bool.true_and]; apply decide_eq_true; omega
        have hc3 : ∀ W, Calls Try.prog 22 #[.agg #[.string s, .int .i64 N], .int .i64 (a' : Int), .int .i64 (q : Int)] W (PairPost (wrap64 (takeN s a' q : Int)) true W) := fun W => by
          have := implGetBits_any s N a' q W hs'; unfold GetPost at this; rw [hg3, if_pos rfl, Int.toNat_natCast, Int.toNat_natCast] at this; exact this
        have hc4 : ∀ W, Calls Try.prog 22 #[.agg #[.string s, .int .i64 N], .int .i64 ((a' : Int) + (q : Int)), .int .i64 ((k' : Int) - (q : Int))] W (PairPost (wrap64 (takeN s (a' + q) (k' - q) : Int)) true W) := fun W => by
          have := implGetBits_any s N ((a' : Int) + (q : Int)) ((k' : Int) - (q : Int)) W hs'; unfold GetPost at this
          rw [hg4, if_pos rfl, show ((a' : Int) + (q : Int)).toNat = a' + q by omega, show ((k' : Int) - (q : Int)).toNat = k' - q by omega] at this; exact this
        have hXX : X = wrap64 (takeN s a' k' : Int) := by
          have := HX.out; rw [hgt, if_pos rfl, Int.toNat_natCast, Int.toNat_natCast] at this; exact this
        have hsum := get_sum (s := s) (a := a') (n := k') (by omega) q (by omega)
        rw [← hXX] at hsum
        obtain ⟨Y, hY⟩ : ∃ Y, Y = wrap64 (takeN s a' q : Int) := ⟨_, rfl⟩
        obtain ⟨Z, hZ⟩ : ∃ Z, Z = wrap64 (takeN s (a' + q) (k' - q) : Int) := ⟨_, rfl⟩
        rw [← hY, ← hZ] at hsum
        rw [← hY] at hc3
        rw [← hZ] at hc4
        have Hc3 := Lib.hid hc3
        have Hc4 := Lib.hid hc4
        have Hsum := Lib.hid hsum
        have hm : a' + k' ≤ 20000 := by omega
        clear hc3 hc4 hsum hY hZ hXX hg3 hg4 hbd hgt' hgt
        go_wp2_with fail
        rw [show (k' : Int) / 2 = (q : Int) by omega]
        refine (Hc3.out _).mono ?_
        rintro e w5 ⟨rfl, hb5⟩
        have hsb5 := hsb4.below hb5
        clear hg0 hg1
        have hg0 := hsb5.c0
        have hg1 := hsb5.c1
        go_wp2_with fail
        rw [show (a' : Int) + (k' : Int) / 2 = (a' : Int) + (q : Int) by omega, show (k' : Int) - (k' : Int) / 2 = (k' : Int) - (q : Int) by omega]
        refine (Hc4.out _).mono ?_
        rintro e w6 ⟨rfl, hb6⟩
        have hf6 : Below w.heap.size w w6 := hf4.trans ((hb5.mono hf4.size).trans (hb6.mono (Nat.le_trans hf4.size hb5.size)))
        clear hg0 hg1 hb5 hb6 hf4
        go_wp2_with fail
        have hs2 : (wrap64 (wrap64 (Y * 2 ^ (k' - k' / 2)) + Z) == X) = true := by
          have := Hsum.out
          rw [hq] at this
          rw [beq_iff_eq]; exact this
        generalize (wrap64 (wrap64 (Y * 2 ^ (k' - k' / 2)) + Z) == X) = bb at hs2 ⊢
        subst hs2
        go_ret
        exact ⟨rfl, hf6⟩
  · have hd : decide (1048576 < (n : Int)) = true := by simp; omega
    rw [hd] at hbig
    have Hbig := Lib.hid hbig
    clear hbig hd h
    go_enter Try.func4, Try.ntmps4
    go_wp2_with fail
    refine (Hbig.out _).mono ?_
    rintro e w' ⟨rfl, rfl⟩
    go_wp2_with fail
    go_ret
    exact ⟨rfl, Below.refl _ _⟩
end Go.Proofs.Ytoajpbainmbhlaa
