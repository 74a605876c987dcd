/- The walk of the law FnLead. -/
import Derived.Test.YtpnfkmhhilnglabDoorVu
import Derived.Test.YtpnfkmhhilnglabDoorUb
namespace Go.Proofs.YtpnfkmhhilnglabDoor
open Go.RowKit

theorem Tab.below {w w' : World} (h : Tab w) (hb : Below w.heap.size w w') : Tab w' := fun j hj => by
  have h0 := h j hj
  exact (hb.cell (p := ⟨0, j, none⟩) (World.block_lt_of_cell? w _ h0)).trans h0

theorem u64n_pos {n : Int} (h0 : 0 ≤ n) (h1 : n ≤ 9223372036854775807) : u64n n = n.toNat := by unfold u64n; omega
theorem bitLen_zero : Lib.bitLen 0 = 0 := rfl
theorem bitLen_pos {u : Nat} (h0 : u ≠ 0) (h : u < 2 ^ 64) : ∃ m, m < 64 ∧ 2 ^ m ≤ u ∧ u < 2 ^ (m + 1) ∧ Lib.bitLen u = m + 1 := by
  have h1 := Nat.log2_self_le h0
  have h2 := Nat.lt_log2_self (n := u)
  have hm : u.log2 < 64 := (Nat.log2_lt h0).2 h
  exact ⟨u.log2, hm, h1, h2, bitLen_of h1 h2 hm⟩
theorem leadN_bd (n : Int) : 0 ≤ leadN n ∧ leadN n ≤ 64 := by
  unfold leadN
  by_cases h : u64n n = 0
  · rw [h, bitLen_zero]; omega
  · obtain ⟨m, hm, _, _, e⟩ := bitLen_pos h (u64n_lt n)
    rw [e]; omega
theorem leadN_half {n : Int} (h : 1 < n) (h1 : n ≤ 9223372036854775807) : leadN (n / 2) = leadN n + 1 := by
  unfold leadN
  rw [u64n_pos (by omega) h1, u64n_pos (by omega) (by omega), Lib.bitLen_half n.toNat (by omega) (by omega), show (n / 2).toNat = n.toNat / 2 by omega]
  omega
theorem leadN_64 {n : Int} (h0 : -9223372036854775808 ≤ n) (h1 : n ≤ 9223372036854775807) : leadN n = 64 ↔ n = 0 := by
  unfold leadN
  constructor
  · intro h
    by_cases hu : u64n n = 0
    · unfold u64n at hu; omega
    · obtain ⟨m, hm, _, _, e⟩ := bitLen_pos hu (u64n_lt n)
      rw [e] at h; omega
  · intro h
    subst h; rfl
theorem leadN_0 {n : Int} (h0 : -9223372036854775808 ≤ n) (h1 : n ≤ 9223372036854775807) : leadN n = 0 ↔ n < 0 := by
  unfold leadN
  by_cases hu : u64n n = 0
  · rw [hu, bitLen_zero]
    unfold u64n at hu; omega
  · obtain ⟨m, hm, ha, hb, e⟩ := bitLen_pos hu (u64n_lt n)
    rw [e]
    constructor
    · intro h
      have : m = 63 := by omega
      subst this
      unfold u64n at ha; omega
    · intro h
      have h63 : 2 ^ 63 ≤ u64n n := by unfold u64n; omega
      have : ¬ m + 1 ≤ 63 := fun hle => by
        have := Nat.pow_le_pow_right (show 0 < 2 by decide) hle
        omega
      omega
theorem ctz_bd (u : Nat) (h : u < 2 ^ 64) : (u = 0 ∧ Lib.ctz 64 u = 64) ∨ (u ≠ 0 ∧ Lib.ctz 64 u < 64 ∧ u.testBit (Lib.ctz 64 u) = true ∧ ∀ j, j < Lib.ctz 64 u → u.testBit j = false) := by
  by_cases h0 : u = 0
  · left; subst h0; exact ⟨rfl, rfl⟩
  · right
    obtain ⟨m, hm, hlt⟩ := Lib.ctzFrom_spec 64 u (by omega) h
    have e : Lib.ctz 64 u = Lib.ctzFrom 64 u := by unfold Lib.ctz; rw [if_neg h0]
    rw [e]
    have hb : ∀ i, u.testBit i = (decide (Lib.ctzFrom 64 u ≤ i) && (2 * m + 1).testBit (i - Lib.ctzFrom 64 u)) := fun i => by
      conv => lhs; rw [hm]
      rw [Nat.testBit_two_pow_mul]
    refine ⟨h0, hlt, by rw [hb]; simp, fun j hj => ?_⟩
    rw [hb, decide_eq_false (by omega)]; rfl
theorem trailN_bd (n : Int) : 0 ≤ trailN n ∧ trailN n ≤ 64 := by
  unfold trailN
  rcases ctz_bd (u64n n) (u64n_lt n) with ⟨_, e⟩ | ⟨_, h, _⟩
  · rw [e]; omega
  · omega
theorem trailN_double {m : Int} (h : 0 < m) (h1 : m < 1152921504606846976) : trailN (2 * m) = trailN m + 1 := by
  unfold trailN
  rw [u64n_pos (by omega) (by omega), u64n_pos (by omega) (by omega), show (2 * m).toNat = 2 * m.toNat by omega]
  rcases ctz_bd m.toNat (by omega) with ⟨h0, _⟩ | ⟨_, hlt, hb, hz⟩
  · omega
  · have hlt2 : 2 * m.toNat < 2 ^ 64 := by omega
    have hbit : ∀ j, (2 * m.toNat).testBit (j + 1) = m.toNat.testBit j := fun j => by rw [Nat.testBit_succ]; congr 1; omega
    rw [ctz_of (k := Lib.ctz 64 m.toNat + 1) hlt2 (fun j hj => by
      cases j with
      | zero => simp
      | succ j => rw [hbit]; exact hz j (by omega)) (by rw [hbit]; exact hb)]
    omega
theorem trailN_64 {n : Int} (h0 : -9223372036854775808 ≤ n) (h1 : n ≤ 9223372036854775807) : trailN n = 64 ↔ n = 0 := by
  unfold trailN
  rcases ctz_bd (u64n n) (u64n_lt n) with ⟨hu, e⟩ | ⟨hu, h, _⟩
  · rw [e]; unfold u64n at hu; omega
  · have : n ≠ 0 := fun e => hu (by subst e; rfl)
    omega
theorem trailN_0 {n : Int} : trailN n = 0 ↔ ¬ n.tmod 2 = 0 := by
  have hpar : (u64n n).testBit 0 = true ↔ ¬ n.tmod 2 = 0 := by
    rw [Nat.testBit_zero]
    have hu : u64n n % 2 = (n % 2).toNat := by unfold u64n; omega
    have ht : n.tmod 2 = 0 ↔ n % 2 = 0 := by
      constructor
      · intro h; exact Int.emod_eq_zero_of_dvd (Int.dvd_of_tmod_eq_zero h)
      · intro h; exact Int.tmod_eq_zero_of_dvd (Int.dvd_of_emod_eq_zero h)
    rw [ht, hu]
    simp; omega
  unfold trailN
  rcases ctz_bd (u64n n) (u64n_lt n) with ⟨hu, e⟩ | ⟨hu, h, hb, hz⟩
  · rw [e, ← hpar, hu]; simp
  · rw [← hpar]
    constructor
    · intro h; have h0 : Lib.ctz 64 (u64n n) = 0 := by omega
      rw [h0] at hb; exact hb
    · intro h
      have : ¬ 0 < Lib.ctz 64 (u64n n) := fun hp => by rw [hz 0 hp] at h; cases h
      omega

theorem trailN_0' {n : Int} : trailN n = 0 ↔ ¬ n % 2 = 0 := by
  rw [trailN_0]
  have ht : n.tmod 2 = 0 ↔ n % 2 = 0 := by
    constructor
    · intro h; exact Int.emod_eq_zero_of_dvd (Int.dvd_of_tmod_eq_zero h)
    · intro h; exact Int.tmod_eq_zero_of_dvd (Int.dvd_of_emod_eq_zero h)
  rw [ht]

set_option maxHeartbeats 1000000 in
theorem DrawLead_any (A : Option Addr) (n c : Nat) (w : World) (h : CodeAt w A n c) :
    Calls Tryd.prog 9 #[.slice A n c] w fun e w' => (∃ v, e = .returned v ∧ IsI64 v) ∧ Below w.heap.size w w' := by
  have H := Lib.hid h
  clear h
  go_enter Tryd.func9, Tryd.ntmps9
  go_wp2_with fail
  refine (DrawZig_any A n c _ H.out).mono ?_
  rintro e w1 ⟨⟨v, rfl, z, rfl, hz0, hz1⟩, hb1⟩
  go_wp2_with fail
  go_ret
  exact ⟨⟨_, rfl, ⟨z, rfl, hz0, hz1⟩⟩, hb1⟩
set_option maxHeartbeats 1000000 in
theorem DrawTrail_any (A : Option Addr) (n c : Nat) (w : World) (h : CodeAt w A n c) :
    Calls Tryd.prog 10 #[.slice A n c] w fun e w' => (∃ v, e = .returned v ∧ IsI64 v) ∧ Below w.heap.size w w' := by
  have H := Lib.hid h
  clear h
  go_enter Tryd.func10, Tryd.ntmps10
  go_wp2_with fail
  refine (DrawZig_any A n c _ H.out).mono ?_
  rintro e w1 ⟨⟨v, rfl, z, rfl, hz0, hz1⟩, hb1⟩
  go_wp2_with fail
  go_ret
  exact ⟨⟨_, rfl, ⟨z, rfl, hz0, hz1⟩⟩, hb1⟩

set_option maxRecDepth 100000 in
set_option maxHeartbeats 4000000 in
theorem walkFnLead (A : Option Addr) (n c : Nat) (w : World) (h : n ≤ 1048576 → CodeAt w A n c) (hT : Tab w) :
    Calls Tryd.prog 3 #[.slice A n c] w fun e w' => e = .returned (.bool true) ∧ Below w.heap.size w w' := by
  have hbig := fun W => big_any A n c W
  by_cases hn : n ≤ 1048576
  · have H := Lib.hid (h hn)
    have HT := Lib.hid hT
    have hd : decide (1048576 < (n : Int)) = false := by simp; omega
    rw [hd] at hbig
    have Hbig := Lib.hid hbig
    clear hbig hd h hT
    go_enter Tryd.func3, Tryd.ntmps3
    go_wp2_with fail
    refine (Hbig.out _).mono ?_
    rintro e w' ⟨rfl, rfl⟩
    go_wp2_with fail
    refine (DrawLead_any A n c _ H.out).mono ?_
    rintro e w1 ⟨⟨v, rfl, x, rfl, hx0, hx1⟩, hb1⟩
    have H1 := Lib.hid (H.out.below hb1)
    have T1 := Lib.hid (HT.out.below hb1)
    have B1 := Lib.hid hb1
    clear hb1 H HT
    go_wp2_with fail
    refine (DrawTrail_any A n c _ H1.out).mono ?_
    rintro e w2 ⟨⟨v, rfl, y, rfl, hy0, hy1⟩, hb2⟩
    have T2 := Lib.hid (T1.out.below hb2)
    have B2 := Lib.hid (B1.out.trans (hb2.mono B1.out.size))
    clear hb2 H1 T1 B1
    have hc1 := Lib.hid (fun W => implLead_any x W)
    have hc2 := Lib.hid (fun W h => implTrail_any y W h)
    have hc3 := Lib.hid (fun W => specLead_any x W hx0 hx1)
    have hc4 := Lib.hid (fun W => specTrail_any y W hy0 hy1)
    have hLb := leadN_bd x
    have hTb := trailN_bd y
    have q1 : ((leadN x == 64) == (x == 0)) = true := by have := leadN_64 hx0 hx1; rw [beq_iff_eq, Bool.eq_iff_iff]; simpa using this
    have q2 : ((leadN x == 0) == decide (x < 0)) = true := by have := leadN_0 hx0 hx1; rw [beq_iff_eq, Bool.eq_iff_iff]; simpa using this
    have q3 : ((trailN y == 64) == (y == 0)) = true := by have := trailN_64 hy0 hy1; rw [beq_iff_eq, Bool.eq_iff_iff]; simpa using this
    have q4 : ((trailN y == 0) == (y.tmod 2 != 0)) = true := by have := trailN_0 (n := y); rw [beq_iff_eq, Bool.eq_iff_iff]; simpa using this
    have q5 : ((trailN y == 0) == (y % 2 != 0)) = true := by have := trailN_0' (n := y); rw [beq_iff_eq, Bool.eq_iff_iff]; simpa using this
    have hh := Lib.hid (fun hlt => leadN_half (n := x) hlt hx1)
    have hdd := Lib.hid (fun ha hb => trailN_double (m := y) ha hb)
    have hc5 := Lib.hid (fun W => implLead_any (x / 2) W)
    have hc6 := Lib.hid (fun W h => implTrail_any (2 * y) W h)
    generalize leadN x = L at *
    generalize trailN y = R at *
    go_wp2_with fail
    refine (hc1.out _).mono ?_
    rintro e w' ⟨rfl, rfl⟩
    go_wp2_with fail
    refine (hc2.out _ T2.out).mono ?_
    rintro e w' ⟨rfl, rfl⟩
    go_wp2_with fail
    refine (hc3.out _).mono ?_
    rintro e w' ⟨rfl, rfl⟩
    go_wp2_with fail
    refine (hc4.out _).mono ?_
    rintro e w' ⟨rfl, rfl⟩
    by_cases h1 : 1 < x
    · simp only [hh.out h1] at hc5
      by_cases h2 : 0 < y
      · by_cases h3 : y < 1152921504606846976
        · simp only [hdd.out h2 h3] at hc6
          go_wp2_with fail
          refine (hc5.out _).mono ?_
          rintro e w' ⟨rfl, rfl⟩
          go_wp2_with fail
          refine (hc6.out _ T2.out).mono ?_
          rintro e w' ⟨rfl, rfl⟩
          go_wp2_with fail
          go_ret
          exact ⟨rfl, B2.out⟩
        · have hd3 : decide (y < 1152921504606846976) = false := by simpa using h3
          go_wp2_with fail
          refine (hc5.out _).mono ?_
          rintro e w' ⟨rfl, rfl⟩
          go_wp2_with fail
          go_ret
          exact ⟨rfl, B2.out⟩
      · have hd2 : decide (0 < y) = false := by simpa using h2
        go_wp2_with fail
        refine (hc5.out _).mono ?_
        rintro e w' ⟨rfl, rfl⟩
        go_wp2_with fail
        go_ret
        exact ⟨rfl, B2.out⟩
    · have hd1 : decide (1 < x) = false := by simpa using h1
      by_cases h2 : 0 < y
      · by_cases h3 : y < 1152921504606846976
        · simp only [hdd.out h2 h3] at hc6
          go_wp2_with fail
          refine (hc6.out _ T2.out).mono ?_
          rintro e w' ⟨rfl, rfl⟩
          go_wp2_with fail
          go_ret
          exact ⟨rfl, B2.out⟩
        · have hd3 : decide (y < 1152921504606846976) = false := by simpa using h3
          go_wp2_with fail
          go_ret
          exact ⟨rfl, B2.out⟩
      · have hd2 : decide (0 < y) = false := by simpa using h2
        go_wp2_with fail
        go_ret
        exact ⟨rfl, B2.out⟩
  · have hd : decide (1048576 < (n : Int)) = true := by simp; omega
    rw [hd] at hbig
    have Hbig := Lib.hid hbig
    clear hbig hd h
    go_enter Tryd.func3, Tryd.ntmps3
    go_wp2_with fail
    refine (Hbig.out _).mono ?_
    rintro e w' ⟨rfl, rfl⟩
    go_wp2_with fail
    go_ret
    exact ⟨rfl, Below.refl _ _⟩
end Go.Proofs.YtpnfkmhhilnglabDoor
