/- The walk of the law FnShifted. -/
import Derived.Test.YtpnfkmhhilnglaaDd
import Derived.Test.YtpnfkmhhilnglaaUb
import Derived.Test.YtpnfkmhhilnglaaRe
set_option linter.unusedVariables false
set_option linter.unusedSimpArgs false
namespace Go.Proofs.Ytpnfkmhhilnglaa
open Go.RowKit

theorem tbL_le (xs : List Int) : (tbL xs).length ≤ 5520 := by
  unfold tbL
  split
  · rename_i h
    have hl : xs.length ≤ 120 := by unfold timesOkB at h; rw [Bool.and_eq_true, decide_eq_true_iff] at h; exact h.1
    have := timesTo_le xs xs.length
    unfold timesL; omega
  · simp

def later (n : Nat) (x : Int) : Int := wrap64 (x + (n : Int) % 1000)
theorem later_in (n : Nat) {x : Int} (h0 : 0 ≤ x) (h1 : x ≤ 1000000000000) : later n x = x + (n : Int) % 1000 := by
  unfold later wrap64; omega
theorem later_rng (n : Nat) (x : Int) : Rng (later n x) := by unfold later Rng wrap64; omega
theorem later_get (n : Nat) (xs : List Int) (j : Nat) (hj : j < xs.length) : (xs.map (later n)).getD j 0 = later n (xs.getD j 0) := by
  simp [List.getD_eq_getElem?_getD, hj]
theorem later_all (n : Nat) (xs : List Int) (j : Nat) : Rng ((xs.map (later n)).getD j 0) := by
  by_cases hj : j < xs.length
  · rw [later_get n xs j hj]; exact later_rng n _
  · rw [List.getD_eq_getElem?_getD, List.getElem?_eq_none (by simp; omega)]; exact rng_zero
theorem later_step {n : Nat} {xs : List Int} (h : goodTo xs xs.length = true) {k : Nat} (hk : k < xs.length) : stepAt (xs.map (later n)) k = stepAt xs k := by
  unfold stepAt
  split
  · rfl
  · have h1 := goodAt_in (goodTo_at h hk)
    have h2 := goodAt_in (goodTo_at h (show k - 1 < xs.length by omega))
    rw [later_get n xs k hk, later_get n xs (k - 1) (by omega), later_in n h1.1 h1.2.1, later_in n h2.1 h2.2.1]
    omega
theorem later_len {n : Nat} {xs : List Int} (h : goodTo xs xs.length = true) (k : Nat) (hk : k ≤ xs.length) : (timesTo (xs.map (later n)) k).length = (timesTo xs k).length := by
  induction k with
  | zero => rfl
  | succ k ih =>
    rw [timesTo, timesTo, List.length_append, List.length_append, ih (by omega)]
    congr 1
    unfold timesPart
    split
    · rw [BM.digits_length, BM.digits_length]
    · rw [later_step h (show k < xs.length by omega), later_step h (show k - 1 < xs.length by omega)]
theorem shifted {n : Nat} {xs : List Int} (h1 : timesOkB xs = true) (h2 : timesOkB (xs.map (later n)) = true) : (tbL (xs.map (later n))).length = (tbL xs).length := by
  have hg : goodTo xs xs.length = true := by unfold timesOkB at h1; rw [Bool.and_eq_true] at h1; exact h1.2
  unfold tbL
  rw [if_pos h1, if_pos h2]
  unfold timesL
  rw [List.length_map]
  exact later_len hg _ (Nat.le_refl _)
theorem ints_take (l : List Int) (k : Nat) (hk : k < l.length) : ints (l.take (k + 1)) = ints (l.take k) ++ [.int .i64 (l.getD k 0)] := by
  rw [List.take_succ_eq_append_getElem hk, ints_append]
  simp [ints, List.getD_eq_getElem?_getD, hk]
set_option maxRecDepth 100000 in
set_option maxHeartbeats 4000000 in
theorem walkFnShifted (A : Option Addr) (n c : Nat) (w : World) (h : n ≤ 1048576 → CodeAt w A n c) :
    Calls Try.prog 8 #[.slice A n c] w fun e w' => e = .returned (.bool true) ∧ Below w.heap.size w w' := by
  have hbig := fun W => big_any A n c W
  by_cases hn : n ≤ 1048576
  · have H := Lib.hid (h hn)
    have hd : decide (1048576 < (n : Int)) = false := by simp; omega
    rw [hd] at hbig
    have Hbig := Lib.hid hbig
    obtain ⟨i0, hi, hz0, hz1, hz2⟩ := info_parts info_i64
    clear hbig hd h
    go_enter Try.func8, Try.ntmps8
    go_wp2_with fail
    refine (Hbig.out _).mono ?_
    rintro e w' ⟨rfl, rfl⟩
    go_wp2_with fail
    refine (DrawTimesBits_any A n c _ H.out).mono ?_
    rintro e w1 ⟨v, xs, rfl, hown, hxl, hxr, hb1⟩
    have I1 := Lib.hid (IL.of_own hown rfl (rng_of hxr) (by omega))
    have B1 := Lib.hid hb1
    clear hown hxr hb1 H
    obtain ⟨A1, c1, rfl⟩ : ∃ A1 c1, v = .slice A1 xs.length c1 := by obtain ⟨_, _, A1, c1, rfl, _⟩ := I1.out; exact ⟨A1, c1, rfl⟩
    have him := Lib.hid (fun v W h => implTimesBits_any v xs W h)
    have hsp := Lib.hid (fun v W h => specTimesBits_any v xs W h)
    have hlb : (tbL xs).length ≤ 5520 := tbL_le xs
    generalize hN : ((tbL xs).length : Int) = N at *
    generalize hT : timesOkB xs = T at *
    have HN := Lib.hid hN
    have HT := Lib.hid hT
    clear hN hT
    go_wp2_with fail
    refine (him.out _ _ I1.out).mono ?_
    rintro e w2 ⟨rfl, hb2⟩
    have ha : Below w2.heap.size w2 (w2.alloc (.cells #[.string (tbS xs), .int .i64 N] 25)) := below1 w2 _
    have I2 := Lib.hid ((((I1.out.below hb2).up hb2.size).below ha).up ha.size)
    have B2 := Lib.hid ((B1.out.trans (hb2.mono B1.out.size)).trans (ha.mono (B1.out.trans (hb2.mono B1.out.size)).size))
    have S2 := Lib.hid (SB.new w2 (tbS xs) N)
    clear hb2 ha I1 B1
    go_wp2_with fail
    refine (hsp.out _ _ I2.out).mono ?_
    rintro e w3 ⟨rfl, hb3⟩
    have I3 := Lib.hid ((I2.out.below hb3).up hb3.size)
    have B3 := Lib.hid (B2.out.trans (hb3.mono B2.out.size))
    have S3 := Lib.hid (S2.out.below hb3)
    clear hb3 I2 B2 S2
    have ha : Below w3.heap.size w3 (w3.alloc (.cells #[.string (tbS xs), .int .i64 N] 25)) := below1 w3 _
    have I4 := Lib.hid ((I3.out.below ha).up ha.size)
    have B4 := Lib.hid (B3.out.trans (ha.mono B3.out.size))
    have S4 := Lib.hid (S3.out.below ha)
    have hz4 : (w3.alloc (.cells #[.string (tbS xs), .int .i64 N] 25)).heap.size = w3.heap.size + 1 := by simp
    have hown0 : ((w3.alloc (.cells #[.string (tbS xs), .int .i64 N] 25)).alloc (.cells #[] 2)).ownsRow (w3.heap.size + 1) 2 1 (.slice (some ⟨w3.heap.size + 1, 0, none⟩) 0 0) 0 (ints []) := by
      have h0 := World.ownsRow_made (w3.alloc (.cells #[.string (tbS xs), .int .i64 N] 25)) (base := w3.heap.size + 1) (e := 2) (size := 1) #[] 0 (by simp) (by simp [maxLen]) rfl
      rw [World.size_alloc] at h0
      exact h0
    have hb0 : Below (w3.heap.size + 1) (w3.alloc (.cells #[.string (tbS xs), .int .i64 N] 25)) ((w3.alloc (.cells #[.string (tbS xs), .int .i64 N] 25)).alloc (.cells #[] 2)) := (Below.refl _ _).alloc (by simp) _
    have H0 := Lib.hid hown0
    have HB0 := Lib.hid hb0
    clear ha hown0 hb0 I3 B3 S3
    go_wp2_with fail
    generalize w3.alloc (.cells #[.string (tbS xs), .int .i64 N] 25) = w4 at *
    have hI4 := I4.out
    rw [hz4] at hI4
    have HI4 := Lib.hid hI4
    obtain ⟨hr4, hlen4, A4, c4, hv4, h34⟩ := hI4
    injection hv4 with hA4 _ hc4
    subst hA4 hc4
    have H34 := Lib.hid h34
    have HR4 := Lib.hid hr4
    clear h34 hr4
    go_loopw [8, 9] (fun u i wr => ∃ k : Nat, k ≤ xs.length ∧ i = .int .i64 (k : Int) ∧ wr.ownsRow (w3.heap.size + 1) 2 1 u k (ints ((xs.map (later n)).take k)) ∧ Below (w3.heap.size + 1) w4 wr)
      (fun _ i _ => xs.length - (intOf i).toNat)
    case atStart => exact ⟨0, Nat.zero_le _, by simp, by simpa using H0.out, HB0.out⟩
    case round =>
      clear H0 HB0
      obtain ⟨k, hk, rfl, hown, hb⟩ := hrel
      by_cases hlt : k < xs.length
      · rcases H34.out with h3 | ⟨b, off, rfl, hbl, hc⟩
        · subst h3; simp at hlt
        have hx : wr.cell? ⟨b, off + k, none⟩ = some (.int .i64 (xs.getD k 0)) := (hb.cell (p := ⟨b, off + k, none⟩) hbl).trans (hc k hlt)
        have hT := Lib.hid (ints_take (xs.map (later n)) k (by simpa using hlt))
        rw [later_get n xs k hlt] at hT
        have hY : wrap64 (xs.getD k 0 + (n : Int) % 1000) = later n (xs.getD k 0) := rfl
        generalize later n (xs.getD k 0) = y at *
        generalize xs.getD k 0 = x at *
        have hz := hb.size
        have Hb := Lib.hid hb
        clear hc hb H34
        go_wp2_with (at_builtin; refine wpList_append_own _ rfl _ _ 44 rfl (w3.heap.size + 1) 2 i0 (.int .i64 0) 1 8 Try.underlying44 hi hz0 hz1 hz2 rfl (by decide) _ _ _ rfl (hown.alloc _) ⟨wr.heap.size, 0, none⟩ 1 1 [.int .i64 y] rfl rfl (cell_one_new _ _ _) ?c2 ?c3 ?c4 ?c5 ?_)
        case c2 => first | rfl | (intro q hq; simp at hq; subst hq; rfl)
        case c3 => unfold maxLen; omega
        case c4 => omega
        case c5 => first | omega | (simp; omega)
        intro v' w5 hown3 hgrow _
        rw [← hT.out] at hown3
        have hb5 : Below (w3.heap.size + 1) w4 w5 := (Hb.out.alloc (by omega) _).grown hgrow (by simp; omega) (fun k hk => (hown.lt _ hk).1)
        clear hgrow hown
        go_wp2_with fail
        first
        | (go_roundw; (case rel => exact ⟨k + 1, by omega, by go_num, hown3, hb5⟩); (case measure => simp [intOf]; omega))
        | exact ⟨⟨k + 1, by omega, by go_num, hown3, hb5⟩, by simp [intOf]; omega⟩
      · obtain rfl : k = xs.length := by omega
        have hlm : (xs.map (later n)).length = xs.length := by simp
        rw [List.take_of_length_le (by omega)] at hown
        have hsh := Lib.hid (@shifted n xs)
        have I5 := Lib.hid (IL.of_own hown hlm.symm (later_all n xs) (by omega))
        have B5 := Lib.hid (B4.out.trans (hb.mono (by rw [← hz4]; exact B4.out.size)))
        have S5 := Lib.hid (S4.out.below (hz4 ▸ hb))
        clear hown hb H34 hlm
        generalize hys : xs.map (later n) = ys at *
        have him2 := Lib.hid (fun v W h => implTimesBits_any v ys W h)
        generalize hN2 : ((tbL ys).length : Int) = N2 at *
        generalize hT2 : timesOkB ys = T2 at *
        have hNN : T = true → T2 = true → (N2 == N) = true := fun h1 h2 => by
          have := hsh.out (by rw [HT.out]; exact h1) (by first | exact h2 | (rw [hT2]; exact h2))
          rw [beq_iff_eq, ← hN2, ← HN.out, this]
        clear hN2 hT2 hys hsh
        have s0 := S5.out.c0
        have s1 := S5.out.c1
        go_wp2_with fail
        refine (him2.out _ _ I5.out).mono ?_
        rintro e w6 ⟨rfl, hb6⟩
        have B6 := Lib.hid (B5.out.trans (hb6.mono B5.out.size))
        have S6 := S5.out.below hb6
        have s0 := S6.c0
        have s1 := S6.c1
        have sl := S6.lt
        clear hb6 S6
        cases T with
        | false =>
          go_wp2_with fail
          go_ret
          exact ⟨rfl, B6.out.alloc (by have := B6.out.size; omega) _⟩
        | true =>
          cases T2 with
          | false =>
            go_wp2_with fail
            go_ret
            exact ⟨rfl, B6.out.alloc (by have := B6.out.size; omega) _⟩
          | true =>
            have hNN := hNN rfl rfl
            go_wp2_with fail
            go_ret
            exact ⟨rfl, B6.out.alloc (by have := B6.out.size; omega) _⟩
  · have hd : decide (1048576 < (n : Int)) = true := by simp; omega
    rw [hd] at hbig
    have Hbig := Lib.hid hbig
    clear hbig hd h
    go_enter Try.func8, Try.ntmps8
    go_wp2_with fail
    refine (Hbig.out _).mono ?_
    rintro e w' ⟨rfl, rfl⟩
    go_wp2_with fail
    go_ret
    exact ⟨rfl, Below.refl _ _⟩
end Go.Proofs.Ytpnfkmhhilnglaa
