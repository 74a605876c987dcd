/- The walk of the law FnGrows. -/
import Derived.Test.YtpnfkmhhilnglaaDe
import Derived.Test.YtpnfkmhhilnglaaWq
set_option linter.unusedVariables false
set_option linter.unusedSimpArgs false
namespace Go.Proofs.Ytpnfkmhhilnglaa
open Go.RowKit

theorem goodAt_take {xs : List Int} {n k : Nat} (hk : k < n) : goodAt (xs.take n) k = goodAt xs k := by
  have h : ∀ j, j < n → (xs.take n).getD j 0 = xs.getD j 0 := fun j hj => by simp [List.getD_eq_getElem?_getD, List.getElem?_take, hj]
  unfold goodAt
  rw [h k hk, h (k - 1) (by omega)]
theorem goodTo_take {xs : List Int} {n k : Nat} (hk : k ≤ n) : goodTo (xs.take n) k = goodTo xs k := by
  induction k with
  | zero => rfl
  | succ k ih => rw [goodTo_succ, goodTo_succ, ih (by omega), goodAt_take (by omega)]
theorem goodTo_mono {xs : List Int} {n k : Nat} (h : goodTo xs n = true) (hk : k ≤ n) : goodTo xs k = true := by
  unfold goodTo at h ⊢
  rw [List.all_eq_true] at h ⊢
  intro j hj
  exact h j (by simp at hj ⊢; omega)
theorem stepAt_take {xs : List Int} {n k : Nat} (hk : k < n) : stepAt (xs.take n) k = stepAt xs k := by
  have h : ∀ j, j < n → (xs.take n).getD j 0 = xs.getD j 0 := fun j hj => by simp [List.getD_eq_getElem?_getD, List.getElem?_take, hj]
  unfold stepAt
  rw [h k hk, h (k - 1) (by omega)]
theorem timesTo_take {xs : List Int} {n k : Nat} (hk : k ≤ n) : timesTo (xs.take n) k = timesTo xs k := by
  have h : ∀ j, j < n → (xs.take n).getD j 0 = xs.getD j 0 := fun j hj => by simp [List.getD_eq_getElem?_getD, List.getElem?_take, hj]
  induction k with
  | zero => rfl
  | succ k ih =>
    rw [timesTo, timesTo, ih (by omega)]
    congr 1
    unfold timesPart
    split
    · rename_i h0; rw [h 0 (by omega)]
    · rw [stepAt_take (by omega), stepAt_take (by omega)]
theorem grows_ok {xs : List Int} (h : timesOkB xs = true) (m : Nat) (hm : xs.length = m + 1) : timesOkB (xs.take m) = true ∧ tbL xs = tbL (xs.take m) ++ timesPart xs m ∧ 0 < (timesPart xs m).length := by
  have h' := h
  unfold timesOkB at h'
  rw [Bool.and_eq_true, decide_eq_true_iff] at h'
  have hl : (xs.take m).length = m := by simp; omega
  have h2 : timesOkB (xs.take m) = true := by
    unfold timesOkB
    rw [Bool.and_eq_true, decide_eq_true_iff, hl, goodTo_take (Nat.le_refl _)]
    exact ⟨by omega, goodTo_mono h'.2 (by omega)⟩
  refine ⟨h2, ?_, ?_⟩
  · unfold tbL
    rw [if_pos h, if_pos h2]
    unfold timesL
    rw [hl, hm, timesTo_take (Nat.le_refl _), timesTo]
  · unfold timesPart
    split
    · rw [BM.digits_length]; omega
    · have hr := step_ok h'.2 (show m < xs.length by omega)
      rw [codeB_in hr]; exact codeL_pos _

theorem pack_list (l : List Bool) : (ByteArray.mk (BM.pack l).toArray).data.toList = BM.pack l := by simp
theorem pack_size (l : List Bool) : (ByteArray.mk (BM.pack l).toArray).size = (l.length + 7) / 8 := by
  have h : (ByteArray.mk (BM.pack l).toArray).size = (BM.pack l).length := List.size_toArray
  rw [h, BM.pack_length]; unfold BM.bytesOf; omega
theorem okB_pack (l : List Bool) (h : l.length ≤ 20000) : okB ⟨(BM.pack l).toArray⟩ (l.length : Int) = true := by
  unfold okB
  apply decide_eq_true
  refine ⟨by omega, by omega, ?_, ?_⟩
  · rw [pack_size]; omega
  · rw [Int.toNat_natCast, pack_list, BM.listOf_pack]
theorem part_prefix {L l m : List Bool} (hL : L = l ++ m) (h : L.length ≤ 20000) :
    hasB ⟨(BM.pack L).toArray⟩ (L.length : Int) 0 (l.length : Int) = true ∧ partS ⟨(BM.pack L).toArray⟩ (L.length : Int) 0 (l.length : Int) = ⟨(BM.pack l).toArray⟩ ∧ partN ⟨(BM.pack L).toArray⟩ (L.length : Int) 0 (l.length : Int) = (l.length : Int) := by
  have hl : l.length ≤ L.length := by rw [hL, List.length_append]; omega
  have hh : hasB ⟨(BM.pack L).toArray⟩ (L.length : Int) 0 (l.length : Int) = true := by
    unfold hasB; rw [okB_pack L h, Bool.true_and]; apply decide_eq_true; omega
  refine ⟨hh, ?_, ?_⟩
  · unfold partS
    rw [if_pos hh]
    have e : partL ⟨(BM.pack L).toArray⟩ (L.length : Int) 0 (l.length : Int) = l := by
      unfold partL
      rw [pack_list, Int.toNat_natCast, Int.toNat_natCast, BM.listOf_pack, show (0 : Int).toNat = 0 from rfl, List.drop_zero, hL, List.take_append_of_le_length (Nat.le_refl _), List.take_of_length_le (Nat.le_refl _)]
    rw [e]
  · unfold partN; rw [if_pos hh]

set_option maxRecDepth 100000 in
set_option maxHeartbeats 4000000 in
theorem walkFnGrows (A : Option Addr) (n c : Nat) (w : World) (h : n ≤ 1048576 → CodeAt w A n c) :
    Calls Try.prog 7 #[.slice A n c] w fun e w' => e = .returned (.bool true) ∧ Below w.heap.size w w' := by
  have hbig := fun W => big_any A n c W
  by_cases hn : n ≤ 1048576
  · have H := Lib.hid (h hn)
    have hd : decide (1048576 < (n : Int)) = false := by simp; omega
    rw [hd] at hbig
    have Hbig := Lib.hid hbig
    obtain ⟨i0, hi, hz0, hz1, hz2⟩ := info_parts info_i64
    clear hbig hd h
    go_enter Try.func7, Try.ntmps7
    go_wp2_with fail
    refine (Hbig.out _).mono ?_
    rintro e w' ⟨rfl, rfl⟩
    go_wp2_with fail
    refine (DrawTimesBits_any A n c _ H.out).mono ?_
    rintro e w1 ⟨v, xs, rfl, hown, hxl, hxr, hb1⟩
    have I1 := Lib.hid (IL.of_own hown rfl (rng_of hxr) (by omega))
    have hcap : ∀ A1 n1 c1, v = .slice A1 n1 c1 → xs.length ≤ c1 := fun A1 n1 c1 hv => by
      rcases Go.Joins.ownsRow_forms hown with ⟨h1, h2⟩ | ⟨g, cap, h1⟩
      · omega
      · rcases hown.2 with ⟨h3, h4⟩ | ⟨g', cap', cur, h3, _, _, h5, _⟩
        · omega
        · rw [h3] at hv; injection hv with _ _ hv; omega
    have B1 := Lib.hid hb1
    clear hown hxr hb1 H
    obtain ⟨A1, c1, rfl⟩ : ∃ A1 c1, v = .slice A1 xs.length c1 := by obtain ⟨_, _, A1, c1, rfl, _⟩ := I1.out; exact ⟨A1, c1, rfl⟩
    have hc1 := hcap _ _ _ rfl
    have him := Lib.hid (fun v W h => implTimesBits_any v xs W h)
    have hsp := Lib.hid (fun v W h => specTimesBits_any v xs W h)
    have hlb : (tbL xs).length ≤ 5520 := tbL_le xs
    generalize hN : ((tbL xs).length : Int) = N at *
    generalize hT : timesOkB xs = T at *
    have HN := Lib.hid hN
    have HT := Lib.hid hT
    clear hN hT
    go_wp2_with fail
    refine (him.out _ _ I1.out).mono ?_
    rintro e w2 ⟨rfl, hb2⟩
    have ha : Below w2.heap.size w2 (w2.alloc (.cells #[.string (tbS xs), .int .i64 N] 25)) := below1 w2 _
    have I2 := Lib.hid ((((I1.out.below hb2).up hb2.size).below ha).up ha.size)
    have B2 := Lib.hid ((B1.out.trans (hb2.mono B1.out.size)).trans (ha.mono (B1.out.trans (hb2.mono B1.out.size)).size))
    have S2 := Lib.hid (SB.new w2 (tbS xs) N)
    clear hb2 ha I1 B1
    go_wp2_with fail
    refine (hsp.out _ _ I2.out).mono ?_
    rintro e w3 ⟨rfl, hb3⟩
    have I3 := Lib.hid ((I2.out.below hb3).up hb3.size)
    have B3 := Lib.hid (B2.out.trans (hb3.mono B2.out.size))
    have S3 := Lib.hid (S2.out.below hb3)
    clear hb3 I2 B2 S2
    have ha : Below w3.heap.size w3 (w3.alloc (.cells #[.string (tbS xs), .int .i64 N] 25)) := below1 w3 _
    have I4 := Lib.hid ((I3.out.below ha).up ha.size)
    have B4 := Lib.hid (B3.out.trans (ha.mono B3.out.size))
    have S4 := Lib.hid (S3.out.below ha)
    clear ha I3 B3 S3
    cases T with
    | false =>
      go_wp2_with fail
      go_ret
      exact ⟨rfl, B4.out⟩
    | true =>
      by_cases h0 : xs.length = 0
      · have hz : ((xs.length : Int) == 0) = true := by simp [h0]
        go_wp2_with fail
        go_ret
        exact ⟨rfl, B4.out⟩
      · have hz : ((xs.length : Int) == 0) = false := by simp [h0]
        have hle : ((xs.length : Int) - 1) ≤ (c1 : Int) := by omega
        have hle0 : (0 : Int) ≤ (xs.length : Int) - 1 := by omega
        obtain ⟨hok, hL, hp⟩ := grows_ok HT.out (xs.length - 1) (by omega)
        have hyl : (xs.take (xs.length - 1)).length = xs.length - 1 := by rw [List.length_take]; omega
        have I4y : IL (w3.alloc (.cells #[.string (tbS xs), .int .i64 N] 25)) (w3.alloc (.cells #[.string (tbS xs), .int .i64 N] 25)).heap.size (.slice A1 (xs.length - 1) c1) (xs.take (xs.length - 1)) := by
          obtain ⟨hr, hlen, A2, c2, hv, h3⟩ := I4.out
          injection hv with hv1 _ hv2
          subst hv1 hv2
          have hg : ∀ j, j < xs.length - 1 → (xs.take (xs.length - 1)).getD j 0 = xs.getD j 0 := fun j hj => by rw [List.getD_eq_getElem?_getD, List.getD_eq_getElem?_getD, List.getElem?_take, if_pos hj]
          refine ⟨fun j => ?_, by omega, A1, c1, by rw [hyl], ?_⟩
          · by_cases hj : j < xs.length - 1
            · rw [hg j hj]; exact hr j
            · rw [List.getD_eq_getElem?_getD, List.getElem?_eq_none (by omega)]; exact rng_zero
          · rcases h3 with h3 | ⟨b, off, h4, h5, h6⟩
            · subst h3; simp at h0
            · exact .inr ⟨b, off, h4, h5, fun j hj => by rw [hg j (by omega)]; exact h6 j (by omega)⟩
        have him2 := Lib.hid (fun W h => implTimesBits_any (.slice A1 (xs.length - 1) c1) (xs.take (xs.length - 1)) W h)
        have hpp := part_prefix hL (by omega)
        have hlt : (tbL (xs.take (xs.length - 1))).length < (tbL xs).length := by rw [hL, List.length_append]; omega
        have I4Y := Lib.hid I4y
        rw [hok] at him2
        have hNN := HN.out
        clear I4y hyl hok hL hp I4
        unfold tbS at *
        obtain ⟨hp1, hp2, hp3⟩ := hpp
        rw [hNN] at hp1 hp2 hp3
        have hpart := fun W => implPart_any ⟨(BM.pack (tbL xs)).toArray⟩ N 0 ((tbL (xs.take (xs.length - 1))).length : Int) W (by rw [pack_size]; unfold maxLen; omega) (by omega)
        rw [hp1, hp2, hp3] at hpart
        have hltN : ((tbL (xs.take (xs.length - 1))).length : Int) < N := by omega
        generalize ((tbL (xs.take (xs.length - 1))).length : Int) = K at *
        generalize (⟨(BM.pack (tbL (xs.take (xs.length - 1)))).toArray⟩ : ByteArray) = Ry at *
        generalize (⟨(BM.pack (tbL xs)).toArray⟩ : ByteArray) = Rx at *
        have Hpart := Lib.hid hpart
        clear hp1 hp2 hp3 hpart hNN hlt
        go_wp2_with fail
        refine (him2.out _ I4Y.out).mono ?_
        rintro e w5 ⟨rfl, hb5⟩
        have ha5 : Below w5.heap.size w5 (w5.alloc (.cells #[.string Ry, .int .i64 K] 25)) := below1 w5 _
        have S5 := S4.out.below hb5
        have B5 := B4.out.trans (hb5.mono B4.out.size)
        have S5b := Lib.hid (S5.below ha5)
        have B5b := Lib.hid (B5.trans (ha5.mono B5.size))
        have L5 := Lib.hid (SB.new w5 Ry K)
        have s0 := S5.c0
        have s1 := S5.c1
        have sl := S5.lt
        clear ha5 S5 B5 hb5 I4Y
        go_wp2_with fail
        refine (Hpart.out _).mono ?_
        rintro e w6 ⟨rfl, hb6⟩
        have S6 := S5b.out.below hb6
        have L6 := L5.out.below hb6
        have B6 := Lib.hid (B5b.out.trans (hb6.mono B5b.out.size))
        have s0 := S6.c0
        have s1 := S6.c1
        have sl := S6.lt
        have l0 := L6.c0
        have l1 := L6.c1
        have ll := L6.lt
        have hd : decide (K < N) = true := by simpa using hltN
        clear S6 L6 hb6
        go_wp2_with fail
        go_ret
        exact ⟨rfl, B6.out.alloc (by have := B6.out.size; omega) _⟩
  · have hd : decide (1048576 < (n : Int)) = true := by simp; omega
    rw [hd] at hbig
    have Hbig := Lib.hid hbig
    clear hbig hd h
    go_enter Try.func7, Try.ntmps7
    go_wp2_with fail
    refine (Hbig.out _).mono ?_
    rintro e w' ⟨rfl, rfl⟩
    go_wp2_with fail
    go_ret
    exact ⟨rfl, Below.refl _ _⟩
end Go.Proofs.Ytpnfkmhhilnglaa
