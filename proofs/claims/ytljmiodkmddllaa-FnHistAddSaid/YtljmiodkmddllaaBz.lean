/- Walks: the law FnHistAdd. -/
import Derived.Test.YtljmiodkmddllaaBy
import Derived.Test.YtljmiodkmddllaaIs
set_option linter.unusedVariables false
set_option linter.unusedSimpArgs false
namespace Go.Proofs.Ytljmiodkmddllaa
open Go.RowKit

set_option maxRecDepth 100000 in
set_option maxHeartbeats 16000000 in
theorem walkFnHistAdd (A : Option Addr) (n c : Nat) (w : World) (h : n ≤ 1048576 → CodeAt w A n c) :
    Calls Try.prog 9 #[.slice A n c] w fun e w' => e = .returned (.bool true) ∧ Below w.heap.size w w' := by
  have hbig := fun W => big_any A n c W
  by_cases hb : (n : Int) ≤ 1048576
  case neg =>
    have hd : decide (1048576 < (n : Int)) = true := by simp; omega
    rw [hd] at hbig
    have Hbig := Lib.hid hbig
    clear hbig hd h
    go_enter Try.func9, Try.ntmps9
    go_wp2_with fail
    refine (Hbig.out _).mono ?_
    rintro e w' ⟨rfl, rfl⟩
    go_wp2_with fail
    go_ret
    exact ⟨rfl, Below.refl _ _⟩
  · have hd : decide (1048576 < (n : Int)) = false := by simp; omega
    rw [hd] at hbig
    have Hbig := Lib.hid hbig
    have hcode := Lib.hid (h (by omega))
    have HDA := Lib.hid (fun W h => DrawHistAdd_any A n c W h)
    have HDO := Lib.hid (fun W h => DrawHistOf_any A n c W h)
    have HAI := Lib.hid (fun v u a b W h h' => implHistAdd_any v u a b W h h')
    have HAS := Lib.hid (fun v u a b W h h' => specHistAdd_any v u a b W h h')
    have HOI := Lib.hid (fun v u xs b W h h' => implHistOf_any v u xs b W h h')
    have hsame := Lib.hid (fun v u xs W h h' => sameInts_any v u xs xs W h h')
    simp only [decide_true] at hsame
    clear hbig hd h
    -- the second half: drawn points in two parts
    have HALF : ∀ (W : World) (tm : Array Value), True → True := fun _ _ _ => trivial
    clear HALF
    go_enter Try.func9, Try.ntmps9
    go_wp2_with fail
    refine (Hbig.out _).mono ?_
    rintro e w' ⟨rfl, rfl⟩
    go_wp2_with fail
    refine (HDA.out _ hcode.out).mono ?_
    rintro e w1 ⟨v, u, xs, ys, rfl, hx1, hy1, hb1⟩
    have HB1 := Lib.hid hb1
    have HX1 := Lib.hid hx1
    have HY1 := Lib.hid hy1
    clear hx1 hy1 hb1 HDA
    have HA1 := Lib.hid (fun v u W h h' => HAI.out v u xs ys W h h')
    have HA2 := Lib.hid (fun v u W h h' => HAS.out v u xs ys W h h')
    have HA3 := Lib.hid (fun v u W h h' => HAI.out v u ys xs W h h')
    have hcm := haM_comm xs ys
    rw [hcm] at HA3
    have HSK := Lib.hid (haM_ok xs ys)
    clear hcm HAS
    generalize haM xs ys = S at *
    go_wp2_with fail
    refine (HA1.out _ _ _ HX1.out HY1.out).mono ?_
    rintro e w2 ⟨sv, rfl, ho2, hb2⟩
    have HB2 := Lib.hid (HB1.out.trans (hb2.mono HB1.out.size))
    have HS2 := Lib.hid (IL.of_own ho2 rfl HSK.out.1 HSK.out.2)
    have HX2 := Lib.hid ((HX1.out.below hb2).up hb2.size)
    have HY2 := Lib.hid ((HY1.out.below hb2).up hb2.size)
    clear ho2 hb2 HB1 HX1 HY1
    obtain ⟨-, -, As, cs, rfl, -⟩ := HS2.out
    go_wp2_with fail
    refine (HA2.out _ _ _ HX2.out HY2.out).mono ?_
    rintro e w3 ⟨tv, rfl, ho3, hb3⟩
    have HB3 := Lib.hid (HB2.out.trans (hb3.mono HB2.out.size))
    have HT3 := Lib.hid (IL.of_own ho3 rfl HSK.out.1 HSK.out.2)
    have HS3 := Lib.hid ((HS2.out.below hb3).up hb3.size)
    have HX3 := Lib.hid ((HX2.out.below hb3).up hb3.size)
    have HY3 := Lib.hid ((HY2.out.below hb3).up hb3.size)
    clear ho3 hb3 HB2 HX2 HY2 HS2
    go_wp2_with fail
    refine (hsame.out _ _ _ _ HS3.out HT3.out).mono ?_
    rintro e w4 ⟨rfl, hb4⟩
    have HB4 := Lib.hid (HB3.out.trans (hb4.mono HB3.out.size))
    have HS4 := Lib.hid ((HS3.out.below hb4).up hb4.size)
    have HX4 := Lib.hid ((HX3.out.below hb4).up hb4.size)
    have HY4 := Lib.hid ((HY3.out.below hb4).up hb4.size)
    clear hb4 HB3 HX3 HY3 HS3 HT3 HA1 HA2
    obtain ⟨ls, hls⟩ : ∃ ls, S.length = ls := ⟨_, rfl⟩
    rw [hls] at HS4 ⊢
    clear hls
    by_cases hl : 0 < ls
    · have d0 : decide (0 < ls) = true := decide_eq_true hl
      have d1 : decide ((0 : Int) < (ls : Int)) = true := decide_eq_true (by omega)
      go_wp2_with fail
      refine (HA3.out _ _ _ HY4.out HX4.out).mono ?_
      rintro e w5 ⟨zv, rfl, ho5, hb5⟩
      have HB5 := Lib.hid (HB4.out.trans (hb5.mono HB4.out.size))
      have HZ5 := Lib.hid (IL.of_own ho5 rfl HSK.out.1 HSK.out.2)
      have HS5 := Lib.hid ((HS4.out.below hb5).up hb5.size)
      clear ho5 hb5 HB4 HX4 HY4 HS4
      go_wp2_with fail
      refine (hsame.out _ _ _ _ HZ5.out HS5.out).mono ?_
      rintro e w6 ⟨rfl, hb6⟩
      have HB6 := Lib.hid (HB5.out.trans (hb6.mono HB5.out.size))
      clear hb6 HB5 HZ5 HS5 d0 d1 hl HA3
      go_wp2_with fail
      refine (HDO.out _ (hcode.out.below HB6.out)).mono ?_
      rintro e w7 ⟨lv, bv, l, b, rfl, ho7, hob7, hll, hbl, hlr, hbr, hb7⟩
      have HB7 := Lib.hid (HB6.out.trans (hb7.mono HB6.out.size))
      have HP7 := Lib.hid (PL.of_own ho7 rfl (fun j => prng_of hlr j) (by omega))
      have HI7 := Lib.hid (IL.of_own hob7 rfl (rng_all hbr) (by omega))
      have HL7 := Lib.hid ho7.2
      clear ho7 hob7 hlr hbr hb7 HB6 HDO
      have HO1 := Lib.hid (fun v u W h h' => HOI.out v u l b W h h')
      have HHK := Lib.hid (hoM_ok l b)
      cases eo : hoB l b with
      | false =>
        have e0 := hoM_no eo
        rw [e0] at HO1 HHK
        clear e0 eo
        go_wp2_with fail
        refine (HO1.out _ _ _ HP7.out HI7.out).mono ?_
        rintro e w8 ⟨hv, rfl, ho8, hb8⟩
        have HB8 := Lib.hid (HB7.out.trans (hb8.mono HB7.out.size))
        have HH8 := Lib.hid (IL.of_own ho8 rfl HHK.out.1 HHK.out.2)
        obtain ⟨-, -, Ah, ch, rfl, -⟩ := HH8.out
        clear ho8 hb8
        go_wp2_with fail
        go_ret
        exact ⟨rfl, HB8.out⟩
      | true =>
        have HSPL := Lib.hid (fun k => haM_split eo k)
        have e0 := hoM_yes eo
        have hhl := hiL_length (l.map Prod.snd) b
        rw [← e0] at hhl
        clear e0 eo
        obtain ⟨H, hH⟩ : ∃ H, hoM l b = H := ⟨_, rfl⟩
        rw [hH] at HO1 HHK HSPL hhl
        clear hH
        obtain ⟨hn, hhn⟩ : ∃ hn, H.length = hn := ⟨_, rfl⟩
        have HHN := Lib.hid hhn
        rw [hhn] at hhl
        clear hhn
        have hn0 : ((hn : Int) == 0) = false := by rw [beq_eq_false_iff_ne]; omega
        obtain ⟨m, hm⟩ : ∃ m, l.length = m := ⟨_, rfl⟩
        have HM := Lib.hid hm
        rw [hm] at HL7 hll
        clear hm hhl
        have hk : n % (m + 1) < m + 1 := Nat.mod_lt _ (by omega)
        have ek : Int.tmod (n : Int) ((m : Int) + 1) = ((n % (m + 1) : Nat) : Int) := by
          rw [Int.tmod_eq_emod_of_nonneg (by omega)]; rfl
        have ek9 : IntKind.i64.wrap ((m : Int) + 1) = (m : Int) + 1 := IntWalk.i64_in _ (by omega)
        have ek8 : (((m : Int) + 1) == 0) = false := by rw [beq_eq_false_iff_ne]; omega
        have ek7 : ¬ ((m : Int) + 1 = 0) := by omega
        obtain ⟨k, hkk⟩ : ∃ k, k = n % (m + 1) := ⟨_, rfl⟩
        rw [← hkk] at hk ek
        clear hkk
        have hkm : k ≤ m := by omega
        have HSK2 := Lib.hid (HSPL.out k)
        have HO2 := Lib.hid (fun v u W h h' => HOI.out v u (l.take k) b W h h')
        have HO3 := Lib.hid (fun v u W h h' => HOI.out v u (l.drop k) b W h h')
        have HK1 := Lib.hid (hoM_ok (l.take k) b)
        have HK2 := Lib.hid (hoM_ok (l.drop k) b)
        have HA9 := Lib.hid (fun v u W h h' => HAI.out v u (hoM (l.take k) b) (hoM (l.drop k) b) W h h')
        rw [HSK2.out] at HA9
        generalize hoM (l.take k) b = X1 at *
        generalize hoM (l.drop k) b = X2 at *
        clear HSPL HSK2 HOI HAI
        rcases HL7.out with ⟨rfl, h0⟩ | ⟨g, cap, cur, rfl, hbg, hcur, hn1, hn2, hn3, hn4⟩
        · subst h0
          have hl0 : l = [] := List.eq_nil_of_length_eq_zero HM.out
          have hk0 : k = 0 := by omega
          subst hl0 hk0
          have ek5 : Int.tmod (n : Int) 1 = 0 := by rw [Int.tmod_eq_emod_of_nonneg (by omega)]; omega
          clear ek ek9 ek8 ek7 hk hkm HL7
          go_wp2_with fail
          refine (HO1.out _ _ _ HP7.out HI7.out).mono ?_
          rintro e w8 ⟨hv, rfl, ho8, hb8⟩
          have HB8 := Lib.hid (HB7.out.trans (hb8.mono HB7.out.size))
          have HH8 := Lib.hid (IL.of_own ho8 rfl HHK.out.1 HHK.out.2)
          have HI8 := Lib.hid ((HI7.out.below hb8).up hb8.size)
          clear ho8 hb8 HB7 HP7 HI7
          obtain ⟨-, -, Ah, ch, rfl, -⟩ := HH8.out
          rw [HHN.out] at HH8 ⊢
          go_wp2_with fail
          have HPT := Lib.hid (fun cc : Nat => show PL w8.drew w8.drew.heap.size (.slice none 0 0) (([] : List (Int × Int)).take 0) from PL_empty)
          have HPO := Lib.hid (fun cc : Nat => trivial)
          have HE0 := Lib.hid (fun (W : World) (A9 : Option Addr) (c9 : Nat) => (show PL W W.heap.size (.slice A9 0 c9) (([] : List (Int × Int)).drop 0) from PL_empty))
          have HIT := Lib.hid (show IL w8.drew w8.drew.heap.size bv b from HI8.out)
          have HHT := Lib.hid (show IL w8.drew w8.drew.heap.size (.slice Ah hn ch) H from HH8.out)
          have HBT := Lib.hid (show Below w.heap.size w w8.drew from HB8.out.drew)
          clear HI8 HH8 HB8 HPO
          go_region_law (first
              | (go_simp; go_at_call 29; refine (HO2.out _ _ _ (HPT.out 0) HIT.out).mono ?_; rintro e w9 ⟨x1v, rfl, ho9, hb9⟩; have HX1 := Lib.hid (IL.of_own ho9 rfl HK1.out.1 HK1.out.2); have HIT2 := Lib.hid ((HIT.out.below hb9).up hb9.size); have HHT2 := Lib.hid ((HHT.out.below hb9).up hb9.size); have HBT2 := Lib.hid (HBT.out.trans (hb9.mono HBT.out.size)); clear HPT HIT HHT HBT ho9 hb9)
              | (go_simp; go_at_call 29; refine (HO3.out _ _ _ (HE0.out _ _ _) HIT2.out).mono ?_; rintro e w10 ⟨x2v, rfl, ho10, hb10⟩; have HX2 := Lib.hid (IL.of_own ho10 rfl HK2.out.1 HK2.out.2); have HX1b := Lib.hid ((HX1.out.below hb10).up hb10.size); have HHT3 := Lib.hid ((HHT2.out.below hb10).up hb10.size); have HBT3 := Lib.hid (HBT2.out.trans (hb10.mono HBT2.out.size)); clear HIT2 HX1 HHT2 HBT2 ho10 hb10)
              | (go_simp; go_at_call 18; refine (HA9.out _ _ _ HX1b.out HX2.out).mono ?_; rintro e w11 ⟨rv, rfl, ho11, hb11⟩; have HR := Lib.hid (IL.of_own ho11 rfl HHK.out.1 HHK.out.2); have HHT4 := Lib.hid ((HHT3.out.below hb11).up hb11.size); have HBT4 := Lib.hid (HBT3.out.trans (hb11.mono HBT3.out.size)); clear HX1b HX2 HHT3 HBT3 ho11 hb11)
              | (go_simp; go_at_call 34; refine (hsame.out _ _ _ _ HR.out HHT4.out).mono ?_; rintro e w12 ⟨rfl, hb12⟩; have HBT5 := Lib.hid (HBT4.out.trans (hb12.mono HBT4.out.size)); clear HR HHT4 HBT4 hb12))
          all_goals
            go_simp
            go_wp2_with fail
            go_ret
            exact ⟨rfl, HBT5.out⟩
        · clear hcur hn3 hn4 HL7
          go_wp2_with fail
          refine (HO1.out _ _ _ HP7.out HI7.out).mono ?_
          rintro e w8 ⟨hv, rfl, ho8, hb8⟩
          have HB8 := Lib.hid (HB7.out.trans (hb8.mono HB7.out.size))
          have HH8 := Lib.hid (IL.of_own ho8 rfl HHK.out.1 HHK.out.2)
          have HP8 := Lib.hid ((HP7.out.below hb8).up hb8.size)
          have HI8 := Lib.hid ((HI7.out.below hb8).up hb8.size)
          clear ho8 hb8 HB7 HP7 HI7
          obtain ⟨-, -, Ah, ch, rfl, -⟩ := HH8.out
          rw [HHN.out] at HH8 ⊢
          go_wp2_with fail
          have HPT := Lib.hid (fun cc => show PL w8.drew w8.drew.heap.size (.slice (some ⟨g, 0, none⟩) k cc) (l.take k) from PL.cut (n := cc) (w := w8.drew) (B := w8.drew.heap.size) (xs := l) (c := cap) (by rw [HM.out]; exact HP8.out) k (by rw [HM.out]; exact hkm))
          have HPO := Lib.hid (fun cc => show PL w8.drew w8.drew.heap.size (.slice (some ⟨g, k * 2, none⟩) (m - k) cc) (l.drop k) from by
            have h9 := PL.off (n := cc) (w := w8.drew) (B := w8.drew.heap.size) (xs := l) (c := cap) (by rw [HM.out]; exact HP8.out) k (by rw [HM.out]; exact hkm)
            rw [HM.out, Nat.zero_add] at h9
            exact h9)
          have HIT := Lib.hid (show IL w8.drew w8.drew.heap.size bv b from HI8.out)
          have HHT := Lib.hid (show IL w8.drew w8.drew.heap.size (.slice Ah hn ch) H from HH8.out)
          have HBT := Lib.hid (show Below w.heap.size w w8.drew from HB8.out.drew)
          clear HP8 HI8 HH8 HB8
          have hk1 : (k : Int) ≤ (cap : Int) := by omega
          have hk2 : (k : Int) ≤ (m : Int) := by omega
          have hk3 : k ≤ cap := by omega
          by_cases hkc : k < cap
          · have hkc2 : ¬ cap = k := by omega
            have hkc3 : ¬ k = cap := by omega
            go_region_law (first
              | (go_simp; go_at_call 29; refine (HO2.out _ _ _ (HPT.out _) HIT.out).mono ?_; rintro e w9 ⟨x1v, rfl, ho9, hb9⟩; have HX1 := Lib.hid (IL.of_own ho9 rfl HK1.out.1 HK1.out.2); have HPO2 := Lib.hid (fun cc => ((HPO.out cc).below hb9).up hb9.size); clear HPO; have HIT2 := Lib.hid ((HIT.out.below hb9).up hb9.size); have HHT2 := Lib.hid ((HHT.out.below hb9).up hb9.size); have HBT2 := Lib.hid (HBT.out.trans (hb9.mono HBT.out.size)); clear HPT HIT HHT HBT ho9 hb9)
              | (go_simp; go_at_call 29; refine (HO3.out _ _ _ (HPO2.out _) HIT2.out).mono ?_; rintro e w10 ⟨x2v, rfl, ho10, hb10⟩; have HX2 := Lib.hid (IL.of_own ho10 rfl HK2.out.1 HK2.out.2); have HX1b := Lib.hid ((HX1.out.below hb10).up hb10.size); have HHT3 := Lib.hid ((HHT2.out.below hb10).up hb10.size); have HBT3 := Lib.hid (HBT2.out.trans (hb10.mono HBT2.out.size)); clear HPO2 HIT2 HX1 HHT2 HBT2 ho10 hb10)
              | (go_simp; go_at_call 18; refine (HA9.out _ _ _ HX1b.out HX2.out).mono ?_; rintro e w11 ⟨rv, rfl, ho11, hb11⟩; have HR := Lib.hid (IL.of_own ho11 rfl HHK.out.1 HHK.out.2); have HHT4 := Lib.hid ((HHT3.out.below hb11).up hb11.size); have HBT4 := Lib.hid (HBT3.out.trans (hb11.mono HBT3.out.size)); clear HX1b HX2 HHT3 HBT3 ho11 hb11)
              | (go_simp; go_at_call 34; refine (hsame.out _ _ _ _ HR.out HHT4.out).mono ?_; rintro e w12 ⟨rfl, hb12⟩; have HBT5 := Lib.hid (HBT4.out.trans (hb12.mono HBT4.out.size)); clear HR HHT4 HBT4 hb12))
            all_goals
              go_simp
              go_wp2_with fail
              go_ret
              exact ⟨rfl, HBT5.out⟩
          · have hkc1 : cap = k := by omega
            have hmk : m = k := by omega
            have hld : l.drop k = [] := by rw [List.drop_eq_nil_iff, HM.out]; omega
            have HE0 := Lib.hid (fun (W : World) (A9 : Option Addr) (c9 : Nat) => (hld ▸ PL_empty : PL W W.heap.size (.slice A9 0 c9) (l.drop k)))
            clear HPO hld
            subst hkc1
            subst hmk
            go_region_law (first
              | (go_simp; go_at_call 29; refine (HO2.out _ _ _ (HPT.out _) HIT.out).mono ?_; rintro e w9 ⟨x1v, rfl, ho9, hb9⟩; have HX1 := Lib.hid (IL.of_own ho9 rfl HK1.out.1 HK1.out.2); have HIT2 := Lib.hid ((HIT.out.below hb9).up hb9.size); have HHT2 := Lib.hid ((HHT.out.below hb9).up hb9.size); have HBT2 := Lib.hid (HBT.out.trans (hb9.mono HBT.out.size)); clear HPT HIT HHT HBT ho9 hb9)
              | (go_simp; go_at_call 29; refine (HO3.out _ _ _ (HE0.out _ _ _) HIT2.out).mono ?_; rintro e w10 ⟨x2v, rfl, ho10, hb10⟩; have HX2 := Lib.hid (IL.of_own ho10 rfl HK2.out.1 HK2.out.2); have HX1b := Lib.hid ((HX1.out.below hb10).up hb10.size); have HHT3 := Lib.hid ((HHT2.out.below hb10).up hb10.size); have HBT3 := Lib.hid (HBT2.out.trans (hb10.mono HBT2.out.size)); clear HIT2 HX1 HHT2 HBT2 ho10 hb10)
              | (go_simp; go_at_call 18; refine (HA9.out _ _ _ HX1b.out HX2.out).mono ?_; rintro e w11 ⟨rv, rfl, ho11, hb11⟩; have HR := Lib.hid (IL.of_own ho11 rfl HHK.out.1 HHK.out.2); have HHT4 := Lib.hid ((HHT3.out.below hb11).up hb11.size); have HBT4 := Lib.hid (HBT3.out.trans (hb11.mono HBT3.out.size)); clear HX1b HX2 HHT3 HBT3 ho11 hb11)
              | (go_simp; go_at_call 34; refine (hsame.out _ _ _ _ HR.out HHT4.out).mono ?_; rintro e w12 ⟨rfl, hb12⟩; have HBT5 := Lib.hid (HBT4.out.trans (hb12.mono HBT4.out.size)); clear HR HHT4 HBT4 hb12))
            all_goals
              go_simp
              go_wp2_with fail
              go_ret
              exact ⟨rfl, HBT5.out⟩
    · have d0 : decide (0 < ls) = false := decide_eq_false hl
      have d1 : decide ((0 : Int) < (ls : Int)) = false := decide_eq_false (by omega)
      have HB6 := HB4
      clear HB4 HX4 HY4 HS4 HA3 hl
      obtain ⟨w6, hw6⟩ : ∃ w6, w4 = w6 := ⟨_, rfl⟩
      subst hw6
      go_wp2_with fail
      clear d0 d1
      refine (HDO.out _ (hcode.out.below HB6.out)).mono ?_
      rintro e w7 ⟨lv, bv, l, b, rfl, ho7, hob7, hll, hbl, hlr, hbr, hb7⟩
      have HB7 := Lib.hid (HB6.out.trans (hb7.mono HB6.out.size))
      have HP7 := Lib.hid (PL.of_own ho7 rfl (fun j => prng_of hlr j) (by omega))
      have HI7 := Lib.hid (IL.of_own hob7 rfl (rng_all hbr) (by omega))
      have HL7 := Lib.hid ho7.2
      clear ho7 hob7 hlr hbr hb7 HB6 HDO
      have HO1 := Lib.hid (fun v u W h h' => HOI.out v u l b W h h')
      have HHK := Lib.hid (hoM_ok l b)
      cases eo : hoB l b with
      | false =>
        have e0 := hoM_no eo
        rw [e0] at HO1 HHK
        clear e0 eo
        go_wp2_with fail
        refine (HO1.out _ _ _ HP7.out HI7.out).mono ?_
        rintro e w8 ⟨hv, rfl, ho8, hb8⟩
        have HB8 := Lib.hid (HB7.out.trans (hb8.mono HB7.out.size))
        have HH8 := Lib.hid (IL.of_own ho8 rfl HHK.out.1 HHK.out.2)
        obtain ⟨-, -, Ah, ch, rfl, -⟩ := HH8.out
        clear ho8 hb8
        go_wp2_with fail
        go_ret
        exact ⟨rfl, HB8.out⟩
      | true =>
        have HSPL := Lib.hid (fun k => haM_split eo k)
        have e0 := hoM_yes eo
        have hhl := hiL_length (l.map Prod.snd) b
        rw [← e0] at hhl
        clear e0 eo
        obtain ⟨H, hH⟩ : ∃ H, hoM l b = H := ⟨_, rfl⟩
        rw [hH] at HO1 HHK HSPL hhl
        clear hH
        obtain ⟨hn, hhn⟩ : ∃ hn, H.length = hn := ⟨_, rfl⟩
        have HHN := Lib.hid hhn
        rw [hhn] at hhl
        clear hhn
        have hn0 : ((hn : Int) == 0) = false := by rw [beq_eq_false_iff_ne]; omega
        obtain ⟨m, hm⟩ : ∃ m, l.length = m := ⟨_, rfl⟩
        have HM := Lib.hid hm
        rw [hm] at HL7 hll
        clear hm hhl
        have hk : n % (m + 1) < m + 1 := Nat.mod_lt _ (by omega)
        have ek : Int.tmod (n : Int) ((m : Int) + 1) = ((n % (m + 1) : Nat) : Int) := by
          rw [Int.tmod_eq_emod_of_nonneg (by omega)]; rfl
        have ek9 : IntKind.i64.wrap ((m : Int) + 1) = (m : Int) + 1 := IntWalk.i64_in _ (by omega)
        have ek8 : (((m : Int) + 1) == 0) = false := by rw [beq_eq_false_iff_ne]; omega
        have ek7 : ¬ ((m : Int) + 1 = 0) := by omega
        obtain ⟨k, hkk⟩ : ∃ k, k = n % (m + 1) := ⟨_, rfl⟩
        rw [← hkk] at hk ek
        clear hkk
        have hkm : k ≤ m := by omega
        have HSK2 := Lib.hid (HSPL.out k)
        have HO2 := Lib.hid (fun v u W h h' => HOI.out v u (l.take k) b W h h')
        have HO3 := Lib.hid (fun v u W h h' => HOI.out v u (l.drop k) b W h h')
        have HK1 := Lib.hid (hoM_ok (l.take k) b)
        have HK2 := Lib.hid (hoM_ok (l.drop k) b)
        have HA9 := Lib.hid (fun v u W h h' => HAI.out v u (hoM (l.take k) b) (hoM (l.drop k) b) W h h')
        rw [HSK2.out] at HA9
        generalize hoM (l.take k) b = X1 at *
        generalize hoM (l.drop k) b = X2 at *
        clear HSPL HSK2 HOI HAI
        rcases HL7.out with ⟨rfl, h0⟩ | ⟨g, cap, cur, rfl, hbg, hcur, hn1, hn2, hn3, hn4⟩
        · subst h0
          have hl0 : l = [] := List.eq_nil_of_length_eq_zero HM.out
          have hk0 : k = 0 := by omega
          subst hl0 hk0
          have ek5 : Int.tmod (n : Int) 1 = 0 := by rw [Int.tmod_eq_emod_of_nonneg (by omega)]; omega
          clear ek ek9 ek8 ek7 hk hkm HL7
          go_wp2_with fail
          refine (HO1.out _ _ _ HP7.out HI7.out).mono ?_
          rintro e w8 ⟨hv, rfl, ho8, hb8⟩
          have HB8 := Lib.hid (HB7.out.trans (hb8.mono HB7.out.size))
          have HH8 := Lib.hid (IL.of_own ho8 rfl HHK.out.1 HHK.out.2)
          have HI8 := Lib.hid ((HI7.out.below hb8).up hb8.size)
          clear ho8 hb8 HB7 HP7 HI7
          obtain ⟨-, -, Ah, ch, rfl, -⟩ := HH8.out
          rw [HHN.out] at HH8 ⊢
          go_wp2_with fail
          have HPT := Lib.hid (fun cc : Nat => show PL w8.drew w8.drew.heap.size (.slice none 0 0) (([] : List (Int × Int)).take 0) from PL_empty)
          have HPO := Lib.hid (fun cc : Nat => trivial)
          have HE0 := Lib.hid (fun (W : World) (A9 : Option Addr) (c9 : Nat) => (show PL W W.heap.size (.slice A9 0 c9) (([] : List (Int × Int)).drop 0) from PL_empty))
          have HIT := Lib.hid (show IL w8.drew w8.drew.heap.size bv b from HI8.out)
          have HHT := Lib.hid (show IL w8.drew w8.drew.heap.size (.slice Ah hn ch) H from HH8.out)
          have HBT := Lib.hid (show Below w.heap.size w w8.drew from HB8.out.drew)
          clear HI8 HH8 HB8 HPO
          go_region_law (first
              | (go_simp; go_at_call 29; refine (HO2.out _ _ _ (HPT.out 0) HIT.out).mono ?_; rintro e w9 ⟨x1v, rfl, ho9, hb9⟩; have HX1 := Lib.hid (IL.of_own ho9 rfl HK1.out.1 HK1.out.2); have HIT2 := Lib.hid ((HIT.out.below hb9).up hb9.size); have HHT2 := Lib.hid ((HHT.out.below hb9).up hb9.size); have HBT2 := Lib.hid (HBT.out.trans (hb9.mono HBT.out.size)); clear HPT HIT HHT HBT ho9 hb9)
              | (go_simp; go_at_call 29; refine (HO3.out _ _ _ (HE0.out _ _ _) HIT2.out).mono ?_; rintro e w10 ⟨x2v, rfl, ho10, hb10⟩; have HX2 := Lib.hid (IL.of_own ho10 rfl HK2.out.1 HK2.out.2); have HX1b := Lib.hid ((HX1.out.below hb10).up hb10.size); have HHT3 := Lib.hid ((HHT2.out.below hb10).up hb10.size); have HBT3 := Lib.hid (HBT2.out.trans (hb10.mono HBT2.out.size)); clear HIT2 HX1 HHT2 HBT2 ho10 hb10)
              | (go_simp; go_at_call 18; refine (HA9.out _ _ _ HX1b.out HX2.out).mono ?_; rintro e w11 ⟨rv, rfl, ho11, hb11⟩; have HR := Lib.hid (IL.of_own ho11 rfl HHK.out.1 HHK.out.2); have HHT4 := Lib.hid ((HHT3.out.below hb11).up hb11.size); have HBT4 := Lib.hid (HBT3.out.trans (hb11.mono HBT3.out.size)); clear HX1b HX2 HHT3 HBT3 ho11 hb11)
              | (go_simp; go_at_call 34; refine (hsame.out _ _ _ _ HR.out HHT4.out).mono ?_; rintro e w12 ⟨rfl, hb12⟩; have HBT5 := Lib.hid (HBT4.out.trans (hb12.mono HBT4.out.size)); clear HR HHT4 HBT4 hb12))
          all_goals
            go_simp
            go_wp2_with fail
            go_ret
            exact ⟨rfl, HBT5.out⟩
        · clear hcur hn3 hn4 HL7
          go_wp2_with fail
          refine (HO1.out _ _ _ HP7.out HI7.out).mono ?_
          rintro e w8 ⟨hv, rfl, ho8, hb8⟩
          have HB8 := Lib.hid (HB7.out.trans (hb8.mono HB7.out.size))
          have HH8 := Lib.hid (IL.of_own ho8 rfl HHK.out.1 HHK.out.2)
          have HP8 := Lib.hid ((HP7.out.below hb8).up hb8.size)
          have HI8 := Lib.hid ((HI7.out.below hb8).up hb8.size)
          clear ho8 hb8 HB7 HP7 HI7
          obtain ⟨-, -, Ah, ch, rfl, -⟩ := HH8.out
          rw [HHN.out] at HH8 ⊢
          go_wp2_with fail
          have HPT := Lib.hid (fun cc => show PL w8.drew w8.drew.heap.size (.slice (some ⟨g, 0, none⟩) k cc) (l.take k) from PL.cut (n := cc) (w := w8.drew) (B := w8.drew.heap.size) (xs := l) (c := cap) (by rw [HM.out]; exact HP8.out) k (by rw [HM.out]; exact hkm))
          have HPO := Lib.hid (fun cc => show PL w8.drew w8.drew.heap.size (.slice (some ⟨g, k * 2, none⟩) (m - k) cc) (l.drop k) from by
            have h9 := PL.off (n := cc) (w := w8.drew) (B := w8.drew.heap.size) (xs := l) (c := cap) (by rw [HM.out]; exact HP8.out) k (by rw [HM.out]; exact hkm)
            rw [HM.out, Nat.zero_add] at h9
            exact h9)
          have HIT := Lib.hid (show IL w8.drew w8.drew.heap.size bv b from HI8.out)
          have HHT := Lib.hid (show IL w8.drew w8.drew.heap.size (.slice Ah hn ch) H from HH8.out)
          have HBT := Lib.hid (show Below w.heap.size w w8.drew from HB8.out.drew)
          clear HP8 HI8 HH8 HB8
          have hk1 : (k : Int) ≤ (cap : Int) := by omega
          have hk2 : (k : Int) ≤ (m : Int) := by omega
          have hk3 : k ≤ cap := by omega
          by_cases hkc : k < cap
          · have hkc2 : ¬ cap = k := by omega
            have hkc3 : ¬ k = cap := by omega
            go_region_law (first
              | (go_simp; go_at_call 29; refine (HO2.out _ _ _ (HPT.out _) HIT.out).mono ?_; rintro e w9 ⟨x1v, rfl, ho9, hb9⟩; have HX1 := Lib.hid (IL.of_own ho9 rfl HK1.out.1 HK1.out.2); have HPO2 := Lib.hid (fun cc => ((HPO.out cc).below hb9).up hb9.size); clear HPO; have HIT2 := Lib.hid ((HIT.out.below hb9).up hb9.size); have HHT2 := Lib.hid ((HHT.out.below hb9).up hb9.size); have HBT2 := Lib.hid (HBT.out.trans (hb9.mono HBT.out.size)); clear HPT HIT HHT HBT ho9 hb9)
              | (go_simp; go_at_call 29; refine (HO3.out _ _ _ (HPO2.out _) HIT2.out).mono ?_; rintro e w10 ⟨x2v, rfl, ho10, hb10⟩; have HX2 := Lib.hid (IL.of_own ho10 rfl HK2.out.1 HK2.out.2); have HX1b := Lib.hid ((HX1.out.below hb10).up hb10.size); have HHT3 := Lib.hid ((HHT2.out.below hb10).up hb10.size); have HBT3 := Lib.hid (HBT2.out.trans (hb10.mono HBT2.out.size)); clear HPO2 HIT2 HX1 HHT2 HBT2 ho10 hb10)
              | (go_simp; go_at_call 18; refine (HA9.out _ _ _ HX1b.out HX2.out).mono ?_; rintro e w11 ⟨rv, rfl, ho11, hb11⟩; have HR := Lib.hid (IL.of_own ho11 rfl HHK.out.1 HHK.out.2); have HHT4 := Lib.hid ((HHT3.out.below hb11).up hb11.size); have HBT4 := Lib.hid (HBT3.out.trans (hb11.mono HBT3.out.size)); clear HX1b HX2 HHT3 HBT3 ho11 hb11)
              | (go_simp; go_at_call 34; refine (hsame.out _ _ _ _ HR.out HHT4.out).mono ?_; rintro e w12 ⟨rfl, hb12⟩; have HBT5 := Lib.hid (HBT4.out.trans (hb12.mono HBT4.out.size)); clear HR HHT4 HBT4 hb12))
            all_goals
              go_simp
              go_wp2_with fail
              go_ret
              exact ⟨rfl, HBT5.out⟩
          · have hkc1 : cap = k := by omega
            have hmk : m = k := by omega
            have hld : l.drop k = [] := by rw [List.drop_eq_nil_iff, HM.out]; omega
            have HE0 := Lib.hid (fun (W : World) (A9 : Option Addr) (c9 : Nat) => (hld ▸ PL_empty : PL W W.heap.size (.slice A9 0 c9) (l.drop k)))
            clear HPO hld
            subst hkc1
            subst hmk
            go_region_law (first
              | (go_simp; go_at_call 29; refine (HO2.out _ _ _ (HPT.out _) HIT.out).mono ?_; rintro e w9 ⟨x1v, rfl, ho9, hb9⟩; have HX1 := Lib.hid (IL.of_own ho9 rfl HK1.out.1 HK1.out.2); have HIT2 := Lib.hid ((HIT.out.below hb9).up hb9.size); have HHT2 := Lib.hid ((HHT.out.below hb9).up hb9.size); have HBT2 := Lib.hid (HBT.out.trans (hb9.mono HBT.out.size)); clear HPT HIT HHT HBT ho9 hb9)
              | (go_simp; go_at_call 29; refine (HO3.out _ _ _ (HE0.out _ _ _) HIT2.out).mono ?_; rintro e w10 ⟨x2v, rfl, ho10, hb10⟩; have HX2 := Lib.hid (IL.of_own ho10 rfl HK2.out.1 HK2.out.2); have HX1b := Lib.hid ((HX1.out.below hb10).up hb10.size); have HHT3 := Lib.hid ((HHT2.out.below hb10).up hb10.size); have HBT3 := Lib.hid (HBT2.out.trans (hb10.mono HBT2.out.size)); clear HIT2 HX1 HHT2 HBT2 ho10 hb10)
              | (go_simp; go_at_call 18; refine (HA9.out _ _ _ HX1b.out HX2.out).mono ?_; rintro e w11 ⟨rv, rfl, ho11, hb11⟩; have HR := Lib.hid (IL.of_own ho11 rfl HHK.out.1 HHK.out.2); have HHT4 := Lib.hid ((HHT3.out.below hb11).up hb11.size); have HBT4 := Lib.hid (HBT3.out.trans (hb11.mono HBT3.out.size)); clear HX1b HX2 HHT3 HBT3 ho11 hb11)
              | (go_simp; go_at_call 34; refine (hsame.out _ _ _ _ HR.out HHT4.out).mono ?_; rintro e w12 ⟨rfl, hb12⟩; have HBT5 := Lib.hid (HBT4.out.trans (hb12.mono HBT4.out.size)); clear HR HHT4 HBT4 hb12))
            all_goals
              go_simp
              go_wp2_with fail
              go_ret
              exact ⟨rfl, HBT5.out⟩
end Go.Proofs.Ytljmiodkmddllaa
