/- Walks: the law FnHist. -/
import Derived.Test.YtljmiodkmddllaaBr
import Derived.Test.YtljmiodkmddllaaBp
import Derived.Test.YtljmiodkmddllaaIs
set_option linter.unusedVariables false
set_option linter.unusedSimpArgs false
namespace Go.Proofs.Ytljmiodkmddllaa
open Go.RowKit

/-- a value lies in the slot i: not below the bound ahead, below the bound behind -/
theorem slot_eq {v : Int} {b : List Int} {i : Nat} (hr : Ris b) (hi : i ≤ b.length) : slotN v b = i ↔ (i = 0 ∨ b.getD (i - 1) 0 ≤ v) ∧ (i = b.length ∨ v < b.getD i 0) := by
  have hs := slotN_le v b
  constructor
  · intro h
    constructor
    · by_cases e : i = 0
      · exact .inl e
      · right
        have := (slot_le_iff (v := v) (b := b) (j := i - 1) hr (by omega)).2
        by_cases hv : b.getD (i - 1) 0 ≤ v
        · exact hv
        · exact absurd (this (by omega)) (by omega)
    · by_cases e : i = b.length
      · exact .inl e
      · right
        exact (slot_le_iff hr (by omega)).1 (by omega)
  · rintro ⟨h1, h2⟩
    have a1 : slotN v b ≤ i := by
      rcases h2 with h2 | h2
      · omega
      · by_cases e : i = b.length
        · omega
        · exact (slot_le_iff hr (by omega)).2 h2
    have a2 : i ≤ slotN v b := by
      rcases h1 with h1 | h1
      · omega
      · by_cases e : i = 0
        · omega
        · have := (slot_le_iff (v := v) (b := b) (j := i - 1) hr (by omega)).1
          by_cases h3 : slotN v b ≤ i - 1
          · have := this h3; omega
          · omega
    omega
theorem cEq_succ (V b : List Int) (i k : Nat) (hk : k < V.length) : cEq (V.take (k + 1)) b i = cEq (V.take k) b i + if slotN (V.getD k 0) b = i then 1 else 0 := by
  rw [take_snoc_int hk, cEq_snoc]
theorem cEq_nil (b : List Int) (i : Nat) : cEq [] b i = 0 := rfl
theorem lastC_add (V b : List Int) (i : Nat) : lastC V b (i + 1) = lastC V b i + (cEq V b i : Int) := by
  rw [lastC_succ, cEq_last]; omega
theorem lastC_end (V b : List Int) : lastC V b (b.length + 1) = (V.length : Int) := by rw [lastC_succ, cLe_all]

theorem IL.cells {w : World} {B n c : Nat} {A : Option Addr} {xs : List Int} (h : IL w B (.slice A n c) xs) (hn : xs.length = n) : ∀ j, j < n → ∃ g o, A = some ⟨g, o, none⟩ ∧ w.cell? ⟨g, o + j, none⟩ = some (.int .i64 (xs.getD j 0)) := by
  intro j hj
  obtain ⟨-, -, A', c', he, h3⟩ := h
  injection he with e1 e2 e3
  subst e1
  rcases h3 with h3 | ⟨b, off, e, _, hc⟩
  · rw [h3] at hn; simp at hn; omega
  · exact ⟨b, off, e, hc j (by omega)⟩
theorem PL.cells {w : World} {B n c : Nat} {A : Option Addr} {xs : List (Int × Int)} (h : PL w B (.slice A n c) xs) (hn : xs.length = n) : ∀ j, j < n → ∃ g o, A = some ⟨g, o, none⟩ ∧ w.cell? ⟨g, o + j * 2, none⟩ = some (.int .i64 (xs.getD j (0, 0)).1) ∧ w.cell? ⟨g, o + j * 2 + 1, none⟩ = some (.int .i64 (xs.getD j (0, 0)).2) := by
  intro j hj
  obtain ⟨-, -, A', c', he, h3⟩ := h
  injection he with e1 e2 e3
  subst e1
  rcases h3 with h3 | ⟨b, off, e, _, hc⟩
  · rw [h3] at hn; simp at hn; omega
  · exact ⟨b, off, e, (hc j (by omega)).1, (hc j (by omega)).2⟩

set_option maxRecDepth 100000 in
set_option maxHeartbeats 16000000 in
theorem walkFnHist (A : Option Addr) (n c : Nat) (w : World) (h : n ≤ 1048576 → CodeAt w A n c) :
    Calls Try.prog 8 #[.slice A n c] w fun e w' => e = .returned (.bool true) ∧ Below w.heap.size w w' := by
  have hbig := fun W => big_any A n c W
  by_cases hb : (n : Int) ≤ 1048576
  case neg =>
    have hd : decide (1048576 < (n : Int)) = true := by simp; omega
    rw [hd] at hbig
    have Hbig := Lib.hid hbig
    clear hbig hd h
    go_enter Try.func8, Try.ntmps8
    go_wp2_with fail
    refine (Hbig.out _).mono ?_
    rintro e w' ⟨rfl, rfl⟩
    go_wp2_with fail
    go_ret
    exact ⟨rfl, Below.refl _ _⟩
  · have hd : decide (1048576 < (n : Int)) = false := by simp; omega
    rw [hd] at hbig
    have Hbig := Lib.hid hbig
    have hcode := Lib.hid (h (by omega))
    have HDO := Lib.hid (fun W h => DrawHistOf_any A n c W h)
    have HDB := Lib.hid (fun W h => DrawBoundsOk_any A n c W h)
    have HHI := Lib.hid (fun v u xs b W h h' => implHistOf_any v u xs b W h h')
    have HHS := Lib.hid (fun v u xs b W h h' => specHistOf_any v u xs b W h h')
    have HBI := Lib.hid (fun v xs W h => implBoundsOk_any v xs W h)
    have HBS := Lib.hid (fun v xs W h => specBoundsOk_any v xs W h)
    have hsame := Lib.hid (fun v u xs W h h' => sameInts_any v u xs xs W h h')
    simp only [decide_true] at hsame
    clear hbig hd h
    go_enter Try.func8, Try.ntmps8
    go_wp2_with fail
    refine (Hbig.out _).mono ?_
    rintro e w' ⟨rfl, rfl⟩
    go_wp2_with fail
    refine (HDO.out _ hcode.out).mono ?_
    rintro e w1 ⟨v, u, a, b, rfl, ho1, ho2, hal, hbl, har, hbr, hb1⟩
    have HB1 := Lib.hid hb1
    have HP1 := Lib.hid (PL.of_own ho1 rfl (fun j => prng_of har j) (by omega))
    have HI1 := Lib.hid (IL.of_own ho2 rfl (rng_all hbr) (by omega))
    clear ho1 ho2 har hbr hb1 HDO
    have HHI1 := Lib.hid (fun v u W h h' => HHI.out v u a b W h h')
    have HHS1 := Lib.hid (fun v u W h h' => HHS.out v u a b W h h')
    have HOK := Lib.hid (hoM_ok a b)
    go_wp2_with fail
    refine (HHI1.out _ _ _ HP1.out HI1.out).mono ?_
    rintro e w2 ⟨hv, rfl, ho2, hb2⟩
    have HB2 := Lib.hid (HB1.out.trans (hb2.mono HB1.out.size))
    have HH2 := Lib.hid (IL.of_own ho2 rfl HOK.out.1 HOK.out.2)
    have HP2 := Lib.hid ((HP1.out.below hb2).up hb2.size)
    have HI2 := Lib.hid ((HI1.out.below hb2).up hb2.size)
    clear ho2 hb2 HB1 HP1 HI1 HHI HHS
    go_wp2_with fail
    refine (HDB.out _ (hcode.out.below HB2.out)).mono ?_
    rintro e w3 ⟨xv, x, rfl, ho3, hxl, hxr, hb3⟩
    have HB3 := Lib.hid (HB2.out.trans (hb3.mono HB2.out.size))
    have HX3 := Lib.hid (IL.of_own ho3 rfl (rng_all hxr) (by omega))
    have HH3 := Lib.hid ((HH2.out.below hb3).up hb3.size)
    have HP3 := Lib.hid ((HP2.out.below hb3).up hb3.size)
    have HI3 := Lib.hid ((HI2.out.below hb3).up hb3.size)
    clear ho3 hxr hb3 HB2 HH2 HP2 HI2 HDB
    have HBI1 := Lib.hid (fun v W h => HBI.out v x W h)
    have HBS1 := Lib.hid (fun v W h => HBS.out v x W h)
    generalize bndB x = xb at *
    obtain ⟨-, -, A3, c3, rfl, -⟩ := HP3.out
    obtain ⟨-, -, A4, c4, rfl, -⟩ := HI3.out
    obtain ⟨-, -, A5, c5, rfl, -⟩ := HH3.out
    go_wp2_with fail
    refine (HHS1.out _ _ _ HP3.out HI3.out).mono ?_
    rintro e w4 ⟨sv, rfl, ho4, hb4⟩
    have HB4 := Lib.hid (HB3.out.trans (hb4.mono HB3.out.size))
    have HS4 := Lib.hid (IL.of_own ho4 rfl HOK.out.1 HOK.out.2)
    have HX4 := Lib.hid ((HX3.out.below hb4).up hb4.size)
    have HH4 := Lib.hid ((HH3.out.below hb4).up hb4.size)
    have HP4 := Lib.hid ((HP3.out.below hb4).up hb4.size)
    have HI4 := Lib.hid ((HI3.out.below hb4).up hb4.size)
    clear ho4 hb4 HB3 HX3 HH3 HP3 HI3
    go_wp2_with fail
    refine (hsame.out _ _ _ _ HH4.out HS4.out).mono ?_
    rintro e w5 ⟨rfl, hb5⟩
    have HB5 := Lib.hid (HB4.out.trans (hb5.mono HB4.out.size))
    have HX5 := Lib.hid ((HX4.out.below hb5).up hb5.size)
    have HH5 := Lib.hid ((HH4.out.below hb5).up hb5.size)
    have HP5 := Lib.hid ((HP4.out.below hb5).up hb5.size)
    have HI5 := Lib.hid ((HI4.out.below hb5).up hb5.size)
    clear hb5 HB4 HX4 HH4 HP4 HI4 HS4
    go_wp2_with fail
    refine (HBI1.out _ _ HX5.out).mono ?_
    rintro e w6 ⟨rfl, hb6⟩
    have HB6 := Lib.hid (HB5.out.trans (hb6.mono HB5.out.size))
    have HX6 := Lib.hid ((HX5.out.below hb6).up hb6.size)
    have HH6 := Lib.hid ((HH5.out.below hb6).up hb6.size)
    have HP6 := Lib.hid ((HP5.out.below hb6).up hb6.size)
    have HI6 := Lib.hid ((HI5.out.below hb6).up hb6.size)
    clear hb6 HB5 HX5 HH5 HP5 HI5
    go_wp2_with fail
    refine (HBS1.out _ _ HX6.out).mono ?_
    rintro e w7 ⟨rfl, hb7⟩
    have HB7 := Lib.hid (HB6.out.trans (hb7.mono HB6.out.size))
    have HX7 := Lib.hid ((HX6.out.below hb7).up hb7.size)
    have HH7 := Lib.hid ((HH6.out.below hb7).up hb7.size)
    have HP7 := Lib.hid ((HP6.out.below hb7).up hb7.size)
    have HI7 := Lib.hid ((HI6.out.below hb7).up hb7.size)
    clear hb7 HB6 HX6 HH6 HP6 HI6
    have hxx : (xb != xb) = false := by simp
    cases eo : hoB a b with
    | false =>
      have e0 := hoM_no eo
      rw [e0] at HH7 HHS1 HOK ⊢
      clear e0 eo
      go_wp2_with fail
      refine (HHS1.out _ _ _ HP7.out HI7.out).mono ?_
      rintro e w8 ⟨sv, rfl, ho8, hb8⟩
      have HB8 := Lib.hid (HB7.out.trans (hb8.mono HB7.out.size))
      have HS8 := Lib.hid (IL.of_own ho8 rfl HOK.out.1 HOK.out.2)
      have HX8 := Lib.hid ((HX7.out.below hb8).up hb8.size)
      have HH8 := Lib.hid ((HH7.out.below hb8).up hb8.size)
      clear ho8 hb8
      go_wp2_with fail
      refine (hsame.out _ _ _ _ HH8.out HS8.out).mono ?_
      rintro e w9 ⟨rfl, hb9⟩
      have HB9 := Lib.hid (HB8.out.trans (hb9.mono HB8.out.size))
      have HX9 := Lib.hid ((HX8.out.below hb9).up hb9.size)
      clear hb9
      go_wp2_with fail
      refine (HBI1.out _ _ HX9.out).mono ?_
      rintro e w10 ⟨rfl, hb10⟩
      have HB10 := Lib.hid (HB9.out.trans (hb10.mono HB9.out.size))
      have HX10 := Lib.hid ((HX9.out.below hb10).up hb10.size)
      clear hb10
      go_wp2_with fail
      refine (HBS1.out _ _ HX10.out).mono ?_
      rintro e w11 ⟨rfl, hb11⟩
      have HB11 := Lib.hid (HB10.out.trans (hb11.mono HB10.out.size))
      clear hb11
      go_wp2_with fail
      go_ret
      exact ⟨by first | rfl | simp, HB11.out⟩
    | true =>
      have e0 := hoM_yes eo
      have hr : Ris b := by unfold hoB at eo; rw [Bool.and_eq_true] at eo; exact bndB_ris eo.2
      have hhl := hiL_length (a.map Prod.snd) b
      obtain ⟨m1, hm1⟩ : ∃ m1, b.length + 1 = m1 := ⟨_, rfl⟩
      rw [e0, hhl, hm1] at HH7
      rw [e0, hhl, hm1]
      have HM1 := Lib.hid hm1
      have hm0 : ((m1 : Int) == 0) = false := by rw [beq_eq_false_iff_ne]; omega
      clear hm1
      clear e0 eo HHS1 HOK hsame HBI1 HBS1 HX7
      have HSE := Lib.hid (fun (v : Int) (i : Nat) (hi : i ≤ b.length) => slot_eq (v := v) hr hi)
      have HVL := Lib.hid (show (a.map Prod.snd).length = a.length by simp)
      have HG := Lib.hid (vsOf_getD a)
      have HCS := Lib.hid (fun i k hk => cEq_succ (a.map Prod.snd) b i k hk)
      have HLA := Lib.hid (lastC_add (a.map Prod.snd) b)
      have HLE := Lib.hid (lastC_end (a.map Prod.snd) b)
      have HLZ := Lib.hid (lastC_zero (a.map Prod.snd) b)
      have HHG := Lib.hid (hiL_getD (a.map Prod.snd) b)
      have HCB := Lib.hid (cEq_le (a.map Prod.snd) b)
      have HLI := Lib.hid (lastC_in (a.map Prod.snd) b)
      clear hr hhl
      have hHC := Lib.hid (IL.cells HH7.out ((hiL_length _ _).trans HM1.out))
      have hPC := Lib.hid (PL.cells HP7.out rfl)
      have hBL := Lib.hid (IL.cells HI7.out rfl)
      obtain ⟨gh, oh, hAh, -⟩ := hHC.out 0 (by have := HM1.out; omega)
      subst hAh
      have hHC2 := Lib.hid (show ∀ j, j < m1 → w7.cell? ⟨gh, oh + j, none⟩ = some (.int .i64 ((cEq (a.map Prod.snd) b j : Nat) : Int)) from fun j hj => by
        obtain ⟨g, o, he, hc⟩ := hHC.out j hj
        injection he with he
        injection he with e1 e2
        rw [e1, e2, hc, HHG.out j (by rw [HM1.out]; exact hj)])
      clear hHC HH7 HI7 HP7 HHG
      generalize a.map Prod.snd = V at *
      go_wp2_with fail
      go_loopw [7, 8] (fun s i wr => ∃ i' q : Nat, i' ≤ m1 ∧ i = .int .i64 (i' : Int) ∧ s = .int .i64 (lastC V b i') ∧ wr = w7.drewN q) (fun _ i _ => m1 - (Go.RowKit.intOf i).toNat)
      case atStart => exact ⟨0, 0, Nat.zero_le _, by simp, by rw [HLZ.out], rfl⟩
      case round =>
        obtain ⟨i, q, hi, rfl, rfl, rfl⟩ := hrel
        by_cases hlt : i < m1
        · have hib : i ≤ b.length := by have := HM1.out; omega
          go_wp2_with fail
          go_loopw [9, 10] (fun s u wr => ∃ (k q' : Nat), k ≤ a.length ∧ u = .int .i64 (k : Int) ∧ s = .int .i64 ((cEq (V.take k) b i : Nat) : Int) ∧ wr = w7.drewN q') (fun _ u _ => a.length - (Go.RowKit.intOf u).toNat)
          case atStart => exact ⟨0, q, Nat.zero_le _, by simp, by first | rfl | simp [cEq_nil], rfl⟩
          case round =>
            obtain ⟨k, q', hk, rfl, rfl, rfl⟩ := hrel
            by_cases hltk : k < a.length
            · obtain ⟨ga, oa, hAa, ha0, ha1⟩ := hPC.out k hltk
              subst hAa
              have HC := Lib.hid (HCS.out i k (by rw [HVL.out]; exact hltk))
              rw [HG.out] at HC
              have hcn := cEq_le (V.take k) b i
              rw [List.length_take] at hcn
              have hvl := HVL.out
              clear ha0
              generalize (a.getD k (0, 0)).2 = x at *
              generalize cEq (V.take k) b i = cn at *
              by_cases hi0 : i = 0
              · have d0a : decide (i = 0) = true := decide_eq_true (by omega)
                have d0b : decide ((i : Int) = (0 : Int)) = true := decide_eq_true (by omega)
                have d0c : ((i : Int) == (0 : Int)) = true := by rw [beq_iff_eq]; omega
                by_cases hil : i = b.length
                · have d1a : decide (i = b.length) = true := decide_eq_true (by omega)
                  have d1b : decide ((i : Int) = (b.length : Int)) = true := decide_eq_true (by omega)
                  have d1c : ((i : Int) == (b.length : Int)) = true := by rw [beq_iff_eq]; omega
                  have G : Hid (cEq (V.take (k + 1)) b i = cn + 1) := Lib.hid (by rw [HC.out, if_pos ((HSE.out x i hib).2 ⟨.inl hi0, .inl hil⟩)])
                  clear hi0 hil
                  go_wp2_with fail
                  go_quiet (fail)
                  go_wp2_with fail
                  go_roundw
                  case rel => exact ⟨k + 1, _, by omega, by go_num, by first | rfl | (rw [G.out]; done) | (rw [G.out]; go_num), rfl⟩
                  case measure => simp [Go.RowKit.intOf]; omega
                · obtain ⟨gz, oz, hAz, hz⟩ := hBL.out i (by omega)
                  have hin : i < b.length := by omega
                  have d1a : decide (i = b.length) = false := decide_eq_false (by omega)
                  have d1b : decide ((i : Int) = (b.length : Int)) = false := decide_eq_false (by omega)
                  have d1c : ((i : Int) == (b.length : Int)) = false := by rw [beq_eq_false_iff_ne]; omega
                  subst hAz
                  by_cases hxz : x < b.getD i 0
                  · have G : Hid (cEq (V.take (k + 1)) b i = cn + 1) := Lib.hid (by rw [HC.out, if_pos ((HSE.out x i hib).2 ⟨.inl hi0, .inr hxz⟩)])
                    generalize b.getD i 0 = z at *
                    have d2 : decide (x < z) = true := decide_eq_true hxz
                    clear hi0 hil
                    go_wp2_with fail
                    go_quiet (fail)
                    go_wp2_with fail
                    go_roundw
                    case rel => exact ⟨k + 1, _, by omega, by go_num, by first | rfl | (rw [G.out]; done) | (rw [G.out]; go_num), rfl⟩
                    case measure => simp [Go.RowKit.intOf]; omega
                  · have G : Hid (cEq (V.take (k + 1)) b i = cn) := Lib.hid (by rw [HC.out, if_neg (fun h => (fun h => h.2.elim hil hxz) ((HSE.out x i hib).1 h)), Nat.add_zero])
                    generalize b.getD i 0 = z at *
                    have d2 : decide (x < z) = false := decide_eq_false hxz
                    clear hi0 hil
                    go_wp2_with fail
                    go_quiet (fail)
                    go_wp2_with fail
                    go_roundw
                    case rel => exact ⟨k + 1, _, by omega, by go_num, by first | rfl | (rw [G.out]; done) | (rw [G.out]; go_num), rfl⟩
                    case measure => simp [Go.RowKit.intOf]; omega
              · have d0a : decide (i = 0) = false := decide_eq_false (by omega)
                have d0b : decide ((i : Int) = (0 : Int)) = false := decide_eq_false (by omega)
                have d0c : ((i : Int) == (0 : Int)) = false := by rw [beq_eq_false_iff_ne]; omega
                obtain ⟨gy, oy, hAy, hy⟩ := hBL.out (i - 1) (by omega)
                subst hAy
                have e1 : IntKind.i64.wrap ((i : Int) - 1) = (i : Int) - 1 := IntWalk.i64_in _ (by omega)
                have e2 : (0 : Int) ≤ (i : Int) - 1 := by omega
                have e2' : (1 : Int) ≤ (i : Int) := by omega
                have e3 : ((i : Int) - 1).toNat = i - 1 := by omega
                have e4 : (i : Int) - 1 < (b.length : Int) := by omega
                by_cases hyx : b.getD (i - 1) 0 ≤ x
                · by_cases hil : i = b.length
                  · have d1a : decide (i = b.length) = true := decide_eq_true (by omega)
                    have d1b : decide ((i : Int) = (b.length : Int)) = true := decide_eq_true (by omega)
                    have d1c : ((i : Int) == (b.length : Int)) = true := by rw [beq_iff_eq]; omega
                    have G : Hid (cEq (V.take (k + 1)) b i = cn + 1) := Lib.hid (by rw [HC.out, if_pos ((HSE.out x i hib).2 ⟨.inr hyx, .inl hil⟩)])
                    generalize b.getD (i - 1) 0 = y at *
                    have d3 : decide (y ≤ x) = true := decide_eq_true hyx
                    clear hi0 hil
                    go_wp2_with fail
                    go_quiet (fail)
                    go_wp2_with fail
                    go_roundw
                    case rel => exact ⟨k + 1, _, by omega, by go_num, by first | rfl | (rw [G.out]; done) | (rw [G.out]; go_num), rfl⟩
                    case measure => simp [Go.RowKit.intOf]; omega
                  · obtain ⟨gz, oz, hAz, hz⟩ := hBL.out i (by omega)
                    have hin : i < b.length := by omega
                    injection hAz with hAz
                    injection hAz with hg1 hg2
                    subst hg1 hg2
                    have d1a : decide (i = b.length) = false := decide_eq_false (by omega)
                    have d1b : decide ((i : Int) = (b.length : Int)) = false := decide_eq_false (by omega)
                    have d1c : ((i : Int) == (b.length : Int)) = false := by rw [beq_eq_false_iff_ne]; omega
                    by_cases hxz : x < b.getD i 0
                    · have G : Hid (cEq (V.take (k + 1)) b i = cn + 1) := Lib.hid (by rw [HC.out, if_pos ((HSE.out x i hib).2 ⟨.inr hyx, .inr hxz⟩)])
                      generalize b.getD (i - 1) 0 = y at *
                      generalize b.getD i 0 = z at *
                      have d3 : decide (y ≤ x) = true := decide_eq_true hyx
                      have d2 : decide (x < z) = true := decide_eq_true hxz
                      clear hi0 hil
                      go_wp2_with fail
                      go_quiet (fail)
                      go_wp2_with fail
                      go_roundw
                      case rel => exact ⟨k + 1, _, by omega, by go_num, by first | rfl | (rw [G.out]; done) | (rw [G.out]; go_num), rfl⟩
                      case measure => simp [Go.RowKit.intOf]; omega
                    · have G : Hid (cEq (V.take (k + 1)) b i = cn) := Lib.hid (by rw [HC.out, if_neg (fun h => (fun h => h.2.elim hil hxz) ((HSE.out x i hib).1 h)), Nat.add_zero])
                      generalize b.getD (i - 1) 0 = y at *
                      generalize b.getD i 0 = z at *
                      have d3 : decide (y ≤ x) = true := decide_eq_true hyx
                      have d2 : decide (x < z) = false := decide_eq_false hxz
                      clear hi0 hil
                      go_wp2_with fail
                      go_quiet (fail)
                      go_wp2_with fail
                      go_roundw
                      case rel => exact ⟨k + 1, _, by omega, by go_num, by first | rfl | (rw [G.out]; done) | (rw [G.out]; go_num), rfl⟩
                      case measure => simp [Go.RowKit.intOf]; omega
                · have G : Hid (cEq (V.take (k + 1)) b i = cn) := Lib.hid (by rw [HC.out, if_neg (fun h => (fun h => h.1.elim hi0 hyx) ((HSE.out x i hib).1 h)), Nat.add_zero])
                  generalize b.getD (i - 1) 0 = y at *
                  have d3 : decide (y ≤ x) = false := decide_eq_false hyx
                  clear hi0 
                  go_wp2_with fail
                  go_quiet (fail)
                  go_wp2_with fail
                  go_roundw
                  case rel => exact ⟨k + 1, _, by omega, by go_num, by first | rfl | (rw [G.out]; done) | (rw [G.out]; go_num), rfl⟩
                  case measure => simp [Go.RowKit.intOf]; omega
            · obtain rfl : k = a.length := by omega
              have hx := hHC2.out i hlt
              rw [List.take_of_length_le (by rw [HVL.out]; exact Nat.le_refl _)]
              have hla := HLA.out i
              have hcb := HCB.out i
              have hli := HLI.out i
              have hvl := HVL.out
              have HLA1 := Lib.hid hla
              clear hla
              generalize cEq V b i = cn at *
              generalize lastC V b i = l at *
              have e1 : IntKind.i64.wrap (l + (cn : Int)) = l + (cn : Int) := IntWalk.i64_in _ (by omega)
              go_wp2_with fail
              go_roundw
              case rel => exact ⟨i + 1, _, by omega, by go_num, by rw [HLA1.out], rfl⟩
              case measure => simp [Go.RowKit.intOf]; omega
        · obtain rfl : i = m1 := by omega
          have hle := HLE.out
          rw [HM1.out] at hle
          rw [HVL.out] at hle
          have HLE1 := Lib.hid hle
          clear hle
          rw [HLE1.out]
          go_wp2_with fail
          go_ret
          exact ⟨by first | rfl | simp, below_drewN_u HB7.out _⟩
end Go.Proofs.Ytljmiodkmddllaa
