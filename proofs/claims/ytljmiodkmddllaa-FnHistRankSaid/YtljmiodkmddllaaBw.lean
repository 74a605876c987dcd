/- Walks: the law FnHistRank. -/
import Derived.Test.YtljmiodkmddllaaBv
set_option linter.unusedVariables false
set_option linter.unusedSimpArgs false
namespace Go.Proofs.Ytljmiodkmddllaa
open Go.RowKit

set_option maxRecDepth 100000 in
set_option maxHeartbeats 8000000 in
theorem walkFnHistRank (A : Option Addr) (n c : Nat) (w : World) (h : n ≤ 1048576 → CodeAt w A n c) :
    Calls Try.prog 11 #[.slice A n c] w fun e w' => e = .returned (.bool true) ∧ Below w.heap.size w w' := by
  have hbig := fun W => big_any A n c W
  by_cases hb : (n : Int) ≤ 1048576
  case neg =>
    have hd : decide (1048576 < (n : Int)) = true := by simp; omega
    rw [hd] at hbig
    have Hbig := Lib.hid hbig
    clear hbig hd h
    go_enter Try.func11, Try.ntmps11
    go_wp2_with fail
    refine (Hbig.out _).mono ?_
    rintro e w' ⟨rfl, rfl⟩
    go_wp2_with fail
    go_ret
    exact ⟨rfl, Below.refl _ _⟩
  · have hd : decide (1048576 < (n : Int)) = false := by simp; omega
    rw [hd] at hbig
    have Hbig := Lib.hid hbig
    have hcode := Lib.hid (h (by omega))
    have HDR := Lib.hid (fun W h => DrawHistRank_any A n c W h)
    have HDO := Lib.hid (fun W h => DrawHistOf_any A n c W h)
    have HRI := Lib.hid (fun v xs m W h => implHistRank_any v xs m W h)
    have HRS := Lib.hid (fun v xs m W h => specHistRank_any v xs m W h)
    have HHO := Lib.hid (fun v u xs b W h h' => implHistOf_any v u xs b W h h')
    have HQU := Lib.hid (fun v xs m W h => implQuantile_any v xs m W h)
    clear hbig hd h
    go_enter Try.func11, Try.ntmps11
    go_wp2_with fail
    refine (Hbig.out _).mono ?_
    rintro e w' ⟨rfl, rfl⟩
    go_wp2_with fail
    refine (HDR.out _ hcode.out).mono ?_
    rintro e w1 ⟨hv, hs, m, rfl, hi1, hmr, hb1⟩
    have HI1 := Lib.hid hi1
    have HB1 := Lib.hid hb1
    have Hmr := Lib.hid hmr
    clear hi1 hb1 hmr
    have HR1 := Lib.hid (fun v W h => HRI.out v hs m W h)
    have HR2 := Lib.hid (fun v W h => HRS.out v hs m W h)
    obtain ⟨r, hr⟩ : ∃ r, hrM hs m = r := ⟨_, rfl⟩
    rw [hr] at HR1 HR2
    clear hr
    go_wp2_with fail
    refine (HR1.out _ _ HI1.out).mono ?_
    rintro e w2 ⟨rfl, hb2⟩
    have HB2 := Lib.hid (HB1.out.trans (hb2.mono HB1.out.size))
    have HI2 := Lib.hid ((HI1.out.below hb2).up hb2.size)
    clear hb2 HI1
    go_wp2_with fail
    refine (HR2.out _ _ HI2.out).mono ?_
    rintro e w3 ⟨rfl, hb3⟩
    have HB3 := Lib.hid (HB2.out.trans (hb3.mono HB2.out.size))
    clear hb3 HI2 HR1 HR2
    go_wp2_with fail
    refine (HDO.out _ (hcode.out.below HB3.out)).mono ?_
    rintro e w4 ⟨v, u, a, b, rfl, ho1, ho2, hal, hbl, har, hbr, hb4⟩
    have HB4 := Lib.hid (HB3.out.trans (hb4.mono HB3.out.size))
    have HP4 := Lib.hid (PL.of_own ho1 rfl (fun j => prng_of har j) (by omega))
    have HI4 := Lib.hid (IL.of_own ho2 rfl (rng_all hbr) (by omega))
    clear ho1 ho2 har hbr hb4 HDR HDO
    have HQ4 := Lib.hid (fun v W h => HQU.out v a m W h)
    have HO4 := Lib.hid (fun v u W h h' => HHO.out v u a b W h h')
    cases eq : quB a m with
    | false =>
      rw [quM_no eq] at HQ4
      have HR5 := Lib.hid (fun v W h => HRI.out v (hoM a b) m W h)
      obtain ⟨r2, hr2⟩ : ∃ r2, hrM (hoM a b) m = r2 := ⟨_, rfl⟩
      rw [hr2] at HR5
      have HOK := Lib.hid (hoM_ok a b)
      clear hr2 eq
      generalize hoM a b = hh at *
      go_wp2_with fail
      refine (HQ4.out _ _ HP4.out).mono ?_
      rintro e w5 ⟨rfl, hb5⟩
      have HB5 := Lib.hid (HB4.out.trans (hb5.mono HB4.out.size))
      have HP5 := Lib.hid ((HP4.out.below hb5).up hb5.size)
      have HI5 := Lib.hid ((HI4.out.below hb5).up hb5.size)
      clear hb5
      go_wp2_with fail
      refine (HO4.out _ _ _ HP5.out HI5.out).mono ?_
      rintro e w6 ⟨hv6, rfl, ho6, hb6⟩
      have HB6 := Lib.hid (HB5.out.trans (hb6.mono HB5.out.size))
      have HI6 := Lib.hid (IL.of_own ho6 rfl HOK.out.1 HOK.out.2)
      clear hb6 ho6
      go_wp2_with fail
      refine (HR5.out _ _ HI6.out).mono ?_
      rintro e w7 ⟨rfl, hb7⟩
      have HB7 := Lib.hid (HB6.out.trans (hb7.mono HB6.out.size))
      clear hb7
      go_wp2_with fail
      go_ret
      exact ⟨rfl, HB7.out⟩
    | true =>
      rw [quM_yes eq] at HQ4
      have HR5 := Lib.hid (fun v W h => HRI.out v (hoM a b) m W h)
      have HOK := Lib.hid (hoM_ok a b)
      cases eb : bndB b with
      | false =>
        have e0 : hoM a b = [] := hoM_no (by unfold hoB; rw [eb]; simp)
        have e1 : hrM [] m = -1 := hrM_no (by unfold hrB histB; simp)
        rw [e0, e1] at HR5
        rw [e0] at HO4 HOK
        clear e0 e1 eb eq
        generalize quV a m = q at *
        go_wp2_with fail
        refine (HQ4.out _ _ HP4.out).mono ?_
        rintro e w5 ⟨rfl, hb5⟩
        have HB5 := Lib.hid (HB4.out.trans (hb5.mono HB4.out.size))
        have HP5 := Lib.hid ((HP4.out.below hb5).up hb5.size)
        have HI5 := Lib.hid ((HI4.out.below hb5).up hb5.size)
        clear hb5
        go_wp2_with fail
        refine (HO4.out _ _ _ HP5.out HI5.out).mono ?_
        rintro e w6 ⟨hv6, rfl, ho6, hb6⟩
        have HB6 := Lib.hid (HB5.out.trans (hb6.mono HB5.out.size))
        have HI6 := Lib.hid (IL.of_own ho6 rfl HOK.out.1 HOK.out.2)
        clear hb6 ho6
        go_wp2_with fail
        refine (HR5.out _ _ HI6.out).mono ?_
        rintro e w7 ⟨rfl, hb7⟩
        have HB7 := Lib.hid (HB6.out.trans (hb7.mono HB6.out.size))
        clear hb7
        go_wp2_with fail
        go_ret
        exact ⟨rfl, HB7.out⟩
      | true =>
        have e0 : hoM a b = hiL (a.map Prod.snd) b := hoM_yes (by unfold hoB; rw [eb, (quB_parts eq).1]; rfl)
        have e1 := rank_slot eq eb
        have hr := bndB_ris eb
        have hlo := slot_lo (v := quV a m) hr
        have hhi := slot_hi (v := quV a m) hr
        have hsl := slotN_le (quV a m) b
        rw [e0, e1] at HR5
        rw [e0] at HO4 HOK
        clear e0 e1 eb eq hr
        generalize quV a m = q at *
        generalize slotN q b = k at *
        have HLO := Lib.hid hlo
        have HHI := Lib.hid hhi
        clear hlo hhi
        obtain ⟨-, -, A4, c4, rfl, h4⟩ := HI4.out
        clear h4
        generalize hiL (a.map Prod.snd) b = hh at *
        go_wp2_with fail
        refine (HQ4.out _ _ HP4.out).mono ?_
        rintro e w5 ⟨rfl, hb5⟩
        have HB5 := Lib.hid (HB4.out.trans (hb5.mono HB4.out.size))
        have HP5 := Lib.hid ((HP4.out.below hb5).up hb5.size)
        have HI5 := Lib.hid ((HI4.out.below hb5).up hb5.size)
        clear hb5
        go_wp2_with fail
        refine (HO4.out _ _ _ HP5.out HI5.out).mono ?_
        rintro e w6 ⟨hv6, rfl, ho6, hb6⟩
        have HB6 := Lib.hid (HB5.out.trans (hb6.mono HB5.out.size))
        have HI6 := Lib.hid (IL.of_own ho6 rfl HOK.out.1 HOK.out.2)
        have HJ6 := Lib.hid ((HI5.out.below hb6).up hb6.size)
        clear hb6 ho6
        go_wp2_with fail
        refine (HR5.out _ _ HI6.out).mono ?_
        rintro e w7 ⟨rfl, hb7⟩
        have HB7 := Lib.hid (HB6.out.trans (hb7.mono HB6.out.size))
        have HJ7 := Lib.hid ((HJ6.out.below hb7).up hb7.size)
        clear hb7 HP4 HP5 HI4 HI5 HI6 HJ6 HB4 HB5 HB6 HR5 HQ4 HO4
        obtain ⟨-, -, A7, c7, he7, h7⟩ := HJ7.out
        injection he7 with e71 e72 e73
        subst e71 e73
        clear e72
        have hBL := Lib.hid (show ∀ j, j < b.length → ∃ o g, A4 = some ⟨g, o, none⟩ ∧ w7.cell? ⟨g, o + j, none⟩ = some (.int .i64 (b.getD j 0)) from fun j hj => by
          rcases h7 with h7 | ⟨g, o, h70, h71, h72⟩
          · rw [h7] at hj; simp at hj
          · exact ⟨o, g, h70, h72 j hj⟩)
        clear h7 HJ7
        obtain ⟨nb, hnb⟩ : ∃ nb, b.length = nb := ⟨_, rfl⟩
        rw [hnb] at hBL HHI hsl hbl ⊢
        clear hnb
        by_cases hk0 : k = 0
        · have d0 : decide (k = 0) = true := by simp [hk0]
          have d1 : decide ((k : Int) = 0) = true := by simp [hk0]
          have d2 : ((k : Int) == 0) = true := by simp [hk0]
          by_cases hkl : k = nb
          · have d3 : decide (k = nb) = true := by simp [hkl]
            have d4 : decide ((k : Int) = (nb : Int)) = true := by simp [hkl]
            have d5 : ((k : Int) == (nb : Int)) = true := by simp [hkl]
            clear hk0 hkl
            go_wp2_with fail
            go_ret
            exact ⟨rfl, HB7.out⟩
          · have d3 : decide (k = nb) = false := by simp [hkl]
            have d4 : decide ((k : Int) = (nb : Int)) = false := by simp; omega
            have d5 : ((k : Int) == (nb : Int)) = false := by simp; omega
            obtain ⟨o, g, rfl, hx⟩ := hBL.out k (by omega)
            have hlt := HHI.out (by omega)
            have hkn : k < nb := by omega
            generalize b.getD k 0 = y at *
            clear hk0 hkl
            go_wp2_with fail
            go_ret
            exact ⟨by first | rfl | simp, HB7.out⟩
        · have d0 : decide (k = 0) = false := by simp [hk0]
          have d1 : decide ((k : Int) = 0) = false := by simp [hk0]
          have d2 : ((k : Int) == 0) = false := by simp [hk0]
          obtain ⟨o, g, rfl, hx1⟩ := hBL.out (k - 1) (by omega)
          have hge := HLO.out (by omega)
          have e1 : IntKind.i64.wrap ((k : Int) - 1) = (k : Int) - 1 := IntWalk.i64_in _ (by omega)
          have e2 : (0 : Int) ≤ (k : Int) - 1 := by omega
          have e2' : (1 : Int) ≤ (k : Int) := by omega
          have e3 : ((k : Int) - 1).toNat = k - 1 := by omega
          have e4 : (k : Int) - 1 < (nb : Int) := by omega
          by_cases hkl : k = nb
          · have d3 : decide (k = nb) = true := by simp [hkl]
            have d4 : decide ((k : Int) = (nb : Int)) = true := by simp [hkl]
            have d5 : ((k : Int) == (nb : Int)) = true := by simp [hkl]
            generalize b.getD (k - 1) 0 = x at *
            clear hk0 hkl
            go_wp2_with fail
            go_ret
            exact ⟨by first | rfl | simp, HB7.out⟩
          · have d3 : decide (k = nb) = false := by simp [hkl]
            have d4 : decide ((k : Int) = (nb : Int)) = false := by simp; omega
            have d5 : ((k : Int) == (nb : Int)) = false := by simp; omega
            obtain ⟨o', g', hgo, hx⟩ := hBL.out k (by omega)
            injection hgo with hgo
            injection hgo with hg1 hg2
            subst hg1 hg2
            have hlt := HHI.out (by omega)
            have hkn : k < nb := by omega
            generalize b.getD (k - 1) 0 = x at *
            generalize b.getD k 0 = y at *
            clear hk0 hkl
            go_wp2_with fail
            go_ret
            exact ⟨by first | rfl | simp, HB7.out⟩
end Go.Proofs.Ytljmiodkmddllaa
