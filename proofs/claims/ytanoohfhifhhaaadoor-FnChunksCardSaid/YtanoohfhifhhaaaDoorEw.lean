/- Walks: the law FnExactBlockOf. -/
import Derived.Test.YtanoohfhifhhaaaDoorGd
import Derived.Test.YtanoohfhifhhaaaDoorEk
import Derived.Test.YtanoohfhifhhaaaDoorYm
import Derived.Test.YtanoohfhifhhaaaDoorEu
set_option linter.unusedVariables false
set_option linter.unusedSimpArgs false
namespace Go.Proofs.YtanoohfhifhhaaaDoor
open Go.RowKit

set_option maxRecDepth 100000 in
set_option maxHeartbeats 400000 in
theorem eqBlock_same (N : Int) (D : ByteArray) (w : World) :
    Calls Tryd.prog 63 #[.agg #[.int .i64 N, .string D], .agg #[.int .i64 N, .string D]] w fun e w' => e = .returned (.bool true) ∧ Below w.heap.size w w' := by
  go_enter Tryd.func63, Tryd.ntmps63
  go_wp2
  go_ret
  exact ⟨rfl, below2 w _ _⟩

end Go.Proofs.YtanoohfhifhhaaaDoor

/- Walks: the law FnExactUnchunked. -/
set_option linter.unusedVariables false
set_option linter.unusedSimpArgs false
namespace Go.Proofs.YtanoohfhifhhaaaDoor
open Go.RowKit

theorem uncO_ok (bs : List (Int × ByteArray)) : (∀ j, Rng ((ptsX (uncO bs)).getD j (0, 0)).1 ∧ Rng ((ptsX (uncO bs)).getD j (0, 0)).2) ∧ (ptsX (uncO bs)).length ≤ 1048576 := by
  have h0 : (∀ j, Rng (([] : List (Int × Int)).getD j (0, 0)).1 ∧ Rng (([] : List (Int × Int)).getD j (0, 0)).2) ∧ ([] : List (Int × Int)).length ≤ 1048576 := ⟨fun j => ⟨by simpa using rng_zero, by simpa using rng_zero⟩, Nat.zero_le _⟩
  unfold uncO
  split
  · rename_i hl
    cases hu : uncT bs bs.length with
    | none => exact h0
    | some xs =>
      dsimp only
      obtain ⟨q1, q2⟩ := uncT_ok hu
      split
      · exact ⟨q2, show xs.length ≤ 1048576 by omega⟩
      · exact h0
  · exact h0

set_option maxRecDepth 100000 in
set_option maxHeartbeats 4000000 in
theorem walkFnExactUnchunked (A : Option Addr) (n c : Nat) (w : World) (hT : Tab w) (hn : n ≤ maxLen) (hx : n ≤ 1048576 → ∃ xs : List (Int × ByteArray), xs.length = n ∧ BL w w.heap.size (.slice A n c) xs)  :
    Calls Tryd.prog 9 #[.slice A n c] w fun e w' => e = .returned (.bool true) ∧ Below w.heap.size w w' := by
  by_cases hbig : (1048576 : Int) < n
  · clear hx
    have hsz := Lib.hid (fun W => szBlockS_big A n c W hbig hn)
    unfold maxLen at hn
    go_enter Tryd.func9, Tryd.ntmps9
    go_wp2_with fail
    refine (hsz.out _).mono ?_
    rintro e w1 ⟨rfl, hb1⟩
    have HF := Lib.hid hb1
    clear hb1
    go_wp2_with fail
    go_ret
    exact ⟨rfl, HF.out⟩
  · obtain ⟨xs, rfl, hil⟩ := hx (by omega)
    have Hil := Lib.hid hil
    have Hrng := Lib.hid hil.1
    have HTab := Lib.hid hT
    unfold maxLen at hn
    go_enter Tryd.func9, Tryd.ntmps9
    go_wp2_with fail
    refine (szBlockS_any _ xs w hil).mono ?_
    rintro e w0 ⟨hz, hb0⟩
    have B0 := Lib.hid hb0
    have Hil0 := Lib.hid ((Hil.out.below hb0).up hb0.size)
    clear Hil hb0 hil hx hT
    rcases hz with rfl | ⟨L, rfl, hL0, hsz⟩
    · go_wp2_with fail
      go_ret
      exact ⟨rfl, B0.out⟩
    have e1 : ¬ L < 0 := by omega
    have hsp := Lib.hid (fun v W h => specUnchunked_any v xs W h hsz)
    have him := Lib.hid (fun v W h hT => implUnchunked_any v xs W h hsz hT)
    unfold POutF at hsp him
    clear hsz hL0
    obtain ⟨yr, hyl⟩ := uncO_ok xs
    have YR := Lib.hid yr
    have hcp := Lib.hid (fun v W h => toBlockS_any v xs W h)
    have heqA := Lib.hid (fun v u W h h' => eqBlockS_any v u xs xs W h h')
    rw [decide_eq_true rfl] at heqA
    have hmkA : Hid (∀ (base : Nat) (v : Value) (W : World), base ≤ W.heap.size → W.ownsRow base 36 2 v xs.length (bks xs) → Calls Tryd.prog 38 #[v, .int .i64 1] W (MarkPostK base v xs.length 1 W)) := Lib.hid (fun base v W hb h => markBlockS_any base v 1 xs W (by omega) (by omega) (by omega) hb h)
    unfold MarkPostK at hmkA
    clear yr
    generalize (ptsX (uncO xs)) = ys at *
    have heqR := Lib.hid (fun v u W h h' => eqPointS_any v u ys ys W h h')
    rw [decide_eq_true rfl] at heqR
    have hmkR := Lib.hid (fun base v W h => markPointS_any base v 1 ys W (by omega) (by omega) hyl h)
    have hhdR := Lib.hid (fun v W h => heldPointS_any v ys.length 1 W (by omega) (by omega) h)
    have hmr := Lib.hid (marks2_rng 1 ys.length (by omega) (by omega) hyl)
    generalize ptsF (uncO xs) = fb at *
    cases fb
    all_goals
      go_wp2_with fail
      refine (hcp.out _ _ Hil0.out).mono ?_
      rintro e w1 ⟨v1, rfl, hown1, hb1⟩
      have H1 := Lib.hid (BL.of_own hown1 rfl Hrng.out (by omega))
      have Hil1 := Lib.hid ((Hil0.out.below hb1).up hb1.size)
      have B1 := Lib.hid (B0.out.trans (hb1.mono B0.out.size))
      clear hown1 hb1 Hil0 B0 e1
      go_wp2_with fail
      refine (hsp.out _ _ H1.out).mono ?_
      rintro e w2 ⟨v2, rfl, hown2, hb2⟩
      have R2 := Lib.hid (PL.of_own hown2 rfl YR.out hyl)
      have Hil2 := Lib.hid ((Hil1.out.below hb2).up hb2.size)
      have B2 := Lib.hid (B1.out.trans (hb2.mono B1.out.size))
      clear hown2 hb2 Hil1 B1 H1
      go_wp2_with fail
      refine (hcp.out _ _ Hil2.out).mono ?_
      rintro e w3 ⟨v3, rfl, hown3, hb3⟩
      have S0 := B2.out.size
      have S3 := hb3.size
      have O3 := Lib.hid hown3
      have Q3 := Lib.hid hown3.lt
      have R3 := Lib.hid (R2.out.below hb3)
      have Hil3 := Lib.hid (Hil2.out.below hb3)
      have B3 := Lib.hid (B2.out.trans (hb3.mono S0))
      clear hown3 hb3 Hil2 B2 R2
      go_wp2_with fail
      refine (him.out _ _ (BL.of_own O3.out rfl Hrng.out (by omega)) (HTab.out.below B3.out)).mono ?_
      rintro e w4 ⟨v4, rfl, hown4, hb4⟩
      have S4 := hb4.size
      have O4 := Lib.hid hown4
      have P4 := Lib.hid (u_own_below O3.out hb4)
      have R4 := Lib.hid (R3.out.below (hb4.mono S3))
      have Hil4 := Lib.hid (Hil3.out.below (hb4.mono S3))
      have B4 := Lib.hid (B3.out.trans (hb4.mono (by omega)))
      clear hown4 hb4 Hil3 B3 R3 O3
      go_wp2_with fail
      refine (heqR.out _ _ _ (PL.of_own O4.out rfl YR.out hyl) (R4.out.up (by omega))).mono ?_
      rintro e w5 ⟨rfl, hb5⟩
      have S5 := hb5.size
      have O5 := Lib.hid (u_own_below O4.out hb5)
      have P5 := Lib.hid (u_own_below P4.out hb5)
      have R5 := Lib.hid (R4.out.below (hb5.mono (by omega)))
      have Hil5 := Lib.hid (Hil4.out.below (hb5.mono (by omega)))
      have B5 := Lib.hid (B4.out.trans (hb5.mono (by omega)))
      clear hb5 Hil4 B4 R4 O4 P4
      go_wp2_with fail
      refine (hcp.out _ _ (Hil5.out.up (by omega))).mono ?_
      rintro e w6 ⟨v6, rfl, hown6, hb6⟩
      have S6 := hb6.size
      have H6 := Lib.hid (BL.of_own hown6 rfl Hrng.out (by omega))
      have O6 := Lib.hid (u_own_below O5.out hb6)
      have P6 := Lib.hid (u_own_below P5.out hb6)
      have R6' := Lib.hid (R5.out.below (hb6.mono (by omega)))
      have Hil6 := Lib.hid (Hil5.out.below (hb6.mono (by omega)))
      have B6 := Lib.hid (B5.out.trans (hb6.mono (by omega)))
      clear hb6 hown6 Hil5 B5 R5 O5 P5
      go_wp2_with fail
      refine (heqA.out _ _ _ (BL.of_own P6.out rfl Hrng.out (by omega)) H6.out).mono ?_
      rintro e w7 ⟨rfl, hb7⟩
      have S7 := hb7.size
      have O7 := Lib.hid (u_own_below O6.out hb7)
      have P7 := Lib.hid (u_own_below P6.out hb7)
      have R7 := Lib.hid (R6'.out.below (hb7.mono (by omega)))
      have Hil7 := Lib.hid (Hil6.out.below (hb7.mono (by omega)))
      have B7 := Lib.hid (B6.out.trans (hb7.mono (by omega)))
      clear hb7 Hil6 B6 R6' O6 P6 H6
      go_wp2_with fail
      refine (hmkA.out _ _ _ (by omega) P7.out).mono ?_
      rintro e w8 ⟨rfl, hb8, hg8⟩
      have S8 := hg8.size
      have hne : v4.ownBlock = none ∨ v4.ownBlock ≠ v3.ownBlock := by
        cases h4 : v4.ownBlock with
        | none => exact .inl rfl
        | some k4 =>
          right
          intro h3
          have q4 := (O7.out.lt k4 h4).1
          have q3 := (Q3.out k4 h3.symm).2
          omega
      have O8 := Lib.hid (O7.out.kept hg8 hne)
      have R8 := Lib.hid (R7.out.below hb8)
      have Hil8 := Lib.hid (Hil7.out.below hb8)
      have B8 := Lib.hid (B7.out.trans (hb8.mono (by omega)))
      clear hb8 hg8 hne Hil7 B7 R7 O7 P7 Q3
      go_wp2_with fail
      refine (heqR.out _ _ _ (PL.of_own O8.out rfl YR.out hyl) (R8.out.up (by omega))).mono ?_
      rintro e w9 ⟨rfl, hb9⟩
      have S9 := hb9.size
      have O9 := Lib.hid (u_own_below O8.out hb9)
      have R9 := Lib.hid (R8.out.below (hb9.mono (by omega)))
      have Hil9 := Lib.hid (Hil8.out.below (hb9.mono (by omega)))
      have B9 := Lib.hid (B8.out.trans (hb9.mono (by omega)))
      clear hb9 Hil8 B8 R8 O8
      go_wp2_with fail
      refine (hmkR.out _ _ _ O9.out).mono ?_
      rintro e w10 ⟨rfl, hown10, hb10, hg10⟩
      have S10 := hg10.size
      have G10 := Lib.hid (PL.of_own hown10 (marks2_length _ _).symm hmr.out (by rw [marks2_length]; exact hyl))
      have R10 := Lib.hid (R9.out.below (hb10.mono (by omega)))
      have Hil10 := Lib.hid (Hil9.out.below (hb10.mono (by omega)))
      have B10 := Lib.hid (B9.out.trans (hb10.mono (by omega)))
      clear hown10 hb10 hg10 Hil9 B9 R9 O9
      go_wp2_with fail
      refine (hhdR.out _ _ G10.out).mono ?_
      rintro e w11 ⟨rfl, rfl⟩
      go_wp2_with fail
      refine (hcp.out _ _ (Hil10.out.up (by omega))).mono ?_
      rintro e w11 ⟨v11, rfl, hown11, hb11⟩
      have S11 := hb11.size
      have H11 := Lib.hid (BL.of_own hown11 rfl Hrng.out (by omega))
      have G11 := Lib.hid ((G10.out.below hb11).up hb11.size)
      have R11 := Lib.hid (R10.out.below (hb11.mono (by omega)))
      have B11 := Lib.hid (B10.out.trans (hb11.mono (by omega)))
      clear hown11 hb11 Hil10 B10 R10 G10
      go_wp2_with fail
      refine (him.out _ _ H11.out (HTab.out.below B11.out)).mono ?_
      rintro e w12 ⟨v12, rfl, hown12, hb12⟩
      have S12 := hb12.size
      have J12 := Lib.hid (PL.of_own hown12 rfl YR.out hyl)
      have G12 := Lib.hid ((G11.out.below hb12).up hb12.size)
      have R12 := Lib.hid (R11.out.below (hb12.mono (by omega)))
      have B12 := Lib.hid (B11.out.trans (hb12.mono (by omega)))
      clear hown12 hb12 B11 R11 G11 H11
      go_wp2_with fail
      refine (heqR.out _ _ _ J12.out (R12.out.up (by omega))).mono ?_
      rintro e w13 ⟨rfl, hb13⟩
      have G13 := Lib.hid ((G12.out.below hb13).up hb13.size)
      have B13 := Lib.hid (B12.out.trans (hb13.mono (by omega)))
      clear hb13 B12 R12 G12 J12
      go_wp2_with fail
      refine (hhdR.out _ _ G13.out).mono ?_
      rintro e w14 ⟨rfl, rfl⟩
      go_wp2_with fail
      go_ret
      exact ⟨rfl, B13.out⟩
end Go.Proofs.YtanoohfhifhhaaaDoor

/- Walks: the law FnChunks. -/
set_option linter.unusedVariables false
set_option linter.unusedSimpArgs false
namespace Go.Proofs.YtanoohfhifhhaaaDoor
open Go.RowKit

set_option maxRecDepth 100000 in
set_option maxHeartbeats 8000000 in
theorem walkFnChunks (A : Option Addr) (n c : Nat) (w : World) (h : n ≤ 1048576 → CodeAt w A n c) (hT : Tab w) :
    Calls Tryd.prog 3 #[.slice A n c] w fun e w' => e = .returned (.bool true) ∧ Below w.heap.size w w' := by
  have hbig := fun W => big_any A n c W
  have HTab := Lib.hid hT
  clear hT
  by_cases hn : n ≤ 1048576
  case neg =>
    have hd : decide (1048576 < (n : Int)) = true := by simp; omega
    rw [hd] at hbig
    have Hbig := Lib.hid hbig
    clear hbig hd h
    go_enter Tryd.func3, Tryd.ntmps3
    go_wp2_with fail
    refine (Hbig.out _).mono ?_
    rintro e w' ⟨rfl, rfl⟩
    go_wp2_with fail
    go_ret
    exact ⟨rfl, Below.refl _ _⟩
  case pos =>
    have H := Lib.hid (h hn)
    have hd : decide (1048576 < (n : Int)) = false := by simp; omega
    rw [hd] at hbig
    have Hbig := Lib.hid hbig
    clear hbig hd h
    go_enter Tryd.func3, Tryd.ntmps3
    go_wp2_with fail
    refine (Hbig.out _).mono ?_
    rintro e w' ⟨rfl, rfl⟩
    go_wp2_with fail
    refine (DrawChunks_any A n c _ H.out).mono ?_
    rintro e w1 ⟨vx, xs, z, rfl, ho1, hxl, hxr, hrz, hb1⟩
    have OX1 := Lib.hid (show w1.ownsRow w.heap.size 41 2 vx xs.length (prs xs) from ho1)
    have HC1 := Lib.hid (H.out.below hb1)
    have B1 := Lib.hid hb1
    have XR := Lib.hid hxr
    have HIC := Lib.hid (fun W h hc hT => implChunks_any vx xs z W h hc hT)
    have HSC := Lib.hid (fun W h hc => specChunks_any vx xs z W h hc)
    obtain ⟨rm, hml⟩ := chsM_ok xs z
    have RM := Lib.hid rm
    have hszm : ∀ j, ((chsM xs z).getD j (0, emB)).2.size ≤ 1048576 := fun j => by have := ((chsM_small xs z).1 j).2; omega
    have HIU2 := Lib.hid (fun v W h hT => implUnchunked_any v (chsM xs z) W h hszm hT)
    have HSB := Lib.hid (fun v u W h h' => sameBlocks_any v u (chsM xs z) W h h')
    have HSX := Lib.hid (fun v u W h h' => samePointsK_any v u xs W h h')
    have HF1 := Lib.hid (fun h => uncO_chk hxr (z := z) h)
    have HF2 := Lib.hid (fun h => chs_sizes (xs := xs) (z := z) h)
    unfold BOutF at HIC HSC
    unfold POutF at HIU2
    obtain ⟨cs, hcs⟩ : ∃ cs, chsM xs z = cs := ⟨_, rfl⟩
    obtain ⟨fb, hfb⟩ : ∃ fb, chsB xs z = fb := ⟨_, rfl⟩
    rw [hcs] at RM hml HIU2 HSB HIC HSC HF1 HF2
    rw [hfb] at HIC HSC HF1 HF2
    clear ho1 hb1 hszm rm hcs hfb H Hbig hrz hxr
    go_wp2_with fail
    refine (HIC.out _ (PL.of_own OX1.out rfl XR.out (by omega)) (CapOk.of_own OX1.out) (HTab.out.below B1.out)).mono ?_
    rintro e w2 ⟨v2, rfl, ho2, hb2⟩
    have OM2 := Lib.hid (show w2.ownsRow w1.heap.size 36 2 v2 cs.length (bks cs) from ho2)
    have OX2 := Lib.hid (u_own_below OX1.out hb2)
    have B2 := Lib.hid (B1.out.trans (hb2.mono B1.out.size))
    have HC2 := Lib.hid (HC1.out.below hb2)
    clear hb2 ho2 OX1 B1 HC1
    go_wp2_with fail
    refine (HSC.out _ (PL.of_own OX2.out rfl XR.out (by omega)) (CapOk.of_own OX2.out)).mono ?_
    rintro e w3 ⟨v3, rfl, ho3, hb3⟩
    have OS3 := Lib.hid (show w3.ownsRow w2.heap.size 36 2 v3 cs.length (bks cs) from ho3)
    have OX3 := Lib.hid (u_own_below OX2.out hb3)
    have OM3 := Lib.hid (u_own_below OM2.out hb3)
    have B3 := Lib.hid (B2.out.trans (hb3.mono B2.out.size))
    have HC3 := Lib.hid (HC2.out.below hb3)
    clear hb3 ho3 OX2 OM2 B2 HC2
    go_wp2_with fail
    refine (DrawUnchunked_any A n c _ HC3.out).mono ?_
    rintro e w4 ⟨vb, bs, rfl, hq4, hbl, hbr, hb4⟩
    have OX4 := Lib.hid (u_own_below OX3.out hb4)
    have OM4 := Lib.hid (u_own_below OM3.out hb4)
    have OS4 := Lib.hid (u_own_below OS3.out hb4)
    have B4 := Lib.hid (B3.out.trans (hb4.mono B3.out.size))
    have HC4 := Lib.hid (HC3.out.below hb4)
    clear hb4 OX3 OM3 OS3 B3 HC3
    have OB4 := Lib.hid (u_ownsRow_base hq4 (Nat.le_refl _))
    have RB := Lib.hid (show ∀ j, Rng (bs.getD j (0, emB)).1 ∧ (bs.getD j (0, emB)).2.size ≤ maxLen from fun j => ⟨(hbr j).1, by have := (hbr j).2; unfold maxLen; omega⟩)
    have hsz : ∀ j, (bs.getD j (0, emB)).2.size ≤ 1048576 := fun j => by have := (hbr j).2; omega
    have HIU := Lib.hid (fun W h hT => implUnchunked_any vb bs W h hsz hT)
    have HSU := Lib.hid (fun W h => specUnchunked_any vb bs W h hsz)
    obtain ⟨yr, hyl⟩ := uncO_ok bs
    have YR := Lib.hid yr
    unfold POutF at HIU HSU
    generalize ptsX (uncO bs) = ys at *
    generalize ptsF (uncO bs) = ff at *
    have HSP := Lib.hid (fun v u W h h' => samePointsK_any v u ys W h h')
    have hnf : (ff != ff) = false := by simp
    have hef : (ff == ff) = true := by simp
    clear hq4 hbr hsz yr HC4
    go_wp2_with fail
    refine (HIU.out _ (BL.of_own OB4.out rfl RB.out (by omega)) (HTab.out.below B4.out)).mono ?_
    rintro e w5 ⟨v5, rfl, ho5, hb5⟩
    have OP5 := Lib.hid (show w5.ownsRow w4.heap.size 41 2 v5 ys.length (prs ys) from ho5)
    have OX5 := Lib.hid (u_own_below OX4.out hb5)
    have OM5 := Lib.hid (u_own_below OM4.out hb5)
    have OS5 := Lib.hid (u_own_below OS4.out hb5)
    have OB5 := Lib.hid (u_own_below OB4.out hb5)
    have B5 := Lib.hid (B4.out.trans (hb5.mono B4.out.size))
    clear hb5 ho5 OX4 OM4 OS4 OB4 B4
    go_wp2_with fail
    refine (HSU.out _ (BL.of_own OB5.out rfl RB.out (by omega))).mono ?_
    rintro e w6 ⟨v6, rfl, ho6, hb6⟩
    have OQ6 := Lib.hid (show w6.ownsRow w5.heap.size 41 2 v6 ys.length (prs ys) from ho6)
    have OX6 := Lib.hid (u_own_below OX5.out hb6)
    have OM6 := Lib.hid (u_own_below OM5.out hb6)
    have OS6 := Lib.hid (u_own_below OS5.out hb6)
    have OB6 := Lib.hid (u_own_below OB5.out hb6)
    have OP6 := Lib.hid (u_own_below OP5.out hb6)
    have B6 := Lib.hid (B5.out.trans (hb6.mono B5.out.size))
    clear hb6 ho6 OX5 OM5 OS5 OB5 OP5 B5
    cases fb with
    | false =>
      go_wp2_with fail
      refine (HSB.out _ _ _ (BL.of_own OM6.out rfl RM.out (by omega)) (BL.of_own OS6.out rfl RM.out (by omega))).mono ?_
      rintro e w7 ⟨rfl, hb7⟩
      have OX7 := Lib.hid (u_own_below OX6.out hb7)
      have OM7 := Lib.hid (u_own_below OM6.out hb7)
      have OS7 := Lib.hid (u_own_below OS6.out hb7)
      have OB7 := Lib.hid (u_own_below OB6.out hb7)
      have OP7 := Lib.hid (u_own_below OP6.out hb7)
      have OQ7 := Lib.hid (u_own_below OQ6.out hb7)
      have B7 := Lib.hid (B6.out.trans (hb7.mono B6.out.size))
      clear hb7 OX6 OM6 OS6 OB6 OP6 OQ6 B6
      go_wp2_with fail
      refine (HSP.out _ _ _ (PL.of_own OP7.out rfl YR.out (by omega)) (PL.of_own OQ7.out rfl YR.out (by omega))).mono ?_
      rintro e w8 ⟨rfl, hb8⟩
      have OX8 := Lib.hid (u_own_below OX7.out hb8)
      have OM8 := Lib.hid (u_own_below OM7.out hb8)
      have OS8 := Lib.hid (u_own_below OS7.out hb8)
      have OB8 := Lib.hid (u_own_below OB7.out hb8)
      have OP8 := Lib.hid (u_own_below OP7.out hb8)
      have OQ8 := Lib.hid (u_own_below OQ7.out hb8)
      have B8 := Lib.hid (B7.out.trans (hb8.mono B7.out.size))
      clear hb8 OX7 OM7 OS7 OB7 OP7 OQ7 B7
      go_wp2_with fail
      refine (HSB.out _ _ _ (BL.of_own OM8.out rfl RM.out (by omega)) (BL.of_own OS8.out rfl RM.out (by omega))).mono ?_
      rintro e w9 ⟨rfl, hb9⟩
      have OX9 := Lib.hid (u_own_below OX8.out hb9)
      have OM9 := Lib.hid (u_own_below OM8.out hb9)
      have OS9 := Lib.hid (u_own_below OS8.out hb9)
      have OB9 := Lib.hid (u_own_below OB8.out hb9)
      have OP9 := Lib.hid (u_own_below OP8.out hb9)
      have OQ9 := Lib.hid (u_own_below OQ8.out hb9)
      have B9 := Lib.hid (B8.out.trans (hb9.mono B8.out.size))
      clear hb9 OX8 OM8 OS8 OB8 OP8 OQ8 B8
      go_wp2_with fail
      refine (HSP.out _ _ _ (PL.of_own OP9.out rfl YR.out (by omega)) (PL.of_own OQ9.out rfl YR.out (by omega))).mono ?_
      rintro e w10 ⟨rfl, hb10⟩
      have OX10 := Lib.hid (u_own_below OX9.out hb10)
      have OM10 := Lib.hid (u_own_below OM9.out hb10)
      have OS10 := Lib.hid (u_own_below OS9.out hb10)
      have OB10 := Lib.hid (u_own_below OB9.out hb10)
      have OP10 := Lib.hid (u_own_below OP9.out hb10)
      have OQ10 := Lib.hid (u_own_below OQ9.out hb10)
      have B10 := Lib.hid (B9.out.trans (hb10.mono B9.out.size))
      clear hb10 OX9 OM9 OS9 OB9 OP9 OQ9 B9
      go_wp2_with fail
      go_ret
      exact ⟨rfl, B10.out⟩
    | true =>
      go_wp2_with fail
      refine (HSB.out _ _ _ (BL.of_own OM6.out rfl RM.out (by omega)) (BL.of_own OS6.out rfl RM.out (by omega))).mono ?_
      rintro e w7 ⟨rfl, hb7⟩
      have OX7 := Lib.hid (u_own_below OX6.out hb7)
      have OM7 := Lib.hid (u_own_below OM6.out hb7)
      have OS7 := Lib.hid (u_own_below OS6.out hb7)
      have OB7 := Lib.hid (u_own_below OB6.out hb7)
      have OP7 := Lib.hid (u_own_below OP6.out hb7)
      have OQ7 := Lib.hid (u_own_below OQ6.out hb7)
      have B7 := Lib.hid (B6.out.trans (hb7.mono B6.out.size))
      clear hb7 OX6 OM6 OS6 OB6 OP6 OQ6 B6
      go_wp2_with fail
      refine (HSP.out _ _ _ (PL.of_own OP7.out rfl YR.out (by omega)) (PL.of_own OQ7.out rfl YR.out (by omega))).mono ?_
      rintro e w8 ⟨rfl, hb8⟩
      have OX8 := Lib.hid (u_own_below OX7.out hb8)
      have OM8 := Lib.hid (u_own_below OM7.out hb8)
      have OS8 := Lib.hid (u_own_below OS7.out hb8)
      have OB8 := Lib.hid (u_own_below OB7.out hb8)
      have OP8 := Lib.hid (u_own_below OP7.out hb8)
      have OQ8 := Lib.hid (u_own_below OQ7.out hb8)
      have B8 := Lib.hid (B7.out.trans (hb8.mono B7.out.size))
      clear hb8 OX7 OM7 OS7 OB7 OP7 OQ7 B7
      have hunc := HF1.out (by first | rfl | trivial)
      obtain ⟨hz12, hsizes⟩ := HF2.out (by first | rfl | trivial)
      rw [hunc] at HIU2
      have HSZ := Lib.hid hsizes
      have HBM := Lib.hid (BL.of_own OM8.out rfl RM.out (by omega))
      obtain ⟨_, _, Am, cm, rfl, hcm⟩ := HBM.out
      clear hunc hsizes HF1 HF2
      go_wp2_with fail
      go_loopw [14] (fun i wr => ∃ j : Nat, i = .int .i64 j ∧ (j = 0 ∨ j + 1 ≤ cs.length) ∧ wr = w8) (fun i _ => cs.length + 1 - (intOf i).toNat)
      case atStart => exact ⟨0, rfl, .inl rfl, rfl⟩
      case round =>
        obtain ⟨j, rfl, hj, hwr⟩ := hrel
        subst wr
        have ej : IntKind.i64.wrap ((j : Int) + 1) = ((j + 1 : Nat) : Int) := by rw [IntWalk.i64_in _ (by omega)]; omega
        by_cases hlt : j + 1 < cs.length
        · rcases hcm with hcm | ⟨bm, om, rfl, hbm, hcm⟩
          · subst hcm; simp at hlt
          have hx0 := (hcm j (by omega)).1
          rw [(HSZ.out j (by omega)).2 hlt] at hx0
          have hjl : j < cs.length := by omega
          clear hcm
          go_wp2_with fail
          go_roundw
          case rel => exact ⟨j + 1, by go_num, .inr (by omega), by first | rfl | trivial⟩
          case measure => simp [intOf]; omega
        · have hlt' : ¬ ((j + 1 : Nat) : Int) < (cs.length : Int) := by omega
          go_wp2_with fail
          refine (HIU2.out _ _ (BL.of_own OM8.out rfl RM.out (by omega)) (HTab.out.below B8.out)).mono ?_
          rintro e w9 ⟨v9, rfl, ho9, hb9⟩
          have OR9 := Lib.hid (show w9.ownsRow w8.heap.size 41 2 v9 xs.length (prs xs) from ho9)
          have OX9 := Lib.hid (u_own_below OX8.out hb9)
          have OM9 := Lib.hid (u_own_below OM8.out hb9)
          have OS9 := Lib.hid (u_own_below OS8.out hb9)
          have OB9 := Lib.hid (u_own_below OB8.out hb9)
          have OP9 := Lib.hid (u_own_below OP8.out hb9)
          have OQ9 := Lib.hid (u_own_below OQ8.out hb9)
          have B9 := Lib.hid (B8.out.trans (hb9.mono B8.out.size))
          clear hb9 ho9 OX8 OM8 OS8 OB8 OP8 OQ8 B8
          go_wp2_with fail
          refine (HSX.out _ _ _ (PL.of_own OR9.out rfl XR.out (by omega)) (PL.of_own OX9.out rfl XR.out (by omega))).mono ?_
          rintro e w10 ⟨rfl, hb10⟩
          have OX10 := Lib.hid (u_own_below OX9.out hb10)
          have OM10 := Lib.hid (u_own_below OM9.out hb10)
          have OS10 := Lib.hid (u_own_below OS9.out hb10)
          have OB10 := Lib.hid (u_own_below OB9.out hb10)
          have OP10 := Lib.hid (u_own_below OP9.out hb10)
          have OQ10 := Lib.hid (u_own_below OQ9.out hb10)
          have OR10 := Lib.hid (u_own_below OR9.out hb10)
          have B10 := Lib.hid (B9.out.trans (hb10.mono B9.out.size))
          clear hb10 OX9 OM9 OS9 OB9 OP9 OQ9 OR9 B9
          by_cases h0 : cs.length = 0
          · have d0 : ((cs.length : Int) == 0) = true := by simp [h0]
            have d0' : decide ((cs.length : Int) = 0) = true := by simp [h0]
            have d0b : decide (cs = []) = true := by simp; exact List.eq_nil_of_length_eq_zero h0
            have d0c : decide (cs.length = 0) = true := by simp; exact List.eq_nil_of_length_eq_zero h0
            clear hlt hlt' ej hj h0
            go_wp2_with fail
            go_ret
            exact ⟨rfl, B10.out⟩
          · have d0 : ((cs.length : Int) == 0) = false := by simp; intro e; exact h0 (by rw [e]; rfl)
            have d0' : decide ((cs.length : Int) = 0) = false := by simp; intro e; exact h0 (by rw [e]; rfl)
            have d0b : decide (cs = []) = false := by simp; intro e; exact h0 (by rw [e]; rfl)
            have d0c : decide (cs.length = 0) = false := by simp; intro e; exact h0 (by rw [e]; rfl)
            obtain ⟨q, hq⟩ : ∃ q, cs.length - 1 = q := ⟨_, rfl⟩
            have eq1 : IntKind.i64.wrap ((cs.length : Int) - 1) = (q : Int) := by rw [IntWalk.i64_in _ (by omega)]; omega
            obtain ⟨_, _, Am', cm', he', hcm'⟩ := (BL.of_own OM10.out rfl RM.out (by omega) : BL _ _ _ cs)
            injection he' with he1 he2 he3
            clear hcm
            rcases hcm' with hcm' | ⟨bm', om', he4, hbm', hcm'⟩
            · subst hcm'; simp at h0
            rw [← he1] at he4
            subst he4
            clear he1 he2 he3
            have hx0 := (hcm' q (by omega)).1
            have hsz := (HSZ.out q (by omega)).1
            have hql : q < cs.length := by omega
            have hqI : (q : Int) < (cs.length : Int) := by omega
            generalize (cs.getD q (0, emB)).1 = x at *
            have d1 : decide (x ≤ z) = true := decide_eq_true hsz
            clear hcm' hq hlt hlt' ej hj
            go_wp2_with fail
            go_ret
            exact ⟨rfl, B10.out⟩
end Go.Proofs.YtanoohfhifhhaaaDoor
