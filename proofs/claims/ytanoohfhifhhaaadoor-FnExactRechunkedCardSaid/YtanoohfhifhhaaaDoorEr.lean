/- Walks: blocks made of blocks' points, both. -/
import Derived.Test.YtanoohfhifhhaaaDoorEn
import Derived.Test.YtanoohfhifhhaaaDoorEj
import Derived.Test.YtanoohfhifhhaaaDoorEp
set_option linter.unusedVariables false
set_option linter.unusedSimpArgs false
namespace Go.Proofs.YtanoohfhifhhaaaDoor
open Go.RowKit

def rchM (bs : List (Int × ByteArray)) (z : Int) : List (Int × ByteArray) := match uncO bs with
  | none => []
  | some xs => chsM xs z
def rchB (bs : List (Int × ByteArray)) (z : Int) : Bool := match uncO bs with
  | none => false
  | some xs => chsB xs z
theorem uncO_some {bs : List (Int × ByteArray)} {xs : List (Int × Int)} (h : uncO bs = some xs) : (∀ j, Rng (xs.getD j (0, 0)).1 ∧ Rng (xs.getD j (0, 0)).2) ∧ xs.length ≤ 1048576 ∧ ptsOkB xs = true ∧ bs.length ≤ 120 ∧ uncT bs bs.length = some xs := by
  unfold uncO at h
  split at h
  · rename_i hl
    cases hu : uncT bs bs.length with
    | none => rw [hu] at h; cases h
    | some ys =>
      rw [hu] at h
      dsimp only at h
      split at h
      · rename_i hk
        obtain rfl := Option.some.inj h
        obtain ⟨q1, q2⟩ := uncT_ok hu
        exact ⟨q2, by omega, hk, hl, rfl⟩
      · cases h
  · cases h

set_option maxRecDepth 100000 in
set_option maxHeartbeats 4000000 in
theorem specRechunked_any (v : Value) (bs : List (Int × ByteArray)) (z : Int) (w : World) (h : BL w w.heap.size v bs) (hsz : ∀ j, (bs.getD j (0, emB)).2.size ≤ 1048576) :
    Calls Tryd.prog 32 #[v, .int .i64 z] w (BOutF w.heap.size (rchM bs z) (rchB bs z) w) := by
  have HU := Lib.hid (specUnchunked_any v bs w h hsz)
  have HC := Lib.hid (fun v xs W h hc => specChunks_any v xs z W h hc)
  unfold POutF at HU
  unfold BOutF at HC

  obtain ⟨_, _, A, c, rfl, _⟩ := h
  clear hsz
  cases hu : uncO bs with
  | none =>
    have E1 := Lib.hid (show rchM bs z = [] by unfold rchM; rw [hu])
    have E2 := Lib.hid (show rchB bs z = false by unfold rchB; rw [hu])
    rw [hu] at HU
    clear hu
    go_enter Tryd.func32, Tryd.ntmps32
    go_wp2_with fail
    refine HU.out.mono ?_
    rintro e w1 ⟨v1, rfl, ho1, hb1⟩
    go_wp2_with fail
    go_ret2
    rw [E1.out, E2.out]
    exact ⟨_, rfl, World.ownsRow_nil _ _ _ _, hb1⟩
  | some xs =>
    obtain ⟨hr, hl, _⟩ := uncO_some hu
    have E1 := Lib.hid (show rchM bs z = chsM xs z by unfold rchM; rw [hu])
    have E2 := Lib.hid (show rchB bs z = chsB xs z by unfold rchB; rw [hu])
    rw [hu] at HU
    clear hu
    go_enter Tryd.func32, Tryd.ntmps32
    go_wp2_with fail
    refine HU.out.mono ?_
    rintro e w1 ⟨v1, rfl, ho1, hb1⟩
    have ho1' : w1.ownsRow _ 41 2 v1 xs.length (prs xs) := ho1
    have HP := Lib.hid (PL.of_own ho1' rfl hr hl)
    have HK := Lib.hid (CapOk.of_own ho1')
    have HB := Lib.hid hb1
    clear ho1 ho1' hb1 hr
    go_wp2_with fail
    refine (HC.out _ xs _ HP.out HK.out).mono ?_
    rintro e w2 ⟨v2, rfl, ho2, hb2⟩
    have hs1 := HB.out.size
    go_wp2_with fail
    go_ret2
    rw [E1.out, E2.out]
    exact ⟨_, rfl, u_ownsRow_base ho2 hs1, HB.out.trans (hb2.mono hs1)⟩

set_option maxRecDepth 100000 in
set_option maxHeartbeats 4000000 in
theorem implRechunked_any (v : Value) (bs : List (Int × ByteArray)) (z : Int) (w : World) (h : BL w w.heap.size v bs) (hsz : ∀ j, (bs.getD j (0, emB)).2.size ≤ 1048576) (hT : Tab w) :
    Calls Tryd.prog 31 #[v, .int .i64 z] w (BOutF w.heap.size (rchM bs z) (rchB bs z) w) := by
  have HU := Lib.hid (implUnchunked_any v bs w h hsz hT)
  have HC := Lib.hid (fun v xs W h hc hT => implChunks_any v xs z W h hc hT)
  unfold POutF at HU
  unfold BOutF at HC
  have HTab := Lib.hid hT
  obtain ⟨_, _, A, c, rfl, _⟩ := h
  clear hsz hT
  cases hu : uncO bs with
  | none =>
    have E1 := Lib.hid (show rchM bs z = [] by unfold rchM; rw [hu])
    have E2 := Lib.hid (show rchB bs z = false by unfold rchB; rw [hu])
    rw [hu] at HU
    clear hu
    go_enter Tryd.func31, Tryd.ntmps31
    go_wp2_with fail
    refine HU.out.mono ?_
    rintro e w1 ⟨v1, rfl, ho1, hb1⟩
    go_wp2_with fail
    go_ret2
    rw [E1.out, E2.out]
    exact ⟨_, rfl, World.ownsRow_nil _ _ _ _, hb1⟩
  | some xs =>
    obtain ⟨hr, hl, _⟩ := uncO_some hu
    have E1 := Lib.hid (show rchM bs z = chsM xs z by unfold rchM; rw [hu])
    have E2 := Lib.hid (show rchB bs z = chsB xs z by unfold rchB; rw [hu])
    rw [hu] at HU
    clear hu
    go_enter Tryd.func31, Tryd.ntmps31
    go_wp2_with fail
    refine HU.out.mono ?_
    rintro e w1 ⟨v1, rfl, ho1, hb1⟩
    have ho1' : w1.ownsRow _ 41 2 v1 xs.length (prs xs) := ho1
    have HP := Lib.hid (PL.of_own ho1' rfl hr hl)
    have HK := Lib.hid (CapOk.of_own ho1')
    have HB := Lib.hid hb1
    clear ho1 ho1' hb1 hr
    go_wp2_with fail
    refine (HC.out _ xs _ HP.out HK.out (HTab.out.below HB.out)).mono ?_
    rintro e w2 ⟨v2, rfl, ho2, hb2⟩
    have hs1 := HB.out.size
    go_wp2_with fail
    go_ret2
    rw [E1.out, E2.out]
    exact ⟨_, rfl, u_ownsRow_base ho2 hs1, HB.out.trans (hb2.mono hs1)⟩
end Go.Proofs.YtanoohfhifhhaaaDoor

/- Walks: the law FnExactRechunked. -/
set_option linter.unusedVariables false
set_option linter.unusedSimpArgs false
namespace Go.Proofs.YtanoohfhifhhaaaDoor
open Go.RowKit

theorem rchM_ok (bs : List (Int × ByteArray)) (z : Int) : (∀ j, Rng ((rchM bs z).getD j (0, emB)).1 ∧ ((rchM bs z).getD j (0, emB)).2.size ≤ maxLen) ∧ (rchM bs z).length ≤ 1048576 := by
  unfold rchM
  cases uncO bs with
  | none => exact ⟨fun j => ⟨by simpa using rng_zero, by simp; exact Nat.zero_le _⟩, Nat.zero_le _⟩
  | some xs => exact chsM_ok xs z

set_option maxRecDepth 100000 in
set_option maxHeartbeats 4000000 in
theorem walkFnExactRechunked (A : Option Addr) (n c : Nat) (z : Int) (w : World) (hT : Tab w) (hn : n ≤ maxLen) (hx : n ≤ 1048576 → ∃ xs : List (Int × ByteArray), xs.length = n ∧ BL w w.heap.size (.slice A n c) xs) (r_z : Rng z) :
    Calls Tryd.prog 12 #[.slice A n c, .int .i64 z] w fun e w' => e = .returned (.bool true) ∧ Below w.heap.size w w' := by
  by_cases hbig : (1048576 : Int) < n
  · clear hx
    have hsz := Lib.hid (fun W => szBlockS_big A n c W hbig hn)
    unfold maxLen at hn
    go_enter Tryd.func12, Tryd.ntmps12
    go_wp2_with fail
    refine (hsz.out _).mono ?_
    rintro e w1 ⟨rfl, hb1⟩
    have HF := Lib.hid hb1
    clear hb1
    go_wp2_with fail
    go_ret
    exact ⟨rfl, HF.out⟩
  · obtain ⟨xs, rfl, hil⟩ := hx (by omega)
    have Hil := Lib.hid hil
    have Hrng := Lib.hid hil.1
    have HTab := Lib.hid hT
    unfold maxLen at hn
    go_enter Tryd.func12, Tryd.ntmps12
    go_wp2_with fail
    refine (szBlockS_any _ xs w hil).mono ?_
    rintro e w0 ⟨hz, hb0⟩
    have B0 := Lib.hid hb0
    have Hil0 := Lib.hid ((Hil.out.below hb0).up hb0.size)
    clear Hil hb0 hil hx hT
    rcases hz with rfl | ⟨L, rfl, hL0, hsz⟩
    · go_wp2_with fail
      go_ret
      exact ⟨rfl, B0.out⟩
    have e1 : ¬ L < 0 := by omega
    have hsp := Lib.hid (fun v W h => specRechunked_any v xs z W h hsz)
    have him := Lib.hid (fun v W h hT => implRechunked_any v xs z W h hsz hT)
    unfold BOutF at hsp him
    clear hsz hL0
    obtain ⟨yr, hyl⟩ := rchM_ok xs z
    have YR := Lib.hid yr
    have hcp := Lib.hid (fun v W h => toBlockS_any v xs W h)
    have heqA := Lib.hid (fun v u W h h' => eqBlockS_any v u xs xs W h h')
    rw [decide_eq_true rfl] at heqA
    have hmkA : Hid (∀ (base : Nat) (v : Value) (W : World), base ≤ W.heap.size → W.ownsRow base 36 2 v xs.length (bks xs) → Calls Tryd.prog 38 #[v, .int .i64 1] W (MarkPostK base v xs.length 1 W)) := Lib.hid (fun base v W hb h => markBlockS_any base v 1 xs W (by omega) (by omega) (by omega) hb h)
    unfold MarkPostK at hmkA
    clear yr
    generalize (rchM xs z) = ys at *
    have heqR := Lib.hid (fun v u W h h' => eqBlockS_any v u ys ys W h h')
    rw [decide_eq_true rfl] at heqR
    have hmkR : Hid (∀ (base : Nat) (v : Value) (W : World), base ≤ W.heap.size → W.ownsRow base 36 2 v ys.length (bks ys) → Calls Tryd.prog 38 #[v, .int .i64 1] W (fun e w' => e = .returned (.int .i64 (1 + 2 * (ys.length : Int))) ∧ w'.ownsRow base 36 2 v ys.length (bks (mkBs 1 ys.length)) ∧ Below base W w' ∧ W.grownBy w' v.ownBlock)) := Lib.hid (fun base v W hb h => markBlockS_full base v 1 ys W (by omega) (by omega) hyl hb h)
    have hhdR : Hid (∀ (v : Value) (W : World), BL W W.heap.size v (mkBs 1 ys.length) → Calls Tryd.prog 39 #[v, .int .i64 1] W (fun e w' => e = .returned (.int .i64 (1 + 2 * (ys.length : Int))) ∧ Below W.heap.size W w')) := Lib.hid (fun v W h => heldBlockS_any v 1 ys.length W (by omega) (by omega) hyl h)
    have hmr := Lib.hid (mkBs_rng 1 ys.length (by omega) hyl)
    generalize rchB xs z = fb at *
    cases fb
    all_goals
      go_wp2_with fail
      refine (hcp.out _ _ Hil0.out).mono ?_
      rintro e w1 ⟨v1, rfl, hown1, hb1⟩
      have H1 := Lib.hid (BL.of_own hown1 rfl Hrng.out (by omega))
      have Hil1 := Lib.hid ((Hil0.out.below hb1).up hb1.size)
      have B1 := Lib.hid (B0.out.trans (hb1.mono B0.out.size))
      clear hown1 hb1 Hil0 B0 e1
      go_wp2_with fail
      refine (hsp.out _ _ H1.out).mono ?_
      rintro e w2 ⟨v2, rfl, hown2, hb2⟩
      have R2 := Lib.hid (BL.of_own hown2 rfl YR.out hyl)
      have Hil2 := Lib.hid ((Hil1.out.below hb2).up hb2.size)
      have B2 := Lib.hid (B1.out.trans (hb2.mono B1.out.size))
      clear hown2 hb2 Hil1 B1 H1
      go_wp2_with fail
      refine (hcp.out _ _ Hil2.out).mono ?_
      rintro e w3 ⟨v3, rfl, hown3, hb3⟩
      have S0 := B2.out.size
      have S3 := hb3.size
      have O3 := Lib.hid hown3
      have Q3 := Lib.hid hown3.lt
      have R3 := Lib.hid (R2.out.below hb3)
      have Hil3 := Lib.hid (Hil2.out.below hb3)
      have B3 := Lib.hid (B2.out.trans (hb3.mono S0))
      clear hown3 hb3 Hil2 B2 R2
      go_wp2_with fail
      refine (him.out _ _ (BL.of_own O3.out rfl Hrng.out (by omega)) (HTab.out.below B3.out)).mono ?_
      rintro e w4 ⟨v4, rfl, hown4, hb4⟩
      have S4 := hb4.size
      have O4 := Lib.hid hown4
      have P4 := Lib.hid (u_own_below O3.out hb4)
      have R4 := Lib.hid (R3.out.below (hb4.mono S3))
      have Hil4 := Lib.hid (Hil3.out.below (hb4.mono S3))
      have B4 := Lib.hid (B3.out.trans (hb4.mono (by omega)))
      clear hown4 hb4 Hil3 B3 R3 O3
      go_wp2_with fail
      refine (heqR.out _ _ _ (BL.of_own O4.out rfl YR.out hyl) (R4.out.up (by omega))).mono ?_
      rintro e w5 ⟨rfl, hb5⟩
      have S5 := hb5.size
      have O5 := Lib.hid (u_own_below O4.out hb5)
      have P5 := Lib.hid (u_own_below P4.out hb5)
      have R5 := Lib.hid (R4.out.below (hb5.mono (by omega)))
      have Hil5 := Lib.hid (Hil4.out.below (hb5.mono (by omega)))
      have B5 := Lib.hid (B4.out.trans (hb5.mono (by omega)))
      clear hb5 Hil4 B4 R4 O4 P4
      go_wp2_with fail
      refine (hcp.out _ _ (Hil5.out.up (by omega))).mono ?_
      rintro e w6 ⟨v6, rfl, hown6, hb6⟩
      have S6 := hb6.size
      have H6 := Lib.hid (BL.of_own hown6 rfl Hrng.out (by omega))
      have O6 := Lib.hid (u_own_below O5.out hb6)
      have P6 := Lib.hid (u_own_below P5.out hb6)
      have R6' := Lib.hid (R5.out.below (hb6.mono (by omega)))
      have Hil6 := Lib.hid (Hil5.out.below (hb6.mono (by omega)))
      have B6 := Lib.hid (B5.out.trans (hb6.mono (by omega)))
      clear hb6 hown6 Hil5 B5 R5 O5 P5
      go_wp2_with fail
      refine (heqA.out _ _ _ (BL.of_own P6.out rfl Hrng.out (by omega)) H6.out).mono ?_
      rintro e w7 ⟨rfl, hb7⟩
      have S7 := hb7.size
      have O7 := Lib.hid (u_own_below O6.out hb7)
      have P7 := Lib.hid (u_own_below P6.out hb7)
      have R7 := Lib.hid (R6'.out.below (hb7.mono (by omega)))
      have Hil7 := Lib.hid (Hil6.out.below (hb7.mono (by omega)))
      have B7 := Lib.hid (B6.out.trans (hb7.mono (by omega)))
      clear hb7 Hil6 B6 R6' O6 P6 H6
      go_wp2_with fail
      refine (hmkA.out _ _ _ (by omega) P7.out).mono ?_
      rintro e w8 ⟨rfl, hb8, hg8⟩
      have S8 := hg8.size
      have hne : v4.ownBlock = none ∨ v4.ownBlock ≠ v3.ownBlock := by
        cases h4 : v4.ownBlock with
        | none => exact .inl rfl
        | some k4 =>
          right
          intro h3
          have q4 := (O7.out.lt k4 h4).1
          have q3 := (Q3.out k4 h3.symm).2
          omega
      have O8 := Lib.hid (O7.out.kept hg8 hne)
      have R8 := Lib.hid (R7.out.below hb8)
      have Hil8 := Lib.hid (Hil7.out.below hb8)
      have B8 := Lib.hid (B7.out.trans (hb8.mono (by omega)))
      clear hb8 hg8 hne Hil7 B7 R7 O7 P7 Q3
      go_wp2_with fail
      refine (heqR.out _ _ _ (BL.of_own O8.out rfl YR.out hyl) (R8.out.up (by omega))).mono ?_
      rintro e w9 ⟨rfl, hb9⟩
      have S9 := hb9.size
      have O9 := Lib.hid (u_own_below O8.out hb9)
      have R9 := Lib.hid (R8.out.below (hb9.mono (by omega)))
      have Hil9 := Lib.hid (Hil8.out.below (hb9.mono (by omega)))
      have B9 := Lib.hid (B8.out.trans (hb9.mono (by omega)))
      clear hb9 Hil8 B8 R8 O8
      go_wp2_with fail
      refine (hmkR.out _ _ _ (by omega) O9.out).mono ?_
      rintro e w10 ⟨rfl, hown10, hb10, hg10⟩
      have S10 := hg10.size
      have G10 := Lib.hid (BL.of_own hown10 (mkBs_len _ _).symm hmr.out (by rw [mkBs_len]; exact hyl))
      have R10 := Lib.hid (R9.out.below (hb10.mono (by omega)))
      have Hil10 := Lib.hid (Hil9.out.below (hb10.mono (by omega)))
      have B10 := Lib.hid (B9.out.trans (hb10.mono (by omega)))
      clear hown10 hb10 hg10 Hil9 B9 R9 O9
      go_wp2_with fail
      refine (hhdR.out _ _ G10.out).mono ?_
      rintro e wh ⟨rfl, hbh⟩
      have SH := hbh.size
      have GH := Lib.hid ((G10.out.below hbh).up hbh.size)
      have RH := Lib.hid (R10.out.below (hbh.mono (by omega)))
      have HilH := Lib.hid (Hil10.out.below (hbh.mono (by omega)))
      have BH := Lib.hid (B10.out.trans (hbh.mono (by omega)))
      clear hbh Hil10 B10 R10 G10
      go_wp2_with fail
      refine (hcp.out _ _ (HilH.out.up (by omega))).mono ?_
      rintro e w11 ⟨v11, rfl, hown11, hb11⟩
      have S11 := hb11.size
      have H11 := Lib.hid (BL.of_own hown11 rfl Hrng.out (by omega))
      have G11 := Lib.hid ((GH.out.below hb11).up hb11.size)
      have R11 := Lib.hid (RH.out.below (hb11.mono (by omega)))
      have B11 := Lib.hid (BH.out.trans (hb11.mono (by omega)))
      clear hown11 hb11 HilH BH RH GH
      go_wp2_with fail
      refine (him.out _ _ H11.out (HTab.out.below B11.out)).mono ?_
      rintro e w12 ⟨v12, rfl, hown12, hb12⟩
      have S12 := hb12.size
      have J12 := Lib.hid (BL.of_own hown12 rfl YR.out hyl)
      have G12 := Lib.hid ((G11.out.below hb12).up hb12.size)
      have R12 := Lib.hid (R11.out.below (hb12.mono (by omega)))
      have B12 := Lib.hid (B11.out.trans (hb12.mono (by omega)))
      clear hown12 hb12 B11 R11 G11 H11
      go_wp2_with fail
      refine (heqR.out _ _ _ J12.out (R12.out.up (by omega))).mono ?_
      rintro e w13 ⟨rfl, hb13⟩
      have G13 := Lib.hid ((G12.out.below hb13).up hb13.size)
      have B13 := Lib.hid (B12.out.trans (hb13.mono (by omega)))
      clear hb13 B12 R12 G12 J12
      go_wp2_with fail
      refine (hhdR.out _ _ G13.out).mono ?_
      rintro e w14 ⟨rfl, hb14⟩
      go_wp2_with fail
      go_ret
      exact ⟨rfl, B13.out.trans (hb14.mono (by have := B13.out.size; omega))⟩
end Go.Proofs.YtanoohfhifhhaaaDoor
