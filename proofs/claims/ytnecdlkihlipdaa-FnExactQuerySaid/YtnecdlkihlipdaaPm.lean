/- Walks: the law FnExactPick. -/
import Derived.Test.YtnecdlkihlipdaaPk
set_option linter.unusedVariables false
set_option linter.unusedSimpArgs false
namespace Go.Proofs.Ytnecdlkihlipdaa
open Go.RowKit

theorem cv_of {w0 W : World} {B0 base : Nat} {v0 rv lv : Value} {c : Cs} (h : CV w0 B0 v0 c) (hr : W.ownsRow base 55 2 rv c.2.2.1.length (prs c.2.2.1)) (hl : LOwn W base lv c.2.2.2) : CV W W.heap.size (.agg #[.int .i64 c.1, .int .i64 c.2.1, rv, lv]) c := by
  obtain ⟨_, _, _, hP, hL, h1, h2⟩ := h
  exact ⟨rv, lv, rfl, PL.of_own hr rfl hP.1 hP.2.1, hl.read hL.1 hL.2.1 hL.rolls, h1, h2⟩
theorem CI.below' {w w' : World} {v : Value} {nw kp : Int} {A : Option Addr} {n c : Nat} {ks : List Nat} {lv : Value} (h : CI w w.heap.size v nw kp A n c ks lv) (hb : Below w.heap.size w w') (hs : w.heap.size ≤ w'.heap.size) : CI w' w'.heap.size v nw kp A n c ks lv := by
  obtain ⟨rfl, h1, h2, h3, h4, h5⟩ := h
  exact ⟨rfl, h1, h2, h3, fun hn => by
    obtain ⟨xs, hx, hp⟩ := h4 hn
    exact ⟨xs, hx, (hp.below hb).up hs⟩, (h5.below hb).up hs⟩
theorem CV.drew {w : World} {B : Nat} {v : Value} {c : Cs} (h : CV w B v c) : CV w.drew B v c := h
theorem below_undrew {w w' : World} {B : Nat} (h : Below B w.drew w') : Below B w w' := ((Below.refl B w).drew).trans h
theorem cv_step {w w' : World} {v : Value} {c : Cs} (h : CV w w.heap.size v c) (hb : Below w.heap.size w w') : CV w' w'.heap.size v c := (h.below hb).up hb.size
theorem szC_ok {n : Nat} {ks : List Nat} (h : ¬ szC n ks < 0) : n ≤ 1048576 ∧ ks.length ≤ 1048576 ∧ ∀ k ∈ ks, k ≤ 1048576 := by
  unfold szC at h
  split at h
  · exact absurd (show (-1 : Int) < 0 by omega) h
  · split at h
    · exact absurd (show (-1 : Int) < 0 by omega) h
    · exact ⟨by omega, by omega, szF_ok _ ks (by omega) (by omega) h⟩
theorem szC_bd (n : Nat) (ks : List Nat) : -1 ≤ szC n ks ∧ szC n ks ≤ 1048576 := by
  unfold szC
  split
  · omega
  · split
    · omega
    · exact szF_bd _ _ (by omega) (by omega)

set_option maxRecDepth 100000 in
set_option maxHeartbeats 4000000 in
theorem walkFnExactPick (v : Value) (nw kp : Int) (A : Option Addr) (n c : Nat) (ks : List Nat) (lv : Value) (q : Int) (w : World) (h : CI w w.heap.size v nw kp A n c ks lv) :
    Calls Try.prog 3 #[v, .int .i64 q] w fun e w' => e = .returned (.bool true) ∧ Below w.heap.size w w' := by
  obtain ⟨m, A2, c2, rfl, rfl⟩ : ∃ m A2 c2, lv = .slice A2 m c2 ∧ v = .agg #[.int .i64 nw, .int .i64 kp, .slice A n c, .slice A2 m c2] := by
    obtain ⟨rfl, _, _, _, _, _, _, A2, c2, rfl, _⟩ := h
    exact ⟨_, _, _, rfl, rfl⟩
  obtain ⟨w0, hw0⟩ : ∃ w0, w.alloc (.cells #[.int .i64 nw, .int .i64 kp, .slice A n c, .slice A2 m c2] 25) = w0 := ⟨_, rfl⟩
  have b0 : BoxN w0 w.heap.size #[.int .i64 nw, .int .i64 kp, .slice A n c, .slice A2 m c2] 25 := by rw [← hw0]; exact World.alloc_heap_new w _
  have BB0 := Lib.hid (show Below w.heap.size w w0 from by rw [← hw0]; exact (Below.refl _ _).alloc (Nat.le_refl _) _)
  have S0 := BB0.out.size
  have HS := Lib.hid (szCascade_any _ nw kp A n c ks _ w0 (h.below' BB0.out S0))
  have BX0 := Lib.hid b0
  have HW := Lib.hid hw0
  clear hw0
  have x0 := b0.cell (i := 0) rfl
  have x1 := b0.cell (i := 1) rfl
  have x2 := b0.cell (i := 2) rfl
  have x3 := b0.cell (i := 3) rfl
  clear b0
  have hbd := szC_bd n ks
  obtain ⟨r, hr⟩ : ∃ r, r = szC n ks := ⟨_, rfl⟩
  rw [← hr] at HS hbd
  by_cases hneg : r < 0
  · clear hr h
    go_enter Try.func3, Try.ntmps3
    go_wp2_with fail
    rw [HW.out]
    go_wp2_with fail
    refine HS.out.mono ?_
    rintro e w1 ⟨rfl, hb1⟩
    go_wp2_with fail
    go_ret
    exact ⟨rfl, BB0.out.trans (hb1.mono S0)⟩
  · obtain ⟨h1, h2, h3⟩ := szC_ok (by rw [← hr]; exact hneg)
    obtain ⟨cs, _, hcv⟩ := h.read h1 h2 h3
    have I0 := Lib.hid hcv
    have hcp := Lib.hid (fun v W h => toCascade_any v cs W h)
    have hsp := Lib.hid (fun v W h => specPick_any v cs q W h)
    have him := Lib.hid (fun v W h => implPick_any v cs q W h)
    have heq := Lib.hid (fun v u W h h' => eqCascade_same v u cs W h h')
    clear h hr hcv h1 h2 h3
    generalize pickM cs q = bb at *
    go_enter Try.func3, Try.ntmps3
    go_wp2_with fail
    rw [HW.out]
    go_wp2_with fail
    refine HS.out.mono ?_
    rintro e w1 ⟨rfl, hb1⟩
    have I1 := Lib.hid (I0.out.below (BB0.out.trans (hb1.mono S0)))
    have B1 := Lib.hid (BB0.out.trans (hb1.mono S0))
    have S1' := hb1.size
    have S1 : w.heap.size ≤ w1.heap.size := by omega
    have BX1 : Hid (BoxN w1 w.heap.size #[.int .i64 nw, .int .i64 kp, .slice A n c, .slice A2 m c2] 25) := Lib.hid ((hb1.block _ BX0.out.lt).trans BX0.out)
    clear hb1 HS x0 x1 x2 x3
    have x0 := BoxN.cell (i := 0) BX1.out rfl
    have x1 := BoxN.cell (i := 1) BX1.out rfl
    have x2 := BoxN.cell (i := 2) BX1.out rfl
    have x3 := BoxN.cell (i := 3) BX1.out rfl
    go_wp2_with fail
    refine (hcp.out _ _ (I1.out.up S1)).mono ?_
    rintro e w2 ⟨rv2, lv2, rfl, ho2, hl2, hb2⟩
    have I2 := Lib.hid (I1.out.below (hb2.mono S1))
    have C2 := Lib.hid (cv_of I0.out ho2 hl2)
    have S2 := hb2.size
    have BX2 : Hid (BoxN w2 w.heap.size #[.int .i64 nw, .int .i64 kp, .slice A n c, .slice A2 m c2] 25) := Lib.hid ((hb2.block _ (BoxN.lt BX1.out)).trans BX1.out)
    have B2 := Lib.hid (B1.out.trans (hb2.mono S1))
    clear ho2 hl2 hb2 I1 B1
    go_wp2_with fail
    refine (hsp.out _ _ C2.out).mono ?_
    rintro e w3 ⟨rfl, hb3⟩
    have S3 := hb3.size
    have BX3 : Hid (BoxN w3 w.heap.size #[.int .i64 nw, .int .i64 kp, .slice A n c, .slice A2 m c2] 25) := Lib.hid ((hb3.block _ (BoxN.lt BX2.out)).trans BX2.out)
    have I3 := Lib.hid (I2.out.below (hb3.mono (by omega)))
    have B3 := Lib.hid (B2.out.trans (hb3.mono (by omega)))
    clear x0 x1 x2 x3
    have x0 := BoxN.cell (i := 0) BX3.out rfl
    have x1 := BoxN.cell (i := 1) BX3.out rfl
    have x2 := BoxN.cell (i := 2) BX3.out rfl
    have x3 := BoxN.cell (i := 3) BX3.out rfl
    clear hb3 I2 B2 C2
    go_wp2_with fail
    refine (hcp.out _ _ (I3.out.up (by omega))).mono ?_
    rintro e w4 ⟨rv4, lv4, rfl, ho4, hl4, hb4⟩
    have S4 := hb4.size
    have BX4 : Hid (BoxN w4 w.heap.size #[.int .i64 nw, .int .i64 kp, .slice A n c, .slice A2 m c2] 25) := Lib.hid ((hb4.block _ (BoxN.lt BX3.out)).trans BX3.out)
    have I4 := Lib.hid (I3.out.below (hb4.mono (by omega)))
    have C4 := Lib.hid (cv_of I0.out ho4 hl4)
    have B4 := Lib.hid (B3.out.trans (hb4.mono (by omega)))
    obtain ⟨ra, rn, rc, rfl⟩ := own_shape ho4
    obtain ⟨la, ln, lc, rfl⟩ := hl4.shape
    clear ho4 hl4 hb4 I3 B3
    obtain ⟨wb, hwb⟩ : ∃ wb, w4.alloc (.cells #[.int .i64 cs.1, .int .i64 cs.2.1, .slice ra rn rc, .slice la ln lc] 31) = wb := ⟨_, rfl⟩
    have Y4 : Hid (BoxN wb w4.heap.size #[.int .i64 cs.1, .int .i64 cs.2.1, .slice ra rn rc, .slice la ln lc] 31) := Lib.hid (by rw [← hwb]; exact World.alloc_heap_new w4 _)
    have hbb : Below w4.heap.size w4 wb := by rw [← hwb]; exact (Below.refl _ _).alloc (Nat.le_refl _) _
    have Sb := hbb.size
    have Ib := Lib.hid (I4.out.below (hbb.mono (by omega)))
    have Cb := Lib.hid ((C4.out.below hbb).up Sb)
    have Bb := Lib.hid (B4.out.trans (hbb.mono (by omega)))
    have BXb : Hid (BoxN wb w.heap.size #[.int .i64 nw, .int .i64 kp, .slice A n c, .slice A2 m c2] 25) := Lib.hid ((hbb.block _ (BoxN.lt BX4.out)).trans BX4.out)
    have HWb := Lib.hid hwb
    have hlb : w4.heap.size < wb.heap.size := Y4.out.lt
    clear hwb hbb I4 C4 B4 x0 x1 x2 x3
    have y0 := BoxN.cell (i := 0) Y4.out rfl
    have y1 := BoxN.cell (i := 1) Y4.out rfl
    have y2 := BoxN.cell (i := 2) Y4.out rfl
    have y3 := BoxN.cell (i := 3) Y4.out rfl
    go_wp2_with fail
    rw [HWb.out]
    go_wp2_with fail
    refine (him.out _ _ Cb.out).mono ?_
    rintro e w5 ⟨rfl, hb5⟩
    have S5 := hb5.size
    have BX5 : Hid (BoxN w5 w.heap.size #[.int .i64 nw, .int .i64 kp, .slice A n c, .slice A2 m c2] 25) := Lib.hid ((hb5.block _ (BoxN.lt BXb.out)).trans BXb.out)
    have Y5 : Hid (BoxN w5 w4.heap.size #[.int .i64 cs.1, .int .i64 cs.2.1, .slice ra rn rc, .slice la ln lc] 31) := Lib.hid ((hb5.block _ Y4.out.lt).trans Y4.out)
    have I5 := Lib.hid (Ib.out.below (hb5.mono (by omega)))
    have C5 := Lib.hid ((Cb.out.below hb5).up hb5.size)
    have B5 := Lib.hid (Bb.out.trans (hb5.mono (by omega)))
    clear hb5 Ib Bb Cb y0 y1 y2 y3
    have x0 := BoxN.cell (i := 0) BX5.out rfl
    have x1 := BoxN.cell (i := 1) BX5.out rfl
    have x2 := BoxN.cell (i := 2) BX5.out rfl
    have x3 := BoxN.cell (i := 3) BX5.out rfl
    have y0 := BoxN.cell (i := 0) Y5.out rfl
    have y1 := BoxN.cell (i := 1) Y5.out rfl
    have y2 := BoxN.cell (i := 2) Y5.out rfl
    have y3 := BoxN.cell (i := 3) Y5.out rfl
    have I5u := Lib.hid (I5.out.up (show w.heap.size ≤ w5.heap.size by omega))
    have I5d : Hid (CV w5.drew w5.drew.heap.size _ cs) := Lib.hid I5u.out
    go_wp2_with fail
    go_region_law (first
      | (go_simp; go_at_call 16; refine (hcp.out _ _ (by first | with_reducible exact I5d.out | with_reducible exact I5u.out)).mono ?_; rintro e w6 ⟨rv6, lv6, rfl, ho6, hl6, hb6⟩; have C6 := Lib.hid (cv_of I0.out ho6 hl6); have C56 := Lib.hid (cv_step C5.out (by first | exact hb6 | exact below_undrew hb6)); have B6 := Lib.hid (B5.out.trans ((show Below w5.heap.size w5 w6 from by first | exact hb6 | exact below_undrew hb6).mono (by omega))); have Y6 : Hid (BoxN w6 w4.heap.size #[.int .i64 cs.1, .int .i64 cs.2.1, .slice ra rn rc, .slice la ln lc] 31) := Lib.hid ((Below.block (show Below w5.heap.size w5 w6 from by first | exact hb6 | exact below_undrew hb6) _ (BoxN.lt Y5.out)).trans Y5.out); have z0 := BoxN.cell (i := 0) Y6.out rfl; have z1 := BoxN.cell (i := 1) Y6.out rfl; have z2 := BoxN.cell (i := 2) Y6.out rfl; have z3 := BoxN.cell (i := 3) Y6.out rfl; clear ho6 hl6 hb6)
      | (go_simp; go_at_call 18; refine (heq.out _ _ _ (by first | with_reducible exact C56.out | with_reducible exact CV.drew C56.out) (by first | with_reducible exact C6.out | with_reducible exact CV.drew C6.out)).mono ?_; rintro e w7 ⟨rfl, hb7⟩; have B7 := Lib.hid (B6.out.trans ((show Below w6.heap.size w6 w7 from by first | exact hb7 | exact below_undrew hb7).mono B6.out.size)); clear hb7))
    all_goals
      go_simp
      go_wp2_with fail
      go_ret
      exact ⟨rfl, B7.out⟩
end Go.Proofs.Ytnecdlkihlipdaa
