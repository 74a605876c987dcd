/- Walks: the law FnExactQuery. -/
import Derived.Test.YtnecdlkihlipdaaPw
import Derived.Test.YtnecdlkihlipdaaPv
import Derived.Test.YtnecdlkihlipdaaPm
set_option linter.unusedVariables false
set_option linter.unusedSimpArgs false
namespace Go.Proofs.Ytnecdlkihlipdaa
open Go.RowKit

theorem ediv_bd {s n : Int} (hn : 1 ≤ n) (h1 : -1000000000000000 ≤ s) (h2 : s ≤ 1000000000000000) : -1000000000000001 ≤ s / n ∧ s / n ≤ 1000000000000000 := by
  have hf := floor_div (s := s) hn
  have hb := tdiv_bd (s := s) hn h1 h2
  by_cases h : s.tmod n < 0
  · rw [hf.1 h]; omega
  · rw [hf.2 h]; omega
theorem qryM_ok {c : Cs} {f t h : Int} (hr : CR c) : (∀ j, Rng ((qryM c f t h).getD j (0, 0)).1 ∧ Rng ((qryM c f t h).getD j (0, 0)).2) ∧ (qryM c f t h).length ≤ 1048576 := by
  cases hb : qryB c f t h with
  | false => rw [qryM_no hb]; exact ⟨fun j => ⟨rng_zero, rng_zero⟩, Nat.zero_le _⟩
  | true =>
    rw [qryM_yes hb]
    unfold qryB at hb
    rw [Bool.and_eq_true, decide_eq_true_iff] at hb
    obtain ⟨hcb, _, hpp⟩ := pickM_at hb.1
    obtain ⟨h1, h2⟩ := pickRs_tr hcb hr hpp
    generalize pickRs c (pickM c f) = rs at h1 h2
    have hl := qryL_len rs f t h
    refine ⟨fun j => ?_, by omega⟩
    by_cases hj : j < (qryL rs f t h).length
    · have hm : (qryL rs f t h).getD j (0, 0) ∈ qryL rs f t h := by
        rw [List.getD_eq_getElem?_getD, List.getElem?_eq_getElem hj]; exact List.getElem_mem hj
      generalize (qryL rs f t h).getD j (0, 0) = p at hm
      unfold qryL at hm
      obtain ⟨r, hr1, rfl⟩ := List.mem_map.1 hm
      have hr2 := (List.mem_filter.1 hr1).1
      obtain ⟨i, hi, rfl⟩ := List.getElem_of_mem hr2
      have h3 := h1 i hi
      rw [List.getD_eq_getElem?_getD, List.getElem?_eq_getElem hi] at h3
      obtain ⟨hc, hs, q0, q1, q2, q3, q4, q5⟩ := h3
      refine ⟨q0, ?_⟩
      simp only [Option.getD_some] at hc hs q1 q2 q3 q4 q5
      unfold aggV
      split
      · exact q1
      · split
        · exact q2
        · split
          · exact q3
          · split
            · exact q4
            · split
              · exact q5
              · have h5 := ediv_bd (s := rs[i].2.2.1) hc.1 hs.1 hs.2
                exact ⟨by omega, by omega⟩
    · rw [List.getD_eq_getElem?_getD, List.getElem?_eq_none (by omega)]; exact ⟨rng_zero, rng_zero⟩
set_option maxRecDepth 100000 in
set_option maxHeartbeats 8000000 in
theorem walkFnExactQuery (v : Value) (nw kp : Int) (A : Option Addr) (n c : Nat) (ks : List Nat) (lv : Value) (f t hw : Int) (w : World) (h : CI w w.heap.size v nw kp A n c ks lv) :
    Calls Try.prog 5 #[v, .int .i64 f, .int .i64 t, .int .i64 hw] w fun e w' => e = .returned (.bool true) ∧ Below w.heap.size w w' := by
  obtain ⟨m, A2, c2, rfl, rfl⟩ : ∃ m A2 c2, lv = .slice A2 m c2 ∧ v = .agg #[.int .i64 nw, .int .i64 kp, .slice A n c, .slice A2 m c2] := by
    obtain ⟨rfl, _, _, _, _, _, _, A2, c2, rfl, _⟩ := h
    exact ⟨_, _, _, rfl, rfl⟩
  obtain ⟨w0, hw0⟩ : ∃ w0, w.alloc (.cells #[.int .i64 nw, .int .i64 kp, .slice A n c, .slice A2 m c2] 25) = w0 := ⟨_, rfl⟩
  have b0 : BoxN w0 w.heap.size #[.int .i64 nw, .int .i64 kp, .slice A n c, .slice A2 m c2] 25 := by rw [← hw0]; exact World.alloc_heap_new w _
  have BB0 := Lib.hid (show Below w.heap.size w w0 from by rw [← hw0]; exact (Below.refl _ _).alloc (Nat.le_refl _) _)
  have S0 := BB0.out.size
  have HS := Lib.hid (szCascade_any _ nw kp A n c ks _ w0 (h.below' BB0.out S0))
  have BX0 := Lib.hid b0
  have HW := Lib.hid hw0
  clear hw0
  have x0 := b0.cell (i := 0) rfl
  have x1 := b0.cell (i := 1) rfl
  have x2 := b0.cell (i := 2) rfl
  have x3 := b0.cell (i := 3) rfl
  clear b0
  have hbd := szC_bd n ks
  obtain ⟨r, hr⟩ : ∃ r, r = szC n ks := ⟨_, rfl⟩
  rw [← hr] at HS hbd
  by_cases hneg : r < 0
  · clear hr h
    go_enter Try.func5, Try.ntmps5
    go_wp2_with fail
    rw [HW.out]
    go_wp2_with fail
    refine HS.out.mono ?_
    rintro e w1 ⟨rfl, hb1⟩
    go_wp2_with fail
    go_ret
    exact ⟨rfl, BB0.out.trans (hb1.mono S0)⟩
  · obtain ⟨h1, h2, h3⟩ := szC_ok (by rw [← hr]; exact hneg)
    obtain ⟨cs, _, hcv⟩ := h.read h1 h2 h3
    have I0 := Lib.hid hcv
    have HCR := Lib.hid hcv.cr
    have htc := totC_le hcv.cr
    have hcp := Lib.hid (fun v W h => toCascadeD_any v cs W h)
    have hsp := Lib.hid (fun v W h => specQuery_any v cs f t hw W h)
    have him := Lib.hid (fun v W h => implQuery_any v cs f t hw W h)
    have heq := Lib.hid (fun v u W h h' => eqCascade_same v u cs W h h')
    have hmc := Lib.hid (fun base top rv lv es W h => markCascade_any base top cs rv lv es 1 W (by omega) (by omega) HCR.out h)
    have htn := totC_nonneg cs
    obtain ⟨yr, hyl⟩ := qryM_ok (f := f) (t := t) (h := hw) hcv.cr
    have YR := Lib.hid yr
    generalize qryM cs f t hw = ys at *
    clear h hr hcv h1 h2 h3 yr
    have heqR := Lib.hid (fun v u W h h' => eqPointS_any v u ys ys W h h')
    rw [decide_eq_true rfl] at heqR
    have hmkR := Lib.hid (fun base v W h => markPointS_any base v 1 ys W (by omega) (by omega) hyl h)
    have hhdR := Lib.hid (fun v W h => heldPointS_any v ys.length 1 W (by omega) (by omega) h)
    have hmr := Lib.hid (marks2_rng 1 ys.length (by omega) (by omega) hyl)
    generalize qryB cs f t hw = fb at *
    cases fb
    all_goals
      go_enter Try.func5, Try.ntmps5
      go_wp2_with fail
      rw [HW.out]
      go_wp2_with fail
      refine HS.out.mono ?_
      rintro e w1 ⟨rfl, hb1⟩
      have I1 := Lib.hid (I0.out.below (BB0.out.trans (hb1.mono S0)))
      have B1 := Lib.hid (BB0.out.trans (hb1.mono S0))
      have BX1 : Hid (BoxN w1 w.heap.size #[.int .i64 nw, .int .i64 kp, .slice A n c, .slice A2 m c2] 25) := Lib.hid ((hb1.block _ BX0.out.lt).trans BX0.out)
      clear hb1 HS x0 x1 x2 x3
      have x0 := BoxN.cell (i := 0) BX1.out rfl
      have x1 := BoxN.cell (i := 1) BX1.out rfl
      have x2 := BoxN.cell (i := 2) BX1.out rfl
      have x3 := BoxN.cell (i := 3) BX1.out rfl
      go_wp2_with fail
      refine (hcp.out _ _ (I1.out.up B1.out.size)).mono ?_
      rintro e w2 ⟨rv2, lv2, es2, rfl, hd2, hb2⟩
      have I2 := Lib.hid (I1.out.below (hb2.mono B1.out.size))
      have C2 := Lib.hid (hd2.cv HCR.out)
      have BX2 : Hid (BoxN w2 w.heap.size #[.int .i64 nw, .int .i64 kp, .slice A n c, .slice A2 m c2] 25) := Lib.hid ((hb2.block _ BX1.out.lt).trans BX1.out)
      have B2 := Lib.hid (B1.out.trans (hb2.mono B1.out.size))
      clear hd2 hb2 I1 B1 x0 x1 x2 x3
      go_wp2_with fail
      refine (hsp.out _ _ C2.out).mono ?_
      rintro e w3 ⟨v3, rfl, ho3, hb3⟩
      have BX3 : Hid (BoxN w3 w.heap.size #[.int .i64 nw, .int .i64 kp, .slice A n c, .slice A2 m c2] 25) := Lib.hid ((hb3.block _ BX2.out.lt).trans BX2.out)
      have I3 := Lib.hid (I2.out.below (hb3.mono B2.out.size))
      have B3 := Lib.hid (B2.out.trans (hb3.mono B2.out.size))
      have R3 := Lib.hid (PL.of_own ho3 rfl YR.out hyl)
      clear ho3 hb3 I2 B2 C2 BX2 BX1
      have x0 := BoxN.cell (i := 0) BX3.out rfl
      have x1 := BoxN.cell (i := 1) BX3.out rfl
      have x2 := BoxN.cell (i := 2) BX3.out rfl
      have x3 := BoxN.cell (i := 3) BX3.out rfl
      go_wp2_with fail
      refine (hcp.out _ _ (I3.out.up B3.out.size)).mono ?_
      rintro e w4 ⟨rv4, lv4, es, rfl, hd4, hb4⟩
      have F4 := Lib.hid hb4
      have D4 := Lib.hid hd4
      obtain ⟨ra, rc, rfl⟩ := hd4.raw.shape
      obtain ⟨la, lc, rfl⟩ := hd4.lvl.row.shape
      clear hd4 hb4 x0 x1 x2 x3
      obtain ⟨rn, hrn⟩ : ∃ rn, cs.2.2.1.length = rn := ⟨_, rfl⟩
      obtain ⟨ln, hln⟩ : ∃ ln, cs.2.2.2.length = ln := ⟨_, rfl⟩
      rw [hrn, hln] at D4 ⊢
      have HRN := Lib.hid hrn
      have HLN := Lib.hid hln
      clear hrn hln
      obtain ⟨wb, hwb⟩ : ∃ wb, w4.alloc (.cells #[.int .i64 cs.1, .int .i64 cs.2.1, .slice ra rn rc, .slice la ln lc] 31) = wb := ⟨_, rfl⟩
      have Y4 : Hid (BoxN wb w4.heap.size #[.int .i64 cs.1, .int .i64 cs.2.1, .slice ra rn rc, .slice la ln lc] 31) := Lib.hid (by rw [← hwb]; exact World.alloc_heap_new w4 _)
      have hbb : Below w4.heap.size w4 wb := by rw [← hwb]; exact (Below.refl _ _).alloc (Nat.le_refl _) _
      have Fb := Lib.hid (F4.out.trans (hbb.mono F4.out.size))
      have Db := Lib.hid (D4.out.below hbb)
      have Cb : Hid (CV wb wb.heap.size (.agg #[.int .i64 cs.1, .int .i64 cs.2.1, .slice ra rn rc, .slice la ln lc]) cs) := Lib.hid (by have := Db.out.cv HCR.out; exact this)
      have HWb := Lib.hid hwb
      clear hwb hbb F4 D4
      have y0 := BoxN.cell (i := 0) Y4.out rfl
      have y1 := BoxN.cell (i := 1) Y4.out rfl
      have y2 := BoxN.cell (i := 2) Y4.out rfl
      have y3 := BoxN.cell (i := 3) Y4.out rfl
      go_wp2_with fail
      rw [HWb.out]
      go_wp2_with fail
      refine (him.out _ _ Cb.out).mono ?_
      rintro e w5 ⟨v5, rfl, ho5, hb5⟩
      have G5 := Lib.hid ho5
      have E5 := Lib.hid hb5
      have F5 := Lib.hid (Fb.out.trans (hb5.mono Fb.out.size))
      clear ho5 hb5 y0 y1 y2 y3
      go_wp2_with fail
      refine (heqR.out _ _ _ (PL.of_own G5.out rfl YR.out hyl) ((R3.out.below F5.out).up F5.out.size)).mono ?_
      rintro e w6 ⟨rfl, hb6⟩
      have G6 := Lib.hid (u_own_below G5.out hb6)
      have E6 := Lib.hid (E5.out.trans (hb6.mono E5.out.size))
      have F6 := Lib.hid (F5.out.trans (hb6.mono F5.out.size))
      clear hb6 G5 E5 F5
      have BX6 : Hid (BoxN w6 w.heap.size #[.int .i64 nw, .int .i64 kp, .slice A n c, .slice A2 m c2] 25) := Lib.hid ((F6.out.block _ BX3.out.lt).trans BX3.out)
      have Y6 : Hid (BoxN w6 w4.heap.size #[.int .i64 cs.1, .int .i64 cs.2.1, .slice ra rn rc, .slice la ln lc] 31) := Lib.hid ((E6.out.block _ Y4.out.lt).trans Y4.out)
      have x0 := BoxN.cell (i := 0) BX6.out rfl
      have x1 := BoxN.cell (i := 1) BX6.out rfl
      have x2 := BoxN.cell (i := 2) BX6.out rfl
      have x3 := BoxN.cell (i := 3) BX6.out rfl
      have y0 := BoxN.cell (i := 0) Y6.out rfl
      have y1 := BoxN.cell (i := 1) Y6.out rfl
      have y2 := BoxN.cell (i := 2) Y6.out rfl
      have y3 := BoxN.cell (i := 3) Y6.out rfl
      have I6u := Lib.hid ((I3.out.below (F6.out.mono B3.out.size)).up (show w.heap.size ≤ w6.heap.size from Nat.le_trans B3.out.size F6.out.size))
      have I6d : Hid (CV w6.drew w6.drew.heap.size _ cs) := Lib.hid I6u.out
      have C6 := Lib.hid ((Cb.out.below E6.out).up E6.out.size)
      go_wp2_with fail
      go_region_law (first
        | (go_simp; go_at_call 16; refine (hcp.out _ _ (by first | with_reducible exact I6d.out | with_reducible exact I6u.out)).mono ?_; rintro e w7 ⟨rv7, lv7, es7, rfl, hd7, hb7⟩; have C7 := Lib.hid (hd7.cv HCR.out); have N7 := Lib.hid (show Below w6.heap.size w6 w7 from by first | exact hb7 | exact below_undrew hb7); have C67 := Lib.hid ((C6.out.below N7.out).up N7.out.size); have Y7 : Hid (BoxN w7 w4.heap.size #[.int .i64 cs.1, .int .i64 cs.2.1, .slice ra rn rc, .slice la ln lc] 31) := Lib.hid ((N7.out.block _ (BoxN.lt Y6.out)).trans Y6.out); have z0 := BoxN.cell (i := 0) Y7.out rfl; have z1 := BoxN.cell (i := 1) Y7.out rfl; have z2 := BoxN.cell (i := 2) Y7.out rfl; have z3 := BoxN.cell (i := 3) Y7.out rfl; clear hd7 hb7)
        | (go_simp; go_at_call 18; refine (heq.out _ _ _ (by first | with_reducible exact C67.out | with_reducible exact CV.drew C67.out) (by first | with_reducible exact C7.out | with_reducible exact CV.drew C7.out)).mono ?_; rintro e w8 ⟨rfl, hb8⟩; have N8 := Lib.hid (N7.out.trans ((show Below w7.heap.size w7 w8 from by first | exact hb8 | exact below_undrew hb8).mono N7.out.size)); clear hb8))
      all_goals
        go_simp
        have G8 := Lib.hid (u_own_below G6.out N8.out)
        have E8 := Lib.hid (E6.out.trans (N8.out.mono E6.out.size))
        have F8 := Lib.hid (F6.out.trans (N8.out.mono F6.out.size))
        have D8 := Lib.hid (Db.out.below E8.out)
        have Y8 : Hid (BoxN w8 w4.heap.size #[.int .i64 cs.1, .int .i64 cs.2.1, .slice ra rn rc, .slice la ln lc] 31) := Lib.hid ((E8.out.block _ Y4.out.lt).trans Y4.out)
        clear N8 N7 C7 C67 C6 Y7 G6 E6 F6 BX6 Y6 I6u I6d z0 z1 z2 z3 x0 x1 x2 x3 y0 y1 y2 y3
        have y0 := BoxN.cell (i := 0) Y8.out rfl
        have y1 := BoxN.cell (i := 1) Y8.out rfl
        have y2 := BoxN.cell (i := 2) Y8.out rfl
        have y3 := BoxN.cell (i := 3) Y8.out rfl
        have hcal := Lib.hid (hmc.out _ _ _ _ _ w8 D8.out)
        go_wp2_with fail
        refine hcal.out.mono ?_
        rintro e w9 ⟨rfl, hx9, wm, hbm, hc9⟩
        have hlo : ∀ g, CBk cs (.slice ra rn rc) (.slice la ln lc) es g → w3.heap.size ≤ g ∧ g < w4.heap.size := fun g hg => ⟨(Db.out.lt hg).1, (Db.out.lt hg).2.1⟩
        have G9 := Lib.hid (show w9.ownsRow wb.heap.size 55 2 v5 ys.length (prs ys) from by
          have gm := u_own_below G8.out hbm
          refine own_chg gm hc9 (fun g hg hS => ?_)
          have q1 := (gm.lt g hg).1
          have q2 := (hlo g hS).2
          have q3 := Y4.out.lt
          omega)
        have F9 := Lib.hid ((F8.out.trans (hbm.mono F8.out.size)).trans (hc9.below (base := w3.heap.size) (Nat.le_trans F8.out.size hbm.size) (fun g hg => (hlo g hg).1)))
        clear hx9 hbm hc9 hlo hcal G8 E8 F8 D8 Y8 y0 y1 y2 y3
        have d9 : decide (1 + totC cs < 0) = false := decide_eq_false (by omega)
        go_wp2_with fail
        refine (heqR.out _ _ _ (PL.of_own G9.out rfl YR.out hyl) ((R3.out.below F9.out).up F9.out.size)).mono ?_
        rintro e w10 ⟨rfl, hb10⟩
        have G10 := Lib.hid (u_own_below G9.out hb10)
        have F10 := Lib.hid (F9.out.trans (hb10.mono F9.out.size))
        clear hb10 G9 F9
        have hwb3 : w3.heap.size ≤ wb.heap.size := Fb.out.size
        go_wp2_with fail
        refine (hmkR.out _ _ _ G10.out).mono ?_
        rintro e w11 ⟨rfl, hown11, hb11, hg11⟩
        have G11 := Lib.hid (PL.of_own hown11 (marks2_length _ _).symm hmr.out (by rw [marks2_length]; exact hyl))
        have F11 := Lib.hid (F10.out.trans (hb11.mono hwb3))
        clear hown11 hb11 hg11 G10 F10
        go_wp2_with fail
        refine (hhdR.out _ _ G11.out).mono ?_
        rintro e w12 ⟨rfl, rfl⟩
        have BX11 : Hid (BoxN _ w.heap.size #[.int .i64 nw, .int .i64 kp, .slice A n c, .slice A2 m c2] 25) := Lib.hid ((F11.out.block _ BX3.out.lt).trans BX3.out)
        have x0 := BoxN.cell (i := 0) BX11.out rfl
        have x1 := BoxN.cell (i := 1) BX11.out rfl
        have x2 := BoxN.cell (i := 2) BX11.out rfl
        have x3 := BoxN.cell (i := 3) BX11.out rfl
        have I11 := Lib.hid ((I3.out.below (F11.out.mono B3.out.size)).up (Nat.le_trans B3.out.size F11.out.size))
        go_wp2_with fail
        refine (hcp.out _ _ I11.out).mono ?_
        rintro e w13 ⟨rv13, lv13, es13, rfl, hd13, hb13⟩
        have C13 := Lib.hid (hd13.cv HCR.out)
        have G13 := Lib.hid ((G11.out.below hb13).up hb13.size)
        have F13 := Lib.hid (F11.out.trans (hb13.mono F11.out.size))
        clear hd13 hb13 G11 F11 x0 x1 x2 x3 BX11 I11
        go_wp2_with fail
        refine (him.out _ _ C13.out).mono ?_
        rintro e w14 ⟨v14, rfl, ho14, hb14⟩
        have J14 := Lib.hid (PL.of_own ho14 rfl YR.out hyl)
        have G14 := Lib.hid ((G13.out.below hb14).up hb14.size)
        have F14 := Lib.hid (F13.out.trans (hb14.mono F13.out.size))
        clear ho14 hb14 G13 F13 C13
        go_wp2_with fail
        refine (heqR.out _ _ _ J14.out ((R3.out.below F14.out).up F14.out.size)).mono ?_
        rintro e w15 ⟨rfl, hb15⟩
        have G15 := Lib.hid ((G14.out.below hb15).up hb15.size)
        have F15 := Lib.hid (F14.out.trans (hb15.mono F14.out.size))
        clear hb15 G14 F14 J14
        go_wp2_with fail
        refine (hhdR.out _ _ G15.out).mono ?_
        rintro e w16 ⟨rfl, rfl⟩
        go_wp2_with fail
        go_ret
        exact ⟨rfl, B3.out.trans (F15.out.mono B3.out.size)⟩
end Go.Proofs.Ytnecdlkihlipdaa
