/- Walks: the law FnExactCascadeNew. -/
import Derived.Test.YtinpndoepppboaaVa
import Derived.Test.YtinpndoepppboaaPw
import Derived.Test.YtinpndoepppboaaOl
import Derived.Test.YtinpndoepppboaaAf
set_option linter.unusedVariables false
set_option linter.unusedSimpArgs false
namespace Go.Proofs.Ytinpndoepppboaa
open Go.RowKit

theorem newM_cr {kp : Int} {ws ks : List Int} (hk : Rng kp) (h1 : ∀ j, Rng (ws.getD j 0)) (h2 : ∀ j, Rng (ks.getD j 0)) (hl : ws.length ≤ 1048576) : CR (newM kp ws ks) := by
  cases hb : newB kp ws ks with
  | false => rw [newM_no hb]; exact zC_cr
  | true => rw [newM_yes hb]; exact newC_cr hk h1 h2 hl
/-- blocks from a to b stand as they were -/
def AB (a b : Nat) (W W' : World) : Prop := ∀ k, a ≤ k → k < b → W'.heap[k]? = W.heap[k]?
theorem AB.step {a b : Nat} {W W1 W2 : World} (h : AB a b W W1) (hb : Below W1.heap.size W1 W2) (hs : b ≤ W1.heap.size) : AB a b W W2 := fun k h1 h2 => (hb.block k (by omega)).trans (h k h1 h2)
theorem AB.grown {a b : Nat} {W W1 W2 : World} {row : Option Nat} (h : AB a b W W1) (hg : W1.grownBy W2 row) (hs : b ≤ W1.heap.size) (hr : ∀ g, row = some g → g < a) : AB a b W W2 :=
  fun k h1 h2 => (hg.block k (by omega) (fun e => by have := hr k e.symm; omega)).trans (h k h1 h2)

set_option maxRecDepth 100000 in
set_option maxHeartbeats 8000000 in
theorem walkFnExactCascadeNew (kp : Int) (A : Option Addr) (n c : Nat) (A2 : Option Addr) (n2 c2 : Nat) (w : World) (hn : n ≤ maxLen) (hn2 : n2 ≤ maxLen) (hk : Rng kp)
    (hx : n ≤ 1048576 → ∃ xs : List Int, xs.length = n ∧ IL w w.heap.size (.slice A n c) xs) (hy : n2 ≤ 1048576 → ∃ xs : List Int, xs.length = n2 ∧ IL w w.heap.size (.slice A2 n2 c2) xs) :
    Calls Try.prog 14 #[.int .i64 kp, .slice A n c, .slice A2 n2 c2] w fun e w' => e = .returned (.bool true) ∧ Below w.heap.size w w' := by
  unfold maxLen at hn hn2
  by_cases hb1 : (1048576 : Int) < n
  · clear hx hy
    go_enter Try.func14, Try.ntmps14
    go_wp2_with fail
    go_ret
    exact ⟨rfl, Below.refl _ _⟩
  by_cases hb2 : (1048576 : Int) < n2
  · clear hx hy
    go_enter Try.func14, Try.ntmps14
    go_wp2_with fail
    go_ret
    exact ⟨rfl, Below.refl _ _⟩
  obtain ⟨ws, hwn, hW⟩ := hx (by omega)
  obtain ⟨ks, hkn, hK⟩ := hy (by omega)
  clear hx hy
  have I0 := Lib.hid hW
  have J0 := Lib.hid hK
  have HWN := Lib.hid hwn
  have HKN := Lib.hid hkn
  have hcr := newM_cr (ks := ks) hk hW.1 hK.1 hW.2.1
  have HWR := Lib.hid hW.1
  have HKR := Lib.hid hK.1
  have hcp := Lib.hid (fun v W h => toInt64S_any v ws W h)
  have hcq := Lib.hid (fun v W h => toInt64S_any v ks W h)
  have hsp := Lib.hid (fun v u W h h' => specCascadeNew_any v u ws ks kp W hk h h')
  have him := Lib.hid (fun v u W h h' => implCascadeNew_any v u ws ks kp W hk h h')
  have hew := Lib.hid (fun v u W h h' => eqInt64S_any v u ws ws W h h')
  have hek := Lib.hid (fun v u W h h' => eqInt64S_any v u ks ks W h h')
  rw [decide_eq_true rfl] at hew hek
  have hmw := Lib.hid (fun base v W h => markIntK_any base v 1 ws W (by omega) (by omega) (by omega) h)
  have hmk := Lib.hid (fun base v W h => markIntK_any base v (1 + (n : Int)) ks W (by omega) (by omega) (by omega) h)
  clear hW hK hwn hkn
  have htc := totC_le hcr
  have htn := totC_nonneg (newM kp ws ks)
  generalize newM kp ws ks = cs at *
  generalize newB kp ws ks = fb at *
  have HCR := Lib.hid hcr
  clear hcr
  have heq := Lib.hid (fun v u W h h' => eqCascade_same v u cs W h h')
  have hmc := Lib.hid (fun base top rv lv es W h => markCascade_any base top cs rv lv es 1 W (by omega) (by omega) HCR.out h)
  have hhd := Lib.hid (fun v W h => heldCascade_any v cs 1 W (by omega) (by omega) h)
  have HMR := Lib.hid (mkC_cr (K := 1) HCR.out (by omega) (by omega))
  cases fb
  all_goals
    go_enter Try.func14, Try.ntmps14
    go_wp2_with fail
    refine (hcp.out _ _ I0.out).mono ?_
    rintro e w1 ⟨v1, rfl, ho1, hb1⟩
    have F1 := Lib.hid hb1
    have P1 := Lib.hid (IL.of_own ho1 rfl HWR.out I0.out.2.1)
    clear ho1 hb1
    go_wp2_with fail
    refine (hcq.out _ _ ((J0.out.below F1.out).up F1.out.size)).mono ?_
    rintro e w2 ⟨v2, rfl, ho2, hb2⟩
    have F2 := Lib.hid (F1.out.trans (hb2.mono F1.out.size))
    have P2 := Lib.hid ((P1.out.below hb2).up hb2.size)
    have Q2 := Lib.hid (IL.of_own ho2 rfl HKR.out J0.out.2.1)
    clear ho2 hb2 P1 F1
    go_wp2_with fail
    refine (hsp.out _ _ _ P2.out Q2.out).mono ?_
    rintro e w3 ⟨rv3, lv3, es3, rfl, hd3, hb3⟩
    have F3 := Lib.hid (F2.out.trans (hb3.mono F2.out.size))
    obtain ⟨ra3, rc3, rfl⟩ := hd3.raw.shape
    obtain ⟨la3, lc3, rfl⟩ := hd3.lvl.row.shape
    generalize hrn : cs.2.2.1.length = rn at *
    generalize hln : cs.2.2.2.length = ln at *
    have HRN := Lib.hid hrn
    have HLN := Lib.hid hln
    clear hrn hln
    obtain ⟨wa, hwa⟩ : ∃ wa, w3.alloc (.cells #[.int .i64 cs.1, .int .i64 cs.2.1, .slice ra3 rn rc3, .slice la3 ln lc3] 62) = wa := ⟨_, rfl⟩
    have X0 : Hid (BoxN wa w3.heap.size #[.int .i64 cs.1, .int .i64 cs.2.1, .slice ra3 rn rc3, .slice la3 ln lc3] 62) := Lib.hid (by rw [← hwa]; exact World.alloc_heap_new w3 _)
    have hba : Below w3.heap.size w3 wa := by rw [← hwa]; exact (Below.refl _ _).alloc (Nat.le_refl _) _
    have Fa := Lib.hid (F3.out.trans (hba.mono F3.out.size))
    have Ca : Hid (CV wa wa.heap.size (.agg #[.int .i64 cs.1, .int .i64 cs.2.1, .slice ra3 rn rc3, .slice la3 ln lc3]) cs) := Lib.hid (by have := (hd3.below hba).cv HCR.out; exact this)
    have HWa := Lib.hid hwa
    clear hwa hba hd3 hb3 F2 F3 P2 Q2
    go_wp2_with fail
    rw [HWa.out]
    refine (hcp.out _ _ ((I0.out.below Fa.out).up Fa.out.size)).mono ?_
    rintro e w4 ⟨v4, rfl, ho4, hb4⟩
    have F4 := Lib.hid hb4
    have O4 := Lib.hid ho4
    have L4 := Lib.hid ho4.lt
    clear ho4 hb4
    go_wp2_with fail
    refine (hcq.out _ _ ((J0.out.below (Fa.out.trans (F4.out.mono Fa.out.size))).up (Nat.le_trans Fa.out.size F4.out.size))).mono ?_
    rintro e w5 ⟨v5, rfl, ho5, hb5⟩
    have F5 := Lib.hid (F4.out.trans (hb5.mono F4.out.size))
    have O5 := Lib.hid (u_own_below O4.out hb5)
    have U5 := Lib.hid ho5
    have M5 := Lib.hid ho5.lt
    have S45 := hb5.size
    have S4a := F4.out.size
    clear ho5 hb5 O4 F4
    go_wp2_with fail
    refine (him.out _ _ _ (IL.of_own O5.out rfl HWR.out I0.out.2.1) (IL.of_own U5.out rfl HKR.out J0.out.2.1)).mono ?_
    rintro e w6 ⟨rv6, lv6, es6, rfl, hd6, hb6⟩
    obtain ⟨ra, rc, rfl⟩ := hd6.raw.shape
    obtain ⟨la, lc, rfl⟩ := hd6.lvl.row.shape
    rw [HRN.out, HLN.out] at hd6 ⊢
    obtain ⟨wg, hwg⟩ : ∃ wg, w6.alloc (.cells #[.int .i64 cs.1, .int .i64 cs.2.1, .slice ra rn rc, .slice la ln lc] 62) = wg := ⟨_, rfl⟩
    have Y0 : Hid (BoxN wg w6.heap.size #[.int .i64 cs.1, .int .i64 cs.2.1, .slice ra rn rc, .slice la ln lc] 62) := Lib.hid (by rw [← hwg]; exact World.alloc_heap_new w6 _)
    have hbg : Below w6.heap.size w6 wg := by rw [← hwg]; exact (Below.refl _ _).alloc (Nat.le_refl _) _
    have Fg := Lib.hid ((F5.out.trans (hb6.mono F5.out.size)).trans (hbg.mono (Nat.le_trans F5.out.size hb6.size)))
    have Og := Lib.hid (u_own_below (u_own_below O5.out hb6) hbg)
    have Ug := Lib.hid (u_own_below (u_own_below U5.out hb6) hbg)
    have Dg := Lib.hid (hd6.below hbg)
    have Cg : Hid (CV wg wg.heap.size (.agg #[.int .i64 cs.1, .int .i64 cs.2.1, .slice ra rn rc, .slice la ln lc]) cs) := Lib.hid (by have := Dg.out.cv HCR.out; exact this)
    have S56 := hb6.size
    have S6g := Y0.out.lt
    have X1 : Hid (BoxN wg w3.heap.size #[.int .i64 cs.1, .int .i64 cs.2.1, .slice ra3 rn rc3, .slice la3 ln lc3] 62) := Lib.hid ((Fg.out.block _ X0.out.lt).trans X0.out)
    have HWg := Lib.hid hwg
    clear hwg hbg hd6 hb6 O5 U5 F5
    have x0 := BoxN.cell (i := 0) X1.out rfl
    have x1 := BoxN.cell (i := 1) X1.out rfl
    have x2 := BoxN.cell (i := 2) X1.out rfl
    have x3 := BoxN.cell (i := 3) X1.out rfl
    have y0 := BoxN.cell (i := 0) Y0.out rfl
    have y1 := BoxN.cell (i := 1) Y0.out rfl
    have y2 := BoxN.cell (i := 2) Y0.out rfl
    have y3 := BoxN.cell (i := 3) Y0.out rfl
    rw [← HWg.out] at x0 x1 x2 x3
    go_wp2_with fail
    rw [HWg.out]
    refine (heq.out _ _ _ Cg.out ((Ca.out.below Fg.out).up Fg.out.size)).mono ?_
    rintro e w7 ⟨rfl, hb7⟩
    have F7 := Lib.hid (Fg.out.trans (hb7.mono Fg.out.size))
    have A7 : Hid (AB w5.heap.size wg.heap.size wg w7) := Lib.hid (fun k _ h2 => hb7.block k h2)
    have S7 := hb7.size
    have O7 := Lib.hid (u_own_below Og.out hb7)
    have U7 := Lib.hid (u_own_below Ug.out hb7)
    clear hb7 Fg Og Ug x0 x1 x2 x3 y0 y1 y2 y3 X1
    go_wp2_with fail
    refine (hcp.out _ _ ((I0.out.below (Fa.out.trans (F7.out.mono Fa.out.size))).up (Nat.le_trans Fa.out.size F7.out.size))).mono ?_
    rintro e w8 ⟨v8, rfl, ho8, hb8⟩
    have F8 := Lib.hid (F7.out.trans (hb8.mono F7.out.size))
    have A8 := Lib.hid (A7.out.step hb8 S7)
    have S8 := Nat.le_trans S7 hb8.size
    have O8 := Lib.hid (u_own_below O7.out hb8)
    have U8 := Lib.hid (u_own_below U7.out hb8)
    have K8 := Lib.hid (IL.of_own ho8 rfl HWR.out I0.out.2.1)
    clear hb8 ho8 F7 A7 O7 U7 S7
    go_wp2_with fail
    refine (hew.out _ _ _ (IL.of_own O8.out rfl HWR.out I0.out.2.1) K8.out).mono ?_
    rintro e w9 ⟨rfl, hb9⟩
    have F9 := Lib.hid (F8.out.trans (hb9.mono F8.out.size))
    have A9 := Lib.hid (A8.out.step hb9 S8)
    have S9 := Nat.le_trans S8 hb9.size
    have O9 := Lib.hid (u_own_below O8.out hb9)
    have U9 := Lib.hid (u_own_below U8.out hb9)
    clear hb9 K8 F8 A8 O8 U8 S8
    go_wp2_with fail
    refine (hcq.out _ _ ((J0.out.below (Fa.out.trans (F9.out.mono Fa.out.size))).up (Nat.le_trans Fa.out.size F9.out.size))).mono ?_
    rintro e w10 ⟨v10, rfl, ho10, hb10⟩
    have F10 := Lib.hid (F9.out.trans (hb10.mono F9.out.size))
    have A10 := Lib.hid (A9.out.step hb10 S9)
    have S10 := Nat.le_trans S9 hb10.size
    have O10 := Lib.hid (u_own_below O9.out hb10)
    have U10 := Lib.hid (u_own_below U9.out hb10)
    have K10 := Lib.hid (IL.of_own ho10 rfl HKR.out J0.out.2.1)
    clear hb10 ho10 F9 A9 O9 U9 S9
    go_wp2_with fail
    refine (hek.out _ _ _ (IL.of_own U10.out rfl HKR.out J0.out.2.1) K10.out).mono ?_
    rintro e w11 ⟨rfl, hb11⟩
    have F11 := Lib.hid (F10.out.trans (hb11.mono F10.out.size))
    have A11 := Lib.hid (A10.out.step hb11 S10)
    have S11 := Nat.le_trans S10 hb11.size
    have O11 := Lib.hid (u_own_below O10.out hb11)
    have U11 := Lib.hid (u_own_below U10.out hb11)
    clear hb11 K10 F10 A10 O10 U10 S10
    have hcalw := Lib.hid (hmw.out _ _ _ O11.out)
    go_wp2_with fail
    refine hcalw.out.mono ?_
    rintro e w12 ⟨rfl, ho12, hb12, hg12⟩
    rw [HWN.out]
    have F12 := Lib.hid (F11.out.trans hb12)
    have A12 := Lib.hid (A11.out.grown hg12 S11 (fun g hg => by have := (L4.out g hg).2; omega))
    have S12 := Nat.le_trans S11 hg12.size
    have U12 := Lib.hid (show w12.ownsRow w4.heap.size 2 1 v5 ks.length (ints ks) from U11.out.kept hg12 (by
      cases h5 : v5.ownBlock with
      | none => exact .inl rfl
      | some k5 =>
        right
        intro h4
        have q5 := (M5.out k5 h5).1
        have q4 := (L4.out k5 h4.symm).2
        omega))
    clear ho12 hb12 hg12 hcalw F11 A11 O11 U11 S11
    have hcalk := Lib.hid (hmk.out _ _ _ U12.out)
    go_wp2_with fail
    refine hcalk.out.mono ?_
    rintro e w13 ⟨rfl, ho13, hb13, hg13⟩
    rw [HKN.out]
    have F13 := Lib.hid (F12.out.trans (hb13.mono (show wa.heap.size ≤ w4.heap.size from S4a)))
    have A13 := Lib.hid (A12.out.grown hg13 S12 (fun g hg => by have := (M5.out g hg).2; omega))
    have S13 := Nat.le_trans S12 hg13.size
    clear ho13 hb13 hg13 hcalk F12 A12 U12 S12
    have X13 : Hid (BoxN w13 w3.heap.size #[.int .i64 cs.1, .int .i64 cs.2.1, .slice ra3 rn rc3, .slice la3 ln lc3] 62) := Lib.hid ((F13.out.block _ X0.out.lt).trans X0.out)
    have Y13 : Hid (BoxN w13 w6.heap.size #[.int .i64 cs.1, .int .i64 cs.2.1, .slice ra rn rc, .slice la ln lc] 62) := Lib.hid ((A13.out _ (by omega) S6g).trans Y0.out)
    have D13 := Lib.hid (Dg.out.at_ (fun g hg => A13.out g (Dg.out.lt hg).1 (by have := (Dg.out.lt hg).2.2; omega)))
    have C13 : Hid (CV w13 w13.heap.size (.agg #[.int .i64 cs.1, .int .i64 cs.2.1, .slice ra rn rc, .slice la ln lc]) cs) := Lib.hid (by have := D13.out.cv HCR.out; exact this)
    have d13 : decide (1 + (n : Int) + (n2 : Int) < 0) = false := decide_eq_false (by omega)
    have x0 := BoxN.cell (i := 0) X13.out rfl
    have x1 := BoxN.cell (i := 1) X13.out rfl
    have x2 := BoxN.cell (i := 2) X13.out rfl
    have x3 := BoxN.cell (i := 3) X13.out rfl
    have y0 := BoxN.cell (i := 0) Y13.out rfl
    have y1 := BoxN.cell (i := 1) Y13.out rfl
    have y2 := BoxN.cell (i := 2) Y13.out rfl
    have y3 := BoxN.cell (i := 3) Y13.out rfl
    clear A13
    go_wp2_with fail
    refine (heq.out _ _ _ C13.out ((Ca.out.below F13.out).up F13.out.size)).mono ?_
    rintro e w14 ⟨rfl, hb14⟩
    have F14 := Lib.hid (F13.out.trans (hb14.mono F13.out.size))
    have D14 := Lib.hid (D13.out.below hb14)
    have Y14 : Hid (BoxN w14 w6.heap.size #[.int .i64 cs.1, .int .i64 cs.2.1, .slice ra rn rc, .slice la ln lc] 62) := Lib.hid ((hb14.block _ Y13.out.lt).trans Y13.out)
    clear hb14 F13 D13 C13 X13 Y13 x0 x1 x2 x3 y0 y1 y2 y3
    have y0 := BoxN.cell (i := 0) Y14.out rfl
    have y1 := BoxN.cell (i := 1) Y14.out rfl
    have y2 := BoxN.cell (i := 2) Y14.out rfl
    have y3 := BoxN.cell (i := 3) Y14.out rfl
    have hcalm := Lib.hid (hmc.out _ _ _ _ _ w14 D14.out)
    have hlo : Hid (∀ g, CBk cs (.slice ra rn rc) (.slice la ln lc) es6 g → w5.heap.size ≤ g ∧ g < w6.heap.size) := Lib.hid (fun g hg => ⟨(Dg.out.lt hg).1, (Dg.out.lt hg).2.1⟩)
    go_wp2_with fail
    refine hcalm.out.mono ?_
    rintro e w15 ⟨rfl, ⟨es15, hd15⟩, wm, hbm, hc15⟩
    have F15 := Lib.hid ((F14.out.trans (hbm.mono F14.out.size)).trans (hc15.below (base := wa.heap.size) (Nat.le_trans F14.out.size hbm.size) (fun g hg => Nat.le_trans (Nat.le_trans S4a S45) (hlo.out g hg).1)))
    have Y15 : Hid (BoxN w15 w6.heap.size #[.int .i64 cs.1, .int .i64 cs.2.1, .slice ra rn rc, .slice la ln lc] 62) := Lib.hid ((hc15.block _ (Nat.lt_of_lt_of_le Y14.out.lt hbm.size) (fun hS => by have := (hlo.out _ hS).2; omega)).trans ((hbm.block _ Y14.out.lt).trans Y14.out))
    have C15 : Hid (CV w15 w15.heap.size (.agg #[.int .i64 cs.1, .int .i64 cs.2.1, .slice ra rn rc, .slice la ln lc]) (mkC 1 cs)) := Lib.hid (by have := hd15.cv HMR.out; exact this)
    clear hd15 hbm hc15 hcalm F14 D14 Y14 y0 y1 y2 y3
    have y0 := BoxN.cell (i := 0) Y15.out rfl
    have y1 := BoxN.cell (i := 1) Y15.out rfl
    have y2 := BoxN.cell (i := 2) Y15.out rfl
    have y3 := BoxN.cell (i := 3) Y15.out rfl
    have d15 : decide (1 + totC cs < 0) = false := decide_eq_false (by omega)
    go_wp2_with fail
    refine (hhd.out _ _ C15.out).mono ?_
    rintro e w16 ⟨rfl, hb16⟩
    have F16 := Lib.hid (F15.out.trans (hb16.mono F15.out.size))
    have C16 := Lib.hid ((C15.out.below hb16).up hb16.size)
    have Y16 : Hid (BoxN w16 w6.heap.size #[.int .i64 cs.1, .int .i64 cs.2.1, .slice ra rn rc, .slice la ln lc] 62) := Lib.hid ((hb16.block _ Y15.out.lt).trans Y15.out)
    clear hb16 F15 C15 Y15 y0 y1 y2 y3
    go_wp2_with fail
    refine (hcp.out _ _ ((I0.out.below (Fa.out.trans (F16.out.mono Fa.out.size))).up (Nat.le_trans Fa.out.size F16.out.size))).mono ?_
    rintro e w17 ⟨v17, rfl, ho17, hb17⟩
    have F17 := Lib.hid (F16.out.trans (hb17.mono F16.out.size))
    have C17 := Lib.hid ((C16.out.below hb17).up hb17.size)
    have Y17 : Hid (BoxN w17 w6.heap.size #[.int .i64 cs.1, .int .i64 cs.2.1, .slice ra rn rc, .slice la ln lc] 62) := Lib.hid ((hb17.block _ Y16.out.lt).trans Y16.out)
    have K17 := Lib.hid (IL.of_own ho17 rfl HWR.out I0.out.2.1)
    clear hb17 ho17 F16 C16 Y16
    go_wp2_with fail
    refine (hcq.out _ _ ((J0.out.below (Fa.out.trans (F17.out.mono Fa.out.size))).up (Nat.le_trans Fa.out.size F17.out.size))).mono ?_
    rintro e w18 ⟨v18, rfl, ho18, hb18⟩
    have F18 := Lib.hid (F17.out.trans (hb18.mono F17.out.size))
    have C18 := Lib.hid ((C17.out.below hb18).up hb18.size)
    have Y18 : Hid (BoxN w18 w6.heap.size #[.int .i64 cs.1, .int .i64 cs.2.1, .slice ra rn rc, .slice la ln lc] 62) := Lib.hid ((hb18.block _ Y17.out.lt).trans Y17.out)
    have K18 := Lib.hid ((K17.out.below hb18).up hb18.size)
    have N18 := Lib.hid (IL.of_own ho18 rfl HKR.out J0.out.2.1)
    clear hb18 ho18 F17 C17 Y17 K17
    go_wp2_with fail
    refine (him.out _ _ _ K18.out N18.out).mono ?_
    rintro e w19 ⟨rv19, lv19, es19, rfl, hd19, hb19⟩
    obtain ⟨ra9, rc9, rfl⟩ := hd19.raw.shape
    obtain ⟨la9, lc9, rfl⟩ := hd19.lvl.row.shape
    rw [HRN.out, HLN.out] at hd19 ⊢
    obtain ⟨wh, hwh⟩ : ∃ wh, w19.alloc (.cells #[.int .i64 cs.1, .int .i64 cs.2.1, .slice ra9 rn rc9, .slice la9 ln lc9] 62) = wh := ⟨_, rfl⟩
    have Z0 : Hid (BoxN wh w19.heap.size #[.int .i64 cs.1, .int .i64 cs.2.1, .slice ra9 rn rc9, .slice la9 ln lc9] 62) := Lib.hid (by rw [← hwh]; exact World.alloc_heap_new w19 _)
    have hbh : Below w19.heap.size w19 wh := by rw [← hwh]; exact (Below.refl _ _).alloc (Nat.le_refl _) _
    have hbx := hb19.trans (hbh.mono hb19.size)
    have Fh := Lib.hid (F18.out.trans (hbx.mono F18.out.size))
    have Ch := Lib.hid ((C18.out.below hbx).up hbx.size)
    have Yh : Hid (BoxN wh w6.heap.size #[.int .i64 cs.1, .int .i64 cs.2.1, .slice ra rn rc, .slice la ln lc] 62) := Lib.hid ((hbx.block _ Y18.out.lt).trans Y18.out)
    have Eh : Hid (CV wh wh.heap.size (.agg #[.int .i64 cs.1, .int .i64 cs.2.1, .slice ra9 rn rc9, .slice la9 ln lc9]) cs) := Lib.hid (by have := (hd19.below hbh).cv HCR.out; exact this)
    have Xh : Hid (BoxN wh w3.heap.size #[.int .i64 cs.1, .int .i64 cs.2.1, .slice ra3 rn rc3, .slice la3 ln lc3] 62) := Lib.hid ((Fh.out.block _ X0.out.lt).trans X0.out)
    have HWh := Lib.hid hwh
    clear hwh hbh hbx hd19 hb19 F18 C18 Y18 K18 N18
    have x0 := BoxN.cell (i := 0) Xh.out rfl
    have x1 := BoxN.cell (i := 1) Xh.out rfl
    have x2 := BoxN.cell (i := 2) Xh.out rfl
    have x3 := BoxN.cell (i := 3) Xh.out rfl
    have z0 := BoxN.cell (i := 0) Z0.out rfl
    have z1 := BoxN.cell (i := 1) Z0.out rfl
    have z2 := BoxN.cell (i := 2) Z0.out rfl
    have z3 := BoxN.cell (i := 3) Z0.out rfl
    rw [← HWh.out] at x0 x1 x2 x3
    go_wp2_with fail
    rw [HWh.out]
    refine (heq.out _ _ _ Eh.out ((Ca.out.below Fh.out).up Fh.out.size)).mono ?_
    rintro e w20 ⟨rfl, hb20⟩
    have F20 := Lib.hid (Fh.out.trans (hb20.mono Fh.out.size))
    have C20 := Lib.hid ((Ch.out.below hb20).up hb20.size)
    have Y20 : Hid (BoxN w20 w6.heap.size #[.int .i64 cs.1, .int .i64 cs.2.1, .slice ra rn rc, .slice la ln lc] 62) := Lib.hid ((hb20.block _ Yh.out.lt).trans Yh.out)
    clear hb20 Fh Ch Yh Eh Xh x0 x1 x2 x3 z0 z1 z2 z3
    have y0 := BoxN.cell (i := 0) Y20.out rfl
    have y1 := BoxN.cell (i := 1) Y20.out rfl
    have y2 := BoxN.cell (i := 2) Y20.out rfl
    have y3 := BoxN.cell (i := 3) Y20.out rfl
    go_wp2_with fail
    refine (hhd.out _ _ C20.out).mono ?_
    rintro e w21 ⟨rfl, hb21⟩
    have F21 := Lib.hid (F20.out.trans (hb21.mono F20.out.size))
    clear hb21 F20 C20 Y20 y0 y1 y2 y3
    go_wp2_with fail
    go_ret
    exact ⟨rfl, Fa.out.trans (F21.out.mono Fa.out.size)⟩
end Go.Proofs.Ytinpndoepppboaa
