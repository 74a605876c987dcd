/- Walks: the law FnExactIngest. -/
import Derived.Deep.DeepCutAuto
import Derived.Deep.RegionHeld3
import Derived.Test.YtkekpkfhljankaaZr
import Derived.Test.YtkekpkfhljankaaZu
import Derived.Test.YtkekpkfhljankaaPw
import Derived.Test.YtkekpkfhljankaaOl
set_option linter.unusedVariables false
set_option linter.unusedSimpArgs false
namespace Go.Proofs.Ytkekpkfhljankaa
open Go.RowKit

theorem CI.below' {w w' : World} {v : Value} {nw kp : Int} {A : Option Addr} {n c : Nat} {ks : List Nat} {lv : Value} (h : CI w w.heap.size v nw kp A n c ks lv) (hb : Below w.heap.size w w') (hs : w.heap.size ≤ w'.heap.size) : CI w' w'.heap.size v nw kp A n c ks lv := by
  obtain ⟨rfl, h1, h2, h3, h4, h5⟩ := h
  exact ⟨rfl, h1, h2, h3, fun hn => by
    obtain ⟨xs, hx, hp⟩ := h4 hn
    exact ⟨xs, hx, (hp.below hb).up hs⟩, (h5.below hb).up hs⟩
theorem szC_ok {n : Nat} {ks : List Nat} (h : ¬ szC n ks < 0) : n ≤ 1048576 ∧ ks.length ≤ 1048576 ∧ ∀ k ∈ ks, k ≤ 1048576 := by
  unfold szC at h
  split at h
  · exact absurd (show (-1 : Int) < 0 by omega) h
  · split at h
    · exact absurd (show (-1 : Int) < 0 by omega) h
    · exact ⟨by omega, by omega, szF_ok _ ks (by omega) (by omega) h⟩
theorem szC_bd (n : Nat) (ks : List Nat) : -1 ≤ szC n ks ∧ szC n ks ≤ 1048576 := by
  unfold szC
  split
  · omega
  · split
    · omega
    · exact szF_bd _ _ (by omega) (by omega)
theorem CV.drewT {w : World} {v : Value} {c : Cs} (h : CV w w.heap.size v c) : CV w.drew w.drew.heap.size v c := h
theorem dropC_cr {nw : Int} {c : Cs} (h : CR c) (hn : Rng nw) : CR (dropC nw c) := by
  have key : ∀ j, j < (dropC nw c).2.2.2.length → (dropC nw c).2.2.2.getD j zLv = dropL nw (c.2.2.2.getD j zLv) := by
    intro j hj
    have hj' : j < c.2.2.2.length := by have : j < (c.2.2.2.map (dropL nw)).length := hj; simpa using this
    show (c.2.2.2.map (dropL nw)).getD j zLv = _
    simp [List.getD_eq_getElem?_getD, hj']
  have hlen : (dropC nw c).2.2.2.length = c.2.2.2.length := by show (c.2.2.2.map (dropL nw)).length = _; simp
  refine ⟨hn, h.keep, prng_of (fun p hp => prng_mem h.raw p (List.mem_filter.1 (show p ∈ c.2.2.1.filter _ from hp)).1), Nat.le_trans (List.length_filter_le _ _) h.rlen, fun j => ?_, by rw [hlen]; exact h.llen, fun j hj => ?_⟩
  · by_cases hj : j < (dropC nw c).2.2.2.length
    · rw [key j hj]; exact h.lv j
    · rw [List.getD_eq_getElem?_getD, List.getElem?_eq_none (by omega)]; exact ⟨rng_zero, rng_zero⟩
  · have hr := h.rolls j (by omega)
    rw [key j hj]
    refine ⟨fun i => ?_, Nat.le_trans (List.length_filter_le _ _) hr.2⟩
    show Rng6 ((List.filter (rolAt nw (c.2.2.2.getD j zLv)) (c.2.2.2.getD j zLv).2.2).getD i z6)
    generalize c.2.2.2.getD j zLv = x at hr ⊢
    by_cases hi : i < (List.filter (rolAt nw x) x.2.2).length
    · have hm : (List.filter (rolAt nw x) x.2.2).getD i z6 ∈ x.2.2 := by
        rw [List.getD_eq_getElem?_getD, List.getElem?_eq_getElem hi]
        exact (List.mem_filter.1 (List.getElem_mem hi)).1
      obtain ⟨q, hq, hqe⟩ := List.getElem_of_mem hm
      rw [← hqe]
      have := hr.1 q
      rwa [List.getD_eq_getElem?_getD, List.getElem?_eq_getElem hq] at this
    · rw [List.getD_eq_getElem?_getD, List.getElem?_eq_none (by omega)]; exact rng6_zero
theorem tickM_cr {c : Cs} {nw : Int} (h : CR c) (hn : Rng nw) : CR (tickM c nw) := by
  unfold tickM
  split
  · exact dropC_cr h hn
  · exact zC_cr

/-- what the loads of a drawn region read: the cascade's box, the point's -/
theorem KSI.of {w1 W : World} {b b2 : Nat} {c0 c1 c2 c3 d0 d1 : Value} {T T2 : TypeId} (h1 : BoxN w1 b #[c0, c1, c2, c3] T) (h2 : BoxN w1 b2 #[d0, d1] T2) (h : Below w1.heap.size w1 W) : Below w1.heap.size w1 W ∧ W.cell? ⟨b, 0, none⟩ = some c0 ∧ W.cell? ⟨b, 1, none⟩ = some c1 ∧ W.cell? ⟨b, 2, none⟩ = some c2 ∧ W.cell? ⟨b, 3, none⟩ = some c3 ∧ W.cell? ⟨b2, 0, none⟩ = some d0 ∧ W.cell? ⟨b2, 1, none⟩ = some d1 :=
  have e1 : BoxN W b #[c0, c1, c2, c3] T := (h.block _ h1.lt).trans h1
  have e2 : BoxN W b2 #[d0, d1] T2 := (h.block _ h2.lt).trans h2
  ⟨h, e1.cell (i := 0) rfl, e1.cell (i := 1) rfl, e1.cell (i := 2) rfl, e1.cell (i := 3) rfl, e2.cell (i := 0) rfl, e2.cell (i := 1) rfl⟩
theorem KSI.alloc {w1 W : World} (h : Below w1.heap.size w1 W) (o : Obj) : Below w1.heap.size w1 (W.alloc o) := h.alloc h.size o
theorem KSI.allocD {w1 W : World} (h : Below w1.heap.size w1 W.drew) (o : Obj) : Below w1.heap.size w1 (W.alloc o).drew := h.trans ⟨rfl, rfl, rfl, by show W.heap.size ≤ (W.alloc o).heap.size; simp, fun k hk => Below.heap_alloc W o k (Nat.lt_of_lt_of_le hk h.size)⟩
theorem KSI.next {w1 W W' : World} (h : Below w1.heap.size w1 W) (hb : Below W.heap.size W W') : Below w1.heap.size w1 W' := h.trans (hb.mono h.size)
theorem KSI.set4 {w1 W : World} {ob B : Nat} (h : Below B w1 W) (hob : B ≤ ob) (a0 a1 a2 a3 : Value) : Below B w1 ((((W.setCell ⟨ob, 0, none⟩ a0).setCell ⟨ob, 1, none⟩ a1).setCell ⟨ob, 2, none⟩ a2).setCell ⟨ob, 3, none⟩ a3) :=
  (((h.setCell (p := ⟨ob, 0, none⟩) hob a0).setCell (p := ⟨ob, 1, none⟩) hob a1).setCell (p := ⟨ob, 2, none⟩) hob a2).setCell (p := ⟨ob, 3, none⟩) hob a3
theorem Below.set4o {w1 W : World} {ob B : Nat} {a0 a1 a2 a3 : Value} (h : Below B w1 W) (hob : B ≤ ob) : Below B w1 ((((W.setCell ⟨ob, 0, none⟩ a0).setCell ⟨ob, 1, none⟩ a1).setCell ⟨ob, 2, none⟩ a2).setCell ⟨ob, 3, none⟩ a3) := KSI.set4 h hob a0 a1 a2 a3
theorem CD.set4o {W : World} {base top ob : Nat} {c : Cs} {rv lv : Value} {es : List LvC} {a0 a1 a2 a3 : Value} (h : CD W base top c rv lv es) (hob : ob < base) : CD ((((W.setCell ⟨ob, 0, none⟩ a0).setCell ⟨ob, 1, none⟩ a1).setCell ⟨ob, 2, none⟩ a2).setCell ⟨ob, 3, none⟩ a3) base top c rv lv es :=
  h.at_ (fun g hg => by
    have := (h.lt hg).1
    repeat (first | with_reducible rfl | refine (Below.heap_setCell _ _ _ _ (by simp; omega)).trans ?_))

theorem below_undrewT {w w' : World} {B : Nat} (h : Below B w.drew w') : Below B w w' := ((Below.refl B w).drew).trans h

set_option maxRecDepth 100000 in
set_option maxHeartbeats 8000000 in
theorem walkFnExactIngest (cv : Value) (nw kp : Int) (A : Option Addr) (n c : Nat) (ks : List Nat) (lv : Value) (t v : Int) (w : World) (h : CI w w.heap.size cv nw kp A n c ks lv) (r_t : Rng t) (r_v : Rng v) :
    Calls Try.prog 3 #[cv, .agg #[.int .i64 t, .int .i64 v]] w fun e w' => e = .returned (.bool true) ∧ Below w.heap.size w w' := by
  obtain ⟨m, A2, c2, rfl, rfl⟩ : ∃ m A2 c2, lv = .slice A2 m c2 ∧ cv = .agg #[.int .i64 nw, .int .i64 kp, .slice A n c, .slice A2 m c2] := by
    obtain ⟨rfl, _, _, _, _, _, _, A2, c2, rfl, _⟩ := h
    exact ⟨_, _, _, rfl, rfl⟩
  obtain ⟨w0, hw0⟩ : ∃ w0, (w.alloc (.cells #[.int .i64 nw, .int .i64 kp, .slice A n c, .slice A2 m c2] 25)).alloc (.cells #[.int .i64 t, .int .i64 v] 27) = w0 := ⟨_, rfl⟩
  have b0 : BoxN w0 w.heap.size #[.int .i64 nw, .int .i64 kp, .slice A n c, .slice A2 m c2] 25 := by rw [← hw0]; exact (Below.heap_alloc _ _ _ (by simp)).trans (World.alloc_heap_new w _)
  have q0 : BoxN w0 (w.heap.size + 1) #[.int .i64 t, .int .i64 v] 27 := by
    have h := World.alloc_heap_new (w.alloc (.cells #[.int .i64 nw, .int .i64 kp, .slice A n c, .slice A2 m c2] 25)) (.cells #[.int .i64 t, .int .i64 v] 27)
    rw [World.size_alloc] at h
    rw [← hw0]; exact h
  have BB0 := Lib.hid (show Below w.heap.size w w0 from by rw [← hw0]; exact ((Below.refl _ _).alloc (Nat.le_refl _) _).alloc (by simp) _)
  have S0 := BB0.out.size
  have HS := Lib.hid (szCascade_any _ nw kp A n c ks _ w0 (h.below' BB0.out S0))
  have BX0 := Lib.hid b0
  have BP0 := Lib.hid q0
  have HW := Lib.hid hw0
  clear hw0
  have x0 := b0.cell (i := 0) rfl
  have x1 := b0.cell (i := 1) rfl
  have x2 := b0.cell (i := 2) rfl
  have x3 := b0.cell (i := 3) rfl
  clear b0 q0
  have hbd := szC_bd n ks
  obtain ⟨r, hr⟩ : ∃ r, r = szC n ks := ⟨_, rfl⟩
  rw [← hr] at HS hbd
  by_cases hneg : r < 0
  · clear hr h
    go_enter Try.func3, Try.ntmps3
    go_wp2_with fail
    rw [HW.out]
    go_wp2_with fail
    refine HS.out.mono ?_
    rintro e w1 ⟨rfl, hb1⟩
    go_wp2_with fail
    go_ret
    exact ⟨rfl, BB0.out.trans (hb1.mono S0)⟩
  · obtain ⟨h1, h2, h3⟩ := szC_ok (by rw [← hr]; exact hneg)
    obtain ⟨cs, _, hcv⟩ := h.read h1 h2 h3
    have I0 := Lib.hid hcv
    have HCR := Lib.hid hcv.cr
    have htc := totC_le hcv.cr
    have htn := totC_nonneg cs
    have hcp := Lib.hid (fun v W h => toCascadeD_any v cs W h)
    have hsp := Lib.hid (fun u W h => specIngest_any u cs t v W h)
    have him := Lib.hid (fun u W h => implIngest_any u cs t v W h)
    have hpt := Lib.hid (fun W => toPoint_any t v W)
    have heq := Lib.hid (fun v u W h h' => eqCascade_same v u cs W h h')
    have hmc := Lib.hid (fun base top rv lv es W h => markCascade_any base top cs rv lv es 1 W (by omega) (by omega) HCR.out h)
    have htcr := ingM_cr cs (t, v)
    have ttc := totC_le htcr
    have ttn := totC_nonneg (ingM cs (t, v))
    clear h hr hcv h1 h2 h3
    generalize ingM cs (t, v) = ct at *
    generalize ingB cs (t, v) = fb at *
    have TCR := Lib.hid htcr
    clear htcr
    have heqt := Lib.hid (fun v u W h h' => eqCascade_same v u ct W h h')
    have hmt := Lib.hid (fun base top rv lv es W h => markCascade_any base top ct rv lv es 1 W (by omega) (by omega) TCR.out h)
    have hht := Lib.hid (fun v W h => heldCascade_any v ct 1 W (by omega) (by omega) h)
    have TMR := Lib.hid (mkC_cr (K := 1) TCR.out (by omega) (by omega))
    have hfb : (fb != fb) = false := by simp
    have HFB := Lib.hid hfb
    clear hfb
    all_goals
      go_enter Try.func3, Try.ntmps3
      go_wp2_with fail
      rw [HW.out]
      go_wp2_with fail
      refine HS.out.mono ?_
      rintro e w1 ⟨rfl, hb1⟩
      have I1 := Lib.hid (I0.out.below (BB0.out.trans (hb1.mono S0)))
      have B1 := Lib.hid (BB0.out.trans (hb1.mono S0))
      have BP1 : Hid (BoxN w1 (w.heap.size + 1) #[.int .i64 t, .int .i64 v] 27) := Lib.hid ((hb1.block _ BP0.out.lt).trans BP0.out)
      have BX1 : Hid (BoxN w1 w.heap.size #[.int .i64 nw, .int .i64 kp, .slice A n c, .slice A2 m c2] 25) := Lib.hid ((hb1.block _ BX0.out.lt).trans BX0.out)
      clear hb1 HS x0 x1 x2 x3
      have x0 := BoxN.cell (i := 0) BX1.out rfl
      have x1 := BoxN.cell (i := 1) BX1.out rfl
      have x2 := BoxN.cell (i := 2) BX1.out rfl
      have x3 := BoxN.cell (i := 3) BX1.out rfl
      obtain ⟨rt, hrt⟩ : ∃ rt, ct.2.2.1.length = rt := ⟨_, rfl⟩
      obtain ⟨lt, hlt⟩ : ∃ lt, ct.2.2.2.length = lt := ⟨_, rfl⟩
      have HRT := Lib.hid hrt
      have HLT := Lib.hid hlt
      clear hrt hlt
      have IUP := Lib.hid (I1.out.up B1.out.size)
      go_upto_region 5 with fail
      go_cut [6, 7] (fun s1 s2 wx => ∃ (ob : Nat) (ra : Option Addr) (rc : Nat) (la : Option Addr) (lc : Nat) (es : List LvC) (lo hi : Nat), s1 = .pointer (some ⟨ob, 0, none⟩) ∧ s2 = .bool fb ∧ BoxN wx ob #[.int .i64 ct.1, .int .i64 ct.2.1, .slice ra rt rc, .slice la lt lc] 32 ∧ CD wx lo hi ct (.slice ra rt rc) (.slice la lt lc) es ∧ Below w1.heap.size w1 wx ∧ w1.heap.size ≤ lo ∧ hi ≤ wx.heap.size ∧ w1.heap.size ≤ ob ∧ (ob < lo ∨ hi ≤ ob))
      case first =>
        have hK0 : Below w1.heap.size w1 w1.drew := (Below.refl _ _).drew
        have HK0 := Lib.hid (KSI.of BX1.out BP1.out hK0)
        clear hK0
        have OBz := Lib.hid (show BoxN (w1.alloc (.cells #[.int .i64 0, .int .i64 0, .slice none 0 0, .slice none 0 0] 32)) w1.heap.size #[.int .i64 0, .int .i64 0, .slice none 0 0, .slice none 0 0] 32 from World.alloc_heap_new w1 _)
        have IA : Hid (CV w1.drew w1.drew.heap.size _ cs) := Lib.hid IUP.out
        have IB : Hid (CV (w1.alloc (.cells #[.int .i64 0, .int .i64 0, .slice none 0 0, .slice none 0 0] 32)).drew (w1.alloc (.cells #[.int .i64 0, .int .i64 0, .slice none 0 0, .slice none 0 0] 32)).drew.heap.size _ cs) := Lib.hid (show CV (w1.alloc (.cells #[.int .i64 0, .int .i64 0, .slice none 0 0, .slice none 0 0] 32)) (w1.alloc (.cells #[.int .i64 0, .int .i64 0, .slice none 0 0, .slice none 0 0] 32)).heap.size _ cs from (IUP.out.below ((Below.refl _ _).alloc (Nat.le_refl _) _)).up (by simp))
        go_region_held3 (fun W => Below w1.heap.size w1 W ∧ W.cell? ⟨w.heap.size, 0, none⟩ = some (.int .i64 nw) ∧ W.cell? ⟨w.heap.size, 1, none⟩ = some (.int .i64 kp) ∧ W.cell? ⟨w.heap.size, 2, none⟩ = some (.slice A n c) ∧ W.cell? ⟨w.heap.size, 3, none⟩ = some (.slice A2 m c2) ∧ W.cell? ⟨w.heap.size + 1, 0, none⟩ = some (.int .i64 t) ∧ W.cell? ⟨w.heap.size + 1, 1, none⟩ = some (.int .i64 v))
          (first | with_reducible assumption | with_reducible exact HK0.out | with_reducible exact KSI.of BX1.out BP1.out (KSI.alloc (And.left (by assumption)) _) | with_reducible exact KSI.of BX1.out BP1.out (KSI.allocD (And.left (by assumption)) _) | with_reducible exact KSI.of BX1.out BP1.out (KSI.next (And.left (by assumption)) (by assumption)) | with_reducible exact KSI.of BX1.out BP1.out (KSI.alloc HN3.out _) | with_reducible exact KSI.of BX1.out BP1.out (KSI.set4 HN3.out (by omega) _ _ _ _))
          (first | (go_at_call 17; (refine (hcp.out _ _ (by with_reducible exact IA.out)).mono ?_); rintro e w2 ⟨rv2, lv2, es2, rfl, hd2, hb2⟩; have N2 := Lib.hid (KSI.next (And.left (by assumption)) hb2); have C2 := Lib.hid (hd2.cv HCR.out); have sz2 := N2.out.size) | (go_at_call 17; (refine (hcp.out _ _ (by with_reducible exact IB.out)).mono ?_); rintro e w2 ⟨rv2, lv2, es2, rfl, hd2, hb2⟩; have N2 := Lib.hid (KSI.next (And.left (by assumption)) hb2); have C2 := Lib.hid (hd2.cv HCR.out); have sz2 := N2.out.size; have OB2 : Hid (BoxN w2 w1.heap.size #[.int .i64 0, .int .i64 0, .slice none 0 0, .slice none 0 0] 32) := Lib.hid ((hb2.block _ OBz.out.lt).trans OBz.out)) | (go_at_call 18; (with_reducible refine (hpt.out w2).mono ?_); rintro e w2p ⟨rfl, hbp⟩; have N2p := Lib.hid (KSI.next (And.left (by assumption)) hbp); have C2p := Lib.hid ((C2.out.below hbp).up hbp.size); have C2pa := Lib.hid (show CV (w2p.alloc (.cells #[.int .i64 0, .int .i64 0, .slice none 0 0, .slice none 0 0] 32)) (w2p.alloc (.cells #[.int .i64 0, .int .i64 0, .slice none 0 0, .slice none 0 0] 32)).heap.size _ cs from (C2p.out.below ((Below.refl _ _).alloc (Nat.le_refl _) _)).up (by simp)); have sz2p := N2p.out.size; try (have OBp : Hid (BoxN w2p _ #[.int .i64 0, .int .i64 0, .slice none 0 0, .slice none 0 0] 32) := Lib.hid ((hbp.block _ OB2.out.lt).trans OB2.out))) | (go_at_call 18; (with_reducible refine (hpt.out (w2.alloc (.cells #[.int .i64 0, .int .i64 0, .slice none 0 0, .slice none 0 0] 32))).mono ?_); rintro e w2p ⟨rfl, hbp⟩; have N2p := Lib.hid (KSI.next (And.left (by assumption)) hbp); have hbq := ((Below.refl w2.heap.size w2).alloc (Nat.le_refl _) (.cells #[.int .i64 0, .int .i64 0, .slice none 0 0, .slice none 0 0] 32)).trans (hbp.mono (by simp)); have C2p := Lib.hid ((C2.out.below hbq).up hbq.size); have C2pa := Lib.hid (show CV (w2p.alloc (.cells #[.int .i64 0, .int .i64 0, .slice none 0 0, .slice none 0 0] 32)) (w2p.alloc (.cells #[.int .i64 0, .int .i64 0, .slice none 0 0, .slice none 0 0] 32)).heap.size _ cs from (C2p.out.below ((Below.refl _ _).alloc (Nat.le_refl _) _)).up (by simp)); have sz2p := N2p.out.size; have OBp : Hid (BoxN w2p w2.heap.size #[.int .i64 0, .int .i64 0, .slice none 0 0, .slice none 0 0] 32) := Lib.hid ((hbp.block _ (by simp)).trans (World.alloc_heap_new w2 _))) | (go_at_call 16; (with_reducible refine (hsp.out _ w2p C2p.out).mono ?_); rintro e w3 ⟨rv3, lv3, es3, rfl, hd3, hb3⟩; have N3 := KSI.next (And.left (by assumption)) hb3; obtain ⟨ra, rc, hra⟩ := hd3.raw.shape; obtain ⟨la, lc, hla⟩ := hd3.lvl.row.shape; rw [HRT.out] at hra; rw [HLT.out] at hla; subst hra hla; have HD3 := Lib.hid hd3; have HN3 := Lib.hid N3; have szk := hb3.size; have sz3 := N3.size; try ((have hobp := OBp.out.lt); (have OB3 : Hid (BoxN w3 _ #[.int .i64 0, .int .i64 0, .slice none 0 0, .slice none 0 0] 32) := Lib.hid ((hb3.block _ OBp.out.lt).trans OBp.out)); have hob3 := OB3.out.lt; have o0 := BoxN.cell (i := 0) OB3.out rfl; have o1 := BoxN.cell (i := 1) OB3.out rfl; have o2 := BoxN.cell (i := 2) OB3.out rfl; have o3 := BoxN.cell (i := 3) OB3.out rfl; have f0 := BoxN.frozen (i := 0) OB3.out; have f1 := BoxN.frozen (i := 1) OB3.out; have f2 := BoxN.frozen (i := 2) OB3.out; have f3 := BoxN.frozen (i := 3) OB3.out)) | (go_at_call 16; (with_reducible refine (hsp.out _ (w2p.alloc (.cells #[.int .i64 0, .int .i64 0, .slice none 0 0, .slice none 0 0] 32)) C2pa.out).mono ?_); rintro e w3 ⟨rv3, lv3, es3, rfl, hd3, hb3⟩; have N3 := KSI.next (And.left (by assumption)) hb3; obtain ⟨ra, rc, hra⟩ := hd3.raw.shape; obtain ⟨la, lc, hla⟩ := hd3.lvl.row.shape; rw [HRT.out] at hra; rw [HLT.out] at hla; subst hra hla; have HD3 := Lib.hid hd3; have HN3 := Lib.hid N3; have szk := hb3.size; have sz3 := N3.size; (have OB3 : Hid (BoxN w3 w2p.heap.size #[.int .i64 0, .int .i64 0, .slice none 0 0, .slice none 0 0] 32) := Lib.hid ((hb3.block _ (by simp)).trans (World.alloc_heap_new w2p _))); have hob3 := OB3.out.lt; have o0 := BoxN.cell (i := 0) OB3.out rfl; have o1 := BoxN.cell (i := 1) OB3.out rfl; have o2 := BoxN.cell (i := 2) OB3.out rfl; have o3 := BoxN.cell (i := 3) OB3.out rfl; have f0 := BoxN.frozen (i := 0) OB3.out; have f1 := BoxN.frozen (i := 1) OB3.out; have f2 := BoxN.frozen (i := 2) OB3.out; have f3 := BoxN.frozen (i := 3) OB3.out))
        all_goals
          go_wp2_with fail
          go_meet
          case rel => first
            | exact ⟨_, ra, rc, la, lc, es3, _, _, rfl, rfl, BoxN.set4 OB3.out _ _ _ _, CD.set4o HD3.out (by first | omega | (simp; done) | (simp; omega)), KSI.set4 HN3.out (by first | omega | (simp; done) | (simp; omega)) _ _ _ _, (by first | omega | (simp; done) | (simp; omega)), by simp [World.setCell], (by first | omega | (simp; done) | (simp; omega)), .inl (by first | omega | (simp; done) | (simp; omega))⟩
            | exact ⟨_, ra, rc, la, lc, es3, _, _, rfl, rfl, World.alloc_heap_new w3 _, HD3.out.below ((Below.refl _ _).alloc (Nat.le_refl _) _), HN3.out.alloc (by first | omega | (simp; done) | (simp; omega)) _, (by first | omega | (simp; done) | (simp; omega)), by simp, (by first | omega | (simp; done) | (simp; omega)), .inr (Nat.le_refl _)⟩
      case rest =>
      obtain ⟨ob3, ra3, rc3, la3, lc3, esS, loS, hiS, rfl, rfl, hbx3, hcd3, hbe3, q1, q2, q3, q4⟩ := hcut
      obtain ⟨wa, hwa⟩ : ∃ wa, wc = wa := ⟨_, rfl⟩
      rw [hwa] at hbx3 hcd3 hbe3 q2 ⊢
      clear hwa x0 x1 x2 x3 q1 q2 q3 q4
      have X0 : Hid (BoxN wa ob3 #[.int .i64 ct.1, .int .i64 ct.2.1, .slice ra3 rt rc3, .slice la3 lt lc3] 32) := Lib.hid hbx3
      have Ia := Lib.hid (I1.out.below (hbe3.mono B1.out.size))
      have Ba := Lib.hid (B1.out.trans (hbe3.mono B1.out.size))
      have BXa : Hid (BoxN wa w.heap.size #[.int .i64 nw, .int .i64 kp, .slice A n c, .slice A2 m c2] 25) := Lib.hid ((hbe3.block _ BX1.out.lt).trans BX1.out)
      have BPa : Hid (BoxN wa (w.heap.size + 1) #[.int .i64 t, .int .i64 v] 27) := Lib.hid ((hbe3.block _ BP1.out.lt).trans BP1.out)
      have Ca : Hid (CV wa wa.heap.size (.agg #[.int .i64 ct.1, .int .i64 ct.2.1, .slice ra3 rt rc3, .slice la3 lt lc3]) ct) := Lib.hid (by have := hcd3.cv TCR.out; exact this)
      have Sa := Ba.out.size
      clear hbx3 hcd3 hbe3 I1 B1 IUP BX1 BP1
      have x0 := BoxN.cell (i := 0) BXa.out rfl
      have x1 := BoxN.cell (i := 1) BXa.out rfl
      have x2 := BoxN.cell (i := 2) BXa.out rfl
      have x3 := BoxN.cell (i := 3) BXa.out rfl
      go_wp2_with fail
      refine (hcp.out _ _ (Ia.out.up Sa)).mono ?_
      rintro e w4 ⟨rv4, lv4, es, rfl, hd4, hb4⟩
      have F4 := Lib.hid hb4
      obtain ⟨ra, rc, rfl⟩ := hd4.raw.shape
      obtain ⟨la, lc, rfl⟩ := hd4.lvl.row.shape
      obtain ⟨rn, hrn⟩ : ∃ rn, cs.2.2.1.length = rn := ⟨_, rfl⟩
      obtain ⟨ln, hln⟩ : ∃ ln, cs.2.2.2.length = ln := ⟨_, rfl⟩
      rw [hrn, hln] at hd4 ⊢
      have D4 := Lib.hid hd4
      clear hd4 hb4 x0 x1 x2 x3 hrn hln
      obtain ⟨wb, hwb⟩ : ∃ wb, w4.alloc (.cells #[.int .i64 cs.1, .int .i64 cs.2.1, .slice ra rn rc, .slice la ln lc] 32) = wb := ⟨_, rfl⟩
      have Y4 : Hid (BoxN wb w4.heap.size #[.int .i64 cs.1, .int .i64 cs.2.1, .slice ra rn rc, .slice la ln lc] 32) := Lib.hid (by rw [← hwb]; exact World.alloc_heap_new w4 _)
      have hbb : Below w4.heap.size w4 wb := by rw [← hwb]; exact (Below.refl _ _).alloc (Nat.le_refl _) _
      have Fb := Lib.hid (F4.out.trans (hbb.mono F4.out.size))
      have Db := Lib.hid (D4.out.below hbb)
      have Cb : Hid (CV wb wb.heap.size (.agg #[.int .i64 cs.1, .int .i64 cs.2.1, .slice ra rn rc, .slice la ln lc]) cs) := Lib.hid (by have := Db.out.cv HCR.out; exact this)
      have HWb := Lib.hid hwb
      have S4 := F4.out.size
      have S4b := Y4.out.lt
      clear hwb hbb F4 D4
      have y0 := BoxN.cell (i := 0) Y4.out rfl
      have y1 := BoxN.cell (i := 1) Y4.out rfl
      have y2 := BoxN.cell (i := 2) Y4.out rfl
      have y3 := BoxN.cell (i := 3) Y4.out rfl
      go_upto_region 7 with fail
      rw [HWb.out]
      have BPb : Hid (BoxN wb (w.heap.size + 1) #[.int .i64 t, .int .i64 v] 27) := Lib.hid ((Fb.out.block _ BPa.out.lt).trans BPa.out)
      go_cut [9, 10] (fun s1 s2 wx => ∃ (ob : Nat) (ra : Option Addr) (rc : Nat) (la : Option Addr) (lc : Nat) (es : List LvC) (lo hi : Nat), s1 = .pointer (some ⟨ob, 0, none⟩) ∧ s2 = .bool fb ∧ BoxN wx ob #[.int .i64 ct.1, .int .i64 ct.2.1, .slice ra rt rc, .slice la lt lc] 32 ∧ CD wx lo hi ct (.slice ra rt rc) (.slice la lt lc) es ∧ Below wb.heap.size wb wx ∧ wb.heap.size ≤ lo ∧ hi ≤ wx.heap.size ∧ wb.heap.size ≤ ob ∧ (ob < lo ∨ hi ≤ ob))
      case first =>
        have hK0 : Below wb.heap.size wb wb.drew := (Below.refl _ _).drew
        have HK0 := Lib.hid (KSI.of Y4.out BPb.out hK0)
        clear hK0
        have OBz := Lib.hid (show BoxN (wb.alloc (.cells #[.int .i64 0, .int .i64 0, .slice none 0 0, .slice none 0 0] 32)) wb.heap.size #[.int .i64 0, .int .i64 0, .slice none 0 0, .slice none 0 0] 32 from World.alloc_heap_new wb _)
        have C2 := Cb
        go_region_held3 (fun W => Below wb.heap.size wb W ∧ W.cell? ⟨w4.heap.size, 0, none⟩ = some (.int .i64 cs.1) ∧ W.cell? ⟨w4.heap.size, 1, none⟩ = some (.int .i64 cs.2.1) ∧ W.cell? ⟨w4.heap.size, 2, none⟩ = some (.slice ra rn rc) ∧ W.cell? ⟨w4.heap.size, 3, none⟩ = some (.slice la ln lc) ∧ W.cell? ⟨w.heap.size + 1, 0, none⟩ = some (.int .i64 t) ∧ W.cell? ⟨w.heap.size + 1, 1, none⟩ = some (.int .i64 v))
          (first | with_reducible assumption | with_reducible exact HK0.out | with_reducible exact KSI.of Y4.out BPb.out (KSI.alloc (And.left (by assumption)) _) | with_reducible exact KSI.of Y4.out BPb.out (KSI.allocD (And.left (by assumption)) _) | with_reducible exact KSI.of Y4.out BPb.out (KSI.next (And.left (by assumption)) (by assumption)) | with_reducible exact KSI.of Y4.out BPb.out (KSI.alloc HN3.out _) | with_reducible exact KSI.of Y4.out BPb.out (KSI.set4 HN3.out (by omega) _ _ _ _))
          (first | (go_at_call 18; (with_reducible refine (hpt.out wb.drew).mono ?_); rintro e w2p ⟨rfl, hbp⟩; have N2p := Lib.hid (KSI.next (And.left (by assumption)) hbp); have hbq := ((Below.refl wb.heap.size wb).drew).trans hbp; have C2p := Lib.hid ((C2.out.below hbq).up hbq.size); have C2pa := Lib.hid (show CV (w2p.alloc (.cells #[.int .i64 0, .int .i64 0, .slice none 0 0, .slice none 0 0] 32)) (w2p.alloc (.cells #[.int .i64 0, .int .i64 0, .slice none 0 0, .slice none 0 0] 32)).heap.size _ cs from (C2p.out.below ((Below.refl _ _).alloc (Nat.le_refl _) _)).up (by simp)); have sz2p := N2p.out.size) | (go_at_call 18; (with_reducible refine (hpt.out (wb.alloc (.cells #[.int .i64 0, .int .i64 0, .slice none 0 0, .slice none 0 0] 32)).drew).mono ?_); rintro e w2p ⟨rfl, hbp⟩; have N2p := Lib.hid (KSI.next (And.left (by assumption)) hbp); have hbq : Below wb.heap.size wb w2p := (((Below.refl wb.heap.size wb).alloc (Nat.le_refl _) (.cells #[.int .i64 0, .int .i64 0, .slice none 0 0, .slice none 0 0] 32)).drew).trans (hbp.mono (by simp)); have C2p := Lib.hid ((C2.out.below hbq).up hbq.size); have C2pa := Lib.hid (show CV (w2p.alloc (.cells #[.int .i64 0, .int .i64 0, .slice none 0 0, .slice none 0 0] 32)) (w2p.alloc (.cells #[.int .i64 0, .int .i64 0, .slice none 0 0, .slice none 0 0] 32)).heap.size _ cs from (C2p.out.below ((Below.refl _ _).alloc (Nat.le_refl _) _)).up (by simp)); have sz2p := N2p.out.size; have OBp : Hid (BoxN w2p wb.heap.size #[.int .i64 0, .int .i64 0, .slice none 0 0, .slice none 0 0] 32) := Lib.hid ((hbp.block _ (by simp)).trans OBz.out)) | (go_at_call 19; (with_reducible refine (him.out _ w2p C2p.out).mono ?_); rintro e w3 ⟨rv3, lv3, es3, rfl, hd3, hb3⟩; have N3 := KSI.next (And.left (by assumption)) hb3; obtain ⟨ra, rc, hra⟩ := hd3.raw.shape; obtain ⟨la, lc, hla⟩ := hd3.lvl.row.shape; rw [HRT.out] at hra; rw [HLT.out] at hla; subst hra hla; have HD3 := Lib.hid hd3; have HN3 := Lib.hid N3; have szk := hb3.size; have sz3 := N3.size; try ((have hobp := OBp.out.lt); (have OB3 : Hid (BoxN w3 _ #[.int .i64 0, .int .i64 0, .slice none 0 0, .slice none 0 0] 32) := Lib.hid ((hb3.block _ OBp.out.lt).trans OBp.out)); have hob3 := OB3.out.lt; have o0 := BoxN.cell (i := 0) OB3.out rfl; have o1 := BoxN.cell (i := 1) OB3.out rfl; have o2 := BoxN.cell (i := 2) OB3.out rfl; have o3 := BoxN.cell (i := 3) OB3.out rfl; have f0 := BoxN.frozen (i := 0) OB3.out; have f1 := BoxN.frozen (i := 1) OB3.out; have f2 := BoxN.frozen (i := 2) OB3.out; have f3 := BoxN.frozen (i := 3) OB3.out)) | (go_at_call 19; (with_reducible refine (him.out _ (w2p.alloc (.cells #[.int .i64 0, .int .i64 0, .slice none 0 0, .slice none 0 0] 32)) C2pa.out).mono ?_); rintro e w3 ⟨rv3, lv3, es3, rfl, hd3, hb3⟩; have N3 := KSI.next (And.left (by assumption)) hb3; obtain ⟨ra, rc, hra⟩ := hd3.raw.shape; obtain ⟨la, lc, hla⟩ := hd3.lvl.row.shape; rw [HRT.out] at hra; rw [HLT.out] at hla; subst hra hla; have HD3 := Lib.hid hd3; have HN3 := Lib.hid N3; have szk := hb3.size; have sz3 := N3.size; (have OB3 : Hid (BoxN w3 w2p.heap.size #[.int .i64 0, .int .i64 0, .slice none 0 0, .slice none 0 0] 32) := Lib.hid ((hb3.block _ (by simp)).trans (World.alloc_heap_new w2p _))); have hob3 := OB3.out.lt; have o0 := BoxN.cell (i := 0) OB3.out rfl; have o1 := BoxN.cell (i := 1) OB3.out rfl; have o2 := BoxN.cell (i := 2) OB3.out rfl; have o3 := BoxN.cell (i := 3) OB3.out rfl; have f0 := BoxN.frozen (i := 0) OB3.out; have f1 := BoxN.frozen (i := 1) OB3.out; have f2 := BoxN.frozen (i := 2) OB3.out; have f3 := BoxN.frozen (i := 3) OB3.out))
        all_goals
          go_wp2_with fail
          go_meet
          case rel => first
            | exact ⟨_, ra, rc, la, lc, es3, _, _, rfl, rfl, BoxN.set4 OB3.out _ _ _ _, CD.set4o HD3.out (by first | omega | (simp; done) | (simp; omega)), KSI.set4 HN3.out (by first | omega | (simp; done) | (simp; omega)) _ _ _ _, (by first | omega | (simp; done) | (simp; omega)), by simp [World.setCell], (by first | omega | (simp; done) | (simp; omega)), .inl (by first | omega | (simp; done) | (simp; omega))⟩
            | exact ⟨_, ra, rc, la, lc, es3, _, _, rfl, rfl, World.alloc_heap_new w3 _, HD3.out.below ((Below.refl _ _).alloc (Nat.le_refl _) _), HN3.out.alloc (by first | omega | (simp; done) | (simp; omega)) _, (by first | omega | (simp; done) | (simp; omega)), by simp, (by first | omega | (simp; done) | (simp; omega)), .inr (Nat.le_refl _)⟩
      case rest =>
      obtain ⟨ob5, rag, rcg, lag, lcg, es5, loG, hiG, rfl, rfl, hbx5, hcd5, hbe5, hlo1, hhi1, hob1, hob2⟩ := hcut
      obtain ⟨wg, hwg⟩ : ∃ wg, wc = wg := ⟨_, rfl⟩
      rw [hwg] at hbx5 hcd5 hbe5 hhi1 ⊢
      clear hwg y0 y1 y2 y3
      have G0 : Hid (BoxN wg ob5 #[.int .i64 ct.1, .int .i64 ct.2.1, .slice rag rt rcg, .slice lag lt lcg] 32) := Lib.hid hbx5
      have Fg := Lib.hid (Fb.out.trans (hbe5.mono Fb.out.size))
      have Eg := Lib.hid hbe5
      have Dg := Lib.hid hcd5
      have Cg : Hid (CV wg wg.heap.size (.agg #[.int .i64 ct.1, .int .i64 ct.2.1, .slice rag rt rcg, .slice lag lt lcg]) ct) := Lib.hid (by have := hcd5.cv TCR.out; exact this)
      have Xg : Hid (BoxN wg ob3 #[.int .i64 ct.1, .int .i64 ct.2.1, .slice ra3 rt rc3, .slice la3 lt lc3] 32) := Lib.hid ((Fg.out.block _ X0.out.lt).trans X0.out)
      have S5 : wb.heap.size ≤ ob5 := hob1
      have S5g := G0.out.lt
      have S5w := Eg.out.size
      have HOB2 := Lib.hid hob2
      clear hbx5 hcd5 hbe5 hob1 hob2
      have x0 := BoxN.cell (i := 0) Xg.out rfl
      have x1 := BoxN.cell (i := 1) Xg.out rfl
      have x2 := BoxN.cell (i := 2) Xg.out rfl
      have x3 := BoxN.cell (i := 3) Xg.out rfl
      have y0 := BoxN.cell (i := 0) G0.out rfl
      have y1 := BoxN.cell (i := 1) G0.out rfl
      have y2 := BoxN.cell (i := 2) G0.out rfl
      have y3 := BoxN.cell (i := 3) G0.out rfl
      go_wp2_with fail
      refine (heqt.out _ _ _ Cg.out ((Ca.out.below Fg.out).up Fg.out.size)).mono ?_
      rintro e w6 ⟨rfl, hb6⟩
      have E6 := Lib.hid (Eg.out.trans (hb6.mono Eg.out.size))
      have F6 := Lib.hid (Fg.out.trans (hb6.mono Fg.out.size))
      have K6 := Lib.hid hb6
      have S6 := hb6.size
      clear hb6 x0 x1 x2 x3 y0 y1 y2 y3 Cg Xg Eg
      have BX6 : Hid (BoxN w6 w.heap.size #[.int .i64 nw, .int .i64 kp, .slice A n c, .slice A2 m c2] 25) := Lib.hid ((F6.out.block _ BXa.out.lt).trans BXa.out)
      have Y6 : Hid (BoxN w6 w4.heap.size #[.int .i64 cs.1, .int .i64 cs.2.1, .slice ra rn rc, .slice la ln lc] 32) := Lib.hid ((E6.out.block _ Y4.out.lt).trans Y4.out)
      have x0 := BoxN.cell (i := 0) BX6.out rfl
      have x1 := BoxN.cell (i := 1) BX6.out rfl
      have x2 := BoxN.cell (i := 2) BX6.out rfl
      have x3 := BoxN.cell (i := 3) BX6.out rfl
      have y0 := BoxN.cell (i := 0) Y6.out rfl
      have y1 := BoxN.cell (i := 1) Y6.out rfl
      have y2 := BoxN.cell (i := 2) Y6.out rfl
      have y3 := BoxN.cell (i := 3) Y6.out rfl
      have I6u := Lib.hid ((Ia.out.below (F6.out.mono Sa)).up (show w.heap.size ≤ w6.heap.size from Nat.le_trans Sa F6.out.size))
      have I6d : Hid (CV w6.drew w6.drew.heap.size _ cs) := Lib.hid I6u.out
      have C6 := Lib.hid ((Cb.out.below E6.out).up E6.out.size)
      go_wp2_with fail
      go_region_law (first
        | (go_simp; go_at_call 17; refine (hcp.out _ _ (by first | with_reducible exact I6d.out | with_reducible exact I6u.out)).mono ?_; rintro e w7 ⟨rv7, lv7, es7, rfl, hd7, hb7⟩; have C7 := Lib.hid (hd7.cv HCR.out); have N7 := Lib.hid (show Below w6.heap.size w6 w7 from by first | exact hb7 | exact below_undrewT hb7); have C67 := Lib.hid ((C6.out.below N7.out).up N7.out.size); have Y7 : Hid (BoxN w7 w4.heap.size #[.int .i64 cs.1, .int .i64 cs.2.1, .slice ra rn rc, .slice la ln lc] 32) := Lib.hid ((N7.out.block _ (BoxN.lt Y6.out)).trans Y6.out); have z0 := BoxN.cell (i := 0) Y7.out rfl; have z1 := BoxN.cell (i := 1) Y7.out rfl; have z2 := BoxN.cell (i := 2) Y7.out rfl; have z3 := BoxN.cell (i := 3) Y7.out rfl; clear hd7 hb7)
        | (go_simp; go_at_call 20; refine (heq.out _ _ _ (by first | with_reducible exact C67.out | with_reducible exact CV.drewT C67.out) (by first | with_reducible exact C7.out | with_reducible exact CV.drewT C7.out)).mono ?_; rintro e w8 ⟨rfl, hb8⟩; have N8 := Lib.hid (N7.out.trans ((show Below w7.heap.size w7 w8 from by first | exact hb8 | exact below_undrewT hb8).mono N7.out.size)); clear hb8))
      all_goals
        go_simp
        have K8 := Lib.hid (K6.out.trans (N8.out.mono S6))
        have E8 := Lib.hid (E6.out.trans (N8.out.mono E6.out.size))
        have F8 := Lib.hid (F6.out.trans (N8.out.mono F6.out.size))
        have S8 := K8.out.size
        have D8 := Lib.hid (Db.out.below E8.out)
        have Y8 : Hid (BoxN w8 w4.heap.size #[.int .i64 cs.1, .int .i64 cs.2.1, .slice ra rn rc, .slice la ln lc] 32) := Lib.hid ((E8.out.block _ Y4.out.lt).trans Y4.out)
        clear N8 N7 C7 C67 C6 Y7 E6 F6 BX6 Y6 I6u I6d K6 z0 z1 z2 z3 x0 x1 x2 x3 y0 y1 y2 y3
        have y0 := BoxN.cell (i := 0) Y8.out rfl
        have y1 := BoxN.cell (i := 1) Y8.out rfl
        have y2 := BoxN.cell (i := 2) Y8.out rfl
        have y3 := BoxN.cell (i := 3) Y8.out rfl
        have hcal := Lib.hid (hmc.out _ _ _ _ _ w8 D8.out)
        go_wp2_with fail
        refine hcal.out.mono ?_
        rintro e w9 ⟨rfl, hx9, wm, hbm, hc9⟩
        have hlo : ∀ g, CBk cs (.slice ra rn rc) (.slice la ln lc) es g → wa.heap.size ≤ g ∧ g < w4.heap.size := fun g hg => ⟨(Db.out.lt hg).1, (Db.out.lt hg).2.1⟩
        have A9 : Hid (∀ k, wb.heap.size ≤ k → k < wg.heap.size → w9.heap[k]? = wg.heap[k]?) := Lib.hid (fun k h1 h2 => ((hc9.block _ (Nat.lt_of_lt_of_le (Nat.lt_of_lt_of_le h2 S8) hbm.size) (fun hS => by have := (hlo _ hS).2; omega)).trans (hbm.block _ (Nat.lt_of_lt_of_le h2 S8))).trans (K8.out.block _ h2))
        have F9 := Lib.hid ((F8.out.trans (hbm.mono F8.out.size)).trans (hc9.below (base := wa.heap.size) (Nat.le_trans F8.out.size hbm.size) (fun g hg => (hlo g hg).1)))
        have S9 : wg.heap.size ≤ w9.heap.size := Nat.le_trans (Nat.le_trans S8 hbm.size) hc9.size
        have G9 : Hid (BoxN w9 ob5 #[.int .i64 ct.1, .int .i64 ct.2.1, .slice rag rt rcg, .slice lag lt lcg] 32) := Lib.hid ((A9.out _ S5 S5g).trans G0.out)
        have D9 := Lib.hid (Dg.out.at_ (fun g hg => A9.out g (by have := (Dg.out.lt hg).1; omega) (by have := (Dg.out.lt hg).2.2; omega)))
        have C9 : Hid (CV w9 w9.heap.size (.agg #[.int .i64 ct.1, .int .i64 ct.2.1, .slice rag rt rcg, .slice lag lt lcg]) ct) := Lib.hid (by have := D9.out.cv TCR.out; exact this)
        have X9 : Hid (BoxN w9 ob3 #[.int .i64 ct.1, .int .i64 ct.2.1, .slice ra3 rt rc3, .slice la3 lt lc3] 32) := Lib.hid ((F9.out.block _ X0.out.lt).trans X0.out)
        clear hx9 hbm hc9 hlo hcal E8 F8 D8 Y8 K8 A9 y0 y1 y2 y3
        have x0 := BoxN.cell (i := 0) X9.out rfl
        have x1 := BoxN.cell (i := 1) X9.out rfl
        have x2 := BoxN.cell (i := 2) X9.out rfl
        have x3 := BoxN.cell (i := 3) X9.out rfl
        have y0 := BoxN.cell (i := 0) G9.out rfl
        have y1 := BoxN.cell (i := 1) G9.out rfl
        have y2 := BoxN.cell (i := 2) G9.out rfl
        have y3 := BoxN.cell (i := 3) G9.out rfl
        have d9 : decide (1 + totC cs < 0) = false := decide_eq_false (by omega)
        go_wp2_with fail
        refine (heqt.out _ _ _ C9.out ((Ca.out.below F9.out).up F9.out.size)).mono ?_
        rintro e w10 ⟨rfl, hb10⟩
        have F10 := Lib.hid (F9.out.trans (hb10.mono F9.out.size))
        have D10 := Lib.hid (D9.out.below hb10)
        have G10 : Hid (BoxN w10 ob5 #[.int .i64 ct.1, .int .i64 ct.2.1, .slice rag rt rcg, .slice lag lt lcg] 32) := Lib.hid ((hb10.block _ G9.out.lt).trans G9.out)
        clear hb10 F9 D9 G9 C9 X9 x0 x1 x2 x3 y0 y1 y2 y3
        have y0 := BoxN.cell (i := 0) G10.out rfl
        have y1 := BoxN.cell (i := 1) G10.out rfl
        have y2 := BoxN.cell (i := 2) G10.out rfl
        have y3 := BoxN.cell (i := 3) G10.out rfl
        have hcal := Lib.hid (hmt.out _ _ _ _ _ w10 D10.out)
        have hlg : Hid (∀ g, CBk ct (.slice rag rt rcg) (.slice lag lt lcg) es5 g → wb.heap.size ≤ g ∧ ¬ g = ob5) := Lib.hid (fun g hg => ⟨by have := (Dg.out.lt hg).1; omega, by have h1 := (Dg.out.lt hg).1; have h2 := (Dg.out.lt hg).2.1; have h3 := HOB2.out; omega⟩)
        go_wp2_with fail
        refine hcal.out.mono ?_
        rintro e w11 ⟨rfl, ⟨es11, hd11⟩, wm, hbm, hc11⟩
        have F11 := Lib.hid ((F10.out.trans (hbm.mono F10.out.size)).trans (hc11.below (base := wa.heap.size) (Nat.le_trans F10.out.size hbm.size) (fun g hg => by have := (hlg.out g hg).1; omega)))
        have G11 : Hid (BoxN w11 ob5 #[.int .i64 ct.1, .int .i64 ct.2.1, .slice rag rt rcg, .slice lag lt lcg] 32) := Lib.hid ((hc11.block _ (Nat.lt_of_lt_of_le G10.out.lt hbm.size) (fun hS => (hlg.out _ hS).2 rfl)).trans ((hbm.block _ G10.out.lt).trans G10.out))
        have C11 : Hid (CV w11 w11.heap.size (.agg #[.int .i64 ct.1, .int .i64 ct.2.1, .slice rag rt rcg, .slice lag lt lcg]) (mkC 1 ct)) := Lib.hid (by have := hd11.cv TMR.out; exact this)
        clear hd11 hbm hc11 hcal F10 D10 G10 y0 y1 y2 y3
        have y0 := BoxN.cell (i := 0) G11.out rfl
        have y1 := BoxN.cell (i := 1) G11.out rfl
        have y2 := BoxN.cell (i := 2) G11.out rfl
        have y3 := BoxN.cell (i := 3) G11.out rfl
        have d11 : decide (1 + totC ct < 0) = false := decide_eq_false (by omega)
        go_wp2_with fail
        refine (hht.out _ _ C11.out).mono ?_
        rintro e w12 ⟨rfl, hb12⟩
        have F12 := Lib.hid (F11.out.trans (hb12.mono F11.out.size))
        have C12 := Lib.hid ((C11.out.below hb12).up hb12.size)
        have G12 : Hid (BoxN w12 ob5 #[.int .i64 ct.1, .int .i64 ct.2.1, .slice rag rt rcg, .slice lag lt lcg] 32) := Lib.hid ((hb12.block _ G11.out.lt).trans G11.out)
        have BX12 : Hid (BoxN w12 w.heap.size #[.int .i64 nw, .int .i64 kp, .slice A n c, .slice A2 m c2] 25) := Lib.hid ((F12.out.block _ BXa.out.lt).trans BXa.out)
        have I12 := Lib.hid ((Ia.out.below (F12.out.mono Sa)).up (Nat.le_trans Sa F12.out.size))
        clear hb12 F11 C11 G11 y0 y1 y2 y3
        have x0 := BoxN.cell (i := 0) BX12.out rfl
        have x1 := BoxN.cell (i := 1) BX12.out rfl
        have x2 := BoxN.cell (i := 2) BX12.out rfl
        have x3 := BoxN.cell (i := 3) BX12.out rfl
        have BP12 : Hid (BoxN w12 (w.heap.size + 1) #[.int .i64 t, .int .i64 v] 27) := Lib.hid ((F12.out.block _ BPa.out.lt).trans BPa.out)
        go_upto_region 24 with fail
        go_cut [14, 15] (fun s1 s2 wx => ∃ (ob : Nat) (ra : Option Addr) (rc : Nat) (la : Option Addr) (lc : Nat) (es : List LvC) (lo hi : Nat), s1 = .pointer (some ⟨ob, 0, none⟩) ∧ s2 = .bool fb ∧ BoxN wx ob #[.int .i64 ct.1, .int .i64 ct.2.1, .slice ra rt rc, .slice la lt lc] 32 ∧ CD wx lo hi ct (.slice ra rt rc) (.slice la lt lc) es ∧ Below w12.heap.size w12 wx ∧ w12.heap.size ≤ lo ∧ hi ≤ wx.heap.size ∧ w12.heap.size ≤ ob ∧ (ob < lo ∨ hi ≤ ob))
        case first =>
          have hK0 : Below w12.heap.size w12 w12.drew := (Below.refl _ _).drew
          have HK0 := Lib.hid (KSI.of BX12.out BP12.out hK0)
          clear hK0
          have OBz := Lib.hid (show BoxN (w12.alloc (.cells #[.int .i64 0, .int .i64 0, .slice none 0 0, .slice none 0 0] 32)) w12.heap.size #[.int .i64 0, .int .i64 0, .slice none 0 0, .slice none 0 0] 32 from World.alloc_heap_new w12 _)
          have IA : Hid (CV w12.drew w12.drew.heap.size _ cs) := Lib.hid I12.out
          have IB : Hid (CV (w12.alloc (.cells #[.int .i64 0, .int .i64 0, .slice none 0 0, .slice none 0 0] 32)).drew (w12.alloc (.cells #[.int .i64 0, .int .i64 0, .slice none 0 0, .slice none 0 0] 32)).drew.heap.size _ cs) := Lib.hid (show CV (w12.alloc (.cells #[.int .i64 0, .int .i64 0, .slice none 0 0, .slice none 0 0] 32)) (w12.alloc (.cells #[.int .i64 0, .int .i64 0, .slice none 0 0, .slice none 0 0] 32)).heap.size _ cs from (I12.out.below ((Below.refl _ _).alloc (Nat.le_refl _) _)).up (by simp))
          go_region_held3 (fun W => Below w12.heap.size w12 W ∧ W.cell? ⟨w.heap.size, 0, none⟩ = some (.int .i64 nw) ∧ W.cell? ⟨w.heap.size, 1, none⟩ = some (.int .i64 kp) ∧ W.cell? ⟨w.heap.size, 2, none⟩ = some (.slice A n c) ∧ W.cell? ⟨w.heap.size, 3, none⟩ = some (.slice A2 m c2) ∧ W.cell? ⟨w.heap.size + 1, 0, none⟩ = some (.int .i64 t) ∧ W.cell? ⟨w.heap.size + 1, 1, none⟩ = some (.int .i64 v))
            (first | with_reducible assumption | with_reducible exact HK0.out | with_reducible exact KSI.of BX12.out BP12.out (KSI.alloc (And.left (by assumption)) _) | with_reducible exact KSI.of BX12.out BP12.out (KSI.allocD (And.left (by assumption)) _) | with_reducible exact KSI.of BX12.out BP12.out (KSI.next (And.left (by assumption)) (by assumption)) | with_reducible exact KSI.of BX12.out BP12.out (KSI.alloc HN3.out _) | with_reducible exact KSI.of BX12.out BP12.out (KSI.set4 HN3.out (by omega) _ _ _ _))
            (first | (go_at_call 17; (refine (hcp.out _ _ (by with_reducible exact IA.out)).mono ?_); rintro e w2 ⟨rv2, lv2, es2, rfl, hd2, hb2⟩; have N2 := Lib.hid (KSI.next (And.left (by assumption)) hb2); have C2 := Lib.hid (hd2.cv HCR.out); have sz2 := N2.out.size) | (go_at_call 17; (refine (hcp.out _ _ (by with_reducible exact IB.out)).mono ?_); rintro e w2 ⟨rv2, lv2, es2, rfl, hd2, hb2⟩; have N2 := Lib.hid (KSI.next (And.left (by assumption)) hb2); have C2 := Lib.hid (hd2.cv HCR.out); have sz2 := N2.out.size; have OB2 : Hid (BoxN w2 w12.heap.size #[.int .i64 0, .int .i64 0, .slice none 0 0, .slice none 0 0] 32) := Lib.hid ((hb2.block _ OBz.out.lt).trans OBz.out)) | (go_at_call 18; (with_reducible refine (hpt.out w2).mono ?_); rintro e w2p ⟨rfl, hbp⟩; have N2p := Lib.hid (KSI.next (And.left (by assumption)) hbp); have C2p := Lib.hid ((C2.out.below hbp).up hbp.size); have C2pa := Lib.hid (show CV (w2p.alloc (.cells #[.int .i64 0, .int .i64 0, .slice none 0 0, .slice none 0 0] 32)) (w2p.alloc (.cells #[.int .i64 0, .int .i64 0, .slice none 0 0, .slice none 0 0] 32)).heap.size _ cs from (C2p.out.below ((Below.refl _ _).alloc (Nat.le_refl _) _)).up (by simp)); have sz2p := N2p.out.size; try (have OBp : Hid (BoxN w2p _ #[.int .i64 0, .int .i64 0, .slice none 0 0, .slice none 0 0] 32) := Lib.hid ((hbp.block _ OB2.out.lt).trans OB2.out))) | (go_at_call 18; (with_reducible refine (hpt.out (w2.alloc (.cells #[.int .i64 0, .int .i64 0, .slice none 0 0, .slice none 0 0] 32))).mono ?_); rintro e w2p ⟨rfl, hbp⟩; have N2p := Lib.hid (KSI.next (And.left (by assumption)) hbp); have hbq := ((Below.refl w2.heap.size w2).alloc (Nat.le_refl _) (.cells #[.int .i64 0, .int .i64 0, .slice none 0 0, .slice none 0 0] 32)).trans (hbp.mono (by simp)); have C2p := Lib.hid ((C2.out.below hbq).up hbq.size); have C2pa := Lib.hid (show CV (w2p.alloc (.cells #[.int .i64 0, .int .i64 0, .slice none 0 0, .slice none 0 0] 32)) (w2p.alloc (.cells #[.int .i64 0, .int .i64 0, .slice none 0 0, .slice none 0 0] 32)).heap.size _ cs from (C2p.out.below ((Below.refl _ _).alloc (Nat.le_refl _) _)).up (by simp)); have sz2p := N2p.out.size; have OBp : Hid (BoxN w2p w2.heap.size #[.int .i64 0, .int .i64 0, .slice none 0 0, .slice none 0 0] 32) := Lib.hid ((hbp.block _ (by simp)).trans (World.alloc_heap_new w2 _))) | (go_at_call 19; (with_reducible refine (him.out _ w2p C2p.out).mono ?_); rintro e w3 ⟨rv3, lv3, es3, rfl, hd3, hb3⟩; have N3 := KSI.next (And.left (by assumption)) hb3; obtain ⟨ra, rc, hra⟩ := hd3.raw.shape; obtain ⟨la, lc, hla⟩ := hd3.lvl.row.shape; rw [HRT.out] at hra; rw [HLT.out] at hla; subst hra hla; have HD3 := Lib.hid hd3; have HN3 := Lib.hid N3; have szk := hb3.size; have sz3 := N3.size; try ((have hobp := OBp.out.lt); (have OB3 : Hid (BoxN w3 _ #[.int .i64 0, .int .i64 0, .slice none 0 0, .slice none 0 0] 32) := Lib.hid ((hb3.block _ OBp.out.lt).trans OBp.out)); have hob3 := OB3.out.lt; have o0 := BoxN.cell (i := 0) OB3.out rfl; have o1 := BoxN.cell (i := 1) OB3.out rfl; have o2 := BoxN.cell (i := 2) OB3.out rfl; have o3 := BoxN.cell (i := 3) OB3.out rfl; have f0 := BoxN.frozen (i := 0) OB3.out; have f1 := BoxN.frozen (i := 1) OB3.out; have f2 := BoxN.frozen (i := 2) OB3.out; have f3 := BoxN.frozen (i := 3) OB3.out)) | (go_at_call 19; (with_reducible refine (him.out _ (w2p.alloc (.cells #[.int .i64 0, .int .i64 0, .slice none 0 0, .slice none 0 0] 32)) C2pa.out).mono ?_); rintro e w3 ⟨rv3, lv3, es3, rfl, hd3, hb3⟩; have N3 := KSI.next (And.left (by assumption)) hb3; obtain ⟨ra, rc, hra⟩ := hd3.raw.shape; obtain ⟨la, lc, hla⟩ := hd3.lvl.row.shape; rw [HRT.out] at hra; rw [HLT.out] at hla; subst hra hla; have HD3 := Lib.hid hd3; have HN3 := Lib.hid N3; have szk := hb3.size; have sz3 := N3.size; (have OB3 : Hid (BoxN w3 w2p.heap.size #[.int .i64 0, .int .i64 0, .slice none 0 0, .slice none 0 0] 32) := Lib.hid ((hb3.block _ (by simp)).trans (World.alloc_heap_new w2p _))); have hob3 := OB3.out.lt; have o0 := BoxN.cell (i := 0) OB3.out rfl; have o1 := BoxN.cell (i := 1) OB3.out rfl; have o2 := BoxN.cell (i := 2) OB3.out rfl; have o3 := BoxN.cell (i := 3) OB3.out rfl; have f0 := BoxN.frozen (i := 0) OB3.out; have f1 := BoxN.frozen (i := 1) OB3.out; have f2 := BoxN.frozen (i := 2) OB3.out; have f3 := BoxN.frozen (i := 3) OB3.out))
          all_goals
            go_wp2_with fail
            go_meet
            case rel => first
              | exact ⟨_, ra, rc, la, lc, es3, _, _, rfl, rfl, BoxN.set4 OB3.out _ _ _ _, CD.set4o HD3.out (by first | omega | (simp; done) | (simp; omega)), KSI.set4 HN3.out (by first | omega | (simp; done) | (simp; omega)) _ _ _ _, (by first | omega | (simp; done) | (simp; omega)), by simp [World.setCell], (by first | omega | (simp; done) | (simp; omega)), .inl (by first | omega | (simp; done) | (simp; omega))⟩
              | exact ⟨_, ra, rc, la, lc, es3, _, _, rfl, rfl, World.alloc_heap_new w3 _, HD3.out.below ((Below.refl _ _).alloc (Nat.le_refl _) _), HN3.out.alloc (by first | omega | (simp; done) | (simp; omega)) _, (by first | omega | (simp; done) | (simp; omega)), by simp, (by first | omega | (simp; done) | (simp; omega)), .inr (Nat.le_refl _)⟩
        case rest =>
        obtain ⟨ob14, rah, rch, lah, lch, es14, lo14, hi14, rfl, rfl, hbx14, hcd14, hbx, r1, r2, r3, r4⟩ := hcut
        obtain ⟨wh, hwh⟩ : ∃ wh, wc = wh := ⟨_, rfl⟩
        rw [hwh] at hbx14 hcd14 hbx ⊢
        clear hwh r1 r2 r3 r4 x0 x1 x2 x3
        have Z0 : Hid (BoxN wh ob14 #[.int .i64 ct.1, .int .i64 ct.2.1, .slice rah rt rch, .slice lah lt lch] 32) := Lib.hid hbx14
        have Fh := Lib.hid (F12.out.trans (hbx.mono F12.out.size))
        have Ch := Lib.hid ((C12.out.below hbx).up hbx.size)
        have Gh : Hid (BoxN wh ob5 #[.int .i64 ct.1, .int .i64 ct.2.1, .slice rag rt rcg, .slice lag lt lcg] 32) := Lib.hid ((hbx.block _ G12.out.lt).trans G12.out)
        have Eh : Hid (CV wh wh.heap.size (.agg #[.int .i64 ct.1, .int .i64 ct.2.1, .slice rah rt rch, .slice lah lt lch]) ct) := Lib.hid (by have := hcd14.cv TCR.out; exact this)
        have Xh : Hid (BoxN wh ob3 #[.int .i64 ct.1, .int .i64 ct.2.1, .slice ra3 rt rc3, .slice la3 lt lc3] 32) := Lib.hid ((Fh.out.block _ X0.out.lt).trans X0.out)
        clear hbx hbx14 hcd14 F12 C12 G12 BX12 I12
        have x0 := BoxN.cell (i := 0) Xh.out rfl
        have x1 := BoxN.cell (i := 1) Xh.out rfl
        have x2 := BoxN.cell (i := 2) Xh.out rfl
        have x3 := BoxN.cell (i := 3) Xh.out rfl
        have z0 := BoxN.cell (i := 0) Z0.out rfl
        have z1 := BoxN.cell (i := 1) Z0.out rfl
        have z2 := BoxN.cell (i := 2) Z0.out rfl
        have z3 := BoxN.cell (i := 3) Z0.out rfl
        go_wp2_with fail
        refine (heqt.out _ _ _ Eh.out ((Ca.out.below Fh.out).up Fh.out.size)).mono ?_
        rintro e w15 ⟨rfl, hb15⟩
        have F15 := Lib.hid (Fh.out.trans (hb15.mono Fh.out.size))
        have C15 := Lib.hid ((Ch.out.below hb15).up hb15.size)
        have G15 : Hid (BoxN w15 ob5 #[.int .i64 ct.1, .int .i64 ct.2.1, .slice rag rt rcg, .slice lag lt lcg] 32) := Lib.hid ((hb15.block _ Gh.out.lt).trans Gh.out)
        clear hb15 Fh Ch Gh Eh Xh x0 x1 x2 x3 z0 z1 z2 z3
        have y0 := BoxN.cell (i := 0) G15.out rfl
        have y1 := BoxN.cell (i := 1) G15.out rfl
        have y2 := BoxN.cell (i := 2) G15.out rfl
        have y3 := BoxN.cell (i := 3) G15.out rfl
        go_wp2_with fail
        refine (hht.out _ _ C15.out).mono ?_
        rintro e w16 ⟨rfl, hb16⟩
        have F16 := Lib.hid (F15.out.trans (hb16.mono F15.out.size))
        clear hb16 F15 C15 G15 y0 y1 y2 y3
        go_wp2_with fail
        go_ret
        exact ⟨rfl, Ba.out.trans (F16.out.mono Sa)⟩
end Go.Proofs.Ytkekpkfhljankaa
