/- Walks: the law FnExactIngestAll. -/
import Derived.Test.YtkekpkfhljankaaZy
import Derived.Test.YtkekpkfhljankaaPw
import Derived.Test.YtkekpkfhljankaaOl
set_option linter.unusedVariables false
set_option linter.unusedSimpArgs false
namespace Go.Proofs.Ytkekpkfhljankaa
open Go.RowKit

theorem CI.below' {w w' : World} {v : Value} {nw kp : Int} {A : Option Addr} {n c : Nat} {ks : List Nat} {lv : Value} (h : CI w w.heap.size v nw kp A n c ks lv) (hb : Below w.heap.size w w') (hs : w.heap.size ≤ w'.heap.size) : CI w' w'.heap.size v nw kp A n c ks lv := by
  obtain ⟨rfl, h1, h2, h3, h4, h5⟩ := h
  exact ⟨rfl, h1, h2, h3, fun hn => by
    obtain ⟨xs, hx, hp⟩ := h4 hn
    exact ⟨xs, hx, (hp.below hb).up hs⟩, (h5.below hb).up hs⟩
theorem szC_ok {n : Nat} {ks : List Nat} (h : ¬ szC n ks < 0) : n ≤ 1048576 ∧ ks.length ≤ 1048576 ∧ ∀ k ∈ ks, k ≤ 1048576 := by
  unfold szC at h
  split at h
  · exact absurd (show (-1 : Int) < 0 by omega) h
  · split at h
    · exact absurd (show (-1 : Int) < 0 by omega) h
    · exact ⟨by omega, by omega, szF_ok _ ks (by omega) (by omega) h⟩
theorem szC_bd (n : Nat) (ks : List Nat) : -1 ≤ szC n ks ∧ szC n ks ≤ 1048576 := by
  unfold szC
  split
  · omega
  · split
    · omega
    · exact szF_bd _ _ (by omega) (by omega)
theorem CV.drewT {w : World} {v : Value} {c : Cs} (h : CV w w.heap.size v c) : CV w.drew w.drew.heap.size v c := h
theorem dropC_cr {nw : Int} {c : Cs} (h : CR c) (hn : Rng nw) : CR (dropC nw c) := by
  have key : ∀ j, j < (dropC nw c).2.2.2.length → (dropC nw c).2.2.2.getD j zLv = dropL nw (c.2.2.2.getD j zLv) := by
    intro j hj
    have hj' : j < c.2.2.2.length := by have : j < (c.2.2.2.map (dropL nw)).length := hj; simpa using this
    show (c.2.2.2.map (dropL nw)).getD j zLv = _
    simp [List.getD_eq_getElem?_getD, hj']
  have hlen : (dropC nw c).2.2.2.length = c.2.2.2.length := by show (c.2.2.2.map (dropL nw)).length = _; simp
  refine ⟨hn, h.keep, prng_of (fun p hp => prng_mem h.raw p (List.mem_filter.1 (show p ∈ c.2.2.1.filter _ from hp)).1), Nat.le_trans (List.length_filter_le _ _) h.rlen, fun j => ?_, by rw [hlen]; exact h.llen, fun j hj => ?_⟩
  · by_cases hj : j < (dropC nw c).2.2.2.length
    · rw [key j hj]; exact h.lv j
    · rw [List.getD_eq_getElem?_getD, List.getElem?_eq_none (by omega)]; exact ⟨rng_zero, rng_zero⟩
  · have hr := h.rolls j (by omega)
    rw [key j hj]
    refine ⟨fun i => ?_, Nat.le_trans (List.length_filter_le _ _) hr.2⟩
    show Rng6 ((List.filter (rolAt nw (c.2.2.2.getD j zLv)) (c.2.2.2.getD j zLv).2.2).getD i z6)
    generalize c.2.2.2.getD j zLv = x at hr ⊢
    by_cases hi : i < (List.filter (rolAt nw x) x.2.2).length
    · have hm : (List.filter (rolAt nw x) x.2.2).getD i z6 ∈ x.2.2 := by
        rw [List.getD_eq_getElem?_getD, List.getElem?_eq_getElem hi]
        exact (List.mem_filter.1 (List.getElem_mem hi)).1
      obtain ⟨q, hq, hqe⟩ := List.getElem_of_mem hm
      rw [← hqe]
      have := hr.1 q
      rwa [List.getD_eq_getElem?_getD, List.getElem?_eq_getElem hq] at this
    · rw [List.getD_eq_getElem?_getD, List.getElem?_eq_none (by omega)]; exact rng6_zero
theorem tickM_cr {c : Cs} {nw : Int} (h : CR c) (hn : Rng nw) : CR (tickM c nw) := by
  unfold tickM
  split
  · exact dropC_cr h hn
  · exact zC_cr

theorem own_cap_vc {W : World} {base : Nat} {v : Value} {n : Nat} {xs : List Value} (h : W.ownsRow base 36 2 v n xs) : ∃ A cap, v = .slice A n cap ∧ n ≤ cap := by
  rcases h.2 with ⟨rfl, h0⟩ | ⟨g, cap, cur, rfl, hrest⟩
  · exact ⟨none, 0, by rw [h0], by omega⟩
  · exact ⟨_, cap, rfl, by first | omega | exact hrest.2.2.1 | exact hrest.2.2.2.1 | (obtain ⟨_, _, a, b, c⟩ := hrest; first | omega | exact a | exact b)⟩
theorem own_at_vc {W W' : World} {base sz n : Nat} {e : TypeId} {v : Value} {xs : List Value} (h : W.ownsRow base e sz v n xs) (hb : ∀ g, v.ownBlock = some g → W'.heap[g]? = W.heap[g]?) : W'.ownsRow base e sz v n xs := by
  refine ⟨h.1, ?_⟩
  rcases h.2 with h | ⟨g, cap, cur, rfl, hbase, hg, hr⟩
  · exact .inl h
  · exact .inr ⟨g, cap, cur, rfl, hbase, (hb g rfl).trans hg, hr⟩

theorem below_undrewT {w w' : World} {B : Nat} (h : Below B w.drew w') : Below B w w' := ((Below.refl B w).drew).trans h

set_option maxRecDepth 100000 in
set_option maxHeartbeats 8000000 in
theorem walkFnExactIngestAll (cv : Value) (nw kp : Int) (A : Option Addr) (n c : Nat) (ks : List Nat) (lv : Value) (Aq : Option Addr) (nq cq : Nat) (w : World) (h : CI w w.heap.size cv nw kp A n c ks lv) (hnq : nq ≤ maxLen) (hxq : nq ≤ 1048576 → ∃ ps : List (Int × Int), ps.length = nq ∧ PL w w.heap.size (.slice Aq nq cq) ps) :
    Calls Try.prog 4 #[cv, .slice Aq nq cq] w fun e w' => e = .returned (.bool true) ∧ Below w.heap.size w w' := by
  obtain ⟨m, A2, c2, rfl, rfl⟩ : ∃ m A2 c2, lv = .slice A2 m c2 ∧ cv = .agg #[.int .i64 nw, .int .i64 kp, .slice A n c, .slice A2 m c2] := by
    obtain ⟨rfl, _, _, _, _, _, _, A2, c2, rfl, _⟩ := h
    exact ⟨_, _, _, rfl, rfl⟩
  obtain ⟨w0, hw0⟩ : ∃ w0, w.alloc (.cells #[.int .i64 nw, .int .i64 kp, .slice A n c, .slice A2 m c2] 25) = w0 := ⟨_, rfl⟩
  have b0 : BoxN w0 w.heap.size #[.int .i64 nw, .int .i64 kp, .slice A n c, .slice A2 m c2] 25 := by rw [← hw0]; exact World.alloc_heap_new w _
  have BB0 := Lib.hid (show Below w.heap.size w w0 from by rw [← hw0]; exact (Below.refl _ _).alloc (Nat.le_refl _) _)
  have S0 := BB0.out.size
  have HS := Lib.hid (szCascade_any _ nw kp A n c ks _ w0 (h.below' BB0.out S0))
  have BX0 := Lib.hid b0
  have HW := Lib.hid hw0
  clear hw0
  have x0 := b0.cell (i := 0) rfl
  have x1 := b0.cell (i := 1) rfl
  have x2 := b0.cell (i := 2) rfl
  have x3 := b0.cell (i := 3) rfl
  clear b0
  have hbd := szC_bd n ks
  obtain ⟨r, hr⟩ : ∃ r, r = szC n ks := ⟨_, rfl⟩
  rw [← hr] at HS hbd
  by_cases hneg : r < 0
  · clear hr h
    go_enter Try.func4, Try.ntmps4
    go_wp2_with fail
    rw [HW.out]
    go_wp2_with fail
    refine HS.out.mono ?_
    rintro e w1 ⟨rfl, hb1⟩
    go_wp2_with fail
    go_ret
    exact ⟨rfl, BB0.out.trans (hb1.mono S0)⟩
  · obtain ⟨h1, h2, h3⟩ := szC_ok (by rw [← hr]; exact hneg)
    unfold maxLen at hnq
    by_cases hbig : r < (nq : Int)
    · clear hr h hxq
      have e1 : wrap64 (r - (nq : Int)) = r - (nq : Int) := by unfold wrap64; omega
      have e2 : IntKind.i64.wrap (r - (nq : Int)) = r - (nq : Int) := IntWalk.i64_in _ (by omega)
      have e3 : decide (r < 0) = false := decide_eq_false (by omega)
      go_enter Try.func4, Try.ntmps4
      go_wp2_with fail
      rw [HW.out]
      go_wp2_with fail
      refine HS.out.mono ?_
      rintro e w1 ⟨rfl, hb1⟩
      go_wp2
      go_ret
      exact ⟨rfl, BB0.out.trans (hb1.mono S0)⟩
    obtain ⟨ps, hps, hpl⟩ := hxq (by omega)
    have hpr := hpl.1
    have HPL := Lib.hid hpl
    have HPR := Lib.hid hpr
    have hle : ps.length ≤ 1048576 := hpl.2.1
    have HQN := Lib.hid hps
    have hcapq : True := trivial
    clear hpl hxq hpr
    obtain ⟨cs, _, hcv⟩ := h.read h1 h2 h3
    have I0 := Lib.hid hcv
    have HCR := Lib.hid hcv.cr
    have htc := totC_le hcv.cr
    have htn := totC_nonneg cs
    have hcp := Lib.hid (fun v W h => toCascadeD_any v cs W h)
    have hsp := Lib.hid (fun v u W h h' => specIngestAll_any v u cs ps W h h')
    have him := Lib.hid (fun v u W h h' hc => implIngestAll_any v u cs ps W h h' hc)
    have htp := Lib.hid (fun v W h => toPointS_any v ps W h)
    have heqP := Lib.hid (fun v u W h h' => eqPointS_any v u ps ps W h h')
    rw [decide_eq_true rfl] at heqP
    have hmkP := Lib.hid (fun base v W h => markPointS_any base v (1 + totC cs) ps W (by omega) (by omega) hle h)
    have heq := Lib.hid (fun v u W h h' => eqCascade_same v u cs W h h')
    have hmc := Lib.hid (fun base top rv lv es W h => markCascade_any base top cs rv lv es 1 W (by omega) (by omega) HCR.out h)
    have htcr := (allM_cr cs ps).1
    have ttc := totC_le htcr
    have ttn := totC_nonneg (allM cs ps)
    clear h hr hcv h1 h2 h3 hcapq
    generalize allM cs ps = ct at *
    generalize allI cs ps = fb at *
    have TCR := Lib.hid htcr
    clear htcr
    have heqt := Lib.hid (fun v u W h h' => eqCascade_same v u ct W h h')
    have hmt := Lib.hid (fun base top rv lv es W h => markCascade_any base top ct rv lv es 1 W (by omega) (by omega) TCR.out h)
    have hht := Lib.hid (fun v W h => heldCascade_any v ct 1 W (by omega) (by omega) h)
    have TMR := Lib.hid (mkC_cr (K := 1) TCR.out (by omega) (by omega))
    all_goals
      go_enter Try.func4, Try.ntmps4
      go_wp2_with fail
      rw [HW.out]
      go_wp2_with fail
      refine HS.out.mono ?_
      rintro e w1 ⟨rfl, hb1⟩
      have I1 := Lib.hid (I0.out.below (BB0.out.trans (hb1.mono S0)))
      have B1 := Lib.hid (BB0.out.trans (hb1.mono S0))
      have BX1 : Hid (BoxN w1 w.heap.size #[.int .i64 nw, .int .i64 kp, .slice A n c, .slice A2 m c2] 25) := Lib.hid ((hb1.block _ BX0.out.lt).trans BX0.out)
      clear hb1 HS x0 x1 x2 x3
      have x0 := BoxN.cell (i := 0) BX1.out rfl
      have x1 := BoxN.cell (i := 1) BX1.out rfl
      have x2 := BoxN.cell (i := 2) BX1.out rfl
      have x3 := BoxN.cell (i := 3) BX1.out rfl
      have hps0 := HQN.out
      subst hps0
      have e1 : wrap64 (r - (ps.length : Int)) = r - (ps.length : Int) := by unfold wrap64; omega
      have e2 : IntKind.i64.wrap (r - (ps.length : Int)) = r - (ps.length : Int) := IntWalk.i64_in _ (by omega)
      have e3 : decide (r < 0) = false := decide_eq_false (by omega)
      have e4 : decide (r - (ps.length : Int) < 0) = false := decide_eq_false (by omega)
      go_wp2_with (first | (go_at_call 23; go_in) | fail)
      clear e1 e2 e3 e4
      refine (hcp.out _ _ (I1.out.up B1.out.size)).mono ?_
      rintro e w2 ⟨rv2, lv2, es2, rfl, hd2, hb2⟩
      have I2 := Lib.hid (I1.out.below (hb2.mono B1.out.size))
      have C2 := Lib.hid (hd2.cv HCR.out)
      have BX2 : Hid (BoxN w2 w.heap.size #[.int .i64 nw, .int .i64 kp, .slice A n c, .slice A2 m c2] 25) := Lib.hid ((hb2.block _ BX1.out.lt).trans BX1.out)
      have B2 := Lib.hid (B1.out.trans (hb2.mono B1.out.size))
      clear hd2 hb2 I1 B1 x0 x1 x2 x3
      go_wp2_with fail
      refine (htp.out _ _ ((HPL.out.below B2.out).up B2.out.size)).mono ?_
      rintro e w2p ⟨u2, rfl, hu2, hb2p⟩
      have I2 := Lib.hid (I2.out.below (hb2p.mono B2.out.size))
      have C2 := Lib.hid ((C2.out.below hb2p).up hb2p.size)
      have BX2 : Hid (BoxN w2p w.heap.size #[.int .i64 nw, .int .i64 kp, .slice A n c, .slice A2 m c2] 25) := Lib.hid ((hb2p.block _ BX2.out.lt).trans BX2.out)
      have B2 := Lib.hid (B2.out.trans (hb2p.mono B2.out.size))
      have U2 := Lib.hid (PL.of_own hu2 rfl HPR.out hle)
      clear hu2 hb2p
      go_wp2_with fail
      refine (hsp.out _ _ _ C2.out U2.out).mono ?_
      rintro e w3 ⟨rv3, lv3, es3, rfl, hd3, hb3⟩
      obtain ⟨ra3, rc3, rfl⟩ := hd3.raw.shape
      obtain ⟨la3, lc3, rfl⟩ := hd3.lvl.row.shape
      obtain ⟨rt, hrt⟩ : ∃ rt, ct.2.2.1.length = rt := ⟨_, rfl⟩
      obtain ⟨lt, hlt⟩ : ∃ lt, ct.2.2.2.length = lt := ⟨_, rfl⟩
      rw [hrt, hlt] at hd3 ⊢
      have HRT := Lib.hid hrt
      have HLT := Lib.hid hlt
      clear hrt hlt
      obtain ⟨wa, hwa⟩ : ∃ wa, w3.alloc (.cells #[.int .i64 ct.1, .int .i64 ct.2.1, .slice ra3 rt rc3, .slice la3 lt lc3] 32) = wa := ⟨_, rfl⟩
      have X0 : Hid (BoxN wa w3.heap.size #[.int .i64 ct.1, .int .i64 ct.2.1, .slice ra3 rt rc3, .slice la3 lt lc3] 32) := Lib.hid (by rw [← hwa]; exact World.alloc_heap_new w3 _)
      have hba : Below w3.heap.size w3 wa := by rw [← hwa]; exact (Below.refl _ _).alloc (Nat.le_refl _) _
      have hb3a := hb3.trans (hba.mono hb3.size)
      have Ia := Lib.hid (I2.out.below (hb3a.mono B2.out.size))
      have Ba := Lib.hid (B2.out.trans (hb3a.mono B2.out.size))
      have BXa : Hid (BoxN wa w.heap.size #[.int .i64 nw, .int .i64 kp, .slice A n c, .slice A2 m c2] 25) := Lib.hid ((hb3a.block _ BX2.out.lt).trans BX2.out)
      have Ca : Hid (CV wa wa.heap.size (.agg #[.int .i64 ct.1, .int .i64 ct.2.1, .slice ra3 rt rc3, .slice la3 lt lc3]) ct) := Lib.hid (by have := (hd3.below hba).cv TCR.out; exact this)
      have HWa := Lib.hid hwa
      have Sa := Ba.out.size
      clear hwa hba hd3 hb3 hb3a I2 B2 C2 BX2 BX1
      have x0 := BoxN.cell (i := 0) BXa.out rfl
      have x1 := BoxN.cell (i := 1) BXa.out rfl
      have x2 := BoxN.cell (i := 2) BXa.out rfl
      have x3 := BoxN.cell (i := 3) BXa.out rfl
      rw [← HWa.out] at x0 x1 x2 x3
      go_wp2_with fail
      rw [HWa.out]
      refine (hcp.out _ _ (Ia.out.up Sa)).mono ?_
      rintro e w4 ⟨rv4, lv4, es, rfl, hd4, hb4⟩
      have F4 := Lib.hid hb4
      obtain ⟨ra, rc, rfl⟩ := hd4.raw.shape
      obtain ⟨la, lc, rfl⟩ := hd4.lvl.row.shape
      obtain ⟨rn, hrn⟩ : ∃ rn, cs.2.2.1.length = rn := ⟨_, rfl⟩
      obtain ⟨ln, hln⟩ : ∃ ln, cs.2.2.2.length = ln := ⟨_, rfl⟩
      rw [hrn, hln] at hd4 ⊢
      have D4 := Lib.hid hd4
      clear hd4 hb4 x0 x1 x2 x3 hrn hln
      obtain ⟨wb, hwb⟩ : ∃ wb, w4.alloc (.cells #[.int .i64 cs.1, .int .i64 cs.2.1, .slice ra rn rc, .slice la ln lc] 32) = wb := ⟨_, rfl⟩
      have Y4 : Hid (BoxN wb w4.heap.size #[.int .i64 cs.1, .int .i64 cs.2.1, .slice ra rn rc, .slice la ln lc] 32) := Lib.hid (by rw [← hwb]; exact World.alloc_heap_new w4 _)
      have hbb : Below w4.heap.size w4 wb := by rw [← hwb]; exact (Below.refl _ _).alloc (Nat.le_refl _) _
      have Fb := Lib.hid (F4.out.trans (hbb.mono F4.out.size))
      have Db := Lib.hid (D4.out.below hbb)
      have Cb : Hid (CV wb wb.heap.size (.agg #[.int .i64 cs.1, .int .i64 cs.2.1, .slice ra rn rc, .slice la ln lc]) cs) := Lib.hid (by have := Db.out.cv HCR.out; exact this)
      have HWb := Lib.hid hwb
      have S4 := F4.out.size
      have S4b := Y4.out.lt
      clear hwb hbb F4 D4
      have y0 := BoxN.cell (i := 0) Y4.out rfl
      have y1 := BoxN.cell (i := 1) Y4.out rfl
      have y2 := BoxN.cell (i := 2) Y4.out rfl
      have y3 := BoxN.cell (i := 3) Y4.out rfl
      go_wp2_with fail
      rw [HWb.out]
      go_wp2_with fail
      have Bw0 := Lib.hid (Ba.out.trans (Fb.out.mono Sa))
      refine (htp.out _ _ ((HPL.out.below Bw0.out).up Bw0.out.size)).mono ?_
      rintro e wq ⟨u4, rfl, hu4, hbq⟩
      have Fb := Lib.hid (Fb.out.trans (hbq.mono Fb.out.size))
      have Db := Lib.hid (Db.out.below hbq)
      have Cb : Hid (CV wq wq.heap.size (.agg #[.int .i64 cs.1, .int .i64 cs.2.1, .slice ra rn rc, .slice la ln lc]) cs) := Lib.hid (by have := Db.out.cv HCR.out; exact this)
      have Y4 : Hid (BoxN wq w4.heap.size #[.int .i64 cs.1, .int .i64 cs.2.1, .slice ra rn rc, .slice la ln lc] 32) := Lib.hid ((hbq.block _ Y4.out.lt).trans Y4.out)
      have UO := Lib.hid hu4
      have UL := Lib.hid hu4.lt
      have UP := Lib.hid (PL.of_own hu4 rfl HPR.out hle)
      have Sq := hbq.size
      have HcapU := Lib.hid (own_cap_vc hu4)
      obtain ⟨wb0, hwb0⟩ : ∃ wb0, wb = wb0 := ⟨_, rfl⟩
      have Sq0 : w4.heap.size < wb0.heap.size := by rw [← hwb0]; exact S4b
      rw [hwb0] at UO UL Sq
      have S4b : w4.heap.size < wq.heap.size := by omega
      clear hu4 hbq Bw0 y0 y1 y2 y3 HWb hwb0
      have y0 := BoxN.cell (i := 0) Y4.out rfl
      have y1 := BoxN.cell (i := 1) Y4.out rfl
      have y2 := BoxN.cell (i := 2) Y4.out rfl
      have y3 := BoxN.cell (i := 3) Y4.out rfl
      go_wp2_with fail
      refine (him.out _ _ _ Cb.out UP.out HcapU.out).mono ?_
      rintro e w5 ⟨rv5, lv5, es5, rfl, hd5, hb5⟩
      obtain ⟨rag, rcg, rfl⟩ := hd5.raw.shape
      obtain ⟨lag, lcg, rfl⟩ := hd5.lvl.row.shape
      rw [HRT.out, HLT.out] at hd5 ⊢
      obtain ⟨wg, hwg⟩ : ∃ wg, w5.alloc (.cells #[.int .i64 ct.1, .int .i64 ct.2.1, .slice rag rt rcg, .slice lag lt lcg] 32) = wg := ⟨_, rfl⟩
      have G0 : Hid (BoxN wg w5.heap.size #[.int .i64 ct.1, .int .i64 ct.2.1, .slice rag rt rcg, .slice lag lt lcg] 32) := Lib.hid (by rw [← hwg]; exact World.alloc_heap_new w5 _)
      have hbg : Below w5.heap.size w5 wg := by rw [← hwg]; exact (Below.refl _ _).alloc (Nat.le_refl _) _
      have hbbg := hb5.trans (hbg.mono hb5.size)
      have Fg := Lib.hid (Fb.out.trans (hbbg.mono Fb.out.size))
      have Eg := Lib.hid hbbg
      have Dg := Lib.hid (hd5.below hbg)
      have Cg : Hid (CV wg wg.heap.size (.agg #[.int .i64 ct.1, .int .i64 ct.2.1, .slice rag rt rcg, .slice lag lt lcg]) ct) := Lib.hid (by have := Dg.out.cv TCR.out; exact this)
      have Xg : Hid (BoxN wg w3.heap.size #[.int .i64 ct.1, .int .i64 ct.2.1, .slice ra3 rt rc3, .slice la3 lt lc3] 32) := Lib.hid ((Fg.out.block _ X0.out.lt).trans X0.out)
      have HWg := Lib.hid hwg
      have S5 := hb5.size
      have S5g := G0.out.lt
      clear hwg hbg hbbg hd5 hb5 y0 y1 y2 y3
      have x0 := BoxN.cell (i := 0) Xg.out rfl
      have x1 := BoxN.cell (i := 1) Xg.out rfl
      have x2 := BoxN.cell (i := 2) Xg.out rfl
      have x3 := BoxN.cell (i := 3) Xg.out rfl
      have y0 := BoxN.cell (i := 0) G0.out rfl
      have y1 := BoxN.cell (i := 1) G0.out rfl
      have y2 := BoxN.cell (i := 2) G0.out rfl
      have y3 := BoxN.cell (i := 3) G0.out rfl
      rw [← HWg.out] at x0 x1 x2 x3
      go_wp2_with fail
      rw [HWg.out]
      refine (heqt.out _ _ _ Cg.out ((Ca.out.below Fg.out).up Fg.out.size)).mono ?_
      rintro e w6 ⟨rfl, hb6⟩
      have E6 := Lib.hid (Eg.out.trans (hb6.mono Eg.out.size))
      have F6 := Lib.hid (Fg.out.trans (hb6.mono Fg.out.size))
      have K6 := Lib.hid hb6
      have S6 := hb6.size
      clear hb6 x0 x1 x2 x3 y0 y1 y2 y3 Cg Xg Eg
      have BX6 : Hid (BoxN w6 w.heap.size #[.int .i64 nw, .int .i64 kp, .slice A n c, .slice A2 m c2] 25) := Lib.hid ((F6.out.block _ BXa.out.lt).trans BXa.out)
      have Y6 : Hid (BoxN w6 w4.heap.size #[.int .i64 cs.1, .int .i64 cs.2.1, .slice ra rn rc, .slice la ln lc] 32) := Lib.hid ((E6.out.block _ Y4.out.lt).trans Y4.out)
      have x0 := BoxN.cell (i := 0) BX6.out rfl
      have x1 := BoxN.cell (i := 1) BX6.out rfl
      have x2 := BoxN.cell (i := 2) BX6.out rfl
      have x3 := BoxN.cell (i := 3) BX6.out rfl
      have y0 := BoxN.cell (i := 0) Y6.out rfl
      have y1 := BoxN.cell (i := 1) Y6.out rfl
      have y2 := BoxN.cell (i := 2) Y6.out rfl
      have y3 := BoxN.cell (i := 3) Y6.out rfl
      have I6u := Lib.hid ((Ia.out.below (F6.out.mono Sa)).up (show w.heap.size ≤ w6.heap.size from Nat.le_trans Sa F6.out.size))
      have I6d : Hid (CV w6.drew w6.drew.heap.size _ cs) := Lib.hid I6u.out
      have C6 := Lib.hid ((Cb.out.below E6.out).up E6.out.size)
      go_wp2_with fail
      go_region_law (first
        | (go_simp; go_at_call 17; refine (hcp.out _ _ (by first | with_reducible exact I6d.out | with_reducible exact I6u.out)).mono ?_; rintro e w7 ⟨rv7, lv7, es7, rfl, hd7, hb7⟩; have C7 := Lib.hid (hd7.cv HCR.out); have N7 := Lib.hid (show Below w6.heap.size w6 w7 from by first | exact hb7 | exact below_undrewT hb7); have C67 := Lib.hid ((C6.out.below N7.out).up N7.out.size); have Y7 : Hid (BoxN w7 w4.heap.size #[.int .i64 cs.1, .int .i64 cs.2.1, .slice ra rn rc, .slice la ln lc] 32) := Lib.hid ((N7.out.block _ (BoxN.lt Y6.out)).trans Y6.out); have z0 := BoxN.cell (i := 0) Y7.out rfl; have z1 := BoxN.cell (i := 1) Y7.out rfl; have z2 := BoxN.cell (i := 2) Y7.out rfl; have z3 := BoxN.cell (i := 3) Y7.out rfl; clear hd7 hb7)
        | (go_simp; go_at_call 20; refine (heq.out _ _ _ (by first | with_reducible exact C67.out | with_reducible exact CV.drewT C67.out) (by first | with_reducible exact C7.out | with_reducible exact CV.drewT C7.out)).mono ?_; rintro e w8 ⟨rfl, hb8⟩; have N8 := Lib.hid (N7.out.trans ((show Below w7.heap.size w7 w8 from by first | exact hb8 | exact below_undrewT hb8).mono N7.out.size)); clear hb8))
      all_goals
        go_simp
        have K8 := Lib.hid (K6.out.trans (N8.out.mono S6))
        have E8 := Lib.hid (E6.out.trans (N8.out.mono E6.out.size))
        have F8 := Lib.hid (F6.out.trans (N8.out.mono F6.out.size))
        have S8 := K8.out.size
        have D8 := Lib.hid (Db.out.below E8.out)
        have Y8 : Hid (BoxN w8 w4.heap.size #[.int .i64 cs.1, .int .i64 cs.2.1, .slice ra rn rc, .slice la ln lc] 32) := Lib.hid ((E8.out.block _ Y4.out.lt).trans Y4.out)
        clear N8 N7 C7 C67 C6 Y7 E6 F6 BX6 Y6 I6u I6d K6 z0 z1 z2 z3 x0 x1 x2 x3 y0 y1 y2 y3 Y8 D8
        have Bw8 := Lib.hid (Ba.out.trans (F8.out.mono Sa))
        go_wp2_with fail
        refine (htp.out _ _ ((HPL.out.below Bw8.out).up Bw8.out.size)).mono ?_
        rintro e w8p ⟨u8, rfl, hu8, hb8p⟩
        have U8 := Lib.hid (PL.of_own hu8 rfl HPR.out hle)
        have UP8 := Lib.hid ((UP.out.below (E8.out.trans (hb8p.mono E8.out.size))).up (E8.out.trans (hb8p.mono E8.out.size)).size)
        have K8 := Lib.hid (K8.out.trans (hb8p.mono S8))
        have E8 := Lib.hid (E8.out.trans (hb8p.mono E8.out.size))
        have F8 := Lib.hid (F8.out.trans (hb8p.mono F8.out.size))
        have S8 := K8.out.size
        clear hu8 hb8p Bw8
        go_wp2_with fail
        refine (heqP.out _ _ _ UP8.out U8.out).mono ?_
        rintro e w8q ⟨rfl, hb8q⟩
        have K8 := Lib.hid (K8.out.trans (hb8q.mono S8))
        have E8 := Lib.hid (E8.out.trans (hb8q.mono E8.out.size))
        have F8 := Lib.hid (F8.out.trans (hb8q.mono F8.out.size))
        have S8 := K8.out.size
        have D8 := Lib.hid (Db.out.below E8.out)
        have Y8 : Hid (BoxN w8q w4.heap.size #[.int .i64 cs.1, .int .i64 cs.2.1, .slice ra rn rc, .slice la ln lc] 32) := Lib.hid ((E8.out.block _ Y4.out.lt).trans Y4.out)
        clear hb8q UP8 U8
        have y0 := BoxN.cell (i := 0) Y8.out rfl
        have y1 := BoxN.cell (i := 1) Y8.out rfl
        have y2 := BoxN.cell (i := 2) Y8.out rfl
        have y3 := BoxN.cell (i := 3) Y8.out rfl
        have hcal := Lib.hid (hmc.out _ _ _ _ _ w8q D8.out)
        go_wp2_with fail
        refine hcal.out.mono ?_
        rintro e w9 ⟨rfl, hx9, wm, hbm, hc9⟩
        have hlo : ∀ g, CBk cs (.slice ra rn rc) (.slice la ln lc) es g → wa.heap.size ≤ g ∧ g < w4.heap.size := fun g hg => ⟨(Db.out.lt hg).1, (Db.out.lt hg).2.1⟩
        have A9 : Hid (∀ k, wq.heap.size ≤ k → k < wg.heap.size → w9.heap[k]? = wg.heap[k]?) := Lib.hid (fun k h1 h2 => ((hc9.block _ (Nat.lt_of_lt_of_le (Nat.lt_of_lt_of_le h2 S8) hbm.size) (fun hS => by have := (hlo _ hS).2; omega)).trans (hbm.block _ (Nat.lt_of_lt_of_le h2 S8))).trans (K8.out.block _ h2))
        have F9 := Lib.hid ((F8.out.trans (hbm.mono F8.out.size)).trans (hc9.below (base := wa.heap.size) (Nat.le_trans F8.out.size hbm.size) (fun g hg => (hlo g hg).1)))
        have S9 : wg.heap.size ≤ w9.heap.size := Nat.le_trans (Nat.le_trans S8 hbm.size) hc9.size
        have UO9 := Lib.hid (own_at_vc UO.out (fun g hg => ((hc9.block _ (Nat.lt_of_lt_of_le (Nat.lt_of_lt_of_le (UL.out g hg).2 E8.out.size) hbm.size) (fun hS => by have h1 := (hlo _ hS).2; have h2 := (UL.out g hg).1; omega)).trans (hbm.block _ (Nat.lt_of_lt_of_le (UL.out g hg).2 E8.out.size))).trans (E8.out.block _ (UL.out g hg).2)))
        clear hx9 hbm hc9 hlo hcal
        go_wp2_with fail
        refine (hmkP.out _ _ _ UO9.out).mono ?_
        rintro e w9b ⟨rfl, hown9, hb9b, hg9⟩
        have A9 : Hid (∀ k, wq.heap.size ≤ k → k < wg.heap.size → w9b.heap[k]? = wg.heap[k]?) := Lib.hid (fun k h1 h2 => (hg9.block k (Nat.lt_of_lt_of_le h2 S9) (fun e => by have := (UL.out k e.symm).2; omega)).trans (A9.out k h1 h2))
        have F9 := Lib.hid (F9.out.trans (hb9b.mono (by have := S4; omega)))
        have S9 : wg.heap.size ≤ w9b.heap.size := Nat.le_trans S9 hg9.size
        clear hown9 hb9b hg9 UO9
        have G9 : Hid (BoxN w9b w5.heap.size #[.int .i64 ct.1, .int .i64 ct.2.1, .slice rag rt rcg, .slice lag lt lcg] 32) := Lib.hid ((A9.out _ S5 S5g).trans G0.out)
        have D9 := Lib.hid (Dg.out.at_ (fun g hg => A9.out g (Dg.out.lt hg).1 (by have := (Dg.out.lt hg).2.2; omega)))
        have C9 : Hid (CV w9b w9b.heap.size (.agg #[.int .i64 ct.1, .int .i64 ct.2.1, .slice rag rt rcg, .slice lag lt lcg]) ct) := Lib.hid (by have := D9.out.cv TCR.out; exact this)
        have X9 : Hid (BoxN w9b w3.heap.size #[.int .i64 ct.1, .int .i64 ct.2.1, .slice ra3 rt rc3, .slice la3 lt lc3] 32) := Lib.hid ((F9.out.block _ X0.out.lt).trans X0.out)
        clear E8 F8 D8 Y8 K8 A9 y0 y1 y2 y3
        have x0 := BoxN.cell (i := 0) X9.out rfl
        have x1 := BoxN.cell (i := 1) X9.out rfl
        have x2 := BoxN.cell (i := 2) X9.out rfl
        have x3 := BoxN.cell (i := 3) X9.out rfl
        have y0 := BoxN.cell (i := 0) G9.out rfl
        have y1 := BoxN.cell (i := 1) G9.out rfl
        have y2 := BoxN.cell (i := 2) G9.out rfl
        have y3 := BoxN.cell (i := 3) G9.out rfl
        have d9 : decide (1 + totC cs + 2 * (ps.length : Int) < 0) = false := decide_eq_false (by omega)
        have d9b : ¬ (1 + totC cs + 2 * (ps.length : Int) < 0) := by omega
        go_wp2_with fail
        refine (heqt.out _ _ _ C9.out ((Ca.out.below F9.out).up F9.out.size)).mono ?_
        rintro e w10 ⟨rfl, hb10⟩
        have F10 := Lib.hid (F9.out.trans (hb10.mono F9.out.size))
        have D10 := Lib.hid (D9.out.below hb10)
        have G10 : Hid (BoxN w10 w5.heap.size #[.int .i64 ct.1, .int .i64 ct.2.1, .slice rag rt rcg, .slice lag lt lcg] 32) := Lib.hid ((hb10.block _ G9.out.lt).trans G9.out)
        clear hb10 F9 D9 G9 C9 X9 x0 x1 x2 x3 y0 y1 y2 y3
        have y0 := BoxN.cell (i := 0) G10.out rfl
        have y1 := BoxN.cell (i := 1) G10.out rfl
        have y2 := BoxN.cell (i := 2) G10.out rfl
        have y3 := BoxN.cell (i := 3) G10.out rfl
        have hcal := Lib.hid (hmt.out _ _ _ _ _ w10 D10.out)
        have hlg : Hid (∀ g, CBk ct (.slice rag rt rcg) (.slice lag lt lcg) es5 g → wq.heap.size ≤ g ∧ g < w5.heap.size) := Lib.hid (fun g hg => ⟨(Dg.out.lt hg).1, (Dg.out.lt hg).2.1⟩)
        go_wp2_with fail
        refine hcal.out.mono ?_
        rintro e w11 ⟨rfl, ⟨es11, hd11⟩, wm, hbm, hc11⟩
        have F11 := Lib.hid ((F10.out.trans (hbm.mono F10.out.size)).trans (hc11.below (base := wa.heap.size) (Nat.le_trans F10.out.size hbm.size) (fun g hg => by have := (hlg.out g hg).1; omega)))
        have G11 : Hid (BoxN w11 w5.heap.size #[.int .i64 ct.1, .int .i64 ct.2.1, .slice rag rt rcg, .slice lag lt lcg] 32) := Lib.hid ((hc11.block _ (Nat.lt_of_lt_of_le G10.out.lt hbm.size) (fun hS => by have := (hlg.out _ hS).2; omega)).trans ((hbm.block _ G10.out.lt).trans G10.out))
        have C11 : Hid (CV w11 w11.heap.size (.agg #[.int .i64 ct.1, .int .i64 ct.2.1, .slice rag rt rcg, .slice lag lt lcg]) (mkC 1 ct)) := Lib.hid (by have := hd11.cv TMR.out; exact this)
        clear hd11 hbm hc11 hcal F10 D10 G10 y0 y1 y2 y3
        have y0 := BoxN.cell (i := 0) G11.out rfl
        have y1 := BoxN.cell (i := 1) G11.out rfl
        have y2 := BoxN.cell (i := 2) G11.out rfl
        have y3 := BoxN.cell (i := 3) G11.out rfl
        have d11 : decide (1 + totC ct < 0) = false := decide_eq_false (by omega)
        go_wp2_with fail
        refine (hht.out _ _ C11.out).mono ?_
        rintro e w12 ⟨rfl, hb12⟩
        have F12 := Lib.hid (F11.out.trans (hb12.mono F11.out.size))
        have C12 := Lib.hid ((C11.out.below hb12).up hb12.size)
        have G12 : Hid (BoxN w12 w5.heap.size #[.int .i64 ct.1, .int .i64 ct.2.1, .slice rag rt rcg, .slice lag lt lcg] 32) := Lib.hid ((hb12.block _ G11.out.lt).trans G11.out)
        have BX12 : Hid (BoxN w12 w.heap.size #[.int .i64 nw, .int .i64 kp, .slice A n c, .slice A2 m c2] 25) := Lib.hid ((F12.out.block _ BXa.out.lt).trans BXa.out)
        have I12 := Lib.hid ((Ia.out.below (F12.out.mono Sa)).up (Nat.le_trans Sa F12.out.size))
        clear hb12 F11 C11 G11 y0 y1 y2 y3
        have x0 := BoxN.cell (i := 0) BX12.out rfl
        have x1 := BoxN.cell (i := 1) BX12.out rfl
        have x2 := BoxN.cell (i := 2) BX12.out rfl
        have x3 := BoxN.cell (i := 3) BX12.out rfl
        go_wp2_with fail
        refine (hcp.out _ _ I12.out).mono ?_
        rintro e w13 ⟨rv13, lv13, es13, rfl, hd13, hb13⟩
        have J13 := Lib.hid (hd13.cv HCR.out)
        have F13 := Lib.hid (F12.out.trans (hb13.mono F12.out.size))
        have C13 := Lib.hid ((C12.out.below hb13).up hb13.size)
        have G13 : Hid (BoxN w13 w5.heap.size #[.int .i64 ct.1, .int .i64 ct.2.1, .slice rag rt rcg, .slice lag lt lcg] 32) := Lib.hid ((hb13.block _ G12.out.lt).trans G12.out)
        clear hd13 hb13 F12 C12 G12 BX12 I12 x0 x1 x2 x3
        have Bw13 := Lib.hid (Ba.out.trans (F13.out.mono Sa))
        go_wp2_with fail
        refine (htp.out _ _ ((HPL.out.below Bw13.out).up Bw13.out.size)).mono ?_
        rintro e w13p ⟨u13, rfl, hu13, hb13p⟩
        have J13 := Lib.hid ((J13.out.below hb13p).up hb13p.size)
        have F13 := Lib.hid (F13.out.trans (hb13p.mono F13.out.size))
        have C13 := Lib.hid ((C13.out.below hb13p).up hb13p.size)
        have G13 : Hid (BoxN w13p w5.heap.size #[.int .i64 ct.1, .int .i64 ct.2.1, .slice rag rt rcg, .slice lag lt lcg] 32) := Lib.hid ((hb13p.block _ G13.out.lt).trans G13.out)
        have U13 := Lib.hid (PL.of_own hu13 rfl HPR.out hle)
        have UC13 := Lib.hid (own_cap_vc hu13)
        clear hu13 hb13p Bw13
        go_wp2_with fail
        refine (him.out _ _ _ J13.out U13.out UC13.out).mono ?_
        rintro e w14 ⟨rv14, lv14, es14, rfl, hd14, hb14⟩
        obtain ⟨rah, rch, rfl⟩ := hd14.raw.shape
        obtain ⟨lah, lch, rfl⟩ := hd14.lvl.row.shape
        rw [HRT.out, HLT.out] at hd14 ⊢
        obtain ⟨wh, hwh⟩ : ∃ wh, w14.alloc (.cells #[.int .i64 ct.1, .int .i64 ct.2.1, .slice rah rt rch, .slice lah lt lch] 32) = wh := ⟨_, rfl⟩
        have Z0 : Hid (BoxN wh w14.heap.size #[.int .i64 ct.1, .int .i64 ct.2.1, .slice rah rt rch, .slice lah lt lch] 32) := Lib.hid (by rw [← hwh]; exact World.alloc_heap_new w14 _)
        have hbh : Below w14.heap.size w14 wh := by rw [← hwh]; exact (Below.refl _ _).alloc (Nat.le_refl _) _
        have hbx := hb14.trans (hbh.mono hb14.size)
        have Fh := Lib.hid (F13.out.trans (hbx.mono F13.out.size))
        have Ch := Lib.hid ((C13.out.below hbx).up hbx.size)
        have Gh : Hid (BoxN wh w5.heap.size #[.int .i64 ct.1, .int .i64 ct.2.1, .slice rag rt rcg, .slice lag lt lcg] 32) := Lib.hid ((hbx.block _ G13.out.lt).trans G13.out)
        have Eh : Hid (CV wh wh.heap.size (.agg #[.int .i64 ct.1, .int .i64 ct.2.1, .slice rah rt rch, .slice lah lt lch]) ct) := Lib.hid (by have := (hd14.below hbh).cv TCR.out; exact this)
        have Xh : Hid (BoxN wh w3.heap.size #[.int .i64 ct.1, .int .i64 ct.2.1, .slice ra3 rt rc3, .slice la3 lt lc3] 32) := Lib.hid ((Fh.out.block _ X0.out.lt).trans X0.out)
        have HWh := Lib.hid hwh
        clear hwh hbh hbx hd14 hb14 F13 C13 G13 J13
        have x0 := BoxN.cell (i := 0) Xh.out rfl
        have x1 := BoxN.cell (i := 1) Xh.out rfl
        have x2 := BoxN.cell (i := 2) Xh.out rfl
        have x3 := BoxN.cell (i := 3) Xh.out rfl
        have z0 := BoxN.cell (i := 0) Z0.out rfl
        have z1 := BoxN.cell (i := 1) Z0.out rfl
        have z2 := BoxN.cell (i := 2) Z0.out rfl
        have z3 := BoxN.cell (i := 3) Z0.out rfl
        rw [← HWh.out] at x0 x1 x2 x3
        go_wp2_with fail
        rw [HWh.out]
        refine (heqt.out _ _ _ Eh.out ((Ca.out.below Fh.out).up Fh.out.size)).mono ?_
        rintro e w15 ⟨rfl, hb15⟩
        have F15 := Lib.hid (Fh.out.trans (hb15.mono Fh.out.size))
        have C15 := Lib.hid ((Ch.out.below hb15).up hb15.size)
        have G15 : Hid (BoxN w15 w5.heap.size #[.int .i64 ct.1, .int .i64 ct.2.1, .slice rag rt rcg, .slice lag lt lcg] 32) := Lib.hid ((hb15.block _ Gh.out.lt).trans Gh.out)
        clear hb15 Fh Ch Gh Eh Xh x0 x1 x2 x3 z0 z1 z2 z3
        have y0 := BoxN.cell (i := 0) G15.out rfl
        have y1 := BoxN.cell (i := 1) G15.out rfl
        have y2 := BoxN.cell (i := 2) G15.out rfl
        have y3 := BoxN.cell (i := 3) G15.out rfl
        go_wp2_with fail
        refine (hht.out _ _ C15.out).mono ?_
        rintro e w16 ⟨rfl, hb16⟩
        have F16 := Lib.hid (F15.out.trans (hb16.mono F15.out.size))
        clear hb16 F15 C15 G15 y0 y1 y2 y3
        go_wp2_with fail
        go_ret
        exact ⟨rfl, Ba.out.trans (F16.out.mono Sa)⟩
end Go.Proofs.Ytkekpkfhljankaa
