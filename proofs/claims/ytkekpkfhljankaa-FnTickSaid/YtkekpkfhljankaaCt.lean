/- Walks: the law FnTick. -/
import Derived.Test.YtkekpkfhljankaaCs
import Derived.Test.YtkekpkfhljankaaCl
set_option linter.unusedVariables false
set_option linter.unusedSimpArgs false
namespace Go.Proofs.Ytkekpkfhljankaa
open Go.RowKit

theorem drop_getD_ct {α : Type} (l : List α) (n j : Nat) (d : α) : (l.drop n).getD j d = l.getD (n + j) d := by
  rw [List.getD_eq_getElem?_getD, List.getD_eq_getElem?_getD, List.getElem?_drop]
theorem PL.off_ct {w : World} {B b off n c : Nat} {xs : List (Int × Int)} (h : PL w B (.slice (some ⟨b, off, none⟩) xs.length c) xs) (k : Nat) (hk : k ≤ xs.length) : PL w B (.slice (some ⟨b, off + k * 2, none⟩) (xs.length - k) n) (xs.drop k) := by
  obtain ⟨hr, hl, A, c', hv, h3⟩ := h
  have e : (xs.drop k).length = xs.length - k := by rw [List.length_drop]
  refine ⟨fun j => ?_, by omega, _, n, by rw [e], ?_⟩
  · rw [drop_getD_ct]; exact hr _
  · rcases h3 with h3 | ⟨b', off', hA, hlt, hc⟩
    · left; rw [h3]; simp
    · cases hv
      cases hA
      refine .inr ⟨b, off + k * 2, rfl, hlt, fun j hj => ?_⟩
      rw [drop_getD_ct]
      have h1 := hc (k + j) (by omega)
      have e1 : off + k * 2 + j * 2 = off + (k + j) * 2 := by omega
      rw [e1]; exact h1

theorem pl_empty_ct (w : World) (B : Nat) (A : Option Addr) (c : Nat) : PL w B (.slice A 0 c) [] := ⟨fun j => ⟨by exact rng_zero, by exact rng_zero⟩, by simp, A, c, rfl, .inl rfl⟩
theorem pl_of_ct {w : World} {B : Nat} {a b rv lv : Value} {c : Cs} (h : CV w B (.agg #[a, b, rv, lv]) c) : PL w B rv c.2.2.1 := by
  obtain ⟨rv', lv', he, hp, _⟩ := h
  simp at he
  obtain ⟨_, _, rfl, _⟩ := he
  exact hp
theorem row_cap_ct {W : World} {base top sz : Nat} {e : TypeId} {A : Option Addr} {n c : Nat} {xs : List Value} (h : ORow W base top e sz (.slice A n c) n xs) : n ≤ c ∧ (0 < n → ∃ g, A = some ⟨g, 0, none⟩) := by
  rcases h with ⟨h, _⟩ | ⟨rfl, _, A, c, _⟩
  · rcases h.2 with ⟨h1, rfl⟩ | ⟨g, cap, cur, h1, _, _, hc, _⟩
    · exact ⟨by omega, fun h => by omega⟩
    · injection h1 with e1 _ e3
      subst e3
      exact ⟨hc, fun _ => ⟨g, e1⟩⟩
  · exact ⟨by omega, fun h => by omega⟩
theorem tickM_cr_ct {c : Cs} {nw : Int} (h : CR c) (hn : Rng nw) : CR (tickM c nw) := by
  cases hb : tickB c nw with
  | false => rw [tickM_no hb]; exact zC_cr
  | true => rw [tickM_yes hb]; exact dropC_crI h hn

set_option maxRecDepth 100000 in
set_option maxHeartbeats 8000000 in
theorem walkFnTick (A : Option Addr) (n ca : Nat) (w : World) (hcode : n ≤ 1048576 → CodeAt w A n ca) :
    Calls Try.prog 5 #[.slice A n ca] w fun e w' => e = .returned (.bool true) ∧ Below w.heap.size w w' := by
  by_cases hbig : (1048576 : Int) < n
  · have hb : decide (1048576 < (n : Int)) = true := decide_eq_true hbig
    clear hcode
    have HBG := Lib.hid (fun W => big_any A n ca W)
    rw [hb] at HBG
    go_enter Try.func5, Try.ntmps5
    go_wp2_with (go_at_call 29; refine (HBG.out _).mono ?_; rintro e w' ⟨rfl, rfl⟩)
    go_ret
    exact ⟨rfl, Below.refl _ _⟩
  · have hb : decide (1048576 < (n : Int)) = false := decide_eq_false hbig
    have HBG := Lib.hid (fun W => big_any A n ca W)
    rw [hb] at HBG
    have hD := Lib.hid (DrawTick_any A n ca w (hcode (by omega)))
    have hIm := Lib.hid (fun v c nw W h => implTick_any v c nw W h)
    have hSp := Lib.hid (fun v c nw W h => specTick_any v c nw W h)
    have hSa := Lib.hid (fun v u c W h h' => sameCascade_any v u c W h h')
    have hOk := Lib.hid (fun v c W h => implCascadeOk_any v c W h)
    clear hcode hb hbig
    go_enter Try.func5, Try.ntmps5
    go_wp2_with (go_at_call 29; refine (HBG.out _).mono ?_; rintro e w' ⟨rfl, rfl⟩)
    refine hD.out.mono ?_
    rintro e w1 ⟨rv, lv, es, c, q, rfl, hd, hcr, hrq, hb1⟩
    obtain ⟨nn, hnn⟩ : ∃ nn, c.2.2.1.length = nn := ⟨_, rfl⟩
    obtain ⟨mm, hmm⟩ : ∃ mm, c.2.2.2.length = mm := ⟨_, rfl⟩
    obtain ⟨ra, rc, rfl⟩ : ∃ a c', rv = .slice a nn c' := by rw [← hnn]; exact hd.raw.shape
    obtain ⟨la, lc, rfl⟩ : ∃ a c', lv = .slice a mm c' := by rw [← hmm]; exact hd.lvl.row.shape
    obtain ⟨hrc0, hrg0⟩ : nn ≤ rc ∧ (0 < nn → ∃ g, ra = some ⟨g, 0, none⟩) := row_cap_ct (by have h := hd.raw; rw [hnn] at h; exact h)
    have HRC := Lib.hid hrc0
    have HRG := Lib.hid hrg0
    have HNL := Lib.hid (show nn ≤ 1048576 from by rw [← hnn]; exact hcr.rlen)
    clear hrc0 hrg0
    obtain ⟨w2, hw2⟩ : ∃ w2, w1.alloc (.cells #[.int .i64 c.1, .int .i64 c.2.1, .slice ra nn rc, .slice la mm lc] 32) = w2 := ⟨_, rfl⟩
    have hb2 : Below w1.heap.size w1 w2 := by rw [← hw2]; exact (Below.refl _ _).alloc (Nat.le_refl _) _
    have X2 : Hid (BoxN w2 w1.heap.size #[.int .i64 c.1, .int .i64 c.2.1, .slice ra nn rc, .slice la mm lc] 32) := Lib.hid (by rw [← hw2]; exact World.alloc_heap_new w1 _)
    have C2 := Lib.hid (show CV w2 w2.heap.size (.agg #[.int .i64 c.1, .int .i64 c.2.1, .slice ra nn rc, .slice la mm lc]) c from (hd.below hb2).cv hcr)
    have B2 := Lib.hid (hb1.trans (hb2.mono hb1.size))
    have HW2 := Lib.hid hw2
    have HNN := Lib.hid hnn
    have HFF := Lib.hid (fun hf h h0 h1 => tick_facts (c := c) (nw := q) (hf := hf) h h0 h1)
    have HIN := Lib.hid (fun h => tick_in (c := c) (nw := q) h)
    have TK := Lib.hid (hIm.out _ c q w2 C2.out)
    have TS := Lib.hid (fun v W h => hSp.out v c q W h)
    have hdcr := tickM_cr_ct (c := c) (nw := q) hcr hrq
    obtain ⟨d, hd0⟩ : ∃ d, tickM c q = d := ⟨_, rfl⟩
    obtain ⟨fb, hfb⟩ : ∃ fb, tickB c q = fb := ⟨_, rfl⟩
    rw [hd0] at HFF TK TS hdcr
    rw [hfb] at HFF TK TS HIN
    have DCR := Lib.hid hdcr
    have S1 := hb1.size
    have S2 := X2.out.lt
    have CRn := Lib.hid hcr
    have x0 := X2.out.cell (i := 0) rfl
    have x1 := X2.out.cell (i := 1) rfl
    have x2 := X2.out.cell (i := 2) rfl
    have x3 := X2.out.cell (i := 3) rfl
    clear hw2 hd hcr hb1 hb2 hdcr hnn hmm hSp hD HBG hd0 hfb hrq
    go_upto_region 4 with fail
    rw [HW2.out]
    go_wp2_with fail
    refine TK.out.mono ?_
    rintro e w3 ⟨rv3, lv3, es3, rfl, hd3, hb3⟩
    obtain ⟨n3, hn3⟩ : ∃ n3, d.2.2.1.length = n3 := ⟨_, rfl⟩
    obtain ⟨m3, hm3⟩ : ∃ m3, d.2.2.2.length = m3 := ⟨_, rfl⟩
    obtain ⟨rb, rbc, rfl⟩ : ∃ a c', rv3 = .slice a n3 c' := by rw [← hn3]; exact hd3.raw.shape
    obtain ⟨lb, lbc, rfl⟩ : ∃ a c', lv3 = .slice a m3 c' := by rw [← hm3]; exact hd3.lvl.row.shape
    have HN3 := Lib.hid hn3
    have HM3 := Lib.hid hm3
    obtain ⟨w4, hw4⟩ : ∃ w4, w3.alloc (.cells #[.int .i64 d.1, .int .i64 d.2.1, .slice rb n3 rbc, .slice lb m3 lbc] 32) = w4 := ⟨_, rfl⟩
    have hb4 : Below w3.heap.size w3 w4 := by rw [← hw4]; exact (Below.refl _ _).alloc (Nat.le_refl _) _
    have X4 : Hid (BoxN w4 w3.heap.size #[.int .i64 d.1, .int .i64 d.2.1, .slice rb n3 rbc, .slice lb m3 lbc] 32) := Lib.hid (by rw [← hw4]; exact World.alloc_heap_new w3 _)
    have D4 := Lib.hid (show CV w4 w4.heap.size (.agg #[.int .i64 d.1, .int .i64 d.2.1, .slice rb n3 rbc, .slice lb m3 lbc]) d from (hd3.below hb4).cv DCR.out)
    have B24 := Lib.hid (show Below w2.heap.size w2 w4 from hb3.trans (hb4.mono hb3.size))
    have Y4 : Hid (BoxN w4 w1.heap.size #[.int .i64 c.1, .int .i64 c.2.1, .slice ra nn rc, .slice la mm lc] 32) := Lib.hid ((B24.out.block _ S2).trans X2.out)
    have C4 := Lib.hid ((C2.out.below B24.out).up B24.out.size)
    have S4 := X4.out.lt
    have S24 := B24.out.size
    have S23 := hb3.size
    have HW4 := Lib.hid hw4
    have x0 := Y4.out.cell (i := 0) rfl
    have x1 := Y4.out.cell (i := 1) rfl
    have x2 := Y4.out.cell (i := 2) rfl
    have x3 := Y4.out.cell (i := 3) rfl
    clear hn3 hm3 hw4 hd3 hb3 hb4 X2 C2 TK
    go_upto_region 5 with fail
    rw [HW4.out]
    clear HW4 HW2
    go_wp2_with fail
    refine (TS.out _ _ C4.out).mono ?_
    rintro e w5 ⟨rv5, lv5, es5, rfl, hd5, hb5⟩
    obtain ⟨rf, rfc, rfl⟩ : ∃ a c', rv5 = .slice a n3 c' := by rw [← HN3.out]; exact hd5.raw.shape
    obtain ⟨lf, lfc, rfl⟩ : ∃ a c', lv5 = .slice a m3 c' := by rw [← HM3.out]; exact hd5.lvl.row.shape
    obtain ⟨w6, hw6⟩ : ∃ w6, w5.alloc (.cells #[.int .i64 d.1, .int .i64 d.2.1, .slice rf n3 rfc, .slice lf m3 lfc] 32) = w6 := ⟨_, rfl⟩
    have hb6 : Below w5.heap.size w5 w6 := by rw [← hw6]; exact (Below.refl _ _).alloc (Nat.le_refl _) _
    have B46 := Lib.hid (show Below w4.heap.size w4 w6 from hb5.trans (hb6.mono hb5.size))
    have Z6 : Hid (BoxN w6 w5.heap.size #[.int .i64 d.1, .int .i64 d.2.1, .slice rf n3 rfc, .slice lf m3 lfc] 32) := Lib.hid (by rw [← hw6]; exact World.alloc_heap_new w5 _)
    have X6 : Hid (BoxN w6 w3.heap.size #[.int .i64 d.1, .int .i64 d.2.1, .slice rb n3 rbc, .slice lb m3 lbc] 32) := Lib.hid ((B46.out.block _ X4.out.lt).trans X4.out)
    have Y6 : Hid (BoxN w6 w1.heap.size #[.int .i64 c.1, .int .i64 c.2.1, .slice ra nn rc, .slice la mm lc] 32) := Lib.hid ((B46.out.block _ Y4.out.lt).trans Y4.out)
    have C6 := Lib.hid ((C4.out.below B46.out).up B46.out.size)
    have D6 := Lib.hid ((D4.out.below B46.out).up B46.out.size)
    have E6 := Lib.hid (show CV w6 w6.heap.size (.agg #[.int .i64 d.1, .int .i64 d.2.1, .slice rf n3 rfc, .slice lf m3 lfc]) d from (hd5.below hb6).cv DCR.out)
    have BF := Lib.hid (B2.out.trans ((B24.out.trans (B46.out.mono S24)).mono B2.out.size))
    have HS6 := Lib.hid (hSa.out _ _ d w6 D6.out E6.out)
    have HW6 := Lib.hid hw6
    have S5 := hb5.size
    have S6 := Z6.out.lt
    have u0 := X6.out.cell (i := 0) rfl
    have u1 := X6.out.cell (i := 1) rfl
    have u2 := X6.out.cell (i := 2) rfl
    have u3 := X6.out.cell (i := 3) rfl
    have v0 := Z6.out.cell (i := 0) rfl
    have v1 := Z6.out.cell (i := 1) rfl
    have v2 := Z6.out.cell (i := 2) rfl
    have v3 := Z6.out.cell (i := 3) rfl
    clear x0 x1 x2 x3 hw6 hd5 hb5 hb6 X4 Y4 C4 D4 TS
    go_upto_region 6 with fail
    rw [HW6.out]
    clear HW6
    cases fb with
    | false =>
      go_wp2_with fail
      refine HS6.out.mono ?_
      rintro e w7 ⟨rfl, hb7⟩
      have X7 : Hid (BoxN w7 w3.heap.size #[.int .i64 d.1, .int .i64 d.2.1, .slice rb n3 rbc, .slice lb m3 lbc] 32) := Lib.hid ((hb7.block _ X6.out.lt).trans X6.out)
      have Z7 : Hid (BoxN w7 w5.heap.size #[.int .i64 d.1, .int .i64 d.2.1, .slice rf n3 rfc, .slice lf m3 lfc] 32) := Lib.hid ((hb7.block _ Z6.out.lt).trans Z6.out)
      have HS7 := Lib.hid (hSa.out _ _ d w7 ((D6.out.below hb7).up hb7.size) ((E6.out.below hb7).up hb7.size))
      clear u0 u1 u2 u3 v0 v1 v2 v3
      have u0 := X7.out.cell (i := 0) rfl
      have u1 := X7.out.cell (i := 1) rfl
      have u2 := X7.out.cell (i := 2) rfl
      have u3 := X7.out.cell (i := 3) rfl
      have v0 := Z7.out.cell (i := 0) rfl
      have v1 := Z7.out.cell (i := 1) rfl
      have v2 := Z7.out.cell (i := 2) rfl
      have v3 := Z7.out.cell (i := 3) rfl
      go_wp2_with fail
      refine HS7.out.mono ?_
      rintro e w8 ⟨rfl, hb8⟩
      go_wp2_with fail
      go_ret
      exact ⟨rfl, BF.out.trans ((hb7.trans (hb8.mono hb7.size)).mono BF.out.size)⟩
    | true =>
      go_wp2_with fail
      refine HS6.out.mono ?_
      rintro e w7 ⟨rfl, hb7⟩
      have X7 : Hid (BoxN w7 w3.heap.size #[.int .i64 d.1, .int .i64 d.2.1, .slice rb n3 rbc, .slice lb m3 lbc] 32) := Lib.hid ((hb7.block _ X6.out.lt).trans X6.out)
      have Y7 : Hid (BoxN w7 w1.heap.size #[.int .i64 c.1, .int .i64 c.2.1, .slice ra nn rc, .slice la mm lc] 32) := Lib.hid ((hb7.block _ Y6.out.lt).trans Y6.out)
      have C7 := Lib.hid ((C6.out.below hb7).up hb7.size)
      have D7 := Lib.hid ((D6.out.below hb7).up hb7.size)
      have B7 := Lib.hid (BF.out.trans (hb7.mono BF.out.size))
      have S7 := hb7.size
      clear u0 u1 u2 u3 v0 v1 v2 v3 hb7 HS6 E6 Z6 X6 Y6 C6 D6 BF
      have y0 := Y7.out.cell (i := 0) rfl
      have hin := HIN.out trivial
      have eD : IntKind.i64.wrap (q - c.1) = q - c.1 := IntWalk.i64_in _ (by omega)
      have htd : 0 ≤ (q - c.1).tdiv 2 ∧ (q - c.1).tdiv 2 ≤ q - c.1 := by
        rw [Int.tdiv_eq_ediv_of_nonneg (by omega)]; omega
      obtain ⟨k, hk⟩ : ∃ k, (q - c.1).tdiv 2 = k := ⟨_, rfl⟩
      rw [hk] at htd
      have eT : IntKind.i64.wrap k = k := IntWalk.i64_in _ (by omega)
      have eH : IntKind.i64.wrap (c.1 + k) = c.1 + k := IntWalk.i64_in _ (by omega)
      obtain ⟨e1, e2, e3, e4, e5, e6⟩ := HFF.out (c.1 + k) trivial (by omega) (by omega)
      have TH := hIm.out _ c (c.1 + k) w7 C7.out
      have hacr := tickM_cr_ct (c := c) (nw := c.1 + k) CRn.out (by unfold Rng; omega)
      obtain ⟨a, ha⟩ : ∃ a, tickM c (c.1 + k) = a := ⟨_, rfl⟩
      rw [e1, ha] at TH
      rw [ha] at hacr e2 e3
      have ACR := Lib.hid hacr
      have TH' := Lib.hid TH
      have TB := Lib.hid (fun v W h => hIm.out v a q W h)
      rw [e2, e3] at TB
      have HOKD := Lib.hid (fun v W h => hOk.out v d W h)
      rw [e4] at HOKD
      have HSX := Lib.hid (fun v u W h h' => hSa.out v u d W h h')
      have E5 := Lib.hid e5
      have E6 := Lib.hid e6
      have y1 := Y7.out.cell (i := 1) rfl
      have y2 := Y7.out.cell (i := 2) rfl
      have y3 := Y7.out.cell (i := 3) rfl
      clear hin htd e1 e2 e3 e4 e5 e6 ha hacr TH HFF HIN hIm hOk hSa
      go_wp2_with fail
      refine TH'.out.mono ?_
      rintro e w8 ⟨rv8, lv8, es8, rfl, hd8, hb8⟩
      obtain ⟨n4, hn4⟩ : ∃ n4, a.2.2.1.length = n4 := ⟨_, rfl⟩
      obtain ⟨m4, hm4⟩ : ∃ m4, a.2.2.2.length = m4 := ⟨_, rfl⟩
      obtain ⟨rg, rgc, rfl⟩ : ∃ a c', rv8 = .slice a n4 c' := by rw [← hn4]; exact hd8.raw.shape
      obtain ⟨lg, lgc, rfl⟩ : ∃ a c', lv8 = .slice a m4 c' := by rw [← hm4]; exact hd8.lvl.row.shape
      obtain ⟨w9, hw9⟩ : ∃ w9, w8.alloc (.cells #[.int .i64 a.1, .int .i64 a.2.1, .slice rg n4 rgc, .slice lg m4 lgc] 32) = w9 := ⟨_, rfl⟩
      have hb9 : Below w8.heap.size w8 w9 := by rw [← hw9]; exact (Below.refl _ _).alloc (Nat.le_refl _) _
      have G9 : Hid (BoxN w9 w8.heap.size #[.int .i64 a.1, .int .i64 a.2.1, .slice rg n4 rgc, .slice lg m4 lgc] 32) := Lib.hid (by rw [← hw9]; exact World.alloc_heap_new w8 _)
      have A9 := Lib.hid (show CV w9 w9.heap.size (.agg #[.int .i64 a.1, .int .i64 a.2.1, .slice rg n4 rgc, .slice lg m4 lgc]) a from (hd8.below hb9).cv ACR.out)
      have B79 := Lib.hid (show Below w7.heap.size w7 w9 from hb8.trans (hb9.mono hb8.size))
      have HW9 := Lib.hid hw9
      have S8 := hb8.size
      have S9 := G9.out.lt
      have g0 := G9.out.cell (i := 0) rfl
      have g1 := G9.out.cell (i := 1) rfl
      have g2 := G9.out.cell (i := 2) rfl
      have g3 := G9.out.cell (i := 3) rfl
      clear y0 y1 y2 y3 hn4 hm4 hw9 hd8 hb8 hb9 TH'
      go_upto_region 10 with fail
      rw [HW9.out]
      clear HW9
      go_wp2_with fail
      refine (TB.out _ _ A9.out).mono ?_
      rintro e w10 ⟨rv10, lv10, es10, rfl, hd10, hb10⟩
      obtain ⟨rh, rhc, rfl⟩ : ∃ a c', rv10 = .slice a n3 c' := by rw [← HN3.out]; exact hd10.raw.shape
      obtain ⟨lh, lhc, rfl⟩ : ∃ a c', lv10 = .slice a m3 c' := by rw [← HM3.out]; exact hd10.lvl.row.shape
      obtain ⟨w11, hw11⟩ : ∃ w11, w10.alloc (.cells #[.int .i64 d.1, .int .i64 d.2.1, .slice rh n3 rhc, .slice lh m3 lhc] 32) = w11 := ⟨_, rfl⟩
      have hb11 : Below w10.heap.size w10 w11 := by rw [← hw11]; exact (Below.refl _ _).alloc (Nat.le_refl _) _
      have H11 : Hid (BoxN w11 w10.heap.size #[.int .i64 d.1, .int .i64 d.2.1, .slice rh n3 rhc, .slice lh m3 lhc] 32) := Lib.hid (by rw [← hw11]; exact World.alloc_heap_new w10 _)
      have T11 := Lib.hid (show CV w11 w11.heap.size (.agg #[.int .i64 d.1, .int .i64 d.2.1, .slice rh n3 rhc, .slice lh m3 lhc]) d from (hd10.below hb11).cv DCR.out)
      have B711 := Lib.hid (show Below w7.heap.size w7 w11 from B79.out.trans ((hb10.trans (hb11.mono hb10.size)).mono B79.out.size))
      have X11 : Hid (BoxN w11 w3.heap.size #[.int .i64 d.1, .int .i64 d.2.1, .slice rb n3 rbc, .slice lb m3 lbc] 32) := Lib.hid ((B711.out.block _ X7.out.lt).trans X7.out)
      have Y11 : Hid (BoxN w11 w1.heap.size #[.int .i64 c.1, .int .i64 c.2.1, .slice ra nn rc, .slice la mm lc] 32) := Lib.hid ((B711.out.block _ Y7.out.lt).trans Y7.out)
      have C11 := Lib.hid ((C7.out.below B711.out).up B711.out.size)
      have D11 := Lib.hid ((D7.out.below B711.out).up B711.out.size)
      have B11 := Lib.hid (B7.out.trans (B711.out.mono B7.out.size))
      have HS11 := Lib.hid (HSX.out _ _ w11 T11.out D11.out)
      have HW11 := Lib.hid hw11
      have S10 := hb10.size
      have S11 := H11.out.lt
      have h0 := H11.out.cell (i := 0) rfl
      have h1 := H11.out.cell (i := 1) rfl
      have h2 := H11.out.cell (i := 2) rfl
      have h3 := H11.out.cell (i := 3) rfl
      have u0 := X11.out.cell (i := 0) rfl
      have u1 := X11.out.cell (i := 1) rfl
      have u2 := X11.out.cell (i := 2) rfl
      have u3 := X11.out.cell (i := 3) rfl
      clear g0 g1 g2 g3 hw11 hd10 hb10 hb11 X7 Y7 C7 D7 B7 B79 A9 G9 TB T11
      go_upto_region 11 with fail
      rw [HW11.out]
      clear HW11
      go_wp2_with fail
      refine HS11.out.mono ?_
      rintro e w12 ⟨rfl, hb12⟩
      have X12 : Hid (BoxN w12 w3.heap.size #[.int .i64 d.1, .int .i64 d.2.1, .slice rb n3 rbc, .slice lb m3 lbc] 32) := Lib.hid ((hb12.block _ X11.out.lt).trans X11.out)
      have Y12 : Hid (BoxN w12 w1.heap.size #[.int .i64 c.1, .int .i64 c.2.1, .slice ra nn rc, .slice la mm lc] 32) := Lib.hid ((hb12.block _ Y11.out.lt).trans Y11.out)
      have C12 := Lib.hid ((C11.out.below hb12).up hb12.size)
      have D12 := Lib.hid ((D11.out.below hb12).up hb12.size)
      have B12 := Lib.hid (B11.out.trans (hb12.mono B11.out.size))
      have S12 := hb12.size
      have HO12 := Lib.hid (HOKD.out _ w12 D12.out)
      clear u0 u1 u2 u3 h0 h1 h2 h3 hb12 H11 HS11 X11 Y11 C11 D11 B11
      have u0 := X12.out.cell (i := 0) rfl
      have u1 := X12.out.cell (i := 1) rfl
      have u2 := X12.out.cell (i := 2) rfl
      have u3 := X12.out.cell (i := 3) rfl
      go_wp2_with fail
      refine HO12.out.mono ?_
      rintro e w13 ⟨rfl, hb13⟩
      have X13 : Hid (BoxN w13 w3.heap.size #[.int .i64 d.1, .int .i64 d.2.1, .slice rb n3 rbc, .slice lb m3 lbc] 32) := Lib.hid ((hb13.block _ X12.out.lt).trans X12.out)
      have Y13 : Hid (BoxN w13 w1.heap.size #[.int .i64 c.1, .int .i64 c.2.1, .slice ra nn rc, .slice la mm lc] 32) := Lib.hid ((hb13.block _ Y12.out.lt).trans Y12.out)
      have C13 := Lib.hid ((C12.out.below hb13).up hb13.size)
      have D13 := Lib.hid ((D12.out.below hb13).up hb13.size)
      have B13 := Lib.hid (B12.out.trans (hb13.mono B12.out.size))
      have S13 := hb13.size
      have hle : n3 ≤ nn := by rw [← HN3.out, ← HNN.out]; exact E5.out
      have hgt : decide ((nn : Int) < (n3 : Int)) = false := decide_eq_false (by omega)
      clear u0 u1 u2 u3 hb13 X12 Y12 C12 D12 B12 HO12
      have u2 := X13.out.cell (i := 2) rfl
      have y2 := Y13.out.cell (i := 2) rfl
      go_upto_region 13 with fail
      obtain ⟨lo, hlo⟩ : ∃ lo, nn - n3 = lo := ⟨_, rfl⟩
      have eS : IntKind.i64.wrap ((nn : Int) - (n3 : Int)) = (lo : Int) := by rw [IntWalk.i64_in _ (by have := HNL.out; omega)]; omega
      have eS3 : IntKind.i64.wrap (lo : Int) = (lo : Int) := IntWalk.i64_in _ (by have := HNL.out; omega)
      have hlo1 : lo ≤ nn := by omega
      have hlo2 : (lo : Int) ≤ (nn : Int) := by omega
      have hlo3 : (0 : Int) ≤ (lo : Int) := by omega
      have HLO := Lib.hid hlo
      have HLE := Lib.hid hle
      have hx3 := X13.out.lt
      have hy3 := Y13.out.lt
      have HKO := Lib.hid (fun W (hW : Below w13.heap.size w13 W) => show Below w13.heap.size w13 W ∧ W.cell? ⟨w3.heap.size, 2, none⟩ = some (.slice rb n3 rbc) ∧ W.cell? ⟨w1.heap.size, 2, none⟩ = some (.slice ra nn rc) from ⟨hW, (hW.cell (p := ⟨w3.heap.size, 2, none⟩) hx3).trans u2, (hW.cell (p := ⟨w1.heap.size, 2, none⟩) hy3).trans y2⟩)
      have HKD := Lib.hid (HKO.out _ (show Below w13.heap.size w13 w13.drew from (Below.refl _ _).drew))
      clear hlo hle
      by_cases h30 : n3 = 0
      · have HA := Lib.hid (fun W (A' : Option Addr) (k c' : Nat) (hk : k = 0) => samePoints_any (.slice rb n3 rbc) (.slice A' k c') [] W (by rw [h30]; exact pl_empty_ct _ _ _ _) (by rw [hk]; exact pl_empty_ct _ _ _ _))
        have H30 := Lib.hid h30
        clear h30
        by_cases hlc : rc = lo
        · go_region_held3 (fun W => Below w13.heap.size w13 W ∧ W.cell? ⟨w3.heap.size, 2, none⟩ = some (.slice rb n3 rbc) ∧ W.cell? ⟨w1.heap.size, 2, none⟩ = some (.slice ra nn rc))
            (first | with_reducible assumption | with_reducible exact HKD.out | with_reducible exact HKO.out _ (below_step_ck (And.left (by assumption)) (by assumption)))
            (first | (go_at_call 35; (refine (HA.out _ _ _ _ (by have := H30.out; have := HLO.out; have := HLE.out; omega)).mono ?_); rintro e w14 ⟨rfl, hb14⟩; have HB14 := Lib.hid (show Below w13.heap.size w13 w14 from ((Below.refl w13.heap.size w13).drew).trans hb14)))
          all_goals
            go_wp2_with fail
            go_ret
            exact ⟨rfl, B13.out.trans (HB14.out.mono B13.out.size)⟩
        · go_region_held3 (fun W => Below w13.heap.size w13 W ∧ W.cell? ⟨w3.heap.size, 2, none⟩ = some (.slice rb n3 rbc) ∧ W.cell? ⟨w1.heap.size, 2, none⟩ = some (.slice ra nn rc))
            (first | with_reducible assumption | with_reducible exact HKD.out | with_reducible exact HKO.out _ (below_step_ck (And.left (by assumption)) (by assumption)))
            (first | (go_at_call 35; (refine (HA.out _ _ _ _ (by have := H30.out; have := HLO.out; have := HLE.out; omega)).mono ?_); rintro e w14 ⟨rfl, hb14⟩; have HB14 := Lib.hid (show Below w13.heap.size w13 w14 from ((Below.refl w13.heap.size w13).drew).trans hb14)))
          all_goals
            go_wp2_with fail
            go_ret
            exact ⟨rfl, B13.out.trans (HB14.out.mono B13.out.size)⟩
      · obtain ⟨g, rfl⟩ := HRG.out (by have := HLE.out; omega)
        have hlc : ¬ rc = lo := by have := HRC.out; have := HLO.out; have := HLE.out; omega
        have hlc2 : lo < rc := by have := HRC.out; have := HLO.out; have := HLE.out; omega
        have HA := Lib.hid (fun W (hW : Below w13.heap.size w13 W) (o m' c' : Nat) (ho : o = lo * 2) (hm : m' = n3) => samePoints_any (.slice rb n3 rbc) (.slice (some ⟨g, o, none⟩) m' c') d.2.2.1 W (pl_of_ct ((D13.out.below hW).up hW.size)) (by
          have hp := pl_of_ct ((C13.out.below hW).up hW.size)
          rw [← HNN.out] at hp
          have h := PL.off_ct (n := c') hp lo (by rw [HNN.out]; exact hlo1)
          rw [Nat.zero_add] at h
          rw [E6.out, HN3.out, HNN.out, HLO.out, ho, hm]
          rw [HNN.out] at h
          rw [show n3 = nn - lo from by have := HLO.out; have := HLE.out; omega]
          exact h))
        clear h30
        go_region_held3 (fun W => Below w13.heap.size w13 W ∧ W.cell? ⟨w3.heap.size, 2, none⟩ = some (.slice rb n3 rbc) ∧ W.cell? ⟨w1.heap.size, 2, none⟩ = some (.slice (some ⟨g, 0, none⟩) nn rc))
          (first | with_reducible assumption | with_reducible exact HKD.out | with_reducible exact HKO.out _ (below_step_ck (And.left (by assumption)) (by assumption)))
          (first | (go_at_call 35; (refine (HA.out _ ((Below.refl w13.heap.size w13).drew) _ _ _ (by omega) (by have := HLO.out; have := HLE.out; omega)).mono ?_); rintro e w14 ⟨rfl, hb14⟩; have HB14 := Lib.hid (show Below w13.heap.size w13 w14 from ((Below.refl w13.heap.size w13).drew).trans hb14)))
        all_goals
          go_wp2_with fail
          go_ret
          exact ⟨rfl, B13.out.trans (HB14.out.mono B13.out.size)⟩
end Go.Proofs.Ytkekpkfhljankaa
