/- Walks: a drawn cascade, out of the code. -/
import Derived.Test.YtkekpkfhljankaaCk
import Derived.Test.YtkekpkfhljankaaUb
import Derived.Test.YtkekpkfhljankaaZd
import Derived.Test.YtkekpkfhljankaaWw
set_option linter.unusedVariables false
set_option linter.unusedSimpArgs false
namespace Go.Proofs.Ytkekpkfhljankaa
open Go.RowKit

/-- what the reader leaves is behind what was there -/
theorem drw_below {w W W' : World} {g : Nat} (hb : Below w.heap.size w W) (hg : w.heap.size ≤ g) (h : W.grownBy W' (some g)) : Below w.heap.size w W' := hb.grown h hb.size (fun k hk => by injection hk with hk; omega)
def DCPost (w : World) (e : Ending) (w' : World) : Prop :=
  ∃ rv lv es c, e = .returned (.agg #[.int .i64 c.1, .int .i64 c.2.1, rv, lv]) ∧ CD w' w.heap.size w'.heap.size c rv lv es ∧ CR c ∧ Below w.heap.size w w'

set_option maxRecDepth 100000 in
set_option maxHeartbeats 4000000 in
theorem DrawCascadeOk_any (A : Option Addr) (n c : Nat) (w : World) (h : CodeAt w A n c) :
    Calls Try.prog 36 #[.slice A n c] w (DCPost w) := by
  obtain ⟨w0, hw0⟩ : ∃ w0, w.alloc (.cells #[.int .i64 0, .int .i64 0, .slice none 0 0, .slice none 0 0] 32) = w0 := ⟨_, rfl⟩
  have B0 := Lib.hid (show Below w.heap.size w w0 from by rw [← hw0]; exact (Below.refl _ _).alloc (Nat.le_refl _) _)
  have R0 : Hid (BoxN w0 w.heap.size #[.int .i64 0, .int .i64 0, .slice none 0 0, .slice none 0 0] 32) := Lib.hid (by rw [← hw0]; exact World.alloc_heap_new w _)
  have H := Lib.hid (h.below B0.out)
  have HW0 := Lib.hid hw0
  clear h hw0
  go_enter Try.func36, Try.ntmps36
  go_wp2_with fail
  rw [HW0.out]
  refine (open_any A n c _ H.out).mono ?_
  rintro e w1 ⟨rfl, hrd, hb1⟩
  have Hrd := Lib.hid hrd
  have S0 := R0.out.lt
  have B1 := Lib.hid (B0.out.trans (hb1.mono (by omega)))
  have R1 : Hid (BoxN w1 w.heap.size #[.int .i64 0, .int .i64 0, .slice none 0 0, .slice none 0 0] 32) := Lib.hid (R0.out.below hb1)
  clear hrd hb1 H
  go_wp2_with fail
  refine (cascade_any _ _ _ Hrd.out).mono ?_
  rintro e w2 ⟨rv, lv, es, cs, rfl, hd, hcr, hdw⟩
  obtain ⟨nn, hnn⟩ : ∃ nn, cs.2.2.1.length = nn := ⟨_, rfl⟩
  obtain ⟨mm, hmm⟩ : ∃ mm, cs.2.2.2.length = mm := ⟨_, rfl⟩
  obtain ⟨ra, rc, rfl⟩ : ∃ a c', rv = .slice a nn c' := by rw [← hnn]; exact hd.raw.shape
  obtain ⟨la, lc, rfl⟩ : ∃ a c', lv = .slice a mm c' := by rw [← hmm]; exact hd.lvl.row.shape
  have B2 := Lib.hid (drw_below B1.out (by omega) hdw.2)
  have R2 : BoxN w2 w.heap.size #[.int .i64 0, .int .i64 0, .slice none 0 0, .slice none 0 0] 32 := R1.out.kept hdw.2 (by intro e; injection e with e; omega)
  have D2 := Lib.hid hd
  have CR2 := Lib.hid hcr
  have S1 := R1.out.lt
  have r0 := R2.cell (i := 0) rfl
  have r1 := R2.cell (i := 1) rfl
  have r2 := R2.cell (i := 2) rfl
  have r3 := R2.cell (i := 3) rfl
  have f0 := R2.frozen (i := 0)
  have f1 := R2.frozen (i := 1)
  have f2 := R2.frozen (i := 2)
  have f3 := R2.frozen (i := 3)
  clear hnn hmm hd hcr hdw R2
  go_wp2_with fail
  refine bodyPost_ret (v := .agg #[.int .i64 cs.1, .int .i64 cs.2.1, .slice ra nn rc, .slice la mm lc]) (by simp [results, Try.results36, go_sem, r0, r1, r2, r3]) rfl ⟨.slice ra nn rc, .slice la mm lc, es, cs, rfl, (CD.set4n D2.out (.inl (by omega)) _ _ _ _).lift (by omega) (by simp [World.setCell]), CR2.out, KSP.set4 B2.out (Nat.le_refl _) _ _ _ _⟩
end Go.Proofs.Ytkekpkfhljankaa

/- Walks: Tick: the model. -/
set_option linter.unusedVariables false
set_option linter.unusedSimpArgs false
namespace Go.Proofs.Ytkekpkfhljankaa
open Go.RowKit

theorem CD.setNow {W : World} {base top : Nat} {a b kp : Int} {rp : List (Int × Int)} {ls : List Lv} {rv lv : Value} {es : List LvC} (h : CD W base top (a, kp, rp, ls) rv lv es) : CD W base top (b, kp, rp, ls) rv lv es := ⟨h.raw, h.lvl, h.off⟩
theorem CR.setNow {a b kp : Int} {rp : List (Int × Int)} {ls : List Lv} (h : CR (a, kp, rp, ls)) (hb : Rng b) : CR (b, kp, rp, ls) := ⟨hb, h.keep, h.raw, h.rlen, h.lv, h.llen, h.rolls⟩
theorem cascB_few {c : Cs} (h : cascB c = true) : c.2.2.2.length ≤ 4 := by
  unfold cascB headB at h
  simp only [Bool.and_eq_true, decide_eq_true_eq] at h
  exact h.1.2.2.2

set_option maxRecDepth 100000 in
set_option maxHeartbeats 8000000 in
theorem specTick_any (v : Value) (c : Cs) (nw : Int) (w : World) (h : CV w w.heap.size v c) :
    Calls Try.prog 32 #[v, .int .i64 nw] w (NPost w.heap.size (tickM c nw) (tickB c nw) w) := by
  have HV := Lib.hid h
  have hOk := Lib.hid (fun W h => specCascadeOk_any v c W h)
  have hCp := Lib.hid (fun W h hl => l8Copy_any v c W h hl)
  have hDr := Lib.hid (fun v c W h hl hn hk hlv => l8Drop_any v c W h hl hn hk hlv)
  have hIn := Lib.hid (fun W => v_l1In_q nw c.1 1000000000000 W)
  have hFw := Lib.hid (fun hc => cascB_few (c := c) hc)
  have hCR := Lib.hid h.cr
  have hAdv := Lib.hid (fun hc hn => casc_adv (c := c) hc nw hn)
  have hKp := Lib.hid (fun hc => cascB_keep (c := c) hc)
  have hTB : tickB c nw = (cascB c && decide (c.1 ≤ nw ∧ nw ≤ 1000000000000)) := rfl
  have HTN := Lib.hid (tickM_no (c := c) (nw := nw))
  have HTY := Lib.hid (tickM_yes (c := c) (nw := nw))
  obtain ⟨nw0, kp, rp, ls⟩ := c
  obtain ⟨rv, lv, rfl, hP, hL, z1, z2⟩ := h
  simp only at hP hL
  obtain ⟨z3, hpl, Ap, cp, rfl, z4⟩ := hP
  obtain ⟨z5, hll, Al, cl, rfl, z6⟩ := hL
  clear z1 z2 z3 z4 z5 z6
  obtain ⟨w1, hw1⟩ : ∃ w1, (w.alloc (.cells #[.int .i64 nw0, .int .i64 kp, .slice Ap rp.length cp, .slice Al ls.length cl] 32)).alloc (.cells #[.int .i64 0, .int .i64 0, .slice none 0 0, .slice none 0 0] 32) = w1 := ⟨_, rfl⟩
  have B1 := Lib.hid (show Below w.heap.size w w1 from by rw [← hw1]; exact ((Below.refl _ w).alloc (Nat.le_refl _) _).alloc (by simp) _)
  have X1 : Hid (BoxN w1 w.heap.size #[.int .i64 nw0, .int .i64 kp, .slice Ap rp.length cp, .slice Al ls.length cl] 32) := Lib.hid (by
    have h := World.alloc_heap_new w (.cells #[.int .i64 nw0, .int .i64 kp, .slice Ap rp.length cp, .slice Al ls.length cl] 32)
    rw [← hw1]
    exact (Below.heap_alloc _ _ _ (by simp)).trans h)
  have R1 : Hid (BoxN w1 (w.heap.size + 1) #[.int .i64 0, .int .i64 0, .slice none 0 0, .slice none 0 0] 32) := Lib.hid (by
    have h := World.alloc_heap_new (w.alloc (.cells #[.int .i64 nw0, .int .i64 kp, .slice Ap rp.length cp, .slice Al ls.length cl] 32)) (.cells #[.int .i64 0, .int .i64 0, .slice none 0 0, .slice none 0 0] 32)
    rw [World.size_alloc] at h
    rw [← hw1]; exact h)
  have S1 : w.heap.size + 2 ≤ w1.heap.size := by rw [← hw1]; simp
  have HW1 := Lib.hid hw1
  clear hw1
  have x0 := X1.out.cell (i := 0) rfl
  have x1 := X1.out.cell (i := 1) rfl
  have x2 := X1.out.cell (i := 2) rfl
  have x3 := X1.out.cell (i := 3) rfl
  go_enter Try.func32, Try.ntmps32
  go_wp2_with fail
  rw [HW1.out]
  go_wp2_with fail
  refine (hOk.out _ ((HV.out.below B1.out).up B1.out.size)).mono ?_
  rintro e w2 ⟨rfl, hb2⟩
  have X2 : Hid (BoxN w2 w.heap.size #[.int .i64 nw0, .int .i64 kp, .slice Ap rp.length cp, .slice Al ls.length cl] 32) := Lib.hid (X1.out.below hb2)
  have R2 : Hid (BoxN w2 (w.heap.size + 1) #[.int .i64 0, .int .i64 0, .slice none 0 0, .slice none 0 0] 32) := Lib.hid (R1.out.below hb2)
  have S2 := hb2.size
  have B2 := Lib.hid (B1.out.trans (hb2.mono (by omega)))
  clear x0 x1 x2 x3 hb2 X1 R1 B1
  have x0 := X2.out.cell (i := 0) rfl
  have x1 := X2.out.cell (i := 1) rfl
  have x2 := X2.out.cell (i := 2) rfl
  have x3 := X2.out.cell (i := 3) rfl
  have r0 := R2.out.cell (i := 0) rfl
  have r1 := R2.out.cell (i := 1) rfl
  have r2 := R2.out.cell (i := 2) rfl
  have r3 := R2.out.cell (i := 3) rfl
  have f0 := R2.out.frozen (i := 0)
  have f1 := R2.out.frozen (i := 1)
  have f2 := R2.out.frozen (i := 2)
  have f3 := R2.out.frozen (i := 3)
  cases hc : cascB (nw0, kp, rp, ls) with
  | false =>
    have HTF := Lib.hid (show tickB (nw0, kp, rp, ls) nw = false from by rw [hTB, hc]; rfl)
    clear hc hTB
    go_wp2_with fail
    rw [HTN.out HTF.out, HTF.out]
    refine bodyPost_ret (v := .tuple #[.agg #[.int .i64 0, .int .i64 0, .slice none 0 0, .slice none 0 0], .bool false]) (by simp [results, Try.results32, go_sem, r0, r1, r2, r3]) rfl ⟨_, _, [], rfl, zC_cd _ _ _, ?_⟩
    repeat (first | with_reducible exact B2.out | refine Below.setCell ?_ (by simp; try omega) _)
  | true =>
  by_cases g : nw0 ≤ nw ∧ nw ≤ 1000000000000
  case neg =>
    have HTF := Lib.hid (show tickB (nw0, kp, rp, ls) nw = false from by rw [hTB, hc, decide_eq_false g]; rfl)
    rw [vIn_false g] at hIn
    clear hc hTB g
    go_wp2_with fail
    refine (hIn.out _).mono ?_
    rintro e w2b ⟨rfl, rfl⟩
    go_wp2_with fail
    rw [HTN.out HTF.out, HTF.out]
    refine bodyPost_ret (v := .tuple #[.agg #[.int .i64 0, .int .i64 0, .slice none 0 0, .slice none 0 0], .bool false]) (by simp [results, Try.results32, go_sem, r0, r1, r2, r3]) rfl ⟨_, _, [], rfl, zC_cd _ _ _, ?_⟩
    repeat (first | with_reducible exact B2.out | refine Below.setCell ?_ (by simp; try omega) _)

  obtain ⟨g1, g2⟩ := g
  have HTT := Lib.hid (show tickB (nw0, kp, rp, ls) nw = true from by rw [hTB, hc, decide_eq_true ⟨g1, g2⟩]; rfl)
  rw [vIn_true g1 g2] at hIn
  have hlv := Lib.hid (hAdv.out hc g1)
  have hfew : ls.length ≤ 4 := hFw.out hc
  obtain ⟨hn0, hk0, _⟩ := hKp.out hc
  have hn0' : 0 ≤ nw0 ∧ nw0 ≤ 1000000000000 := hn0
  have hk0' : 1 ≤ kp ∧ kp ≤ 1000000000 := hk0
  clear hc hTB hAdv hKp hOk hn0 hk0
  go_wp2_with fail
  refine (hIn.out _).mono ?_
  rintro e w2b ⟨rfl, rfl⟩
  go_wp2_with fail
  refine (hCp.out _ ((HV.out.below B2.out).up B2.out.size) (by show ls.length ≤ 1000; omega)).mono ?_
  rintro e w3 ⟨rv3, lv3, es3, rfl, hcd3, hb3⟩
  have S3 := hb3.size
  have R3 : Hid (BoxN w3 (w.heap.size + 1) #[.int .i64 0, .int .i64 0, .slice none 0 0, .slice none 0 0] 32) := Lib.hid (R2.out.below hb3)
  have B3 := Lib.hid (B2.out.trans (hb3.mono (by omega)))
  obtain ⟨pa, pc, rfl⟩ := hcd3.raw.shape
  obtain ⟨A3, c3, rfl⟩ := hcd3.lvl.row.shape
  obtain ⟨w4, hw4⟩ : ∃ w4, w3.alloc (.cells #[.int .i64 nw, .int .i64 kp, .slice pa rp.length pc, .slice A3 ls.length c3] 32) = w4 := ⟨_, rfl⟩
  have hb4 : Below w3.heap.size w3 w4 := by rw [← hw4]; exact (Below.refl _ _).alloc (Nat.le_refl _) _
  have R4 : Hid (BoxN w4 (w.heap.size + 1) #[.int .i64 0, .int .i64 0, .slice none 0 0, .slice none 0 0] 32) := Lib.hid (R3.out.below hb4)
  have S4 := hb4.size
  have B4 := Lib.hid (B3.out.trans (hb4.mono (by omega)))
  have hcv4 : CV w4 w4.heap.size (.agg #[.int .i64 nw, .int .i64 kp, .slice pa rp.length pc, .slice A3 ls.length c3]) (nw, kp, rp, ls) := ((hcd3.setNow (b := nw)).below hb4).cv (hCR.out.setNow ⟨by omega, by omega⟩)
  have HD := Lib.hid (hDr.out _ (nw, kp, rp, ls) w4 hcv4 (by show ls.length ≤ 1000; omega) (by show 0 ≤ nw ∧ nw ≤ 1000000000000; omega) (by show 0 ≤ kp ∧ kp ≤ 1000000000; omega) hlv.out)
  have HW4 := Lib.hid hw4
  clear hw4 hb4 hcd3 hb3 hcv4 hDr hCp hIn x0 x1 x2 x3 r0 r1 r2 r3 f0 f1 f2 f3 R3 B3 R2 B2 X2
  go_wp2_with fail
  rw [HW4.out]
  refine HD.out.mono ?_
  rintro e w5 ⟨rv5, lv5, es5, rfl, hcd, hb5⟩
  have S5 := hb5.size
  have R5 : BoxN w5 (w.heap.size + 1) #[.int .i64 0, .int .i64 0, .slice none 0 0, .slice none 0 0] 32 := R4.out.below hb5
  have B5 := Lib.hid (B4.out.trans (hb5.mono (by omega)))
  obtain ⟨pa5, pc5, rfl⟩ := hcd.raw.shape
  obtain ⟨A5, c5, rfl⟩ := hcd.lvl.row.shape
  obtain ⟨m5, hm5⟩ : ∃ m5, (dropC nw (nw, kp, rp, ls)).2.2.1.length = m5 := ⟨_, rfl⟩
  obtain ⟨l5, hl5⟩ : ∃ l5, (dropC nw (nw, kp, rp, ls)).2.2.2.length = l5 := ⟨_, rfl⟩
  rw [hm5, hl5] at hcd
  rw [hm5, hl5]
  have r0 := R5.cell (i := 0) rfl
  have r1 := R5.cell (i := 1) rfl
  have r2 := R5.cell (i := 2) rfl
  have r3 := R5.cell (i := 3) rfl
  have f0 := R5.frozen (i := 0)
  have f1 := R5.frozen (i := 1)
  have f2 := R5.frozen (i := 2)
  have f3 := R5.frozen (i := 3)
  have HCD := Lib.hid (show CD w5 w4.heap.size w5.heap.size (dropC nw (nw0, kp, rp, ls)) (.slice pa5 m5 pc5) (.slice A5 l5 c5) es5 from hcd)
  have e1 : (dropC nw (nw, kp, rp, ls)).1 = nw := rfl
  have e2 : (dropC nw (nw, kp, rp, ls)).2.1 = kp := rfl
  rw [e1, e2]
  clear hcd hb5 R5 R4 B4 HD HV HW4 e1 e2 hm5 hl5
  go_wp2_with fail
  rw [HTY.out HTT.out, HTT.out]
  refine bodyPost_ret (v := .tuple #[.agg #[.int .i64 nw, .int .i64 kp, .slice pa5 m5 pc5, .slice A5 l5 c5], .bool true]) (by simp [results, Try.results32, go_sem, r0, r1, r2, r3]) rfl ⟨.slice pa5 m5 pc5, .slice A5 l5 c5, es5, rfl, (CD.at_ (W := w5) HCD.out (fun g hg => ?_)).lift (by omega) (by simp [World.setCell]), ?_⟩
  · have hlo := (HCD.out.lt hg).1
    repeat (first | with_reducible rfl | refine (Below.heap_setCell _ _ _ _ (by simp; omega)).trans ?_)
  · repeat (first | with_reducible exact B5.out | refine Below.setCell ?_ (by simp; try omega) _)
end Go.Proofs.Ytkekpkfhljankaa

/- Walks: the law FnStill. -/
set_option linter.unusedVariables false
set_option linter.unusedSimpArgs false
namespace Go.Proofs.Ytkekpkfhljankaa
open Go.RowKit

theorem dropC_self {c : Cs} (h : cascB c = true) : dropC c.1 c = c := by
  obtain ⟨now, kp, rp, ls⟩ := c
  unfold cascB at h
  rw [Bool.and_eq_true, Bool.and_eq_true] at h
  obtain ⟨_, h2, h3⟩ := h
  have e1 : dropP now kp rp = rp := by
    unfold dropP
    refine List.filter_eq_self.2 (fun p hp => ?_)
    have := List.all_eq_true.1 h2 p hp
    unfold rawAt at this
    rw [Bool.and_eq_true] at this
    exact this.2
  have e2 : ls.map (dropL now) = ls := by
    refine (List.map_congr_left (g := id) (fun x hx => ?_)).trans (List.map_id ls)
    obtain ⟨j, hj, rfl⟩ := List.getElem_of_mem hx
    have hl := lvsB_at (ls := ls) h3 j hj
    rw [show ls.getD j zLv = ls[j] from by simp [List.getD_eq_getElem?_getD, hj]] at hl
    generalize (if j = 0 then (1 : Int) else (ls.getD (j - 1) zLv).1) = w0 at hl
    generalize (if j = 0 then kp else (ls.getD (j - 1) zLv).2.1) = k0 at hl
    generalize ls[j] = x at hl
    unfold lvB at hl
    rw [Bool.and_eq_true, Bool.and_eq_true] at hl
    show (x.1, x.2.1, x.2.2.filter (rolAt now x)) = x
    rw [List.filter_eq_self.2 (fun r hr => List.all_eq_true.1 hl.2.2 r hr)]
  show (now, kp, dropP now kp rp, ls.map (dropL now)) = _
  rw [e1, e2]
theorem tickM_cr_cm {c : Cs} {nw : Int} (h : CR c) (hn : Rng nw) : CR (tickM c nw) := by
  cases hb : tickB c nw with
  | false => rw [tickM_no hb]; exact zC_cr
  | true => rw [tickM_yes hb]; exact dropC_crI h hn
theorem still_eq {c : Cs} (h : tickB c c.1 = true) : tickM c c.1 = c := by
  rw [tickM_yes h]
  unfold tickB at h
  rw [Bool.and_eq_true] at h
  exact dropC_self h.1

set_option maxRecDepth 100000 in
set_option maxHeartbeats 8000000 in
theorem walkFnStill (A : Option Addr) (n ca : Nat) (w : World) (hcode : n ≤ 1048576 → CodeAt w A n ca) :
    Calls Try.prog 6 #[.slice A n ca] w fun e w' => e = .returned (.bool true) ∧ Below w.heap.size w w' := by
  by_cases hbig : (1048576 : Int) < n
  · have hb : decide (1048576 < (n : Int)) = true := decide_eq_true hbig
    clear hcode
    have HBG := Lib.hid (fun W => big_any A n ca W)
    rw [hb] at HBG
    go_enter Try.func6, Try.ntmps6
    go_wp2_with (go_at_call 29; refine (HBG.out _).mono ?_; rintro e w' ⟨rfl, rfl⟩)
    go_ret
    exact ⟨rfl, Below.refl _ _⟩
  · have hb : decide (1048576 < (n : Int)) = false := decide_eq_false hbig
    have HBG := Lib.hid (fun W => big_any A n ca W)
    rw [hb] at HBG
    have hD := Lib.hid (DrawCascadeOk_any A n ca w (hcode (by omega)))
    have hIm := Lib.hid (fun v c nw W h => implTick_any v c nw W h)
    have hSp := Lib.hid (fun v c nw W h => specTick_any v c nw W h)
    have hSa := Lib.hid (fun v u c W h h' => sameCascade_any v u c W h h')
    clear hcode hb hbig
    go_enter Try.func6, Try.ntmps6
    go_wp2_with (go_at_call 29; refine (HBG.out _).mono ?_; rintro e w' ⟨rfl, rfl⟩)
    refine hD.out.mono ?_
    rintro e w1 ⟨rv, lv, es, c, rfl, hd, hcr, hb1⟩
    obtain ⟨nn, hnn⟩ : ∃ nn, c.2.2.1.length = nn := ⟨_, rfl⟩
    obtain ⟨mm, hmm⟩ : ∃ mm, c.2.2.2.length = mm := ⟨_, rfl⟩
    obtain ⟨ra, rc, rfl⟩ : ∃ a c', rv = .slice a nn c' := by rw [← hnn]; exact hd.raw.shape
    obtain ⟨la, lc, rfl⟩ : ∃ a c', lv = .slice a mm c' := by rw [← hmm]; exact hd.lvl.row.shape
    obtain ⟨w2, hw2⟩ : ∃ w2, w1.alloc (.cells #[.int .i64 c.1, .int .i64 c.2.1, .slice ra nn rc, .slice la mm lc] 32) = w2 := ⟨_, rfl⟩
    have hb2 : Below w1.heap.size w1 w2 := by rw [← hw2]; exact (Below.refl _ _).alloc (Nat.le_refl _) _
    have X2 : Hid (BoxN w2 w1.heap.size #[.int .i64 c.1, .int .i64 c.2.1, .slice ra nn rc, .slice la mm lc] 32) := Lib.hid (by rw [← hw2]; exact World.alloc_heap_new w1 _)
    have C2 := Lib.hid (show CV w2 w2.heap.size (.agg #[.int .i64 c.1, .int .i64 c.2.1, .slice ra nn rc, .slice la mm lc]) c from (hd.below hb2).cv hcr)
    have B2 := Lib.hid (hb1.trans (hb2.mono hb1.size))
    have HW2 := Lib.hid hw2
    have hST := Lib.hid (fun h => still_eq (c := c) h)
    have TK := Lib.hid (hIm.out _ c c.1 w2 C2.out)
    have TS := Lib.hid (fun v W h => hSp.out v c c.1 W h)
    have hdcr := tickM_cr_cm (c := c) (nw := c.1) hcr hcr.now
    generalize tickM c c.1 = d at *
    generalize tickB c c.1 = fb at *
    have DCR := Lib.hid hdcr
    have S1 := hb1.size
    have S2 := X2.out.lt
    have CRn := Lib.hid hcr
    have x0 := X2.out.cell (i := 0) rfl
    have x1 := X2.out.cell (i := 1) rfl
    have x2 := X2.out.cell (i := 2) rfl
    have x3 := X2.out.cell (i := 3) rfl
    clear hw2 hd hcr hb1 hb2 hdcr hnn hmm hIm hSp hD HBG
    go_upto_region 4 with fail
    rw [HW2.out]
    go_wp2_with fail
    refine TK.out.mono ?_
    rintro e w3 ⟨rv3, lv3, es3, rfl, hd3, hb3⟩
    obtain ⟨n3, hn3⟩ : ∃ n3, d.2.2.1.length = n3 := ⟨_, rfl⟩
    obtain ⟨m3, hm3⟩ : ∃ m3, d.2.2.2.length = m3 := ⟨_, rfl⟩
    obtain ⟨rb, rbc, rfl⟩ : ∃ a c', rv3 = .slice a n3 c' := by rw [← hn3]; exact hd3.raw.shape
    obtain ⟨lb, lbc, rfl⟩ : ∃ a c', lv3 = .slice a m3 c' := by rw [← hm3]; exact hd3.lvl.row.shape
    have HN3 := Lib.hid hn3
    have HM3 := Lib.hid hm3
    obtain ⟨w4, hw4⟩ : ∃ w4, w3.alloc (.cells #[.int .i64 d.1, .int .i64 d.2.1, .slice rb n3 rbc, .slice lb m3 lbc] 32) = w4 := ⟨_, rfl⟩
    have hb4 : Below w3.heap.size w3 w4 := by rw [← hw4]; exact (Below.refl _ _).alloc (Nat.le_refl _) _
    have X4 : Hid (BoxN w4 w3.heap.size #[.int .i64 d.1, .int .i64 d.2.1, .slice rb n3 rbc, .slice lb m3 lbc] 32) := Lib.hid (by rw [← hw4]; exact World.alloc_heap_new w3 _)
    have D4 := Lib.hid (show CV w4 w4.heap.size (.agg #[.int .i64 d.1, .int .i64 d.2.1, .slice rb n3 rbc, .slice lb m3 lbc]) d from (hd3.below hb4).cv DCR.out)
    have B24 := Lib.hid (show Below w2.heap.size w2 w4 from hb3.trans (hb4.mono hb3.size))
    have Y4 : Hid (BoxN w4 w1.heap.size #[.int .i64 c.1, .int .i64 c.2.1, .slice ra nn rc, .slice la mm lc] 32) := Lib.hid ((B24.out.block _ S2).trans X2.out)
    have C4 := Lib.hid ((C2.out.below B24.out).up B24.out.size)
    have S4 := X4.out.lt
    have S24 := B24.out.size
    have HW4 := Lib.hid hw4
    have x0 := Y4.out.cell (i := 0) rfl
    have x1 := Y4.out.cell (i := 1) rfl
    have x2 := Y4.out.cell (i := 2) rfl
    have x3 := Y4.out.cell (i := 3) rfl
    clear hn3 hm3 hw4 hd3 hb3 hb4 X2 C2 TK
    go_upto_region 5 with fail
    rw [HW4.out]
    clear HW4 HW2
    go_wp2_with fail
    refine (TS.out _ _ C4.out).mono ?_
    rintro e w5 ⟨rv5, lv5, es5, rfl, hd5, hb5⟩
    obtain ⟨rf, rfc, rfl⟩ : ∃ a c', rv5 = .slice a n3 c' := by rw [← HN3.out]; exact hd5.raw.shape
    obtain ⟨lf, lfc, rfl⟩ : ∃ a c', lv5 = .slice a m3 c' := by rw [← HM3.out]; exact hd5.lvl.row.shape
    obtain ⟨w6, hw6⟩ : ∃ w6, w5.alloc (.cells #[.int .i64 d.1, .int .i64 d.2.1, .slice rf n3 rfc, .slice lf m3 lfc] 32) = w6 := ⟨_, rfl⟩
    have hb6 : Below w5.heap.size w5 w6 := by rw [← hw6]; exact (Below.refl _ _).alloc (Nat.le_refl _) _
    have B46 := Lib.hid (show Below w4.heap.size w4 w6 from hb5.trans (hb6.mono hb5.size))
    have X6 : BoxN w6 w3.heap.size #[.int .i64 d.1, .int .i64 d.2.1, .slice rb n3 rbc, .slice lb m3 lbc] 32 := (B46.out.block _ X4.out.lt).trans X4.out
    have Y6 : BoxN w6 w1.heap.size #[.int .i64 c.1, .int .i64 c.2.1, .slice ra nn rc, .slice la mm lc] 32 := (B46.out.block _ Y4.out.lt).trans Y4.out
    have C6 := Lib.hid ((C4.out.below B46.out).up B46.out.size)
    have D6 := Lib.hid ((D4.out.below B46.out).up B46.out.size)
    have BF := Lib.hid (B2.out.trans ((B24.out.trans (B46.out.mono S24)).mono B2.out.size))
    have HW6 := Lib.hid hw6
    have u0 := X6.cell (i := 0) rfl
    have u1 := X6.cell (i := 1) rfl
    have u2 := X6.cell (i := 2) rfl
    have u3 := X6.cell (i := 3) rfl
    have x0 := Y6.cell (i := 0) rfl
    have x1 := Y6.cell (i := 1) rfl
    have x2 := Y6.cell (i := 2) rfl
    have x3 := Y6.cell (i := 3) rfl
    clear hw6 hd5 hb5 hb6 X6 Y6 X4 Y4 C4 D4 TS
    go_upto_region 6 with fail
    rw [HW6.out]
    clear HW6
    cases fb with
    | false =>
      go_wp2_with fail
      go_ret
      exact ⟨rfl, BF.out⟩
    | true =>
      have hdc := hST.out rfl
      have HS := Lib.hid (hSa.out _ _ c w6 (by rw [hdc] at D6; exact D6.out) C6.out)
      have HDC := Lib.hid hdc
      clear hdc
      rw [HDC.out] at u0 u1
      go_wp2_with fail
      refine HS.out.mono ?_
      rintro e w7 ⟨rfl, hb7⟩
      go_wp2_with fail
      go_ret
      exact ⟨rfl, BF.out.trans (hb7.mono BF.out.size)⟩
end Go.Proofs.Ytkekpkfhljankaa
