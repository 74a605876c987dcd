/- Walks: drawn cascades and a number. -/
import Derived.Test.YtkekpkfhljankaaCl
import Derived.Test.YtkekpkfhljankaaZd
import Derived.Test.YtkekpkfhljankaaWw
set_option linter.unusedVariables false
set_option linter.unusedSimpArgs false
namespace Go.Proofs.Ytkekpkfhljankaa
open Go.RowKit

def DNPost (w : World) (e : Ending) (w' : World) : Prop :=
  ∃ rv lv es c q, e = .returned (.tuple #[.agg #[.int .i64 c.1, .int .i64 c.2.1, rv, lv], .int .i64 q]) ∧ CD w' w.heap.size w'.heap.size c rv lv es ∧ CR c ∧ Rng q ∧ Below w.heap.size w w'
set_option maxRecDepth 100000 in
set_option maxHeartbeats 4000000 in
theorem DrawPick_any (A : Option Addr) (n c : Nat) (w : World) (h : CodeAt w A n c) :
    Calls Try.prog 39 #[.slice A n c] w (DNPost w) := by
  obtain ⟨w0, hw0⟩ : ∃ w0, w.alloc (.cells #[.int .i64 0, .int .i64 0, .slice none 0 0, .slice none 0 0] 32) = w0 := ⟨_, rfl⟩
  have B0 := Lib.hid (show Below w.heap.size w w0 from by rw [← hw0]; exact (Below.refl _ _).alloc (Nat.le_refl _) _)
  have R0 : Hid (BoxN w0 w.heap.size #[.int .i64 0, .int .i64 0, .slice none 0 0, .slice none 0 0] 32) := Lib.hid (by rw [← hw0]; exact World.alloc_heap_new w _)
  have H := Lib.hid (h.below B0.out)
  have HW0 := Lib.hid hw0
  clear h hw0
  go_enter Try.func39, Try.ntmps39
  go_wp2_with fail
  rw [HW0.out]
  refine (open_any A n c _ H.out).mono ?_
  rintro e w1 ⟨rfl, hrd, hb1⟩
  have Hrd := Lib.hid hrd
  have S0 := R0.out.lt
  obtain ⟨g, hg⟩ : ∃ g, w0.heap.size = g := ⟨_, rfl⟩
  have B1 := Lib.hid (B0.out.trans (hb1.mono (by omega)))
  have R1 : Hid (BoxN w1 w.heap.size #[.int .i64 0, .int .i64 0, .slice none 0 0, .slice none 0 0] 32) := Lib.hid (R0.out.below hb1)
  have S1 := R1.out.lt
  rw [hg] at Hrd ⊢
  have hgw : w.heap.size < g := by omega
  clear hrd hb1 H hg
  go_wp2_with fail
  refine (cascade_any _ _ _ Hrd.out).mono ?_
  rintro e w2 ⟨rv, lv, es, cs, rfl, hd, hcr, hdw⟩
  obtain ⟨nn, hnn⟩ : ∃ nn, cs.2.2.1.length = nn := ⟨_, rfl⟩
  obtain ⟨mm, hmm⟩ : ∃ mm, cs.2.2.2.length = mm := ⟨_, rfl⟩
  obtain ⟨ra, rc, rfl⟩ : ∃ a c', rv = .slice a nn c' := by rw [← hnn]; exact hd.raw.shape
  obtain ⟨la, lc, rfl⟩ : ∃ a c', lv = .slice a mm c' := by rw [← hmm]; exact hd.lvl.row.shape
  obtain ⟨w3, hw3⟩ : ∃ w3, w2.alloc (.cells #[.int .i64 cs.1, .int .i64 cs.2.1, .slice ra nn rc, .slice la mm lc] 32) = w3 := ⟨_, rfl⟩
  obtain ⟨ob, hob⟩ : ∃ ob, w2.heap.size = ob := ⟨_, rfl⟩
  have hb3 : Below w2.heap.size w2 w3 := by rw [← hw3]; exact (Below.refl _ _).alloc (Nat.le_refl _) _
  have X3 : Hid (BoxN w3 ob #[.int .i64 cs.1, .int .i64 cs.2.1, .slice ra nn rc, .slice la mm lc] 32) := Lib.hid (by rw [← hob, ← hw3]; exact World.alloc_heap_new w2 _)
  have R3 : Hid (BoxN w3 w.heap.size #[.int .i64 0, .int .i64 0, .slice none 0 0, .slice none 0 0] 32) := Lib.hid ((R1.out.kept hdw.2 (by intro e; injection e with e; omega)).below hb3)
  have G3 := Lib.hid (show Rd w3 g g from hdw.1.below hb3)
  have D3 := Lib.hid (hd.below hb3)
  have B3 := Lib.hid ((drw_below B1.out (by omega) hdw.2).trans (hb3.mono (by have := hdw.2.size; omega)))
  have CR3 := Lib.hid hcr
  have S2 := hdw.2.size
  have S3 := hb3.size
  have hobw : w.heap.size < ob := by omega
  have hg1 := Hrd.out.lt
  have hog : ¬ ob = g := by omega
  have HW3 := Lib.hid hw3
  have HOB := Lib.hid hob
  clear hnn hmm hd hcr hdw hw3 hob hb3 R1 B1 Hrd
  go_upto_region 3 with fail
  rw [HW3.out, HOB.out]
  clear HW3
  have hrng := CR3.out.now
  have HRD := Lib.hid (show Rd w3.drew g g from G3.out.drew)
  obtain ⟨now, hnow⟩ : ∃ now, cs.1 = now := ⟨_, rfl⟩
  have HN := Lib.hid hnow
  have x0 := X3.out.cell (i := 0) rfl
  have x1 := X3.out.cell (i := 1) rfl
  have x2 := X3.out.cell (i := 2) rfl
  have x3 := X3.out.cell (i := 3) rfl
  have hgl := G3.out.lt
  clear hnow
  have HRG := Lib.hid hrng
  clear hrng
  clear HRG
  go_region_law (first
    | (go_simp; go_at_call 76; refine (off_any g g 0 300 _ HRD.out (by omega) (by omega) (by omega) (by omega)).mono ?_; rintro e w4 ⟨_, rfl, ⟨q, rfl, hq0, hq1⟩, hrd4, hgr4⟩; have gr4 : w3.grownBy w4 (some g) := grown_trans' (grew_drewN w3 1 _) hgr4; have X4 : Hid (BoxN w4 ob #[.int .i64 cs.1, .int .i64 cs.2.1, .slice ra nn rc, .slice la mm lc] 32) := Lib.hid (X3.out.kept gr4 (by intro e; injection e with e; omega)); have R4 : Hid (BoxN w4 w.heap.size #[.int .i64 0, .int .i64 0, .slice none 0 0, .slice none 0 0] 32) := Lib.hid (R3.out.kept gr4 (by intro e; injection e with e; omega)); have D4 := Lib.hid (D3.out.at_ (W' := w4) (fun k hk => gr4.block k (D3.out.lt hk).2.2 (fun e => by injection e with e; have := (D3.out.lt hk).1; omega))); have B4 := Lib.hid (drw_below B3.out (by omega) gr4); have S4 := gr4.size; have z0 := X4.out.cell (i := 0) rfl; have z1 := X4.out.cell (i := 1) rfl; have z2 := X4.out.cell (i := 2) rfl; have z3 := X4.out.cell (i := 3) rfl; have r0 := R4.out.cell (i := 0) rfl; have r1 := R4.out.cell (i := 1) rfl; have r2 := R4.out.cell (i := 2) rfl; have r3 := R4.out.cell (i := 3) rfl; have f0 := R4.out.frozen (i := 0); have f1 := R4.out.frozen (i := 1); have f2 := R4.out.frozen (i := 2); have f3 := R4.out.frozen (i := 3); clear hgr4 hrd4 gr4))
  all_goals
    go_simp
    go_wp2_with fail
    refine bodyPost_ret (v := .tuple #[.agg #[.int .i64 cs.1, .int .i64 cs.2.1, .slice ra nn rc, .slice la mm lc], .int .i64 q]) (by simp [results, Try.results39, go_sem, r0, r1, r2, r3]) rfl ⟨.slice ra nn rc, .slice la mm lc, es, cs, q, rfl, (CD.set4n D4.out (.inl (by omega)) _ _ _ _).lift (by omega) (by simp [World.setCell]; omega), CR3.out, ⟨hq0, hq1⟩, KSP.set4 B4.out (Nat.le_refl _) _ _ _ _⟩
end Go.Proofs.Ytkekpkfhljankaa

/- Walks: drawn cascades and a time. -/
set_option linter.unusedVariables false
set_option linter.unusedSimpArgs false
namespace Go.Proofs.Ytkekpkfhljankaa
open Go.RowKit

set_option maxRecDepth 100000 in
set_option maxHeartbeats 4000000 in
theorem DrawTick_any (A : Option Addr) (n c : Nat) (w : World) (h : CodeAt w A n c) :
    Calls Try.prog 30 #[.slice A n c] w (DNPost w) := by
  obtain ⟨w0, hw0⟩ : ∃ w0, w.alloc (.cells #[.int .i64 0, .int .i64 0, .slice none 0 0, .slice none 0 0] 32) = w0 := ⟨_, rfl⟩
  have B0 := Lib.hid (show Below w.heap.size w w0 from by rw [← hw0]; exact (Below.refl _ _).alloc (Nat.le_refl _) _)
  have R0 : Hid (BoxN w0 w.heap.size #[.int .i64 0, .int .i64 0, .slice none 0 0, .slice none 0 0] 32) := Lib.hid (by rw [← hw0]; exact World.alloc_heap_new w _)
  have H := Lib.hid (h.below B0.out)
  have HW0 := Lib.hid hw0
  clear h hw0
  go_enter Try.func30, Try.ntmps30
  go_wp2_with fail
  rw [HW0.out]
  refine (open_any A n c _ H.out).mono ?_
  rintro e w1 ⟨rfl, hrd, hb1⟩
  have Hrd := Lib.hid hrd
  have S0 := R0.out.lt
  obtain ⟨g, hg⟩ : ∃ g, w0.heap.size = g := ⟨_, rfl⟩
  have B1 := Lib.hid (B0.out.trans (hb1.mono (by omega)))
  have R1 : Hid (BoxN w1 w.heap.size #[.int .i64 0, .int .i64 0, .slice none 0 0, .slice none 0 0] 32) := Lib.hid (R0.out.below hb1)
  have S1 := R1.out.lt
  rw [hg] at Hrd ⊢
  have hgw : w.heap.size < g := by omega
  clear hrd hb1 H hg
  go_wp2_with fail
  refine (cascade_any _ _ _ Hrd.out).mono ?_
  rintro e w2 ⟨rv, lv, es, cs, rfl, hd, hcr, hdw⟩
  obtain ⟨nn, hnn⟩ : ∃ nn, cs.2.2.1.length = nn := ⟨_, rfl⟩
  obtain ⟨mm, hmm⟩ : ∃ mm, cs.2.2.2.length = mm := ⟨_, rfl⟩
  obtain ⟨ra, rc, rfl⟩ : ∃ a c', rv = .slice a nn c' := by rw [← hnn]; exact hd.raw.shape
  obtain ⟨la, lc, rfl⟩ : ∃ a c', lv = .slice a mm c' := by rw [← hmm]; exact hd.lvl.row.shape
  obtain ⟨w3, hw3⟩ : ∃ w3, w2.alloc (.cells #[.int .i64 cs.1, .int .i64 cs.2.1, .slice ra nn rc, .slice la mm lc] 32) = w3 := ⟨_, rfl⟩
  obtain ⟨ob, hob⟩ : ∃ ob, w2.heap.size = ob := ⟨_, rfl⟩
  have hb3 : Below w2.heap.size w2 w3 := by rw [← hw3]; exact (Below.refl _ _).alloc (Nat.le_refl _) _
  have X3 : Hid (BoxN w3 ob #[.int .i64 cs.1, .int .i64 cs.2.1, .slice ra nn rc, .slice la mm lc] 32) := Lib.hid (by rw [← hob, ← hw3]; exact World.alloc_heap_new w2 _)
  have R3 : Hid (BoxN w3 w.heap.size #[.int .i64 0, .int .i64 0, .slice none 0 0, .slice none 0 0] 32) := Lib.hid ((R1.out.kept hdw.2 (by intro e; injection e with e; omega)).below hb3)
  have G3 := Lib.hid (show Rd w3 g g from hdw.1.below hb3)
  have D3 := Lib.hid (hd.below hb3)
  have B3 := Lib.hid ((drw_below B1.out (by omega) hdw.2).trans (hb3.mono (by have := hdw.2.size; omega)))
  have CR3 := Lib.hid hcr
  have S2 := hdw.2.size
  have S3 := hb3.size
  have hobw : w.heap.size < ob := by omega
  have hg1 := Hrd.out.lt
  have hog : ¬ ob = g := by omega
  have HW3 := Lib.hid hw3
  have HOB := Lib.hid hob
  clear hnn hmm hd hcr hdw hw3 hob hb3 R1 B1 Hrd
  go_upto_region 3 with fail
  rw [HW3.out, HOB.out]
  clear HW3
  go_wp2_with fail
  refine (once_any g g 8 _ G3.out (by omega) (by omega)).mono ?_
  rintro e w5 ⟨_, rfl, hbo, hrd5, hgr5⟩
  obtain ⟨bo, rfl⟩ := hbo
  have X5 : Hid (BoxN w5 ob #[.int .i64 cs.1, .int .i64 cs.2.1, .slice ra nn rc, .slice la mm lc] 32) := Lib.hid (X3.out.kept hgr5 (by intro e; injection e with e; omega))
  have R5 : Hid (BoxN w5 w.heap.size #[.int .i64 0, .int .i64 0, .slice none 0 0, .slice none 0 0] 32) := Lib.hid (R3.out.kept hgr5 (by intro e; injection e with e; omega))
  have D5 := Lib.hid (D3.out.at_ (W' := w5) (fun k hk => hgr5.block k (D3.out.lt hk).2.2 (fun e => by injection e with e; have := (D3.out.lt hk).1; omega)))
  have B5 := Lib.hid (drw_below B3.out (by omega) hgr5)
  have G5 := Lib.hid hrd5
  have S5 := hgr5.size
  clear hrd5 hgr5 X3 R3 D3 B3 G3
  cases bo with
  | true =>
    go_upto_region 4 with fail
    have HRD := Lib.hid (show Rd w5.drew g g from G5.out.drew)
    obtain ⟨now, hnow⟩ : ∃ now, cs.1 = now := ⟨_, rfl⟩
    have HN := Lib.hid hnow
    have x0 := X5.out.cell (i := 0) rfl
    have x1 := X5.out.cell (i := 1) rfl
    have x2 := X5.out.cell (i := 2) rfl
    have x3 := X5.out.cell (i := 3) rfl
    have hgl := G5.out.lt
    clear hnow
    go_region_law (first
      | (go_simp; go_at_call 76; refine (off_any g g 0 100 _ HRD.out (by omega) (by omega) (by omega) (by omega)).mono ?_; rintro e w4 ⟨_, rfl, ⟨q, rfl, hq0, hq1⟩, hrd4, hgr4⟩; have gr4 : w5.grownBy w4 (some g) := grown_trans' (grew_drewN w5 1 _) hgr4; have X4 : Hid (BoxN w4 ob #[.int .i64 cs.1, .int .i64 cs.2.1, .slice ra nn rc, .slice la mm lc] 32) := Lib.hid (X5.out.kept gr4 (by intro e; injection e with e; omega)); have R4 : Hid (BoxN w4 w.heap.size #[.int .i64 0, .int .i64 0, .slice none 0 0, .slice none 0 0] 32) := Lib.hid (R5.out.kept gr4 (by intro e; injection e with e; omega)); have D4 := Lib.hid (D5.out.at_ (W' := w4) (fun k hk => gr4.block k (D5.out.lt hk).2.2 (fun e => by injection e with e; have := (D5.out.lt hk).1; omega))); have B4 := Lib.hid (drw_below B5.out (by omega) gr4); have S4 := gr4.size; have z0 := X4.out.cell (i := 0) rfl; have z1 := X4.out.cell (i := 1) rfl; have z2 := X4.out.cell (i := 2) rfl; have z3 := X4.out.cell (i := 3) rfl; have r0 := R4.out.cell (i := 0) rfl; have r1 := R4.out.cell (i := 1) rfl; have r2 := R4.out.cell (i := 2) rfl; have r3 := R4.out.cell (i := 3) rfl; have f0 := R4.out.frozen (i := 0); have f1 := R4.out.frozen (i := 1); have f2 := R4.out.frozen (i := 2); have f3 := R4.out.frozen (i := 3); clear hgr4 hrd4 gr4))
    all_goals
      go_simp
      go_wp2_with fail
      refine bodyPost_ret (v := .tuple #[.agg #[.int .i64 cs.1, .int .i64 cs.2.1, .slice ra nn rc, .slice la mm lc], .int .i64 q]) (by simp [results, Try.results30, go_sem, r0, r1, r2, r3]) rfl ⟨.slice ra nn rc, .slice la mm lc, es, cs, q, rfl, (CD.set4n D4.out (.inl (by omega)) _ _ _ _).lift (by omega) (by simp [World.setCell]; omega), CR3.out, ⟨hq0, hq1⟩, KSP.set4 B4.out (Nat.le_refl _) _ _ _ _⟩
  | false =>
    go_upto_region 5 with fail
    have HRD := Lib.hid (show Rd w5.drew g g from G5.out.drew)
    obtain ⟨now, hnow⟩ : ∃ now, cs.1 = now := ⟨_, rfl⟩
    have HN := Lib.hid hnow
    have x0 := X5.out.cell (i := 0) rfl
    have x1 := X5.out.cell (i := 1) rfl
    have x2 := X5.out.cell (i := 2) rfl
    have x3 := X5.out.cell (i := 3) rfl
    have hgl := G5.out.lt
    clear hnow
    go_region_law (first
      | (go_simp; go_at_call 77; refine (below_any g g 300 _ HRD.out (by omega) (by omega)).mono ?_; rintro e w4 ⟨_, rfl, ⟨q, rfl, hq0, hq1⟩, hrd4, hgr4⟩; have gr4 : w5.grownBy w4 (some g) := grown_trans' (grew_drewN w5 1 _) hgr4; have X4 : Hid (BoxN w4 ob #[.int .i64 cs.1, .int .i64 cs.2.1, .slice ra nn rc, .slice la mm lc] 32) := Lib.hid (X5.out.kept gr4 (by intro e; injection e with e; omega)); have R4 : Hid (BoxN w4 w.heap.size #[.int .i64 0, .int .i64 0, .slice none 0 0, .slice none 0 0] 32) := Lib.hid (R5.out.kept gr4 (by intro e; injection e with e; omega)); have D4 := Lib.hid (D5.out.at_ (W' := w4) (fun k hk => gr4.block k (D5.out.lt hk).2.2 (fun e => by injection e with e; have := (D5.out.lt hk).1; omega))); have B4 := Lib.hid (drw_below B5.out (by omega) gr4); have S4 := gr4.size; have z0 := X4.out.cell (i := 0) rfl; have z1 := X4.out.cell (i := 1) rfl; have z2 := X4.out.cell (i := 2) rfl; have z3 := X4.out.cell (i := 3) rfl; have r0 := R4.out.cell (i := 0) rfl; have r1 := R4.out.cell (i := 1) rfl; have r2 := R4.out.cell (i := 2) rfl; have r3 := R4.out.cell (i := 3) rfl; have f0 := R4.out.frozen (i := 0); have f1 := R4.out.frozen (i := 1); have f2 := R4.out.frozen (i := 2); have f3 := R4.out.frozen (i := 3); clear hgr4 hrd4 gr4))
    all_goals
      go_simp
      go_wp2_with fail
      refine bodyPost_ret (v := .tuple #[.agg #[.int .i64 cs.1, .int .i64 cs.2.1, .slice ra nn rc, .slice la mm lc], .int .i64 (IntKind.i64.wrap (cs.1 + q))]) (by simp [results, Try.results30, go_sem, r0, r1, r2, r3]) rfl ⟨.slice ra nn rc, .slice la mm lc, es, cs, IntKind.i64.wrap (cs.1 + q), rfl, (CD.set4n D4.out (.inl (by omega)) _ _ _ _).lift (by omega) (by simp [World.setCell]; omega), CR3.out, rng_iwrap _, KSP.set4 B4.out (Nat.le_refl _) _ _ _ _⟩
end Go.Proofs.Ytkekpkfhljankaa

/- Walks: Tick: the model. -/
set_option linter.unusedVariables false
set_option linter.unusedSimpArgs false
namespace Go.Proofs.Ytkekpkfhljankaa
open Go.RowKit

theorem CD.setNow {W : World} {base top : Nat} {a b kp : Int} {rp : List (Int × Int)} {ls : List Lv} {rv lv : Value} {es : List LvC} (h : CD W base top (a, kp, rp, ls) rv lv es) : CD W base top (b, kp, rp, ls) rv lv es := ⟨h.raw, h.lvl, h.off⟩
theorem CR.setNow {a b kp : Int} {rp : List (Int × Int)} {ls : List Lv} (h : CR (a, kp, rp, ls)) (hb : Rng b) : CR (b, kp, rp, ls) := ⟨hb, h.keep, h.raw, h.rlen, h.lv, h.llen, h.rolls⟩
theorem cascB_few {c : Cs} (h : cascB c = true) : c.2.2.2.length ≤ 4 := by
  unfold cascB headB at h
  simp only [Bool.and_eq_true, decide_eq_true_eq] at h
  exact h.1.2.2.2

set_option maxRecDepth 100000 in
set_option maxHeartbeats 8000000 in
theorem specTick_any (v : Value) (c : Cs) (nw : Int) (w : World) (h : CV w w.heap.size v c) :
    Calls Try.prog 32 #[v, .int .i64 nw] w (NPost w.heap.size (tickM c nw) (tickB c nw) w) := by
  have HV := Lib.hid h
  have hOk := Lib.hid (fun W h => specCascadeOk_any v c W h)
  have hCp := Lib.hid (fun W h hl => l8Copy_any v c W h hl)
  have hDr := Lib.hid (fun v c W h hl hn hk hlv => l8Drop_any v c W h hl hn hk hlv)
  have hIn := Lib.hid (fun W => v_l1In_q nw c.1 1000000000000 W)
  have hFw := Lib.hid (fun hc => cascB_few (c := c) hc)
  have hCR := Lib.hid h.cr
  have hAdv := Lib.hid (fun hc hn => casc_adv (c := c) hc nw hn)
  have hKp := Lib.hid (fun hc => cascB_keep (c := c) hc)
  have hTB : tickB c nw = (cascB c && decide (c.1 ≤ nw ∧ nw ≤ 1000000000000)) := rfl
  have HTN := Lib.hid (tickM_no (c := c) (nw := nw))
  have HTY := Lib.hid (tickM_yes (c := c) (nw := nw))
  obtain ⟨nw0, kp, rp, ls⟩ := c
  obtain ⟨rv, lv, rfl, hP, hL, z1, z2⟩ := h
  simp only at hP hL
  obtain ⟨z3, hpl, Ap, cp, rfl, z4⟩ := hP
  obtain ⟨z5, hll, Al, cl, rfl, z6⟩ := hL
  clear z1 z2 z3 z4 z5 z6
  obtain ⟨w1, hw1⟩ : ∃ w1, (w.alloc (.cells #[.int .i64 nw0, .int .i64 kp, .slice Ap rp.length cp, .slice Al ls.length cl] 32)).alloc (.cells #[.int .i64 0, .int .i64 0, .slice none 0 0, .slice none 0 0] 32) = w1 := ⟨_, rfl⟩
  have B1 := Lib.hid (show Below w.heap.size w w1 from by rw [← hw1]; exact ((Below.refl _ w).alloc (Nat.le_refl _) _).alloc (by simp) _)
  have X1 : Hid (BoxN w1 w.heap.size #[.int .i64 nw0, .int .i64 kp, .slice Ap rp.length cp, .slice Al ls.length cl] 32) := Lib.hid (by
    have h := World.alloc_heap_new w (.cells #[.int .i64 nw0, .int .i64 kp, .slice Ap rp.length cp, .slice Al ls.length cl] 32)
    rw [← hw1]
    exact (Below.heap_alloc _ _ _ (by simp)).trans h)
  have R1 : Hid (BoxN w1 (w.heap.size + 1) #[.int .i64 0, .int .i64 0, .slice none 0 0, .slice none 0 0] 32) := Lib.hid (by
    have h := World.alloc_heap_new (w.alloc (.cells #[.int .i64 nw0, .int .i64 kp, .slice Ap rp.length cp, .slice Al ls.length cl] 32)) (.cells #[.int .i64 0, .int .i64 0, .slice none 0 0, .slice none 0 0] 32)
    rw [World.size_alloc] at h
    rw [← hw1]; exact h)
  have S1 : w.heap.size + 2 ≤ w1.heap.size := by rw [← hw1]; simp
  have HW1 := Lib.hid hw1
  clear hw1
  have x0 := X1.out.cell (i := 0) rfl
  have x1 := X1.out.cell (i := 1) rfl
  have x2 := X1.out.cell (i := 2) rfl
  have x3 := X1.out.cell (i := 3) rfl
  go_enter Try.func32, Try.ntmps32
  go_wp2_with fail
  rw [HW1.out]
  go_wp2_with fail
  refine (hOk.out _ ((HV.out.below B1.out).up B1.out.size)).mono ?_
  rintro e w2 ⟨rfl, hb2⟩
  have X2 : Hid (BoxN w2 w.heap.size #[.int .i64 nw0, .int .i64 kp, .slice Ap rp.length cp, .slice Al ls.length cl] 32) := Lib.hid (X1.out.below hb2)
  have R2 : Hid (BoxN w2 (w.heap.size + 1) #[.int .i64 0, .int .i64 0, .slice none 0 0, .slice none 0 0] 32) := Lib.hid (R1.out.below hb2)
  have S2 := hb2.size
  have B2 := Lib.hid (B1.out.trans (hb2.mono (by omega)))
  clear x0 x1 x2 x3 hb2 X1 R1 B1
  have x0 := X2.out.cell (i := 0) rfl
  have x1 := X2.out.cell (i := 1) rfl
  have x2 := X2.out.cell (i := 2) rfl
  have x3 := X2.out.cell (i := 3) rfl
  have r0 := R2.out.cell (i := 0) rfl
  have r1 := R2.out.cell (i := 1) rfl
  have r2 := R2.out.cell (i := 2) rfl
  have r3 := R2.out.cell (i := 3) rfl
  have f0 := R2.out.frozen (i := 0)
  have f1 := R2.out.frozen (i := 1)
  have f2 := R2.out.frozen (i := 2)
  have f3 := R2.out.frozen (i := 3)
  cases hc : cascB (nw0, kp, rp, ls) with
  | false =>
    have HTF := Lib.hid (show tickB (nw0, kp, rp, ls) nw = false from by rw [hTB, hc]; rfl)
    clear hc hTB
    go_wp2_with fail
    rw [HTN.out HTF.out, HTF.out]
    refine bodyPost_ret (v := .tuple #[.agg #[.int .i64 0, .int .i64 0, .slice none 0 0, .slice none 0 0], .bool false]) (by simp [results, Try.results32, go_sem, r0, r1, r2, r3]) rfl ⟨_, _, [], rfl, zC_cd _ _ _, ?_⟩
    repeat (first | with_reducible exact B2.out | refine Below.setCell ?_ (by simp; try omega) _)
  | true =>
  by_cases g : nw0 ≤ nw ∧ nw ≤ 1000000000000
  case neg =>
    have HTF := Lib.hid (show tickB (nw0, kp, rp, ls) nw = false from by rw [hTB, hc, decide_eq_false g]; rfl)
    rw [vIn_false g] at hIn
    clear hc hTB g
    go_wp2_with fail
    refine (hIn.out _).mono ?_
    rintro e w2b ⟨rfl, rfl⟩
    go_wp2_with fail
    rw [HTN.out HTF.out, HTF.out]
    refine bodyPost_ret (v := .tuple #[.agg #[.int .i64 0, .int .i64 0, .slice none 0 0, .slice none 0 0], .bool false]) (by simp [results, Try.results32, go_sem, r0, r1, r2, r3]) rfl ⟨_, _, [], rfl, zC_cd _ _ _, ?_⟩
    repeat (first | with_reducible exact B2.out | refine Below.setCell ?_ (by simp; try omega) _)

  obtain ⟨g1, g2⟩ := g
  have HTT := Lib.hid (show tickB (nw0, kp, rp, ls) nw = true from by rw [hTB, hc, decide_eq_true ⟨g1, g2⟩]; rfl)
  rw [vIn_true g1 g2] at hIn
  have hlv := Lib.hid (hAdv.out hc g1)
  have hfew : ls.length ≤ 4 := hFw.out hc
  obtain ⟨hn0, hk0, _⟩ := hKp.out hc
  have hn0' : 0 ≤ nw0 ∧ nw0 ≤ 1000000000000 := hn0
  have hk0' : 1 ≤ kp ∧ kp ≤ 1000000000 := hk0
  clear hc hTB hAdv hKp hOk hn0 hk0
  go_wp2_with fail
  refine (hIn.out _).mono ?_
  rintro e w2b ⟨rfl, rfl⟩
  go_wp2_with fail
  refine (hCp.out _ ((HV.out.below B2.out).up B2.out.size) (by show ls.length ≤ 1000; omega)).mono ?_
  rintro e w3 ⟨rv3, lv3, es3, rfl, hcd3, hb3⟩
  have S3 := hb3.size
  have R3 : Hid (BoxN w3 (w.heap.size + 1) #[.int .i64 0, .int .i64 0, .slice none 0 0, .slice none 0 0] 32) := Lib.hid (R2.out.below hb3)
  have B3 := Lib.hid (B2.out.trans (hb3.mono (by omega)))
  obtain ⟨pa, pc, rfl⟩ := hcd3.raw.shape
  obtain ⟨A3, c3, rfl⟩ := hcd3.lvl.row.shape
  obtain ⟨w4, hw4⟩ : ∃ w4, w3.alloc (.cells #[.int .i64 nw, .int .i64 kp, .slice pa rp.length pc, .slice A3 ls.length c3] 32) = w4 := ⟨_, rfl⟩
  have hb4 : Below w3.heap.size w3 w4 := by rw [← hw4]; exact (Below.refl _ _).alloc (Nat.le_refl _) _
  have R4 : Hid (BoxN w4 (w.heap.size + 1) #[.int .i64 0, .int .i64 0, .slice none 0 0, .slice none 0 0] 32) := Lib.hid (R3.out.below hb4)
  have S4 := hb4.size
  have B4 := Lib.hid (B3.out.trans (hb4.mono (by omega)))
  have hcv4 : CV w4 w4.heap.size (.agg #[.int .i64 nw, .int .i64 kp, .slice pa rp.length pc, .slice A3 ls.length c3]) (nw, kp, rp, ls) := ((hcd3.setNow (b := nw)).below hb4).cv (hCR.out.setNow ⟨by omega, by omega⟩)
  have HD := Lib.hid (hDr.out _ (nw, kp, rp, ls) w4 hcv4 (by show ls.length ≤ 1000; omega) (by show 0 ≤ nw ∧ nw ≤ 1000000000000; omega) (by show 0 ≤ kp ∧ kp ≤ 1000000000; omega) hlv.out)
  have HW4 := Lib.hid hw4
  clear hw4 hb4 hcd3 hb3 hcv4 hDr hCp hIn x0 x1 x2 x3 r0 r1 r2 r3 f0 f1 f2 f3 R3 B3 R2 B2 X2
  go_wp2_with fail
  rw [HW4.out]
  refine HD.out.mono ?_
  rintro e w5 ⟨rv5, lv5, es5, rfl, hcd, hb5⟩
  have S5 := hb5.size
  have R5 : BoxN w5 (w.heap.size + 1) #[.int .i64 0, .int .i64 0, .slice none 0 0, .slice none 0 0] 32 := R4.out.below hb5
  have B5 := Lib.hid (B4.out.trans (hb5.mono (by omega)))
  obtain ⟨pa5, pc5, rfl⟩ := hcd.raw.shape
  obtain ⟨A5, c5, rfl⟩ := hcd.lvl.row.shape
  obtain ⟨m5, hm5⟩ : ∃ m5, (dropC nw (nw, kp, rp, ls)).2.2.1.length = m5 := ⟨_, rfl⟩
  obtain ⟨l5, hl5⟩ : ∃ l5, (dropC nw (nw, kp, rp, ls)).2.2.2.length = l5 := ⟨_, rfl⟩
  rw [hm5, hl5] at hcd
  rw [hm5, hl5]
  have r0 := R5.cell (i := 0) rfl
  have r1 := R5.cell (i := 1) rfl
  have r2 := R5.cell (i := 2) rfl
  have r3 := R5.cell (i := 3) rfl
  have f0 := R5.frozen (i := 0)
  have f1 := R5.frozen (i := 1)
  have f2 := R5.frozen (i := 2)
  have f3 := R5.frozen (i := 3)
  have HCD := Lib.hid (show CD w5 w4.heap.size w5.heap.size (dropC nw (nw0, kp, rp, ls)) (.slice pa5 m5 pc5) (.slice A5 l5 c5) es5 from hcd)
  have e1 : (dropC nw (nw, kp, rp, ls)).1 = nw := rfl
  have e2 : (dropC nw (nw, kp, rp, ls)).2.1 = kp := rfl
  rw [e1, e2]
  clear hcd hb5 R5 R4 B4 HD HV HW4 e1 e2 hm5 hl5
  go_wp2_with fail
  rw [HTY.out HTT.out, HTT.out]
  refine bodyPost_ret (v := .tuple #[.agg #[.int .i64 nw, .int .i64 kp, .slice pa5 m5 pc5, .slice A5 l5 c5], .bool true]) (by simp [results, Try.results32, go_sem, r0, r1, r2, r3]) rfl ⟨.slice pa5 m5 pc5, .slice A5 l5 c5, es5, rfl, (CD.at_ (W := w5) HCD.out (fun g hg => ?_)).lift (by omega) (by simp [World.setCell]), ?_⟩
  · have hlo := (HCD.out.lt hg).1
    repeat (first | with_reducible rfl | refine (Below.heap_setCell _ _ _ _ (by simp; omega)).trans ?_)
  · repeat (first | with_reducible exact B5.out | refine Below.setCell ?_ (by simp; try omega) _)
end Go.Proofs.Ytkekpkfhljankaa

/- Plain facts on Tick: twice is once, what is left is right, the points left are the last ones. -/
set_option linter.unusedVariables false
set_option linter.unusedSimpArgs false
namespace Go.Proofs.Ytkekpkfhljankaa
open Go.RowKit

theorem pts_lt_cs {xs : List (Int × Int)} (h : ptsOkB xs = true) : ∀ (d i : Nat), i + d + 1 < xs.length → (xs.getD i (0, 0)).1 < (xs.getD (i + d + 1) (0, 0)).1 := by
  intro d
  induction d with
  | zero =>
    intro i hi
    have := (ptsOkB_at h (j := i + 1) (by omega)).2
    rcases this with e | e
    · omega
    · simpa using e
  | succ d ih =>
    intro i hi
    have h1 := ih i (by omega)
    have h2 := (ptsOkB_at h (j := i + (d + 1) + 1) hi).2
    rcases h2 with e | e
    · omega
    · have e2 : i + (d + 1) + 1 - 1 = i + d + 1 := by omega
      rw [e2] at e
      omega
theorem pts_pairwise_cs {xs : List (Int × Int)} (h : ptsOkB xs = true) : xs.Pairwise (fun p q => p.1 < q.1) := by
  rw [List.pairwise_iff_getElem]
  intro i j hi hj hij
  have := pts_lt_cs h (j - i - 1) i (by omega)
  have e : i + (j - i - 1) + 1 = j := by omega
  rw [e, List.getD_eq_getElem?_getD, List.getElem?_eq_getElem hi, List.getD_eq_getElem?_getD, List.getElem?_eq_getElem hj] at this
  exact this
theorem pts_mem_cs {xs : List (Int × Int)} (h : ptsOkB xs = true) : ∀ p ∈ xs, 0 ≤ p.1 ∧ p.1 < 1000000000001 := by
  intro p hp
  obtain ⟨i, hi, rfl⟩ := List.getElem_of_mem hp
  have := (ptsOkB_at h hi).1
  rw [List.getD_eq_getElem?_getD, List.getElem?_eq_getElem hi] at this
  simp only [Option.getD_some] at this
  omega
theorem ptsOkB_of_cs {l : List (Int × Int)} (hl : l.length ≤ 120) (hp : l.Pairwise (fun p q => p.1 < q.1)) (hm : ∀ p ∈ l, 0 ≤ p.1 ∧ p.1 < 1000000000001) : ptsOkB l = true := by
  unfold ptsOkB timesOkB
  rw [Bool.and_eq_true, decide_eq_true_iff, List.length_map]
  refine ⟨hl, ?_⟩
  unfold goodTo
  rw [List.all_eq_true]
  intro j hj
  have hj : j < l.length := by simpa using hj
  unfold goodAt
  rw [tsOf_getD, tsOf_getD]
  have h1 := hm l[j] (List.getElem_mem hj)
  have e1 : l.getD j (0, 0) = l[j] := by rw [List.getD_eq_getElem?_getD, List.getElem?_eq_getElem hj]; rfl
  rw [e1]
  simp only [Bool.and_eq_true, Bool.or_eq_true, decide_eq_true_eq]
  refine ⟨by omega, ?_⟩
  rcases Nat.eq_zero_or_pos j with e | e
  · exact .inl e
  · right
    have e2 : l.getD (j - 1) (0, 0) = l[j - 1] := by rw [List.getD_eq_getElem?_getD, List.getElem?_eq_getElem (by omega)]; rfl
    rw [e2]
    exact List.pairwise_iff_getElem.1 hp (j - 1) j (by omega) hj (by omega)
theorem ptsSmB_sub_cs {l l' : List (Int × Int)} (h : ptsSmB l = true) (hs : l'.Sublist l) : ptsSmB l' = true := by
  unfold ptsSmB at h ⊢
  rw [Bool.and_eq_true] at h ⊢
  have hk := h.2
  have hlen := ptsOkB_len hk
  have hll := hs.length_le
  refine ⟨?_, ptsOkB_of_cs (by omega) ((pts_pairwise_cs hk).sublist hs) (fun p hp => pts_mem_cs hk p (hs.subset hp))⟩
  rw [List.all_eq_true] at h ⊢
  exact fun p hp => h.1 p (hs.subset hp)

theorem rol_lt_cs {xs : List R6} {W : Int} (h : ∀ j, j < xs.length → gdR xs W j = true) : ∀ (d i : Nat), i + d + 1 < xs.length → (xs.getD i z6).1 < (xs.getD (i + d + 1) z6).1 := by
  have st : ∀ j, j + 1 < xs.length → (xs.getD j z6).1 < (xs.getD (j + 1) z6).1 := by
    intro j hj
    have h1 := h (j + 1) hj
    unfold gdR at h1
    rw [Bool.and_eq_true, Bool.or_eq_true, decide_eq_true_iff, decide_eq_true_iff] at h1
    rcases h1.2 with e | e
    · omega
    · simpa using e
  intro d
  induction d with
  | zero => intro i hi; exact st i (by omega)
  | succ d ih =>
    intro i hi
    have h1 := ih i (by omega)
    have h2 := st (i + d + 1) (by omega)
    have e : i + (d + 1) + 1 = i + d + 1 + 1 := by omega
    rw [e]; omega
theorem rol_pairwise_cs {xs : List R6} {W : Int} (h : ∀ j, j < xs.length → gdR xs W j = true) : xs.Pairwise (fun p q => p.1 < q.1) := by
  rw [List.pairwise_iff_getElem]
  intro i j hi hj hij
  have := rol_lt_cs h (j - i - 1) i (by omega)
  have e : i + (j - i - 1) + 1 = j := by omega
  rw [e, List.getD_eq_getElem?_getD, List.getElem?_eq_getElem hi, List.getD_eq_getElem?_getD, List.getElem?_eq_getElem hj] at this
  exact this
theorem rollsOkB_sub_cs {l l' : List R6} {W : Int} (h : rollsOkB l W = true) (hs : l'.Sublist l) : rollsOkB l' W = true := by
  have hj := (rollsOkB_in h).2.2
  have hp := (rol_pairwise_cs hj).sublist hs
  have hm : ∀ r ∈ l, okRB W r = true := by
    intro r hr
    obtain ⟨i, hi, rfl⟩ := List.getElem_of_mem hr
    have h1 := hj i hi
    unfold gdR at h1
    rw [Bool.and_eq_true] at h1
    rw [show l.getD i z6 = l[i] from by simp [List.getD_eq_getElem?_getD, hi]] at h1
    exact h1.1
  have hll := hs.length_le
  unfold rollsOkB at h ⊢
  rw [Bool.and_eq_true, Bool.and_eq_true, decide_eq_true_iff] at h ⊢
  refine ⟨⟨h.1.1, by omega⟩, ?_⟩
  unfold gdToR
  rw [List.all_eq_true]
  intro j hj'
  have hj' : j < l'.length := by simpa using hj'
  have e1 : l'.getD j z6 = l'[j] := by rw [List.getD_eq_getElem?_getD, List.getElem?_eq_getElem hj']; rfl
  unfold gdR
  rw [e1, Bool.and_eq_true, Bool.or_eq_true, decide_eq_true_iff, decide_eq_true_iff]
  refine ⟨hm _ (hs.subset (List.getElem_mem hj')), ?_⟩
  rcases Nat.eq_zero_or_pos j with e | e
  · exact .inl e
  · right
    have e2 : l'.getD (j - 1) z6 = l'[j - 1] := by rw [List.getD_eq_getElem?_getD, List.getElem?_eq_getElem (by omega)]; rfl
    rw [e2]
    exact List.pairwise_iff_getElem.1 hp (j - 1) j (by omega) hj' (by omega)
theorem filter_suffix_cs {α : Type} (p : α → Bool) : ∀ (l : List α), l.Pairwise (fun a b => p a = true → p b = true) → l.filter p = l.drop (l.length - (l.filter p).length)
  | [], _ => rfl
  | x :: l, h => by
    have h1 := (List.pairwise_cons.1 h).1
    cases hx : p x with
    | true =>
      rw [List.filter_eq_self.2 (fun a ha => by
        rcases List.mem_cons.1 ha with rfl | ha
        · exact hx
        · exact h1 a ha hx)]
      simp
    | false =>
      rw [List.filter_cons_of_neg (by rw [hx]; simp)]
      have hl := List.length_filter_le p l
      rw [show (x :: l).length - (l.filter p).length = (l.length - (l.filter p).length) + 1 from by simp; omega, List.drop_succ_cons]
      exact filter_suffix_cs p l (List.pairwise_cons.1 h).2
theorem dropP_cs {nw nw' kp : Int} (h : nw ≤ nw') (rp : List (Int × Int)) : dropP nw' kp (dropP nw kp rp) = dropP nw' kp rp := by
  unfold dropP
  rw [List.filter_filter]
  refine List.filter_congr (fun p _ => ?_)
  by_cases g : nw' - kp < p.1
  · rw [decide_eq_true g, decide_eq_true (by omega)]; rfl
  · rw [decide_eq_false g]; rfl
theorem dropL_cs {nw nw' : Int} {x : Lv} (h : nw ≤ nw') (hx : ∀ r ∈ x.2.2, r.1 ≤ nw) : dropL nw' (dropL nw x) = dropL nw' x := by
  show (x.1, x.2.1, (x.2.2.filter (rolAt nw x)).filter (rolAt nw' (dropL nw x))) = (x.1, x.2.1, x.2.2.filter (rolAt nw' x))
  rw [List.filter_filter]
  congr 2
  refine List.filter_congr (fun r hr => ?_)
  have h1 := hx r hr
  show (rolAt nw' x r && rolAt nw x r) = rolAt nw' x r
  unfold rolAt
  rw [decide_eq_true h1, decide_eq_true (show r.1 ≤ nw' by omega)]
  by_cases g : nw' - x.2.1 < r.1 + x.1
  · rw [decide_eq_true g, decide_eq_true (by omega)]; rfl
  · rw [decide_eq_false g]; rfl
theorem casc_le_cs {c : Cs} (h : cascB c = true) : ∀ x ∈ c.2.2.2, ∀ r ∈ x.2.2, r.1 ≤ c.1 := by
  intro x hx r hr
  unfold cascB at h
  rw [Bool.and_eq_true, Bool.and_eq_true] at h
  obtain ⟨j, hj, rfl⟩ := List.getElem_of_mem hx
  have hl := lvsB_at h.2.2 j hj
  rw [show c.2.2.2.getD j zLv = c.2.2.2[j] from by simp [List.getD_eq_getElem?_getD, hj]] at hl
  generalize (if j = 0 then (1 : Int) else (c.2.2.2.getD (j - 1) zLv).1) = w0 at hl
  generalize (if j = 0 then c.2.1 else (c.2.2.2.getD (j - 1) zLv).2.1) = k0 at hl
  unfold lvB at hl
  rw [Bool.and_eq_true, Bool.and_eq_true] at hl
  have h4 := List.all_eq_true.1 hl.2.2 r hr
  unfold rolAt at h4
  rw [Bool.and_eq_true, decide_eq_true_iff] at h4
  exact h4.1
theorem dropC_cs {c : Cs} {nw nw' : Int} (h : cascB c = true) (h0 : c.1 ≤ nw) (h1 : nw ≤ nw') : dropC nw' (dropC nw c) = dropC nw' c := by
  show (nw', c.2.1, dropP nw' c.2.1 (dropP nw c.2.1 c.2.2.1), (c.2.2.2.map (dropL nw)).map (dropL nw')) = (nw', c.2.1, dropP nw' c.2.1 c.2.2.1, c.2.2.2.map (dropL nw'))
  rw [dropP_cs h1, List.map_map]
  congr 3
  refine List.map_congr_left (fun x hx => ?_)
  exact dropL_cs h1 (fun r hr => by have := casc_le_cs h x hx r hr; omega)
theorem lvsB_drop_cs {now nw : Int} : ∀ (ls : List Lv) (w k : Int), lvsB now w k ls = true → lvsB nw w k (ls.map (dropL nw)) = true
  | [], _, _, _ => rfl
  | x :: ls, w, k, h => by
    have h1 : (lvB now w k x && lvsB now x.1 x.2.1 ls) = true := h
    rw [Bool.and_eq_true] at h1
    have h2 := lvsB_drop_cs (nw := nw) ls x.1 x.2.1 h1.2
    show (lvB nw w k (dropL nw x) && lvsB nw x.1 x.2.1 (ls.map (dropL nw))) = true
    rw [h2, Bool.and_true]
    have h3 := h1.1
    unfold lvB at h3
    rw [Bool.and_eq_true, Bool.and_eq_true] at h3
    show (shpB w k x && (rollsOkB (x.2.2.filter (rolAt nw x)) x.1 && (x.2.2.filter (rolAt nw x)).all (rolAt nw x))) = true
    rw [h3.1, rollsOkB_sub_cs h3.2.1 List.filter_sublist, Bool.true_and, Bool.true_and, List.all_eq_true]
    exact fun r hr => (List.mem_filter.1 hr).2
theorem cascB_drop_cs {c : Cs} {nw : Int} (h : cascB c = true) (h0 : c.1 ≤ nw) (h1 : nw ≤ 1000000000000) : cascB (dropC nw c) = true := by
  unfold cascB at h
  rw [Bool.and_eq_true, Bool.and_eq_true] at h
  obtain ⟨hh, hr, hl⟩ := h
  obtain ⟨b1, b2, b3, b4⟩ := headB_in hh
  have e1 : headB (dropC nw c) = true := by
    show (vIn nw 0 1000000000000 && (vIn c.2.1 1 1000000000 && (ptsSmB (dropP nw c.2.1 c.2.2.1) && decide ((c.2.2.2.map (dropL nw)).length ≤ 4)))) = true
    rw [ptsSmB_sub_cs b3 (show (dropP nw c.2.1 c.2.2.1).Sublist _ from List.filter_sublist), List.length_map, decide_eq_true b4, show vIn nw 0 1000000000000 = true from by unfold vIn; exact decide_eq_true ⟨by omega, h1⟩, show vIn c.2.1 1 1000000000 = true from by unfold vIn; exact decide_eq_true b2]
    rfl
  have e2 : (dropP nw c.2.1 c.2.2.1).all (rawAt nw c.2.1) = true := by
    rw [List.all_eq_true]
    intro p hp
    have h2 := List.mem_filter.1 hp
    have h3 := List.all_eq_true.1 hr p h2.1
    unfold rawAt at h3 ⊢
    rw [Bool.and_eq_true, decide_eq_true_iff] at h3 ⊢
    exact ⟨by omega, h2.2⟩
  show (headB (dropC nw c) && ((dropP nw c.2.1 c.2.2.1).all (rawAt nw c.2.1) && lvsB nw 1 c.2.1 (c.2.2.2.map (dropL nw)))) = true
  rw [e1, e2, lvsB_drop_cs _ _ _ hl]; rfl
theorem dropP_suffix_cs {c : Cs} {nw : Int} (h : cascB c = true) : (dropC nw c).2.2.1 = c.2.2.1.drop (c.2.2.1.length - (dropC nw c).2.2.1.length) := by
  unfold cascB at h
  rw [Bool.and_eq_true] at h
  obtain ⟨_, _, b3, _⟩ := headB_in h.1
  refine filter_suffix_cs _ _ ((pts_pairwise_cs (ptsSmB_pts b3)).imp (fun {a b} hab ha => ?_))
  rw [decide_eq_true_iff] at ha ⊢
  omega
/-- what FnTick asks of the model -/
theorem tick_facts {c : Cs} {nw hf : Int} (h : tickB c nw = true) (h0 : c.1 ≤ hf) (h1 : hf ≤ nw) : tickB c hf = true ∧ tickB (tickM c hf) nw = true ∧ tickM (tickM c hf) nw = tickM c nw ∧ cascB (tickM c nw) = true ∧ (tickM c nw).2.2.1.length ≤ c.2.2.1.length ∧ (tickM c nw).2.2.1 = c.2.2.1.drop (c.2.2.1.length - (tickM c nw).2.2.1.length) := by
  have hh := h
  unfold tickB at hh
  rw [Bool.and_eq_true, decide_eq_true_iff] at hh
  obtain ⟨hc, hb⟩ := hh
  have e1 : tickB c hf = true := by unfold tickB; rw [hc, decide_eq_true (by omega)]; rfl
  have hc2 := cascB_drop_cs hc h0 (by omega : hf ≤ 1000000000000)
  rw [tickM_yes e1, tickM_yes h]
  have e2 : tickB (dropC hf c) nw = true := by unfold tickB; rw [hc2, decide_eq_true (show (dropC hf c).1 ≤ nw ∧ nw ≤ 1000000000000 from ⟨h1, hb.2⟩)]; rfl
  rw [tickM_yes e2]
  exact ⟨e1, e2, dropC_cs hc h0 h1, cascB_drop_cs hc hb.1 hb.2, List.length_filter_le _ _, dropP_suffix_cs hc⟩
theorem tick_in {c : Cs} {nw : Int} (h : tickB c nw = true) : 0 ≤ c.1 ∧ c.1 ≤ nw ∧ nw ≤ 1000000000000 := by
  unfold tickB at h
  rw [Bool.and_eq_true, decide_eq_true_iff] at h
  have := (cascB_keep h.1).1
  omega
end Go.Proofs.Ytkekpkfhljankaa
