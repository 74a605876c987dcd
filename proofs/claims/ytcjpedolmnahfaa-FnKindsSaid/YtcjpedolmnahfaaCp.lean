/- Walks: a drawn cascade, out of the code. -/
import Derived.Test.YtcjpedolmnahfaaCk
import Derived.Test.YtcjpedolmnahfaaUb
set_option linter.unusedVariables false
set_option linter.unusedSimpArgs false
namespace Go.Proofs.Ytcjpedolmnahfaa
open Go.RowKit

/-- what the reader leaves is behind what was there -/
theorem drw_below {w W W' : World} {g : Nat} (hb : Below w.heap.size w W) (hg : w.heap.size ≤ g) (h : W.grownBy W' (some g)) : Below w.heap.size w W' := hb.grown h hb.size (fun k hk => by injection hk with hk; omega)
def DCPost (w : World) (e : Ending) (w' : World) : Prop :=
  ∃ rv lv es c, e = .returned (.agg #[.int .i64 c.1, .int .i64 c.2.1, rv, lv]) ∧ CD w' w.heap.size w'.heap.size c rv lv es ∧ CR c ∧ Below w.heap.size w w'

set_option maxRecDepth 100000 in
set_option maxHeartbeats 4000000 in
theorem DrawCascadeOk_any (A : Option Addr) (n c : Nat) (w : World) (h : CodeAt w A n c) :
    Calls Try.prog 18 #[.slice A n c] w (DCPost w) := by
  obtain ⟨w0, hw0⟩ : ∃ w0, w.alloc (.cells #[.int .i64 0, .int .i64 0, .slice none 0 0, .slice none 0 0] 30) = w0 := ⟨_, rfl⟩
  have B0 := Lib.hid (show Below w.heap.size w w0 from by rw [← hw0]; exact (Below.refl _ _).alloc (Nat.le_refl _) _)
  have R0 : Hid (BoxN w0 w.heap.size #[.int .i64 0, .int .i64 0, .slice none 0 0, .slice none 0 0] 30) := Lib.hid (by rw [← hw0]; exact World.alloc_heap_new w _)
  have H := Lib.hid (h.below B0.out)
  have HW0 := Lib.hid hw0
  clear h hw0
  go_enter Try.func18, Try.ntmps18
  go_wp2_with fail
  rw [HW0.out]
  refine (open_any A n c _ H.out).mono ?_
  rintro e w1 ⟨rfl, hrd, hb1⟩
  have Hrd := Lib.hid hrd
  have S0 := R0.out.lt
  have B1 := Lib.hid (B0.out.trans (hb1.mono (by omega)))
  have R1 : Hid (BoxN w1 w.heap.size #[.int .i64 0, .int .i64 0, .slice none 0 0, .slice none 0 0] 30) := Lib.hid (R0.out.below hb1)
  clear hrd hb1 H
  go_wp2_with fail
  refine (cascade_any _ _ _ Hrd.out).mono ?_
  rintro e w2 ⟨rv, lv, es, cs, rfl, hd, hcr, hdw⟩
  obtain ⟨nn, hnn⟩ : ∃ nn, cs.2.2.1.length = nn := ⟨_, rfl⟩
  obtain ⟨mm, hmm⟩ : ∃ mm, cs.2.2.2.length = mm := ⟨_, rfl⟩
  obtain ⟨ra, rc, rfl⟩ : ∃ a c', rv = .slice a nn c' := by rw [← hnn]; exact hd.raw.shape
  obtain ⟨la, lc, rfl⟩ : ∃ a c', lv = .slice a mm c' := by rw [← hmm]; exact hd.lvl.row.shape
  have B2 := Lib.hid (drw_below B1.out (by omega) hdw.2)
  have R2 : BoxN w2 w.heap.size #[.int .i64 0, .int .i64 0, .slice none 0 0, .slice none 0 0] 30 := R1.out.kept hdw.2 (by intro e; injection e with e; omega)
  have D2 := Lib.hid hd
  have CR2 := Lib.hid hcr
  have S1 := R1.out.lt
  have r0 := R2.cell (i := 0) rfl
  have r1 := R2.cell (i := 1) rfl
  have r2 := R2.cell (i := 2) rfl
  have r3 := R2.cell (i := 3) rfl
  have f0 := R2.frozen (i := 0)
  have f1 := R2.frozen (i := 1)
  have f2 := R2.frozen (i := 2)
  have f3 := R2.frozen (i := 3)
  clear hnn hmm hd hcr hdw R2
  go_wp2_with fail
  refine bodyPost_ret (v := .agg #[.int .i64 cs.1, .int .i64 cs.2.1, .slice ra nn rc, .slice la mm lc]) (by simp [results, Try.results18, go_sem, r0, r1, r2, r3]) rfl ⟨.slice ra nn rc, .slice la mm lc, es, cs, rfl, (CD.set4n D2.out (.inl (by omega)) _ _ _ _).lift (by omega) (by simp [World.setCell]), CR2.out, KSP.set4 B2.out (Nat.le_refl _) _ _ _ _⟩
end Go.Proofs.Ytcjpedolmnahfaa

/- Walks: drawn cascades and a number. -/
set_option linter.unusedVariables false
set_option linter.unusedSimpArgs false
namespace Go.Proofs.Ytcjpedolmnahfaa
open Go.RowKit

def DNPost (w : World) (e : Ending) (w' : World) : Prop :=
  ∃ rv lv es c q, e = .returned (.tuple #[.agg #[.int .i64 c.1, .int .i64 c.2.1, rv, lv], .int .i64 q]) ∧ CD w' w.heap.size w'.heap.size c rv lv es ∧ CR c ∧ Rng q ∧ Below w.heap.size w w'
set_option maxRecDepth 100000 in
set_option maxHeartbeats 4000000 in
theorem DrawPick_any (A : Option Addr) (n c : Nat) (w : World) (h : CodeAt w A n c) :
    Calls Try.prog 35 #[.slice A n c] w (DNPost w) := by
  obtain ⟨w0, hw0⟩ : ∃ w0, w.alloc (.cells #[.int .i64 0, .int .i64 0, .slice none 0 0, .slice none 0 0] 30) = w0 := ⟨_, rfl⟩
  have B0 := Lib.hid (show Below w.heap.size w w0 from by rw [← hw0]; exact (Below.refl _ _).alloc (Nat.le_refl _) _)
  have R0 : Hid (BoxN w0 w.heap.size #[.int .i64 0, .int .i64 0, .slice none 0 0, .slice none 0 0] 30) := Lib.hid (by rw [← hw0]; exact World.alloc_heap_new w _)
  have H := Lib.hid (h.below B0.out)
  have HW0 := Lib.hid hw0
  clear h hw0
  go_enter Try.func35, Try.ntmps35
  go_wp2_with fail
  rw [HW0.out]
  refine (open_any A n c _ H.out).mono ?_
  rintro e w1 ⟨rfl, hrd, hb1⟩
  have Hrd := Lib.hid hrd
  have S0 := R0.out.lt
  obtain ⟨g, hg⟩ : ∃ g, w0.heap.size = g := ⟨_, rfl⟩
  have B1 := Lib.hid (B0.out.trans (hb1.mono (by omega)))
  have R1 : Hid (BoxN w1 w.heap.size #[.int .i64 0, .int .i64 0, .slice none 0 0, .slice none 0 0] 30) := Lib.hid (R0.out.below hb1)
  have S1 := R1.out.lt
  rw [hg] at Hrd ⊢
  have hgw : w.heap.size < g := by omega
  clear hrd hb1 H hg
  go_wp2_with fail
  refine (cascade_any _ _ _ Hrd.out).mono ?_
  rintro e w2 ⟨rv, lv, es, cs, rfl, hd, hcr, hdw⟩
  obtain ⟨nn, hnn⟩ : ∃ nn, cs.2.2.1.length = nn := ⟨_, rfl⟩
  obtain ⟨mm, hmm⟩ : ∃ mm, cs.2.2.2.length = mm := ⟨_, rfl⟩
  obtain ⟨ra, rc, rfl⟩ : ∃ a c', rv = .slice a nn c' := by rw [← hnn]; exact hd.raw.shape
  obtain ⟨la, lc, rfl⟩ : ∃ a c', lv = .slice a mm c' := by rw [← hmm]; exact hd.lvl.row.shape
  obtain ⟨w3, hw3⟩ : ∃ w3, w2.alloc (.cells #[.int .i64 cs.1, .int .i64 cs.2.1, .slice ra nn rc, .slice la mm lc] 30) = w3 := ⟨_, rfl⟩
  obtain ⟨ob, hob⟩ : ∃ ob, w2.heap.size = ob := ⟨_, rfl⟩
  have hb3 : Below w2.heap.size w2 w3 := by rw [← hw3]; exact (Below.refl _ _).alloc (Nat.le_refl _) _
  have X3 : Hid (BoxN w3 ob #[.int .i64 cs.1, .int .i64 cs.2.1, .slice ra nn rc, .slice la mm lc] 30) := Lib.hid (by rw [← hob, ← hw3]; exact World.alloc_heap_new w2 _)
  have R3 : Hid (BoxN w3 w.heap.size #[.int .i64 0, .int .i64 0, .slice none 0 0, .slice none 0 0] 30) := Lib.hid ((R1.out.kept hdw.2 (by intro e; injection e with e; omega)).below hb3)
  have G3 := Lib.hid (show Rd w3 g g from hdw.1.below hb3)
  have D3 := Lib.hid (hd.below hb3)
  have B3 := Lib.hid ((drw_below B1.out (by omega) hdw.2).trans (hb3.mono (by have := hdw.2.size; omega)))
  have CR3 := Lib.hid hcr
  have S2 := hdw.2.size
  have S3 := hb3.size
  have hobw : w.heap.size < ob := by omega
  have hg1 := Hrd.out.lt
  have hog : ¬ ob = g := by omega
  have HW3 := Lib.hid hw3
  have HOB := Lib.hid hob
  clear hnn hmm hd hcr hdw hw3 hob hb3 R1 B1 Hrd
  go_upto_region 3 with fail
  rw [HW3.out, HOB.out]
  clear HW3
  have hrng := CR3.out.now
  have HRD := Lib.hid (show Rd w3.drew g g from G3.out.drew)
  obtain ⟨now, hnow⟩ : ∃ now, cs.1 = now := ⟨_, rfl⟩
  have HN := Lib.hid hnow
  have x0 := X3.out.cell (i := 0) rfl
  have x1 := X3.out.cell (i := 1) rfl
  have x2 := X3.out.cell (i := 2) rfl
  have x3 := X3.out.cell (i := 3) rfl
  have hgl := G3.out.lt
  clear hnow
  have HRG := Lib.hid hrng
  clear hrng
  clear HRG
  go_region_law (first
    | (go_simp; go_at_call 51; refine (off_any g g 0 300 _ HRD.out (by omega) (by omega) (by omega) (by omega)).mono ?_; rintro e w4 ⟨_, rfl, ⟨q, rfl, hq0, hq1⟩, hrd4, hgr4⟩; have gr4 : w3.grownBy w4 (some g) := grown_trans' (grew_drewN w3 1 _) hgr4; have X4 : Hid (BoxN w4 ob #[.int .i64 cs.1, .int .i64 cs.2.1, .slice ra nn rc, .slice la mm lc] 30) := Lib.hid (X3.out.kept gr4 (by intro e; injection e with e; omega)); have R4 : Hid (BoxN w4 w.heap.size #[.int .i64 0, .int .i64 0, .slice none 0 0, .slice none 0 0] 30) := Lib.hid (R3.out.kept gr4 (by intro e; injection e with e; omega)); have D4 := Lib.hid (D3.out.at_ (W' := w4) (fun k hk => gr4.block k (D3.out.lt hk).2.2 (fun e => by injection e with e; have := (D3.out.lt hk).1; omega))); have B4 := Lib.hid (drw_below B3.out (by omega) gr4); have S4 := gr4.size; have z0 := X4.out.cell (i := 0) rfl; have z1 := X4.out.cell (i := 1) rfl; have z2 := X4.out.cell (i := 2) rfl; have z3 := X4.out.cell (i := 3) rfl; have r0 := R4.out.cell (i := 0) rfl; have r1 := R4.out.cell (i := 1) rfl; have r2 := R4.out.cell (i := 2) rfl; have r3 := R4.out.cell (i := 3) rfl; have f0 := R4.out.frozen (i := 0); have f1 := R4.out.frozen (i := 1); have f2 := R4.out.frozen (i := 2); have f3 := R4.out.frozen (i := 3); clear hgr4 hrd4 gr4))
  all_goals
    go_simp
    go_wp2_with fail
    refine bodyPost_ret (v := .tuple #[.agg #[.int .i64 cs.1, .int .i64 cs.2.1, .slice ra nn rc, .slice la mm lc], .int .i64 q]) (by simp [results, Try.results35, go_sem, r0, r1, r2, r3]) rfl ⟨.slice ra nn rc, .slice la mm lc, es, cs, q, rfl, (CD.set4n D4.out (.inl (by omega)) _ _ _ _).lift (by omega) (by simp [World.setCell]; omega), CR3.out, ⟨hq0, hq1⟩, KSP.set4 B4.out (Nat.le_refl _) _ _ _ _⟩
end Go.Proofs.Ytcjpedolmnahfaa
