/- Walks: a drawn cascade, out of the code. -/
import Derived.Test.YtkekpkfhljankaaCk
import Derived.Test.YtkekpkfhljankaaUb
import Derived.Test.YtkekpkfhljankaaPk
set_option linter.unusedVariables false
set_option linter.unusedSimpArgs false
namespace Go.Proofs.Ytkekpkfhljankaa
open Go.RowKit

/-- what the reader leaves is behind what was there -/
theorem drw_below {w W W' : World} {g : Nat} (hb : Below w.heap.size w W) (hg : w.heap.size ≤ g) (h : W.grownBy W' (some g)) : Below w.heap.size w W' := hb.grown h hb.size (fun k hk => by injection hk with hk; omega)
def DCPost (w : World) (e : Ending) (w' : World) : Prop :=
  ∃ rv lv es c, e = .returned (.agg #[.int .i64 c.1, .int .i64 c.2.1, rv, lv]) ∧ CD w' w.heap.size w'.heap.size c rv lv es ∧ CR c ∧ Below w.heap.size w w'

set_option maxRecDepth 100000 in
set_option maxHeartbeats 4000000 in
theorem DrawCascadeOk_any (A : Option Addr) (n c : Nat) (w : World) (h : CodeAt w A n c) :
    Calls Try.prog 36 #[.slice A n c] w (DCPost w) := by
  obtain ⟨w0, hw0⟩ : ∃ w0, w.alloc (.cells #[.int .i64 0, .int .i64 0, .slice none 0 0, .slice none 0 0] 32) = w0 := ⟨_, rfl⟩
  have B0 := Lib.hid (show Below w.heap.size w w0 from by rw [← hw0]; exact (Below.refl _ _).alloc (Nat.le_refl _) _)
  have R0 : Hid (BoxN w0 w.heap.size #[.int .i64 0, .int .i64 0, .slice none 0 0, .slice none 0 0] 32) := Lib.hid (by rw [← hw0]; exact World.alloc_heap_new w _)
  have H := Lib.hid (h.below B0.out)
  have HW0 := Lib.hid hw0
  clear h hw0
  go_enter Try.func36, Try.ntmps36
  go_wp2_with fail
  rw [HW0.out]
  refine (open_any A n c _ H.out).mono ?_
  rintro e w1 ⟨rfl, hrd, hb1⟩
  have Hrd := Lib.hid hrd
  have S0 := R0.out.lt
  have B1 := Lib.hid (B0.out.trans (hb1.mono (by omega)))
  have R1 : Hid (BoxN w1 w.heap.size #[.int .i64 0, .int .i64 0, .slice none 0 0, .slice none 0 0] 32) := Lib.hid (R0.out.below hb1)
  clear hrd hb1 H
  go_wp2_with fail
  refine (cascade_any _ _ _ Hrd.out).mono ?_
  rintro e w2 ⟨rv, lv, es, cs, rfl, hd, hcr, hdw⟩
  obtain ⟨nn, hnn⟩ : ∃ nn, cs.2.2.1.length = nn := ⟨_, rfl⟩
  obtain ⟨mm, hmm⟩ : ∃ mm, cs.2.2.2.length = mm := ⟨_, rfl⟩
  obtain ⟨ra, rc, rfl⟩ : ∃ a c', rv = .slice a nn c' := by rw [← hnn]; exact hd.raw.shape
  obtain ⟨la, lc, rfl⟩ : ∃ a c', lv = .slice a mm c' := by rw [← hmm]; exact hd.lvl.row.shape
  have B2 := Lib.hid (drw_below B1.out (by omega) hdw.2)
  have R2 : BoxN w2 w.heap.size #[.int .i64 0, .int .i64 0, .slice none 0 0, .slice none 0 0] 32 := R1.out.kept hdw.2 (by intro e; injection e with e; omega)
  have D2 := Lib.hid hd
  have CR2 := Lib.hid hcr
  have S1 := R1.out.lt
  have r0 := R2.cell (i := 0) rfl
  have r1 := R2.cell (i := 1) rfl
  have r2 := R2.cell (i := 2) rfl
  have r3 := R2.cell (i := 3) rfl
  have f0 := R2.frozen (i := 0)
  have f1 := R2.frozen (i := 1)
  have f2 := R2.frozen (i := 2)
  have f3 := R2.frozen (i := 3)
  clear hnn hmm hd hcr hdw R2
  go_wp2_with fail
  refine bodyPost_ret (v := .agg #[.int .i64 cs.1, .int .i64 cs.2.1, .slice ra nn rc, .slice la mm lc]) (by simp [results, Try.results36, go_sem, r0, r1, r2, r3]) rfl ⟨.slice ra nn rc, .slice la mm lc, es, cs, rfl, (CD.set4n D2.out (.inl (by omega)) _ _ _ _).lift (by omega) (by simp [World.setCell]), CR2.out, KSP.set4 B2.out (Nat.le_refl _) _ _ _ _⟩
end Go.Proofs.Ytkekpkfhljankaa

/- Walks: drawn cascades and a number. -/
set_option linter.unusedVariables false
set_option linter.unusedSimpArgs false
namespace Go.Proofs.Ytkekpkfhljankaa
open Go.RowKit

def DNPost (w : World) (e : Ending) (w' : World) : Prop :=
  ∃ rv lv es c q, e = .returned (.tuple #[.agg #[.int .i64 c.1, .int .i64 c.2.1, rv, lv], .int .i64 q]) ∧ CD w' w.heap.size w'.heap.size c rv lv es ∧ CR c ∧ Rng q ∧ Below w.heap.size w w'
set_option maxRecDepth 100000 in
set_option maxHeartbeats 4000000 in
theorem DrawPick_any (A : Option Addr) (n c : Nat) (w : World) (h : CodeAt w A n c) :
    Calls Try.prog 39 #[.slice A n c] w (DNPost w) := by
  obtain ⟨w0, hw0⟩ : ∃ w0, w.alloc (.cells #[.int .i64 0, .int .i64 0, .slice none 0 0, .slice none 0 0] 32) = w0 := ⟨_, rfl⟩
  have B0 := Lib.hid (show Below w.heap.size w w0 from by rw [← hw0]; exact (Below.refl _ _).alloc (Nat.le_refl _) _)
  have R0 : Hid (BoxN w0 w.heap.size #[.int .i64 0, .int .i64 0, .slice none 0 0, .slice none 0 0] 32) := Lib.hid (by rw [← hw0]; exact World.alloc_heap_new w _)
  have H := Lib.hid (h.below B0.out)
  have HW0 := Lib.hid hw0
  clear h hw0
  go_enter Try.func39, Try.ntmps39
  go_wp2_with fail
  rw [HW0.out]
  refine (open_any A n c _ H.out).mono ?_
  rintro e w1 ⟨rfl, hrd, hb1⟩
  have Hrd := Lib.hid hrd
  have S0 := R0.out.lt
  obtain ⟨g, hg⟩ : ∃ g, w0.heap.size = g := ⟨_, rfl⟩
  have B1 := Lib.hid (B0.out.trans (hb1.mono (by omega)))
  have R1 : Hid (BoxN w1 w.heap.size #[.int .i64 0, .int .i64 0, .slice none 0 0, .slice none 0 0] 32) := Lib.hid (R0.out.below hb1)
  have S1 := R1.out.lt
  rw [hg] at Hrd ⊢
  have hgw : w.heap.size < g := by omega
  clear hrd hb1 H hg
  go_wp2_with fail
  refine (cascade_any _ _ _ Hrd.out).mono ?_
  rintro e w2 ⟨rv, lv, es, cs, rfl, hd, hcr, hdw⟩
  obtain ⟨nn, hnn⟩ : ∃ nn, cs.2.2.1.length = nn := ⟨_, rfl⟩
  obtain ⟨mm, hmm⟩ : ∃ mm, cs.2.2.2.length = mm := ⟨_, rfl⟩
  obtain ⟨ra, rc, rfl⟩ : ∃ a c', rv = .slice a nn c' := by rw [← hnn]; exact hd.raw.shape
  obtain ⟨la, lc, rfl⟩ : ∃ a c', lv = .slice a mm c' := by rw [← hmm]; exact hd.lvl.row.shape
  obtain ⟨w3, hw3⟩ : ∃ w3, w2.alloc (.cells #[.int .i64 cs.1, .int .i64 cs.2.1, .slice ra nn rc, .slice la mm lc] 32) = w3 := ⟨_, rfl⟩
  obtain ⟨ob, hob⟩ : ∃ ob, w2.heap.size = ob := ⟨_, rfl⟩
  have hb3 : Below w2.heap.size w2 w3 := by rw [← hw3]; exact (Below.refl _ _).alloc (Nat.le_refl _) _
  have X3 : Hid (BoxN w3 ob #[.int .i64 cs.1, .int .i64 cs.2.1, .slice ra nn rc, .slice la mm lc] 32) := Lib.hid (by rw [← hob, ← hw3]; exact World.alloc_heap_new w2 _)
  have R3 : Hid (BoxN w3 w.heap.size #[.int .i64 0, .int .i64 0, .slice none 0 0, .slice none 0 0] 32) := Lib.hid ((R1.out.kept hdw.2 (by intro e; injection e with e; omega)).below hb3)
  have G3 := Lib.hid (show Rd w3 g g from hdw.1.below hb3)
  have D3 := Lib.hid (hd.below hb3)
  have B3 := Lib.hid ((drw_below B1.out (by omega) hdw.2).trans (hb3.mono (by have := hdw.2.size; omega)))
  have CR3 := Lib.hid hcr
  have S2 := hdw.2.size
  have S3 := hb3.size
  have hobw : w.heap.size < ob := by omega
  have hg1 := Hrd.out.lt
  have hog : ¬ ob = g := by omega
  have HW3 := Lib.hid hw3
  have HOB := Lib.hid hob
  clear hnn hmm hd hcr hdw hw3 hob hb3 R1 B1 Hrd
  go_upto_region 3 with fail
  rw [HW3.out, HOB.out]
  clear HW3
  have hrng := CR3.out.now
  have HRD := Lib.hid (show Rd w3.drew g g from G3.out.drew)
  obtain ⟨now, hnow⟩ : ∃ now, cs.1 = now := ⟨_, rfl⟩
  have HN := Lib.hid hnow
  have x0 := X3.out.cell (i := 0) rfl
  have x1 := X3.out.cell (i := 1) rfl
  have x2 := X3.out.cell (i := 2) rfl
  have x3 := X3.out.cell (i := 3) rfl
  have hgl := G3.out.lt
  clear hnow
  have HRG := Lib.hid hrng
  clear hrng
  clear HRG
  go_region_law (first
    | (go_simp; go_at_call 76; refine (off_any g g 0 300 _ HRD.out (by omega) (by omega) (by omega) (by omega)).mono ?_; rintro e w4 ⟨_, rfl, ⟨q, rfl, hq0, hq1⟩, hrd4, hgr4⟩; have gr4 : w3.grownBy w4 (some g) := grown_trans' (grew_drewN w3 1 _) hgr4; have X4 : Hid (BoxN w4 ob #[.int .i64 cs.1, .int .i64 cs.2.1, .slice ra nn rc, .slice la mm lc] 32) := Lib.hid (X3.out.kept gr4 (by intro e; injection e with e; omega)); have R4 : Hid (BoxN w4 w.heap.size #[.int .i64 0, .int .i64 0, .slice none 0 0, .slice none 0 0] 32) := Lib.hid (R3.out.kept gr4 (by intro e; injection e with e; omega)); have D4 := Lib.hid (D3.out.at_ (W' := w4) (fun k hk => gr4.block k (D3.out.lt hk).2.2 (fun e => by injection e with e; have := (D3.out.lt hk).1; omega))); have B4 := Lib.hid (drw_below B3.out (by omega) gr4); have S4 := gr4.size; have z0 := X4.out.cell (i := 0) rfl; have z1 := X4.out.cell (i := 1) rfl; have z2 := X4.out.cell (i := 2) rfl; have z3 := X4.out.cell (i := 3) rfl; have r0 := R4.out.cell (i := 0) rfl; have r1 := R4.out.cell (i := 1) rfl; have r2 := R4.out.cell (i := 2) rfl; have r3 := R4.out.cell (i := 3) rfl; have f0 := R4.out.frozen (i := 0); have f1 := R4.out.frozen (i := 1); have f2 := R4.out.frozen (i := 2); have f3 := R4.out.frozen (i := 3); clear hgr4 hrd4 gr4))
  all_goals
    go_simp
    go_wp2_with fail
    refine bodyPost_ret (v := .tuple #[.agg #[.int .i64 cs.1, .int .i64 cs.2.1, .slice ra nn rc, .slice la mm lc], .int .i64 q]) (by simp [results, Try.results39, go_sem, r0, r1, r2, r3]) rfl ⟨.slice ra nn rc, .slice la mm lc, es, cs, q, rfl, (CD.set4n D4.out (.inl (by omega)) _ _ _ _).lift (by omega) (by simp [World.setCell]; omega), CR3.out, ⟨hq0, hq1⟩, KSP.set4 B4.out (Nat.le_refl _) _ _ _ _⟩
end Go.Proofs.Ytkekpkfhljankaa

/- Walks: the law FnPick. -/
set_option linter.unusedVariables false
set_option linter.unusedSimpArgs false
namespace Go.Proofs.Ytkekpkfhljankaa
open Go.RowKit

theorem pickF_case (nw q : Int) : ∀ (ls : List Lv) (i : Int), (pickF nw q i ls = -2 ∧ ∀ k, k < ls.length → ¬ nw - (ls.getD k zLv).2.1 < q) ∨ ∃ j : Nat, j < ls.length ∧ pickF nw q i ls = i + j ∧ (∀ k, k < j → ¬ nw - (ls.getD k zLv).2.1 < q) ∧ nw - (ls.getD j zLv).2.1 < q
  | [], i => .inl ⟨rfl, fun k hk => by simp at hk⟩
  | x :: ls, i => by
    by_cases h0 : nw - x.2.1 < q
    · refine .inr ⟨0, by simp, ?_, fun k hk => by omega, h0⟩
      unfold pickF; rw [if_pos h0]; simp
    · rcases pickF_case nw q ls (i + 1) with ⟨e, h⟩ | ⟨j, hj, e, hk, h⟩
      · refine .inl ⟨?_, fun k hk => ?_⟩
        · unfold pickF; rw [if_neg h0, e]
        · cases k with
          | zero => exact h0
          | succ k => exact h k (by simpa using hk)
      · refine .inr ⟨j + 1, by simpa using hj, ?_, fun k hk' => ?_, h⟩
        · unfold pickF; rw [if_neg h0, e]; omega
        · cases k with
          | zero => exact h0
          | succ k => exact hk k (by omega)
/-- what a choice says: of the points, or of the first level that keeps for so long -/
theorem pick_facts {c : Cs} {q : Int} (h : -1 ≤ pickM c q) (hq : q ≠ 1000000000000) : ((0 ≤ c.1 ∧ c.1 ≤ 1000000000000) ∧ (1 ≤ c.2.1 ∧ c.2.1 ≤ 1000000000) ∧ (0 ≤ q ∧ q < 1000000000000)) ∧ (-1 ≤ pickM c (q + 1) ∧ pickM c (q + 1) ≤ pickM c q) ∧ (pickM c q = -1 ∧ c.1 - c.2.1 < q ∨ ∃ j : Nat, j < c.2.2.2.length ∧ pickM c q = j ∧ ¬ c.1 - c.2.1 < q ∧ (∀ k, k < j → ¬ c.1 - (c.2.2.2.getD k zLv).2.1 < q) ∧ c.1 - (c.2.2.2.getD j zLv).2.1 < q ∧ (1 ≤ (c.2.2.2.getD j zLv).2.1 ∧ (c.2.2.2.getD j zLv).2.1 ≤ 1000000000) ∧ ∀ k, k < j → (1 ≤ (c.2.2.2.getD k zLv).2.1 ∧ (c.2.2.2.getD k zLv).2.1 ≤ 1000000000)) := by
  cases hc : cascB c with
  | false => unfold pickM at h; rw [hc] at h; simp at h
  | true =>
    cases hv : vIn q 0 1000000000000 with
    | false => unfold pickM at h; rw [hc, hv] at h; simp at h
    | true =>
      have hv' : 0 ≤ q ∧ q ≤ 1000000000000 := by unfold vIn at hv; simpa using hv
      have hv2 : vIn (q + 1) 0 1000000000000 = true := by unfold vIn; simp; omega
      have e1 : pickM c q = pickL c.1 c.2.1 q c.2.2.2 := by unfold pickM; rw [hc, hv]; rfl
      have e2 : pickM c (q + 1) = pickL c.1 c.2.1 (q + 1) c.2.2.2 := by unfold pickM; rw [hc, hv2]; rfl
      obtain ⟨hn, hk, hK⟩ := cascB_keep hc
      refine ⟨⟨hn, hk, by omega, by omega⟩, ?_⟩
      rw [e1] at h ⊢
      rw [e2]
      by_cases g : c.1 - c.2.1 < q
      · rw [pickL_raw g, pickL_raw (show c.1 - c.2.1 < q + 1 by omega)]
        exact ⟨by omega, .inl ⟨rfl, g⟩⟩
      · have e3 : pickL c.1 c.2.1 q c.2.2.2 = pickF c.1 q 0 c.2.2.2 := by unfold pickL; rw [if_neg g]
        rw [e3] at h ⊢
        rcases pickF_case c.1 q c.2.2.2 0 with ⟨e, _⟩ | ⟨j, hj, e, hk', hh⟩
        · rw [e] at h; omega
        · rw [e]
          refine ⟨?_, .inr ⟨j, hj, by omega, g, hk', hh, hK j hj, fun k hk => hK k (by omega)⟩⟩
          by_cases g2 : c.1 - c.2.1 < q + 1
          · rw [pickL_raw g2]; omega
          · have e4 : pickL c.1 c.2.1 (q + 1) c.2.2.2 = pickF c.1 (q + 1) 0 c.2.2.2 := by unfold pickL; rw [if_neg g2]
            rw [e4]
            rcases pickF_case c.1 (q + 1) c.2.2.2 0 with ⟨e5, hn5⟩ | ⟨j', hj', e5, hk5, _⟩
            · exact absurd (by omega) (hn5 j hj)
            · rw [e5]
              by_cases hjj : j < j'
              · exact absurd (by omega) (hk5 j hjj)
              · omega
theorem cv_ls {w : World} {B : Nat} {a b rv lv : Value} {c : Cs} (h : CV w B (.agg #[a, b, rv, lv]) c) : LS w B lv c.2.2.2 := by
  obtain ⟨rv', lv', he, _, hl, _⟩ := h
  simp at he
  obtain ⟨_, _, _, rfl⟩ := he
  exact hl

set_option maxRecDepth 100000 in
set_option maxHeartbeats 8000000 in
theorem walkFnPick (A : Option Addr) (n ca : Nat) (w : World) (hcode : n ≤ 1048576 → CodeAt w A n ca) :
    Calls Try.prog 9 #[.slice A n ca] w fun e w' => e = .returned (.bool true) ∧ Below w.heap.size w w' := by
  by_cases hbig : (1048576 : Int) < n
  · have hb : decide (1048576 < (n : Int)) = true := decide_eq_true hbig
    clear hcode
    have HBG := Lib.hid (fun W => big_any A n ca W)
    rw [hb] at HBG
    go_enter Try.func9, Try.ntmps9
    go_wp2_with (go_at_call 29; refine (HBG.out _).mono ?_; rintro e w' ⟨rfl, rfl⟩)
    go_ret
    exact ⟨rfl, Below.refl _ _⟩
  · have hb : decide (1048576 < (n : Int)) = false := decide_eq_false hbig
    have HBG := Lib.hid (fun W => big_any A n ca W)
    rw [hb] at HBG
    have hD := Lib.hid (DrawPick_any A n ca w (hcode (by omega)))
    have hIm := Lib.hid (fun v c q W h => implPick_any v c q W h)
    have hSp := Lib.hid (fun v c q W h => specPick_any v c q W h)
    clear hcode hb hbig
    go_enter Try.func9, Try.ntmps9
    go_wp2_with (go_at_call 29; refine (HBG.out _).mono ?_; rintro e w' ⟨rfl, rfl⟩)
    refine hD.out.mono ?_
    rintro e w1 ⟨rv, lv, es, c, q, rfl, hd, hcr, hrq, hb1⟩
    obtain ⟨nn, hnn⟩ : ∃ nn, c.2.2.1.length = nn := ⟨_, rfl⟩
    obtain ⟨mm, hmm⟩ : ∃ mm, c.2.2.2.length = mm := ⟨_, rfl⟩
    obtain ⟨ra, rc, rfl⟩ : ∃ a c', rv = .slice a nn c' := by rw [← hnn]; exact hd.raw.shape
    obtain ⟨la, lc, rfl⟩ : ∃ a c', lv = .slice a mm c' := by rw [← hmm]; exact hd.lvl.row.shape
    obtain ⟨w2, hw2⟩ : ∃ w2, w1.alloc (.cells #[.int .i64 c.1, .int .i64 c.2.1, .slice ra nn rc, .slice la mm lc] 32) = w2 := ⟨_, rfl⟩
    have hb2 : Below w1.heap.size w1 w2 := by rw [← hw2]; exact (Below.refl _ _).alloc (Nat.le_refl _) _
    have X2 : Hid (BoxN w2 w1.heap.size #[.int .i64 c.1, .int .i64 c.2.1, .slice ra nn rc, .slice la mm lc] 32) := Lib.hid (by rw [← hw2]; exact World.alloc_heap_new w1 _)
    have C2 := Lib.hid (show CV w2 w2.heap.size (.agg #[.int .i64 c.1, .int .i64 c.2.1, .slice ra nn rc, .slice la mm lc]) c from (hd.below hb2).cv hcr)
    have B2 := Lib.hid (hb1.trans (hb2.mono hb1.size))
    have HW2 := Lib.hid hw2
    have hI := Lib.hid (fun W q h => hIm.out (.agg #[.int .i64 c.1, .int .i64 c.2.1, .slice ra nn rc, .slice la mm lc]) c q W h)
    have hS := Lib.hid (fun W h => hSp.out (.agg #[.int .i64 c.1, .int .i64 c.2.1, .slice ra nn rc, .slice la mm lc]) c q W h)
    have HF := Lib.hid (fun h h' => pick_facts (c := c) (q := q) h h')
    obtain ⟨m, hm⟩ : ∃ m, pickM c q = m := ⟨_, rfl⟩
    have HI := Lib.hid (fun W h => hI.out W q h)
    have HJ := Lib.hid (fun W h => hI.out W (q + 1) h)
    obtain ⟨m2, hm2⟩ : ∃ m2, pickM c (q + 1) = m2 := ⟨_, rfl⟩
    rw [hm2, hm] at HF
    rw [hm] at hS HI
    rw [hm2] at HJ
    have S1 := hb1.size
    have S2 := X2.out.lt
    have HMM := Lib.hid hmm
    have hne : (m != m) = false := by simp
    have hee : (m == m) = true := by simp
    have x0 := X2.out.cell (i := 0) rfl
    have x1 := X2.out.cell (i := 1) rfl
    have x2 := X2.out.cell (i := 2) rfl
    have x3 := X2.out.cell (i := 3) rfl
    clear hw2 hd hcr hb1 hb2 hnn hmm hIm hSp hD HBG hI hm hm2
    go_upto_region 4 with fail
    rw [HW2.out]
    clear HW2
    go_wp2_with fail
    refine (HI.out _ C2.out).mono ?_
    rintro e w3 ⟨rfl, hb3⟩
    have B23 := Lib.hid hb3
    have Y3 : Hid (BoxN w3 w1.heap.size #[.int .i64 c.1, .int .i64 c.2.1, .slice ra nn rc, .slice la mm lc] 32) := Lib.hid ((hb3.block _ S2).trans X2.out)
    have C3 := Lib.hid ((C2.out.below hb3).up hb3.size)
    have S3 := hb3.size
    clear x0 x1 x2 x3 hb3
    have x0 := Y3.out.cell (i := 0) rfl
    have x1 := Y3.out.cell (i := 1) rfl
    have x2 := Y3.out.cell (i := 2) rfl
    have x3 := Y3.out.cell (i := 3) rfl
    go_upto_region 5 with fail
    go_wp2_with fail
    refine (hS.out _ C3.out).mono ?_
    rintro e w4 ⟨rfl, hb4⟩
    have B24 := Lib.hid (B23.out.trans (hb4.mono S3))
    have S4 := B24.out.size
    have B4 := Lib.hid (B2.out.trans (B24.out.mono B2.out.size))
    have Y4 : Hid (BoxN w4 w1.heap.size #[.int .i64 c.1, .int .i64 c.2.1, .slice ra nn rc, .slice la mm lc] 32) := Lib.hid ((B24.out.block _ S2).trans X2.out)
    have C4 := Lib.hid ((C2.out.below B24.out).up B24.out.size)
    clear x0 x1 x2 x3 hb4 C2 C3 Y3 B23
    have x0 := Y4.out.cell (i := 0) rfl
    have x1 := Y4.out.cell (i := 1) rfl
    have x2 := Y4.out.cell (i := 2) rfl
    have x3 := Y4.out.cell (i := 3) rfl
    by_cases hc : -1 ≤ m ∧ q ≠ 1000000000000
    · obtain ⟨hc1, hc2⟩ := hc
      obtain ⟨⟨hnw, hkp, hq0, hq1⟩, ⟨hl0, hl1⟩, hcase⟩ := HF.out hc1 hc2
      clear HF
      have d1 : decide (m < -1) = false := decide_eq_false (by omega)
      have d2 : (q == 1000000000000) = false := by simpa using hc2
      have d3 : decide (m2 ≤ m) = true := decide_eq_true hl1
      have d4 : decide (-1 ≤ m2) = true := decide_eq_true hl0
      have eQ : IntKind.i64.wrap (q + 1) = q + 1 := IntWalk.i64_in _ (by omega)
      have eN : IntKind.i64.wrap (c.1 - c.2.1) = c.1 - c.2.1 := IntWalk.i64_in _ (by omega)
      rcases hcase with ⟨rfl, hh⟩ | ⟨j, hj, rfl, h0, hbf, hh, hkj, hkb⟩
      · have d5 : decide (c.1 - c.2.1 < q) = true := decide_eq_true hh
        go_upto_region 15 with fail
        go_wp2_with fail
        refine (HJ.out _ C4.out).mono ?_
        rintro e w5 ⟨rfl, hb5⟩
        have Y5 : BoxN w5 w1.heap.size #[.int .i64 c.1, .int .i64 c.2.1, .slice ra nn rc, .slice la mm lc] 32 := (hb5.block _ (by omega)).trans Y4.out
        clear x0 x1 x2 x3
        have x0 := Y5.cell (i := 0) rfl
        clear Y5
        go_wp2_with fail
        go_ret
        exact ⟨rfl, B4.out.trans (hb5.mono B4.out.size)⟩
      · rw [HMM.out] at hj
        have hjI : (j : Int) < (mm : Int) := by omega
        have d6 : decide (0 ≤ (j : Int)) = true := decide_eq_true (by omega)
        have hl := cv_ls C4.out
        have hml : mm ≤ 1048576 := by have := hl.2.1; have := HMM.out; omega
        obtain ⟨b, off, rfl, hbl, k0, k1, r, k2, _⟩ := ls_at_lt hl hj
        clear k0 k2
        cases j with
        | zero =>
          have d7 : decide ((0 : Int) < ((0 : Nat) : Int)) = false := decide_eq_false (by omega)
          have d8 : decide (c.1 - c.2.1 < q) = false := decide_eq_false (by omega)
          generalize (c.2.2.2.getD 0 zLv).2.1 = kj at k1 hkj hh
          have eJ : IntKind.i64.wrap (c.1 - kj) = c.1 - kj := IntWalk.i64_in _ (by omega)
          have d9 : decide (c.1 - kj < q) = true := decide_eq_true hh
          clear hl hbf hkb h0 hh
          go_upto_region 15 with fail
          go_wp2_with fail
          refine (HJ.out _ C4.out).mono ?_
          rintro e w5 ⟨rfl, hb5⟩
          have Y5 : BoxN w5 w1.heap.size #[.int .i64 c.1, .int .i64 c.2.1, .slice ra nn rc, .slice (some ⟨b, off, none⟩) mm lc] 32 := (hb5.block _ (by omega)).trans Y4.out
          clear x0 x1 x2 x3
          have x0 := Y5.cell (i := 0) rfl
          clear Y5
          go_wp2_with fail
          go_ret
          exact ⟨rfl, B4.out.trans (hb5.mono B4.out.size)⟩
        | succ k =>
          have d7 : decide ((0 : Int) < ((k + 1 : Nat) : Int)) = true := decide_eq_true (by omega)
          have eK : IntKind.i64.wrap (((k + 1 : Nat) : Int) - 1) = (k : Int) := by rw [IntWalk.i64_in _ (by omega)]; omega
          obtain ⟨b', off', he', _, p0, p1, r', p2, _⟩ := ls_at_lt hl (show k < mm from by omega)
          clear p0 p2
          injection he' with he'
          injection he' with e1 e2
          subst e1
          subst e2
          have hbk := hbf k (by omega)
          have hkk := hkb k (by omega)
          generalize (c.2.2.2.getD (k + 1) zLv).2.1 = kj at k1 hkj hh
          generalize (c.2.2.2.getD k zLv).2.1 = kk at p1 hkk hbk
          have eJ : IntKind.i64.wrap (c.1 - kj) = c.1 - kj := IntWalk.i64_in _ (by omega)
          have eF : IntKind.i64.wrap (c.1 - kk) = c.1 - kk := IntWalk.i64_in _ (by omega)
          have d8 : decide (c.1 - kk < q) = false := decide_eq_false (by omega)
          have d9 : decide (c.1 - kj < q) = true := decide_eq_true hh
          have hkI : (k : Int) < (mm : Int) := by omega
          clear hl hbf hkb h0 hh hbk
          go_upto_region 15 with fail
          go_wp2_with fail
          refine (HJ.out _ C4.out).mono ?_
          rintro e w5 ⟨rfl, hb5⟩
          have Y5 : BoxN w5 w1.heap.size #[.int .i64 c.1, .int .i64 c.2.1, .slice ra nn rc, .slice (some ⟨b, off, none⟩) mm lc] 32 := (hb5.block _ (by omega)).trans Y4.out
          clear x0 x1 x2 x3
          have x0 := Y5.cell (i := 0) rfl
          clear Y5
          go_wp2_with fail
          go_ret
          exact ⟨rfl, B4.out.trans (hb5.mono B4.out.size)⟩
    · have hg : m < -1 ∨ ¬ m < -1 ∧ q = 1000000000000 := by
        by_cases h1 : m < -1
        · exact .inl h1
        · refine .inr ⟨h1, ?_⟩
          by_cases h2 : q = 1000000000000
          · exact h2
          · exact absurd ⟨by omega, h2⟩ hc
      clear hc HF
      rcases hg with h1 | ⟨h1, h2⟩
      · have d1 : decide (m < -1) = true := decide_eq_true h1
        clear h1
        go_wp2_with fail
        refine (hS.out _ C4.out).mono ?_
        rintro e w5 ⟨rfl, hb5⟩
        go_wp2_with fail
        go_ret
        exact ⟨rfl, B4.out.trans (hb5.mono B4.out.size)⟩
      · have d1 : decide (m < -1) = false := decide_eq_false h1
        have d2 : (q == 1000000000000) = true := by simpa using h2
        clear h1 h2
        go_wp2_with fail
        refine (hS.out _ C4.out).mono ?_
        rintro e w5 ⟨rfl, hb5⟩
        go_wp2_with fail
        go_ret
        exact ⟨rfl, B4.out.trans (hb5.mono B4.out.size)⟩
end Go.Proofs.Ytkekpkfhljankaa
