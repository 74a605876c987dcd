/- Walks: drawn cascades and what is asked of them. -/
import Derived.Test.YtcjpedolmnahfaaCp
import Derived.Test.YtcjpedolmnahfaaCk
import Derived.Test.YtcjpedolmnahfaaPk
import Derived.Test.YtcjpedolmnahfaaFc
set_option linter.unusedVariables false
set_option linter.unusedSimpArgs false
namespace Go.Proofs.Ytcjpedolmnahfaa
open Go.RowKit

def DQPost (w : World) (e : Ending) (w' : World) : Prop :=
  ∃ rv lv es c a b q, e = .returned (.tuple #[.agg #[.int .i64 c.1, .int .i64 c.2.1, rv, lv], .int .i64 a, .int .i64 b, .int .i64 q]) ∧ CD w' w.heap.size w'.heap.size c rv lv es ∧ CR c ∧ Rng a ∧ Rng b ∧ Rng q ∧ Below w.heap.size w w'
set_option maxRecDepth 100000 in
set_option maxHeartbeats 4000000 in
theorem DrawQuery_any (A : Option Addr) (n c : Nat) (w : World) (h : CodeAt w A n c) :
    Calls Try.prog 38 #[.slice A n c] w (DQPost w) := by
  obtain ⟨w0, hw0⟩ : ∃ w0, w.alloc (.cells #[.int .i64 0, .int .i64 0, .slice none 0 0, .slice none 0 0] 30) = w0 := ⟨_, rfl⟩
  have B0 := Lib.hid (show Below w.heap.size w w0 from by rw [← hw0]; exact (Below.refl _ _).alloc (Nat.le_refl _) _)
  have R0 : Hid (BoxN w0 w.heap.size #[.int .i64 0, .int .i64 0, .slice none 0 0, .slice none 0 0] 30) := Lib.hid (by rw [← hw0]; exact World.alloc_heap_new w _)
  have H := Lib.hid (h.below B0.out)
  have HW0 := Lib.hid hw0
  clear h hw0
  go_enter Try.func38, Try.ntmps38
  go_wp2_with fail
  rw [HW0.out]
  refine (open_any A n c _ H.out).mono ?_
  rintro e w1 ⟨rfl, hrd, hb1⟩
  have Hrd := Lib.hid hrd
  have S0 := R0.out.lt
  obtain ⟨g, hg⟩ : ∃ g, w0.heap.size = g := ⟨_, rfl⟩
  have B1 := Lib.hid (B0.out.trans (hb1.mono (by omega)))
  have R1 : Hid (BoxN w1 w.heap.size #[.int .i64 0, .int .i64 0, .slice none 0 0, .slice none 0 0] 30) := Lib.hid (R0.out.below hb1)
  have S1 := R1.out.lt
  rw [hg] at Hrd ⊢
  have hgw : w.heap.size < g := by omega
  clear hrd hb1 H hg
  go_wp2_with fail
  refine (cascade_any _ _ _ Hrd.out).mono ?_
  rintro e w2 ⟨rv, lv, es, cs, rfl, hd, hcr, hdw⟩
  obtain ⟨nn, hnn⟩ : ∃ nn, cs.2.2.1.length = nn := ⟨_, rfl⟩
  obtain ⟨mm, hmm⟩ : ∃ mm, cs.2.2.2.length = mm := ⟨_, rfl⟩
  obtain ⟨ra, rc, rfl⟩ : ∃ a c', rv = .slice a nn c' := by rw [← hnn]; exact hd.raw.shape
  obtain ⟨la, lc, rfl⟩ : ∃ a c', lv = .slice a mm c' := by rw [← hmm]; exact hd.lvl.row.shape
  obtain ⟨w3, hw3⟩ : ∃ w3, w2.alloc (.cells #[.int .i64 cs.1, .int .i64 cs.2.1, .slice ra nn rc, .slice la mm lc] 30) = w3 := ⟨_, rfl⟩
  obtain ⟨ob, hob⟩ : ∃ ob, w2.heap.size = ob := ⟨_, rfl⟩
  have hb3 : Below w2.heap.size w2 w3 := by rw [← hw3]; exact (Below.refl _ _).alloc (Nat.le_refl _) _
  have X3 : Hid (BoxN w3 ob #[.int .i64 cs.1, .int .i64 cs.2.1, .slice ra nn rc, .slice la mm lc] 30) := Lib.hid (by rw [← hob, ← hw3]; exact World.alloc_heap_new w2 _)
  have R3 : Hid (BoxN w3 w.heap.size #[.int .i64 0, .int .i64 0, .slice none 0 0, .slice none 0 0] 30) := Lib.hid ((R1.out.kept hdw.2 (by intro e; injection e with e; omega)).below hb3)
  have G3 := Lib.hid (show Rd w3 g g from hdw.1.below hb3)
  have D3 := Lib.hid (hd.below hb3)
  have B3 := Lib.hid ((drw_below B1.out (by omega) hdw.2).trans (hb3.mono (by have := hdw.2.size; omega)))
  have CR3 := Lib.hid hcr
  have S2 := hdw.2.size
  have S3 := hb3.size
  have hobw : w.heap.size < ob := by omega
  have hg1 := Hrd.out.lt
  have hog : ¬ ob = g := by omega
  have HW3 := Lib.hid hw3
  have HOB := Lib.hid hob
  clear hnn hmm hd hcr hdw hw3 hob hb3 R1 B1 Hrd
  go_upto_region 3 with fail
  rw [HW3.out, HOB.out]
  clear HW3
  have hrng := CR3.out.now
  have HRD := Lib.hid (show Rd w3.drew g g from G3.out.drew)
  obtain ⟨now, hnow⟩ : ∃ now, cs.1 = now := ⟨_, rfl⟩
  have HN := Lib.hid hnow
  rw [hnow] at X3 hrng
  have x0 := X3.out.cell (i := 0) rfl
  have hgl := G3.out.lt
  clear hnow
  have HRG := Lib.hid hrng
  clear hrng
  go_region_law (first
    | (go_simp; go_at_call 52; refine (below_any g g 150 _ HRD.out (by omega) (by omega)).mono ?_; rintro e w4 ⟨_, rfl, ⟨p, rfl, hp0, hp1⟩, hrd4, hgr4⟩; have gr4 : w3.grownBy w4 (some g) := grown_trans' (grew_drewN w3 1 _) hgr4; have X4 : Hid (BoxN w4 ob #[.int .i64 now, .int .i64 cs.2.1, .slice ra nn rc, .slice la mm lc] 30) := Lib.hid (X3.out.kept gr4 (by intro e; injection e with e; omega)); have R4 : Hid (BoxN w4 w.heap.size #[.int .i64 0, .int .i64 0, .slice none 0 0, .slice none 0 0] 30) := Lib.hid (R3.out.kept gr4 (by intro e; injection e with e; omega)); have D4 := Lib.hid (D3.out.at_ (W' := w4) (fun k hk => gr4.block k (D3.out.lt hk).2.2 (fun e => by injection e with e; have := (D3.out.lt hk).1; omega))); have B4 := Lib.hid (drw_below B3.out (by omega) gr4); have S4 := gr4.size; have G4 := Lib.hid hrd4; have z0 := X4.out.cell (i := 0) rfl; have z1 := X4.out.cell (i := 1) rfl; have z2 := X4.out.cell (i := 2) rfl; have z3 := X4.out.cell (i := 3) rfl; clear hgr4 hrd4 gr4))
  all_goals
    go_simp
    have HRD4 := Lib.hid (show Rd w4.drew g g from G4.out.drew)
    have e1 : Rng (if 0 < IntKind.i64.wrap (now - p) then IntKind.i64.wrap (now - p) else 0) := by
      by_cases hh : 0 < IntKind.i64.wrap (now - p)
      · rw [if_pos hh]; exact rng_iwrap _
      · rw [if_neg hh]; exact rng_zero
    generalize (if 0 < IntKind.i64.wrap (now - p) then IntKind.i64.wrap (now - p) else 0) = qa at *
    have E1 := Lib.hid e1
    clear e1
    go_wp2_with fail
    clear x0 G3 D3 B3 R3 X3 HRD
    go_region_law (first
      | (go_simp; go_at_call 52; refine (below_any g g 60 _ HRD4.out (by omega) (by omega)).mono ?_; rintro e w5 ⟨_, rfl, ⟨u, rfl, hu0, hu1⟩, hrd5, hgr5⟩; have gr5 : w4.grownBy w5 (some g) := grown_trans' (grew_drewN w4 1 _) hgr5; have X5 : Hid (BoxN w5 ob #[.int .i64 now, .int .i64 cs.2.1, .slice ra nn rc, .slice la mm lc] 30) := Lib.hid (X4.out.kept gr5 (by intro e; injection e with e; omega)); have R5 : Hid (BoxN w5 w.heap.size #[.int .i64 0, .int .i64 0, .slice none 0 0, .slice none 0 0] 30) := Lib.hid (R4.out.kept gr5 (by intro e; injection e with e; omega)); have D5 := Lib.hid (D4.out.at_ (W' := w5) (fun k hk => gr5.block k (D4.out.lt hk).2.2 (fun e => by injection e with e; have := (D4.out.lt hk).1; omega))); have B5 := Lib.hid (drw_below B4.out (by omega) gr5); have S5 := gr5.size; have G5 := Lib.hid hrd5; have z0 := X5.out.cell (i := 0) rfl; have z1 := X5.out.cell (i := 1) rfl; have z2 := X5.out.cell (i := 2) rfl; have z3 := X5.out.cell (i := 3) rfl; clear hgr5 hrd5 gr5))
    all_goals
      go_simp
      have HRD5 := Lib.hid (show Rd w5.drew g g from G5.out.drew)
      generalize (if 0 < IntKind.i64.wrap (now - u) then IntKind.i64.wrap (now - u) else 0) = mu at *
      have e2 : Rng (IntKind.i64.wrap (mu + 10)) := rng_iwrap _
      generalize IntKind.i64.wrap (mu + 10) = qb at *
      have E2 := Lib.hid e2
      go_wp2_with fail
      clear e2 G4 D4 B4 R4 X4 HRD4
      go_region_law (first
        | (go_simp; go_at_call 51; refine (off_any g g 1 6 _ HRD5.out (by omega) (by omega) (by omega) (by omega)).mono ?_; rintro e w6 ⟨_, rfl, ⟨q, rfl, hq0, hq1⟩, hrd6, hgr6⟩; have gr6 : w5.grownBy w6 (some g) := grown_trans' (grew_drewN w5 1 _) hgr6; have X6 : Hid (BoxN w6 ob #[.int .i64 now, .int .i64 cs.2.1, .slice ra nn rc, .slice la mm lc] 30) := Lib.hid (X5.out.kept gr6 (by intro e; injection e with e; omega)); have R6 : Hid (BoxN w6 w.heap.size #[.int .i64 0, .int .i64 0, .slice none 0 0, .slice none 0 0] 30) := Lib.hid (R5.out.kept gr6 (by intro e; injection e with e; omega)); have D6 := Lib.hid (D5.out.at_ (W' := w6) (fun k hk => gr6.block k (D5.out.lt hk).2.2 (fun e => by injection e with e; have := (D5.out.lt hk).1; omega))); have B6 := Lib.hid (drw_below B5.out (by omega) gr6); have S6 := gr6.size; have G6 := Lib.hid hrd6; have z0 := X6.out.cell (i := 0) rfl; have z1 := X6.out.cell (i := 1) rfl; have z2 := X6.out.cell (i := 2) rfl; have z3 := X6.out.cell (i := 3) rfl; have r0 := R6.out.cell (i := 0) rfl; have f0 := R6.out.frozen (i := 0); have r1 := R6.out.cell (i := 1) rfl; have f1 := R6.out.frozen (i := 1); have r2 := R6.out.cell (i := 2) rfl; have f2 := R6.out.frozen (i := 2); have r3 := R6.out.cell (i := 3) rfl; have f3 := R6.out.frozen (i := 3); clear hgr6 hrd6 gr6))
      all_goals
        go_simp
        go_wp2_with fail
        rw [← HN.out]
        refine bodyPost_ret (v := .tuple #[.agg #[.int .i64 cs.fst, .int .i64 cs.2.1, .slice ra nn rc, .slice la mm lc], .int .i64 qa, .int .i64 qb, .int .i64 q]) (by simp [results, Try.results38, go_sem, r0, r1, r2, r3]) rfl ⟨.slice ra nn rc, .slice la mm lc, es, cs, qa, qb, q, rfl, (CD.set4n D6.out (.inl (by omega)) _ _ _ _).lift (by omega) (by simp [World.setCell]; omega), CR3.out, E1.out, E2.out, ⟨hq0, hq1⟩, KSP.set4 B6.out (Nat.le_refl _) _ _ _ _⟩
end Go.Proofs.Ytcjpedolmnahfaa

/- Walks: the law FnPick. -/
set_option linter.unusedVariables false
set_option linter.unusedSimpArgs false
namespace Go.Proofs.Ytcjpedolmnahfaa
open Go.RowKit

theorem pickF_case (nw q : Int) : ∀ (ls : List Lv) (i : Int), (pickF nw q i ls = -2 ∧ ∀ k, k < ls.length → ¬ nw - (ls.getD k zLv).2.1 < q) ∨ ∃ j : Nat, j < ls.length ∧ pickF nw q i ls = i + j ∧ (∀ k, k < j → ¬ nw - (ls.getD k zLv).2.1 < q) ∧ nw - (ls.getD j zLv).2.1 < q
  | [], i => .inl ⟨rfl, fun k hk => by simp at hk⟩
  | x :: ls, i => by
    by_cases h0 : nw - x.2.1 < q
    · refine .inr ⟨0, by simp, ?_, fun k hk => by omega, h0⟩
      unfold pickF; rw [if_pos h0]; simp
    · rcases pickF_case nw q ls (i + 1) with ⟨e, h⟩ | ⟨j, hj, e, hk, h⟩
      · refine .inl ⟨?_, fun k hk => ?_⟩
        · unfold pickF; rw [if_neg h0, e]
        · cases k with
          | zero => exact h0
          | succ k => exact h k (by simpa using hk)
      · refine .inr ⟨j + 1, by simpa using hj, ?_, fun k hk' => ?_, h⟩
        · unfold pickF; rw [if_neg h0, e]; omega
        · cases k with
          | zero => exact h0
          | succ k => exact hk k (by omega)
/-- what a choice says: of the points, or of the first level that keeps for so long -/
theorem pick_facts {c : Cs} {q : Int} (h : -1 ≤ pickM c q) (hq : q ≠ 1000000000000) : ((0 ≤ c.1 ∧ c.1 ≤ 1000000000000) ∧ (1 ≤ c.2.1 ∧ c.2.1 ≤ 1000000000) ∧ (0 ≤ q ∧ q < 1000000000000)) ∧ (-1 ≤ pickM c (q + 1) ∧ pickM c (q + 1) ≤ pickM c q) ∧ (pickM c q = -1 ∧ c.1 - c.2.1 < q ∨ ∃ j : Nat, j < c.2.2.2.length ∧ pickM c q = j ∧ ¬ c.1 - c.2.1 < q ∧ (∀ k, k < j → ¬ c.1 - (c.2.2.2.getD k zLv).2.1 < q) ∧ c.1 - (c.2.2.2.getD j zLv).2.1 < q ∧ (1 ≤ (c.2.2.2.getD j zLv).2.1 ∧ (c.2.2.2.getD j zLv).2.1 ≤ 1000000000) ∧ ∀ k, k < j → (1 ≤ (c.2.2.2.getD k zLv).2.1 ∧ (c.2.2.2.getD k zLv).2.1 ≤ 1000000000)) := by
  cases hc : cascB c with
  | false => unfold pickM at h; rw [hc] at h; simp at h
  | true =>
    cases hv : vIn q 0 1000000000000 with
    | false => unfold pickM at h; rw [hc, hv] at h; simp at h
    | true =>
      have hv' : 0 ≤ q ∧ q ≤ 1000000000000 := by unfold vIn at hv; simpa using hv
      have hv2 : vIn (q + 1) 0 1000000000000 = true := by unfold vIn; simp; omega
      have e1 : pickM c q = pickL c.1 c.2.1 q c.2.2.2 := by unfold pickM; rw [hc, hv]; rfl
      have e2 : pickM c (q + 1) = pickL c.1 c.2.1 (q + 1) c.2.2.2 := by unfold pickM; rw [hc, hv2]; rfl
      obtain ⟨hn, hk, hK⟩ := cascB_keep hc
      refine ⟨⟨hn, hk, by omega, by omega⟩, ?_⟩
      rw [e1] at h ⊢
      rw [e2]
      by_cases g : c.1 - c.2.1 < q
      · rw [pickL_raw g, pickL_raw (show c.1 - c.2.1 < q + 1 by omega)]
        exact ⟨by omega, .inl ⟨rfl, g⟩⟩
      · have e3 : pickL c.1 c.2.1 q c.2.2.2 = pickF c.1 q 0 c.2.2.2 := by unfold pickL; rw [if_neg g]
        rw [e3] at h ⊢
        rcases pickF_case c.1 q c.2.2.2 0 with ⟨e, _⟩ | ⟨j, hj, e, hk', hh⟩
        · rw [e] at h; omega
        · rw [e]
          refine ⟨?_, .inr ⟨j, hj, by omega, g, hk', hh, hK j hj, fun k hk => hK k (by omega)⟩⟩
          by_cases g2 : c.1 - c.2.1 < q + 1
          · rw [pickL_raw g2]; omega
          · have e4 : pickL c.1 c.2.1 (q + 1) c.2.2.2 = pickF c.1 (q + 1) 0 c.2.2.2 := by unfold pickL; rw [if_neg g2]
            rw [e4]
            rcases pickF_case c.1 (q + 1) c.2.2.2 0 with ⟨e5, hn5⟩ | ⟨j', hj', e5, hk5, _⟩
            · exact absurd (by omega) (hn5 j hj)
            · rw [e5]
              by_cases hjj : j < j'
              · exact absurd (by omega) (hk5 j hjj)
              · omega
theorem cv_ls {w : World} {B : Nat} {a b rv lv : Value} {c : Cs} (h : CV w B (.agg #[a, b, rv, lv]) c) : LS w B lv c.2.2.2 := by
  obtain ⟨rv', lv', he, _, hl, _⟩ := h
  simp at he
  obtain ⟨_, _, _, rfl⟩ := he
  exact hl

set_option maxRecDepth 100000 in
set_option maxHeartbeats 8000000 in
theorem walkFnPick (A : Option Addr) (n ca : Nat) (w : World) (hcode : n ≤ 1048576 → CodeAt w A n ca) :
    Calls Try.prog 7 #[.slice A n ca] w fun e w' => e = .returned (.bool true) ∧ Below w.heap.size w w' := by
  by_cases hbig : (1048576 : Int) < n
  · have hb : decide (1048576 < (n : Int)) = true := decide_eq_true hbig
    clear hcode
    have HBG := Lib.hid (fun W => big_any A n ca W)
    rw [hb] at HBG
    go_enter Try.func7, Try.ntmps7
    go_wp2_with (go_at_call 13; refine (HBG.out _).mono ?_; rintro e w' ⟨rfl, rfl⟩)
    go_ret
    exact ⟨rfl, Below.refl _ _⟩
  · have hb : decide (1048576 < (n : Int)) = false := decide_eq_false hbig
    have HBG := Lib.hid (fun W => big_any A n ca W)
    rw [hb] at HBG
    have hD := Lib.hid (DrawPick_any A n ca w (hcode (by omega)))
    have hIm := Lib.hid (fun v c q W h => implPick_any v c q W h)
    have hSp := Lib.hid (fun v c q W h => specPick_any v c q W h)
    clear hcode hb hbig
    go_enter Try.func7, Try.ntmps7
    go_wp2_with (go_at_call 13; refine (HBG.out _).mono ?_; rintro e w' ⟨rfl, rfl⟩)
    refine hD.out.mono ?_
    rintro e w1 ⟨rv, lv, es, c, q, rfl, hd, hcr, hrq, hb1⟩
    obtain ⟨nn, hnn⟩ : ∃ nn, c.2.2.1.length = nn := ⟨_, rfl⟩
    obtain ⟨mm, hmm⟩ : ∃ mm, c.2.2.2.length = mm := ⟨_, rfl⟩
    obtain ⟨ra, rc, rfl⟩ : ∃ a c', rv = .slice a nn c' := by rw [← hnn]; exact hd.raw.shape
    obtain ⟨la, lc, rfl⟩ : ∃ a c', lv = .slice a mm c' := by rw [← hmm]; exact hd.lvl.row.shape
    obtain ⟨w2, hw2⟩ : ∃ w2, w1.alloc (.cells #[.int .i64 c.1, .int .i64 c.2.1, .slice ra nn rc, .slice la mm lc] 30) = w2 := ⟨_, rfl⟩
    have hb2 : Below w1.heap.size w1 w2 := by rw [← hw2]; exact (Below.refl _ _).alloc (Nat.le_refl _) _
    have X2 : Hid (BoxN w2 w1.heap.size #[.int .i64 c.1, .int .i64 c.2.1, .slice ra nn rc, .slice la mm lc] 30) := Lib.hid (by rw [← hw2]; exact World.alloc_heap_new w1 _)
    have C2 := Lib.hid (show CV w2 w2.heap.size (.agg #[.int .i64 c.1, .int .i64 c.2.1, .slice ra nn rc, .slice la mm lc]) c from (hd.below hb2).cv hcr)
    have B2 := Lib.hid (hb1.trans (hb2.mono hb1.size))
    have HW2 := Lib.hid hw2
    have hI := Lib.hid (fun W q h => hIm.out (.agg #[.int .i64 c.1, .int .i64 c.2.1, .slice ra nn rc, .slice la mm lc]) c q W h)
    have hS := Lib.hid (fun W h => hSp.out (.agg #[.int .i64 c.1, .int .i64 c.2.1, .slice ra nn rc, .slice la mm lc]) c q W h)
    have HF := Lib.hid (fun h h' => pick_facts (c := c) (q := q) h h')
    obtain ⟨m, hm⟩ : ∃ m, pickM c q = m := ⟨_, rfl⟩
    have HI := Lib.hid (fun W h => hI.out W q h)
    have HJ := Lib.hid (fun W h => hI.out W (q + 1) h)
    obtain ⟨m2, hm2⟩ : ∃ m2, pickM c (q + 1) = m2 := ⟨_, rfl⟩
    rw [hm2, hm] at HF
    rw [hm] at hS HI
    rw [hm2] at HJ
    have S1 := hb1.size
    have S2 := X2.out.lt
    have HMM := Lib.hid hmm
    have hne : (m != m) = false := by simp
    have hee : (m == m) = true := by simp
    have x0 := X2.out.cell (i := 0) rfl
    have x1 := X2.out.cell (i := 1) rfl
    have x2 := X2.out.cell (i := 2) rfl
    have x3 := X2.out.cell (i := 3) rfl
    clear hw2 hd hcr hb1 hb2 hnn hmm hIm hSp hD HBG hI hm hm2
    go_upto_region 4 with fail
    rw [HW2.out]
    clear HW2
    go_wp2_with fail
    refine (HI.out _ C2.out).mono ?_
    rintro e w3 ⟨rfl, hb3⟩
    have B23 := Lib.hid hb3
    have Y3 : Hid (BoxN w3 w1.heap.size #[.int .i64 c.1, .int .i64 c.2.1, .slice ra nn rc, .slice la mm lc] 30) := Lib.hid ((hb3.block _ S2).trans X2.out)
    have C3 := Lib.hid ((C2.out.below hb3).up hb3.size)
    have S3 := hb3.size
    clear x0 x1 x2 x3 hb3
    have x0 := Y3.out.cell (i := 0) rfl
    have x1 := Y3.out.cell (i := 1) rfl
    have x2 := Y3.out.cell (i := 2) rfl
    have x3 := Y3.out.cell (i := 3) rfl
    go_upto_region 5 with fail
    go_wp2_with fail
    refine (hS.out _ C3.out).mono ?_
    rintro e w4 ⟨rfl, hb4⟩
    have B24 := Lib.hid (B23.out.trans (hb4.mono S3))
    have S4 := B24.out.size
    have B4 := Lib.hid (B2.out.trans (B24.out.mono B2.out.size))
    have Y4 : Hid (BoxN w4 w1.heap.size #[.int .i64 c.1, .int .i64 c.2.1, .slice ra nn rc, .slice la mm lc] 30) := Lib.hid ((B24.out.block _ S2).trans X2.out)
    have C4 := Lib.hid ((C2.out.below B24.out).up B24.out.size)
    clear x0 x1 x2 x3 hb4 C2 C3 Y3 B23
    have x0 := Y4.out.cell (i := 0) rfl
    have x1 := Y4.out.cell (i := 1) rfl
    have x2 := Y4.out.cell (i := 2) rfl
    have x3 := Y4.out.cell (i := 3) rfl
    by_cases hc : -1 ≤ m ∧ q ≠ 1000000000000
    · obtain ⟨hc1, hc2⟩ := hc
      obtain ⟨⟨hnw, hkp, hq0, hq1⟩, ⟨hl0, hl1⟩, hcase⟩ := HF.out hc1 hc2
      clear HF
      have d1 : decide (m < -1) = false := decide_eq_false (by omega)
      have d2 : (q == 1000000000000) = false := by simpa using hc2
      have d3 : decide (m2 ≤ m) = true := decide_eq_true hl1
      have d4 : decide (-1 ≤ m2) = true := decide_eq_true hl0
      have eQ : IntKind.i64.wrap (q + 1) = q + 1 := IntWalk.i64_in _ (by omega)
      have eN : IntKind.i64.wrap (c.1 - c.2.1) = c.1 - c.2.1 := IntWalk.i64_in _ (by omega)
      rcases hcase with ⟨rfl, hh⟩ | ⟨j, hj, rfl, h0, hbf, hh, hkj, hkb⟩
      · have d5 : decide (c.1 - c.2.1 < q) = true := decide_eq_true hh
        go_upto_region 15 with fail
        go_wp2_with fail
        refine (HJ.out _ C4.out).mono ?_
        rintro e w5 ⟨rfl, hb5⟩
        have Y5 : BoxN w5 w1.heap.size #[.int .i64 c.1, .int .i64 c.2.1, .slice ra nn rc, .slice la mm lc] 30 := (hb5.block _ (by omega)).trans Y4.out
        clear x0 x1 x2 x3
        have x0 := Y5.cell (i := 0) rfl
        clear Y5
        go_wp2_with fail
        go_ret
        exact ⟨rfl, B4.out.trans (hb5.mono B4.out.size)⟩
      · rw [HMM.out] at hj
        have hjI : (j : Int) < (mm : Int) := by omega
        have d6 : decide (0 ≤ (j : Int)) = true := decide_eq_true (by omega)
        have hl := cv_ls C4.out
        have hml : mm ≤ 1048576 := by have := hl.2.1; have := HMM.out; omega
        obtain ⟨b, off, rfl, hbl, k0, k1, r, k2, _⟩ := ls_at_lt hl hj
        clear k0 k2
        cases j with
        | zero =>
          have d7 : decide ((0 : Int) < ((0 : Nat) : Int)) = false := decide_eq_false (by omega)
          have d8 : decide (c.1 - c.2.1 < q) = false := decide_eq_false (by omega)
          generalize (c.2.2.2.getD 0 zLv).2.1 = kj at k1 hkj hh
          have eJ : IntKind.i64.wrap (c.1 - kj) = c.1 - kj := IntWalk.i64_in _ (by omega)
          have d9 : decide (c.1 - kj < q) = true := decide_eq_true hh
          clear hl hbf hkb h0 hh
          go_upto_region 15 with fail
          go_wp2_with fail
          refine (HJ.out _ C4.out).mono ?_
          rintro e w5 ⟨rfl, hb5⟩
          have Y5 : BoxN w5 w1.heap.size #[.int .i64 c.1, .int .i64 c.2.1, .slice ra nn rc, .slice (some ⟨b, off, none⟩) mm lc] 30 := (hb5.block _ (by omega)).trans Y4.out
          clear x0 x1 x2 x3
          have x0 := Y5.cell (i := 0) rfl
          clear Y5
          go_wp2_with fail
          go_ret
          exact ⟨rfl, B4.out.trans (hb5.mono B4.out.size)⟩
        | succ k =>
          have d7 : decide ((0 : Int) < ((k + 1 : Nat) : Int)) = true := decide_eq_true (by omega)
          have eK : IntKind.i64.wrap (((k + 1 : Nat) : Int) - 1) = (k : Int) := by rw [IntWalk.i64_in _ (by omega)]; omega
          obtain ⟨b', off', he', _, p0, p1, r', p2, _⟩ := ls_at_lt hl (show k < mm from by omega)
          clear p0 p2
          injection he' with he'
          injection he' with e1 e2
          subst e1
          subst e2
          have hbk := hbf k (by omega)
          have hkk := hkb k (by omega)
          generalize (c.2.2.2.getD (k + 1) zLv).2.1 = kj at k1 hkj hh
          generalize (c.2.2.2.getD k zLv).2.1 = kk at p1 hkk hbk
          have eJ : IntKind.i64.wrap (c.1 - kj) = c.1 - kj := IntWalk.i64_in _ (by omega)
          have eF : IntKind.i64.wrap (c.1 - kk) = c.1 - kk := IntWalk.i64_in _ (by omega)
          have d8 : decide (c.1 - kk < q) = false := decide_eq_false (by omega)
          have d9 : decide (c.1 - kj < q) = true := decide_eq_true hh
          have hkI : (k : Int) < (mm : Int) := by omega
          clear hl hbf hkb h0 hh hbk
          go_upto_region 15 with fail
          go_wp2_with fail
          refine (HJ.out _ C4.out).mono ?_
          rintro e w5 ⟨rfl, hb5⟩
          have Y5 : BoxN w5 w1.heap.size #[.int .i64 c.1, .int .i64 c.2.1, .slice ra nn rc, .slice (some ⟨b, off, none⟩) mm lc] 30 := (hb5.block _ (by omega)).trans Y4.out
          clear x0 x1 x2 x3
          have x0 := Y5.cell (i := 0) rfl
          clear Y5
          go_wp2_with fail
          go_ret
          exact ⟨rfl, B4.out.trans (hb5.mono B4.out.size)⟩
    · have hg : m < -1 ∨ ¬ m < -1 ∧ q = 1000000000000 := by
        by_cases h1 : m < -1
        · exact .inl h1
        · refine .inr ⟨h1, ?_⟩
          by_cases h2 : q = 1000000000000
          · exact h2
          · exact absurd ⟨by omega, h2⟩ hc
      clear hc HF
      rcases hg with h1 | ⟨h1, h2⟩
      · have d1 : decide (m < -1) = true := decide_eq_true h1
        clear h1
        go_wp2_with fail
        refine (hS.out _ C4.out).mono ?_
        rintro e w5 ⟨rfl, hb5⟩
        go_wp2_with fail
        go_ret
        exact ⟨rfl, B4.out.trans (hb5.mono B4.out.size)⟩
      · have d1 : decide (m < -1) = false := decide_eq_false h1
        have d2 : (q == 1000000000000) = true := by simpa using h2
        clear h1 h2
        go_wp2_with fail
        refine (hS.out _ C4.out).mono ?_
        rintro e w5 ⟨rfl, hb5⟩
        go_wp2_with fail
        go_ret
        exact ⟨rfl, B4.out.trans (hb5.mono B4.out.size)⟩
end Go.Proofs.Ytcjpedolmnahfaa

/- Walks: the law FnQuery. -/
set_option linter.unusedVariables false
set_option linter.unusedSimpArgs false
namespace Go.Proofs.Ytcjpedolmnahfaa
open Go.RowKit

theorem max_half (f t : Int) (h0 : 0 ≤ f ∧ f ≤ 1000000000000) (h1 : 0 ≤ t ∧ t ≤ 1000000000000) : ∃ d m, t - f = d ∧ max 0 d = (max 0 (t - f)) ∧ 0 ≤ (max 0 (t - f)) ∧ (max 0 (t - f)) ≤ 1000000000000 ∧ m = f + (max 0 (t - f)) / 2 ∧ 0 ≤ m ∧ m ≤ 2000000000000 := ⟨_, _, rfl, rfl, by omega, by omega, rfl, by omega, by omega⟩

set_option maxRecDepth 100000 in
set_option maxHeartbeats 8000000 in
theorem walkFnQuery (A : Option Addr) (n ca : Nat) (w : World) (hcode : n ≤ 1048576 → CodeAt w A n ca) :
    Calls Try.prog 8 #[.slice A n ca] w fun e w' => e = .returned (.bool true) ∧ Below w.heap.size w w' := by
  by_cases hbig : (1048576 : Int) < n
  · have hb : decide (1048576 < (n : Int)) = true := decide_eq_true hbig
    clear hcode
    have HBG := Lib.hid (fun W => big_any A n ca W)
    rw [hb] at HBG
    go_enter Try.func8, Try.ntmps8
    go_wp2_with (go_at_call 13; refine (HBG.out _).mono ?_; rintro e w' ⟨rfl, rfl⟩)
    go_ret
    exact ⟨rfl, Below.refl _ _⟩
  · have hb : decide (1048576 < (n : Int)) = false := decide_eq_false hbig
    have HBG := Lib.hid (fun W => big_any A n ca W)
    rw [hb] at HBG
    have hD := Lib.hid (DrawQuery_any A n ca w (hcode (by omega)))
    have hIm := Lib.hid (fun v c f t hw W h => implQuery_any v c f t hw W h)
    have hSp := Lib.hid (fun v c f t hw W h => specQuery_any v c f t hw W h)
    have hPk := Lib.hid (fun v c q W h => implPick_any v c q W h)
    obtain ⟨i0, hi, hz0, hz1, hz2⟩ := info_parts info_pt
    clear hcode hb hbig
    go_enter Try.func8, Try.ntmps8
    go_wp2_with (go_at_call 13; refine (HBG.out _).mono ?_; rintro e w' ⟨rfl, rfl⟩)
    refine hD.out.mono ?_
    rintro e w1 ⟨rv, lv, es, c, f, t, hw, rfl, hd, hcr, hrf, hrt, hrh, hb1⟩
    obtain ⟨nn, hnn⟩ : ∃ nn, c.2.2.1.length = nn := ⟨_, rfl⟩
    obtain ⟨mm, hmm⟩ : ∃ mm, c.2.2.2.length = mm := ⟨_, rfl⟩
    obtain ⟨ra, rc, rfl⟩ : ∃ a c', rv = .slice a nn c' := by rw [← hnn]; exact hd.raw.shape
    obtain ⟨la, lc, rfl⟩ : ∃ a c', lv = .slice a mm c' := by rw [← hmm]; exact hd.lvl.row.shape
    obtain ⟨w2, hw2⟩ : ∃ w2, w1.alloc (.cells #[.int .i64 c.1, .int .i64 c.2.1, .slice ra nn rc, .slice la mm lc] 30) = w2 := ⟨_, rfl⟩
    have hb2 : Below w1.heap.size w1 w2 := by rw [← hw2]; exact (Below.refl _ _).alloc (Nat.le_refl _) _
    have X2 : Hid (BoxN w2 w1.heap.size #[.int .i64 c.1, .int .i64 c.2.1, .slice ra nn rc, .slice la mm lc] 30) := Lib.hid (by rw [← hw2]; exact World.alloc_heap_new w1 _)
    have C2 := Lib.hid (show CV w2 w2.heap.size (.agg #[.int .i64 c.1, .int .i64 c.2.1, .slice ra nn rc, .slice la mm lc]) c from (hd.below hb2).cv hcr)
    have B2 := Lib.hid (hb1.trans (hb2.mono hb1.size))
    have HW2 := Lib.hid hw2
    have hI := Lib.hid (fun W f t h => hIm.out (.agg #[.int .i64 c.1, .int .i64 c.2.1, .slice ra nn rc, .slice la mm lc]) c f t hw W h)
    have hS := Lib.hid (fun W h => hSp.out (.agg #[.int .i64 c.1, .int .i64 c.2.1, .slice ra nn rc, .slice la mm lc]) c f t hw W h)
    have hP := Lib.hid (fun W q h => hPk.out (.agg #[.int .i64 c.1, .int .i64 c.2.1, .slice ra nn rc, .slice la mm lc]) c q W h)
    obtain ⟨yr0, hyl⟩ := qryM_ok (f := f) (t := t) (h := hw) hcr
    have YR := Lib.hid yr0
    have HIN := Lib.hid (fun hb j hj => qry_in (c := c) (f := f) (t := t) (h := hw) hb (j := j) hj)
    have HTW := Lib.hid (fun m hb hm hp => qry_two (c := c) (f := f) (t := t) (h := hw) (m := m) hb hm hp)
    have HYE := Lib.hid (fun hb => qry_yes (c := c) (f := f) (t := t) (h := hw) hb)
    have HLB := Lib.hid (fun f t => (qryM_ok (f := f) (t := t) (h := hw) hcr).2)
    obtain ⟨ys, hys⟩ : ∃ ys, qryM c f t hw = ys := ⟨_, rfl⟩
    obtain ⟨fb, hfb⟩ : ∃ fb, qryB c f t hw = fb := ⟨_, rfl⟩
    have HI1 := Lib.hid (fun W h => hI.out W f t h)
    rw [hys, hfb] at HI1 hS
    rw [hys] at YR hyl HIN HTW
    rw [hfb] at HIN HTW HYE
    have HSM := Lib.hid (fun v u W h h' => samePoints_any v u ys W h h')
    have S1 := hb1.size
    have S2 := X2.out.lt
    have x0 := X2.out.cell (i := 0) rfl
    have x1 := X2.out.cell (i := 1) rfl
    have x2 := X2.out.cell (i := 2) rfl
    have x3 := X2.out.cell (i := 3) rfl
    unfold QPost at HI1 hS hI
    clear hw2 hd hcr hb1 hb2 hnn hmm hIm hSp hD HBG hPk yr0 hys hfb hrf hrt hrh
    go_upto_region 4 with fail
    rw [HW2.out]
    clear HW2
    go_wp2_with fail
    refine (HI1.out _ C2.out).mono ?_
    rintro e w3 ⟨v3, rfl, ho3, hb3⟩
    have ho3' : w3.ownsRow w2.heap.size 43 2 v3 ys.length (prs ys) := ho3
    have O3 := Lib.hid ho3'
    have B23 := Lib.hid hb3
    have Y3 : Hid (BoxN w3 w1.heap.size #[.int .i64 c.1, .int .i64 c.2.1, .slice ra nn rc, .slice la mm lc] 30) := Lib.hid ((hb3.block _ S2).trans X2.out)
    have C3 := Lib.hid ((C2.out.below hb3).up hb3.size)
    have S3 := hb3.size
    clear x0 x1 x2 x3 hb3 ho3 ho3'
    have x0 := Y3.out.cell (i := 0) rfl
    have x1 := Y3.out.cell (i := 1) rfl
    have x2 := Y3.out.cell (i := 2) rfl
    have x3 := Y3.out.cell (i := 3) rfl
    go_upto_region 5 with fail
    go_wp2_with fail
    refine (hS.out _ C3.out).mono ?_
    rintro e w4 ⟨v4, rfl, ho4, hb4⟩
    have ho4' : w4.ownsRow w3.heap.size 43 2 v4 ys.length (prs ys) := ho4
    have O4 := Lib.hid ho4'
    have P4 := Lib.hid (u_own_below O3.out hb4)
    have B24 := Lib.hid (B23.out.trans (hb4.mono S3))
    have S4 := B24.out.size
    have S34 := hb4.size
    have B4 := Lib.hid (B2.out.trans (B24.out.mono B2.out.size))
    have Y4 : Hid (BoxN w4 w1.heap.size #[.int .i64 c.1, .int .i64 c.2.1, .slice ra nn rc, .slice la mm lc] 30) := Lib.hid ((B24.out.block _ S2).trans X2.out)
    have C4 := Lib.hid ((C2.out.below B24.out).up B24.out.size)
    clear x0 x1 x2 x3 hb4 C2 C3 Y3 B23 ho4 ho4' O3
    have HSA := Lib.hid (HSM.out v3 v4 w4 (PL.of_own P4.out rfl YR.out hyl) (PL.of_own O4.out rfl YR.out hyl))
    cases fb with
    | false =>
      go_wp2_with fail
      refine HSA.out.mono ?_
      rintro e w5 ⟨rfl, hb5⟩
      have B5 := Lib.hid (B4.out.trans (hb5.mono B4.out.size))
      have HSB := Lib.hid (HSM.out v3 v4 w5 (PL.of_own (u_own_below P4.out hb5) rfl YR.out hyl) (PL.of_own (u_own_below O4.out hb5) rfl YR.out hyl))
      clear hb5
      go_wp2_with fail
      refine HSB.out.mono ?_
      rintro e w6 ⟨rfl, hb6⟩
      go_wp2_with fail
      go_ret
      exact ⟨rfl, B5.out.trans (hb6.mono B5.out.size)⟩
    | true =>
      go_wp2_with fail
      refine HSA.out.mono ?_
      rintro e w5 ⟨rfl, hb5⟩
      have B5 := Lib.hid (B4.out.trans (hb5.mono B4.out.size))
      have P5 := Lib.hid (u_own_below P4.out hb5)
      have Y5 : Hid (BoxN w5 w1.heap.size #[.int .i64 c.1, .int .i64 c.2.1, .slice ra nn rc, .slice la mm lc] 30) := Lib.hid ((hb5.block _ Y4.out.lt).trans Y4.out)
      have C5 := Lib.hid ((C4.out.below hb5).up hb5.size)
      have S5 := hb5.size
      have HIN1 := Lib.hid (fun j hj => HIN.out (by first | rfl | trivial) j hj)
      have HTW1 := Lib.hid (fun m hm hp => HTW.out m (by first | rfl | trivial) hm hp)
      obtain ⟨⟨_, f0, f1⟩, ⟨t0, t1⟩, z1, z2⟩ := HYE.out (by first | rfl | trivial)
      have PL5 := Lib.hid (PL.of_own P5.out rfl YR.out hyl)
      clear hb5 z1 z2 HIN HTW HYE HSA P4 O4 Y4 C4 B4
      obtain ⟨_, _, Ab, cb, rfl, hcb⟩ := PL5.out
      go_wp2_with fail
      go_loopw [11] (fun i wr => ∃ (j : Nat), j ≤ ys.length ∧ i = .int .i64 j ∧ Hid (Below w5.heap.size w5 wr)) (fun i _ => ys.length - (intOf i).toNat)
      case atStart => exact ⟨0, Nat.zero_le _, rfl, Lib.hid (Below.refl _ _)⟩
      case round =>
        obtain ⟨j, hj, rfl, HB⟩ := hrel
        by_cases hlt : j < ys.length
        · rcases hcb with hcb | ⟨bb, ob, rfl, hbb, hcb⟩
          · subst hcb; simp at hlt
          have hy0 : wr.cell? ⟨bb, ob + j * 2, none⟩ = some (.int .i64 (ys.getD j (0, 0)).1) := (HB.out.cell (p := ⟨bb, ob + j * 2, none⟩) hbb).trans (hcb j hlt).1
          obtain ⟨⟨g0, g1⟩, g2⟩ := HIN1.out j hlt
          by_cases hj0 : j = 0
          · generalize (ys.getD j (0, 0)).1 = x at *
            have d1 : decide (x < f) = false := decide_eq_false (by omega)
            have d2 : decide (t ≤ x) = false := decide_eq_false (by omega)
            have d3 : decide ((0 : Int) < (j : Int)) = false := decide_eq_false (by omega)
            have d3' : decide (0 < j) = false := decide_eq_false (by omega)
            clear hcb g2 hj0
            go_wp2_with fail
            go_quiet (fail)
            go_wp2_with fail
            go_roundw
            case rel => exact ⟨j + 1, by omega, by go_num, Lib.hid (below_drewN_u HB.out _)⟩
            case measure => simp [intOf]; omega
          · have g3 := g2 (by omega)
            obtain ⟨k, hk⟩ : ∃ k, j - 1 = k := ⟨_, rfl⟩
            have hy1 : wr.cell? ⟨bb, ob + k * 2, none⟩ = some (.int .i64 (ys.getD k (0, 0)).1) := (HB.out.cell (p := ⟨bb, ob + k * 2, none⟩) hbb).trans (hcb k (by omega)).1
            rw [hk] at g3
            generalize (ys.getD j (0, 0)).1 = x at *
            generalize (ys.getD k (0, 0)).1 = y at *
            have d1 : decide (x < f) = false := decide_eq_false (by omega)
            have d2 : decide (t ≤ x) = false := decide_eq_false (by omega)
            have d3 : decide ((0 : Int) < (j : Int)) = true := decide_eq_true (by omega)
            have d3' : decide (0 < j) = true := decide_eq_true (by omega)
            have d3n : 0 < j := by omega
            have d4 : decide (x ≤ y) = false := decide_eq_false (by omega)
            have e1 : IntKind.i64.wrap ((j : Int) - 1) = (k : Int) := by rw [IntWalk.i64_in _ (by omega)]; omega
            have hkl : k < ys.length := by omega
            have hklI : (k : Int) < (ys.length : Int) := by omega
            clear hcb g2 hj0 hk
            go_wp2_with fail
            go_quiet (fail)
            go_wp2_with fail
            go_roundw
            case rel => exact ⟨j + 1, by omega, by go_num, Lib.hid (below_drewN_u HB.out _)⟩
            case measure => simp [intOf]; omega
        · obtain rfl : j = ys.length := by omega
          have Bq := Lib.hid (B5.out.trans (HB.out.mono B5.out.size))
          have Yq : Hid (BoxN wr w1.heap.size #[.int .i64 c.1, .int .i64 c.2.1, .slice ra nn rc, .slice la mm lc] 30) := Lib.hid ((HB.out.block _ Y5.out.lt).trans Y5.out)
          have Cq := Lib.hid ((C5.out.below HB.out).up HB.out.size)
          have Pq := Lib.hid (u_own_below P5.out HB.out)
          obtain ⟨d, hd⟩ : ∃ d, t - f = d := ⟨_, rfl⟩
          have eD : IntKind.i64.wrap (t - f) = d := by rw [IntWalk.i64_in _ (by omega)]; exact hd
          obtain ⟨x, hx⟩ : ∃ x, (if 0 < d then d else 0) = x := ⟨_, rfl⟩
          have hx2 : x = max 0 (t - f) := by rw [← hx, hd]; split <;> omega
          obtain ⟨q, hq⟩ : ∃ q, x.tdiv 2 = q := ⟨_, rfl⟩
          have hq2 : q = max 0 (t - f) / 2 := by rw [← hq, Int.tdiv_eq_ediv_of_nonneg (by omega), hx2]
          have eQ : IntKind.i64.wrap q = q := IntWalk.i64_in _ (by omega)
          obtain ⟨m, hm⟩ : ∃ m, m = f + q := ⟨_, rfl⟩
          have eM : IntKind.i64.wrap (f + q) = m := by rw [IntWalk.i64_in _ (by omega), hm]
          have HTW2 := Lib.hid (fun hp => HTW1.out m (by rw [hm, hq2]) hp)
          clear hx2 hq2 hm hd HB P5 Y5 C5 PL5 HIN1 HTW1 hcb
          go_upto_region 14 with fail
          have HCV := Lib.hid (fun W (h : Below wr.heap.size wr W) => show CV W W.heap.size (.agg #[.int .i64 c.1, .int .i64 c.2.1, .slice ra nn rc, .slice la mm lc]) c from (Cq.out.below h).up h.size)
          obtain ⟨pm, hpm⟩ : ∃ pm, pickM c m = pm := ⟨_, rfl⟩
          obtain ⟨pf, hpf⟩ : ∃ pf, pickM c f = pf := ⟨_, rfl⟩
          have HPm := Lib.hid (fun W h => hP.out W m h)
          have HPf := Lib.hid (fun W h => hP.out W f h)
          rw [hpm] at HPm
          rw [hpf] at HPf
          rw [hpm, hpf] at HTW2
          have HKO := Lib.hid (fun W (h : Below wr.heap.size wr W) => show Below wr.heap.size wr W ∧ W.cell? ⟨w1.heap.size, 0, none⟩ = some (.int .i64 c.1) ∧ W.cell? ⟨w1.heap.size, 1, none⟩ = some (.int .i64 c.2.1) ∧ W.cell? ⟨w1.heap.size, 2, none⟩ = some (.slice ra nn rc) ∧ W.cell? ⟨w1.heap.size, 3, none⟩ = some (.slice la mm lc) from
            ⟨h, BoxN.cell (W := W) (i := 0) ((h.block _ Yq.out.lt).trans Yq.out) rfl, BoxN.cell (W := W) (i := 1) ((h.block _ Yq.out.lt).trans Yq.out) rfl, BoxN.cell (W := W) (i := 2) ((h.block _ Yq.out.lt).trans Yq.out) rfl, BoxN.cell (W := W) (i := 3) ((h.block _ Yq.out.lt).trans Yq.out) rfl⟩)
          have HKD := Lib.hid (HKO.out _ (show Below wr.heap.size wr wr.drew from (Below.refl _ _).drew))
          clear hpm hpf hx hq eD eQ eM
          go_region_held3 (fun W => Below wr.heap.size wr W ∧ W.cell? ⟨w1.heap.size, 0, none⟩ = some (.int .i64 c.1) ∧ W.cell? ⟨w1.heap.size, 1, none⟩ = some (.int .i64 c.2.1) ∧ W.cell? ⟨w1.heap.size, 2, none⟩ = some (.slice ra nn rc) ∧ W.cell? ⟨w1.heap.size, 3, none⟩ = some (.slice la mm lc))
            (first | with_reducible assumption | with_reducible exact HKD.out | with_reducible exact HKO.out _ (below_step_ck (And.left (by assumption)) (by assumption)))
            (first
              | (go_at_call 36; (with_reducible refine (HPm.out _ (HCV.out _ (by first | exact And.left (by assumption) | exact HKD.out.1))).mono ?_); rintro e w6 ⟨rfl, hb6⟩; have K6 := Lib.hid (show Below wr.heap.size wr w6 from below_step_ck (by first | exact And.left (by assumption) | exact HKD.out.1) hb6))
              | (go_at_call 36; (with_reducible refine (HPf.out _ (HCV.out _ (by first | exact And.left (by assumption) | exact HKD.out.1))).mono ?_); rintro e w7 ⟨rfl, hb7⟩; have K7 := Lib.hid (show Below wr.heap.size wr w7 from below_step_ck (by first | exact And.left (by assumption) | exact HKD.out.1) hb7)))
          have Y7 : Hid (BoxN w7 w1.heap.size #[.int .i64 c.1, .int .i64 c.2.1, .slice ra nn rc, .slice la mm lc] 30) := Lib.hid ((K7.out.block _ Yq.out.lt).trans Yq.out)
          have C7 := Lib.hid (HCV.out w7 K7.out)
          have P7 := Lib.hid (u_own_below Pq.out K7.out)
          have B7 := Lib.hid (Bq.out.trans (K7.out.mono Bq.out.size))
          have S7 := B7.out.size
          clear HCV HPm HPf HKO HKD K6 K7 hb6 hb7 Yq Cq Pq Bq
          by_cases hpk : pm = pf
          · obtain ⟨b1, b2, e12⟩ := HTW2.out hpk
            have d9 : (pm != pf) = false := by simpa using hpk
            have HQ1 := Lib.hid (fun W h => hI.out W f m h)
            have HQ2 := Lib.hid (fun W h => hI.out W m t h)
            rw [b1] at HQ1
            rw [b2] at HQ2
            have hl1 := HLB.out f m
            have hl2 := HLB.out m t
            generalize qryM c f m hw = y1 at *
            generalize qryM c m t hw = y2 at *
            have E12 := Lib.hid e12
            clear HTW2 hpk b1 b2 e12 hI hP
            have x0 := Y7.out.cell (i := 0) rfl
            have x1 := Y7.out.cell (i := 1) rfl
            have x2 := Y7.out.cell (i := 2) rfl
            have x3 := Y7.out.cell (i := 3) rfl
            go_wp2_with fail
            refine (HQ1.out _ C7.out).mono ?_
            rintro e w8 ⟨v8, rfl, ho8, hb8⟩
            have ho8' : w8.ownsRow w7.heap.size 43 2 v8 y1.length (prs y1) := ho8
            have O8 := Lib.hid ho8'
            have Y8 : Hid (BoxN w8 w1.heap.size #[.int .i64 c.1, .int .i64 c.2.1, .slice ra nn rc, .slice la mm lc] 30) := Lib.hid ((hb8.block _ Y7.out.lt).trans Y7.out)
            have C8 := Lib.hid ((C7.out.below hb8).up hb8.size)
            have P8 := Lib.hid (u_own_below P7.out hb8)
            have B8 := Lib.hid (B7.out.trans (hb8.mono B7.out.size))
            clear x0 x1 x2 x3 hb8 ho8 ho8' Y7 C7 P7 B7 S7
            have x0 := Y8.out.cell (i := 0) rfl
            have x1 := Y8.out.cell (i := 1) rfl
            have x2 := Y8.out.cell (i := 2) rfl
            have x3 := Y8.out.cell (i := 3) rfl
            go_wp2_with fail
            refine (HQ2.out _ C8.out).mono ?_
            rintro e w9 ⟨v9, rfl, ho9, hb9⟩
            have ho9' : w9.ownsRow w8.heap.size 43 2 v9 y2.length (prs y2) := ho9
            have da : Below w9.heap.size w9 (w9.alloc (.cells #[] 43)) := (Below.refl _ _).alloc (Nat.le_refl _) _
            have O9 := Lib.hid (u_own_below ho9' da)
            have Q9 := Lib.hid (u_own_below (u_own_below O8.out hb9) da)
            have P9 := Lib.hid (u_own_below P8.out hb9)
            have L9 := Lib.hid (fun k (e : v9.ownBlock = some k) => show k < w9.heap.size by have := ho9'.lt k e; omega)
            have B9 := Lib.hid (B8.out.trans (hb9.mono B8.out.size))
            have M9 := Lib.hid (World.ownsRow_made w9 (base := w9.heap.size) (e := 43) (size := 2) #[] 0 (Nat.le_refl _) (by simp [maxLen]) rfl)
            have DA := Lib.hid da
            have DAs := da.size
            clear x0 x1 x2 x3 hb9 ho9 ho9' Y8 C8 P8 B8 O8 da
            go_wp2_with (at_builtin; refine wpList_append_rowG (by first | rfl | (simp [Region.wanted, yielded])) _ _ 27 rfl w9.heap.size 43 i0 (.agg #[.int .i64 0, .int .i64 0]) 2 16 Try.underlying27 hi hz0 hz1 hz2 rfl (by decide) (.slice (some ⟨w9.heap.size, 0, none⟩) 0 0) 0 (prs []) rfl M9.out _ v8 y1.length (prs y1) rfl Q9.out (prs_one _) ?c3 ?c4 ?c5 ?_)
            case c3 => unfold maxLen; omega
            case c4 => omega
            case c5 => first | omega | (simp; done)
            intro v10 w10 hown10 hg10
            have hown10 : w10.ownsRow w9.heap.size 43 2 v10 y1.length (prs y1) := by simpa [prs] using hown10
            have D10 := Lib.hid (DA.out.grown hg10 DAs (fun j e => by simp [Value.ownBlock] at e; omega))
            have O10 := Lib.hid hown10
            have N10 := Lib.hid (O9.out.kept hg10 (by right; intro e; have := L9.out w9.heap.size (by rw [e]; rfl); omega))
            have D10s := D10.out.size
            clear hown10 hg10 M9 Q9
            go_wp2_with (at_builtin; refine wpList_append_rowG (by first | rfl | (simp [Region.wanted, yielded])) _ _ 27 rfl w9.heap.size 43 i0 (.agg #[.int .i64 0, .int .i64 0]) 2 16 Try.underlying27 hi hz0 hz1 hz2 rfl (by decide) v10 y1.length (prs y1) rfl O10.out _ v9 y2.length (prs y2) rfl N10.out (prs_one _) ?d3 ?d4 ?d5 ?_)
            case d3 => unfold maxLen; omega
            case d4 => omega
            case d5 => omega
            intro v11 w11 hown11 hg11
            rw [← prs_append, ← List.length_append, E12.out] at hown11
            have D11 := Lib.hid (D10.out.grown hg11 D10s (fun j e => (O10.out.lt j e).1))
            have R11 := Lib.hid (PL.of_own hown11 rfl YR.out hyl)
            have P11 := Lib.hid (PL.of_own (u_own_below P9.out D11.out) rfl YR.out hyl)
            have B11 := Lib.hid (B9.out.trans (D11.out.mono B9.out.size))
            clear hown11 hg11 D10 N10 O10
            go_wp2_with fail
            refine (HSM.out _ _ _ R11.out P11.out).mono ?_
            rintro e w12 ⟨rfl, hb12⟩
            go_wp2_with fail
            go_ret
            exact ⟨rfl, B11.out.trans (hb12.mono B11.out.size)⟩
          · have d9 : (pm != pf) = true := by simpa using hpk
            clear HTW2 hpk hI hP
            go_wp2_with fail
            go_ret
            exact ⟨rfl, B7.out⟩
end Go.Proofs.Ytcjpedolmnahfaa
