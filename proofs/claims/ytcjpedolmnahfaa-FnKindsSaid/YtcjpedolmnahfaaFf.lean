/- The lexical order of a great region, looked at once for each operation. -/
import Derived.Deep.QuietTactic
import Derived.BigQuiet
import Derived.Test.YtcjpedolmnahfaaProg
import Derived.Test.YtcjpedolmnahfaaCp
import Derived.Test.YtcjpedolmnahfaaCk
import Derived.Test.YtcjpedolmnahfaaPk
import Derived.Deep.DeepCutAuto
import Derived.Test.YtcjpedolmnahfaaFc
set_option linter.unusedVariables false
set_option linter.unusedSimpArgs false
namespace Go.Proofs.Ytcjpedolmnahfaa
open Go.RowKit

def lexC (ops : Array Oper) : Nat → List Oper → Bool
  | _, [] => true
  | k, o :: rest => (o.after.toList.all fun e => !Region.binds .any e || Nat.blt e.on k) && (rest.all fun oj => (oj.after.toList.any fun e => Region.binds .any e && Nat.beq e.on k) || o.apart ops oj) && lexC ops (k + 1) rest
theorem getD_set_eq (a : Array Bool) (k : Nat) (b d : Bool) (h : k < a.size) : (a.setIfInBounds k b).getD k d = b := by
  rw [Array.getD_eq_getD_getElem?, Array.getElem?_setIfInBounds]
  simp [h]
theorem getD_set_neq (a : Array Bool) (k j : Nat) (b d : Bool) (h : k ≠ j) : (a.setIfInBounds k b).getD j d = a.getD j d := by
  rw [Array.getD_eq_getD_getElem?, Array.getD_eq_getD_getElem?, Array.getElem?_setIfInBounds]
  simp [h]
theorem lexC_from {ops : Array Oper} : ∀ (l : List Oper) (k : Nat) (listed : Array Bool), (∀ j, l[j]? = ops[k + j]?) → k + l.length = ops.size → listed.size = ops.size →
    (∀ j d, j < ops.size → listed.getD j d = decide (j < k)) → lexC ops k l = true → Region.lexFrom .any ops l.length k listed = true
  | [], k, listed, hl, hk, hs, hd, _ => by
    simp only [List.length_nil, Nat.add_zero] at hk
    show (Region.ready .any ops listed).isEmpty = true
    rw [List.isEmpty_iff]
    apply List.eq_nil_iff_forall_not_mem.2
    intro j hj
    obtain ⟨h1, o, ho, _⟩ := mem_ready.1 hj
    have hlt : j < ops.size := (Array.getElem?_eq_some_iff.1 ho).1
    rw [hd j true hlt, decide_eq_true (by omega)] at h1
    cases h1
  | o :: rest, k, listed, hl, hk, hs, hd, h => by
    have h0 : ops[k]? = some o := by simpa using (hl 0).symm
    have hlt : k < ops.size := (Array.getElem?_eq_some_iff.1 h0).1
    unfold lexC at h
    rw [Bool.and_eq_true, Bool.and_eq_true] at h
    obtain ⟨⟨h1, h2⟩, h3⟩ := h
    show ((Region.ready .any ops listed).contains k && Region.free .any ops listed k && Region.lexFrom .any ops rest.length (k + 1) (listed.setIfInBounds k true)) = true
    rw [Bool.and_eq_true, Bool.and_eq_true]
    refine ⟨⟨?_, ?_⟩, ?_⟩
    · rw [List.contains_iff_mem]
      refine mem_ready.2 ⟨by rw [hd k true hlt]; simp, o, h0, fun e he hb => ?_⟩
      have h4 := List.all_eq_true.1 h1 e (by simpa using he)
      rw [hb] at h4
      have h5 : e.on < k := by simpa [Nat.blt_eq] using h4
      rw [hd _ false (by omega), decide_eq_true h5]
    · simp only [Region.free, h0, List.all_eq_true, List.mem_range]
      intro j hj
      by_cases e1 : j = k
      · subst e1; simp
      · by_cases e2 : j < k
        · rw [hd j true hj, decide_eq_true e2]; simp
        · obtain ⟨oj, hoj⟩ : ∃ oj, ops[j]? = some oj := ⟨_, Array.getElem?_eq_getElem hj⟩
          have hm : oj ∈ rest := by
            have h6 := hl (j - k)
            rw [show k + (j - k) = j by omega, hoj, show j - k = (j - k - 1) + 1 by omega, List.getElem?_cons_succ] at h6
            exact List.mem_of_getElem? h6
          have h7 := List.all_eq_true.1 h2 oj hm
          rw [hoj]
          rw [Bool.or_eq_true] at h7
          rcases h7 with h7 | h7
          · have h8 : (oj.after.any fun e => Region.binds .any e && e.on == k) = true := by
              rw [← Array.any_toList]
              obtain ⟨e, he, hb⟩ := List.any_eq_true.1 h7
              exact List.any_eq_true.2 ⟨e, he, by simpa using hb⟩
            simp only [h8]; simp
          · simp only [h7]; simp
    · refine lexC_from rest (k + 1) _ (fun j => ?_) (by simp only [List.length_cons] at hk; omega) (by simpa using hs) (fun j d hj => ?_) h3
      · have := hl (j + 1)
        rw [List.getElem?_cons_succ] at this
        rw [this, show k + (j + 1) = k + 1 + j by omega]
      · by_cases e1 : k = j
        · subst e1
          rw [getD_set_eq _ _ _ _ (by omega), decide_eq_true (by omega)]
        · rw [getD_set_neq _ _ _ _ _ e1, hd j d hj]
          congr 1
          exact propext ⟨fun _ => by omega, fun _ => by omega⟩
theorem lexB_of {l : List Oper} (h1 : Region.noSelect l.toArray = true) (h2 : lexC l.toArray 0 l = true) : Region.lexB .any l.toArray = true := by
  unfold Region.lexB
  rw [h1, Bool.true_and]
  have := lexC_from (ops := l.toArray) l 0 (Array.replicate l.toArray.size false) (fun j => by simp) (by simp) (by simp) (fun j d hj => by
    rw [Array.getD_eq_getD_getElem?, Array.getElem?_replicate, if_pos hj]; simp) h2
  simpa using this
end Go.Proofs.Ytcjpedolmnahfaa

/- Walks: drawn cascades and what is asked of them. -/
set_option linter.unusedVariables false
set_option linter.unusedSimpArgs false
namespace Go.Proofs.Ytcjpedolmnahfaa
open Go.RowKit

def DQPost (w : World) (e : Ending) (w' : World) : Prop :=
  ∃ rv lv es c a b q, e = .returned (.tuple #[.agg #[.int .i64 c.1, .int .i64 c.2.1, rv, lv], .int .i64 a, .int .i64 b, .int .i64 q]) ∧ CD w' w.heap.size w'.heap.size c rv lv es ∧ CR c ∧ Rng a ∧ Rng b ∧ Rng q ∧ Below w.heap.size w w'
set_option maxRecDepth 100000 in
set_option maxHeartbeats 4000000 in
theorem DrawQuery_any (A : Option Addr) (n c : Nat) (w : World) (h : CodeAt w A n c) :
    Calls Try.prog 38 #[.slice A n c] w (DQPost w) := by
  obtain ⟨w0, hw0⟩ : ∃ w0, w.alloc (.cells #[.int .i64 0, .int .i64 0, .slice none 0 0, .slice none 0 0] 30) = w0 := ⟨_, rfl⟩
  have B0 := Lib.hid (show Below w.heap.size w w0 from by rw [← hw0]; exact (Below.refl _ _).alloc (Nat.le_refl _) _)
  have R0 : Hid (BoxN w0 w.heap.size #[.int .i64 0, .int .i64 0, .slice none 0 0, .slice none 0 0] 30) := Lib.hid (by rw [← hw0]; exact World.alloc_heap_new w _)
  have H := Lib.hid (h.below B0.out)
  have HW0 := Lib.hid hw0
  clear h hw0
  go_enter Try.func38, Try.ntmps38
  go_wp2_with fail
  rw [HW0.out]
  refine (open_any A n c _ H.out).mono ?_
  rintro e w1 ⟨rfl, hrd, hb1⟩
  have Hrd := Lib.hid hrd
  have S0 := R0.out.lt
  obtain ⟨g, hg⟩ : ∃ g, w0.heap.size = g := ⟨_, rfl⟩
  have B1 := Lib.hid (B0.out.trans (hb1.mono (by omega)))
  have R1 : Hid (BoxN w1 w.heap.size #[.int .i64 0, .int .i64 0, .slice none 0 0, .slice none 0 0] 30) := Lib.hid (R0.out.below hb1)
  have S1 := R1.out.lt
  rw [hg] at Hrd ⊢
  have hgw : w.heap.size < g := by omega
  clear hrd hb1 H hg
  go_wp2_with fail
  refine (cascade_any _ _ _ Hrd.out).mono ?_
  rintro e w2 ⟨rv, lv, es, cs, rfl, hd, hcr, hdw⟩
  obtain ⟨nn, hnn⟩ : ∃ nn, cs.2.2.1.length = nn := ⟨_, rfl⟩
  obtain ⟨mm, hmm⟩ : ∃ mm, cs.2.2.2.length = mm := ⟨_, rfl⟩
  obtain ⟨ra, rc, rfl⟩ : ∃ a c', rv = .slice a nn c' := by rw [← hnn]; exact hd.raw.shape
  obtain ⟨la, lc, rfl⟩ : ∃ a c', lv = .slice a mm c' := by rw [← hmm]; exact hd.lvl.row.shape
  obtain ⟨w3, hw3⟩ : ∃ w3, w2.alloc (.cells #[.int .i64 cs.1, .int .i64 cs.2.1, .slice ra nn rc, .slice la mm lc] 30) = w3 := ⟨_, rfl⟩
  obtain ⟨ob, hob⟩ : ∃ ob, w2.heap.size = ob := ⟨_, rfl⟩
  have hb3 : Below w2.heap.size w2 w3 := by rw [← hw3]; exact (Below.refl _ _).alloc (Nat.le_refl _) _
  have X3 : Hid (BoxN w3 ob #[.int .i64 cs.1, .int .i64 cs.2.1, .slice ra nn rc, .slice la mm lc] 30) := Lib.hid (by rw [← hob, ← hw3]; exact World.alloc_heap_new w2 _)
  have R3 : Hid (BoxN w3 w.heap.size #[.int .i64 0, .int .i64 0, .slice none 0 0, .slice none 0 0] 30) := Lib.hid ((R1.out.kept hdw.2 (by intro e; injection e with e; omega)).below hb3)
  have G3 := Lib.hid (show Rd w3 g g from hdw.1.below hb3)
  have D3 := Lib.hid (hd.below hb3)
  have B3 := Lib.hid ((drw_below B1.out (by omega) hdw.2).trans (hb3.mono (by have := hdw.2.size; omega)))
  have CR3 := Lib.hid hcr
  have S2 := hdw.2.size
  have S3 := hb3.size
  have hobw : w.heap.size < ob := by omega
  have hg1 := Hrd.out.lt
  have hog : ¬ ob = g := by omega
  have HW3 := Lib.hid hw3
  have HOB := Lib.hid hob
  clear hnn hmm hd hcr hdw hw3 hob hb3 R1 B1 Hrd
  go_upto_region 3 with fail
  rw [HW3.out, HOB.out]
  clear HW3
  have hrng := CR3.out.now
  have HRD := Lib.hid (show Rd w3.drew g g from G3.out.drew)
  obtain ⟨now, hnow⟩ : ∃ now, cs.1 = now := ⟨_, rfl⟩
  have HN := Lib.hid hnow
  rw [hnow] at X3 hrng
  have x0 := X3.out.cell (i := 0) rfl
  have hgl := G3.out.lt
  clear hnow
  have HRG := Lib.hid hrng
  clear hrng
  go_region_law (first
    | (go_simp; go_at_call 52; refine (below_any g g 150 _ HRD.out (by omega) (by omega)).mono ?_; rintro e w4 ⟨_, rfl, ⟨p, rfl, hp0, hp1⟩, hrd4, hgr4⟩; have gr4 : w3.grownBy w4 (some g) := grown_trans' (grew_drewN w3 1 _) hgr4; have X4 : Hid (BoxN w4 ob #[.int .i64 now, .int .i64 cs.2.1, .slice ra nn rc, .slice la mm lc] 30) := Lib.hid (X3.out.kept gr4 (by intro e; injection e with e; omega)); have R4 : Hid (BoxN w4 w.heap.size #[.int .i64 0, .int .i64 0, .slice none 0 0, .slice none 0 0] 30) := Lib.hid (R3.out.kept gr4 (by intro e; injection e with e; omega)); have D4 := Lib.hid (D3.out.at_ (W' := w4) (fun k hk => gr4.block k (D3.out.lt hk).2.2 (fun e => by injection e with e; have := (D3.out.lt hk).1; omega))); have B4 := Lib.hid (drw_below B3.out (by omega) gr4); have S4 := gr4.size; have G4 := Lib.hid hrd4; have z0 := X4.out.cell (i := 0) rfl; have z1 := X4.out.cell (i := 1) rfl; have z2 := X4.out.cell (i := 2) rfl; have z3 := X4.out.cell (i := 3) rfl; clear hgr4 hrd4 gr4))
  all_goals
    go_simp
    have HRD4 := Lib.hid (show Rd w4.drew g g from G4.out.drew)
    have e1 : Rng (if 0 < IntKind.i64.wrap (now - p) then IntKind.i64.wrap (now - p) else 0) := by
      by_cases hh : 0 < IntKind.i64.wrap (now - p)
      · rw [if_pos hh]; exact rng_iwrap _
      · rw [if_neg hh]; exact rng_zero
    generalize (if 0 < IntKind.i64.wrap (now - p) then IntKind.i64.wrap (now - p) else 0) = qa at *
    have E1 := Lib.hid e1
    clear e1
    go_wp2_with fail
    clear x0 G3 D3 B3 R3 X3 HRD
    go_region_law (first
      | (go_simp; go_at_call 52; refine (below_any g g 60 _ HRD4.out (by omega) (by omega)).mono ?_; rintro e w5 ⟨_, rfl, ⟨u, rfl, hu0, hu1⟩, hrd5, hgr5⟩; have gr5 : w4.grownBy w5 (some g) := grown_trans' (grew_drewN w4 1 _) hgr5; have X5 : Hid (BoxN w5 ob #[.int .i64 now, .int .i64 cs.2.1, .slice ra nn rc, .slice la mm lc] 30) := Lib.hid (X4.out.kept gr5 (by intro e; injection e with e; omega)); have R5 : Hid (BoxN w5 w.heap.size #[.int .i64 0, .int .i64 0, .slice none 0 0, .slice none 0 0] 30) := Lib.hid (R4.out.kept gr5 (by intro e; injection e with e; omega)); have D5 := Lib.hid (D4.out.at_ (W' := w5) (fun k hk => gr5.block k (D4.out.lt hk).2.2 (fun e => by injection e with e; have := (D4.out.lt hk).1; omega))); have B5 := Lib.hid (drw_below B4.out (by omega) gr5); have S5 := gr5.size; have G5 := Lib.hid hrd5; have z0 := X5.out.cell (i := 0) rfl; have z1 := X5.out.cell (i := 1) rfl; have z2 := X5.out.cell (i := 2) rfl; have z3 := X5.out.cell (i := 3) rfl; clear hgr5 hrd5 gr5))
    all_goals
      go_simp
      have HRD5 := Lib.hid (show Rd w5.drew g g from G5.out.drew)
      generalize (if 0 < IntKind.i64.wrap (now - u) then IntKind.i64.wrap (now - u) else 0) = mu at *
      have e2 : Rng (IntKind.i64.wrap (mu + 10)) := rng_iwrap _
      generalize IntKind.i64.wrap (mu + 10) = qb at *
      have E2 := Lib.hid e2
      go_wp2_with fail
      clear e2 G4 D4 B4 R4 X4 HRD4
      go_region_law (first
        | (go_simp; go_at_call 51; refine (off_any g g 1 6 _ HRD5.out (by omega) (by omega) (by omega) (by omega)).mono ?_; rintro e w6 ⟨_, rfl, ⟨q, rfl, hq0, hq1⟩, hrd6, hgr6⟩; have gr6 : w5.grownBy w6 (some g) := grown_trans' (grew_drewN w5 1 _) hgr6; have X6 : Hid (BoxN w6 ob #[.int .i64 now, .int .i64 cs.2.1, .slice ra nn rc, .slice la mm lc] 30) := Lib.hid (X5.out.kept gr6 (by intro e; injection e with e; omega)); have R6 : Hid (BoxN w6 w.heap.size #[.int .i64 0, .int .i64 0, .slice none 0 0, .slice none 0 0] 30) := Lib.hid (R5.out.kept gr6 (by intro e; injection e with e; omega)); have D6 := Lib.hid (D5.out.at_ (W' := w6) (fun k hk => gr6.block k (D5.out.lt hk).2.2 (fun e => by injection e with e; have := (D5.out.lt hk).1; omega))); have B6 := Lib.hid (drw_below B5.out (by omega) gr6); have S6 := gr6.size; have G6 := Lib.hid hrd6; have z0 := X6.out.cell (i := 0) rfl; have z1 := X6.out.cell (i := 1) rfl; have z2 := X6.out.cell (i := 2) rfl; have z3 := X6.out.cell (i := 3) rfl; have r0 := R6.out.cell (i := 0) rfl; have f0 := R6.out.frozen (i := 0); have r1 := R6.out.cell (i := 1) rfl; have f1 := R6.out.frozen (i := 1); have r2 := R6.out.cell (i := 2) rfl; have f2 := R6.out.frozen (i := 2); have r3 := R6.out.cell (i := 3) rfl; have f3 := R6.out.frozen (i := 3); clear hgr6 hrd6 gr6))
      all_goals
        go_simp
        go_wp2_with fail
        rw [← HN.out]
        refine bodyPost_ret (v := .tuple #[.agg #[.int .i64 cs.fst, .int .i64 cs.2.1, .slice ra nn rc, .slice la mm lc], .int .i64 qa, .int .i64 qb, .int .i64 q]) (by simp [results, Try.results38, go_sem, r0, r1, r2, r3]) rfl ⟨.slice ra nn rc, .slice la mm lc, es, cs, qa, qb, q, rfl, (CD.set4n D6.out (.inl (by omega)) _ _ _ _).lift (by omega) (by simp [World.setCell]; omega), CR3.out, E1.out, E2.out, ⟨hq0, hq1⟩, KSP.set4 B6.out (Nat.le_refl _) _ _ _ _⟩
end Go.Proofs.Ytcjpedolmnahfaa

/- Walks: the law FnPick. -/
set_option linter.unusedVariables false
set_option linter.unusedSimpArgs false
namespace Go.Proofs.Ytcjpedolmnahfaa
open Go.RowKit

theorem pickF_case (nw q : Int) : ∀ (ls : List Lv) (i : Int), (pickF nw q i ls = -2 ∧ ∀ k, k < ls.length → ¬ nw - (ls.getD k zLv).2.1 < q) ∨ ∃ j : Nat, j < ls.length ∧ pickF nw q i ls = i + j ∧ (∀ k, k < j → ¬ nw - (ls.getD k zLv).2.1 < q) ∧ nw - (ls.getD j zLv).2.1 < q
  | [], i => .inl ⟨rfl, fun k hk => by simp at hk⟩
  | x :: ls, i => by
    by_cases h0 : nw - x.2.1 < q
    · refine .inr ⟨0, by simp, ?_, fun k hk => by omega, h0⟩
      unfold pickF; rw [if_pos h0]; simp
    · rcases pickF_case nw q ls (i + 1) with ⟨e, h⟩ | ⟨j, hj, e, hk, h⟩
      · refine .inl ⟨?_, fun k hk => ?_⟩
        · unfold pickF; rw [if_neg h0, e]
        · cases k with
          | zero => exact h0
          | succ k => exact h k (by simpa using hk)
      · refine .inr ⟨j + 1, by simpa using hj, ?_, fun k hk' => ?_, h⟩
        · unfold pickF; rw [if_neg h0, e]; omega
        · cases k with
          | zero => exact h0
          | succ k => exact hk k (by omega)
/-- what a choice says: of the points, or of the first level that keeps for so long -/
theorem pick_facts {c : Cs} {q : Int} (h : -1 ≤ pickM c q) (hq : q ≠ 1000000000000) : ((0 ≤ c.1 ∧ c.1 ≤ 1000000000000) ∧ (1 ≤ c.2.1 ∧ c.2.1 ≤ 1000000000) ∧ (0 ≤ q ∧ q < 1000000000000)) ∧ (-1 ≤ pickM c (q + 1) ∧ pickM c (q + 1) ≤ pickM c q) ∧ (pickM c q = -1 ∧ c.1 - c.2.1 < q ∨ ∃ j : Nat, j < c.2.2.2.length ∧ pickM c q = j ∧ ¬ c.1 - c.2.1 < q ∧ (∀ k, k < j → ¬ c.1 - (c.2.2.2.getD k zLv).2.1 < q) ∧ c.1 - (c.2.2.2.getD j zLv).2.1 < q ∧ (1 ≤ (c.2.2.2.getD j zLv).2.1 ∧ (c.2.2.2.getD j zLv).2.1 ≤ 1000000000) ∧ ∀ k, k < j → (1 ≤ (c.2.2.2.getD k zLv).2.1 ∧ (c.2.2.2.getD k zLv).2.1 ≤ 1000000000)) := by
  cases hc : cascB c with
  | false => unfold pickM at h; rw [hc] at h; simp at h
  | true =>
    cases hv : vIn q 0 1000000000000 with
    | false => unfold pickM at h; rw [hc, hv] at h; simp at h
    | true =>
      have hv' : 0 ≤ q ∧ q ≤ 1000000000000 := by unfold vIn at hv; simpa using hv
      have hv2 : vIn (q + 1) 0 1000000000000 = true := by unfold vIn; simp; omega
      have e1 : pickM c q = pickL c.1 c.2.1 q c.2.2.2 := by unfold pickM; rw [hc, hv]; rfl
      have e2 : pickM c (q + 1) = pickL c.1 c.2.1 (q + 1) c.2.2.2 := by unfold pickM; rw [hc, hv2]; rfl
      obtain ⟨hn, hk, hK⟩ := cascB_keep hc
      refine ⟨⟨hn, hk, by omega, by omega⟩, ?_⟩
      rw [e1] at h ⊢
      rw [e2]
      by_cases g : c.1 - c.2.1 < q
      · rw [pickL_raw g, pickL_raw (show c.1 - c.2.1 < q + 1 by omega)]
        exact ⟨by omega, .inl ⟨rfl, g⟩⟩
      · have e3 : pickL c.1 c.2.1 q c.2.2.2 = pickF c.1 q 0 c.2.2.2 := by unfold pickL; rw [if_neg g]
        rw [e3] at h ⊢
        rcases pickF_case c.1 q c.2.2.2 0 with ⟨e, _⟩ | ⟨j, hj, e, hk', hh⟩
        · rw [e] at h; omega
        · rw [e]
          refine ⟨?_, .inr ⟨j, hj, by omega, g, hk', hh, hK j hj, fun k hk => hK k (by omega)⟩⟩
          by_cases g2 : c.1 - c.2.1 < q + 1
          · rw [pickL_raw g2]; omega
          · have e4 : pickL c.1 c.2.1 (q + 1) c.2.2.2 = pickF c.1 (q + 1) 0 c.2.2.2 := by unfold pickL; rw [if_neg g2]
            rw [e4]
            rcases pickF_case c.1 (q + 1) c.2.2.2 0 with ⟨e5, hn5⟩ | ⟨j', hj', e5, hk5, _⟩
            · exact absurd (by omega) (hn5 j hj)
            · rw [e5]
              by_cases hjj : j < j'
              · exact absurd (by omega) (hk5 j hjj)
              · omega
theorem cv_ls {w : World} {B : Nat} {a b rv lv : Value} {c : Cs} (h : CV w B (.agg #[a, b, rv, lv]) c) : LS w B lv c.2.2.2 := by
  obtain ⟨rv', lv', he, _, hl, _⟩ := h
  simp at he
  obtain ⟨_, _, _, rfl⟩ := he
  exact hl

set_option maxRecDepth 100000 in
set_option maxHeartbeats 8000000 in
theorem walkFnPick (A : Option Addr) (n ca : Nat) (w : World) (hcode : n ≤ 1048576 → CodeAt w A n ca) :
    Calls Try.prog 7 #[.slice A n ca] w fun e w' => e = .returned (.bool true) ∧ Below w.heap.size w w' := by
  by_cases hbig : (1048576 : Int) < n
  · have hb : decide (1048576 < (n : Int)) = true := decide_eq_true hbig
    clear hcode
    have HBG := Lib.hid (fun W => big_any A n ca W)
    rw [hb] at HBG
    go_enter Try.func7, Try.ntmps7
    go_wp2_with (go_at_call 13; refine (HBG.out _).mono ?_; rintro e w' ⟨rfl, rfl⟩)
    go_ret
    exact ⟨rfl, Below.refl _ _⟩
  · have hb : decide (1048576 < (n : Int)) = false := decide_eq_false hbig
    have HBG := Lib.hid (fun W => big_any A n ca W)
    rw [hb] at HBG
    have hD := Lib.hid (DrawPick_any A n ca w (hcode (by omega)))
    have hIm := Lib.hid (fun v c q W h => implPick_any v c q W h)
    have hSp := Lib.hid (fun v c q W h => specPick_any v c q W h)
    clear hcode hb hbig
    go_enter Try.func7, Try.ntmps7
    go_wp2_with (go_at_call 13; refine (HBG.out _).mono ?_; rintro e w' ⟨rfl, rfl⟩)
    refine hD.out.mono ?_
    rintro e w1 ⟨rv, lv, es, c, q, rfl, hd, hcr, hrq, hb1⟩
    obtain ⟨nn, hnn⟩ : ∃ nn, c.2.2.1.length = nn := ⟨_, rfl⟩
    obtain ⟨mm, hmm⟩ : ∃ mm, c.2.2.2.length = mm := ⟨_, rfl⟩
    obtain ⟨ra, rc, rfl⟩ : ∃ a c', rv = .slice a nn c' := by rw [← hnn]; exact hd.raw.shape
    obtain ⟨la, lc, rfl⟩ : ∃ a c', lv = .slice a mm c' := by rw [← hmm]; exact hd.lvl.row.shape
    obtain ⟨w2, hw2⟩ : ∃ w2, w1.alloc (.cells #[.int .i64 c.1, .int .i64 c.2.1, .slice ra nn rc, .slice la mm lc] 30) = w2 := ⟨_, rfl⟩
    have hb2 : Below w1.heap.size w1 w2 := by rw [← hw2]; exact (Below.refl _ _).alloc (Nat.le_refl _) _
    have X2 : Hid (BoxN w2 w1.heap.size #[.int .i64 c.1, .int .i64 c.2.1, .slice ra nn rc, .slice la mm lc] 30) := Lib.hid (by rw [← hw2]; exact World.alloc_heap_new w1 _)
    have C2 := Lib.hid (show CV w2 w2.heap.size (.agg #[.int .i64 c.1, .int .i64 c.2.1, .slice ra nn rc, .slice la mm lc]) c from (hd.below hb2).cv hcr)
    have B2 := Lib.hid (hb1.trans (hb2.mono hb1.size))
    have HW2 := Lib.hid hw2
    have hI := Lib.hid (fun W q h => hIm.out (.agg #[.int .i64 c.1, .int .i64 c.2.1, .slice ra nn rc, .slice la mm lc]) c q W h)
    have hS := Lib.hid (fun W h => hSp.out (.agg #[.int .i64 c.1, .int .i64 c.2.1, .slice ra nn rc, .slice la mm lc]) c q W h)
    have HF := Lib.hid (fun h h' => pick_facts (c := c) (q := q) h h')
    obtain ⟨m, hm⟩ : ∃ m, pickM c q = m := ⟨_, rfl⟩
    have HI := Lib.hid (fun W h => hI.out W q h)
    have HJ := Lib.hid (fun W h => hI.out W (q + 1) h)
    obtain ⟨m2, hm2⟩ : ∃ m2, pickM c (q + 1) = m2 := ⟨_, rfl⟩
    rw [hm2, hm] at HF
    rw [hm] at hS HI
    rw [hm2] at HJ
    have S1 := hb1.size
    have S2 := X2.out.lt
    have HMM := Lib.hid hmm
    have hne : (m != m) = false := by simp
    have hee : (m == m) = true := by simp
    have x0 := X2.out.cell (i := 0) rfl
    have x1 := X2.out.cell (i := 1) rfl
    have x2 := X2.out.cell (i := 2) rfl
    have x3 := X2.out.cell (i := 3) rfl
    clear hw2 hd hcr hb1 hb2 hnn hmm hIm hSp hD HBG hI hm hm2
    go_upto_region 4 with fail
    rw [HW2.out]
    clear HW2
    go_wp2_with fail
    refine (HI.out _ C2.out).mono ?_
    rintro e w3 ⟨rfl, hb3⟩
    have B23 := Lib.hid hb3
    have Y3 : Hid (BoxN w3 w1.heap.size #[.int .i64 c.1, .int .i64 c.2.1, .slice ra nn rc, .slice la mm lc] 30) := Lib.hid ((hb3.block _ S2).trans X2.out)
    have C3 := Lib.hid ((C2.out.below hb3).up hb3.size)
    have S3 := hb3.size
    clear x0 x1 x2 x3 hb3
    have x0 := Y3.out.cell (i := 0) rfl
    have x1 := Y3.out.cell (i := 1) rfl
    have x2 := Y3.out.cell (i := 2) rfl
    have x3 := Y3.out.cell (i := 3) rfl
    go_upto_region 5 with fail
    go_wp2_with fail
    refine (hS.out _ C3.out).mono ?_
    rintro e w4 ⟨rfl, hb4⟩
    have B24 := Lib.hid (B23.out.trans (hb4.mono S3))
    have S4 := B24.out.size
    have B4 := Lib.hid (B2.out.trans (B24.out.mono B2.out.size))
    have Y4 : Hid (BoxN w4 w1.heap.size #[.int .i64 c.1, .int .i64 c.2.1, .slice ra nn rc, .slice la mm lc] 30) := Lib.hid ((B24.out.block _ S2).trans X2.out)
    have C4 := Lib.hid ((C2.out.below B24.out).up B24.out.size)
    clear x0 x1 x2 x3 hb4 C2 C3 Y3 B23
    have x0 := Y4.out.cell (i := 0) rfl
    have x1 := Y4.out.cell (i := 1) rfl
    have x2 := Y4.out.cell (i := 2) rfl
    have x3 := Y4.out.cell (i := 3) rfl
    by_cases hc : -1 ≤ m ∧ q ≠ 1000000000000
    · obtain ⟨hc1, hc2⟩ := hc
      obtain ⟨⟨hnw, hkp, hq0, hq1⟩, ⟨hl0, hl1⟩, hcase⟩ := HF.out hc1 hc2
      clear HF
      have d1 : decide (m < -1) = false := decide_eq_false (by omega)
      have d2 : (q == 1000000000000) = false := by simpa using hc2
      have d3 : decide (m2 ≤ m) = true := decide_eq_true hl1
      have d4 : decide (-1 ≤ m2) = true := decide_eq_true hl0
      have eQ : IntKind.i64.wrap (q + 1) = q + 1 := IntWalk.i64_in _ (by omega)
      have eN : IntKind.i64.wrap (c.1 - c.2.1) = c.1 - c.2.1 := IntWalk.i64_in _ (by omega)
      rcases hcase with ⟨rfl, hh⟩ | ⟨j, hj, rfl, h0, hbf, hh, hkj, hkb⟩
      · have d5 : decide (c.1 - c.2.1 < q) = true := decide_eq_true hh
        go_upto_region 15 with fail
        go_wp2_with fail
        refine (HJ.out _ C4.out).mono ?_
        rintro e w5 ⟨rfl, hb5⟩
        have Y5 : BoxN w5 w1.heap.size #[.int .i64 c.1, .int .i64 c.2.1, .slice ra nn rc, .slice la mm lc] 30 := (hb5.block _ (by omega)).trans Y4.out
        clear x0 x1 x2 x3
        have x0 := Y5.cell (i := 0) rfl
        clear Y5
        go_wp2_with fail
        go_ret
        exact ⟨rfl, B4.out.trans (hb5.mono B4.out.size)⟩
      · rw [HMM.out] at hj
        have hjI : (j : Int) < (mm : Int) := by omega
        have d6 : decide (0 ≤ (j : Int)) = true := decide_eq_true (by omega)
        have hl := cv_ls C4.out
        have hml : mm ≤ 1048576 := by have := hl.2.1; have := HMM.out; omega
        obtain ⟨b, off, rfl, hbl, k0, k1, r, k2, _⟩ := ls_at_lt hl hj
        clear k0 k2
        cases j with
        | zero =>
          have d7 : decide ((0 : Int) < ((0 : Nat) : Int)) = false := decide_eq_false (by omega)
          have d8 : decide (c.1 - c.2.1 < q) = false := decide_eq_false (by omega)
          generalize (c.2.2.2.getD 0 zLv).2.1 = kj at k1 hkj hh
          have eJ : IntKind.i64.wrap (c.1 - kj) = c.1 - kj := IntWalk.i64_in _ (by omega)
          have d9 : decide (c.1 - kj < q) = true := decide_eq_true hh
          clear hl hbf hkb h0 hh
          go_upto_region 15 with fail
          go_wp2_with fail
          refine (HJ.out _ C4.out).mono ?_
          rintro e w5 ⟨rfl, hb5⟩
          have Y5 : BoxN w5 w1.heap.size #[.int .i64 c.1, .int .i64 c.2.1, .slice ra nn rc, .slice (some ⟨b, off, none⟩) mm lc] 30 := (hb5.block _ (by omega)).trans Y4.out
          clear x0 x1 x2 x3
          have x0 := Y5.cell (i := 0) rfl
          clear Y5
          go_wp2_with fail
          go_ret
          exact ⟨rfl, B4.out.trans (hb5.mono B4.out.size)⟩
        | succ k =>
          have d7 : decide ((0 : Int) < ((k + 1 : Nat) : Int)) = true := decide_eq_true (by omega)
          have eK : IntKind.i64.wrap (((k + 1 : Nat) : Int) - 1) = (k : Int) := by rw [IntWalk.i64_in _ (by omega)]; omega
          obtain ⟨b', off', he', _, p0, p1, r', p2, _⟩ := ls_at_lt hl (show k < mm from by omega)
          clear p0 p2
          injection he' with he'
          injection he' with e1 e2
          subst e1
          subst e2
          have hbk := hbf k (by omega)
          have hkk := hkb k (by omega)
          generalize (c.2.2.2.getD (k + 1) zLv).2.1 = kj at k1 hkj hh
          generalize (c.2.2.2.getD k zLv).2.1 = kk at p1 hkk hbk
          have eJ : IntKind.i64.wrap (c.1 - kj) = c.1 - kj := IntWalk.i64_in _ (by omega)
          have eF : IntKind.i64.wrap (c.1 - kk) = c.1 - kk := IntWalk.i64_in _ (by omega)
          have d8 : decide (c.1 - kk < q) = false := decide_eq_false (by omega)
          have d9 : decide (c.1 - kj < q) = true := decide_eq_true hh
          have hkI : (k : Int) < (mm : Int) := by omega
          clear hl hbf hkb h0 hh hbk
          go_upto_region 15 with fail
          go_wp2_with fail
          refine (HJ.out _ C4.out).mono ?_
          rintro e w5 ⟨rfl, hb5⟩
          have Y5 : BoxN w5 w1.heap.size #[.int .i64 c.1, .int .i64 c.2.1, .slice ra nn rc, .slice (some ⟨b, off, none⟩) mm lc] 30 := (hb5.block _ (by omega)).trans Y4.out
          clear x0 x1 x2 x3
          have x0 := Y5.cell (i := 0) rfl
          clear Y5
          go_wp2_with fail
          go_ret
          exact ⟨rfl, B4.out.trans (hb5.mono B4.out.size)⟩
    · have hg : m < -1 ∨ ¬ m < -1 ∧ q = 1000000000000 := by
        by_cases h1 : m < -1
        · exact .inl h1
        · refine .inr ⟨h1, ?_⟩
          by_cases h2 : q = 1000000000000
          · exact h2
          · exact absurd ⟨by omega, h2⟩ hc
      clear hc HF
      rcases hg with h1 | ⟨h1, h2⟩
      · have d1 : decide (m < -1) = true := decide_eq_true h1
        clear h1
        go_wp2_with fail
        refine (hS.out _ C4.out).mono ?_
        rintro e w5 ⟨rfl, hb5⟩
        go_wp2_with fail
        go_ret
        exact ⟨rfl, B4.out.trans (hb5.mono B4.out.size)⟩
      · have d1 : decide (m < -1) = false := decide_eq_false h1
        have d2 : (q == 1000000000000) = true := by simpa using h2
        clear h1 h2
        go_wp2_with fail
        refine (hS.out _ C4.out).mono ?_
        rintro e w5 ⟨rfl, hb5⟩
        go_wp2_with fail
        go_ret
        exact ⟨rfl, B4.out.trans (hb5.mono B4.out.size)⟩
end Go.Proofs.Ytcjpedolmnahfaa

/- Walks: the law FnKinds. -/
set_option linter.unusedVariables false
set_option linter.unusedSimpArgs false
namespace Go.Proofs.Ytcjpedolmnahfaa
open Go.RowKit

theorem row_open {w : World} {base : Nat} {v : Value} {xs : List (Int × Int)} {N : Nat} (h : w.ownsRow base 43 2 v xs.length (prs xs)) (hN : xs.length = N) :
    ∃ A c, v = .slice A N c ∧ (N = 0 ∨ ∃ b off, A = some ⟨b, off, none⟩ ∧ b < w.heap.size ∧ ∀ j, j < N → w.cell? ⟨b, off + j * 2 + 1, none⟩ = some (.int .i64 (xs.getD j (0, 0)).2)) := by
  subst hN
  rcases h.2 with ⟨rfl, h0⟩ | ⟨g, cap, cur, rfl, hb, hg, _⟩
  · exact ⟨none, 0, by rw [h0], .inl h0⟩
  · refine ⟨_, cap, rfl, .inr ⟨g, 0, rfl, (Array.getElem?_eq_some_iff.1 hg).1, fun j hj => ?_⟩⟩
    rw [Nat.zero_add, h.cellAt (j * 2 + 1) (by omega)]
    exact prs_get1 _ _ hj
theorem i64_64 (x : Int) : IntKind.i64.wrap x = wrap64 x := IntWalk.i64_left x

set_option maxRecDepth 100000 in
set_option maxHeartbeats 8000000 in
theorem walkFnKinds (A : Option Addr) (n ca : Nat) (w : World) (hcode : n ≤ 1048576 → CodeAt w A n ca) :
    Calls Try.prog 9 #[.slice A n ca] w fun e w' => e = .returned (.bool true) ∧ Below w.heap.size w w' := by
  by_cases hbig : (1048576 : Int) < n
  · have hb : decide (1048576 < (n : Int)) = true := decide_eq_true hbig
    clear hcode
    have HBG := Lib.hid (fun W => big_any A n ca W)
    rw [hb] at HBG
    go_enter Try.func9, Try.ntmps9
    go_wp2_with (go_at_call 13; refine (HBG.out _).mono ?_; rintro e w' ⟨rfl, rfl⟩)
    go_ret
    exact ⟨rfl, Below.refl _ _⟩
  · have hb : decide (1048576 < (n : Int)) = false := decide_eq_false hbig
    have HBG := Lib.hid (fun W => big_any A n ca W)
    rw [hb] at HBG
    have hD := Lib.hid (DrawQuery_any A n ca w (hcode (by omega)))
    have hIm := Lib.hid (fun v c f t hw W h => implQuery_any v c f t hw W h)
    have hSp := Lib.hid (fun v c f t hw W h => specQuery_any v c f t hw W h)
    have hPk := Lib.hid (fun v c q W h => implPick_any v c q W h)
    obtain ⟨i0, hi, hz0, hz1, hz2⟩ := info_parts info_pt
    clear hcode hb hbig
    go_enter Try.func9, Try.ntmps9
    go_wp2_with (go_at_call 13; refine (HBG.out _).mono ?_; rintro e w' ⟨rfl, rfl⟩)
    refine hD.out.mono ?_
    rintro e w1 ⟨rv, lv, es, c, f, t, hw0, rfl, hd, hcr, hrf, hrt, hrh, hb1⟩
    obtain ⟨nn, hnn⟩ : ∃ nn, c.2.2.1.length = nn := ⟨_, rfl⟩
    obtain ⟨mm, hmm⟩ : ∃ mm, c.2.2.2.length = mm := ⟨_, rfl⟩
    obtain ⟨ra, rc, rfl⟩ : ∃ a c', rv = .slice a nn c' := by rw [← hnn]; exact hd.raw.shape
    obtain ⟨la, lc, rfl⟩ : ∃ a c', lv = .slice a mm c' := by rw [← hmm]; exact hd.lvl.row.shape
    obtain ⟨w2, hw2⟩ : ∃ w2, w1.alloc (.cells #[.int .i64 c.1, .int .i64 c.2.1, .slice ra nn rc, .slice la mm lc] 30) = w2 := ⟨_, rfl⟩
    have hb2 : Below w1.heap.size w1 w2 := by rw [← hw2]; exact (Below.refl _ _).alloc (Nat.le_refl _) _
    have X2 : Hid (BoxN w2 w1.heap.size #[.int .i64 c.1, .int .i64 c.2.1, .slice ra nn rc, .slice la mm lc] 30) := Lib.hid (by rw [← hw2]; exact World.alloc_heap_new w1 _)
    have C2 := Lib.hid (show CV w2 w2.heap.size (.agg #[.int .i64 c.1, .int .i64 c.2.1, .slice ra nn rc, .slice la mm lc]) c from (hd.below hb2).cv hcr)
    have B2 := Lib.hid (hb1.trans (hb2.mono hb1.size))
    have HW2 := Lib.hid hw2
    have hI := Lib.hid (fun W q h => hIm.out (.agg #[.int .i64 c.1, .int .i64 c.2.1, .slice ra nn rc, .slice la mm lc]) c f t q W h)
    have hS := Lib.hid (fun W h => hSp.out (.agg #[.int .i64 c.1, .int .i64 c.2.1, .slice ra nn rc, .slice la mm lc]) c f t 1 W h)
    obtain ⟨yr0, hyl⟩ := qryM_ok (f := f) (t := t) (h := 1) hcr
    have YR := Lib.hid yr0
    have HKD := Lib.hid (fun hb => qry_kinds (c := c) (f := f) (t := t) hb)
    obtain ⟨ys, hys⟩ : ∃ ys, qryM c f t 1 = ys := ⟨_, rfl⟩
    obtain ⟨fb, hfb⟩ : ∃ fb, qryB c f t 1 = fb := ⟨_, rfl⟩
    have HI1 := Lib.hid (fun W h => hI.out W 1 h)
    rw [hys, hfb] at HI1 hS
    rw [hys] at YR hyl HKD
    rw [hfb] at HKD
    have HSM := Lib.hid (fun v u W h h' => samePoints_any v u ys W h h')
    have S1 := hb1.size
    have S2 := X2.out.lt
    have x0 := X2.out.cell (i := 0) rfl
    have x1 := X2.out.cell (i := 1) rfl
    have x2 := X2.out.cell (i := 2) rfl
    have x3 := X2.out.cell (i := 3) rfl
    unfold QPost at HI1 hS hI
    clear hw2 hd hcr hb1 hb2 hnn hmm hIm hSp hD HBG hPk yr0 hys hfb hrf hrt hrh
    go_upto_region 4 with fail
    rw [HW2.out]
    clear HW2
    go_wp2_with fail
    refine (HI1.out _ C2.out).mono ?_
    rintro e w3 ⟨v3, rfl, ho3, hb3⟩
    have ho3' : w3.ownsRow w2.heap.size 43 2 v3 ys.length (prs ys) := ho3
    have O3 := Lib.hid ho3'
    have B23 := Lib.hid hb3
    have Y3 : Hid (BoxN w3 w1.heap.size #[.int .i64 c.1, .int .i64 c.2.1, .slice ra nn rc, .slice la mm lc] 30) := Lib.hid ((hb3.block _ S2).trans X2.out)
    have C3 := Lib.hid ((C2.out.below hb3).up hb3.size)
    have S3 := hb3.size
    clear x0 x1 x2 x3 hb3 ho3 ho3'
    have x0 := Y3.out.cell (i := 0) rfl
    have x1 := Y3.out.cell (i := 1) rfl
    have x2 := Y3.out.cell (i := 2) rfl
    have x3 := Y3.out.cell (i := 3) rfl
    go_upto_region 5 with fail
    go_wp2_with fail
    refine (hS.out _ C3.out).mono ?_
    rintro e w4 ⟨v4, rfl, ho4, hb4⟩
    have ho4' : w4.ownsRow w3.heap.size 43 2 v4 ys.length (prs ys) := ho4
    have O4 := Lib.hid ho4'
    have P4 := Lib.hid (u_own_below O3.out hb4)
    have B24 := Lib.hid (B23.out.trans (hb4.mono S3))
    have S4 := B24.out.size
    have S34 := hb4.size
    have B4 := Lib.hid (B2.out.trans (B24.out.mono B2.out.size))
    have Y4 : Hid (BoxN w4 w1.heap.size #[.int .i64 c.1, .int .i64 c.2.1, .slice ra nn rc, .slice la mm lc] 30) := Lib.hid ((B24.out.block _ S2).trans X2.out)
    have C4 := Lib.hid ((C2.out.below B24.out).up B24.out.size)
    clear x0 x1 x2 x3 hb4 C2 C3 Y3 B23 ho4 ho4' O3
    have HSA := Lib.hid (HSM.out v3 v4 w4 (PL.of_own P4.out rfl YR.out hyl) (PL.of_own O4.out rfl YR.out hyl))
    cases fb with
    | false =>
      go_wp2_with fail
      refine HSA.out.mono ?_
      rintro e w5 ⟨rfl, hb5⟩
      have B5 := Lib.hid (B4.out.trans (hb5.mono B4.out.size))
      have HSB := Lib.hid (HSM.out v3 v4 w5 (PL.of_own (u_own_below P4.out hb5) rfl YR.out hyl) (PL.of_own (u_own_below O4.out hb5) rfl YR.out hyl))
      clear hb5
      go_wp2_with fail
      refine HSB.out.mono ?_
      rintro e w6 ⟨rfl, hb6⟩
      go_wp2_with fail
      go_ret
      exact ⟨rfl, B5.out.trans (hb6.mono B5.out.size)⟩
    | true =>
      go_wp2_with fail
      refine HSA.out.mono ?_
      rintro e w5 ⟨rfl, hb5⟩
      obtain ⟨hK1, hK2⟩ := HKD.out (by first | rfl | trivial)
      have HA2 := Lib.hid (fun W h => hI.out W 2 h)
      have HA3 := Lib.hid (fun W h => hI.out W 3 h)
      have HA4 := Lib.hid (fun W h => hI.out W 4 h)
      have HA5 := Lib.hid (fun W h => hI.out W 5 h)
      have HA6 := Lib.hid (fun W h => hI.out W 6 h)
      rw [(hK1 2 (by omega)).1] at HA2
      rw [(hK1 3 (by omega)).1] at HA3
      rw [(hK1 4 (by omega)).1] at HA4
      rw [(hK1 5 (by omega)).1] at HA5
      rw [(hK1 6 (by omega)).1] at HA6
      have hl2 := (hK1 2 (by omega)).2
      have hl3 := (hK1 3 (by omega)).2
      have hl4 := (hK1 4 (by omega)).2
      have hl5 := (hK1 5 (by omega)).2
      have hl6 := (hK1 6 (by omega)).2
      have HKK := Lib.hid hK2
      clear hK1 hK2 HKD hI
      generalize qryM c f t 2 = y2 at *
      generalize qryM c f t 3 = y3 at *
      generalize qryM c f t 4 = y4 at *
      generalize qryM c f t 5 = y5 at *
      generalize qryM c f t 6 = y6 at *
      have B5 := Lib.hid (B4.out.trans (hb5.mono B4.out.size))
      have P5 := Lib.hid (u_own_below P4.out hb5)
      have Y5 : Hid (BoxN w5 w1.heap.size #[.int .i64 c.1, .int .i64 c.2.1, .slice ra nn rc, .slice la mm lc] 30) := Lib.hid ((hb5.block _ Y4.out.lt).trans Y4.out)
      have C5 := Lib.hid ((C4.out.below hb5).up hb5.size)
      obtain ⟨A1, c1, rfl, r1⟩ := row_open P5.out (hN := by first | assumption | rfl)
      have R1 := Lib.hid r1
      clear hb5 HSA P4 O4 Y4 C4 B4 P5 r1
      have x0 := Y5.out.cell (i := 0) rfl
      have x1 := Y5.out.cell (i := 1) rfl
      have x2 := Y5.out.cell (i := 2) rfl
      have x3 := Y5.out.cell (i := 3) rfl
      go_upto_region 8 with fail
      go_wp2_with fail
      refine (HA2.out _ C5.out).mono ?_
      rintro e w6 ⟨v6, rfl, ho, hb⟩
      obtain ⟨A2, c2, rfl, r2⟩ := row_open ho hl2
      have R2 := Lib.hid r2
      have Y6 : Hid (BoxN w6 w1.heap.size #[.int .i64 c.1, .int .i64 c.2.1, .slice ra nn rc, .slice la mm lc] 30) := Lib.hid ((hb.block _ Y5.out.lt).trans Y5.out)
      have C6 := Lib.hid ((C5.out.below hb).up hb.size)
      have D6 := Lib.hid hb
      have B6 := Lib.hid (B5.out.trans (hb.mono B5.out.size))
      have S6 := hb.size
      clear x0 x1 x2 x3 hb ho r2 Y5 C5 B5
      have x0 := Y6.out.cell (i := 0) rfl
      have x1 := Y6.out.cell (i := 1) rfl
      have x2 := Y6.out.cell (i := 2) rfl
      have x3 := Y6.out.cell (i := 3) rfl
      go_upto_region 9 with fail
      go_wp2_with fail
      refine (HA3.out _ C6.out).mono ?_
      rintro e w7 ⟨v7, rfl, ho, hb⟩
      obtain ⟨A3, c3, rfl, r3⟩ := row_open ho hl3
      have R3 := Lib.hid r3
      have Y7 : Hid (BoxN w7 w1.heap.size #[.int .i64 c.1, .int .i64 c.2.1, .slice ra nn rc, .slice la mm lc] 30) := Lib.hid ((hb.block _ Y6.out.lt).trans Y6.out)
      have C7 := Lib.hid ((C6.out.below hb).up hb.size)
      have D7 := Lib.hid hb
      have B7 := Lib.hid (B6.out.trans (hb.mono B6.out.size))
      have S7 := hb.size
      clear x0 x1 x2 x3 hb ho r3 Y6 C6 B6
      have x0 := Y7.out.cell (i := 0) rfl
      have x1 := Y7.out.cell (i := 1) rfl
      have x2 := Y7.out.cell (i := 2) rfl
      have x3 := Y7.out.cell (i := 3) rfl
      go_upto_region 10 with fail
      go_wp2_with fail
      refine (HA4.out _ C7.out).mono ?_
      rintro e w8 ⟨v8, rfl, ho, hb⟩
      obtain ⟨A4, c4, rfl, r4⟩ := row_open ho hl4
      have R4 := Lib.hid r4
      have Y8 : Hid (BoxN w8 w1.heap.size #[.int .i64 c.1, .int .i64 c.2.1, .slice ra nn rc, .slice la mm lc] 30) := Lib.hid ((hb.block _ Y7.out.lt).trans Y7.out)
      have C8 := Lib.hid ((C7.out.below hb).up hb.size)
      have D8 := Lib.hid hb
      have B8 := Lib.hid (B7.out.trans (hb.mono B7.out.size))
      have S8 := hb.size
      clear x0 x1 x2 x3 hb ho r4 Y7 C7 B7
      have x0 := Y8.out.cell (i := 0) rfl
      have x1 := Y8.out.cell (i := 1) rfl
      have x2 := Y8.out.cell (i := 2) rfl
      have x3 := Y8.out.cell (i := 3) rfl
      go_upto_region 11 with fail
      go_wp2_with fail
      refine (HA5.out _ C8.out).mono ?_
      rintro e w9 ⟨v9, rfl, ho, hb⟩
      obtain ⟨A5, c5, rfl, r5⟩ := row_open ho hl5
      have R5 := Lib.hid r5
      have Y9 : Hid (BoxN w9 w1.heap.size #[.int .i64 c.1, .int .i64 c.2.1, .slice ra nn rc, .slice la mm lc] 30) := Lib.hid ((hb.block _ Y8.out.lt).trans Y8.out)
      have C9 := Lib.hid ((C8.out.below hb).up hb.size)
      have D9 := Lib.hid hb
      have B9 := Lib.hid (B8.out.trans (hb.mono B8.out.size))
      have S9 := hb.size
      clear x0 x1 x2 x3 hb ho r5 Y8 C8 B8
      have x0 := Y9.out.cell (i := 0) rfl
      have x1 := Y9.out.cell (i := 1) rfl
      have x2 := Y9.out.cell (i := 2) rfl
      have x3 := Y9.out.cell (i := 3) rfl
      go_upto_region 12 with fail
      go_wp2_with fail
      refine (HA6.out _ C9.out).mono ?_
      rintro e w10 ⟨v10, rfl, ho, hb⟩
      obtain ⟨A6, c6, rfl, r6⟩ := row_open ho hl6
      have R6 := Lib.hid r6
      have Y10 : Hid (BoxN w10 w1.heap.size #[.int .i64 c.1, .int .i64 c.2.1, .slice ra nn rc, .slice la mm lc] 30) := Lib.hid ((hb.block _ Y9.out.lt).trans Y9.out)
      have C10 := Lib.hid ((C9.out.below hb).up hb.size)
      have D10 := Lib.hid hb
      have B10 := Lib.hid (B9.out.trans (hb.mono B9.out.size))
      have S10 := hb.size
      clear x0 x1 x2 x3 hb ho r6 Y9 C9 B9
      have T9 := Lib.hid D10.out
      have T8 := Lib.hid (D9.out.trans (D10.out.mono S9))
      have T7 := Lib.hid (D8.out.trans (T8.out.mono S8))
      have T6 := Lib.hid (D7.out.trans (T7.out.mono S7))
      have T5 := Lib.hid (D6.out.trans (T6.out.mono S6))
      clear D6 D7 D8 D9 D10 Y10 C10 hl2 hl3 hl4 hl5 hl6
      obtain ⟨N, hN⟩ : ∃ N, ys.length = N := ⟨_, rfl⟩
      simp only [hN] at *
      go_wp2_with fail
      go_loopw [21] (fun i wr => ∃ (j : Nat), j ≤ N ∧ i = .int .i64 j ∧ Hid (Below w10.heap.size w10 wr)) (fun i _ => N - (intOf i).toNat)
      case atStart => exact ⟨0, Nat.zero_le _, rfl, Lib.hid (Below.refl _ _)⟩
      case round =>
        obtain ⟨j, hj, rfl, HB⟩ := hrel
        by_cases hlt : j < N
        · obtain ⟨n1, s1, a1, b1, l1, m1, e1, e2, e3, e4, e5, e6, hk⟩ := HKK.out j hlt
          obtain ⟨_, n1⟩ := n1
          obtain ⟨_, s1⟩ := s1
          obtain ⟨_, a1⟩ := a1
          obtain ⟨_, b1⟩ := b1
          obtain ⟨_, l1⟩ := l1
          obtain ⟨_, m1⟩ := m1
          obtain ⟨⟨k1, k2⟩, ⟨k3, k4, k5, k6⟩, ⟨k7, k8⟩, k9, k10, k11, k12⟩ := hk
          simp only at k1 k2 k3 k4 k5 k6 k7 k8 k9 k10 k11 k12
          obtain ⟨p1, hp1⟩ : ∃ p, m1 * n1 = p := ⟨_, rfl⟩
          obtain ⟨p2, hp2⟩ : ∃ p, (m1 + 1) * n1 = p := ⟨_, rfl⟩
          obtain ⟨m2, hm2⟩ : ∃ p, m1 + 1 = p := ⟨_, rfl⟩
          rw [hp1] at k9 k11
          rw [hp2] at k10 k12
          have eP1 : IntKind.i64.wrap (m1 * n1) = p1 := by rw [i64_64, hp1]; exact k11
          have eM : IntKind.i64.wrap (m1 + 1) = m2 := by rw [IntWalk.i64_in _ (by omega)]; exact hm2
          have eP2 : IntKind.i64.wrap (m2 * n1) = p2 := by rw [i64_64, ← hm2, hp2]; exact k12
          have d1 : decide (n1 < 1) = false := decide_eq_false (by omega)
          have d2 : decide (m1 < a1) = false := decide_eq_false (by omega)
          have d3 : decide (b1 < m1) = false := decide_eq_false (by omega)
          have d4 : decide (l1 < a1) = false := decide_eq_false (by omega)
          have d5 : decide (b1 < l1) = false := decide_eq_false (by omega)
          have d6 : decide (s1 < p1) = false := decide_eq_false (by omega)
          have d7 : decide (p2 ≤ s1) = false := decide_eq_false (by omega)
          clear k1 k2 k3 k4 k5 k6 k7 k8 k9 k10 k11 k12 hp1 hp2 hm2
          rcases R1.out with r1 | ⟨g1, o1, rfl, hg1, r1⟩
          · omega
          rcases R2.out with r2 | ⟨g2, o2, rfl, hg2, r2⟩
          · omega
          rcases R3.out with r3 | ⟨g3, o3, rfl, hg3, r3⟩
          · omega
          rcases R4.out with r4 | ⟨g4, o4, rfl, hg4, r4⟩
          · omega
          rcases R5.out with r5 | ⟨g5, o5, rfl, hg5, r5⟩
          · omega
          rcases R6.out with r6 | ⟨g6, o6, rfl, hg6, r6⟩
          · omega
          have z1 := r1 j hlt
          have z2 := r2 j hlt
          have z3 := r3 j hlt
          have z4 := r4 j hlt
          have z5 := r5 j hlt
          have z6 := r6 j hlt
          rw [e1] at z1
          rw [e2] at z2
          rw [e3] at z3
          rw [e4] at z4
          rw [e5] at z5
          rw [e6] at z6
          have q1 : wr.cell? ⟨g1, o1 + j * 2 + 1, none⟩ = some (.int .i64 n1) := (((T5.out.trans (HB.out.mono T5.out.size)).cell (p := ⟨g1, o1 + j * 2 + 1, none⟩) hg1)).trans z1
          have q2 : wr.cell? ⟨g2, o2 + j * 2 + 1, none⟩ = some (.int .i64 s1) := (((T6.out.trans (HB.out.mono T6.out.size)).cell (p := ⟨g2, o2 + j * 2 + 1, none⟩) hg2)).trans z2
          have q3 : wr.cell? ⟨g3, o3 + j * 2 + 1, none⟩ = some (.int .i64 a1) := (((T7.out.trans (HB.out.mono T7.out.size)).cell (p := ⟨g3, o3 + j * 2 + 1, none⟩) hg3)).trans z3
          have q4 : wr.cell? ⟨g4, o4 + j * 2 + 1, none⟩ = some (.int .i64 b1) := (((T8.out.trans (HB.out.mono T8.out.size)).cell (p := ⟨g4, o4 + j * 2 + 1, none⟩) hg4)).trans z4
          have q5 : wr.cell? ⟨g5, o5 + j * 2 + 1, none⟩ = some (.int .i64 l1) := (((T9.out.trans (HB.out.mono T9.out.size)).cell (p := ⟨g5, o5 + j * 2 + 1, none⟩) hg5)).trans z5
          have q6 : wr.cell? ⟨g6, o6 + j * 2 + 1, none⟩ = some (.int .i64 m1) := (HB.out.cell (p := ⟨g6, o6 + j * 2 + 1, none⟩) hg6).trans z6
          clear z1 z2 z3 z4 z5 z6 r1 r2 r3 r4 r5 r6 hg1 hg2 hg3 hg4 hg5 hg6 e1 e2 e3 e4 e5 e6
          go_upto_region 18 with fail
          go_cut [236] (fun cv wx => cv = .bool false ∧ Below w10.heap.size w10 wx)
          case first =>
            clear HKK R1 R2 R3 R4 R5 R6 T5 T6 T7 T8 T9 HSM YR hyl HA2 HA3 HA4 HA5 HA6 X2 B2
            dsimp only [List.append]
            refine wp_region_quiet_lit (by kernel_rfl) (lexB_of (by kernel_rfl) (by kernel_rfl)) ?_
            repeat (go_big_quiet_step (fail))
            refine wpQuiet_nil ?_
            intro _ hw'
            obtain ⟨nq, hw''⟩ := hw'
            subst hw''
            go_wp2_with fail
            go_meet
            case rel => exact ⟨rfl, below_drewN_u HB.out _⟩
          case rest =>
            obtain ⟨rfl, hb9⟩ := hcut
            go_wp2_with fail
            go_roundw
            case rel => exact ⟨j + 1, by omega, by go_num, Lib.hid hb9⟩
            case measure => simp [intOf]; omega
        · obtain rfl : j = N := by omega
          go_wp2_with fail
          go_ret
          exact ⟨rfl, B10.out.trans (HB.out.mono B10.out.size)⟩
end Go.Proofs.Ytcjpedolmnahfaa
