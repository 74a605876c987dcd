/- Walks: new cascades: the model. -/
import Derived.Test.YtcjpedolmnahfaaPe
import Derived.Test.YtcjpedolmnahfaaOb
import Derived.Test.YtcjpedolmnahfaaOg
set_option linter.unusedVariables false
set_option linter.unusedSimpArgs false
namespace Go.Proofs.Ytcjpedolmnahfaa
open Go.RowKit

def nwL (ws ks : List Int) (n : Nat) : List Lv := (List.range n).map (fun j => (ws.getD j 0, ks.getD j 0, []))
def nwE (ws ks : List Int) (n : Nat) : List LvC := (List.range n).map (fun j => (ws.getD j 0, ks.getD j 0, .slice none 0 0))
theorem nwL_length (ws ks : List Int) (n : Nat) : (nwL ws ks n).length = n := by simp [nwL]
theorem nwE_length (ws ks : List Int) (n : Nat) : (nwE ws ks n).length = n := by simp [nwE]
theorem nwL_getD (ws ks : List Int) (n j : Nat) (h : j < n) : (nwL ws ks n).getD j zLv = (ws.getD j 0, ks.getD j 0, []) := by simp [nwL, List.getD_eq_getElem?_getD, h]
theorem nwE_getD (ws ks : List Int) (n j : Nat) (h : j < n) : (nwE ws ks n).getD j zLc = (ws.getD j 0, ks.getD j 0, .slice none 0 0) := by simp [nwE, List.getD_eq_getElem?_getD, h]
theorem nwE_succ (ws ks : List Int) (n : Nat) : lvs (nwE ws ks (n + 1)) = lvs (nwE ws ks n) ++ [.int .i64 (ws.getD n 0), .int .i64 (ks.getD n 0), .slice none 0 0] := by
  unfold nwE lvs
  rw [List.range_succ, List.map_append, List.flatMap_append]; rfl
def newC (kp : Int) (ws ks : List Int) : Cs := (0, kp, [], nwL ws ks ws.length)
abbrev zC : Cs := (0, 0, [], [])
def newB (kp : Int) (ws ks : List Int) : Bool := decide (ws.length = ks.length) && cascB (newC kp ws ks)
def newM (kp : Int) (ws ks : List Int) : Cs := if newB kp ws ks = true then newC kp ws ks else zC
theorem newB_len {kp : Int} {ws ks : List Int} (h : ¬ ws.length = ks.length) : newB kp ws ks = false := by unfold newB; rw [decide_eq_false h]; rfl
theorem newB_eq {kp : Int} {ws ks : List Int} (h : ws.length = ks.length) : newB kp ws ks = cascB (newC kp ws ks) := by unfold newB; rw [decide_eq_true h]; rfl
theorem newM_no {kp : Int} {ws ks : List Int} (h : newB kp ws ks = false) : newM kp ws ks = zC := by unfold newM; rw [if_neg (by rw [h]; simp)]
theorem newM_yes {kp : Int} {ws ks : List Int} (h : newB kp ws ks = true) : newM kp ws ks = newC kp ws ks := by unfold newM; rw [if_pos h]
theorem newC_long {kp : Int} {ws ks : List Int} (h : ¬ ws.length ≤ 4) : cascB (newC kp ws ks) = false := by
  apply cascB_head
  unfold headB
  have : decide ((newC kp ws ks).2.2.2.length ≤ 4) = false := decide_eq_false (by show ¬ (nwL ws ks ws.length).length ≤ 4; rw [nwL_length]; exact h)
  rw [this]; simp
theorem newC_cr {kp : Int} {ws ks : List Int} (hk : Rng kp) (h1 : ∀ j, Rng (ws.getD j 0)) (h2 : ∀ j, Rng (ks.getD j 0)) (hl : ws.length ≤ 1048576) : CR (newC kp ws ks) := by
  refine ⟨rng_zero, hk, fun j => ⟨rng_zero, rng_zero⟩, Nat.zero_le _, fun j => ?_, ?_, fun j hj => ?_⟩
  · show Rng ((nwL ws ks ws.length).getD j zLv).1 ∧ Rng ((nwL ws ks ws.length).getD j zLv).2.1
    by_cases hj : j < ws.length
    · rw [nwL_getD _ _ _ _ hj]; exact ⟨h1 j, h2 j⟩
    · rw [List.getD_eq_getElem?_getD, List.getElem?_eq_none (by rw [nwL_length]; omega)]; exact ⟨rng_zero, rng_zero⟩
  · show (nwL ws ks ws.length).length ≤ _
    rw [nwL_length]; exact hl
  · have hj' : j < ws.length := by have : j < (nwL ws ks ws.length).length := hj; rwa [nwL_length] at this
    show (∀ i, Rng6 (((nwL ws ks ws.length).getD j zLv).2.2.getD i z6)) ∧ ((nwL ws ks ws.length).getD j zLv).2.2.length ≤ 1048576
    rw [nwL_getD _ _ _ _ hj']
    exact ⟨fun i => rng6_zero, Nat.zero_le _⟩
theorem zC_cr : CR zC := ⟨rng_zero, rng_zero, fun j => ⟨rng_zero, rng_zero⟩, Nat.zero_le _, fun j => ⟨rng_zero, rng_zero⟩, Nat.zero_le _, fun j hj => by have : j < 0 := hj; omega⟩
theorem zC_cd (W : World) (base top : Nat) : CD W base top zC (.slice none 0 0) (.slice none 0 0) [] :=
  ⟨ORow.of_nil _ _ _ _ _ _ _, ⟨rfl, ORow.of_nil _ _ _ _ _ _ _, fun j hj => by have : j < 0 := hj; omega, fun j g hj => by have : j < 0 := hj; omega, fun i j g _ hj => by have : j < 0 := hj; omega⟩, fun g hg => by cases hg⟩
theorem newC_cd {W : World} {base : Nat} {v : Value} {kp : Int} {ws ks : List Int} (h : W.ownsRow base 51 3 v ws.length (lvs (nwE ws ks ws.length))) : CD W base W.heap.size (newC kp ws ks) (.slice none 0 0) v (nwE ws ks ws.length) := by
  have e0 : ∀ j, j < ws.length → ((nwE ws ks ws.length).getD j zLc).2.2 = .slice none 0 0 := fun j hj => by rw [nwE_getD _ _ _ _ hj]
  have e1 : ∀ j, j < ws.length → ((nwL ws ks ws.length).getD j zLv).2.2.length = 0 := fun j hj => by rw [nwL_getD _ _ _ _ hj]; rfl
  have hl : (newC kp ws ks).2.2.2.length = ws.length := nwL_length _ _ _
  have hn : ∀ j g, j < ws.length → ¬ obk ((nwE ws ks ws.length).getD j zLc).2.2 ((nwL ws ks ws.length).getD j zLv).2.2.length = some g := fun j g hj he => by rw [e1 j hj] at he; cases he
  refine ⟨ORow.of_nil _ _ _ _ _ _ _, ⟨?_, ?_, fun j hj => ?_, fun j g hj he => ?_, fun i j g hij hj hi => ?_⟩, fun g hg => by cases hg⟩
  · show (nwE ws ks ws.length).length = (nwL ws ks ws.length).length
    rw [nwE_length, nwL_length]
  · rw [hl]; exact ORow.of_own h
  · have hj' : j < ws.length := by omega
    show ((nwE ws ks ws.length).getD j zLc).1 = ((nwL ws ks ws.length).getD j zLv).1 ∧ ((nwE ws ks ws.length).getD j zLc).2.1 = ((nwL ws ks ws.length).getD j zLv).2.1 ∧ ORow W base W.heap.size _ 6 ((nwE ws ks ws.length).getD j zLc).2.2 ((nwL ws ks ws.length).getD j zLv).2.2.length (rls ((nwL ws ks ws.length).getD j zLv).2.2)
    rw [nwE_getD _ _ _ _ hj', nwL_getD _ _ _ _ hj']
    exact ⟨rfl, rfl, ORow.of_nil _ _ _ _ _ _ _⟩
  · exact absurd he (hn j g (by omega))
  · exact absurd hi (hn i g (by omega))
def NPost (base : Nat) (c : Cs) (b : Bool) (w : World) (e : Ending) (w' : World) : Prop :=
  ∃ rv lv es, e = .returned (.tuple #[.agg #[.int .i64 c.1, .int .i64 c.2.1, rv, lv], .bool b]) ∧ CD w' base w'.heap.size c rv lv es ∧ Below w.heap.size w w'
theorem IL.at_ {w : World} {B : Nat} {A : Option Addr} {n c : Nat} {xs : List Int} (h : IL w B (.slice A n c) xs) {k : Nat} (hk : k < n) :
    ∃ b off, A = some ⟨b, off, none⟩ ∧ b < B ∧ w.cell? ⟨b, off + k, none⟩ = some (.int .i64 (xs.getD k 0)) := by
  obtain ⟨_, _, A', c', he, h3⟩ := h
  injection he with e1 e2 e3
  rcases h3 with h3 | ⟨b, off, hb, hlt, hc⟩
  · rw [h3] at e2; simp at e2; omega
  · exact ⟨b, off, e1.trans hb, hlt, hc k (by omega)⟩
theorem three_cells {w : World} {b : Nat} {x y z : Value} (h0 : w.cell? ⟨b, 0, none⟩ = some x) (h1 : w.cell? ⟨b, 1, none⟩ = some y) (h2 : w.cell? ⟨b, 2, none⟩ = some z) : ∀ (j : Nat) (u : Value), [x, y, z][j]? = some u → w.cell? ((⟨b, 0, none⟩ : Addr).add j) = some u := by
  intro j u hj
  match j with
  | 0 => simp at hj; subst hj; exact h0
  | 1 => simp at hj; subst hj; exact h1
  | 2 => simp at hj; subst hj; exact h2
  | j + 3 => simp at hj

set_option maxRecDepth 100000 in
set_option maxHeartbeats 8000000 in
theorem implCascadeNew_any (v u : Value) (ws ks : List Int) (kp : Int) (w : World) (hk : Rng kp) (h : IL w w.heap.size v ws) (h' : IL w w.heap.size u ks) :
    Calls Try.prog 15 #[.int .i64 kp, v, u] w (NPost w.heap.size (newM kp ws ks) (newB kp ws ks) w) := by
  have HI := Lib.hid h
  have HJ := Lib.hid h'
  have HCR := Lib.hid (newC_cr (kp := kp) hk h.1 h'.1 h.2.1)
  obtain ⟨z1, hwl, Aw, cw, rfl, z2⟩ := h
  obtain ⟨z3, hkl, Ak, ck, rfl, z4⟩ := h'
  clear z1 z2 z3 z4
  by_cases hlen : ws.length = ks.length
  case neg =>
    have HNB := Lib.hid (newB_len (kp := kp) hlen)
    have HNM := Lib.hid (newM_no HNB.out)
    have hne : ¬ (ws.length : Int) = ks.length := by omega
    have hnb : ((ws.length : Int) == (ks.length : Int)) = false := by simpa using hne
    go_enter Try.func15, Try.ntmps15
    go_wp2_with fail
    rw [HNM.out, HNB.out]
    refine bodyPost_ret (v := .tuple #[.agg #[.int .i64 0, .int .i64 0, .slice none 0 0, .slice none 0 0], .bool false]) (by simp [results, Try.results15, go_sem]) rfl ⟨_, _, [], rfl, zC_cd _ _ _, ?_⟩
    repeat (first | with_reducible exact Below.refl _ _ | refine Below.alloc ?_ (by simp; try omega) _ | refine Below.setCell ?_ (by simp; try omega) _ | refine Below.drew ?_)
  have HNB := Lib.hid (newB_eq (kp := kp) hlen)
  have hOk := Lib.hid (fun W v h => implCascadeOk_any v (newC kp ws ks) W h)
  obtain ⟨n, hn⟩ : ∃ n, n = ws.length := ⟨_, rfl⟩
  have Hn := Lib.hid hn
  rw [← hlen, ← hn] at HJ ⊢
  rw [← hn] at HI hwl
  clear hlen hkl
  
  clear hn
  obtain ⟨i0, hi, hz0, hz1, hz2⟩ := info_parts info_lv
  obtain ⟨w1, hw1⟩ : ∃ w1, (w.alloc (.cells #[.int .i64 0, .int .i64 0, .slice none 0 0, .slice none 0 0] 30)).alloc (.cells #[.int .i64 0, .int .i64 kp, .slice none 0 0, .slice none 0 0] 30) = w1 := ⟨_, rfl⟩
  have B1 := Lib.hid (show Below w.heap.size w w1 from by rw [← hw1]; exact ((Below.refl _ w).alloc (Nat.le_refl _) _).alloc (by simp) _)
  have R1 : Hid (BoxN w1 w.heap.size #[.int .i64 0, .int .i64 0, .slice none 0 0, .slice none 0 0] 30) := Lib.hid (by
    have h := World.alloc_heap_new w (.cells #[.int .i64 0, .int .i64 0, .slice none 0 0, .slice none 0 0] 30)
    rw [← hw1]
    exact (Below.heap_alloc _ _ _ (by simp)).trans h)
  have X1 : Hid (BoxN w1 (w.heap.size + 1) #[.int .i64 0, .int .i64 kp, .slice none 0 0, .slice none 0 0] 30) := Lib.hid (by
    have h := World.alloc_heap_new (w.alloc (.cells #[.int .i64 0, .int .i64 0, .slice none 0 0, .slice none 0 0] 30)) (.cells #[.int .i64 0, .int .i64 kp, .slice none 0 0, .slice none 0 0] 30)
    rw [World.size_alloc] at h
    rw [← hw1]; exact h)
  have S1 : w.heap.size + 2 ≤ w1.heap.size := by rw [← hw1]; simp
  have HW1 := Lib.hid hw1
  clear hw1
  go_enter Try.func15, Try.ntmps15
  go_wp2_with fail
  rw [HW1.out]
  go_loopw [21] (fun i wr => ∃ (k : Nat) (va : Option Addr) (vc : Nat), k ≤ n ∧ i = .int .i64 k ∧ Hid (BoxN wr (w.heap.size + 1) #[.int .i64 0, .int .i64 kp, .slice none 0 0, .slice va k vc] 30) ∧ Hid (BoxN wr w.heap.size #[.int .i64 0, .int .i64 0, .slice none 0 0, .slice none 0 0] 30) ∧ Hid (wr.ownsRow (w.heap.size + 2) 51 3 (.slice va k vc) k (lvs (nwE ws ks k))) ∧ Hid (Below w.heap.size w wr) ∧ w.heap.size + 2 ≤ wr.heap.size) (fun i _ => n - (intOf i).toNat)
  case atStart => exact ⟨0, none, 0, Nat.zero_le _, rfl, X1, R1, Lib.hid (World.ownsRow_nil _ _ _ _), B1, S1⟩
  case round =>
    obtain ⟨k, va, vc, hk2, rfl, HX, HR, HO, HB, hs⟩ := hrel
    by_cases hlt : k < n
    · obtain ⟨bw, ow, rfl, hbw, y0⟩ := HI.out.at_ hlt
      obtain ⟨bk, ok, rfl, hbk, y1⟩ := HJ.out.at_ hlt
      have k0 := (HB.out.cell (p := ⟨bw, ow + k, none⟩) hbw).trans y0
      have k1 := (HB.out.cell (p := ⟨bk, ok + k, none⟩) hbk).trans y1
      have HS := Lib.hid (nwE_succ ws ks k)
      generalize ws.getD k 0 = W at k0 HS
      generalize ks.getD k 0 = K at k1 HS
      have x3 := HX.out.cell (i := 3) rfl
      have HXa : BoxN (wr.alloc (.cells #[.int .i64 W, .int .i64 K, .slice none 0 0] 51)) (w.heap.size + 1) #[.int .i64 0, .int .i64 kp, .slice none 0 0, .slice va k vc] 30 := (Below.heap_alloc _ _ _ (by omega)).trans HX.out
      have x3' := HXa.cell (i := 3) rfl
      clear y0 y1 HXa
      go_wp2_with fail
      go_region_law (refine step_append_ownR _ rfl _ _ 28 rfl (w.heap.size + 2) 51 i0 (.agg #[.int .i64 0, .int .i64 0, .slice none 0 0]) 3 40 Try.underlying28 hi hz0 hz1 hz2 rfl (by decide) (.slice va k vc) k (lvs (nwE ws ks k)) rfl (by first | exact HO.out.drew.alloc _ | exact HO.out.alloc _) ⟨wr.heap.size, 0, none⟩ 1 1 [.int .i64 W, .int .i64 K, .slice none 0 0] rfl rfl (three_cells (by go_simp) (by go_simp) (by go_simp)) (fun u hu => by simp at hu; rcases hu with rfl | rfl | rfl <;> rfl) (by unfold maxLen; omega) (by omega) (by first | omega | (simp; omega)) ?_; intro v6 w6 hown6 hgrow6; have HX6 := Lib.hid (show BoxN w6 (w.heap.size + 1) #[.int .i64 0, .int .i64 kp, .slice none 0 0, .slice va k vc] 30 from (hgrow6.block _ (by simp; omega) (fun e => by have := (HO.out.lt _ e.symm).1; omega)).trans ((Below.heap_alloc _ _ _ (by first | omega | (simp; omega))).trans HX.out)); have HR6 := Lib.hid (show BoxN w6 w.heap.size #[.int .i64 0, .int .i64 0, .slice none 0 0, .slice none 0 0] 30 from (hgrow6.block _ (by simp; omega) (fun e => by have := (HO.out.lt _ e.symm).1; omega)).trans ((Below.heap_alloc _ _ _ (by first | omega | (simp; omega))).trans HR.out)); have HO6 := Lib.hid (show w6.ownsRow (w.heap.size + 2) 51 3 v6 (k + 1) (lvs (nwE ws ks (k + 1))) from by rw [HS.out]; exact hown6); have HB6 := Lib.hid ((HB.out.drew.alloc (by first | omega | (simp; omega)) (.cells #[.int .i64 W, .int .i64 K, .slice none 0 0] 51)).grown hgrow6 (by first | omega | (simp; omega)) (fun j hj => Nat.le_trans (Nat.le_add_right _ 2) (HO.out.lt j hj).1)); have hs6 : w.heap.size + 2 ≤ w6.heap.size := Nat.le_trans hs (Nat.le_trans (by simp) hgrow6.size); have q3 := HX6.out.cell (i := 3) rfl; have g3 := HX6.out.frozen (i := 3); obtain ⟨vb, vd, rfl⟩ := (ORow.of_own hown6).shape; clear hown6 hgrow6)
      all_goals
        go_simp
        have QX := Lib.hid (show BoxN (w6.setCell ⟨w.heap.size + 1, 3, none⟩ (.slice vb (k + 1) vd)) (w.heap.size + 1) #[.int .i64 0, .int .i64 kp, .slice none 0 0, .slice vb (k + 1) vd] 30 from heap_setCell_same w6 (w.heap.size + 1) 3 _ _ (.slice vb (k + 1) vd) HX6.out)
        have QR := Lib.hid (show BoxN (w6.setCell ⟨w.heap.size + 1, 3, none⟩ (.slice vb (k + 1) vd)) w.heap.size #[.int .i64 0, .int .i64 0, .slice none 0 0, .slice none 0 0] 30 from (Below.heap_setCell _ _ _ _ (by simp)).trans HR6.out)
        have QO := Lib.hid (own_set_other HO6.out (w.heap.size + 1) 3 (.slice vb (k + 1) vd) (by omega))
        have QB := Lib.hid (HB6.out.setCell (p := ⟨w.heap.size + 1, 3, none⟩) (by simp) (.slice vb (k + 1) vd))
        have qs : w.heap.size + 2 ≤ (w6.setCell ⟨w.heap.size + 1, 3, none⟩ (.slice vb (k + 1) vd)).heap.size := by simpa [World.setCell] using hs6
        go_wp2_with fail
        go_roundw
        case rel => exact ⟨k + 1, vb, vd, by omega, by go_num, QX, QR, QO, QB, qs⟩
        case measure => simp [intOf]; omega
    · obtain rfl : k = n := by omega
      have hN := Hn.out
      have HO2 := Lib.hid (show wr.ownsRow (w.heap.size + 2) 51 3 (.slice va ws.length vc) ws.length (lvs (nwE ws ks ws.length)) from by rw [← hN]; exact HO.out)
      have HCD := Lib.hid (newC_cd (kp := kp) HO2.out)
      have hcv := HCD.out.cv HCR.out
      have hcv2 : CV wr wr.heap.size (.agg #[.int .i64 0, .int .i64 kp, .slice none 0 0, .slice va k vc]) (newC kp ws ks) := by rw [hN]; exact hcv
      have hcal := Lib.hid (hOk.out _ _ hcv2)
      clear hcv hcv2 hN
      have x0 := HX.out.cell (i := 0) rfl
      have x1 := HX.out.cell (i := 1) rfl
      have x2 := HX.out.cell (i := 2) rfl
      have x3 := HX.out.cell (i := 3) rfl
      generalize hcb : cascB (newC kp ws ks) = bb at hcal HNB
      cases bb with
      | false =>
        have HNM := Lib.hid (newM_no HNB.out)
        go_wp2_with fail
        refine hcal.out.mono ?_
        rintro e w5 ⟨rfl, hb5⟩
        have R5 : BoxN w5 w.heap.size #[.int .i64 0, .int .i64 0, .slice none 0 0, .slice none 0 0] 30 := (hb5.block _ HR.out.lt).trans HR.out
        have r0 := R5.cell (i := 0) rfl
        have r1 := R5.cell (i := 1) rfl
        have r2 := R5.cell (i := 2) rfl
        have r3 := R5.cell (i := 3) rfl
        have g0 := R5.frozen (i := 0)
        have g1 := R5.frozen (i := 1)
        have g2 := R5.frozen (i := 2)
        have g3 := R5.frozen (i := 3)
        have HB5 := Lib.hid (HB.out.trans (hb5.mono (Nat.le_trans (Nat.le_add_right _ 2) hs)))
        have hs5 : w.heap.size ≤ w5.heap.size := HB5.out.size
        clear hb5 R5 x0 x1 x2 x3
        go_wp2_with fail
        rw [HNM.out, HNB.out]
        refine bodyPost_ret (v := .tuple #[.agg #[.int .i64 0, .int .i64 0, .slice none 0 0, .slice none 0 0], .bool false]) (by simp [results, Try.results15, go_sem, r0, r1, r2, r3]) rfl ⟨_, _, [], rfl, zC_cd _ _ _, ?_⟩
        repeat (first | with_reducible exact HB5.out | refine Below.setCell ?_ (by simp; try omega) _)
      | true =>
        have HNM := Lib.hid (newM_yes HNB.out)
        go_wp2_with fail
        refine hcal.out.mono ?_
        rintro e w5 ⟨rfl, hb5⟩
        have R5 : BoxN w5 w.heap.size #[.int .i64 0, .int .i64 0, .slice none 0 0, .slice none 0 0] 30 := (hb5.block _ HR.out.lt).trans HR.out
        have X5 : BoxN w5 (w.heap.size + 1) #[.int .i64 0, .int .i64 kp, .slice none 0 0, .slice va k vc] 30 := (hb5.block _ HX.out.lt).trans HX.out
        have r0 := R5.cell (i := 0) rfl
        have r1 := R5.cell (i := 1) rfl
        have r2 := R5.cell (i := 2) rfl
        have r3 := R5.cell (i := 3) rfl
        have g0 := R5.frozen (i := 0)
        have g1 := R5.frozen (i := 1)
        have g2 := R5.frozen (i := 2)
        have g3 := R5.frozen (i := 3)
        have y0 := X5.cell (i := 0) rfl
        have y1 := X5.cell (i := 1) rfl
        have y2 := X5.cell (i := 2) rfl
        have y3 := X5.cell (i := 3) rfl
        have HB5 := Lib.hid (HB.out.trans (hb5.mono (Nat.le_trans (Nat.le_add_right _ 2) hs)))
        have HC5 := Lib.hid (HCD.out.below hb5)
        have hs5 : w.heap.size ≤ w5.heap.size := HB5.out.size
        have hw5 := Lib.hid hb5.size
        have HL5 := Lib.hid Hn.out
        clear hb5 R5 X5 x0 x1 x2 x3
        go_wp2_with fail
        rw [HNM.out, HNB.out]
        refine bodyPost_ret (v := .tuple #[.agg #[.int .i64 0, .int .i64 kp, .slice none 0 0, .slice va k vc], .bool true]) (by simp [results, Try.results15, go_sem, r0, r1, r2, r3]) rfl ⟨.slice none 0 0, .slice va k vc, nwE ws ks ws.length, rfl, (CD.at_ (W := w5) (by have hq := HC5.out; rw [← HL5.out] at hq ⊢; exact hq) (fun g hg => ?_)).lift (Nat.le_add_right _ 2) (by simp [World.setCell]; exact hw5.out), ?_⟩
        · have hlo : w.heap.size + 2 ≤ g := by
            rcases hg with hg | hg
            · cases hg
            · have hq := HC5.out
              rw [← HL5.out] at hq hg
              exact (hq.lt (.inr hg)).1
          repeat (first | with_reducible rfl | refine (Below.heap_setCell _ _ _ _ (by simp; omega)).trans ?_)
        · repeat (first | with_reducible exact HB5.out | refine Below.setCell ?_ (by simp; try omega) _)

set_option maxRecDepth 100000 in
set_option maxHeartbeats 8000000 in
theorem specCascadeNew_any (v u : Value) (ws ks : List Int) (kp : Int) (w : World) (hk : Rng kp) (h : IL w w.heap.size v ws) (h' : IL w w.heap.size u ks) :
    Calls Try.prog 16 #[.int .i64 kp, v, u] w (NPost w.heap.size (newM kp ws ks) (newB kp ws ks) w) := by
  have HI := Lib.hid h
  have HJ := Lib.hid h'
  have HCR := Lib.hid (newC_cr (kp := kp) hk h.1 h'.1 h.2.1)
  obtain ⟨z1, hwl, Aw, cw, rfl, z2⟩ := h
  obtain ⟨z3, hkl, Ak, ck, rfl, z4⟩ := h'
  clear z1 z2 z3 z4
  by_cases hlen : ws.length = ks.length
  case neg =>
    have HNB := Lib.hid (newB_len (kp := kp) hlen)
    have HNM := Lib.hid (newM_no HNB.out)
    have hne : ¬ (ws.length : Int) = ks.length := by omega
    have hnb : ((ws.length : Int) == (ks.length : Int)) = false := by simpa using hne
    go_enter Try.func16, Try.ntmps16
    go_wp2_with fail
    rw [HNM.out, HNB.out]
    refine bodyPost_ret (v := .tuple #[.agg #[.int .i64 0, .int .i64 0, .slice none 0 0, .slice none 0 0], .bool false]) (by simp [results, Try.results16, go_sem]) rfl ⟨_, _, [], rfl, zC_cd _ _ _, ?_⟩
    repeat (first | with_reducible exact Below.refl _ _ | refine Below.alloc ?_ (by simp; try omega) _ | refine Below.setCell ?_ (by simp; try omega) _ | refine Below.drew ?_)
  by_cases hlong : ws.length ≤ 4
  case neg =>
    have HNB := Lib.hid ((newB_eq hlen).trans (newC_long (kp := kp) (ks := ks) hlong))
    have HNM := Lib.hid (newM_no HNB.out)
    have hnb : ((ws.length : Int) == (ks.length : Int)) = true := by simp [hlen]
    have h4 : (4 : Int) < ws.length := by omega
    have h4' : decide ((4 : Int) < ks.length) = true := decide_eq_true (by omega)
    rw [hlen] at hlong
    go_enter Try.func16, Try.ntmps16
    go_wp2_with fail
    rw [HNM.out, HNB.out]
    refine bodyPost_ret (v := .tuple #[.agg #[.int .i64 0, .int .i64 0, .slice none 0 0, .slice none 0 0], .bool false]) (by simp [results, Try.results16, go_sem]) rfl ⟨_, _, [], rfl, zC_cd _ _ _, ?_⟩
    repeat (first | with_reducible exact Below.refl _ _ | refine Below.alloc ?_ (by simp; try omega) _ | refine Below.setCell ?_ (by simp; try omega) _ | refine Below.drew ?_)
  have HNB := Lib.hid (newB_eq (kp := kp) hlen)
  have hOk := Lib.hid (fun W v h => specCascadeOk_any v (newC kp ws ks) W h)
  obtain ⟨n, hn⟩ : ∃ n, n = ws.length := ⟨_, rfl⟩
  have Hn := Lib.hid hn
  rw [← hlen, ← hn] at HJ ⊢
  rw [← hn] at HI hwl
  clear hlen hkl
  rw [← hn] at hlong
  clear hn
  obtain ⟨i0, hi, hz0, hz1, hz2⟩ := info_parts info_lv
  obtain ⟨w1, hw1⟩ : ∃ w1, (w.alloc (.cells #[.int .i64 0, .int .i64 0, .slice none 0 0, .slice none 0 0] 30)).alloc (.cells #[.int .i64 0, .int .i64 kp, .slice none 0 0, .slice none 0 0] 30) = w1 := ⟨_, rfl⟩
  have B1 := Lib.hid (show Below w.heap.size w w1 from by rw [← hw1]; exact ((Below.refl _ w).alloc (Nat.le_refl _) _).alloc (by simp) _)
  have R1 : Hid (BoxN w1 w.heap.size #[.int .i64 0, .int .i64 0, .slice none 0 0, .slice none 0 0] 30) := Lib.hid (by
    have h := World.alloc_heap_new w (.cells #[.int .i64 0, .int .i64 0, .slice none 0 0, .slice none 0 0] 30)
    rw [← hw1]
    exact (Below.heap_alloc _ _ _ (by simp)).trans h)
  have X1 : Hid (BoxN w1 (w.heap.size + 1) #[.int .i64 0, .int .i64 kp, .slice none 0 0, .slice none 0 0] 30) := Lib.hid (by
    have h := World.alloc_heap_new (w.alloc (.cells #[.int .i64 0, .int .i64 0, .slice none 0 0, .slice none 0 0] 30)) (.cells #[.int .i64 0, .int .i64 kp, .slice none 0 0, .slice none 0 0] 30)
    rw [World.size_alloc] at h
    rw [← hw1]; exact h)
  have S1 : w.heap.size + 2 ≤ w1.heap.size := by rw [← hw1]; simp
  have HW1 := Lib.hid hw1
  clear hw1
  go_enter Try.func16, Try.ntmps16
  go_wp2_with fail
  rw [HW1.out]
  go_loopw [9] (fun i wr => ∃ (k : Nat) (va : Option Addr) (vc : Nat), k ≤ n ∧ i = .int .i64 k ∧ Hid (BoxN wr (w.heap.size + 1) #[.int .i64 0, .int .i64 kp, .slice none 0 0, .slice va k vc] 30) ∧ Hid (BoxN wr w.heap.size #[.int .i64 0, .int .i64 0, .slice none 0 0, .slice none 0 0] 30) ∧ Hid (wr.ownsRow (w.heap.size + 2) 51 3 (.slice va k vc) k (lvs (nwE ws ks k))) ∧ Hid (Below w.heap.size w wr) ∧ w.heap.size + 2 ≤ wr.heap.size) (fun i _ => n - (intOf i).toNat)
  case atStart => exact ⟨0, none, 0, Nat.zero_le _, rfl, X1, R1, Lib.hid (World.ownsRow_nil _ _ _ _), B1, S1⟩
  case round =>
    obtain ⟨k, va, vc, hk2, rfl, HX, HR, HO, HB, hs⟩ := hrel
    by_cases hlt : k < n
    · obtain ⟨bw, ow, rfl, hbw, y0⟩ := HI.out.at_ hlt
      obtain ⟨bk, ok, rfl, hbk, y1⟩ := HJ.out.at_ hlt
      have k0 := (HB.out.cell (p := ⟨bw, ow + k, none⟩) hbw).trans y0
      have k1 := (HB.out.cell (p := ⟨bk, ok + k, none⟩) hbk).trans y1
      have HS := Lib.hid (nwE_succ ws ks k)
      generalize ws.getD k 0 = W at k0 HS
      generalize ks.getD k 0 = K at k1 HS
      have x3 := HX.out.cell (i := 3) rfl
      have HXa : BoxN (wr.alloc (.cells #[.int .i64 W, .int .i64 K, .slice none 0 0] 51)) (w.heap.size + 1) #[.int .i64 0, .int .i64 kp, .slice none 0 0, .slice va k vc] 30 := (Below.heap_alloc _ _ _ (by omega)).trans HX.out
      have x3' := HXa.cell (i := 3) rfl
      clear y0 y1 HXa
      go_wp2_with fail
      go_region_law (refine step_append_ownR _ rfl _ _ 28 rfl (w.heap.size + 2) 51 i0 (.agg #[.int .i64 0, .int .i64 0, .slice none 0 0]) 3 40 Try.underlying28 hi hz0 hz1 hz2 rfl (by decide) (.slice va k vc) k (lvs (nwE ws ks k)) rfl (by first | exact HO.out.drew.alloc _ | exact HO.out.alloc _) ⟨wr.heap.size, 0, none⟩ 1 1 [.int .i64 W, .int .i64 K, .slice none 0 0] rfl rfl (three_cells (by go_simp) (by go_simp) (by go_simp)) (fun u hu => by simp at hu; rcases hu with rfl | rfl | rfl <;> rfl) (by unfold maxLen; omega) (by omega) (by first | omega | (simp; omega)) ?_; intro v6 w6 hown6 hgrow6; have HX6 := Lib.hid (show BoxN w6 (w.heap.size + 1) #[.int .i64 0, .int .i64 kp, .slice none 0 0, .slice va k vc] 30 from (hgrow6.block _ (by simp; omega) (fun e => by have := (HO.out.lt _ e.symm).1; omega)).trans ((Below.heap_alloc _ _ _ (by first | omega | (simp; omega))).trans HX.out)); have HR6 := Lib.hid (show BoxN w6 w.heap.size #[.int .i64 0, .int .i64 0, .slice none 0 0, .slice none 0 0] 30 from (hgrow6.block _ (by simp; omega) (fun e => by have := (HO.out.lt _ e.symm).1; omega)).trans ((Below.heap_alloc _ _ _ (by first | omega | (simp; omega))).trans HR.out)); have HO6 := Lib.hid (show w6.ownsRow (w.heap.size + 2) 51 3 v6 (k + 1) (lvs (nwE ws ks (k + 1))) from by rw [HS.out]; exact hown6); have HB6 := Lib.hid ((HB.out.drew.alloc (by first | omega | (simp; omega)) (.cells #[.int .i64 W, .int .i64 K, .slice none 0 0] 51)).grown hgrow6 (by first | omega | (simp; omega)) (fun j hj => Nat.le_trans (Nat.le_add_right _ 2) (HO.out.lt j hj).1)); have hs6 : w.heap.size + 2 ≤ w6.heap.size := Nat.le_trans hs (Nat.le_trans (by simp) hgrow6.size); have q3 := HX6.out.cell (i := 3) rfl; have g3 := HX6.out.frozen (i := 3); obtain ⟨vb, vd, rfl⟩ := (ORow.of_own hown6).shape; clear hown6 hgrow6)
      all_goals
        go_simp
        have QX := Lib.hid (show BoxN (w6.setCell ⟨w.heap.size + 1, 3, none⟩ (.slice vb (k + 1) vd)) (w.heap.size + 1) #[.int .i64 0, .int .i64 kp, .slice none 0 0, .slice vb (k + 1) vd] 30 from heap_setCell_same w6 (w.heap.size + 1) 3 _ _ (.slice vb (k + 1) vd) HX6.out)
        have QR := Lib.hid (show BoxN (w6.setCell ⟨w.heap.size + 1, 3, none⟩ (.slice vb (k + 1) vd)) w.heap.size #[.int .i64 0, .int .i64 0, .slice none 0 0, .slice none 0 0] 30 from (Below.heap_setCell _ _ _ _ (by simp)).trans HR6.out)
        have QO := Lib.hid (own_set_other HO6.out (w.heap.size + 1) 3 (.slice vb (k + 1) vd) (by omega))
        have QB := Lib.hid (HB6.out.setCell (p := ⟨w.heap.size + 1, 3, none⟩) (by simp) (.slice vb (k + 1) vd))
        have qs : w.heap.size + 2 ≤ (w6.setCell ⟨w.heap.size + 1, 3, none⟩ (.slice vb (k + 1) vd)).heap.size := by simpa [World.setCell] using hs6
        go_wp2_with fail
        go_roundw
        case rel => exact ⟨k + 1, vb, vd, by omega, by go_num, QX, QR, QO, QB, qs⟩
        case measure => simp [intOf]; omega
    · obtain rfl : k = n := by omega
      have hN := Hn.out
      have HO2 := Lib.hid (show wr.ownsRow (w.heap.size + 2) 51 3 (.slice va ws.length vc) ws.length (lvs (nwE ws ks ws.length)) from by rw [← hN]; exact HO.out)
      have HCD := Lib.hid (newC_cd (kp := kp) HO2.out)
      have hcv := HCD.out.cv HCR.out
      have hcv2 : CV wr wr.heap.size (.agg #[.int .i64 0, .int .i64 kp, .slice none 0 0, .slice va k vc]) (newC kp ws ks) := by rw [hN]; exact hcv
      have hcal := Lib.hid (hOk.out _ _ hcv2)
      clear hcv hcv2 hN
      have x0 := HX.out.cell (i := 0) rfl
      have x1 := HX.out.cell (i := 1) rfl
      have x2 := HX.out.cell (i := 2) rfl
      have x3 := HX.out.cell (i := 3) rfl
      generalize hcb : cascB (newC kp ws ks) = bb at hcal HNB
      cases bb with
      | false =>
        have HNM := Lib.hid (newM_no HNB.out)
        go_wp2_with fail
        refine hcal.out.mono ?_
        rintro e w5 ⟨rfl, hb5⟩
        have R5 : BoxN w5 w.heap.size #[.int .i64 0, .int .i64 0, .slice none 0 0, .slice none 0 0] 30 := (hb5.block _ HR.out.lt).trans HR.out
        have r0 := R5.cell (i := 0) rfl
        have r1 := R5.cell (i := 1) rfl
        have r2 := R5.cell (i := 2) rfl
        have r3 := R5.cell (i := 3) rfl
        have g0 := R5.frozen (i := 0)
        have g1 := R5.frozen (i := 1)
        have g2 := R5.frozen (i := 2)
        have g3 := R5.frozen (i := 3)
        have HB5 := Lib.hid (HB.out.trans (hb5.mono (Nat.le_trans (Nat.le_add_right _ 2) hs)))
        have hs5 : w.heap.size ≤ w5.heap.size := HB5.out.size
        clear hb5 R5 x0 x1 x2 x3
        go_wp2_with fail
        rw [HNM.out, HNB.out]
        refine bodyPost_ret (v := .tuple #[.agg #[.int .i64 0, .int .i64 0, .slice none 0 0, .slice none 0 0], .bool false]) (by simp [results, Try.results16, go_sem, r0, r1, r2, r3]) rfl ⟨_, _, [], rfl, zC_cd _ _ _, ?_⟩
        repeat (first | with_reducible exact HB5.out | refine Below.setCell ?_ (by simp; try omega) _)
      | true =>
        have HNM := Lib.hid (newM_yes HNB.out)
        go_wp2_with fail
        refine hcal.out.mono ?_
        rintro e w5 ⟨rfl, hb5⟩
        have R5 : BoxN w5 w.heap.size #[.int .i64 0, .int .i64 0, .slice none 0 0, .slice none 0 0] 30 := (hb5.block _ HR.out.lt).trans HR.out
        have X5 : BoxN w5 (w.heap.size + 1) #[.int .i64 0, .int .i64 kp, .slice none 0 0, .slice va k vc] 30 := (hb5.block _ HX.out.lt).trans HX.out
        have r0 := R5.cell (i := 0) rfl
        have r1 := R5.cell (i := 1) rfl
        have r2 := R5.cell (i := 2) rfl
        have r3 := R5.cell (i := 3) rfl
        have g0 := R5.frozen (i := 0)
        have g1 := R5.frozen (i := 1)
        have g2 := R5.frozen (i := 2)
        have g3 := R5.frozen (i := 3)
        have y0 := X5.cell (i := 0) rfl
        have y1 := X5.cell (i := 1) rfl
        have y2 := X5.cell (i := 2) rfl
        have y3 := X5.cell (i := 3) rfl
        have HB5 := Lib.hid (HB.out.trans (hb5.mono (Nat.le_trans (Nat.le_add_right _ 2) hs)))
        have HC5 := Lib.hid (HCD.out.below hb5)
        have hs5 : w.heap.size ≤ w5.heap.size := HB5.out.size
        have hw5 := Lib.hid hb5.size
        have HL5 := Lib.hid Hn.out
        clear hb5 R5 X5 x0 x1 x2 x3
        go_wp2_with fail
        rw [HNM.out, HNB.out]
        refine bodyPost_ret (v := .tuple #[.agg #[.int .i64 0, .int .i64 kp, .slice none 0 0, .slice va k vc], .bool true]) (by simp [results, Try.results16, go_sem, r0, r1, r2, r3]) rfl ⟨.slice none 0 0, .slice va k vc, nwE ws ks ws.length, rfl, (CD.at_ (W := w5) (by have hq := HC5.out; rw [← HL5.out] at hq ⊢; exact hq) (fun g hg => ?_)).lift (Nat.le_add_right _ 2) (by simp [World.setCell]; exact hw5.out), ?_⟩
        · have hlo : w.heap.size + 2 ≤ g := by
            rcases hg with hg | hg
            · cases hg
            · have hq := HC5.out
              rw [← HL5.out] at hq hg
              exact (hq.lt (.inr hg)).1
          repeat (first | with_reducible rfl | refine (Below.heap_setCell _ _ _ _ (by simp; omega)).trans ?_)
        · repeat (first | with_reducible exact HB5.out | refine Below.setCell ?_ (by simp; try omega) _)
end Go.Proofs.Ytcjpedolmnahfaa
