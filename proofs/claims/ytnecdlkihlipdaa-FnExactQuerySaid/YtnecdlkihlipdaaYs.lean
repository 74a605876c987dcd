/- Walks: the rolls of points: the program. -/
import Derived.Test.YtnecdlkihlipdaaYr
import Derived.Test.YtnecdlkihlipdaaYq
set_option linter.unusedVariables false
set_option linter.unusedSimpArgs false
namespace Go.Proofs.Ytnecdlkihlipdaa
open Go.RowKit Go.Shelf

theorem lastR_app (xs : List R6) (x : R6) : lastR (xs ++ [x]) = x := by
  unfold lastR
  rw [List.getD_eq_getElem?_getD]
  simp
theorem lastR_set (xs : List R6) (x : R6) (h : ¬ xs.length = 0) : lastR (xs.set (xs.length - 1) x) = x := by
  unfold lastR
  rw [List.length_set, getD_set_rl _ _ _ _ (by omega), if_pos rfl]
theorem lastR_addS (xs : List R6) (x : R6) : (lastR (addS xs x)).1 = x.1 := by
  by_cases h : xs.length = 0 ∨ ¬ (lastR xs).1 = x.1
  · rw [addS_app h, lastR_app]
  · have h1 : ¬ xs.length = 0 := fun e => h (.inl e)
    have h2 : (lastR xs).1 = x.1 := by
      by_cases e : (lastR xs).1 = x.1
      · exact e
      · exact absurd (.inr e) h
    rw [addS_in h1 h2, lastR_set _ _ h1]
    exact h2
theorem addI_eq {W : Int} {xs : List R6} {x : R6} (h : xs.length = 0 ∨ (lastR xs).1 ≤ (winR W x).1) : addI W xs x = addS xs (winR W x) := by
  by_cases h0 : xs.length = 0
  · rw [addI_app (.inl h0), addS_app (.inl h0)]
  · have h1 : (lastR xs).1 ≤ (winR W x).1 := h.resolve_left h0
    by_cases h2 : (lastR xs).1 < (winR W x).1
    · rw [addI_app (.inr h2), addS_app (.inr (by omega))]
    · rw [addI_in h0 h2, addS_in h0 (by omega)]
theorem win_sgl (W : Int) (p : Int × Int) : winR W (sgl p) = oneR W p := by
  have := Int.emod_add_mul_ediv p.1 W
  have h2 := Int.mul_comm W (p.1 / W)
  unfold winR sgl oneR
  simp only [Prod.mk.injEq, and_true]
  omega
theorem ediv_mono_mul {s t W : Int} (h : s ≤ t) (hW : 1 ≤ W) : s / W * W ≤ t / W * W := by
  have := Int.ediv_le_ediv (show 0 < W by omega) h
  exact Int.mul_le_mul_of_nonneg_right this (by omega)
theorem sgl_good {p : Int × Int} (h0 : 0 ≤ p.1) (h1 : Rng p.1) (h2 : Rng p.2) : (rxOf (sgl p)).1 = sgl p :=
  rxOf_eq ⟨h0, h1, (show Rng 1 from ⟨by omega, by omega⟩), h2, h2, h2, h2⟩
theorem foldI_rolls {xs : List (Int × Int)} {W : Int} (hp : ptsOkB xs = true) (hr : ∀ j, Rng (xs.getD j (0, 0)).1 ∧ Rng (xs.getD j (0, 0)).2) (hW : 1 ≤ W) :
    ∀ k, k ≤ xs.length → foldI W ((xs.take k).map (fun p => rxOf (sgl p))) = rollsL (xs.take k) W ∧ (0 < k → (lastR (rollsL (xs.take k) W)).1 = (xs.getD (k - 1) (0, 0)).1 / W * W) := by
  intro k
  induction k with
  | zero => intro _; exact ⟨rfl, fun h => by omega⟩
  | succ k ih =>
    intro hk
    obtain ⟨h1, h2⟩ := ih (by omega)
    have hlt : k < xs.length := by omega
    have hg := ptsOkB_at hp hlt
    have hs := rollsL_succ (l := xs) W hlt
    have hm : (xs.take (k + 1)).map (fun p => rxOf (sgl p)) = (xs.take k).map (fun p => rxOf (sgl p)) ++ [rxOf (sgl (xs.getD k (0, 0)))] := by
      rw [List.take_add_one, List.getElem?_eq_getElem hlt, List.getD_eq_getElem?_getD, List.getElem?_eq_getElem hlt, List.map_append]
      rfl
    have hl : (lastR (rollsL (xs.take (k + 1)) W)).1 = (xs.getD k (0, 0)).1 / W * W := by rw [hs, lastR_addS]; rfl
    refine ⟨?_, fun _ => by rw [hl]; rfl⟩
    rw [hm, foldI_snoc, sgl_good hg.1.1 (hr k).1 (hr k).2, h1, addI_eq ?_, win_sgl, hs]
    by_cases h0 : (rollsL (xs.take k) W).length = 0
    · exact .inl h0
    · right
      have hk0 : 0 < k := by
        rcases Nat.eq_zero_or_pos k with e | e
        · subst e; exact absurd rfl h0
        · exact e
      rw [win_sgl, h2 hk0]
      rcases hg.2 with e | e
      · omega
      · exact ediv_mono_mul (Int.le_of_lt e) hW

set_option maxRecDepth 100000 in
set_option maxHeartbeats 2000000 in
theorem implRollsOf_any (v : Value) (xs : List (Int × Int)) (W : Int) (w : World) (h : PL w w.heap.size v xs) :
    Calls Try.prog 100 #[v, .int .i64 W] w (RFlagPost w.heap.size (rollsM xs W) (rollsB xs W) w) := by
  have HP := Lib.hid h
  have hS := Lib.hid (fun W' h => smallPoints_any v xs W' h)
  have hW := Lib.hid (fun w => widthOk_any W w)
  obtain ⟨hr, _, A, c, rfl, _⟩ := h
  have Hr := Lib.hid hr
  clear hr
  have hSR := Lib.hid (fun w => singleRolls_any A xs.length c w)
  cases hs : ptsSmB xs with
  | false =>
    have E := Lib.hid (show rollsM xs W = [] from by unfold rollsM; rw [if_neg (by rw [hs]; simp)])
    have E2 := Lib.hid (show rollsB xs W = false from by unfold rollsB; rw [hs]; rfl)
    rw [hs] at hS
    clear hs
    go_enter Try.func100, Try.ntmps100
    go_wp2_with fail
    refine (hS.out _ HP.out).mono ?_
    rintro e w1 ⟨rfl, hb1⟩
    go_wp2_with fail
    go_ret2
    exact ⟨_, by rw [E2.out]; rfl, by rw [E.out]; exact World.ownsRow_nil _ _ _ _, hb1⟩
  | true =>
    cases hwd : wdB W with
    | false =>
      have E := Lib.hid (show rollsM xs W = [] from by unfold rollsM; rw [if_neg (by rw [hwd]; simp)])
      have E2 := Lib.hid (show rollsB xs W = false from by unfold rollsB; rw [hwd, hs]; rfl)
      rw [hs] at hS
      rw [hwd] at hW
      clear hs hwd
      go_enter Try.func100, Try.ntmps100
      go_wp2_with fail
      refine (hS.out _ HP.out).mono ?_
      rintro e w1 ⟨rfl, hb1⟩
      go_wp2_with (go_at_call 116; refine (hW.out _).mono ?_; rintro e w' ⟨rfl, rfl⟩)
      go_ret2
      exact ⟨_, by rw [E2.out]; rfl, by rw [E.out]; exact World.ownsRow_nil _ _ _ _, hb1⟩
    | true =>
      have E := Lib.hid (show rollsM xs W = rollsL xs W from by unfold rollsM; rw [if_pos ⟨hs, hwd⟩])
      have E2 := Lib.hid (show rollsB xs W = true from by unfold rollsB; rw [hwd, hs]; rfl)
      have hpk := Lib.hid (show ptsOkB xs = true from by unfold ptsSmB at hs; rw [Bool.and_eq_true] at hs; exact hs.2)
      have hwi := Lib.hid (wdB_in hwd)
      have hlen := Lib.hid (ptsOkB_len hpk.out)
      have HF := Lib.hid (show foldI W (xs.map (fun p => rxOf (sgl p))) = rollsL xs W from by
        have := (foldI_rolls hpk.out Hr.out hwi.out.1 xs.length (Nat.le_refl _)).1
        rwa [List.take_length] at this)
      rw [hs] at hS
      rw [hwd] at hW
      clear hs hwd
      go_enter Try.func100, Try.ntmps100
      go_wp2_with fail
      refine (hS.out _ HP.out).mono ?_
      rintro e w1 ⟨rfl, hb1⟩
      have HB1 := Lib.hid hb1
      clear hb1
      go_wp2_with (go_at_call 116; refine (hW.out _).mono ?_; rintro e w' ⟨rfl, rfl⟩)
      refine (hSR.out _).mono ?_
      rintro e w2 ⟨rfl, hw2⟩
      have hb2 : Below w1.heap.size w1 w2 := by rw [hw2]; exact (Below.refl _ _).alloc (Nat.le_refl _) _
      have hcell : w2.cell? ⟨w1.heap.size, 0, none⟩ = some (.slice A xs.length c) := by rw [hw2]; go_simp
      have hs2 : w1.heap.size < w2.heap.size := by rw [hw2]; simp
      have HB2 := Lib.hid (HB1.out.trans (hb2.mono HB1.out.size))
      have HP2 := Lib.hid (HP.out.below HB2.out)
      have HC := Lib.hid (combined_any 140 #[.pointer (some ⟨w1.heap.size, 0, none⟩)] (xs.map (fun p => rxOf (sgl p))) W w2 hwi.out.1 (by rw [List.length_map]; have := hlen.out; omega) (enters_of Try.func140 (by kernel_rfl) rfl) _
        (by rw [List.length_map]; exact single_stops 3 (by omega) w1.heap.size w2.heap.size A c xs (fun j hj => ⟨(ptsOkB_all hpk.out j hj).1, (Hr.out j).1, (Hr.out j).2⟩) (by have := hlen.out; omega) w2 hs2 (Nat.le_refl _) hcell (HP2.out.up HB2.out.size)))
      clear hw2 hb2 hcell HP HP2
      go_wp2_with fail
      refine HC.out.mono ?_
      rintro e w3 ⟨v3, rfl, hown3, hb3⟩
      rw [HF.out] at hown3
      have HO3 := Lib.hid (own_mono hown3 HB2.out.size)
      have HB3 := Lib.hid (HB2.out.trans (hb3.mono HB2.out.size))
      clear hown3 hb3 HC
      go_wp2_with fail
      go_ret2
      exact ⟨_, by rw [E2.out]; rfl, by rw [E.out]; exact HO3.out, HB3.out⟩
end Go.Proofs.Ytnecdlkihlipdaa
