/- Walks: the rolls of points: the program. -/
import Derived.Test.YtkekpkfhljankaaYr
import Derived.Test.YtkekpkfhljankaaYq
import Derived.Test.YtkekpkfhljankaaZd
import Derived.Test.YtkekpkfhljankaaZg
set_option linter.unusedVariables false
set_option linter.unusedSimpArgs false
namespace Go.Proofs.Ytkekpkfhljankaa
open Go.RowKit Go.Shelf

theorem lastR_app (xs : List R6) (x : R6) : lastR (xs ++ [x]) = x := by
  unfold lastR
  rw [List.getD_eq_getElem?_getD]
  simp
theorem lastR_set (xs : List R6) (x : R6) (h : ¬ xs.length = 0) : lastR (xs.set (xs.length - 1) x) = x := by
  unfold lastR
  rw [List.length_set, getD_set_rl _ _ _ _ (by omega), if_pos rfl]
theorem lastR_addS (xs : List R6) (x : R6) : (lastR (addS xs x)).1 = x.1 := by
  by_cases h : xs.length = 0 ∨ ¬ (lastR xs).1 = x.1
  · rw [addS_app h, lastR_app]
  · have h1 : ¬ xs.length = 0 := fun e => h (.inl e)
    have h2 : (lastR xs).1 = x.1 := by
      by_cases e : (lastR xs).1 = x.1
      · exact e
      · exact absurd (.inr e) h
    rw [addS_in h1 h2, lastR_set _ _ h1]
    exact h2
theorem addI_eq {W : Int} {xs : List R6} {x : R6} (h : xs.length = 0 ∨ (lastR xs).1 ≤ (winR W x).1) : addI W xs x = addS xs (winR W x) := by
  by_cases h0 : xs.length = 0
  · rw [addI_app (.inl h0), addS_app (.inl h0)]
  · have h1 : (lastR xs).1 ≤ (winR W x).1 := h.resolve_left h0
    by_cases h2 : (lastR xs).1 < (winR W x).1
    · rw [addI_app (.inr h2), addS_app (.inr (by omega))]
    · rw [addI_in h0 h2, addS_in h0 (by omega)]
theorem win_sgl (W : Int) (p : Int × Int) : winR W (sgl p) = oneR W p := by
  have := Int.emod_add_mul_ediv p.1 W
  have h2 := Int.mul_comm W (p.1 / W)
  unfold winR sgl oneR
  simp only [Prod.mk.injEq, and_true]
  omega
theorem ediv_mono_mul {s t W : Int} (h : s ≤ t) (hW : 1 ≤ W) : s / W * W ≤ t / W * W := by
  have := Int.ediv_le_ediv (show 0 < W by omega) h
  exact Int.mul_le_mul_of_nonneg_right this (by omega)
theorem sgl_good {p : Int × Int} (h0 : 0 ≤ p.1) (h1 : Rng p.1) (h2 : Rng p.2) : (rxOf (sgl p)).1 = sgl p :=
  rxOf_eq ⟨h0, h1, (show Rng 1 from ⟨by omega, by omega⟩), h2, h2, h2, h2⟩
theorem foldI_rolls {xs : List (Int × Int)} {W : Int} (hp : ptsOkB xs = true) (hr : ∀ j, Rng (xs.getD j (0, 0)).1 ∧ Rng (xs.getD j (0, 0)).2) (hW : 1 ≤ W) :
    ∀ k, k ≤ xs.length → foldI W ((xs.take k).map (fun p => rxOf (sgl p))) = rollsL (xs.take k) W ∧ (0 < k → (lastR (rollsL (xs.take k) W)).1 = (xs.getD (k - 1) (0, 0)).1 / W * W) := by
  intro k
  induction k with
  | zero => intro _; exact ⟨rfl, fun h => by omega⟩
  | succ k ih =>
    intro hk
    obtain ⟨h1, h2⟩ := ih (by omega)
    have hlt : k < xs.length := by omega
    have hg := ptsOkB_at hp hlt
    have hs := rollsL_succ (l := xs) W hlt
    have hm : (xs.take (k + 1)).map (fun p => rxOf (sgl p)) = (xs.take k).map (fun p => rxOf (sgl p)) ++ [rxOf (sgl (xs.getD k (0, 0)))] := by
      rw [List.take_add_one, List.getElem?_eq_getElem hlt, List.getD_eq_getElem?_getD, List.getElem?_eq_getElem hlt, List.map_append]
      rfl
    have hl : (lastR (rollsL (xs.take (k + 1)) W)).1 = (xs.getD k (0, 0)).1 / W * W := by rw [hs, lastR_addS]; rfl
    refine ⟨?_, fun _ => by rw [hl]; rfl⟩
    rw [hm, foldI_snoc, sgl_good hg.1.1 (hr k).1 (hr k).2, h1, addI_eq ?_, win_sgl, hs]
    by_cases h0 : (rollsL (xs.take k) W).length = 0
    · exact .inl h0
    · right
      have hk0 : 0 < k := by
        rcases Nat.eq_zero_or_pos k with e | e
        · subst e; exact absurd rfl h0
        · exact e
      rw [win_sgl, h2 hk0]
      rcases hg.2 with e | e
      · omega
      · exact ediv_mono_mul (Int.le_of_lt e) hW

set_option maxRecDepth 100000 in
set_option maxHeartbeats 2000000 in
theorem implRollsOf_any (v : Value) (xs : List (Int × Int)) (W : Int) (w : World) (h : PL w w.heap.size v xs) :
    Calls Try.prog 50 #[v, .int .i64 W] w (RFlagPost w.heap.size (rollsM xs W) (rollsB xs W) w) := by
  have HP := Lib.hid h
  have hS := Lib.hid (fun W' h => smallPoints_any v xs W' h)
  have hW := Lib.hid (fun w => widthOk_any W w)
  obtain ⟨hr, _, A, c, rfl, _⟩ := h
  have Hr := Lib.hid hr
  clear hr
  have hSR := Lib.hid (fun w => singleRolls_any A xs.length c w)
  cases hs : ptsSmB xs with
  | false =>
    have E := Lib.hid (show rollsM xs W = [] from by unfold rollsM; rw [if_neg (by rw [hs]; simp)])
    have E2 := Lib.hid (show rollsB xs W = false from by unfold rollsB; rw [hs]; rfl)
    rw [hs] at hS
    clear hs
    go_enter Try.func50, Try.ntmps50
    go_wp2_with fail
    refine (hS.out _ HP.out).mono ?_
    rintro e w1 ⟨rfl, hb1⟩
    go_wp2_with fail
    go_ret2
    exact ⟨_, by rw [E2.out]; rfl, by rw [E.out]; exact World.ownsRow_nil _ _ _ _, hb1⟩
  | true =>
    cases hwd : wdB W with
    | false =>
      have E := Lib.hid (show rollsM xs W = [] from by unfold rollsM; rw [if_neg (by rw [hwd]; simp)])
      have E2 := Lib.hid (show rollsB xs W = false from by unfold rollsB; rw [hwd, hs]; rfl)
      rw [hs] at hS
      rw [hwd] at hW
      clear hs hwd
      go_enter Try.func50, Try.ntmps50
      go_wp2_with fail
      refine (hS.out _ HP.out).mono ?_
      rintro e w1 ⟨rfl, hb1⟩
      go_wp2_with (go_at_call 98; refine (hW.out _).mono ?_; rintro e w' ⟨rfl, rfl⟩)
      go_ret2
      exact ⟨_, by rw [E2.out]; rfl, by rw [E.out]; exact World.ownsRow_nil _ _ _ _, hb1⟩
    | true =>
      have E := Lib.hid (show rollsM xs W = rollsL xs W from by unfold rollsM; rw [if_pos ⟨hs, hwd⟩])
      have E2 := Lib.hid (show rollsB xs W = true from by unfold rollsB; rw [hwd, hs]; rfl)
      have hpk := Lib.hid (show ptsOkB xs = true from by unfold ptsSmB at hs; rw [Bool.and_eq_true] at hs; exact hs.2)
      have hwi := Lib.hid (wdB_in hwd)
      have hlen := Lib.hid (ptsOkB_len hpk.out)
      have HF := Lib.hid (show foldI W (xs.map (fun p => rxOf (sgl p))) = rollsL xs W from by
        have := (foldI_rolls hpk.out Hr.out hwi.out.1 xs.length (Nat.le_refl _)).1
        rwa [List.take_length] at this)
      rw [hs] at hS
      rw [hwd] at hW
      clear hs hwd
      go_enter Try.func50, Try.ntmps50
      go_wp2_with fail
      refine (hS.out _ HP.out).mono ?_
      rintro e w1 ⟨rfl, hb1⟩
      have HB1 := Lib.hid hb1
      clear hb1
      go_wp2_with (go_at_call 98; refine (hW.out _).mono ?_; rintro e w' ⟨rfl, rfl⟩)
      refine (hSR.out _).mono ?_
      rintro e w2 ⟨rfl, hw2⟩
      have hb2 : Below w1.heap.size w1 w2 := by rw [hw2]; exact (Below.refl _ _).alloc (Nat.le_refl _) _
      have hcell : w2.cell? ⟨w1.heap.size, 0, none⟩ = some (.slice A xs.length c) := by rw [hw2]; go_simp
      have hs2 : w1.heap.size < w2.heap.size := by rw [hw2]; simp
      have HB2 := Lib.hid (HB1.out.trans (hb2.mono HB1.out.size))
      have HP2 := Lib.hid (HP.out.below HB2.out)
      have HC := Lib.hid (combined_any 139 #[.pointer (some ⟨w1.heap.size, 0, none⟩)] (xs.map (fun p => rxOf (sgl p))) W w2 hwi.out.1 (by rw [List.length_map]; have := hlen.out; omega) (enters_of Try.func139 (by kernel_rfl) rfl) _
        (by rw [List.length_map]; exact single_stops 3 (by omega) w1.heap.size w2.heap.size A c xs (fun j hj => ⟨(ptsOkB_all hpk.out j hj).1, (Hr.out j).1, (Hr.out j).2⟩) (by have := hlen.out; omega) w2 hs2 (Nat.le_refl _) hcell (HP2.out.up HB2.out.size)))
      clear hw2 hb2 hcell HP HP2
      go_wp2_with fail
      refine HC.out.mono ?_
      rintro e w3 ⟨v3, rfl, hown3, hb3⟩
      rw [HF.out] at hown3
      have HO3 := Lib.hid (own_mono hown3 HB2.out.size)
      have HB3 := Lib.hid (HB2.out.trans (hb3.mono HB2.out.size))
      clear hown3 hb3 HC
      go_wp2_with fail
      go_ret2
      exact ⟨_, by rw [E2.out]; rfl, by rw [E.out]; exact HO3.out, HB3.out⟩
end Go.Proofs.Ytkekpkfhljankaa

/- Walks: cascades: what is ingested: the model; a right cascade's numbers are in range. -/
set_option linter.unusedVariables false
set_option linter.unusedSimpArgs false
namespace Go.Proofs.Ytkekpkfhljankaa
open Go.RowKit

theorem okVB_rng {c s mn mx la : Int} (h : okVB c s mn mx la = true) : Rng c ∧ Rng s ∧ Rng mn ∧ Rng mx ∧ Rng la := by
  unfold okVB at h
  rw [decide_eq_true_iff] at h
  obtain ⟨⟨c1, c2⟩, ⟨a1, a2⟩, ⟨b1, b2⟩, h3, h4, h5, h6, h7⟩ := h
  have e1 : c * (-1000000000) ≤ c * mn := Int.mul_le_mul_of_nonneg_left a1 (by omega)
  have e2 : c * mx ≤ c * 1000000000 := Int.mul_le_mul_of_nonneg_left b2 (by omega)
  generalize c * mn = x at *
  generalize c * mx = y at *
  exact ⟨⟨by omega, by omega⟩, ⟨by omega, by omega⟩, ⟨by omega, by omega⟩, ⟨by omega, by omega⟩, ⟨by omega, by omega⟩⟩
theorem okRB_rng {W : Int} {x : R6} (h : okRB W x = true) : Rng6 x := by
  unfold okRB at h
  rw [Bool.and_eq_true, decide_eq_true_iff] at h
  obtain ⟨h1, h2, h3, h4, h5⟩ := okVB_rng h.2
  exact ⟨⟨by omega, by omega⟩, h1, h2, h3, h4, h5⟩
theorem rollsOkB_rng {l : List R6} {W : Int} (h : rollsOkB l W = true) : (∀ i, Rng6 (l.getD i z6)) ∧ l.length ≤ 1048576 := by
  obtain ⟨h1, h2, h3⟩ := rollsOkB_in h
  refine ⟨fun i => ?_, by omega⟩
  by_cases hi : i < l.length
  · have := h3 i hi
    unfold gdR at this
    rw [Bool.and_eq_true] at this
    exact okRB_rng this.1
  · rw [List.getD_eq_getElem?_getD, List.getElem?_eq_none (by omega)]; exact rng6_zero
theorem timesOkB_rng {l : List Int} (h : timesOkB l = true) : l.length ≤ 120 ∧ ∀ j, 0 ≤ l.getD j 0 ∧ l.getD j 0 ≤ 1000000000000 := by
  unfold timesOkB at h
  rw [Bool.and_eq_true, decide_eq_true_iff] at h
  refine ⟨h.1, fun j => ?_⟩
  by_cases hj : j < l.length
  · have := List.all_eq_true.1 (show (List.range l.length).all (goodAt l) = true from h.2) j (List.mem_range.2 hj)
    unfold goodAt at this
    rw [Bool.and_eq_true, decide_eq_true_iff] at this
    exact this.1
  · rw [List.getD_eq_getElem?_getD, List.getElem?_eq_none (by omega)]; exact ⟨by simp, by simp⟩
theorem ptsSmB_rng {l : List (Int × Int)} (h : ptsSmB l = true) : (∀ j, Rng (l.getD j (0, 0)).1 ∧ Rng (l.getD j (0, 0)).2) ∧ l.length ≤ 1048576 := by
  unfold ptsSmB at h
  rw [Bool.and_eq_true] at h
  obtain ⟨h1, h2⟩ := timesOkB_rng (show timesOkB (l.map Prod.fst) = true from h.2)
  rw [List.length_map] at h1
  refine ⟨fun j => ?_, by omega⟩
  have h3 := h2 j
  rw [tsOf_getD] at h3
  refine ⟨⟨by omega, by omega⟩, ?_⟩
  by_cases hj : j < l.length
  · have h4 := List.all_eq_true.1 h.1 (l.getD j (0, 0)) (by rw [List.getD_eq_getElem?_getD, List.getElem?_eq_getElem hj]; exact List.getElem_mem hj)
    unfold smB vIn at h4
    rw [decide_eq_true_iff] at h4
    exact ⟨by omega, by omega⟩
  · rw [List.getD_eq_getElem?_getD, List.getElem?_eq_none (by omega)]; exact rng_zero
/-- the numbers of a right cascade are in range -/
theorem cascB_cr {c : Cs} (h : cascB c = true) : CR c := by
  have hk := cascB_keep h
  unfold cascB at h
  rw [Bool.and_eq_true, Bool.and_eq_true] at h
  obtain ⟨h1, h2, h3, h4⟩ := headB_in h.1
  obtain ⟨p1, p2⟩ := ptsSmB_rng h3
  have hlv : ∀ j, j < c.2.2.2.length → (1 ≤ (c.2.2.2.getD j zLv).1 ∧ (c.2.2.2.getD j zLv).1 ≤ 1000000) ∧ ((∀ i, Rng6 ((c.2.2.2.getD j zLv).2.2.getD i z6)) ∧ (c.2.2.2.getD j zLv).2.2.length ≤ 1048576) := by
    intro j hj
    have hl := lvsB_at h.2.2 j hj
    generalize (if j = 0 then (1 : Int) else (c.2.2.2.getD (j - 1) zLv).1) = w0 at hl
    generalize (if j = 0 then c.2.1 else (c.2.2.2.getD (j - 1) zLv).2.1) = k0 at hl
    generalize c.2.2.2.getD j zLv = x at *
    unfold lvB at hl
    rw [Bool.and_eq_true, Bool.and_eq_true] at hl
    exact ⟨(rollsOkB_in hl.2.1).2.1, rollsOkB_rng hl.2.1⟩
  refine ⟨⟨by omega, by omega⟩, ⟨by omega, by omega⟩, p1, p2, fun j => ?_, by omega, fun j hj => (hlv j hj).2⟩
  by_cases hj : j < c.2.2.2.length
  · have a := (hlv j hj).1
    have b := hk.2.2 j hj
    exact ⟨⟨by omega, by omega⟩, ⟨by omega, by omega⟩⟩
  · rw [List.getD_eq_getElem?_getD, List.getElem?_eq_none (by omega)]; exact ⟨rng_zero, rng_zero⟩

/-- a level to which a point's roll is added -/
def addLv (p : Int × Int) (x : Lv) : Lv := (x.1, x.2.1, addS x.2.2 (oneR x.1 p))
/-- a cascade to which a point is added, at the point's time, before what is too old goes -/
def addC (p : Int × Int) (c : Cs) : Cs := (p.1, c.2.1, c.2.2.1 ++ [p], c.2.2.2.map (addLv p))
def ingC (p : Int × Int) (c : Cs) : Cs := dropC p.1 (addC p c)
def ingB0 (c : Cs) (p : Int × Int) : Bool := cascB c && (decide (c.1 < p.1 ∧ p.1 ≤ 1000000000000) && smB p.2)
def ingB (c : Cs) (p : Int × Int) : Bool := ingB0 c p && cascB (ingC p c)
def ingM (c : Cs) (p : Int × Int) : Cs := if ingB c p = true then ingC p c else zC
theorem ingM_no {c : Cs} {p : Int × Int} (h : ingB c p = false) : ingM c p = zC := by unfold ingM; rw [if_neg (by rw [h]; simp)]
theorem ingM_yes {c : Cs} {p : Int × Int} (h : ingB c p = true) : ingM c p = ingC p c := by unfold ingM; rw [if_pos h]
theorem ingM_cr (c : Cs) (p : Int × Int) : CR (ingM c p) := by
  cases h : ingB c p with
  | true =>
    rw [ingM_yes h]
    unfold ingB at h
    rw [Bool.and_eq_true] at h
    exact cascB_cr h.2
  | false => rw [ingM_no h]; exact zC_cr
/-- the last roll of a level of a right cascade is not later than the window of what comes -/
theorem casc_last {c : Cs} (h : cascB c = true) {t : Int} (ht : c.1 < t) {j : Nat} (hj : j < c.2.2.2.length) (x : R6) (hx : x.1 = t) : (c.2.2.2.getD j zLv).2.2.length = 0 ∨ (lastR (c.2.2.2.getD j zLv).2.2).1 ≤ (winR (c.2.2.2.getD j zLv).1 x).1 := by
  have hn := cascB_keep h
  unfold cascB at h
  rw [Bool.and_eq_true, Bool.and_eq_true] at h
  have hl := lvsB_at h.2.2 j hj
  generalize (if j = 0 then (1 : Int) else (c.2.2.2.getD (j - 1) zLv).1) = w0 at hl
  generalize (if j = 0 then c.2.1 else (c.2.2.2.getD (j - 1) zLv).2.1) = k0 at hl
  generalize c.2.2.2.getD j zLv = y at *
  unfold lvB at hl
  rw [Bool.and_eq_true, Bool.and_eq_true] at hl
  obtain ⟨_, hr, ha⟩ := hl
  obtain ⟨h1, h2, h3⟩ := rollsOkB_in hr
  by_cases h0 : y.2.2.length = 0
  · exact .inl h0
  · refine .inr ?_
    have hi : y.2.2.length - 1 < y.2.2.length := by omega
    obtain ⟨g1, g2, _⟩ := gdR_in (h3 _ hi)
    have h4 := List.all_eq_true.1 ha (y.2.2.getD (y.2.2.length - 1) z6) (by rw [List.getD_eq_getElem?_getD, List.getElem?_eq_getElem hi]; exact List.getElem_mem hi)
    unfold rolAt at h4
    rw [Bool.and_eq_true, decide_eq_true_iff] at h4
    show (y.2.2.getD (y.2.2.length - 1) z6).1 ≤ x.1 - x.1 % y.1
    rw [hx]
    generalize (y.2.2.getD (y.2.2.length - 1) z6).1 = a at *
    have e1 : a / y.1 ≤ t / y.1 := Int.ediv_le_ediv (by omega) (by omega)
    have e2 : y.1 * (a / y.1) ≤ y.1 * (t / y.1) := Int.mul_le_mul_of_nonneg_left e1 (by omega)
    have e3 := Int.mul_ediv_add_emod a y.1
    have e4 := Int.mul_ediv_add_emod t y.1
    generalize y.1 * (a / y.1) = u at *
    generalize y.1 * (t / y.1) = v at *
    generalize t % y.1 = r at *
    omega
end Go.Proofs.Ytkekpkfhljankaa

/- Walks: cascades: what is ingested is in range, before it is found right too. -/
set_option linter.unusedVariables false
set_option linter.unusedSimpArgs false
namespace Go.Proofs.Ytkekpkfhljankaa
open Go.RowKit

theorem dropC_crI {nw : Int} {c : Cs} (h : CR c) (hn : Rng nw) : CR (dropC nw c) := by
  have key : ∀ j, j < (dropC nw c).2.2.2.length → (dropC nw c).2.2.2.getD j zLv = dropL nw (c.2.2.2.getD j zLv) := by
    intro j hj
    have hj' : j < c.2.2.2.length := by have : j < (c.2.2.2.map (dropL nw)).length := hj; simpa using this
    show (c.2.2.2.map (dropL nw)).getD j zLv = _
    simp [List.getD_eq_getElem?_getD, hj']
  have hlen : (dropC nw c).2.2.2.length = c.2.2.2.length := by show (c.2.2.2.map (dropL nw)).length = _; simp
  refine ⟨hn, h.keep, prng_of (fun p hp => prng_mem h.raw p (List.mem_filter.1 (show p ∈ c.2.2.1.filter _ from hp)).1), Nat.le_trans (List.length_filter_le _ _) h.rlen, fun j => ?_, by rw [hlen]; exact h.llen, fun j hj => ?_⟩
  · by_cases hj : j < (dropC nw c).2.2.2.length
    · rw [key j hj]; exact h.lv j
    · rw [List.getD_eq_getElem?_getD, List.getElem?_eq_none (by omega)]; exact ⟨rng_zero, rng_zero⟩
  · have hr := h.rolls j (by omega)
    rw [key j hj]
    refine ⟨fun i => ?_, Nat.le_trans (List.length_filter_le _ _) hr.2⟩
    show Rng6 ((List.filter (rolAt nw (c.2.2.2.getD j zLv)) (c.2.2.2.getD j zLv).2.2).getD i z6)
    generalize c.2.2.2.getD j zLv = x at hr ⊢
    by_cases hi : i < (List.filter (rolAt nw x) x.2.2).length
    · have hm : (List.filter (rolAt nw x) x.2.2).getD i z6 ∈ x.2.2 := by
        rw [List.getD_eq_getElem?_getD, List.getElem?_eq_getElem hi]
        exact (List.mem_filter.1 (List.getElem_mem hi)).1
      obtain ⟨q, hq, hqe⟩ := List.getElem_of_mem hm
      rw [← hqe]
      have := hr.1 q
      rwa [List.getD_eq_getElem?_getD, List.getElem?_eq_getElem hq] at this
    · rw [List.getD_eq_getElem?_getD, List.getElem?_eq_none (by omega)]; exact rng6_zero
theorem withR_rng {a b : R6} (ha : Rng6 a) (hb : Rng6 b) : Rng6 (withR a b) := by
  obtain ⟨a1, a2, a3, a4, a5, a6⟩ := ha
  obtain ⟨b1, b2, b3, b4, b5, b6⟩ := hb
  unfold withR
  unfold Rng at *
  refine ⟨a1, rng_wrap64 _, rng_wrap64 _, ?_, ?_, b6⟩
  · show Rng (min _ _)
    unfold Rng; omega
  · show Rng (max _ _)
    unfold Rng; omega
theorem oneR_rng {W : Int} {p : Int × Int} (hW : 1 ≤ W) (hp : 0 ≤ p.1 ∧ p.1 ≤ 1000000000000) (hv : Rng p.2) : Rng6 (oneR W p) := by
  have e := Int.mul_ediv_add_emod p.1 W
  have e1 := Int.emod_nonneg p.1 (show W ≠ 0 by omega)
  have e2 := Int.mul_nonneg (Int.ediv_nonneg hp.1 (show 0 ≤ W by omega)) (show 0 ≤ W by omega)
  rw [Int.mul_comm] at e
  refine ⟨?_, ⟨by show (_ : Int) ≤ 1; omega, by show (1 : Int) ≤ _; omega⟩, hv, hv, hv, hv⟩
  show Rng (p.1 / W * W)
  generalize p.1 / W * W = x at *
  unfold Rng; omega
theorem addS_rng {xs : List R6} {x : R6} (h : ∀ i, Rng6 (xs.getD i z6)) (hx : Rng6 x) : ∀ i, Rng6 ((addS xs x).getD i z6) := by
  intro i
  unfold addS
  split
  · rw [List.getD_eq_getElem?_getD]
    by_cases hi : i < xs.length
    · rw [List.getElem?_append_left hi]
      have := h i
      rwa [List.getD_eq_getElem?_getD] at this
    · rw [List.getElem?_append_right (by omega)]
      cases hk : i - xs.length with
      | zero => exact hx
      | succ k => exact rng6_zero
  · rename_i hc
    have h0 : ¬ xs.length = 0 := fun e => hc (.inl e)
    rw [List.getD_eq_getElem?_getD, List.getElem?_set]
    split
    · rename_i e
      rw [if_pos (by omega)]
      exact withR_rng (h _) hx
    · have := h i
      rwa [List.getD_eq_getElem?_getD] at this
theorem addC_cr {c : Cs} {p : Int × Int} (h : cascB c = true) (hp : 0 ≤ p.1 ∧ p.1 ≤ 1000000000000) (hv : Rng p.2) : CR (addC p c) := by
  have hk := cascB_keep h
  have hc := cascB_cr h
  unfold cascB at h
  rw [Bool.and_eq_true, Bool.and_eq_true] at h
  obtain ⟨h1, h2, h3, h4⟩ := headB_in h.1
  have hlen : c.2.2.1.length ≤ 120 := by
    unfold ptsSmB at h3
    rw [Bool.and_eq_true] at h3
    have := (timesOkB_rng (show timesOkB (c.2.2.1.map Prod.fst) = true from h3.2)).1
    rwa [List.length_map] at this
  have hlv : ∀ j, j < c.2.2.2.length → (1 ≤ (c.2.2.2.getD j zLv).1) ∧ (c.2.2.2.getD j zLv).2.2.length ≤ 400 := by
    intro j hj
    have hl := lvsB_at h.2.2 j hj
    generalize (if j = 0 then (1 : Int) else (c.2.2.2.getD (j - 1) zLv).1) = w0 at hl
    generalize (if j = 0 then c.2.1 else (c.2.2.2.getD (j - 1) zLv).2.1) = k0 at hl
    generalize c.2.2.2.getD j zLv = x at *
    unfold lvB at hl
    rw [Bool.and_eq_true, Bool.and_eq_true] at hl
    obtain ⟨a, b, _⟩ := rollsOkB_in hl.2.1
    exact ⟨b.1, a⟩
  have hg : ∀ j, j < c.2.2.2.length → (c.2.2.2.map (addLv p)).getD j zLv = addLv p (c.2.2.2.getD j zLv) := fun j hj => by
    simp [List.getD_eq_getElem?_getD, hj]
  refine ⟨⟨by show (_ : Int) ≤ p.1; omega, by show p.1 ≤ _; omega⟩, hc.keep, fun j => ?_, ?_, fun j => ?_, ?_, fun j hj => ?_⟩
  · show Rng ((c.2.2.1 ++ [p]).getD j (0, 0)).1 ∧ Rng ((c.2.2.1 ++ [p]).getD j (0, 0)).2
    rw [List.getD_eq_getElem?_getD]
    by_cases hi : j < c.2.2.1.length
    · rw [List.getElem?_append_left hi]
      have := hc.raw j
      rwa [List.getD_eq_getElem?_getD] at this
    · rw [List.getElem?_append_right (by omega)]
      cases hk : j - c.2.2.1.length with
      | zero => exact ⟨⟨by show (_ : Int) ≤ p.1; omega, by show p.1 ≤ _; omega⟩, hv⟩
      | succ k => exact ⟨rng_zero, rng_zero⟩
  · show (c.2.2.1 ++ [p]).length ≤ _
    simp; omega
  · show Rng ((c.2.2.2.map (addLv p)).getD j zLv).1 ∧ Rng ((c.2.2.2.map (addLv p)).getD j zLv).2.1
    by_cases hj : j < c.2.2.2.length
    · rw [hg j hj]; exact hc.lv j
    · rw [List.getD_eq_getElem?_getD, List.getElem?_eq_none (by rw [List.length_map]; omega)]; exact ⟨rng_zero, rng_zero⟩
  · show (c.2.2.2.map (addLv p)).length ≤ _
    rw [List.length_map]; omega
  · have hj : j < (c.2.2.2.map (addLv p)).length := hj
    rw [List.length_map] at hj
    show (∀ i, Rng6 (((c.2.2.2.map (addLv p)).getD j zLv).2.2.getD i z6)) ∧ ((c.2.2.2.map (addLv p)).getD j zLv).2.2.length ≤ _
    rw [hg j hj]
    have a := hlv j hj
    refine ⟨addS_rng (hc.rolls j hj).1 (oneR_rng a.1 hp hv), ?_⟩
    have := addS_len (c.2.2.2.getD j zLv).2.2 (oneR (c.2.2.2.getD j zLv).1 p)
    show (addS (c.2.2.2.getD j zLv).2.2 (oneR (c.2.2.2.getD j zLv).1 p)).length ≤ _
    omega
theorem ingC_cr {c : Cs} {p : Int × Int} (h : cascB c = true) (hp : 0 ≤ p.1 ∧ p.1 ≤ 1000000000000) (hv : Rng p.2) : CR (ingC p c) :=
  dropC_crI (addC_cr h hp hv) ⟨by omega, by omega⟩
end Go.Proofs.Ytkekpkfhljankaa
