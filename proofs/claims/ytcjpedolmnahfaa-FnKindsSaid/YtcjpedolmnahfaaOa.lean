/- Walks: cascades: how they read in memory; when they are valid. -/
import Derived.Test.YtcjpedolmnahfaaYu
import Derived.Test.YtcjpedolmnahfaaYl
set_option linter.unusedVariables false
set_option linter.unusedSimpArgs false
namespace Go.Proofs.Ytcjpedolmnahfaa
open Go.RowKit

theorem ptsSmB_pts {l : List (Int × Int)} (h : ptsSmB l = true) : ptsOkB l = true := by unfold ptsSmB at h; rw [Bool.and_eq_true] at h; exact h.2
abbrev Lv := Int × Int × List R6
abbrev zLv : Lv := (0, 0, [])
abbrev Cs := Int × Int × List (Int × Int) × List Lv
/-- the slice v reads as the levels ls, with their rolls, in the blocks below B -/
def LS (w : World) (B : Nat) (v : Value) (ls : List Lv) : Prop :=
  (∀ j, Rng (ls.getD j zLv).1 ∧ Rng (ls.getD j zLv).2.1) ∧ ls.length ≤ 1048576 ∧ ∃ A c, v = .slice A ls.length c ∧
    (ls = [] ∨ ∃ b off, A = some ⟨b, off, none⟩ ∧ b < B ∧ ∀ j, j < ls.length → w.cell? ⟨b, off + j * 3, none⟩ = some (.int .i64 (ls.getD j zLv).1) ∧ w.cell? ⟨b, off + j * 3 + 1, none⟩ = some (.int .i64 (ls.getD j zLv).2.1) ∧ ∃ r, w.cell? ⟨b, off + j * 3 + 2, none⟩ = some r ∧ RL w B r (ls.getD j zLv).2.2)
theorem LS.below {w w' : World} {B : Nat} {v : Value} {ls : List Lv} (h : LS w B v ls) (hb : Below B w w') : LS w' B v ls := by
  obtain ⟨h1, h2, A, c, rfl, h3⟩ := h
  refine ⟨h1, h2, A, c, rfl, ?_⟩
  rcases h3 with h3 | ⟨b, off, rfl, hlt, hc⟩
  · exact .inl h3
  · refine .inr ⟨b, off, rfl, hlt, fun j hj => ?_⟩
    obtain ⟨c0, c1, r, c2, hr⟩ := hc j hj
    exact ⟨(hb.cell (p := ⟨b, off + j * 3, none⟩) hlt).trans c0, (hb.cell (p := ⟨b, off + j * 3 + 1, none⟩) hlt).trans c1, r, (hb.cell (p := ⟨b, off + j * 3 + 2, none⟩) hlt).trans c2, hr.below hb⟩
theorem LS.up {w : World} {B B' : Nat} {v : Value} {ls : List Lv} (h : LS w B v ls) (hB : B ≤ B') : LS w B' v ls := by
  obtain ⟨h1, h2, A, c, rfl, h3⟩ := h
  refine ⟨h1, h2, A, c, rfl, ?_⟩
  rcases h3 with h3 | ⟨b, off, rfl, hlt, hc⟩
  · exact .inl h3
  · refine .inr ⟨b, off, rfl, by omega, fun j hj => ?_⟩
    obtain ⟨c0, c1, r, c2, hr⟩ := hc j hj
    exact ⟨c0, c1, r, c2, hr.up hB⟩
/-- the value reads as a cascade -/
def CV (w : World) (B : Nat) (v : Value) (c : Cs) : Prop :=
  ∃ rv lv, v = .agg #[.int .i64 c.1, .int .i64 c.2.1, rv, lv] ∧ PL w B rv c.2.2.1 ∧ LS w B lv c.2.2.2 ∧ Rng c.1 ∧ Rng c.2.1
theorem CV.below {w w' : World} {B : Nat} {v : Value} {c : Cs} (h : CV w B v c) (hb : Below B w w') : CV w' B v c := by
  obtain ⟨rv, lv, rfl, h1, h2, h3, h4⟩ := h
  exact ⟨rv, lv, rfl, h1.below hb, h2.below hb, h3, h4⟩
theorem CV.up {w : World} {B B' : Nat} {v : Value} {c : Cs} (h : CV w B v c) (hB : B ≤ B') : CV w B' v c := by
  obtain ⟨rv, lv, rfl, h1, h2, h3, h4⟩ := h
  exact ⟨rv, lv, rfl, h1.up hB, h2.up hB, h3, h4⟩

def rawAt (now keep : Int) (p : Int × Int) : Bool := decide (p.1 ≤ now) && decide (now - keep < p.1)
def rolAt (now : Int) (x : Lv) (r : R6) : Bool := decide (r.1 ≤ now) && decide (now - x.2.1 < r.1 + x.1)
/-- a level's shape behind one of the width w that keeps for k -/
def shpB (w k : Int) (x : Lv) : Bool := wdB x.1 && (decide (w < x.1) && (decide (x.1 % w = 0) && (vIn x.2.1 k 1000000000 && decide (x.2.1 % x.1 = 0))))
def lvB (now w k : Int) (x : Lv) : Bool := shpB w k x && (rollsOkB x.2.2 x.1 && x.2.2.all (rolAt now x))
def lvsB (now : Int) : Int → Int → List Lv → Bool
  | _, _, [] => true
  | w, k, x :: ls => lvB now w k x && lvsB now x.1 x.2.1 ls
def headB (c : Cs) : Bool := vIn c.1 0 1000000000000 && (vIn c.2.1 1 1000000000 && (ptsSmB c.2.2.1 && decide (c.2.2.2.length ≤ 4)))
def cascB (c : Cs) : Bool := headB c && (c.2.2.1.all (rawAt c.1 c.2.1) && lvsB c.1 1 c.2.1 c.2.2.2)
/-- width and keep of the level ahead of level j -/
def prevW (ls : List Lv) (j : Nat) : Int := if j = 0 then 1 else (ls.getD (j - 1) zLv).1
def prevK (k : Int) (ls : List Lv) (j : Nat) : Int := if j = 0 then k else (ls.getD (j - 1) zLv).2.1
theorem lvsB_bad {now : Int} : ∀ (ls : List Lv) (w k : Int) (j : Nat), j < ls.length → lvB now (if j = 0 then w else (ls.getD (j - 1) zLv).1) (if j = 0 then k else (ls.getD (j - 1) zLv).2.1) (ls.getD j zLv) = false → lvsB now w k ls = false
  | x :: ls, w, k, 0, _, h => by
    have h' : lvB now w k x = false := by simpa using h
    unfold lvsB; rw [h']; rfl
  | x :: ls, w, k, j + 1, hj, h => by
    have ih := lvsB_bad ls x.1 x.2.1 j (by simpa using hj) (by
      rcases Nat.eq_zero_or_pos j with e | e
      · subst e; simpa using h
      · obtain ⟨i, rfl⟩ : ∃ i, j = i + 1 := ⟨j - 1, by omega⟩
        simpa using h)
    unfold lvsB; rw [ih, Bool.and_false]
theorem lvsB_ok {now : Int} : ∀ (ls : List Lv) (w k : Int), (∀ j, j < ls.length → lvB now (if j = 0 then w else (ls.getD (j - 1) zLv).1) (if j = 0 then k else (ls.getD (j - 1) zLv).2.1) (ls.getD j zLv) = true) → lvsB now w k ls = true
  | [], w, k, _ => rfl
  | x :: ls, w, k, h => by
    have h0 := h 0 (by simp)
    have h0' : lvB now w k x = true := by simpa using h0
    have ih := lvsB_ok ls x.1 x.2.1 (fun j hj => by
      have h1 := h (j + 1) (by simpa using hj)
      rcases Nat.eq_zero_or_pos j with e | e
      · subst e; simpa using h1
      · obtain ⟨i, rfl⟩ : ∃ i, j = i + 1 := ⟨j - 1, by omega⟩
        simpa using h1)
    unfold lvsB; rw [h0', ih]; rfl
theorem cascB_lv {c : Cs} {j : Nat} (hj : j < c.2.2.2.length) (h : lvB c.1 (prevW c.2.2.2 j) (prevK c.2.1 c.2.2.2 j) (c.2.2.2.getD j zLv) = false) : cascB c = false := by
  unfold cascB
  rw [lvsB_bad c.2.2.2 1 c.2.1 j hj h]
  simp
theorem cascB_raw {c : Cs} {j : Nat} (hj : j < c.2.2.1.length) (h : rawAt c.1 c.2.1 (c.2.2.1.getD j (0, 0)) = false) : cascB c = false := by
  unfold cascB
  have : c.2.2.1.all (rawAt c.1 c.2.1) = false := by
    rw [List.all_eq_false]
    refine ⟨c.2.2.1[j], List.getElem_mem hj, ?_⟩
    rw [List.getD_eq_getElem?_getD, List.getElem?_eq_getElem hj] at h
    simpa using h
  rw [this]; simp
theorem cascB_head {c : Cs} (h : headB c = false) : cascB c = false := by unfold cascB; rw [h]; rfl
theorem cascB_ok {c : Cs} (h : headB c = true) (h1 : ∀ j, j < c.2.2.1.length → rawAt c.1 c.2.1 (c.2.2.1.getD j (0, 0)) = true) (h2 : ∀ j, j < c.2.2.2.length → lvB c.1 (prevW c.2.2.2 j) (prevK c.2.1 c.2.2.2 j) (c.2.2.2.getD j zLv) = true) : cascB c = true := by
  unfold cascB
  have e1 : c.2.2.1.all (rawAt c.1 c.2.1) = true := by
    rw [List.all_eq_true]
    intro p hp
    obtain ⟨i, hi, rfl⟩ := List.getElem_of_mem hp
    have := h1 i hi
    rw [List.getD_eq_getElem?_getD, List.getElem?_eq_getElem hi] at this
    exact this
  rw [h, e1, lvsB_ok _ _ _ h2]; rfl
theorem rolls_bad {now w k : Int} {x : Lv} {j : Nat} (hj : j < x.2.2.length) (h : rolAt now x (x.2.2.getD j z6) = false) : lvB now w k x = false := by
  unfold lvB
  have : x.2.2.all (rolAt now x) = false := by
    rw [List.all_eq_false]
    refine ⟨x.2.2[j], List.getElem_mem hj, ?_⟩
    rw [List.getD_eq_getElem?_getD, List.getElem?_eq_getElem hj] at h
    simpa using h
  rw [this]; simp
theorem lvB_ok {now w k : Int} {x : Lv} (h : shpB w k x = true) (h1 : rollsOkB x.2.2 x.1 = true) (h2 : ∀ j, j < x.2.2.length → rolAt now x (x.2.2.getD j z6) = true) : lvB now w k x = true := by
  unfold lvB
  have : x.2.2.all (rolAt now x) = true := by
    rw [List.all_eq_true]
    intro p hp
    obtain ⟨i, hi, rfl⟩ := List.getElem_of_mem hp
    have := h2 i hi
    rw [List.getD_eq_getElem?_getD, List.getElem?_eq_getElem hi] at this
    exact this
  rw [h, h1, this]; rfl
theorem shpB_in {w k : Int} {x : Lv} (h : shpB w k x = true) : (1 ≤ x.1 ∧ x.1 ≤ 1000000) ∧ w < x.1 ∧ x.1 % w = 0 ∧ (k ≤ x.2.1 ∧ x.2.1 ≤ 1000000000) ∧ x.2.1 % x.1 = 0 := by
  unfold shpB vIn at h
  simp only [Bool.and_eq_true, decide_eq_true_eq] at h
  exact ⟨wdB_in h.1, h.2.1, h.2.2.1, h.2.2.2.1, h.2.2.2.2⟩
theorem headB_in {c : Cs} (h : headB c = true) : (0 ≤ c.1 ∧ c.1 ≤ 1000000000000) ∧ (1 ≤ c.2.1 ∧ c.2.1 ≤ 1000000000) ∧ ptsSmB c.2.2.1 = true ∧ c.2.2.2.length ≤ 4 := by
  unfold headB vIn at h
  simp only [Bool.and_eq_true, decide_eq_true_eq] at h
  exact ⟨h.1, h.2.1, h.2.2.1, h.2.2.2⟩

set_option maxRecDepth 100000 in
set_option maxHeartbeats 2000000 in
theorem l8Level_any (W K : Int) (rv : Value) (w k : Int) (x : Lv) (W0 : World) (hx : x.1 = W) (hk : x.2.1 = K) (hw : 1 ≤ w) (hk0 : 0 ≤ k) (hrK : Rng K) (hrv : ∃ A n c, rv = .slice A n c) :
    Calls Try.prog 63 #[.agg #[.int .i64 W, .int .i64 K, rv], .int .i64 w, .int .i64 k] W0 fun e w' => e = .returned (.bool (shpB w k x)) ∧ Below W0.heap.size W0 w' := by
  obtain ⟨A, n, c, rfl⟩ := hrv
  have hWd := Lib.hid (fun w => l7Width_any W w)
  have hIn := Lib.hid (fun w => v_l1In_any K k 1000000000 w)
  have hw0 : ¬ w = 0 := by omega
  have hwz : (w == 0) = false := by simpa using hw0
  have hE : shpB w k x = (wdB W && (decide (w < W) && (decide (W % w = 0) && (vIn K k 1000000000 && decide (K % W = 0))))) := by unfold shpB; rw [hx, hk]
  rw [hE]
  clear hE hx hk
  cases h1 : wdB W with
  | false =>
    rw [h1] at hWd
    clear h1
    go_enter Try.func63, Try.ntmps63
    go_wp2_with (go_at_call 102; refine (hWd.out _).mono ?_; rintro e w' ⟨rfl, rfl⟩)
    go_ret
    exact ⟨rfl, by
      repeat (first | exact Below.refl _ _ | refine Below.alloc ?_ (by simp; try omega) _ | refine Below.setCell ?_ (by simp; try omega) _ | refine Below.drew ?_)⟩
  | true =>
    rw [h1] at hWd
    obtain ⟨hW1, hW2⟩ := wdB_in h1
    clear h1
    have hW0 : ¬ W = 0 := by omega
    have hWz : (W == 0) = false := by simpa using hW0
    have htm : W.tmod w = W % w := Int.tmod_eq_emod_of_nonneg (by omega)
    by_cases h2 : w < W
    case neg =>
      have h2' : decide (w < W) = false := decide_eq_false h2
      go_enter Try.func63, Try.ntmps63
      go_wp2_with (go_at_call 102; refine (hWd.out _).mono ?_; rintro e w' ⟨rfl, rfl⟩)
      go_ret
      exact ⟨by rw [h2']; rfl, by
        repeat (first | exact Below.refl _ _ | refine Below.alloc ?_ (by simp; try omega) _ | refine Below.setCell ?_ (by simp; try omega) _ | refine Below.drew ?_)⟩
    have h2' : decide (w < W) = true := decide_eq_true h2
    by_cases h3 : W % w = 0
    case neg =>
      have h3' : (W % w == 0) = false := by simpa using h3
      have h3'' : decide (W % w = 0) = false := decide_eq_false h3
      go_enter Try.func63, Try.ntmps63
      go_wp2_with (go_at_call 102; refine (hWd.out _).mono ?_; rintro e w' ⟨rfl, rfl⟩)
      go_ret
      exact ⟨by rw [h2', h3'']; rfl, by
        repeat (first | exact Below.refl _ _ | refine Below.alloc ?_ (by simp; try omega) _ | refine Below.setCell ?_ (by simp; try omega) _ | refine Below.drew ?_)⟩
    have h3' : (W % w == 0) = true := by simpa using h3
    have h3'' : decide (W % w = 0) = true := decide_eq_true h3
    cases h4 : vIn K k 1000000000 with
    | false =>
      rw [h4] at hIn
      go_enter Try.func63, Try.ntmps63
      go_wp2_with (first | (go_at_call 102; refine (hWd.out _).mono ?_; rintro e w' ⟨rfl, rfl⟩) | (go_at_call 61; refine (hIn.out _).mono ?_; rintro e w' ⟨rfl, rfl⟩))
      go_ret
      exact ⟨by rw [h2', h3'']; rfl, by
        repeat (first | exact Below.refl _ _ | refine Below.alloc ?_ (by simp; try omega) _ | refine Below.setCell ?_ (by simp; try omega) _ | refine Below.drew ?_)⟩
    | true =>
      rw [h4] at hIn
      have hK0 : 0 ≤ K := by
        unfold vIn at h4
        have h5 := of_decide_eq_true h4
        omega
      have htK : K.tmod W = K % W := Int.tmod_eq_emod_of_nonneg hK0
      have hbe : (K % W == 0) = decide (K % W = 0) := by by_cases e : K % W = 0 <;> simp [e]
      generalize decide (K % W = 0) = fin at *
      go_enter Try.func63, Try.ntmps63
      go_wp2_with (first | (go_at_call 102; refine (hWd.out _).mono ?_; rintro e w' ⟨rfl, rfl⟩) | (go_at_call 61; refine (hIn.out _).mono ?_; rintro e w' ⟨rfl, rfl⟩))
      go_ret
      exact ⟨by rw [h2', h3'']; rfl, by
        repeat (first | exact Below.refl _ _ | refine Below.alloc ?_ (by simp; try omega) _ | refine Below.setCell ?_ (by simp; try omega) _ | refine Below.drew ?_)⟩
end Go.Proofs.Ytcjpedolmnahfaa
