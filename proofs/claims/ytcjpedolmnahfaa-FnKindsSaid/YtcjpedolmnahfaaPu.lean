/- Walks: queries: what is told of rolls; the aggregates. -/
import Derived.Test.YtcjpedolmnahfaaPk
import Derived.Test.YtcjpedolmnahfaaYs
import Derived.Test.YtcjpedolmnahfaaPc
set_option linter.unusedVariables false
set_option linter.unusedSimpArgs false
namespace Go.Proofs.Ytcjpedolmnahfaa
open Go.RowKit

/-- what a roll tells for an aggregate -/
def aggV (t : Int) (r : R6) : Int :=
  if t = 1 then r.2.1 else if t = 2 then r.2.2.1 else if t = 3 then r.2.2.2.1 else if t = 4 then r.2.2.2.2.1 else if t = 5 then r.2.2.2.2.2 else r.2.2.1 / r.2.1
def qryL (rs : List R6) (f t h : Int) : List (Int × Int) := (rs.filter (fun r => decide (f ≤ r.1) && decide (r.1 < t))).map (fun r => (r.1, aggV h r))
theorem qryL_succ {rs : List R6} {k : Nat} (f t h : Int) (hk : k < rs.length) :
    qryL (rs.take (k + 1)) f t h = qryL (rs.take k) f t h ++ (if f ≤ (rs.getD k z6).1 ∧ (rs.getD k z6).1 < t then [((rs.getD k z6).1, aggV h (rs.getD k z6))] else []) := by
  unfold qryL
  rw [List.take_add_one, List.getElem?_eq_getElem hk, List.getD_eq_getElem?_getD, List.getElem?_eq_getElem hk, List.filter_append, List.map_append]
  congr 1
  simp only [Option.toList_some, Option.getD_some]
  by_cases h1 : f ≤ rs[k].1 ∧ rs[k].1 < t
  · rw [if_pos h1, List.filter_cons_of_pos (by simp [h1.1, h1.2])]; rfl
  · rw [if_neg h1, List.filter_cons_of_neg (by simp; intro a; have := h1; omega)]; rfl
theorem qryL_len (rs : List R6) (f t h : Int) : (qryL rs f t h).length ≤ rs.length := by unfold qryL; rw [List.length_map]; exact List.length_filter_le _ _
/-- the rolls of what is picked -/
def pickRs (c : Cs) (p : Int) : List R6 := if p = -1 then rollsL c.2.2.1 1 else (c.2.2.2.getD p.toNat zLv).2.2
def qryB (c : Cs) (f t h : Int) : Bool := decide (-1 ≤ pickM c f) && (vIn t 0 1000000000000 && vIn h 1 6)
def qryM (c : Cs) (f t h : Int) : List (Int × Int) := if qryB c f t h = true then qryL (pickRs c (pickM c f)) f t h else []
/-- a roll whose values can be told -/
def TR (r : R6) : Prop := (1 ≤ r.2.1 ∧ r.2.1 ≤ 1000000) ∧ (-1000000000000000 ≤ r.2.2.1 ∧ r.2.2.1 ≤ 1000000000000000) ∧ Rng6 r
theorem rolls_1 {l : List (Int × Int)} (h : ptsOkB l = true) : ∀ k, k ≤ l.length → rollsL (l.take k) 1 = (l.take k).map (oneR 1)
  | 0, _ => rfl
  | k + 1, hk => by
    have ih := rolls_1 h k (by omega)
    have e1 : l.take (k + 1) = l.take k ++ [l.getD k (0, 0)] := by
      rw [List.take_add_one, List.getElem?_eq_getElem (by omega), List.getD_eq_getElem?_getD, List.getElem?_eq_getElem (by omega)]; rfl
    rw [rollsL_succ 1 (by omega), ih, e1, List.map_append]
    unfold addS
    rw [if_pos]
    · rfl
    · rcases Nat.eq_zero_or_pos k with e | e
      · left; subst e; rfl
      · right
        have hl : ((l.take k).map (oneR 1)).length = k := by simp; omega
        unfold lastR
        rw [hl]
        have e2 : ((l.take k).map (oneR 1)).getD (k - 1) z6 = oneR 1 (l.getD (k - 1) (0, 0)) := by
          rw [List.getD_eq_getElem?_getD, List.getD_eq_getElem?_getD, List.getElem?_map, List.getElem?_take, if_pos (by omega), List.getElem?_eq_getElem (by omega)]; rfl
        rw [e2]
        have h2 := (ptsOkB_at h (j := k) (by omega)).2
        show ¬ (l.getD (k - 1) (0, 0)).1 / 1 * 1 = (l.getD k (0, 0)).1 / 1 * 1
        rw [Int.ediv_one, Int.ediv_one]
        omega
theorem tr_raw {l : List (Int × Int)} (h : ptsSmB l = true) (hr : ∀ j, Rng (l.getD j (0, 0)).1 ∧ Rng (l.getD j (0, 0)).2) : ∀ j, j < (rollsL l 1).length → TR ((rollsL l 1).getD j z6) := by
  have hk : ptsOkB l = true := ptsSmB_pts h
  have e := rolls_1 hk l.length (Nat.le_refl _)
  rw [List.take_length] at e
  rw [e]
  intro j hj
  have hj' : j < l.length := by simpa using hj
  have e2 : (l.map (oneR 1)).getD j z6 = oneR 1 (l.getD j (0, 0)) := by
    rw [List.getD_eq_getElem?_getD, List.getD_eq_getElem?_getD, List.getElem?_map, List.getElem?_eq_getElem hj']; rfl
  rw [e2]
  have h1 := hr j
  have hs : -1000000000 ≤ (l.getD j (0, 0)).2 ∧ (l.getD j (0, 0)).2 ≤ 1000000000 := by
    unfold ptsSmB at h
    rw [Bool.and_eq_true, List.all_eq_true] at h
    have h3 := h.1 (l.getD j (0, 0)) (by rw [List.getD_eq_getElem?_getD, List.getElem?_eq_getElem hj']; exact List.getElem_mem hj')
    unfold smB vIn at h3
    simpa using h3
  refine ⟨⟨by simp [oneR], by simp [oneR]⟩, ⟨by show _ ≤ (l.getD j (0, 0)).2; omega, by show (l.getD j (0, 0)).2 ≤ _; omega⟩, ?_⟩
  refine ⟨?_, (⟨by decide, by decide⟩ : Rng 1), h1.2, h1.2, h1.2, h1.2⟩
  show Rng ((l.getD j (0, 0)).1 / 1 * 1)
  rw [Int.ediv_one, Int.mul_one]; exact h1.1
end Go.Proofs.Ytcjpedolmnahfaa

/- Walks: queries: the program's aggregates; what a roll tells. -/
set_option linter.unusedVariables false
set_option linter.unusedSimpArgs false
namespace Go.Proofs.Ytcjpedolmnahfaa
open Go.RowKit

def aggI (t : Int) : Value := if t = 6 then .iface 135 (.agg #[]) else .iface 136 (.int .i64 t)
theorem aggI_6 : aggI 6 = .iface 135 (.agg #[]) := rfl
theorem aggI_f {t : Int} (h : ¬ t = 6) : aggI t = .iface 136 (.int .i64 t) := by unfold aggI; rw [if_neg h]

set_option maxRecDepth 100000 in
theorem aggregateOf_any (t : Int) (w : World) : Calls Try.prog 83 #[.int .i64 t] w fun e w' => e = .returned (aggI t) ∧ w' = w := by
  by_cases h : t = 6
  · subst h
    rw [aggI_6]
    go_enter Try.func83, Try.ntmps83
    go_wp2_with fail
    go_ret
    exact ⟨rfl, rfl⟩
  · rw [aggI_f h]
    go_enter Try.func83, Try.ntmps83
    go_wp2_with fail
    go_ret
    exact ⟨rfl, rfl⟩
set_option maxRecDepth 100000 in
theorem knownMean_any (w : World) : Calls Try.prog 153 #[.agg #[]] w fun e w' => e = .returned (.bool true) ∧ Below w.heap.size w w' := by
  go_enter Try.func153, Try.ntmps153
  go_wp2_with fail
  go_ret
  exact ⟨rfl, by repeat (first | with_reducible exact Below.refl _ _ | refine Below.alloc ?_ (by simp; try omega) _ | refine Below.setCell ?_ (by simp; try omega) _ | refine Below.drew ?_)⟩
set_option maxRecDepth 100000 in
theorem knownField_any (t : Int) (w : World) : Calls Try.prog 154 #[.int .i64 t] w fun e w' => e = .returned (.bool (vIn t 1 5)) ∧ w' = w := by
  by_cases h1 : 1 ≤ t
  · by_cases h2 : t ≤ 5
    · have E : vIn t 1 5 = true := by unfold vIn; rw [decide_eq_true ⟨h1, h2⟩]
      rw [E]
      go_enter Try.func154, Try.ntmps154
      go_wp2_with fail
      go_ret
      exact ⟨rfl, rfl⟩
    · have E : vIn t 1 5 = false := by unfold vIn; rw [decide_eq_false (fun e => h2 e.2)]
      rw [E]
      go_enter Try.func154, Try.ntmps154
      go_wp2_with fail
      go_ret
      exact ⟨rfl, rfl⟩
  · have E : vIn t 1 5 = false := by unfold vIn; rw [decide_eq_false (fun e => h1 e.1)]
    rw [E]
    go_enter Try.func154, Try.ntmps154
    go_wp2_with fail
    go_ret
    exact ⟨rfl, rfl⟩
set_option maxRecDepth 100000 in
set_option maxHeartbeats 1000000 in
theorem fields_any (r : R6) (w : World) : Calls Try.prog 118 #[.agg #[.int .i64 r.1, .int .i64 r.2.1, .int .i64 r.2.2.1, .int .i64 r.2.2.2.1, .int .i64 r.2.2.2.2.1, .int .i64 r.2.2.2.2.2]] w fun e w' => e = .returned (.agg #[.int .i64 0, .int .i64 r.2.1, .int .i64 r.2.2.1, .int .i64 r.2.2.2.1, .int .i64 r.2.2.2.2.1, .int .i64 r.2.2.2.2.2]) ∧ Below w.heap.size w w' := by
  obtain ⟨t, r1, r2, r3, r4, r5⟩ := r
  go_enter Try.func118, Try.ntmps118
  go_wp2_with fail
  exact bodyPost_ret (v := .agg #[.int .i64 0, .int .i64 r1, .int .i64 r2, .int .i64 r3, .int .i64 r4, .int .i64 r5]) (by simp [results, Try.results118, go_sem]) rfl ⟨rfl, by repeat (first | with_reducible exact Below.refl _ _ | refine Below.alloc ?_ (by simp; try omega) _ | refine Below.setCell ?_ (by simp; try omega) _ | refine Below.drew ?_)⟩
theorem floor_div {s n : Int} (hn : 1 ≤ n) : (s.tmod n < 0 → s / n = s.tdiv n - 1) ∧ (¬ s.tmod n < 0 → s / n = s.tdiv n) := by
  have h1 := Int.mul_tdiv_add_tmod s n
  have h3 := Int.tmod_lt_of_pos s (show 0 < n by omega)
  rcases Int.lt_or_le s 0 with hs | hs
  · have h4 : -n < s.tmod n := by
      have := Int.tmod_lt_of_pos (-s) (show 0 < n by omega)
      rw [Int.neg_tmod] at this; omega
    refine ⟨fun hm => ?_, fun hm => ?_⟩
    · exact ((Int.ediv_emod_unique (a := s) (b := n) (r := s.tmod n + n) (q := s.tdiv n - 1) (show 0 < n by omega)).2 ⟨by rw [Int.mul_sub, Int.mul_one]; omega, by omega, by omega⟩).1
    · exact ((Int.ediv_emod_unique (a := s) (b := n) (r := s.tmod n) (q := s.tdiv n) (show 0 < n by omega)).2 ⟨by omega, by omega, by omega⟩).1
  · refine ⟨fun hm => ?_, fun _ => (Int.tdiv_eq_ediv_of_nonneg hs).symm⟩
    have := Int.tmod_nonneg n hs
    omega
theorem tdiv_bd {s n : Int} (hn : 1 ≤ n) (h1 : -1000000000000000 ≤ s) (h2 : s ≤ 1000000000000000) : -1000000000000000 ≤ s.tdiv n ∧ s.tdiv n ≤ 1000000000000000 := by
  rcases Int.lt_or_le s 0 with hs | hs
  · have e : s.tdiv n = -((-s).tdiv n) := by rw [Int.neg_tdiv]; omega
    have := Int.tdiv_le_self n (show 0 ≤ -s by omega)
    have h0 := Int.tdiv_nonneg (show 0 ≤ -s by omega) (show 0 ≤ n by omega)
    omega
  · have := Int.tdiv_le_self n hs
    have h0 := Int.tdiv_nonneg hs (show 0 ≤ n by omega)
    omega
set_option maxRecDepth 100000 in
set_option maxHeartbeats 1000000 in
theorem roundedDown_any (s n : Int) (w : World) (hn : 1 ≤ n) (hn2 : n ≤ 1000000) (h1 : -1000000000000000 ≤ s) (h2 : s ≤ 1000000000000000) : Calls Try.prog 119 #[.int .i64 s, .int .i64 n] w fun e w' => e = .returned (.int .i64 (s / n)) ∧ w' = w := by
  have hf := floor_div (s := s) hn
  have hb := tdiv_bd (s := s) hn h1 h2
  have hw0 : n = 0 → False := by omega
  have hwz : (n == 0) = false := by simpa using hw0
  have hm1 : -1000000 ≤ s.tmod n ∧ s.tmod n ≤ 1000000 := by
    have h3 := Int.tmod_lt_of_pos s (show 0 < n by omega)
    have h4 := Int.tmod_lt_of_pos (-s) (show 0 < n by omega)
    rw [Int.neg_tmod] at h4; omega
  obtain ⟨q, hq⟩ : ∃ q, s.tdiv n = q := ⟨_, rfl⟩
  obtain ⟨m, hm⟩ : ∃ m, s.tmod n = m := ⟨_, rfl⟩
  rw [hq] at hf hb
  rw [hm] at hf hm1
  have HF := Lib.hid hf
  clear hf
  have e1 : IntKind.i64.wrap q = q := IntWalk.i64_in _ (by omega)
  have e2 : IntKind.i64.wrap m = m := IntWalk.i64_in _ (by omega)
  have e3 : IntKind.i64.wrap (q - 1) = q - 1 := IntWalk.i64_in _ (by omega)
  have e4 : wrap64 q = q := by unfold wrap64; omega
  have e5 : wrap64 m = m := by unfold wrap64; omega
  have e6 : wrap64 (q - 1) = q - 1 := by unfold wrap64; omega
  by_cases h : m < 0
  · have d1 : decide (m < 0) = true := decide_eq_true h
    have HE := Lib.hid (HF.out.1 h)
    go_enter Try.func119, Try.ntmps119
    go_wp2_with fail
    go_ret
    exact ⟨by rw [HE.out]; rfl, rfl⟩
  · have d1 : decide (m < 0) = false := decide_eq_false h
    have HE := Lib.hid (HF.out.2 h)
    go_enter Try.func119, Try.ntmps119
    go_wp2_with fail
    go_ret
    exact ⟨by rw [HE.out]; rfl, rfl⟩
set_option maxRecDepth 100000 in
set_option maxHeartbeats 1000000 in
theorem value1_any (t r1 r2 r3 r4 r5 : Int) (w : World) (hr : TR (t, r1, r2, r3, r4, r5)) : Calls Try.prog 85 #[.agg #[.int .i64 t, .int .i64 r1, .int .i64 r2, .int .i64 r3, .int .i64 r4, .int .i64 r5], aggI 1] w fun e w' => e = .returned (.int .i64 r1) ∧ Below w.heap.size w w' := by
  obtain ⟨⟨a1, a2⟩, ⟨a3, a4⟩, _⟩ := hr
  simp only at a1 a2 a3 a4
  have hcal := Lib.hid (fun W => fields_any (t, r1, r2, r3, r4, r5) W)
  have hta : ∀ w, (Instr.typeAssert (.iface 136 (.int .i64 1)) 104 136 true).run Try.prog w = .ok (.tuple #[.int .i64 1, .bool true]) w := fun _ => by kernel_rfl
  have hix : ∀ w, (Instr.index 137 (.agg #[.int .i64 0, .int .i64 r1, .int .i64 r2, .int .i64 r3, .int .i64 r4, .int .i64 r5]) (.int .i64 1)).run Try.prog w = .ok (.int .i64 r1) w := fun _ => by kernel_rfl
  rw [aggI_f (by decide)]
  go_enter Try.func85, Try.ntmps85
  go_wp2_with fail
  refine (hcal.out _).mono ?_
  rintro e w1 ⟨rfl, hb1⟩
  have HB1 := Lib.hid (((Below.refl w.heap.size w).alloc (Nat.le_refl _) (.cells #[.int .i64 t, .int .i64 r1, .int .i64 r2, .int .i64 r3, .int .i64 r4, .int .i64 r5] 48)).trans (hb1.mono (by simp)))
  clear hb1
  go_wp2_with fail
  go_ret
  exact ⟨rfl, HB1.out⟩
set_option maxRecDepth 100000 in
set_option maxHeartbeats 1000000 in
theorem value2_any (t r1 r2 r3 r4 r5 : Int) (w : World) (hr : TR (t, r1, r2, r3, r4, r5)) : Calls Try.prog 85 #[.agg #[.int .i64 t, .int .i64 r1, .int .i64 r2, .int .i64 r3, .int .i64 r4, .int .i64 r5], aggI 2] w fun e w' => e = .returned (.int .i64 r2) ∧ Below w.heap.size w w' := by
  obtain ⟨⟨a1, a2⟩, ⟨a3, a4⟩, _⟩ := hr
  simp only at a1 a2 a3 a4
  have hcal := Lib.hid (fun W => fields_any (t, r1, r2, r3, r4, r5) W)
  have hta : ∀ w, (Instr.typeAssert (.iface 136 (.int .i64 2)) 104 136 true).run Try.prog w = .ok (.tuple #[.int .i64 2, .bool true]) w := fun _ => by kernel_rfl
  have hix : ∀ w, (Instr.index 137 (.agg #[.int .i64 0, .int .i64 r1, .int .i64 r2, .int .i64 r3, .int .i64 r4, .int .i64 r5]) (.int .i64 2)).run Try.prog w = .ok (.int .i64 r2) w := fun _ => by kernel_rfl
  rw [aggI_f (by decide)]
  go_enter Try.func85, Try.ntmps85
  go_wp2_with fail
  refine (hcal.out _).mono ?_
  rintro e w1 ⟨rfl, hb1⟩
  have HB1 := Lib.hid (((Below.refl w.heap.size w).alloc (Nat.le_refl _) (.cells #[.int .i64 t, .int .i64 r1, .int .i64 r2, .int .i64 r3, .int .i64 r4, .int .i64 r5] 48)).trans (hb1.mono (by simp)))
  clear hb1
  go_wp2_with fail
  go_ret
  exact ⟨rfl, HB1.out⟩
set_option maxRecDepth 100000 in
set_option maxHeartbeats 1000000 in
theorem value3_any (t r1 r2 r3 r4 r5 : Int) (w : World) (hr : TR (t, r1, r2, r3, r4, r5)) : Calls Try.prog 85 #[.agg #[.int .i64 t, .int .i64 r1, .int .i64 r2, .int .i64 r3, .int .i64 r4, .int .i64 r5], aggI 3] w fun e w' => e = .returned (.int .i64 r3) ∧ Below w.heap.size w w' := by
  obtain ⟨⟨a1, a2⟩, ⟨a3, a4⟩, _⟩ := hr
  simp only at a1 a2 a3 a4
  have hcal := Lib.hid (fun W => fields_any (t, r1, r2, r3, r4, r5) W)
  have hta : ∀ w, (Instr.typeAssert (.iface 136 (.int .i64 3)) 104 136 true).run Try.prog w = .ok (.tuple #[.int .i64 3, .bool true]) w := fun _ => by kernel_rfl
  have hix : ∀ w, (Instr.index 137 (.agg #[.int .i64 0, .int .i64 r1, .int .i64 r2, .int .i64 r3, .int .i64 r4, .int .i64 r5]) (.int .i64 3)).run Try.prog w = .ok (.int .i64 r3) w := fun _ => by kernel_rfl
  rw [aggI_f (by decide)]
  go_enter Try.func85, Try.ntmps85
  go_wp2_with fail
  refine (hcal.out _).mono ?_
  rintro e w1 ⟨rfl, hb1⟩
  have HB1 := Lib.hid (((Below.refl w.heap.size w).alloc (Nat.le_refl _) (.cells #[.int .i64 t, .int .i64 r1, .int .i64 r2, .int .i64 r3, .int .i64 r4, .int .i64 r5] 48)).trans (hb1.mono (by simp)))
  clear hb1
  go_wp2_with fail
  go_ret
  exact ⟨rfl, HB1.out⟩
set_option maxRecDepth 100000 in
set_option maxHeartbeats 1000000 in
theorem value4_any (t r1 r2 r3 r4 r5 : Int) (w : World) (hr : TR (t, r1, r2, r3, r4, r5)) : Calls Try.prog 85 #[.agg #[.int .i64 t, .int .i64 r1, .int .i64 r2, .int .i64 r3, .int .i64 r4, .int .i64 r5], aggI 4] w fun e w' => e = .returned (.int .i64 r4) ∧ Below w.heap.size w w' := by
  obtain ⟨⟨a1, a2⟩, ⟨a3, a4⟩, _⟩ := hr
  simp only at a1 a2 a3 a4
  have hcal := Lib.hid (fun W => fields_any (t, r1, r2, r3, r4, r5) W)
  have hta : ∀ w, (Instr.typeAssert (.iface 136 (.int .i64 4)) 104 136 true).run Try.prog w = .ok (.tuple #[.int .i64 4, .bool true]) w := fun _ => by kernel_rfl
  have hix : ∀ w, (Instr.index 137 (.agg #[.int .i64 0, .int .i64 r1, .int .i64 r2, .int .i64 r3, .int .i64 r4, .int .i64 r5]) (.int .i64 4)).run Try.prog w = .ok (.int .i64 r4) w := fun _ => by kernel_rfl
  rw [aggI_f (by decide)]
  go_enter Try.func85, Try.ntmps85
  go_wp2_with fail
  refine (hcal.out _).mono ?_
  rintro e w1 ⟨rfl, hb1⟩
  have HB1 := Lib.hid (((Below.refl w.heap.size w).alloc (Nat.le_refl _) (.cells #[.int .i64 t, .int .i64 r1, .int .i64 r2, .int .i64 r3, .int .i64 r4, .int .i64 r5] 48)).trans (hb1.mono (by simp)))
  clear hb1
  go_wp2_with fail
  go_ret
  exact ⟨rfl, HB1.out⟩
set_option maxRecDepth 100000 in
set_option maxHeartbeats 1000000 in
theorem value5_any (t r1 r2 r3 r4 r5 : Int) (w : World) (hr : TR (t, r1, r2, r3, r4, r5)) : Calls Try.prog 85 #[.agg #[.int .i64 t, .int .i64 r1, .int .i64 r2, .int .i64 r3, .int .i64 r4, .int .i64 r5], aggI 5] w fun e w' => e = .returned (.int .i64 r5) ∧ Below w.heap.size w w' := by
  obtain ⟨⟨a1, a2⟩, ⟨a3, a4⟩, _⟩ := hr
  simp only at a1 a2 a3 a4
  have hcal := Lib.hid (fun W => fields_any (t, r1, r2, r3, r4, r5) W)
  have hta : ∀ w, (Instr.typeAssert (.iface 136 (.int .i64 5)) 104 136 true).run Try.prog w = .ok (.tuple #[.int .i64 5, .bool true]) w := fun _ => by kernel_rfl
  have hix : ∀ w, (Instr.index 137 (.agg #[.int .i64 0, .int .i64 r1, .int .i64 r2, .int .i64 r3, .int .i64 r4, .int .i64 r5]) (.int .i64 5)).run Try.prog w = .ok (.int .i64 r5) w := fun _ => by kernel_rfl
  rw [aggI_f (by decide)]
  go_enter Try.func85, Try.ntmps85
  go_wp2_with fail
  refine (hcal.out _).mono ?_
  rintro e w1 ⟨rfl, hb1⟩
  have HB1 := Lib.hid (((Below.refl w.heap.size w).alloc (Nat.le_refl _) (.cells #[.int .i64 t, .int .i64 r1, .int .i64 r2, .int .i64 r3, .int .i64 r4, .int .i64 r5] 48)).trans (hb1.mono (by simp)))
  clear hb1
  go_wp2_with fail
  go_ret
  exact ⟨rfl, HB1.out⟩
set_option maxRecDepth 100000 in
set_option maxHeartbeats 1000000 in
theorem value6_any (t r1 r2 r3 r4 r5 : Int) (w : World) (hr : TR (t, r1, r2, r3, r4, r5)) : Calls Try.prog 85 #[.agg #[.int .i64 t, .int .i64 r1, .int .i64 r2, .int .i64 r3, .int .i64 r4, .int .i64 r5], aggI 6] w fun e w' => e = .returned (.int .i64 (r2 / r1)) ∧ Below w.heap.size w w' := by
  obtain ⟨⟨a1, a2⟩, ⟨a3, a4⟩, _⟩ := hr
  simp only at a1 a2 a3 a4
  have hcal := Lib.hid (fun W => roundedDown_any r2 r1 W a1 a2 a3 a4)
  have hta : ∀ w, (Instr.typeAssert (.iface 135 (.agg #[])) 104 136 true).run Try.prog w = .ok (.tuple #[.int .i64 0, .bool false]) w := fun _ => by kernel_rfl
  rw [aggI_6]
  go_enter Try.func85, Try.ntmps85
  go_wp2_with fail
  refine (hcal.out _).mono ?_
  rintro e w1 ⟨rfl, rfl⟩
  go_wp2_with fail
  go_ret
  exact ⟨rfl, by repeat (first | with_reducible exact Below.refl _ _ | refine Below.alloc ?_ (by simp; try omega) _ | refine Below.setCell ?_ (by simp; try omega) _ | refine Below.drew ?_)⟩
theorem value_any (h : Int) (r : R6) (w : World) (h1 : 1 ≤ h ∧ h ≤ 6) (hr : TR r) : Calls Try.prog 85 #[.agg #[.int .i64 r.1, .int .i64 r.2.1, .int .i64 r.2.2.1, .int .i64 r.2.2.2.1, .int .i64 r.2.2.2.2.1, .int .i64 r.2.2.2.2.2], aggI h] w fun e w' => e = .returned (.int .i64 (aggV h r)) ∧ Below w.heap.size w w' := by
  obtain ⟨t, r1, r2, r3, r4, r5⟩ := r
  have hc : h = 1 ∨ h = 2 ∨ h = 3 ∨ h = 4 ∨ h = 5 ∨ h = 6 := by omega
  rcases hc with rfl | rfl | rfl | rfl | rfl | rfl
  · exact value1_any t r1 r2 r3 r4 r5 w hr
  · exact value2_any t r1 r2 r3 r4 r5 w hr
  · exact value3_any t r1 r2 r3 r4 r5 w hr
  · exact value4_any t r1 r2 r3 r4 r5 w hr
  · exact value5_any t r1 r2 r3 r4 r5 w hr
  · exact value6_any t r1 r2 r3 r4 r5 w hr
end Go.Proofs.Ytcjpedolmnahfaa

/- Walks: queries: the rolls of what is picked; the model's mean. -/
set_option linter.unusedVariables false
set_option linter.unusedSimpArgs false
namespace Go.Proofs.Ytcjpedolmnahfaa
open Go.RowKit

theorem lvsB_rolls (now : Int) : ∀ (ls : List Lv) (w k : Int), lvsB now w k ls = true → ∀ x ∈ ls, rollsOkB x.2.2 x.1 = true
  | [], w, k, _ => fun x hx => by cases hx
  | y :: ls, w, k, h => by
    have h3 : (lvB now w k y && lvsB now y.1 y.2.1 ls) = true := h
    rw [Bool.and_eq_true] at h3
    have h4 : (shpB w k y && (rollsOkB y.2.2 y.1 && y.2.2.all (rolAt now y))) = true := h3.1
    rw [Bool.and_eq_true, Bool.and_eq_true] at h4
    intro x hx
    rcases List.mem_cons.1 hx with rfl | hx
    · exact h4.2.1
    · exact lvsB_rolls now ls y.1 y.2.1 h3.2 x hx
theorem tr_lv {rs : List R6} {W : Int} (h : rollsOkB rs W = true) (hr : ∀ j, Rng6 (rs.getD j z6)) : ∀ j, j < rs.length → TR (rs.getD j z6) := by
  intro j hj
  have h1 := (rollsOkB_in h).2.2 j hj
  unfold gdR okRB okVB at h1
  simp only [Bool.and_eq_true, decide_eq_true_eq] at h1
  have h2 := h1.1.2
  obtain ⟨hc, hmn, hmx, _, _, _, h8, h9⟩ := h2
  refine ⟨hc, ⟨?_, ?_⟩, hr j⟩
  · refine Int.le_trans ?_ h8
    have := Int.mul_le_mul_of_nonneg_left hmn.1 (show 0 ≤ (rs.getD j z6).2.1 by omega)
    omega
  · refine Int.le_trans h9 ?_
    have := Int.mul_le_mul_of_nonneg_left hmx.2 (show 0 ≤ (rs.getD j z6).2.1 by omega)
    omega
theorem wdB_one : wdB 1 = true := by decide
theorem pickRs_tr {c : Cs} {p : Int} (hc : cascB c = true) (hr : CR c) (hp : p = -1 ∨ 0 ≤ p ∧ p < c.2.2.2.length) : (∀ j, j < (pickRs c p).length → TR ((pickRs c p).getD j z6)) ∧ (pickRs c p).length ≤ 400 := by
  unfold cascB at hc
  rw [Bool.and_eq_true, Bool.and_eq_true] at hc
  obtain ⟨_, _, hsm, _⟩ := headB_in hc.1
  rcases hp with rfl | ⟨h0, h1⟩
  · unfold pickRs
    rw [if_pos rfl]
    refine ⟨tr_raw hsm hr.raw, ?_⟩
    have := rollsL_len c.2.2.1 1
    have := ptsOkB_len (ptsSmB_pts hsm)
    omega
  · unfold pickRs
    rw [if_neg (by omega)]
    have hj : p.toNat < c.2.2.2.length := by omega
    have hm : c.2.2.2.getD p.toNat zLv ∈ c.2.2.2 := by
      rw [List.getD_eq_getElem?_getD, List.getElem?_eq_getElem hj]; exact List.getElem_mem hj
    have hk := lvsB_rolls _ _ _ _ hc.2.2 _ hm
    exact ⟨tr_lv hk (hr.rolls _ hj).1, (rollsOkB_in hk).1⟩
theorem pickM_at {c : Cs} {q : Int} (h : -1 ≤ pickM c q) : cascB c = true ∧ vIn q 0 1000000000000 = true ∧ (pickM c q = -1 ∨ 0 ≤ pickM c q ∧ pickM c q < c.2.2.2.length) := by
  have hF : ∀ (ls : List Lv) (i : Int), pickF c.1 q i ls = -2 ∨ i ≤ pickF c.1 q i ls ∧ pickF c.1 q i ls < i + ls.length := by
    intro ls
    induction ls with
    | nil => intro i; left; rfl
    | cons x ls ih =>
      intro i
      unfold pickF
      split
      · right; refine ⟨by omega, ?_⟩; simp only [List.length_cons]; omega
      · rcases ih (i + 1) with h | h
        · exact .inl h
        · right; simp only [List.length_cons]; omega
  unfold pickM at h ⊢
  split
  · rename_i hc
    rw [Bool.and_eq_true] at hc
    refine ⟨hc.1, hc.2, ?_⟩
    rw [if_pos (by rw [Bool.and_eq_true]; exact hc)] at h
    unfold pickL at h ⊢
    split
    · exact .inl rfl
    · rename_i hn
      rw [if_neg hn] at h
      rcases hF c.2.2.2 0 with e | e
      · omega
      · right; omega
  · rename_i hc
    rw [if_neg hc] at h
    omega

set_option maxRecDepth 100000 in
set_option maxHeartbeats 2000000 in
theorem rollsAt_any (v : Value) (c : Cs) (p : Int) (w : World) (h : CV w w.heap.size v c) (hc : cascB c = true) (hp : p = -1 ∨ 0 ≤ p ∧ p < c.2.2.2.length) :
    Calls Try.prog 84 #[v, .int .i64 p] w fun e w' => ∃ r, e = .returned r ∧ RL w' w'.heap.size r (pickRs c p) ∧ Below w.heap.size w w' := by
  have HCR := Lib.hid h.cr
  have HPT := Lib.hid (pickRs_tr hc h.cr hp)
  obtain ⟨nw, kp, rp, ls⟩ := c
  obtain ⟨rv, lv, rfl, hP, hL, z1, z2⟩ := h
  clear z1 z2
  simp only at hP hL hp ⊢
  have hsm : ptsSmB rp = true := by
    unfold cascB at hc
    rw [Bool.and_eq_true] at hc
    exact (headB_in hc.1).2.2.1
  clear hc
  have HP := Lib.hid hP
  have HL := Lib.hid hL
  obtain ⟨z3, hpl, Ap, cp, rfl, z4⟩ := hP
  obtain ⟨z5, hll, Al, cl, rfl, z6⟩ := hL
  clear z3 z4 z5 z6
  obtain ⟨wb, hwb⟩ : ∃ wb, w.alloc (.cells #[.int .i64 nw, .int .i64 kp, .slice Ap rp.length cp, .slice Al ls.length cl] 30) = wb := ⟨_, rfl⟩
  have BX : BoxN wb w.heap.size #[.int .i64 nw, .int .i64 kp, .slice Ap rp.length cp, .slice Al ls.length cl] 30 := by rw [← hwb]; exact World.alloc_heap_new w _
  have HB := Lib.hid (show Below w.heap.size w wb from by rw [← hwb]; exact (Below.refl _ _).alloc (Nat.le_refl _) _)
  have HW := Lib.hid hwb
  have x2 := BX.cell (i := 2) rfl
  have x3 := BX.cell (i := 3) rfl
  clear hwb BX
  rcases hp with rfl | ⟨hp0, hp1⟩
  · have HS := Lib.hid hsm
    clear hsm
    have hcal := Lib.hid (implRollsOf_any (.slice Ap rp.length cp) rp 1 wb ((HP.out.below HB.out).up HB.out.size))
    go_enter Try.func84, Try.ntmps84
    go_wp2_with fail
    rw [HW.out]
    go_wp2_with fail
    refine hcal.out.mono ?_
    rintro e w1 ⟨r1, rfl, hown, hb⟩
    have e1 : rollsM rp 1 = rollsL rp 1 := by unfold rollsM; rw [if_pos ⟨HS.out, wdB_one⟩]
    rw [e1] at hown
    have hb2 := HB.out.trans (hb.mono HB.out.size)
    have HB2 := Lib.hid hb2
    have HR := Lib.hid (show RL w1 w1.heap.size r1 (pickRs (nw, kp, rp, ls) (-1)) from by
      unfold pickRs
      rw [if_pos rfl]
      refine RL.of_own hown rfl (fun j => ?_) (by have h0 := HPT.out.2; unfold pickRs at h0; rw [if_pos rfl] at h0; have h1 : (rollsL rp 1).length ≤ 400 := h0; omega)
      by_cases hj : j < (rollsL rp 1).length
      · exact (tr_raw HS.out HCR.out.raw j hj).2.2
      · rw [List.getD_eq_getElem?_getD, List.getElem?_eq_none (by have h1 : ¬ j < (rollsL rp 1).length := hj; show (rollsL rp 1).length ≤ j; omega)]; exact rng6_zero)
    obtain ⟨ra, rn, rc, rfl⟩ := own_shape hown
    clear hown hb hb2 x2 x3
    go_wp2_with fail
    go_ret
    exact ⟨_, rfl, HR.out, HB2.out⟩
  · obtain ⟨j, rfl⟩ : ∃ j : Nat, p = j := ⟨p.toNat, by omega⟩
    have hj : j < ls.length := by omega
    clear hsm hp0 hp1
    have z10 : ¬ (j : Int) = -1 := by omega
    have z11 : ((j : Int) == -1) = false := beq_eq_false_iff_ne.2 z10
    have z12 : decide ((j : Int) < 0) = false := decide_eq_false (by omega)
    obtain ⟨b, off, rfl, y0, y1, r, y2, hrl⟩ := ((HL.out.below HB.out).up HB.out.size).at_ hj
    have HR := Lib.hid (show RL wb wb.heap.size r (pickRs (nw, kp, rp, ls) j) from by
      unfold pickRs
      rw [if_neg (by omega)]; exact hrl)
    obtain ⟨z7, z8, ra, rc, rfl, z9⟩ := hrl
    clear z7 z8 z9 y0 y1
    generalize (ls.getD j zLv).2.2.length = rn at y2 HR
    rw [← HW.out] at y2
    go_enter Try.func84, Try.ntmps84
    go_wp2_with fail
    go_ret
    rw [HW.out]
    exact ⟨_, rfl, HR.out, HB.out⟩

set_option maxRecDepth 100000 in
set_option maxHeartbeats 2000000 in
theorem l9Rolls_any (v : Value) (c : Cs) (p : Int) (w : World) (h : CV w w.heap.size v c) (hc : cascB c = true) (hp : p = -1 ∨ 0 ≤ p ∧ p < c.2.2.2.length) :
    Calls Try.prog 86 #[v, .int .i64 p] w fun e w' => ∃ r, e = .returned r ∧ RL w' w'.heap.size r (pickRs c p) ∧ Below w.heap.size w w' := by
  have HCR := Lib.hid h.cr
  have HPT := Lib.hid (pickRs_tr hc h.cr hp)
  obtain ⟨nw, kp, rp, ls⟩ := c
  obtain ⟨rv, lv, rfl, hP, hL, z1, z2⟩ := h
  clear z1 z2
  simp only at hP hL hp ⊢
  have hsm : ptsSmB rp = true := by
    unfold cascB at hc
    rw [Bool.and_eq_true] at hc
    exact (headB_in hc.1).2.2.1
  clear hc
  have HP := Lib.hid hP
  have HL := Lib.hid hL
  obtain ⟨z3, hpl, Ap, cp, rfl, z4⟩ := hP
  obtain ⟨z5, hll, Al, cl, rfl, z6⟩ := hL
  clear z3 z4 z5 z6
  obtain ⟨wb, hwb⟩ : ∃ wb, w.alloc (.cells #[.int .i64 nw, .int .i64 kp, .slice Ap rp.length cp, .slice Al ls.length cl] 30) = wb := ⟨_, rfl⟩
  have BX : BoxN wb w.heap.size #[.int .i64 nw, .int .i64 kp, .slice Ap rp.length cp, .slice Al ls.length cl] 30 := by rw [← hwb]; exact World.alloc_heap_new w _
  have HB := Lib.hid (show Below w.heap.size w wb from by rw [← hwb]; exact (Below.refl _ _).alloc (Nat.le_refl _) _)
  have HW := Lib.hid hwb
  have x2 := BX.cell (i := 2) rfl
  have x3 := BX.cell (i := 3) rfl
  clear hwb BX
  rcases hp with rfl | ⟨hp0, hp1⟩
  · have HS := Lib.hid hsm
    clear hsm
    have hcal := Lib.hid (specL7Rolls_any (.slice Ap rp.length cp) rp 1 wb ((HP.out.below HB.out).up HB.out.size) (ptsSmB_pts HS.out) (by decide) (by decide))
    go_enter Try.func86, Try.ntmps86
    go_wp2_with fail
    rw [HW.out]
    go_wp2_with fail
    refine hcal.out.mono ?_
    rintro e w1 ⟨r1, rfl, hown, hb⟩
    have hb2 := HB.out.trans (hb.mono HB.out.size)
    have HB2 := Lib.hid hb2
    have HR := Lib.hid (show RL w1 w1.heap.size r1 (pickRs (nw, kp, rp, ls) (-1)) from by
      unfold pickRs
      rw [if_pos rfl]
      refine RL.of_own hown rfl (fun j => ?_) (by have h0 := HPT.out.2; unfold pickRs at h0; rw [if_pos rfl] at h0; have h1 : (rollsL rp 1).length ≤ 400 := h0; omega)
      by_cases hj : j < (rollsL rp 1).length
      · exact (tr_raw HS.out HCR.out.raw j hj).2.2
      · rw [List.getD_eq_getElem?_getD, List.getElem?_eq_none (by have h1 : ¬ j < (rollsL rp 1).length := hj; show (rollsL rp 1).length ≤ j; omega)]; exact rng6_zero)
    obtain ⟨ra, rn, rc, rfl⟩ := own_shape hown
    clear hown hb hb2 x2 x3
    go_wp2_with fail
    go_ret
    exact ⟨_, rfl, HR.out, HB2.out⟩
  · obtain ⟨j, rfl⟩ : ∃ j : Nat, p = j := ⟨p.toNat, by omega⟩
    have hj : j < ls.length := by omega
    clear hsm hp0 hp1
    have z10 : ¬ (j : Int) = -1 := by omega
    have z11 : ((j : Int) == -1) = false := beq_eq_false_iff_ne.2 z10
    have z12 : decide ((j : Int) < 0) = false := decide_eq_false (by omega)
    obtain ⟨b, off, rfl, y0, y1, r, y2, hrl⟩ := ((HL.out.below HB.out).up HB.out.size).at_ hj
    have HR := Lib.hid (show RL wb wb.heap.size r (pickRs (nw, kp, rp, ls) j) from by
      unfold pickRs
      rw [if_neg (by omega)]; exact hrl)
    obtain ⟨z7, z8, ra, rc, rfl, z9⟩ := hrl
    clear z7 z8 z9 y0 y1
    generalize (ls.getD j zLv).2.2.length = rn at y2 HR
    rw [← HW.out] at y2
    go_enter Try.func86, Try.ntmps86
    go_wp2_with fail
    go_ret
    rw [HW.out]
    exact ⟨_, rfl, HR.out, HB.out⟩
end Go.Proofs.Ytcjpedolmnahfaa

/- Walks: queries: the model's means and aggregates. -/
set_option linter.unusedVariables false
set_option linter.unusedSimpArgs false
namespace Go.Proofs.Ytcjpedolmnahfaa
open Go.RowKit

theorem mean_neg {s n : Int} (hn : 1 ≤ n) (hs : s < 0) : -((-s + n - 1) / n) = s / n := by
  have h1 := Int.mul_ediv_add_emod (-s + n - 1) n
  have h2 := Int.emod_nonneg (-s + n - 1) (show n ≠ 0 by omega)
  have h3 := Int.emod_lt_of_pos (-s + n - 1) (show 0 < n by omega)
  refine (((Int.ediv_emod_unique (a := s) (b := n) (r := n - 1 - (-s + n - 1) % n) (q := -((-s + n - 1) / n)) (show 0 < n by omega)).2 ⟨?_, by omega, by omega⟩).1).symm
  rw [Int.mul_neg]; omega
set_option maxRecDepth 100000 in
set_option maxHeartbeats 1000000 in
theorem l9Mean_any (s n : Int) (w : World) (hn : 1 ≤ n) (hn2 : n ≤ 1000000) (h1 : -1000000000000000 ≤ s) (h2 : s ≤ 1000000000000000) : Calls Try.prog 121 #[.int .i64 s, .int .i64 n] w fun e w' => e = .returned (.int .i64 (s / n)) ∧ w' = w := by
  have hw0 : n = 0 → False := by omega
  have hwz : (n == 0) = false := by simpa using hw0
  by_cases h : 0 ≤ s
  · have d1 : decide (0 ≤ s) = true := decide_eq_true h
    have hb := tdiv_bd (s := s) hn h1 h2
    have hf := Int.tdiv_eq_ediv_of_nonneg (b := n) h
    rw [hf] at hb
    obtain ⟨q, hq⟩ : ∃ q, s / n = q := ⟨_, rfl⟩
    rw [hq] at hf hb ⊢
    clear hq
    have e1 : IntKind.i64.wrap q = q := IntWalk.i64_in _ (by omega)
    have e2 : wrap64 q = q := by unfold wrap64; omega
    go_enter Try.func121, Try.ntmps121
    go_wp2_with fail
    go_ret
    exact ⟨rfl, rfl⟩
  · have d1 : decide (0 ≤ s) = false := decide_eq_false h
    have hm := mean_neg (s := s) hn (by omega)
    have hf := Int.tdiv_eq_ediv_of_nonneg (b := n) (show 0 ≤ -s + n - 1 by omega)
    have hb := tdiv_bd (s := -s + n - 1) hn (by omega)
    obtain ⟨q, hq⟩ : ∃ q, (-s + n - 1) / n = q := ⟨_, rfl⟩
    rw [hq] at hf hm
    rw [← hm]
    have hq1 : 0 ≤ q ∧ q ≤ 2000000000000000 := by
      have h5 := Int.ediv_nonneg (show 0 ≤ -s + n - 1 by omega) (show 0 ≤ n by omega)
      have h6 := Int.ediv_le_self n (show 0 ≤ -s + n - 1 by omega)
      omega
    clear hm hb hq
    have e1 : IntKind.i64.wrap q = q := IntWalk.i64_in _ (by omega)
    have e2 : wrap64 q = q := by unfold wrap64; omega
    have e3 : IntKind.i64.wrap (-s) = -s := IntWalk.i64_in _ (by omega)
    have e4 : wrap64 (-s) = -s := by unfold wrap64; omega
    have e5 : IntKind.i64.wrap (-s + n) = -s + n := IntWalk.i64_in _ (by omega)
    have e6 : wrap64 (-s + n) = -s + n := by unfold wrap64; omega
    have e7 : IntKind.i64.wrap (-s + n - 1) = -s + n - 1 := IntWalk.i64_in _ (by omega)
    have e8 : wrap64 (-s + n - 1) = -s + n - 1 := by unfold wrap64; omega
    have e9 : IntKind.i64.wrap (-q) = -q := IntWalk.i64_in _ (by omega)
    have e10 : wrap64 (-q) = -q := by unfold wrap64; omega
    go_enter Try.func121, Try.ntmps121
    go_wp2_with fail
    go_ret
    exact ⟨rfl, rfl⟩
set_option maxRecDepth 100000 in
set_option maxHeartbeats 1000000 in
theorem l9Of1_any (t r1 r2 r3 r4 r5 : Int) (w : World) (hr : TR (t, r1, r2, r3, r4, r5)) : Calls Try.prog 87 #[.agg #[.int .i64 t, .int .i64 r1, .int .i64 r2, .int .i64 r3, .int .i64 r4, .int .i64 r5], .int .i64 1] w fun e w' => e = .returned (.int .i64 r1) ∧ Below w.heap.size w w' := by
  obtain ⟨⟨a1, a2⟩, ⟨a3, a4⟩, z1⟩ := hr
  clear z1
  simp only at a1 a2 a3 a4
  have hcal := Lib.hid (fun W => l9Mean_any r2 r1 W a1 a2 a3 a4)
  go_enter Try.func87, Try.ntmps87
  go_wp2_with (go_at_call 121; refine (hcal.out _).mono ?_; rintro e w' ⟨rfl, rfl⟩)
  go_ret
  exact ⟨rfl, by repeat (first | with_reducible exact Below.refl _ _ | refine Below.alloc ?_ (by simp; try omega) _ | refine Below.setCell ?_ (by simp; try omega) _ | refine Below.drew ?_)⟩
set_option maxRecDepth 100000 in
set_option maxHeartbeats 1000000 in
theorem l9Of2_any (t r1 r2 r3 r4 r5 : Int) (w : World) (hr : TR (t, r1, r2, r3, r4, r5)) : Calls Try.prog 87 #[.agg #[.int .i64 t, .int .i64 r1, .int .i64 r2, .int .i64 r3, .int .i64 r4, .int .i64 r5], .int .i64 2] w fun e w' => e = .returned (.int .i64 r2) ∧ Below w.heap.size w w' := by
  obtain ⟨⟨a1, a2⟩, ⟨a3, a4⟩, z1⟩ := hr
  clear z1
  simp only at a1 a2 a3 a4
  have hcal := Lib.hid (fun W => l9Mean_any r2 r1 W a1 a2 a3 a4)
  go_enter Try.func87, Try.ntmps87
  go_wp2_with (go_at_call 121; refine (hcal.out _).mono ?_; rintro e w' ⟨rfl, rfl⟩)
  go_ret
  exact ⟨rfl, by repeat (first | with_reducible exact Below.refl _ _ | refine Below.alloc ?_ (by simp; try omega) _ | refine Below.setCell ?_ (by simp; try omega) _ | refine Below.drew ?_)⟩
set_option maxRecDepth 100000 in
set_option maxHeartbeats 1000000 in
theorem l9Of3_any (t r1 r2 r3 r4 r5 : Int) (w : World) (hr : TR (t, r1, r2, r3, r4, r5)) : Calls Try.prog 87 #[.agg #[.int .i64 t, .int .i64 r1, .int .i64 r2, .int .i64 r3, .int .i64 r4, .int .i64 r5], .int .i64 3] w fun e w' => e = .returned (.int .i64 r3) ∧ Below w.heap.size w w' := by
  obtain ⟨⟨a1, a2⟩, ⟨a3, a4⟩, z1⟩ := hr
  clear z1
  simp only at a1 a2 a3 a4
  have hcal := Lib.hid (fun W => l9Mean_any r2 r1 W a1 a2 a3 a4)
  go_enter Try.func87, Try.ntmps87
  go_wp2_with (go_at_call 121; refine (hcal.out _).mono ?_; rintro e w' ⟨rfl, rfl⟩)
  go_ret
  exact ⟨rfl, by repeat (first | with_reducible exact Below.refl _ _ | refine Below.alloc ?_ (by simp; try omega) _ | refine Below.setCell ?_ (by simp; try omega) _ | refine Below.drew ?_)⟩
set_option maxRecDepth 100000 in
set_option maxHeartbeats 1000000 in
theorem l9Of4_any (t r1 r2 r3 r4 r5 : Int) (w : World) (hr : TR (t, r1, r2, r3, r4, r5)) : Calls Try.prog 87 #[.agg #[.int .i64 t, .int .i64 r1, .int .i64 r2, .int .i64 r3, .int .i64 r4, .int .i64 r5], .int .i64 4] w fun e w' => e = .returned (.int .i64 r4) ∧ Below w.heap.size w w' := by
  obtain ⟨⟨a1, a2⟩, ⟨a3, a4⟩, z1⟩ := hr
  clear z1
  simp only at a1 a2 a3 a4
  have hcal := Lib.hid (fun W => l9Mean_any r2 r1 W a1 a2 a3 a4)
  go_enter Try.func87, Try.ntmps87
  go_wp2_with (go_at_call 121; refine (hcal.out _).mono ?_; rintro e w' ⟨rfl, rfl⟩)
  go_ret
  exact ⟨rfl, by repeat (first | with_reducible exact Below.refl _ _ | refine Below.alloc ?_ (by simp; try omega) _ | refine Below.setCell ?_ (by simp; try omega) _ | refine Below.drew ?_)⟩
set_option maxRecDepth 100000 in
set_option maxHeartbeats 1000000 in
theorem l9Of5_any (t r1 r2 r3 r4 r5 : Int) (w : World) (hr : TR (t, r1, r2, r3, r4, r5)) : Calls Try.prog 87 #[.agg #[.int .i64 t, .int .i64 r1, .int .i64 r2, .int .i64 r3, .int .i64 r4, .int .i64 r5], .int .i64 5] w fun e w' => e = .returned (.int .i64 r5) ∧ Below w.heap.size w w' := by
  obtain ⟨⟨a1, a2⟩, ⟨a3, a4⟩, z1⟩ := hr
  clear z1
  simp only at a1 a2 a3 a4
  have hcal := Lib.hid (fun W => l9Mean_any r2 r1 W a1 a2 a3 a4)
  go_enter Try.func87, Try.ntmps87
  go_wp2_with (go_at_call 121; refine (hcal.out _).mono ?_; rintro e w' ⟨rfl, rfl⟩)
  go_ret
  exact ⟨rfl, by repeat (first | with_reducible exact Below.refl _ _ | refine Below.alloc ?_ (by simp; try omega) _ | refine Below.setCell ?_ (by simp; try omega) _ | refine Below.drew ?_)⟩
set_option maxRecDepth 100000 in
set_option maxHeartbeats 1000000 in
theorem l9Of6_any (t r1 r2 r3 r4 r5 : Int) (w : World) (hr : TR (t, r1, r2, r3, r4, r5)) : Calls Try.prog 87 #[.agg #[.int .i64 t, .int .i64 r1, .int .i64 r2, .int .i64 r3, .int .i64 r4, .int .i64 r5], .int .i64 6] w fun e w' => e = .returned (.int .i64 (r2 / r1)) ∧ Below w.heap.size w w' := by
  obtain ⟨⟨a1, a2⟩, ⟨a3, a4⟩, z1⟩ := hr
  clear z1
  simp only at a1 a2 a3 a4
  have hcal := Lib.hid (fun W => l9Mean_any r2 r1 W a1 a2 a3 a4)
  go_enter Try.func87, Try.ntmps87
  go_wp2_with (go_at_call 121; refine (hcal.out _).mono ?_; rintro e w' ⟨rfl, rfl⟩)
  go_ret
  exact ⟨rfl, by repeat (first | with_reducible exact Below.refl _ _ | refine Below.alloc ?_ (by simp; try omega) _ | refine Below.setCell ?_ (by simp; try omega) _ | refine Below.drew ?_)⟩
theorem l9Of_any (h : Int) (r : R6) (w : World) (h1 : 1 ≤ h ∧ h ≤ 6) (hr : TR r) : Calls Try.prog 87 #[.agg #[.int .i64 r.1, .int .i64 r.2.1, .int .i64 r.2.2.1, .int .i64 r.2.2.2.1, .int .i64 r.2.2.2.2.1, .int .i64 r.2.2.2.2.2], .int .i64 h] w fun e w' => e = .returned (.int .i64 (aggV h r)) ∧ Below w.heap.size w w' := by
  obtain ⟨t, r1, r2, r3, r4, r5⟩ := r
  have hc : h = 1 ∨ h = 2 ∨ h = 3 ∨ h = 4 ∨ h = 5 ∨ h = 6 := by omega
  rcases hc with rfl | rfl | rfl | rfl | rfl | rfl
  · exact l9Of1_any t r1 r2 r3 r4 r5 w hr
  · exact l9Of2_any t r1 r2 r3 r4 r5 w hr
  · exact l9Of3_any t r1 r2 r3 r4 r5 w hr
  · exact l9Of4_any t r1 r2 r3 r4 r5 w hr
  · exact l9Of5_any t r1 r2 r3 r4 r5 w hr
  · exact l9Of6_any t r1 r2 r3 r4 r5 w hr
end Go.Proofs.Ytcjpedolmnahfaa
