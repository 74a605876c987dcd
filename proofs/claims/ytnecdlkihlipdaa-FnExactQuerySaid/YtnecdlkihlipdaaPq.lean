/- Walks: queries: what is told of rolls; the aggregates. -/
import Derived.Test.YtnecdlkihlipdaaPk
import Derived.Test.YtnecdlkihlipdaaYs
set_option linter.unusedVariables false
set_option linter.unusedSimpArgs false
namespace Go.Proofs.Ytnecdlkihlipdaa
open Go.RowKit

/-- what a roll tells for an aggregate -/
def aggV (t : Int) (r : R6) : Int :=
  if t = 1 then r.2.1 else if t = 2 then r.2.2.1 else if t = 3 then r.2.2.2.1 else if t = 4 then r.2.2.2.2.1 else if t = 5 then r.2.2.2.2.2 else r.2.2.1 / r.2.1
def qryL (rs : List R6) (f t h : Int) : List (Int × Int) := (rs.filter (fun r => decide (f ≤ r.1) && decide (r.1 < t))).map (fun r => (r.1, aggV h r))
theorem qryL_succ {rs : List R6} {k : Nat} (f t h : Int) (hk : k < rs.length) :
    qryL (rs.take (k + 1)) f t h = qryL (rs.take k) f t h ++ (if f ≤ (rs.getD k z6).1 ∧ (rs.getD k z6).1 < t then [((rs.getD k z6).1, aggV h (rs.getD k z6))] else []) := by
  unfold qryL
  rw [List.take_add_one, List.getElem?_eq_getElem hk, List.getD_eq_getElem?_getD, List.getElem?_eq_getElem hk, List.filter_append, List.map_append]
  congr 1
  simp only [Option.toList_some, Option.getD_some]
  by_cases h1 : f ≤ rs[k].1 ∧ rs[k].1 < t
  · rw [if_pos h1, List.filter_cons_of_pos (by simp [h1.1, h1.2])]; rfl
  · rw [if_neg h1, List.filter_cons_of_neg (by simp; intro a; have := h1; omega)]; rfl
theorem qryL_len (rs : List R6) (f t h : Int) : (qryL rs f t h).length ≤ rs.length := by unfold qryL; rw [List.length_map]; exact List.length_filter_le _ _
/-- the rolls of what is picked -/
def pickRs (c : Cs) (p : Int) : List R6 := if p = -1 then rollsL c.2.2.1 1 else (c.2.2.2.getD p.toNat zLv).2.2
def qryB (c : Cs) (f t h : Int) : Bool := decide (-1 ≤ pickM c f) && (vIn t 0 1000000000000 && vIn h 1 6)
def qryM (c : Cs) (f t h : Int) : List (Int × Int) := if qryB c f t h = true then qryL (pickRs c (pickM c f)) f t h else []
/-- a roll whose values can be told -/
def TR (r : R6) : Prop := (1 ≤ r.2.1 ∧ r.2.1 ≤ 1000000) ∧ (-1000000000000000 ≤ r.2.2.1 ∧ r.2.2.1 ≤ 1000000000000000) ∧ Rng6 r
theorem rolls_1 {l : List (Int × Int)} (h : ptsOkB l = true) : ∀ k, k ≤ l.length → rollsL (l.take k) 1 = (l.take k).map (oneR 1)
  | 0, _ => rfl
  | k + 1, hk => by
    have ih := rolls_1 h k (by omega)
    have e1 : l.take (k + 1) = l.take k ++ [l.getD k (0, 0)] := by
      rw [List.take_add_one, List.getElem?_eq_getElem (by omega), List.getD_eq_getElem?_getD, List.getElem?_eq_getElem (by omega)]; rfl
    rw [rollsL_succ 1 (by omega), ih, e1, List.map_append]
    unfold addS
    rw [if_pos]
    · rfl
    · rcases Nat.eq_zero_or_pos k with e | e
      · left; subst e; rfl
      · right
        have hl : ((l.take k).map (oneR 1)).length = k := by simp; omega
        unfold lastR
        rw [hl]
        have e2 : ((l.take k).map (oneR 1)).getD (k - 1) z6 = oneR 1 (l.getD (k - 1) (0, 0)) := by
          rw [List.getD_eq_getElem?_getD, List.getD_eq_getElem?_getD, List.getElem?_map, List.getElem?_take, if_pos (by omega), List.getElem?_eq_getElem (by omega)]; rfl
        rw [e2]
        have h2 := (ptsOkB_at h (j := k) (by omega)).2
        show ¬ (l.getD (k - 1) (0, 0)).1 / 1 * 1 = (l.getD k (0, 0)).1 / 1 * 1
        rw [Int.ediv_one, Int.ediv_one]
        omega
theorem tr_raw {l : List (Int × Int)} (h : ptsSmB l = true) (hr : ∀ j, Rng (l.getD j (0, 0)).1 ∧ Rng (l.getD j (0, 0)).2) : ∀ j, j < (rollsL l 1).length → TR ((rollsL l 1).getD j z6) := by
  have hk : ptsOkB l = true := ptsSmB_pts h
  have e := rolls_1 hk l.length (Nat.le_refl _)
  rw [List.take_length] at e
  rw [e]
  intro j hj
  have hj' : j < l.length := by simpa using hj
  have e2 : (l.map (oneR 1)).getD j z6 = oneR 1 (l.getD j (0, 0)) := by
    rw [List.getD_eq_getElem?_getD, List.getD_eq_getElem?_getD, List.getElem?_map, List.getElem?_eq_getElem hj']; rfl
  rw [e2]
  have h1 := hr j
  have hs : -1000000000 ≤ (l.getD j (0, 0)).2 ∧ (l.getD j (0, 0)).2 ≤ 1000000000 := by
    unfold ptsSmB at h
    rw [Bool.and_eq_true, List.all_eq_true] at h
    have h3 := h.1 (l.getD j (0, 0)) (by rw [List.getD_eq_getElem?_getD, List.getElem?_eq_getElem hj']; exact List.getElem_mem hj')
    unfold smB vIn at h3
    simpa using h3
  refine ⟨⟨by simp [oneR], by simp [oneR]⟩, ⟨by show _ ≤ (l.getD j (0, 0)).2; omega, by show (l.getD j (0, 0)).2 ≤ _; omega⟩, ?_⟩
  refine ⟨?_, (⟨by decide, by decide⟩ : Rng 1), h1.2, h1.2, h1.2, h1.2⟩
  show Rng ((l.getD j (0, 0)).1 / 1 * 1)
  rw [Int.ediv_one, Int.mul_one]; exact h1.1
end Go.Proofs.Ytnecdlkihlipdaa
