/- Walks: rolls of rolls: the model. -/
import Derived.Test.YtcjpedolmnahfaaYq
import Derived.Test.YtcjpedolmnahfaaYd
set_option linter.unusedVariables false
set_option linter.unusedSimpArgs false
namespace Go.Proofs.Ytcjpedolmnahfaa
open Go.RowKit

def winD (W : Int) (x : R6) : R6 := (x.1 / W * W, x.2)
def coarL (l : List R6) (to : Int) : List R6 := (l.map (winD to)).foldl addS []
def crsB (l : List R6) (W to : Int) : Bool := rollsOkB l W && (wdB to && (decide (to % W = 0) && rollsOkB (coarL l to) to))
def crsM (l : List R6) (W to : Int) : List R6 := if crsB l W to = true then coarL l to else []
theorem RS.more {w w' : World} {ad : Addr} {xs : List R6} (h : RS w w.heap.size ad xs) (hb : Below w.heap.size w w') : RS w' w'.heap.size ad xs :=
  ⟨h.1, Nat.lt_of_lt_of_le h.2.1 hb.size, (h.below hb).2.2⟩
theorem coarL_succ {l : List R6} {k : Nat} (W : Int) (hk : k < l.length) : coarL (l.take (k + 1)) W = addS (coarL (l.take k) W) (winD W (l.getD k z6)) := by
  unfold coarL
  rw [List.take_add_one, List.getElem?_eq_getElem hk, List.getD_eq_getElem?_getD, List.getElem?_eq_getElem hk, List.map_append, List.foldl_append]
  rfl
theorem coarL_len (l : List R6) (W : Int) : (coarL l W).length ≤ l.length := by
  have := rollsF_len (l.map (winD W)) []
  rw [List.length_map, List.length_nil] at this
  unfold coarL; omega
theorem rollsOkB_in {l : List R6} {W : Int} (h : rollsOkB l W = true) : l.length ≤ 400 ∧ (1 ≤ W ∧ W ≤ 1000000) ∧ ∀ j, j < l.length → gdR l W j = true := by
  unfold rollsOkB at h
  rw [Bool.and_eq_true, Bool.and_eq_true, decide_eq_true_eq] at h
  exact ⟨h.1.2, wdB_in h.1.1, fun j hj => gdToR_at h.2 hj⟩
theorem gdR_in {l : List R6} {W : Int} {j : Nat} (h : gdR l W j = true) : (0 ≤ (l.getD j z6).1 ∧ (l.getD j z6).1 ≤ 1000000000000) ∧ (l.getD j z6).1 % W = 0 ∧ (j = 0 ∨ (l.getD (j - 1) z6).1 < (l.getD j z6).1) := by
  unfold gdR okRB at h
  simp only [Bool.and_eq_true, Bool.or_eq_true, decide_eq_true_eq] at h
  exact ⟨h.1.1.1, h.1.1.2, h.2⟩
theorem coarL_ok (l : List R6) (W : Int) (hr : ∀ j, Rng6 (l.getD j z6)) (hp : ∀ j, j < l.length → 0 ≤ (l.getD j z6).1) (hW : 1 ≤ W) : RRs (coarL l W) := by
  refine rrs_fold _ [] (fun p hp => by simp at hp) (fun x hx => ?_)
  obtain ⟨p, hp1, rfl⟩ := List.mem_map.1 hx
  obtain ⟨i, hi, rfl⟩ := List.getElem_of_mem hp1
  have h1 := hr i
  have h2 := hp i hi
  rw [List.getD_eq_getElem?_getD, List.getElem?_eq_getElem hi] at h1 h2
  simp only [Option.getD_some] at h1 h2
  have h3 := div_small (W := W) h2 hW
  have h4 : Rng (l[i].1 / W * W) := by
    have h5 := h1.1
    unfold Rng at h5 ⊢
    omega
  exact ⟨h4, h1.2⟩
theorem crsM_ok (l : List R6) (W to : Int) (hr : ∀ j, Rng6 (l.getD j z6)) (hl : l.length ≤ 1048576) : (∀ j, Rng6 ((crsM l W to).getD j z6)) ∧ (crsM l W to).length ≤ 1048576 := by
  unfold crsM
  split
  · rename_i h
    unfold crsB at h
    rw [Bool.and_eq_true, Bool.and_eq_true] at h
    have h1 := rollsOkB_in h.1
    exact ⟨rrs_getD (coarL_ok l to hr (fun j hj => (gdR_in (h1.2.2 j hj)).1.1) (wdB_in h.2.1).1), Nat.le_trans (coarL_len l to) hl⟩
  · exact ⟨fun j => rng6_zero, Nat.zero_le _⟩




end Go.Proofs.Ytcjpedolmnahfaa
