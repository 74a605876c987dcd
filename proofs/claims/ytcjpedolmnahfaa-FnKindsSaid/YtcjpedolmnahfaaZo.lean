/- Walks: cascades: levels to which a point is added, one by one. -/
import Derived.Test.YtcjpedolmnahfaaZm
set_option linter.unusedVariables false
set_option linter.unusedSimpArgs false
namespace Go.Proofs.Ytcjpedolmnahfaa
open Go.RowKit

def updA (p : Int × Int) (pre : List Nat) (ls : List Lv) : List Lv := (List.range ls.length).map (fun j => if j ∈ pre then addLv p (ls.getD j zLv) else ls.getD j zLv)
theorem updA_length (p : Int × Int) (pre : List Nat) (ls : List Lv) : (updA p pre ls).length = ls.length := by simp [updA]
theorem updA_getD (p : Int × Int) (pre : List Nat) (ls : List Lv) {j : Nat} (h : j < ls.length) : (updA p pre ls).getD j zLv = if j ∈ pre then addLv p (ls.getD j zLv) else ls.getD j zLv := by
  simp [updA, List.getD_eq_getElem?_getD, h]
theorem updA_nil (p : Int × Int) (ls : List Lv) : updA p [] ls = ls := by
  refine lw_ext (updA_length _ _ _) (fun j hj => ?_)
  rw [updA_length] at hj
  rw [updA_getD _ _ _ hj, if_neg (List.not_mem_nil)]
theorem updA_all (p : Int × Int) {pre : List Nat} {ls : List Lv} (h : ∀ j, j < ls.length → j ∈ pre) : updA p pre ls = ls.map (addLv p) := by
  refine lw_ext (by simp [updA_length]) (fun j hj => ?_)
  rw [updA_length] at hj
  rw [updA_getD _ _ _ hj, if_pos (h j hj)]
  rw [List.getD_eq_getElem?_getD, List.getD_eq_getElem?_getD, List.getElem?_map, List.getElem?_eq_getElem hj]; rfl
theorem updA_snoc (p : Int × Int) (pre : List Nat) (ls : List Lv) {x : Nat} (hx : x < ls.length) (hn : ¬ x ∈ pre) : (updA p pre ls).set x (addLv p (ls.getD x zLv)) = updA p (pre ++ [x]) ls := by
  refine lw_ext (by simp [updA_length]) (fun j hj => ?_)
  have hj' : j < ls.length := by simpa [updA_length] using hj
  rw [getD_set_lw _ _ _ _ (by rw [updA_length]; exact hx), updA_getD _ (pre ++ [x]) _ hj']
  by_cases e : j = x
  · subst e
    rw [if_pos rfl, if_pos (by simp)]
  · rw [if_neg e, updA_getD _ _ _ hj']
    have : (j ∈ pre ++ [x]) ↔ j ∈ pre := by
      constructor
      · intro h
        rcases List.mem_append.1 h with h | h
        · exact h
        · exact absurd (List.mem_singleton.1 h) e
      · intro h; simp [h]
    by_cases hp : j ∈ pre
    · rw [if_pos hp, if_pos (this.2 hp)]
    · rw [if_neg hp, if_neg (fun h => hp (this.1 h))]
theorem updA_same (p : Int × Int) (pre : List Nat) (ls : List Lv) {x : Nat} (hx : x < ls.length) (hn : ¬ x ∈ pre) : (updA p pre ls).getD x zLv = ls.getD x zLv := by
  rw [updA_getD _ _ _ hx, if_neg hn]
theorem not_mem_of_range {pre : List Nat} {x k : Nat} (h : pre ++ [x] = List.range k) : ¬ x ∈ pre := by
  intro hx
  have hd : (pre ++ [x]).Nodup := by rw [h]; exact List.nodup_range
  rw [List.nodup_append] at hd
  exact hd.2.2 x hx x (List.mem_singleton.2 rfl) rfl
end Go.Proofs.Ytcjpedolmnahfaa
