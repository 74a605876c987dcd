/- Walks: words of letters; valid labels. -/
import Derived.Test.YthnejknjngekiaaDoorNa
set_option linter.unusedVariables false
set_option linter.unusedSimpArgs false
namespace Go.Proofs.YthnejknjngekiaaDoor
open Go.RowKit

def letB (c : Nat) : Bool := decide ((97 ≤ c ∧ c ≤ 122) ∨ (48 ≤ c ∧ c ≤ 57) ∨ c = 95)
def wordB (s : ByteArray) : Bool := decide (1 ≤ s.size ∧ s.size ≤ 10) && s.data.toList.all (fun b => letB b.toNat)
theorem n_byte_of (s : ByteArray) (k : Nat) (h : k < s.size) : s.data.toList.getD k 0 = s[k] := by
  have h' : k < s.data.toList.length := by simpa using h
  rw [List.getD_eq_getElem?_getD, List.getElem?_eq_getElem h']
  rfl
def letTo (s : ByteArray) (k : Nat) : Prop := ∀ j, j < k → letB (s.data.toList.getD j 0).toNat = true
theorem letTo_all {s : ByteArray} (h : letTo s s.size) : s.data.toList.all (fun b => letB b.toNat) = true := by
  rw [List.all_eq_true]
  intro b hb
  obtain ⟨j, hj, rfl⟩ := List.getElem_of_mem hb
  have := h j (by simpa using hj)
  rw [List.getD_eq_getElem?_getD, List.getElem?_eq_getElem hj] at this
  exact this
theorem let_bad {s : ByteArray} {k : Nat} (hk : k < s.size) (h : letB (s.data.toList.getD k 0).toNat = false) : wordB s = false := by
  have : s.data.toList.all (fun b => letB b.toNat) = false := by
    rw [List.all_eq_false]
    have hk' : k < s.data.toList.length := by simpa using hk
    rw [List.getD_eq_getElem?_getD, List.getElem?_eq_getElem hk'] at h
    exact ⟨_, List.getElem_mem hk', by simpa using h⟩
  unfold wordB; rw [this]; simp
theorem let_cases (v : Nat) : (letB v = true ∧ ((97 ≤ v ∧ v ≤ 122) ∨ (48 ≤ v ∧ v ≤ 57) ∨ v = 95)) ∨ (letB v = false ∧ (v < 48 ∨ (57 < v ∧ v < 95) ∨ v = 96 ∨ 122 < v)) := by
  unfold letB
  by_cases h : (97 ≤ v ∧ v ≤ 122) ∨ (48 ≤ v ∧ v ≤ 57) ∨ v = 95
  · exact .inl ⟨decide_eq_true h, h⟩
  · exact .inr ⟨decide_eq_false h, by omega⟩

set_option maxRecDepth 100000 in
set_option maxHeartbeats 2000000 in
theorem letterOk_any (v : Nat) (w : World) : Calls Tryd.prog 36 #[.int .u8 (v : Int)] w fun e w' => e = .returned (.bool (letB v)) ∧ w' = w := by
  by_cases g97 : (97 : Int) ≤ (v : Int) <;> by_cases g122 : (v : Int) ≤ 122 <;> by_cases g48 : (48 : Int) ≤ (v : Int) <;> by_cases g57 : (v : Int) ≤ 57 <;> by_cases g95 : (v : Int) = 95 <;> try omega
  all_goals
    first
      | rw [show letB v = true from decide_eq_true (by omega)]
      | rw [show letB v = false from decide_eq_false (by omega)]
    first
      | (have d97 := decide_eq_true g97)
      | (have d97 := decide_eq_false g97)
    first
      | (have d122 := decide_eq_true g122)
      | (have d122 := decide_eq_false g122)
    first
      | (have d48 := decide_eq_true g48)
      | (have d48 := decide_eq_false g48)
    first
      | (have d57 := decide_eq_true g57)
      | (have d57 := decide_eq_false g57)
    first
      | (have d95 : ((v : Int) == 95) = true := by simpa using g95)
      | (have d95 : ((v : Int) == 95) = false := by simpa using g95)
    go_enter Tryd.func36, Tryd.ntmps36
    go_wp2_with fail
    go_ret
    exact ⟨rfl, rfl⟩

set_option maxRecDepth 100000 in
set_option maxHeartbeats 4000000 in
theorem l6Word_any (s : ByteArray) (w : World) (hs : s.size ≤ maxLen) : Calls Tryd.prog 30 #[.string s] w fun e w' => e = .returned (.bool (wordB s)) ∧ w' = w := by
  unfold maxLen at hs
  go_enter Tryd.func30, Tryd.ntmps30
  go_wp2_with fail
  go_loop [3] (fun i => ∃ k : Nat, k ≤ s.size ∧ i = .int .i64 k ∧ letTo s k) (fun i => s.size - (intOf i).toNat)
  case atStart => exact ⟨0, Nat.zero_le _, rfl, fun j hj => by omega⟩
  case round =>
    obtain ⟨k, hk, rfl, hto⟩ := hrel
    have Hto := Lib.hid hto
    clear hto
    by_cases hlt : k < s.size
    · have hv := n_byte_of s k hlt
      have hb8 := s[k].toNat_lt
      by_cases g97 : (97 : Int) ≤ (s[k].toNat : Int) <;> by_cases g122 : (s[k].toNat : Int) ≤ 122 <;> by_cases g48 : (48 : Int) ≤ (s[k].toNat : Int) <;> by_cases g57 : (s[k].toNat : Int) ≤ 57 <;> by_cases g95 : (s[k].toNat : Int) = 95 <;> try omega
      all_goals
        first
          | (have H := Lib.hid (show letB s[k].toNat = true from decide_eq_true (by omega)))
          | (have H := Lib.hid (let_bad hlt (by rw [hv]; exact decide_eq_false (by omega))))
        have Hv := Lib.hid hv
        clear hv
        first
          | (have d97 := decide_eq_true g97)
          | (have d97 := decide_eq_false g97)
        first
          | (have d122 := decide_eq_true g122)
          | (have d122 := decide_eq_false g122)
        first
          | (have d48 := decide_eq_true g48)
          | (have d48 := decide_eq_false g48)
        first
          | (have d57 := decide_eq_true g57)
          | (have d57 := decide_eq_false g57)
        first
          | (have d95 : ((s[k].toNat : Int) == 95) = true := by simpa using g95)
          | (have d95 : ((s[k].toNat : Int) == 95) = false := by simpa using g95)
        go_wp2_with fail
        first
          | (go_ret; exact ⟨by rw [H.out]; rfl, rfl⟩)
          | (go_round
             case rel =>
               refine ⟨k + 1, by omega, by go_num, fun j hj => ?_⟩
               by_cases e : j = k
               · subst e; rw [Hv.out]; exact H.out
               · exact Hto.out j (by omega)
             case measure => simp [intOf]; omega)
    · obtain rfl : k = s.size := by omega
      have E := Lib.hid (letTo_all Hto.out)
      by_cases g1 : (1 : Int) ≤ (s.size : Int) <;> by_cases g10 : (s.size : Int) ≤ 10 <;> try omega
      all_goals
        first
          | (have H := Lib.hid (show wordB s = true from by unfold wordB; rw [E.out, decide_eq_true (by omega)]; rfl))
          | (have H := Lib.hid (show wordB s = false from by unfold wordB; rw [decide_eq_false (by omega)]; rfl))
        first
          | (have d1 := decide_eq_true g1)
          | (have d1 := decide_eq_false g1)
        first
          | (have d10 := decide_eq_true g10)
          | (have d10 := decide_eq_false g10)
        go_wp2_with fail
        go_ret
        exact ⟨by rw [H.out]; rfl, rfl⟩
end Go.Proofs.YthnejknjngekiaaDoor
