/- Walks: lists of numbers that rise: both checks; the model's And, Or, Less. -/
import Derived.Test.YtljmiodkmddllaaIb
import Derived.Test.YtljmiodkmddllaaTa
import Derived.Test.YtljmiodkmddllaaAa
set_option linter.unusedVariables false
set_option linter.unusedSimpArgs false
namespace Go.Proofs.Ytljmiodkmddllaa
open Go.RowKit

def risAt (l : List Int) (j : Nat) : Bool := decide (j = 0) || decide (l.getD (j - 1) 0 < l.getD j 0)
def risTo (l : List Int) (k : Nat) : Bool := (List.range k).all (risAt l)
def idsB (l : List Int) : Bool := risTo l l.length && decide (l.length ≤ 1000)
theorem risTo_succ (l : List Int) (k : Nat) : risTo l (k + 1) = (risTo l k && risAt l k) := by
  unfold risTo; rw [List.range_succ, List.all_append]; simp
theorem risTo_bad {l : List Int} {k n : Nat} (h : risAt l k = false) (hk : k < n) : risTo l n = false := by
  unfold risTo
  rw [List.all_eq_false]
  exact ⟨k, by simpa using hk, by simp [h]⟩
theorem risTo_at {l : List Int} {k j : Nat} (h : risTo l k = true) (hj : j < k) : risAt l j = true := by
  unfold risTo at h
  exact List.all_eq_true.1 h j (by simpa using hj)
theorem idsB_bad {l : List Int} {k : Nat} (h : risAt l k = false) (hk : k < l.length) : idsB l = false := by
  unfold idsB; rw [risTo_bad h hk]; rfl
theorem ris_lt {l : List Int} (h : risTo l l.length = true) : ∀ (d i : Nat), i + d + 1 < l.length → l.getD i 0 < l.getD (i + d + 1) 0 := by
  intro d
  induction d with
  | zero =>
    intro i hi
    have := risTo_at h (j := i + 1) (by omega)
    unfold risAt at this
    simpa using this
  | succ d ih =>
    intro i hi
    have h1 := ih i (by omega)
    have h2 := risTo_at h (j := i + (d + 1) + 1) hi
    unfold risAt at h2
    simp only [Bool.or_eq_true, decide_eq_true_eq] at h2
    have e2 : i + (d + 1) + 1 - 1 = i + d + 1 := by omega
    have e3 : i + (d + 1) + 1 = i + d + 1 + 1 := by omega
    rw [e2, e3] at h2
    rw [e3]
    omega
theorem ris_of {l : List Int} (h : risTo l l.length = true) : Ris l := by
  unfold Ris
  rw [List.pairwise_iff_getElem]
  intro i j hi hj hij
  have := ris_lt h (j - i - 1) i (by omega)
  have e : i + (j - i - 1) + 1 = j := by omega
  rw [e, List.getD_eq_getElem?_getD, List.getElem?_eq_getElem hi, List.getD_eq_getElem?_getD, List.getElem?_eq_getElem hj] at this
  exact this
theorem idsB_ris {l : List Int} (h : idsB l = true) : Ris l := by unfold idsB at h; rw [Bool.and_eq_true] at h; exact ris_of h.1
theorem idsB_len {l : List Int} (h : idsB l = true) : l.length ≤ 1000 := by unfold idsB at h; rw [Bool.and_eq_true] at h; simpa using h.2
def andM (a b : List Int) : List Int := if idsB a = true ∧ idsB b = true then andL a b else []
def lessM (a b : List Int) : List Int := if idsB a = true ∧ idsB b = true then lessL a b else []
def orM (a b : List Int) : List Int := if idsB a = true ∧ idsB b = true then orL a b else []
theorem rng_mem {l : List Int} (h : ∀ j, Rng (l.getD j 0)) : ∀ x ∈ l, Rng x := by
  intro x hx
  obtain ⟨i, hi, rfl⟩ := List.getElem_of_mem hx
  have := h i
  rw [List.getD_eq_getElem?_getD, List.getElem?_eq_getElem hi] at this
  exact this
theorem rng_all {l : List Int} (h : ∀ x ∈ l, Rng x) : ∀ j, Rng (l.getD j 0) := by
  intro j
  rw [List.getD_eq_getElem?_getD]
  by_cases hj : j < l.length
  · rw [List.getElem?_eq_getElem hj]; exact h _ (List.getElem_mem hj)
  · rw [List.getElem?_eq_none (by omega)]; exact ⟨by decide, by decide⟩
def hasTo (l : List Int) (n : Int) (k : Nat) : Bool := decide (n ∈ l.take k)
theorem take_snoc_int {l : List Int} {k : Nat} (hk : k < l.length) : l.take (k + 1) = l.take k ++ [l.getD k 0] := by
  rw [List.take_add_one, List.getElem?_eq_getElem hk, List.getD_eq_getElem?_getD, List.getElem?_eq_getElem hk]
  rfl
theorem has_no {l : List Int} {n : Int} {k : Nat} (hk : k < l.length) (h : n ∉ l.take k) (hne : l.getD k 0 ≠ n) : n ∉ l.take (k + 1) := by
  rw [take_snoc_int hk, List.mem_append]
  rintro (e | e)
  · exact h e
  · simp at e; exact hne e.symm
theorem has_yes {l : List Int} {n : Int} {k : Nat} (hk : k < l.length) (he : l.getD k 0 = n) : n ∈ l := by
  rw [← he, List.getD_eq_getElem?_getD, List.getElem?_eq_getElem hk]
  exact List.getElem_mem hk
theorem filter_snoc {l : List Int} {k : Nat} (p : Int → Bool) (hk : k < l.length) : (l.take (k + 1)).filter p = (l.take k).filter p ++ (if p (l.getD k 0) = true then [l.getD k 0] else []) := by
  rw [take_snoc_int hk, List.filter_append]
  simp [List.filter_cons]
theorem filter_len (l : List Int) (p : Int → Bool) (k : Nat) : ((l.take k).filter p).length ≤ k := by
  have h1 := List.length_filter_le p (l.take k)
  have h2 : (l.take k).length ≤ k := List.length_take_le _ _
  omega


set_option maxRecDepth 100000 in
set_option maxHeartbeats 2000000 in
theorem strictly_any (v : Value) (xs : List Int) (w : World) (h : IL w w.heap.size v xs) :
    Calls Try.prog 38 #[v] w (BoolPost (risTo xs xs.length) w) := by
  obtain ⟨hr, hlen, A, c, rfl, h3⟩ := h
  clear hr
  go_enter Try.func38, Try.ntmps38
  go_wp2_with fail
  go_loopw [3] (fun i wr => ∃ k q : Nat, 1 ≤ k ∧ (k ≤ xs.length ∨ k = 1) ∧ i = .int .i64 k ∧ Hid (risTo xs k = true) ∧ wr = w.drewN q) (fun i _ => xs.length - (Go.RowKit.intOf i).toNat)
  case atStart => exact ⟨1, 0, Nat.le_refl _, .inr rfl, rfl, rfl, rfl⟩
  case round =>
    obtain ⟨k, q, hk0, hk, rfl, Hg, rfl⟩ := hrel
    by_cases hlt : k < xs.length
    · rcases h3 with h3 | ⟨b, off, rfl, hbl, hc⟩
      · subst h3; simp at hlt
      have hx : w.cell? ⟨b, off + k, none⟩ = some (.int .i64 (xs.getD k 0)) := hc k hlt
      have hy : w.cell? ⟨b, off + (k - 1), none⟩ = some (.int .i64 (xs.getD (k - 1) 0)) := hc (k - 1) (by omega)
      have e1 : IntKind.i64.wrap ((k : Int) - 1) = (k : Int) - 1 := IntWalk.i64_in _ (by omega)
      have e2 : (0 : Int) ≤ (k : Int) - 1 := by omega
      have e2' : (1 : Int) ≤ (k : Int) := by omega
      have e3 : ((k : Int) - 1).toNat = k - 1 := by omega
      have e4 : (k : Int) - 1 < (xs.length : Int) := by omega
      have HB := Lib.hid (fun h => risTo_bad (l := xs) (k := k) h hlt)
      have HS := Lib.hid (risTo_succ xs k)
      have HA : Hid (risAt xs k = decide (xs.getD (k - 1) 0 < xs.getD k 0)) := Lib.hid (by unfold risAt; rw [decide_eq_false (show ¬ k = 0 by omega)]; rfl)
      clear hc
      generalize xs.getD k 0 = x at *
      generalize xs.getD (k - 1) 0 = y at *
      by_cases hxy : x ≤ y
      · have E := Lib.hid (HB.out (by rw [HA.out]; exact decide_eq_false (by omega)))
        go_wp2_with fail
        go_quiet (fail)
        clear e1 e2 e2' e3 e4
        go_wp2_with fail
        go_ret
        exact ⟨by rw [E.out]; rfl, by first | exact below_drewN_u (below_drewN_u (Below.refl _ _) _) _ | exact below_drewN_u (Below.refl _ _) _ | exact Below.refl _ _⟩
      · have G : Hid (risTo xs (k + 1) = true) := Lib.hid (by rw [HS.out, Hg.out, HA.out, decide_eq_true (show y < x by omega)]; rfl)
        go_wp2_with fail
        go_quiet (fail)
        clear e1 e2 e2' e3 e4
        go_wp2_with fail
        go_roundw
        case rel => exact ⟨k + 1, _, by omega, by omega, by go_num, G, rfl⟩
        case measure => simp [Go.RowKit.intOf]; omega
    · have E : Hid (risTo xs xs.length = true) := Lib.hid (by
        rcases hk with hk | hk
        · have e : k = xs.length := by omega
          rw [← e]; exact Hg.out
        · have e : xs.length = 0 ∨ xs.length = 1 := by omega
          rcases e with e | e
          · rw [e]; rfl
          · have := Hg.out; rw [hk, ← e] at this; exact this)
      go_wp2_with fail
      go_ret
      exact ⟨by rw [E.out]; rfl, by first | exact below_drewN_u (below_drewN_u (Below.refl _ _) _) _ | exact below_drewN_u (Below.refl _ _) _ | exact Below.refl _ _⟩


end Go.Proofs.Ytljmiodkmddllaa
