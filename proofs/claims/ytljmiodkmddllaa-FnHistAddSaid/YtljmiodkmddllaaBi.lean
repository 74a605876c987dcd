/- Walks: the values of points; lists in order. -/
import Derived.Test.YtljmiodkmddllaaGb
import Derived.Test.YtljmiodkmddllaaBg
set_option linter.unusedVariables false
set_option linter.unusedSimpArgs false
namespace Go.Proofs.Ytljmiodkmddllaa
open Go.RowKit

set_option maxRecDepth 100000 in
set_option maxHeartbeats 1000000 in
theorem valuesOf_any (v : Value) (xs : List (Int × Int)) (w : World) (h : PL w w.heap.size v xs) :
    Calls Try.prog 53 #[v] w (OwnPost w.heap.size (xs.map Prod.snd) w) := by
  obtain ⟨hr, hlen, A, c, rfl, h3⟩ := h
  clear hr
  obtain ⟨i0, hi, hz0, hz1, hz2⟩ := info_parts u_info_i64
  go_enter Try.func53, Try.ntmps53
  go_wp2_with (at_make; refine wpList_make_full _ rfl _ _ 22 rfl w.heap.size 2 i0 (.int .i64 0) 1 Try.underlying22 hi hz0 hz1 _ _ _ _ xs.length rfl rfl rfl rfl ?b2 ?b3 ?b4 ?_)
  case b2 => rw [hz2]; omega
  case b3 => unfold maxLen; omega
  case b4 => exact Nat.le_refl _
  intro w1 hown hgrow
  rw [made_ints] at hown
  have hb1 : Below w.heap.size w w1 := (Below.refl _ _).grown hgrow (Nat.le_refl _) (fun k hk => by cases hk)
  clear hgrow
  go_wp2_with fail
  go_loopw [11] (fun i wr => ∃ (k : Nat) (l : List Int), k ≤ xs.length ∧ i = .int .i64 k ∧ l.length = xs.length ∧ (∀ j, j < k → l.getD j 0 = (xs.getD j (0, 0)).2) ∧
      wr.ownsRow w.heap.size 2 1 (.slice (some ⟨w.heap.size, 0, none⟩) xs.length xs.length) xs.length (ints l) ∧ Below w.heap.size w wr)
    (fun i _ => xs.length - (intOf i).toNat)
  case atStart => exact ⟨0, List.replicate xs.length 0, Nat.zero_le _, rfl, by simp, fun j hj => by omega, hown, hb1⟩
  case round =>
    clear hown hb1
    obtain ⟨k, l, hk, rfl, hll, hag, hown, hb1⟩ := hrel
    have Hag := Lib.hid hag
    have Hll := Lib.hid hll
    clear hag hll
    by_cases hlt : k < xs.length
    · rcases h3 with h3 | ⟨b, off, rfl, hbl, hc⟩
      · subst h3; simp at hlt
      have hx0 : wr.cell? ⟨b, off + k * 2, none⟩ = some (.int .i64 (xs.getD k (0, 0)).1) := (hb1.cell (p := ⟨b, off + k * 2, none⟩) hbl).trans (hc k hlt).1
      have hx1 : wr.cell? ⟨b, off + k * 2 + 1, none⟩ = some (.int .i64 (xs.getD k (0, 0)).2) := (hb1.cell (p := ⟨b, off + k * 2 + 1, none⟩) hbl).trans (hc k hlt).2
      obtain ⟨x, y, hX⟩ : ∃ x y, xs.getD k (0, 0) = (x, y) := ⟨_, _, rfl⟩
      rw [hX] at hx0 hx1
      have HX := Lib.hid hX
      clear hX hc
      have hlk : k < l.length := by have := Hll.out; omega
      have c0 : wr.cell? ⟨w.heap.size, k, none⟩ = some (.int .i64 (l.getD k 0)) := by
        rw [hown.cellAt _ (by omega)]; exact ints_get _ _ hlk
      have f0 : wr.frozen? ⟨w.heap.size, k, none⟩ = false := hown.frozenAt _
      have hsz : w.heap.size < wr.heap.size := World.block_lt_of_cell? wr _ c0
      generalize l.getD k 0 = o0 at c0
      have hst := hown.stored k (.int .i64 y)
      have hown4 := hst.1
      rw [ints_set] at hown4
      have HO := Lib.hid (hown4.alloc (.cells #[.int .i64 x, .int .i64 y] 47))
      have HB := Lib.hid ((hb1.setCell (show w.heap.size ≤ (⟨w.heap.size, k, none⟩ : Addr).block by simp) (.int .i64 y)).alloc (by simp; omega) (.cells #[.int .i64 x, .int .i64 y] 47))
      clear hst hown4 hown hb1 hlk
      go_wp2_with fail
      refine ⟨⟨k + 1, l.set k y, by omega, by go_num, by simpa using Hll.out, fun j hj => ?_, HO.out, HB.out⟩, by simp [intOf]; omega⟩
      rw [getD_set_int _ _ _ _ (by have := Hll.out; omega)]
      by_cases e : j = k
      · subst e; rw [if_pos rfl, HX.out]
      · rw [if_neg e]; exact Hag.out j (by omega)
    · obtain rfl : k = xs.length := by omega
      have e : l = xs.map Prod.snd := ints_ext (by simpa using Hll.out) (fun j hj => by rw [vsOf_getD]; exact Hag.out j (by have := Hll.out; omega))
      subst e
      go_wp2_with fail
      go_ret
      exact ⟨_, rfl, by simpa using hown, hb1⟩


/-- two lists of numbers, each its own -/

def srt (V : List Int) : List Int := V.mergeSort fun x y => decide (x ≤ y)
theorem srt_perm (V : List Int) : (srt V).Perm V := List.mergeSort_perm _ _
theorem srt_length (V : List Int) : (srt V).length = V.length := (srt_perm V).length_eq
theorem srt_sorted (V : List Int) : (srt V).Pairwise (· ≤ ·) := by
  have h := List.pairwise_mergeSort (le := fun x y : Int => decide (x ≤ y)) (fun a b c h1 h2 => by simp at *; omega) (fun a b => by simp; omega) V
  exact h.imp (fun h => by simpa using h)
theorem srt_uniq {A V : List Int} (hp : A.Perm V) (hs : A.Pairwise (· ≤ ·)) : A = srt V :=
  List.Perm.eq_of_pairwise (le := (· ≤ ·)) (fun a b _ _ h1 h2 => Int.le_antisymm h1 h2) hs (srt_sorted V) (hp.trans (srt_perm V).symm)
theorem srt_rng {V : List Int} (h : ∀ j, Rng (V.getD j 0)) (j : Nat) : Rng ((srt V).getD j 0) :=
  rng_of (fun x hx => by
    have hx' := (srt_perm V).mem_iff.1 hx
    obtain ⟨i, hi, rfl⟩ := List.getElem_of_mem hx'
    have := h i
    rwa [List.getD_eq_getElem?_getD, List.getElem?_eq_getElem hi] at this) j
theorem getD_mem {V : List Int} {j : Nat} (hj : j < V.length) : V.getD j 0 ∈ V := by
  rw [List.getD_eq_getElem?_getD, List.getElem?_eq_getElem hj]; exact List.getElem_mem hj
theorem ins_srt {V O : List Int} {x : Int} {at_ : Nat} (hO : O = srt V) (ha : at_ ≤ O.length) (h1 : ∀ j, j < at_ → O.getD j 0 ≤ x) (h2 : at_ < O.length → x < O.getD at_ 0) :
    O.take at_ ++ [x] ++ O.drop at_ = srt (V ++ [x]) := by
  have hs : O.Pairwise (· ≤ ·) := by rw [hO]; exact srt_sorted V
  have hp : O.Perm V := by rw [hO]; exact srt_perm V
  refine srt_uniq ?_ ?_
  · have e1 : (O.take at_ ++ [x] ++ O.drop at_).Perm (O.take at_ ++ O.drop at_ ++ [x]) := by
      rw [List.append_assoc, List.append_assoc]
      exact List.Perm.append_left _ List.perm_append_comm
    rw [List.take_append_drop] at e1
    exact e1.trans (List.Perm.append_right _ hp)
  · have ht : ∀ y ∈ O.take at_, y ≤ x := by
      intro y hy
      obtain ⟨i, hi, rfl⟩ := List.getElem_of_mem hy
      rw [List.length_take] at hi
      have := h1 i (by omega)
      rw [List.getD_eq_getElem?_getD, List.getElem?_eq_getElem (by omega)] at this
      rw [List.getElem_take]
      exact this
    have hd : ∀ y ∈ O.drop at_, x < y := by
      intro y hy
      obtain ⟨i, hi, rfl⟩ := List.getElem_of_mem hy
      rw [List.length_drop] at hi
      rw [List.getElem_drop]
      have h3 := h2 (by omega)
      rw [List.getD_eq_getElem?_getD, List.getElem?_eq_getElem (by omega)] at h3
      simp only [Option.getD_some] at h3
      by_cases e : i = 0
      · subst e; simpa using h3
      · have := List.pairwise_iff_getElem.1 hs at_ (at_ + i) (by omega) (by omega) (by omega)
        omega
    have hs' := hs
    rw [← List.take_append_drop at_ O, List.pairwise_append] at hs'
    rw [List.pairwise_append, List.pairwise_append]
    refine ⟨⟨hs'.1, by simp, fun a ha b hb => ?_⟩, hs'.2.1, fun a ha b hb => ?_⟩
    · simp at hb; rw [hb]; exact ht a ha
    · rcases List.mem_append.1 ha with h | h
      · exact hs'.2.2 a h b hb
      · simp at h; rw [h]; exact Int.le_of_lt (hd b hb)
end Go.Proofs.Ytljmiodkmddllaa
