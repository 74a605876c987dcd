/- Walks: points whose times are valid: the law FnExactPointsOk. -/
import Derived.Test.YtanoohfhifhhaaaDoorGa
import Derived.Test.YtanoohfhifhhaaaDoorDa
import Derived.Test.YtanoohfhifhhaaaDoorEg
import Derived.Deep.AppendLies
import Derived.Test.YtanoohfhifhhaaaDoorCe
import Derived.Test.YtanoohfhifhhaaaDoorWt
set_option linter.unusedVariables false
set_option linter.unusedSimpArgs false
namespace Go.Proofs.YtanoohfhifhhaaaDoor
open Go.RowKit

def ptsOkB (xs : List (Int × Int)) : Bool := timesOkB (xs.map Prod.fst)
theorem rng_fst {xs : List (Int × Int)} (h : ∀ j, Rng (xs.getD j (0, 0)).1 ∧ Rng (xs.getD j (0, 0)).2) (j : Nat) : Rng ((xs.map Prod.fst).getD j 0) := by
  rw [tsOf_getD]; exact (h j).1
theorem rng_snd {xs : List (Int × Int)} (h : ∀ j, Rng (xs.getD j (0, 0)).1 ∧ Rng (xs.getD j (0, 0)).2) (j : Nat) : Rng ((xs.map Prod.snd).getD j 0) := by
  rw [vsOf_getD]; exact (h j).2
theorem take_succ_int {T : List Int} {k : Nat} (hk : k < T.length) {x : Int} (h : T.getD k 0 = x) : T.take (k + 1) = T.take k ++ [x] := by
  rw [List.take_add_one, List.getElem?_eq_getElem hk]
  rw [List.getD_eq_getElem?_getD, List.getElem?_eq_getElem hk] at h
  simp only [Option.getD_some] at h
  simp [h]

set_option maxRecDepth 100000 in
set_option maxHeartbeats 1000000 in
theorem specPointsOk_any (v : Value) (xs : List (Int × Int)) (w : World) (h : PL w w.heap.size v xs) :
    Calls Tryd.prog 49 #[v] w (BoolPost (ptsOkB xs) w) := by
  obtain ⟨hr, hlen, A, c, rfl, h3⟩ := h
  have Hr := Lib.hid (rng_fst hr)
  clear hr
  have hT := Lib.hid (fun v W h => specTimesOk_any v (xs.map Prod.fst) W h)
  have HG := Lib.hid (tsOf_getD xs)
  have HL := Lib.hid (show (xs.map Prod.fst).length = xs.length by simp)
  unfold ptsOkB
  generalize xs.map Prod.fst = T at *
  obtain ⟨i0, hi, hz0, hz1, hz2⟩ := info_parts u_info_i64
  go_enter Tryd.func49, Tryd.ntmps49
  go_wp2_with fail
  go_loopw [3, 4] (fun v i wr => ∃ k : Nat, k ≤ xs.length ∧ i = .int .i64 k ∧ wr.ownsRow w.heap.size 2 1 v k (ints (T.take k)) ∧ Below w.heap.size w wr)
    (fun _ i _ => xs.length - (intOf i).toNat)
  case atStart =>
    refine ⟨0, Nat.zero_le _, rfl, ?_, ?_⟩
    · have := World.ownsRow_made w (base := w.heap.size) (e := 2) (size := 1) #[] 0 (Nat.le_refl _) (by simp [maxLen]) rfl
      simpa [ints] using this
    · exact (Below.refl _ _).alloc (Nat.le_refl _) _
  case round =>
    obtain ⟨k, hk, rfl, hown, hb⟩ := hrel
    have hsz := hb.size
    by_cases hlt : k < xs.length
    · rcases h3 with h3 | ⟨b, off, rfl, hbl, hc⟩
      · subst h3; simp at hlt
      have hx0 : wr.cell? ⟨b, off + k * 2, none⟩ = some (.int .i64 (xs.getD k (0, 0)).1) := (hb.cell (p := ⟨b, off + k * 2, none⟩) hbl).trans (hc k hlt).1
      have hx1 : wr.cell? ⟨b, off + k * 2 + 1, none⟩ = some (.int .i64 (xs.getD k (0, 0)).2) := (hb.cell (p := ⟨b, off + k * 2 + 1, none⟩) hbl).trans (hc k hlt).2
      obtain ⟨x, y, hX⟩ : ∃ x y, xs.getD k (0, 0) = (x, y) := ⟨_, _, rfl⟩
      rw [hX] at hx0 hx1
      have HX := Lib.hid (take_succ_int (T := T) (k := k) (x := x) (by have := HL.out; omega) (by rw [HG.out, hX]))
      clear hX hc
      go_wp2_with (at_builtin; refine wpList_append_own _ rfl _ _ 94 rfl w.heap.size 2 i0 (.int .i64 0) 1 8 Tryd.underlying94 hi hz0 hz1 hz2 rfl (by decide) _ _ _ rfl (hown.alloc _) ⟨wr.heap.size, 0, none⟩ 1 1 [.int .i64 x] rfl rfl ?c1 ?c2 ?c3 ?c4 ?c5 ?_)
      case c2 => rfl
      case c3 => unfold maxLen; omega
      case c4 => omega
      case c5 => first | omega | (simp; omega)
      intro v' w4 hown' hgrow _
      have hb4 := u_below_append hb (Nat.le_refl _) hsz hown hgrow
      have hown5 : w4.ownsRow w.heap.size 2 1 v' (k + 1) (ints (T.take (k + 1))) := by rw [HX.out, ints_append]; exact hown'
      clear hown' hown hgrow hb
      go_wp2_with fail
      go_roundw
      case rel => exact ⟨k + 1, by omega, by go_num, hown5, hb4⟩
      case measure => simp [intOf]; omega
    · obtain rfl : k = xs.length := by omega
      rw [← HL.out, List.take_length] at hown
      have HI := Lib.hid (IL.of_own hown rfl Hr.out (by have := HL.out; omega))
      have HB := Lib.hid hb
      clear hown hb
      go_wp2_with fail
      refine (hT.out _ _ HI.out).mono ?_
      rintro e w2 ⟨rfl, hb2⟩
      go_wp2_with fail
      go_ret
      exact ⟨rfl, HB.out.trans (hb2.mono hsz)⟩

set_option maxRecDepth 100000 in
set_option maxHeartbeats 1000000 in
theorem timesOf_any (v : Value) (xs : List (Int × Int)) (w : World) (h : PL w w.heap.size v xs) :
    Calls Tryd.prog 72 #[v] w (OwnPost w.heap.size (xs.map Prod.fst) w) := by
  obtain ⟨hr, hlen, A, c, rfl, h3⟩ := h
  clear hr
  obtain ⟨i0, hi, hz0, hz1, hz2⟩ := info_parts u_info_i64
  go_enter Tryd.func72, Tryd.ntmps72
  go_wp2_with (at_make; refine wpList_make_full _ rfl _ _ 94 rfl w.heap.size 2 i0 (.int .i64 0) 1 Tryd.underlying94 hi hz0 hz1 _ _ _ _ xs.length rfl rfl rfl rfl ?b2 ?b3 ?b4 ?_)
  case b2 => rw [hz2]; omega
  case b3 => unfold maxLen; omega
  case b4 => exact Nat.le_refl _
  intro w1 hown hgrow
  rw [made_ints] at hown
  have hb1 : Below w.heap.size w w1 := (Below.refl _ _).grown hgrow (Nat.le_refl _) (fun k hk => by cases hk)
  clear hgrow
  go_wp2_with fail
  go_loopw [11] (fun i wr => ∃ (k : Nat) (l : List Int), k ≤ xs.length ∧ i = .int .i64 k ∧ l.length = xs.length ∧ (∀ j, j < k → l.getD j 0 = (xs.getD j (0, 0)).1) ∧
      wr.ownsRow w.heap.size 2 1 (.slice (some ⟨w.heap.size, 0, none⟩) xs.length xs.length) xs.length (ints l) ∧ Below w.heap.size w wr)
    (fun i _ => xs.length - (intOf i).toNat)
  case atStart => exact ⟨0, List.replicate xs.length 0, Nat.zero_le _, rfl, by simp, fun j hj => by omega, hown, hb1⟩
  case round =>
    clear hown hb1
    obtain ⟨k, l, hk, rfl, hll, hag, hown, hb1⟩ := hrel
    have Hag := Lib.hid hag
    have Hll := Lib.hid hll
    clear hag hll
    by_cases hlt : k < xs.length
    · rcases h3 with h3 | ⟨b, off, rfl, hbl, hc⟩
      · subst h3; simp at hlt
      have hx0 : wr.cell? ⟨b, off + k * 2, none⟩ = some (.int .i64 (xs.getD k (0, 0)).1) := (hb1.cell (p := ⟨b, off + k * 2, none⟩) hbl).trans (hc k hlt).1
      have hx1 : wr.cell? ⟨b, off + k * 2 + 1, none⟩ = some (.int .i64 (xs.getD k (0, 0)).2) := (hb1.cell (p := ⟨b, off + k * 2 + 1, none⟩) hbl).trans (hc k hlt).2
      obtain ⟨x, y, hX⟩ : ∃ x y, xs.getD k (0, 0) = (x, y) := ⟨_, _, rfl⟩
      rw [hX] at hx0 hx1
      have HX := Lib.hid hX
      clear hX hc
      have hlk : k < l.length := by have := Hll.out; omega
      have c0 : wr.cell? ⟨w.heap.size, k, none⟩ = some (.int .i64 (l.getD k 0)) := by
        rw [hown.cellAt _ (by omega)]; exact ints_get _ _ hlk
      have f0 : wr.frozen? ⟨w.heap.size, k, none⟩ = false := hown.frozenAt _
      have hsz : w.heap.size < wr.heap.size := World.block_lt_of_cell? wr _ c0
      generalize l.getD k 0 = o0 at c0
      have hst := hown.stored k (.int .i64 x)
      have hown4 := hst.1
      rw [ints_set] at hown4
      have HO := Lib.hid (hown4.alloc (.cells #[.int .i64 x, .int .i64 y] 41))
      have HB := Lib.hid ((hb1.setCell (show w.heap.size ≤ (⟨w.heap.size, k, none⟩ : Addr).block by simp) (.int .i64 x)).alloc (by simp; omega) (.cells #[.int .i64 x, .int .i64 y] 41))
      clear hst hown4 hown hb1 hlk
      go_wp2_with fail
      refine ⟨⟨k + 1, l.set k x, by omega, by go_num, by simpa using Hll.out, fun j hj => ?_, HO.out, HB.out⟩, by simp [intOf]; omega⟩
      rw [getD_set_int _ _ _ _ (by have := Hll.out; omega)]
      by_cases e : j = k
      · subst e; rw [if_pos rfl, HX.out]
      · rw [if_neg e]; exact Hag.out j (by omega)
    · obtain rfl : k = xs.length := by omega
      have e : l = xs.map Prod.fst := ints_ext (by simpa using Hll.out) (fun j hj => by rw [tsOf_getD]; exact Hag.out j (by have := Hll.out; omega))
      subst e
      go_wp2_with fail
      go_ret
      exact ⟨_, rfl, by simpa using hown, hb1⟩

set_option maxRecDepth 100000 in
set_option maxHeartbeats 1000000 in
theorem implPointsOk_any (v : Value) (xs : List (Int × Int)) (w : World) (h : PL w w.heap.size v xs) :
    Calls Tryd.prog 46 #[v] w (BoolPost (ptsOkB xs) w) := by
  have hlen := h.2.1
  have Hr := Lib.hid (rng_fst h.1)
  have HP := Lib.hid h
  have hT := Lib.hid (fun v W h => implTimesOk_any v (xs.map Prod.fst) W h)
  have hO := Lib.hid (fun W h => timesOf_any v xs W h)
  clear h
  go_enter Tryd.func46, Tryd.ntmps46
  go_wp2_with fail
  refine (hO.out _ HP.out).mono ?_
  rintro e w1 ⟨v1, rfl, hown, hb⟩
  have HI := Lib.hid (IL.of_own hown (by simp) Hr.out (by simpa using hlen))
  have HB := Lib.hid hb
  have hsz := hb.size
  clear hown hb
  go_wp2_with fail
  refine (hT.out _ _ HI.out).mono ?_
  rintro e w2 ⟨rfl, hb2⟩
  go_wp2_with fail
  go_ret
  exact ⟨rfl, HB.out.trans (hb2.mono hsz)⟩

end Go.Proofs.YtanoohfhifhhaaaDoor

/- Walks: the times and the values of points; the model's block. -/
set_option linter.unusedVariables false
set_option linter.unusedSimpArgs false
namespace Go.Proofs.YtanoohfhifhhaaaDoor
open Go.RowKit

set_option maxRecDepth 100000 in
set_option maxHeartbeats 1000000 in
theorem valuesOf_any (v : Value) (xs : List (Int × Int)) (w : World) (h : PL w w.heap.size v xs) :
    Calls Tryd.prog 76 #[v] w (OwnPost w.heap.size (xs.map Prod.snd) w) := by
  obtain ⟨hr, hlen, A, c, rfl, h3⟩ := h
  clear hr
  obtain ⟨i0, hi, hz0, hz1, hz2⟩ := info_parts u_info_i64
  go_enter Tryd.func76, Tryd.ntmps76
  go_wp2_with (at_make; refine wpList_make_full _ rfl _ _ 94 rfl w.heap.size 2 i0 (.int .i64 0) 1 Tryd.underlying94 hi hz0 hz1 _ _ _ _ xs.length rfl rfl rfl rfl ?b2 ?b3 ?b4 ?_)
  case b2 => rw [hz2]; omega
  case b3 => unfold maxLen; omega
  case b4 => exact Nat.le_refl _
  intro w1 hown hgrow
  rw [made_ints] at hown
  have hb1 : Below w.heap.size w w1 := (Below.refl _ _).grown hgrow (Nat.le_refl _) (fun k hk => by cases hk)
  clear hgrow
  go_wp2_with fail
  go_loopw [11] (fun i wr => ∃ (k : Nat) (l : List Int), k ≤ xs.length ∧ i = .int .i64 k ∧ l.length = xs.length ∧ (∀ j, j < k → l.getD j 0 = (xs.getD j (0, 0)).2) ∧
      wr.ownsRow w.heap.size 2 1 (.slice (some ⟨w.heap.size, 0, none⟩) xs.length xs.length) xs.length (ints l) ∧ Below w.heap.size w wr)
    (fun i _ => xs.length - (intOf i).toNat)
  case atStart => exact ⟨0, List.replicate xs.length 0, Nat.zero_le _, rfl, by simp, fun j hj => by omega, hown, hb1⟩
  case round =>
    clear hown hb1
    obtain ⟨k, l, hk, rfl, hll, hag, hown, hb1⟩ := hrel
    have Hag := Lib.hid hag
    have Hll := Lib.hid hll
    clear hag hll
    by_cases hlt : k < xs.length
    · rcases h3 with h3 | ⟨b, off, rfl, hbl, hc⟩
      · subst h3; simp at hlt
      have hx0 : wr.cell? ⟨b, off + k * 2, none⟩ = some (.int .i64 (xs.getD k (0, 0)).1) := (hb1.cell (p := ⟨b, off + k * 2, none⟩) hbl).trans (hc k hlt).1
      have hx1 : wr.cell? ⟨b, off + k * 2 + 1, none⟩ = some (.int .i64 (xs.getD k (0, 0)).2) := (hb1.cell (p := ⟨b, off + k * 2 + 1, none⟩) hbl).trans (hc k hlt).2
      obtain ⟨x, y, hX⟩ : ∃ x y, xs.getD k (0, 0) = (x, y) := ⟨_, _, rfl⟩
      rw [hX] at hx0 hx1
      have HX := Lib.hid hX
      clear hX hc
      have hlk : k < l.length := by have := Hll.out; omega
      have c0 : wr.cell? ⟨w.heap.size, k, none⟩ = some (.int .i64 (l.getD k 0)) := by
        rw [hown.cellAt _ (by omega)]; exact ints_get _ _ hlk
      have f0 : wr.frozen? ⟨w.heap.size, k, none⟩ = false := hown.frozenAt _
      have hsz : w.heap.size < wr.heap.size := World.block_lt_of_cell? wr _ c0
      generalize l.getD k 0 = o0 at c0
      have hst := hown.stored k (.int .i64 y)
      have hown4 := hst.1
      rw [ints_set] at hown4
      have HO := Lib.hid (hown4.alloc (.cells #[.int .i64 x, .int .i64 y] 41))
      have HB := Lib.hid ((hb1.setCell (show w.heap.size ≤ (⟨w.heap.size, k, none⟩ : Addr).block by simp) (.int .i64 y)).alloc (by simp; omega) (.cells #[.int .i64 x, .int .i64 y] 41))
      clear hst hown4 hown hb1 hlk
      go_wp2_with fail
      refine ⟨⟨k + 1, l.set k y, by omega, by go_num, by simpa using Hll.out, fun j hj => ?_, HO.out, HB.out⟩, by simp [intOf]; omega⟩
      rw [getD_set_int _ _ _ _ (by have := Hll.out; omega)]
      by_cases e : j = k
      · subst e; rw [if_pos rfl, HX.out]
      · rw [if_neg e]; exact Hag.out j (by omega)
    · obtain rfl : k = xs.length := by omega
      have e : l = xs.map Prod.snd := ints_ext (by simpa using Hll.out) (fun j hj => by rw [vsOf_getD]; exact Hag.out j (by have := Hll.out; omega))
      subst e
      go_wp2_with fail
      go_ret
      exact ⟨_, rfl, by simpa using hown, hb1⟩


/-- two lists of numbers, each its own -/
def SplitPost (ts vs : List Int) (w : World) (e : Ending) (w' : World) : Prop :=
  ∃ v u, e = .returned (.tuple #[v, u]) ∧ w'.ownsRow w.heap.size 2 1 v ts.length (ints ts) ∧ w'.ownsRow w.heap.size 2 1 u vs.length (ints vs) ∧ Below w.heap.size w w'
theorem own_kept {w1 w2 : World} {B g b : Nat} {e : TypeId} {size c : Nat} {n : Nat} {xs : List Value} (h : w1.ownsRow B e size (.slice (some ⟨b, 0, none⟩) n c) n xs) (k : w1.grownBy w2 (some g)) (hg : b ≠ g) : w2.ownsRow B e size (.slice (some ⟨b, 0, none⟩) n c) n xs := by
  obtain ⟨h1, h2⟩ := h
  refine ⟨h1, ?_⟩
  rcases h2 with ⟨h2, _⟩ | ⟨b', cap, cur, he, hb, hh, rest⟩
  · cases h2
  · injection he with he1 he2 he3
    injection he1 with he1
    injection he1 with he1
    subst he1
    exact .inr ⟨b, cap, cur, by rw [he3], hb, (k.block b (Array.getElem?_eq_some_iff.1 hh).1 (by intro h; injection h with h; exact hg h)).trans hh, rest⟩
theorem own_lt {w1 : World} {B b : Nat} {e : TypeId} {size c : Nat} {n : Nat} {xs : List Value} (h : w1.ownsRow B e size (.slice (some ⟨b, 0, none⟩) n c) n xs) : B ≤ b ∧ b < w1.heap.size := h.lt b rfl
set_option maxRecDepth 100000 in
set_option maxHeartbeats 2000000 in
theorem l5Split_any (v : Value) (xs : List (Int × Int)) (w : World) (h : PL w w.heap.size v xs) :
    Calls Tryd.prog 79 #[v] w (SplitPost (xs.map Prod.fst) (xs.map Prod.snd) w) := by
  obtain ⟨hr, hlen, A, c, rfl, h3⟩ := h
  clear hr
  obtain ⟨i0, hi, hz0, hz1, hz2⟩ := info_parts u_info_i64
  have HG := Lib.hid (tsOf_getD xs)
  have HL := Lib.hid (show (xs.map Prod.fst).length = xs.length by simp)
  have HG2 := Lib.hid (vsOf_getD xs)
  have HL2 := Lib.hid (show (xs.map Prod.snd).length = xs.length by simp)
  generalize xs.map Prod.fst = T at *
  generalize xs.map Prod.snd = V at *
  have o1 : ((w.alloc (.cells #[] 2)).alloc (.cells #[] 2)).ownsRow w.heap.size 2 1 (.slice (some ⟨w.heap.size, 0, none⟩) 0 0) 0 (ints (T.take 0)) := by
    have := (World.ownsRow_made w (base := w.heap.size) (e := 2) (size := 1) #[] 0 (Nat.le_refl _) (by simp [maxLen]) rfl).alloc (.cells #[] 2)
    simpa [ints] using this
  have o2 : ((w.alloc (.cells #[] 2)).alloc (.cells #[] 2)).ownsRow w.heap.size 2 1 (.slice (some ⟨w.heap.size + 1, 0, none⟩) 0 0) 0 (ints (V.take 0)) := by
    have := World.ownsRow_made (w.alloc (.cells #[] 2)) (base := w.heap.size) (e := 2) (size := 1) #[] 0 (by simp) (by simp [maxLen]) rfl
    simpa [ints] using this
  have hb0 := below2 w (.cells #[] 2) (.cells #[] 2)
  go_enter Tryd.func79, Tryd.ntmps79
  go_wp2_with fail
  go_loopw [4, 5, 6] (fun v u i wr => ∃ k gt ct gv cv : Nat, k ≤ xs.length ∧ i = .int .i64 k ∧ v = .slice (some ⟨gt, 0, none⟩) k ct ∧ u = .slice (some ⟨gv, 0, none⟩) k cv ∧ gt ≠ gv ∧
      wr.ownsRow w.heap.size 2 1 (.slice (some ⟨gt, 0, none⟩) k ct) k (ints (T.take k)) ∧ wr.ownsRow w.heap.size 2 1 (.slice (some ⟨gv, 0, none⟩) k cv) k (ints (V.take k)) ∧ Below w.heap.size w wr)
    (fun _ _ i _ => xs.length - (intOf i).toNat)
  case atStart => exact ⟨0, w.heap.size, 0, w.heap.size + 1, 0, Nat.zero_le _, rfl, rfl, rfl, by omega, o1, o2, hb0⟩
  case round =>
    clear o1 o2 hb0
    obtain ⟨k, gt, ct, gv, cv, hk, rfl, rfl, rfl, hne, ot, ov, hb⟩ := hrel
    have hsz := hb.size
    by_cases hlt : k < xs.length
    · rcases h3 with h3 | ⟨b, off, rfl, hbl, hc⟩
      · subst h3; simp at hlt
      have hx0 : wr.cell? ⟨b, off + k * 2, none⟩ = some (.int .i64 (xs.getD k (0, 0)).1) := (hb.cell (p := ⟨b, off + k * 2, none⟩) hbl).trans (hc k hlt).1
      have hx1 : wr.cell? ⟨b, off + k * 2 + 1, none⟩ = some (.int .i64 (xs.getD k (0, 0)).2) := (hb.cell (p := ⟨b, off + k * 2 + 1, none⟩) hbl).trans (hc k hlt).2
      obtain ⟨x, y, hX⟩ : ∃ x y, xs.getD k (0, 0) = (x, y) := ⟨_, _, rfl⟩
      rw [hX] at hx0 hx1
      have HX := Lib.hid (take_succ_int (T := T) (k := k) (x := x) (by have := HL.out; omega) (by rw [HG.out, hX]))
      have HY := Lib.hid (take_succ_int (T := V) (k := k) (x := y) (by have := HL2.out; omega) (by rw [HG2.out, hX]))
      clear hX hc
      have HOT := Lib.hid (ot.alloc (.cells #[.int .i64 x] 2))
      have HOV := Lib.hid (ov.alloc (.cells #[.int .i64 x] 2))
      have HBA := Lib.hid (hb.alloc hsz (.cells #[.int .i64 x] 2))
      have hgt := (own_lt ot).2
      have hgv := (own_lt ov).2
      have hgt0 := (own_lt ot).1
      have hgv0 := (own_lt ov).1
      clear ot ov hb
      go_wp2_with (at_builtin; refine wpList_append_lies _ rfl _ _ 94 rfl w.heap.size 2 i0 (.int .i64 0) 1 8 Tryd.underlying94 hi hz0 hz1 hz2 rfl (by decide) _ _ _ rfl HOT.out ⟨wr.heap.size, 0, none⟩ 1 1 [.int .i64 x] rfl rfl ?c1 ?c2 (by decide) ?c3 ?c4 ?c5 (wr.heap.size + 1) ?c6 ?_)
      try (case c1 => first | exact cell_one_new _ _ _ | exact fun j u h => h)
      case c2 => first | rfl | (intro q hq; simp at hq; subst hq; rfl)
      case c3 => unfold maxLen; omega
      case c4 => omega
      case c5 => first | omega | (simp; omega)
      try (case c6 => simp)
      intro g1 cap1 w4 hown' hgrow hl1 hlt1
      have hg1 : g1 ≠ gv := by
        rcases hl1 with h | h
        · have h : gt = g1 := by simpa [Value.ownBlock] using h
          omega
        · omega
      have hg1b : w.heap.size ≤ g1 := (own_lt hown').1
      have ot4 : w4.ownsRow w.heap.size 2 1 (.slice (some ⟨g1, 0, none⟩) (k + 1) cap1) (k + 1) (ints (T.take (k + 1))) := by rw [HX.out, ints_append]; exact hown'
      have ov4 := own_kept HOV.out hgrow (fun h => hne h.symm)
      have hb4 : Below w.heap.size w w4 := HBA.out.grown hgrow (by simp; omega) (fun g hg => (HOT.out.lt g hg).1)
      have hx1' : w4.cell? ⟨b, off + k * 2 + 1, none⟩ = some (.int .i64 y) := (hgrow.cell_far ⟨b, off + k * 2 + 1, none⟩ (by simp; omega) (fun h => by (have h : b = gt := by simpa [Value.ownBlock] using h); omega)).trans ((World.cell?_alloc_lt wr _ ⟨b, off + k * 2 + 1, none⟩ (show b < wr.heap.size by omega)).trans hx1)
      clear hown' hgrow HBA HOT HOV hx0 hx1
      have HOT := Lib.hid (ot4.alloc (.cells #[.int .i64 y] 2))
      have HOV := Lib.hid (ov4.alloc (.cells #[.int .i64 y] 2))
      have hsz4 := hb4.size
      have HBA := Lib.hid (hb4.alloc hsz4 (.cells #[.int .i64 y] 2))
      have hgv4 := (own_lt ov4).2
      clear ot4 ov4 hb4
      go_wp2_with (at_builtin; refine wpList_append_lies _ rfl _ _ 94 rfl w.heap.size 2 i0 (.int .i64 0) 1 8 Tryd.underlying94 hi hz0 hz1 hz2 rfl (by decide) _ _ _ rfl HOV.out ⟨w4.heap.size, 0, none⟩ 1 1 [.int .i64 y] rfl rfl ?d1 ?d2 (by decide) ?d3 ?d4 ?d5 (w4.heap.size + 1) ?d6 ?_)
      try (case d1 => first | exact cell_one_new _ _ _ | exact fun j u h => h)
      case d2 => first | rfl | (intro q hq; simp at hq; subst hq; rfl)
      case d3 => unfold maxLen; omega
      case d4 => omega
      case d5 => first | omega | (simp; omega)
      try (case d6 => simp)
      intro g2 cap2 w5 hown' hgrow hl2 hlt2
      have hg2 : g1 ≠ g2 := by
        rcases hl2 with h | h
        · have h : gv = g2 := by simpa [Value.ownBlock] using h
          omega
        · omega
      have ov5 : w5.ownsRow w.heap.size 2 1 (.slice (some ⟨g2, 0, none⟩) (k + 1) cap2) (k + 1) (ints (V.take (k + 1))) := by rw [HY.out, ints_append]; exact hown'
      have ot5 := own_kept HOT.out hgrow hg1
      have hb5 : Below w.heap.size w w5 := HBA.out.grown hgrow (by simp; omega) (fun g hg => (HOV.out.lt g hg).1)
      clear hown' hgrow HBA HOT HOV
      go_wp2_with fail
      go_roundw
      case rel => exact ⟨k + 1, g1, cap1, g2, cap2, by omega, by go_num, rfl, rfl, hg2, ot5, ov5, hb5⟩
      case measure => simp [intOf]; omega
    · obtain rfl : k = xs.length := by omega
      rw [← HL.out, List.take_length, HL.out] at ot
      rw [← HL2.out, List.take_length, HL2.out] at ov
      go_wp2_with fail
      go_ret2
      exact ⟨_, _, rfl, by rw [HL.out]; exact ot, by rw [HL2.out]; exact ov, hb⟩
end Go.Proofs.YtanoohfhifhhaaaDoor

/- Walks: the program's bits of times. -/
set_option linter.unusedVariables false
set_option linter.unusedSimpArgs false
namespace Go.Proofs.YtanoohfhifhhaaaDoor
open Go.RowKit

theorem CodesAt.put {W W' : World} {gc g : Nat} {l : List Bool} (p : CodesAt W gc) (h : BitsAt W g l) (k : W.grownBy W' (some g)) : CodesAt W' gc := by
  obtain ⟨a0, b0, a1, b1, a2, b2, a3, b3, a4, b4, hc, c0, c1, c2, c3, c4⟩ := p
  obtain ⟨ws, hb, hw⟩ := h
  have hs := baCells_size ws (l.length : Int) hw.1
  unfold BaBlk at hb
  have hr : ∀ g', some g = some g' → ∀ c ty, W.heap[g']? = some (.cells c ty (0, 0)) → c.size ≠ 1 := by
    intro g' hg c ty hc
    injection hg with hg
    subst hg
    rw [hb] at hc
    injection hc with hc
    injection hc with hc _ _
    rw [← hc, hs]; omega
  have hne : some gc ≠ some g := by
    intro he
    injection he with he
    subst he
    rw [hb] at hc
    injection hc with hc
    injection hc with hc _ _
    have := congrArg Array.size hc
    rw [hs] at this
    simp at this
  exact ⟨a0, b0, a1, b1, a2, b2, a3, b3, a4, b4, (k.block _ (heap_lt hc) hne).trans hc, c0.grown k hr, c1.grown k hr, c2.grown k hr, c3.grown k hr, c4.grown k hr⟩
theorem stepAt_zero (xs : List Int) : stepAt xs (0 - 1) = 0 := rfl
/-- the world in a round of the program's loop over times -/
structure TR (w : World) (gb gc : Nat) (xs : List Int) (k : Nat) (wr : World) : Prop where
  l : BitsAt wr gb (timesTo xs k)
  c : CodesAt wr gc
  r : ResBlk wr w.heap.size
  f : Below w.heap.size w wr
theorem TR.put {w : World} {gb gc : Nat} {xs : List Int} {k : Nat} {wr W' : World} {L : List Bool} (p : TR w gb gc xs k wr) (hgb : w.heap.size < gb) (hT : timesTo xs (k + 1) = L) (hl : BitsAt W' gb L) (hg : wr.grownBy W' (some gb)) : TR w gb gc xs (k + 1) W' :=
  ⟨hT ▸ hl, p.c.put p.l hg, p.r.grown hg (by simp; omega), p.f.grown hg p.f.size (fun k hk => by injection hk with hk; omega)⟩

set_option maxRecDepth 100000 in
set_option maxHeartbeats 4000000 in
theorem implTimesBits_go (v : Value) (xs : List Int) (w : World) (h : IL w w.heap.size v xs) (R : List UInt8) (n : Nat) (B : Bool) (hB : timesOkB xs = B) (hR : B = true → BM.pack (timesL xs) = R ∧ (timesL xs).length = n) (hf : B = false → R = [] ∧ n = 0) :
    Calls Tryd.prog 74 #[v] w (BPost ⟨R.toArray⟩ (n : Int) B w) := by
  have hb0 : Below w.heap.size w (w.alloc (.cells #[.string ⟨#[]⟩, .int .i64 0] 77)) := below1 w _
  have hI := h.below hb0
  have hI1 := Lib.hid (hI.up hb0.size)
  obtain ⟨hr, hlen, A, c, rfl, h3⟩ := h
  have hR0 : ResBlk (w.alloc (.cells #[.string ⟨#[]⟩, .int .i64 0] 77)) w.heap.size := heap_alloc_new w _
  have HR0 := Lib.hid hR0
  have HB0 := Lib.hid hb0
  have hok := implTimesOk_any _ xs _ hI1.out
  rw [hB] at hok
  have Hok := Lib.hid hok
  have hl120 : B = true → xs.length ≤ 120 := fun hh => by rw [hh] at hB; unfold timesOkB at hB; rw [Bool.and_eq_true, decide_eq_true_iff] at hB; exact hB.1
  have hgo : B = true → goodTo xs xs.length = true := fun hh => by rw [hh] at hB; unfold timesOkB at hB; rw [Bool.and_eq_true] at hB; exact hB.2
  have H3 := Lib.hid h3
  clear hok hR0 hb0 hI h3 hr
  go_enter Tryd.func74, Tryd.ntmps74
  go_wp2_with fail
  refine Hok.out.mono ?_
  rintro e w1 ⟨rfl, hb1⟩
  cases B with
  | false =>
    obtain ⟨rfl, rfl⟩ := hf rfl
    have hr1 := HR0.out.below hb1
    have r0 := hr1.c0
    have r1 := hr1.c1
    have f0 := hr1.f 0
    have f1 := hr1.f 1
    have hf1 := HB0.out.trans (hb1.mono HB0.out.size)
    clear hb1 hr1 hR hB hf hl120 hgo
    go_wp2_with fail
    exact bodyPost_ret (v := .tuple #[.agg #[.string ⟨#[]⟩, .int .i64 0], .bool false]) (by simp [results, Tryd.results74, go_sem, r0, r1]) rfl
      ⟨rfl, (hf1.setCell (by simp) _).setCell (by simp) _⟩
  | true =>
    obtain ⟨h1, h2⟩ := hR rfl
    subst h1 h2
    have hl := hl120 rfl
    have hgo := hgo rfl
    have Hgo := Lib.hid hgo
    have hr1 := HR0.out.below hb1
    have hf1 := HB0.out.trans (hb1.mono HB0.out.size)
    have hb2 : Below w1.heap.size w1 (w1.alloc (.cells (baCells zeroWs 0) 113)) := below1 w1 _
    have hl0 : BitsAt (w1.alloc (.cells (baCells zeroWs 0) 113)) w1.heap.size [] := ⟨zeroWs, BaBlk.new w1 zeroWs 0, BM.words_zero⟩
    have HR1 := Lib.hid (hr1.below hb2)
    have HF1 := Lib.hid (hf1.trans (hb2.mono hf1.size))
    have HL0 := Lib.hid hl0
    have hz1 := hf1.size
    have hw1 : w.heap.size < w1.heap.size := hr1.lt
    obtain ⟨gb, hgb⟩ : ∃ gb, gb = w1.heap.size := ⟨_, rfl⟩
    clear hr1 hf1 hR hf hl120 hgo hB hb1 hb2 hl0
    go_wp2_with (first
      | (with_reducible refine wl_alloc_ba ?_))
    refine (newStepCodes_any _).mono ?_
    rintro e w2 ⟨gc, rfl, hcs, hgc, hb2⟩
    have HC := Lib.hid hcs
    have HR2 := Lib.hid (HR1.out.below hb2)
    have HF2 := Lib.hid (HF1.out.trans (hb2.mono HF1.out.size))
    have HL2 := Lib.hid (HL0.out.below hb2)
    clear hb2 hcs HR1 HF1 HL0
    go_wp2_with fail
    have HT := Lib.hid (show TR w w1.heap.size gc xs 0 w2 from ⟨HL2.out, HC.out, HR2.out, HF2.out⟩)
    clear HC HR2 HF2 HL2 hgb gb
    go_loopw [6, 17] (fun st i wr => ∃ k : Nat, k ≤ xs.length ∧ i = .int .i64 (k : Int) ∧ st = .int .i64 (stepAt xs (k - 1)) ∧ Hid (TR w w1.heap.size gc xs k wr))
      (fun _ i _ => xs.length - (intOf i).toNat)
    case atStart => exact ⟨0, Nat.zero_le _, by simp, by simp [stepAt], HT⟩
    case round =>
      clear HT
      obtain ⟨k, hk, rfl, rfl, HT⟩ := hrel
      by_cases hlt : k < xs.length
      · rcases H3.out with h3 | ⟨b, off, rfl, hbl, hc⟩
        · subst h3; simp at hlt
        clear H3
        have hb := HT.out.f
        have hx : wr.cell? ⟨b, off + k, none⟩ = some (.int .i64 (xs.getD k 0)) := (hb.cell (p := ⟨b, off + k, none⟩) hbl).trans (hc k hlt)
        have hlk := timesTo_le xs k
        by_cases hk0 : k = 0
        · subst hk0
          rw [Nat.add_zero] at hx
          have hput := put_bits w1.heap.size (timesTo xs 0) (u64of (xs.getD 0 0)) 40 wr HT.out.l (by omega) (by omega) (u64of_lt2 _)
          have hcv := wrap_u64of' (xs.getD 0 0)
          have HD := Lib.hid (timesTo_zero xs)
          have Hput := Lib.hid hput
          generalize u64of (xs.getD 0 0) = U at *
          generalize xs.getD 0 0 = x0 at *
          clear hput hc hb
          go_wp2_with fail
          refine Hput.out.mono ?_
          rintro e w5 ⟨rfl, hl5, hg5⟩
          have HT5 := Lib.hid (HT.out.put hw1 HD.out hl5 hg5)
          clear hl5 hg5 hlk HT
          go_wp2_with fail
          go_roundw
          case rel => exact ⟨0 + 1, by omega, by go_num, rfl, HT5⟩
          case measure => simp [intOf]; omega
        · have hx1 : wr.cell? ⟨b, off + (k - 1), none⟩ = some (.int .i64 (xs.getD (k - 1) 0)) := (hb.cell (p := ⟨b, off + (k - 1), none⟩) hbl).trans (hc (k - 1) (by omega))
          have hst1 := stepAt_in Hgo.out hlt
          have hst2 := stepAt_in Hgo.out (show k - 1 < xs.length by omega)
          have hput := codesPut_any w1.heap.size gc (timesTo xs k) (stepAt xs k - stepAt xs (k - 1)) wr HT.out.c HT.out.l (by omega)
          have HD := Lib.hid (timesTo_succ (xs := xs) hk0)
          have hse : stepAt xs k = xs.getD k 0 - xs.getD (k - 1) 0 := by unfold stepAt; rw [if_neg hk0]
          have Hput := Lib.hid hput
          generalize codeB (stepAt xs k - stepAt xs (k - 1)) = D at *
          generalize hP : stepAt xs (k - 1) = p at *
          generalize hS : stepAt xs k = q at *
          have hX := goodAt_in (goodTo_at Hgo.out hlt)
          have hX1 := goodAt_in (goodTo_at Hgo.out (show k - 1 < xs.length by omega))
          generalize xs.getD k 0 = x at *
          generalize xs.getD (k - 1) 0 = y at *
          have HS := Lib.hid hS
          have hw1' : wrap64 (x - y) = q := by unfold wrap64; omega
          have hw2 : wrap64 (q - p) = q - p := by unfold wrap64; omega
          clear hP hS hse hc hb hX hX1 hput
          go_wp2_with fail
          refine Hput.out.mono ?_
          rintro e w5 ⟨rfl, hl5, hg5⟩
          have HT5 := Lib.hid (HT.out.put hw1 HD.out hl5 hg5)
          clear hl5 hg5 hlk HT
          go_wp2_with fail
          go_roundw
          case rel => exact ⟨k + 1, by omega, by go_num, by rw [Nat.add_sub_cancel, HS.out], HT5⟩
          case measure => simp [intOf]; omega
      · obtain rfl : k = xs.length := by omega
        have hT : TR w w1.heap.size gc xs xs.length wr := HT.out
        obtain ⟨ws, hbk, hws⟩ := hT.l
        have hpk := packed_any w1.heap.size ws (timesTo xs xs.length) wr hbk hws
        have HP := Lib.hid hpk
        have HR := Lib.hid hT.r
        have HF := Lib.hid hT.f
        change Hid (Calls _ _ _ _ (RetBelow (.agg #[.string ⟨(BM.pack (timesL xs)).toArray⟩, .int .i64 ((timesL xs).length : Int)]) _)) at HP
        clear hT hbk hws hpk HT H3
        generalize timesL xs = L at *
        go_wp2_with fail
        refine HP.out.mono ?_
        rintro e w3 ⟨rfl, hb3⟩
        have hr3 := HR.out.below hb3
        have hf3 := HF.out.trans (hb3.mono HF.out.size)
        have r0 := hr3.c0
        have r1 := hr3.c1
        have f0 := hr3.f 0
        have f1 := hr3.f 1
        clear hb3 hr3
        go_wp2_with fail
        exact bodyPost_ret (v := .tuple #[.agg #[.string ⟨(BM.pack L).toArray⟩, .int .i64 (L.length : Int)], .bool true]) (by simp [results, Tryd.results74, go_sem, r0, r1]) rfl
          ⟨rfl, (hf3.setCell (by simp) _).setCell (by simp) _⟩

/-- what TimesBits returns -/
def tbL (xs : List Int) : List Bool := if timesOkB xs then timesL xs else []
def tbS (xs : List Int) : ByteArray := ⟨(BM.pack (tbL xs)).toArray⟩
theorem pack_nil : BM.pack [] = [] := rfl
theorem implTimesBits_any (v : Value) (xs : List Int) (w : World) (h : IL w w.heap.size v xs) :
    Calls Tryd.prog 74 #[v] w (BPost (tbS xs) ((tbL xs).length : Int) (timesOkB xs) w) :=
  implTimesBits_go v xs w h _ _ _ rfl (fun hb => by unfold tbL; rw [hb]; exact ⟨rfl, rfl⟩) (fun hb => by unfold tbL; rw [hb, if_neg (by decide)]; exact ⟨pack_nil, rfl⟩)
end Go.Proofs.YtanoohfhifhhaaaDoor

/- Walks: the block of points. -/
set_option linter.unusedVariables false
set_option linter.unusedSimpArgs false
namespace Go.Proofs.YtanoohfhifhhaaaDoor
open Go.RowKit

/-- the bits of a block of points -/
def bkL (xs : List (Int × Int)) : List Bool := timesL (xs.map Prod.fst) ++ (valTo (xs.map Prod.snd) (xs.map Prod.snd).length).1
def bkB (xs : List (Int × Int)) : Bool := ptsOkB xs && decide (0 < xs.length)
def bkN (xs : List (Int × Int)) : Int := if bkB xs = true then (xs.length : Int) else 0
def bkD (xs : List (Int × Int)) : ByteArray := if bkB xs = true then ⟨(BM.pack (bkL xs)).toArray⟩ else ⟨#[]⟩
/-- how BlockOf ends -/
def BlkPost (N : Int) (D : ByteArray) (B : Bool) (w : World) (e : Ending) (w' : World) : Prop := e = .returned (.tuple #[.agg #[.int .i64 N, .string D], .bool B]) ∧ Below w.heap.size w w'
theorem ptsOk_len {xs : List (Int × Int)} (h : ptsOkB xs = true) : xs.length ≤ 120 := by
  unfold ptsOkB timesOkB at h
  rw [Bool.and_eq_true, decide_eq_true_iff, List.length_map] at h
  exact h.1
/-- a block's box -/
def KB (w : World) (g : Nat) (N : Int) (D : ByteArray) : Prop := w.heap[g]? = some (.cells #[.int .i64 N, .string D] 36 (0, 0))
theorem KB.c0 {w : World} {g : Nat} {N : Int} {D : ByteArray} (h : KB w g N D) : w.cell? ⟨g, 0, none⟩ = some (.int .i64 N) := by rw [cell_of_row w g 0 _ _ _ h]; rfl
theorem KB.c1 {w : World} {g : Nat} {N : Int} {D : ByteArray} (h : KB w g N D) : w.cell? ⟨g, 1, none⟩ = some (.string D) := by rw [cell_of_row w g 1 _ _ _ h]; rfl
theorem KB.f {w : World} {g : Nat} {N : Int} {D : ByteArray} (h : KB w g N D) (i : Nat) : w.frozen? ⟨g, i, none⟩ = false := frozen_of_row w g i _ _ h
theorem KB.below {w w' : World} {g B : Nat} {N : Int} {D : ByteArray} (h : KB w g N D) (hb : Below B w w') (hg : g < B) : KB w' g N D := (hb.block g hg).trans h
theorem KB.new (w : World) (N : Int) (D : ByteArray) : KB (w.alloc (.cells #[.int .i64 N, .string D] 36)) w.heap.size N D := heap_alloc_new w _
theorem pack_none : BM.pack [] = [] := rfl

theorem field_bits (a : ByteArray) (b : Int) (w : World) : (Instr.field 77 (.agg #[.string a, .int .i64 b]) 0).run Tryd.prog w = .ok (.string a) w := by kernel_rfl
theorem gd_pack_list (l : List Bool) : (ByteArray.mk (BM.pack l).toArray).data.toList = BM.pack l := by simp
theorem gd_pack_size (l : List Bool) : (ByteArray.mk (BM.pack l).toArray).size = (l.length + 7) / 8 := by
  have h : (ByteArray.mk (BM.pack l).toArray).size = (BM.pack l).length := List.size_toArray
  rw [h, BM.pack_length]; unfold BM.bytesOf; omega
theorem gd_okB_pack (l : List Bool) (h : l.length ≤ 20000) : okB ⟨(BM.pack l).toArray⟩ (l.length : Int) = true := by
  unfold okB
  apply decide_eq_true
  refine ⟨by omega, by omega, ?_, ?_⟩
  · rw [gd_pack_size]; omega
  · rw [Int.toNat_natCast, gd_pack_list, BM.listOf_pack]
theorem gd_RB_new (w : World) (s : ByteArray) (N : Int) : RB (w.alloc (.cells #[.string s, .int .i64 N] 77)) w.heap.size s N := heap_alloc_new w _
/-- two packed lists joined -/
theorem joined_pack (TL VL : List Bool) (w : World) (hl : TL.length + VL.length ≤ 20000) (R : List UInt8) (hR : BM.pack (TL ++ VL) = R) :
    Calls Tryd.prog 77 #[.agg #[.string ⟨(BM.pack TL).toArray⟩, .int .i64 (TL.length : Int)], .agg #[.string ⟨(BM.pack VL).toArray⟩, .int .i64 (VL.length : Int)]] w (BPost ⟨R.toArray⟩ ((TL.length : Int) + VL.length) true w) := by
  have h1 := gd_pack_size TL
  have h2 := gd_pack_size VL
  exact implJoined_good _ TL.length _ VL.length w (by unfold maxLen; omega) (by unfold maxLen; omega) (gd_okB_pack TL (by omega)) (gd_okB_pack VL (by omega)) hl R (Lib.hid (by rw [gd_pack_list, gd_pack_list, BM.listOf_pack, BM.listOf_pack, hR]))

set_option maxRecDepth 100000 in
set_option maxHeartbeats 2000000 in
theorem specBlockOf_bad (v : Value) (xs : List (Int × Int)) (w : World) (h : PL w w.heap.size v xs) (hB : bkB xs = false) :
    Calls Tryd.prog 51 #[v] w (BlkPost 0 ⟨#[]⟩ false w) := by
  have hb0 : Below w.heap.size w (w.alloc (.cells #[.int .i64 0, .string ⟨#[]⟩] 36)) := below1 w _
  have hP := Lib.hid (specPointsOk_any v xs _ ((h.below hb0).up hb0.size))
  have HB0 := Lib.hid hb0
  have HK0 := Lib.hid (KB.new w 0 ⟨#[]⟩)
  obtain ⟨_, hlen, A, c, rfl, _⟩ := h
  have e0 : ptsOkB xs = true → (xs.length : Int) = 0 := fun hp => by
    unfold bkB at hB; rw [hp, Bool.true_and, decide_eq_false_iff_not] at hB; omega
  cases hp : ptsOkB xs with
  | false =>
    rw [hp] at hP
    clear hb0 e0
    go_enter Tryd.func51, Tryd.ntmps51
    go_wp2_with fail
    refine hP.out.mono ?_
    rintro e w1 ⟨rfl, hb1⟩
    have hK1 := HK0.out.below hb1 (by simp)
    have r0 := hK1.c0
    have r1 := hK1.c1
    have f0 := hK1.f 0
    have f1 := hK1.f 1
    have hf1 := HB0.out.trans (hb1.mono HB0.out.size)
    clear hb1 hK1
    go_wp2_with fail
    exact bodyPost_ret (v := .tuple #[.agg #[.int .i64 0, .string ⟨#[]⟩], .bool false]) (by simp [results, Tryd.results51, go_sem, r0, r1]) rfl ⟨rfl, by
      repeat (first | exact hf1 | refine Below.setCell ?_ (by simp) _)⟩
  | true =>
    have e1 := e0 hp
    have e2 : ((xs.length : Int) == 0) = true := by rw [beq_iff_eq]; exact e1
    have e3 : decide ((xs.length : Int) = 0) = true := decide_eq_true e1
    rw [hp] at hP
    clear hb0 e0
    go_enter Tryd.func51, Tryd.ntmps51
    go_wp2_with fail
    refine hP.out.mono ?_
    rintro e w1 ⟨rfl, hb1⟩
    have hK1 := HK0.out.below hb1 (by simp)
    have r0 := hK1.c0
    have r1 := hK1.c1
    have f0 := hK1.f 0
    have f1 := hK1.f 1
    have hf1 := HB0.out.trans (hb1.mono HB0.out.size)
    clear hb1 hK1
    go_wp2_with fail
    exact bodyPost_ret (v := .tuple #[.agg #[.int .i64 0, .string ⟨#[]⟩], .bool false]) (by simp [results, Tryd.results51, go_sem, r0, r1]) rfl ⟨rfl, by
      repeat (first | exact hf1 | refine Below.setCell ?_ (by simp) _)⟩

set_option maxRecDepth 100000 in
set_option maxHeartbeats 2000000 in
theorem specBlockOf_good (v : Value) (xs : List (Int × Int)) (w : World) (h : PL w w.heap.size v xs) (hp : ptsOkB xs = true) (h0 : 0 < xs.length) (R : List UInt8) (hR : BM.pack (bkL xs) = R) :
    Calls Tryd.prog 51 #[v] w (BlkPost (xs.length : Int) ⟨R.toArray⟩ true w) := by
  have hb0 : Below w.heap.size w (w.alloc (.cells #[.int .i64 0, .string ⟨#[]⟩] 36)) := below1 w _
  have hP := Lib.hid (specPointsOk_any v xs _ ((h.below hb0).up hb0.size))
  rw [hp] at hP
  have HB0 := Lib.hid hb0
  have HK0 := Lib.hid (KB.new w 0 ⟨#[]⟩)
  have HPl := Lib.hid ((h.below hb0).up hb0.size)
  have h120 := ptsOk_len hp
  have hr := h.1
  have Hr1 := Lib.hid (rng_fst hr)
  have Hr2 := Lib.hid (rng_snd hr)
  obtain ⟨_, hlen, A, c, rfl, _⟩ := h
  have HS := Lib.hid (fun W hW => l5Split_any (.slice A xs.length c) xs W hW)
  have HT3 := Lib.hid (fun v W hW => l3Times_any v (xs.map Prod.fst) W hW hp)
  have HV4 := Lib.hid (fun v W hW => l4Values_any v (xs.map Prod.snd) W hW (by simpa using h120))
  have hl1 : (timesL (xs.map Prod.fst)).length ≤ 46 * 120 := Nat.le_trans (timesTo_le _ _) (by simp; omega)
  have hl2 : (valTo (xs.map Prod.snd) (xs.map Prod.snd).length).1.length ≤ 77 * 120 := Nat.le_trans (valTo_ok _ _).2 (by simp; omega)
  have hLt : (xs.map Prod.fst).length = xs.length := by simp
  have hLv : (xs.map Prod.snd).length = xs.length := by simp
  have HRR := Lib.hid hR
  unfold bkL at HRR
  obtain ⟨i0, hi, hz0, hz1, hz2⟩ := info_parts u_info_i64
  have n0 : ((xs.length : Int) == 0) = false := by rw [beq_eq_false_iff_ne]; omega
  have n1 : decide ((xs.length : Int) = 0) = false := decide_eq_false (by omega)
  generalize timesL (xs.map Prod.fst) = TL at *
  generalize (valTo (xs.map Prod.snd) (xs.map Prod.snd).length).1 = VL at *
  generalize xs.map Prod.fst = ts at *
  generalize xs.map Prod.snd = vs at *
  have HLt := Lib.hid hLt
  have HLv := Lib.hid hLv
  clear hb0 hp hr hR hLt hLv
  go_enter Tryd.func51, Tryd.ntmps51
  go_wp2_with fail
  refine hP.out.mono ?_
  rintro e w1 ⟨rfl, hb1⟩
  have HK1 := Lib.hid (HK0.out.below hb1 (by simp))
  have HF1 := Lib.hid (HB0.out.trans (hb1.mono HB0.out.size))
  have HP1 := Lib.hid ((HPl.out.below hb1).up hb1.size)
  have z1 : w.heap.size < w1.heap.size := Nat.lt_of_lt_of_le (by simp) hb1.size
  clear hb1
  go_wp2_with fail
  refine (HS.out _ HP1.out).mono ?_
  rintro e w2 ⟨vt, vv, rfl, ot, ov, hb2⟩
  have HK2 := Lib.hid (HK1.out.below hb2 z1)
  have HF2 := Lib.hid (HF1.out.trans (hb2.mono HF1.out.size))
  have HIt := Lib.hid (IL.of_own ot rfl Hr1.out (by have := HLt.out; omega))
  have HIv := Lib.hid (IL.of_own ov rfl Hr2.out (by have := HLv.out; omega))
  have z2 : w.heap.size < w2.heap.size := Nat.lt_of_lt_of_le z1 hb2.size
  clear hb2 ot ov
  go_wp2_with fail
  refine (HT3.out _ _ HIt.out).mono ?_
  rintro e w3 ⟨v3, rfl, o3, hb3, nn3⟩
  have HK3 := Lib.hid (HK2.out.below hb3 z2)
  have HF3 := Lib.hid (HF2.out.trans (hb3.mono HF2.out.size))
  have HIv3 := Lib.hid ((HIv.out.below hb3).up hb3.size)
  have HO3 := Lib.hid o3
  have z3 : w.heap.size < w3.heap.size := Nat.lt_of_lt_of_le z2 hb3.size
  have z23 : w2.heap.size ≤ w3.heap.size := hb3.size
  clear hb3 o3
  go_wp2_with fail
  refine (HV4.out _ _ HIv3.out).mono ?_
  rintro e w4 ⟨v4, rfl, o4, hb4, nn4⟩
  have HK4 := Lib.hid (HK3.out.below hb4 z3)
  have HF4 := Lib.hid (HF3.out.trans (hb4.mono HF3.out.size))
  have HO34 := Lib.hid (u_own_below HO3.out hb4)
  have z4 : w.heap.size < w4.heap.size := Nat.lt_of_lt_of_le z3 hb4.size
  have z24 : w2.heap.size ≤ w4.heap.size := Nat.le_trans z23 hb4.size
  clear hb4
  obtain ⟨gB, cB, rfl⟩ : ∃ gB cB, v4 = .slice (some ⟨gB, 0, none⟩) VL.length cB := by
    rcases o4.2 with ⟨h, _⟩ | ⟨g, cap, cur, h, _⟩
    · exact absurd h nn4
    · exact ⟨g, cap, h⟩
  have Hcells := Lib.hid (show ∀ j u, (bitInts VL)[j]? = some u → w4.cell? ((⟨gB, 0, none⟩ : Addr).add j) = some u from o4.cells rfl)
  have Hln := Lib.hid (show (bitInts VL).length = VL.length * 1 by rw [bitInts_length, Nat.mul_one])
  have Hone := Lib.hid (bitInts_oneCell VL)
  clear o4
  go_wp2_with (at_builtin; refine wpList_append_own _ rfl _ _ 94 rfl w2.heap.size 2 i0 (.int .i64 0) 1 8 Tryd.underlying94 hi hz0 hz1 hz2 rfl (by decide) _ _ _ rfl HO34.out ⟨gB, 0, none⟩ VL.length cB (bitInts VL) rfl Hln.out Hcells.out Hone.out ?c3 ?c4 ?c5 ?_)
  case c3 => unfold maxLen; omega
  case c4 => omega
  case c5 => exact z24
  intro v5 w5 o5 hgrow hnn
  have hap : (bitInts TL ++ bitInts VL) = bitInts (TL ++ VL) := by simp [bitInts]
  rw [hap] at o5
  have hll : TL.length + VL.length = (TL ++ VL).length := by simp
  rw [hll] at o5
  have HF5 := Lib.hid (HF4.out.grown hgrow (Nat.le_of_lt z4) (fun k hk => Nat.le_trans (HF2.out.size) (HO34.out.lt k hk).1))
  have HK5 := Lib.hid (show KB w5 w.heap.size 0 ⟨#[]⟩ from (hgrow.block w.heap.size z4 (fun hk => by have := (HO34.out.lt _ hk.symm).1; omega)).trans HK4.out)
  have z5 : w.heap.size < w5.heap.size := Nat.lt_of_lt_of_le z4 hgrow.size
  have hlen2 : (TL ++ VL).length ≤ 100000 := by simp; omega
  have hgo : ∀ v', v' = v5 → v5 ≠ .slice none 0 0 → ∃ A5 c5, v5 = .slice A5 (TL ++ VL).length c5 ∧ IntsAt w5 w5.heap.size A5 (bitInts (TL ++ VL)) := by
    intro _ _ hnn5
    rcases o5.2 with ⟨h, _⟩ | ⟨g, cap, cur, h, _⟩
    · exact absurd h hnn5
    · subst h; exact ⟨_, _, rfl, intsAt_own o5⟩
  have hnn5 : v5 ≠ .slice none 0 0 := by first | exact hnn | exact fun h => nn3 (hnn.1 h).1
  obtain ⟨A5, c5, rfl, hA5⟩ := hgo _ rfl hnn5
  have HP5 := Lib.hid (l1Pack_any A5 c5 (TL ++ VL) w5 hlen2 hA5)
  rw [HRR.out] at HP5
  generalize (TL ++ VL).length = n5 at *
  clear hgrow o5 hA5 hnn5 hgo hap hnn Hcells Hln Hone HO34 HO3 HIv3 HIv HIt
  go_wp2_with fail
  refine HP5.out.mono ?_
  rintro e w6 ⟨rfl, hb6⟩
  have hK6 := HK5.out.below hb6 z5
  have hfd := field_bits (⟨R.toArray⟩ : ByteArray) (n5 : Int)
  have r0 := hK6.c0
  have r1 := hK6.c1
  have f0 := hK6.f 0
  have f1 := hK6.f 1
  have hf6 := HF5.out.trans (hb6.mono HF5.out.size)
  clear hb6 hK6
  go_wp2_with fail
  exact bodyPost_ret (v := .tuple #[.agg #[.int .i64 (xs.length : Int), .string ⟨R.toArray⟩], .bool true]) (by simp [results, Tryd.results51, go_sem, r0, r1]) rfl
    ⟨rfl, (hf6.setCell (by simp) _).setCell (by simp) _⟩

set_option maxRecDepth 100000 in
set_option maxHeartbeats 2000000 in
theorem implBlockOf_bad (v : Value) (xs : List (Int × Int)) (w : World) (h : PL w w.heap.size v xs) (hB : bkB xs = false) :
    Calls Tryd.prog 48 #[v] w (BlkPost 0 ⟨#[]⟩ false w) := by
  have hb0 : Below w.heap.size w (w.alloc (.cells #[.int .i64 0, .string ⟨#[]⟩] 36)) := below1 w _
  have hP := Lib.hid (implPointsOk_any v xs _ ((h.below hb0).up hb0.size))
  have HB0 := Lib.hid hb0
  have HK0 := Lib.hid (KB.new w 0 ⟨#[]⟩)
  obtain ⟨_, hlen, A, c, rfl, _⟩ := h
  by_cases e1 : (xs.length : Int) = 0
  · have e2 : ((xs.length : Int) == 0) = true := by rw [beq_iff_eq]; exact e1
    have e3 : decide ((xs.length : Int) = 0) = true := decide_eq_true e1
    have r0 := HK0.out.c0
    have r1 := HK0.out.c1
    have f0 := HK0.out.f 0
    have f1 := HK0.out.f 1
    clear hb0
    go_enter Tryd.func48, Tryd.ntmps48
    go_wp2_with fail
    exact bodyPost_ret (v := .tuple #[.agg #[.int .i64 0, .string ⟨#[]⟩], .bool false]) (by simp [results, Tryd.results48, go_sem, r0, r1]) rfl ⟨rfl, by
      repeat (first | exact HB0.out | refine Below.setCell ?_ (by simp) _)⟩
  · have e2 : ((xs.length : Int) == 0) = false := by rw [beq_eq_false_iff_ne]; exact e1
    have e3 : decide ((xs.length : Int) = 0) = false := decide_eq_false e1
    have hp : ptsOkB xs = false := by
      unfold bkB at hB
      cases hp : ptsOkB xs with
      | false => rfl
      | true => rw [hp, Bool.true_and, decide_eq_false_iff_not] at hB; omega
    rw [hp] at hP
    clear hb0
    go_enter Tryd.func48, Tryd.ntmps48
    go_wp2_with fail
    refine hP.out.mono ?_
    rintro e w1 ⟨rfl, hb1⟩
    have hK1 := HK0.out.below hb1 (by simp)
    have r0 := hK1.c0
    have r1 := hK1.c1
    have f0 := hK1.f 0
    have f1 := hK1.f 1
    have hf1 := HB0.out.trans (hb1.mono HB0.out.size)
    clear hb1 hK1
    go_wp2_with fail
    exact bodyPost_ret (v := .tuple #[.agg #[.int .i64 0, .string ⟨#[]⟩], .bool false]) (by simp [results, Tryd.results48, go_sem, r0, r1]) rfl ⟨rfl, by
      repeat (first | exact hf1 | refine Below.setCell ?_ (by simp) _)⟩

set_option maxRecDepth 100000 in
set_option maxHeartbeats 4000000 in
theorem implBlockOf_good (v : Value) (xs : List (Int × Int)) (w : World) (h : PL w w.heap.size v xs) (hT : Tab w) (hp : ptsOkB xs = true) (h0 : 0 < xs.length) (R : List UInt8) (hR : BM.pack (bkL xs) = R) :
    Calls Tryd.prog 48 #[v] w (BlkPost (xs.length : Int) ⟨R.toArray⟩ true w) := by
  have hb0 : Below w.heap.size w (w.alloc (.cells #[.int .i64 0, .string ⟨#[]⟩] 36)) := below1 w _
  have hP := Lib.hid (implPointsOk_any v xs _ ((h.below hb0).up hb0.size))
  rw [hp] at hP
  have HB0 := Lib.hid hb0
  have HK0 := Lib.hid (KB.new w 0 ⟨#[]⟩)
  have HPl := Lib.hid ((h.below hb0).up hb0.size)
  have HTab := Lib.hid hT
  have h120 := ptsOk_len hp
  have hr := h.1
  have Hr1 := Lib.hid (rng_fst hr)
  have Hr2 := Lib.hid (rng_snd hr)
  obtain ⟨_, hlen, A, c, rfl, _⟩ := h
  have HtO := Lib.hid (fun W hW => timesOf_any (.slice A xs.length c) xs W hW)
  have HvO := Lib.hid (fun W hW => valuesOf_any (.slice A xs.length c) xs W hW)
  have htB : tbL (xs.map Prod.fst) = timesL (xs.map Prod.fst) := by unfold tbL; rw [if_pos (show timesOkB (xs.map Prod.fst) = true from hp)]
  have HTB := Lib.hid (fun v W hW => implTimesBits_any v (xs.map Prod.fst) W hW)
  rw [show timesOkB (xs.map Prod.fst) = true from hp] at HTB
  unfold tbS at HTB
  rw [htB] at HTB
  have HVB := Lib.hid (fun v W hW hT => implValuesBits_good v (xs.map Prod.snd) W hW (by simpa using h120) hT _ _ (Lib.hid ⟨rfl, rfl⟩))
  have hl1 : (timesL (xs.map Prod.fst)).length ≤ 46 * 120 := Nat.le_trans (timesTo_le _ _) (by simp; omega)
  have hl2 : (valTo (xs.map Prod.snd) (xs.map Prod.snd).length).1.length ≤ 77 * 120 := Nat.le_trans (valTo_ok _ _).2 (by simp; omega)
  have hLt : (xs.map Prod.fst).length = xs.length := by simp
  have hLv : (xs.map Prod.snd).length = xs.length := by simp
  have HRR := Lib.hid hR
  unfold bkL at HRR
  have n0 : ((xs.length : Int) == 0) = false := by rw [beq_eq_false_iff_ne]; omega
  have n1 : decide ((xs.length : Int) = 0) = false := decide_eq_false (by omega)
  clear htB
  generalize timesL (xs.map Prod.fst) = TL at *
  generalize (valTo (xs.map Prod.snd) (xs.map Prod.snd).length).1 = VL at *
  generalize xs.map Prod.fst = ts at *
  generalize xs.map Prod.snd = vs at *
  have HLt := Lib.hid hLt
  have HLv := Lib.hid hLv
  have HJ := Lib.hid (fun W => joined_pack TL VL W (by omega) R HRR.out)
  clear hb0 hp hr hR hLt hLv hT
  go_enter Tryd.func48, Tryd.ntmps48
  go_wp2_with fail
  refine hP.out.mono ?_
  rintro e w1 ⟨rfl, hb1⟩
  have HK1 := Lib.hid (HK0.out.below hb1 (by simp))
  have HF1 := Lib.hid (HB0.out.trans (hb1.mono HB0.out.size))
  have HP1 := Lib.hid ((HPl.out.below hb1).up hb1.size)
  have z1 : w.heap.size < w1.heap.size := Nat.lt_of_lt_of_le (by simp) hb1.size
  clear hb1
  go_wp2_with fail
  refine (HtO.out _ HP1.out).mono ?_
  rintro e w2 ⟨v2, rfl, o2, hb2⟩
  have HK2 := Lib.hid (HK1.out.below hb2 z1)
  have HF2 := Lib.hid (HF1.out.trans (hb2.mono HF1.out.size))
  have HP2 := Lib.hid ((HP1.out.below hb2).up hb2.size)
  have HI2 := Lib.hid (IL.of_own o2 rfl Hr1.out (by have := HLt.out; omega))
  have z2 : w.heap.size < w2.heap.size := Nat.lt_of_lt_of_le z1 hb2.size
  clear hb2 o2
  go_wp2_with fail
  refine (HTB.out _ _ HI2.out).mono ?_
  rintro e w3 ⟨rfl, hb3⟩
  have HK3 := Lib.hid (HK2.out.below hb3 z2)
  have HF3 := Lib.hid (HF2.out.trans (hb3.mono HF2.out.size))
  have HP3 := Lib.hid ((HP2.out.below hb3).up hb3.size)
  have z3 : w.heap.size < w3.heap.size := Nat.lt_of_lt_of_le z2 hb3.size
  clear hb3
  have ha3 : Below w3.heap.size w3 (w3.alloc (.cells #[.string ⟨(BM.pack TL).toArray⟩, .int .i64 (TL.length : Int)] 77)) := below1 w3 _
  have HKa := Lib.hid (HK3.out.below ha3 z3)
  have HFa := Lib.hid (HF3.out.trans (ha3.mono HF3.out.size))
  have HPa := Lib.hid ((HP3.out.below ha3).up ha3.size)
  have HBa := Lib.hid (gd_RB_new w3 ⟨(BM.pack TL).toArray⟩ (TL.length : Int))
  have za : w3.heap.size < (w3.alloc (.cells #[.string ⟨(BM.pack TL).toArray⟩, .int .i64 (TL.length : Int)] 77)).heap.size := by simp
  go_wp2_with fail
  clear ha3
  generalize w3.alloc (.cells #[.string ⟨(BM.pack TL).toArray⟩, .int .i64 (TL.length : Int)] 77) = wa at *
  refine (HvO.out _ HPa.out).mono ?_
  rintro e w4 ⟨v4, rfl, o4, hb4⟩
  have HK4 := Lib.hid (HKa.out.below hb4 (by omega))
  have HF4 := Lib.hid (HFa.out.trans (hb4.mono HFa.out.size))
  have HI4 := Lib.hid (IL.of_own o4 rfl Hr2.out (by have := HLv.out; omega))
  have HB4 := Lib.hid (HBa.out.below hb4)
  have z4 : w3.heap.size < w4.heap.size := Nat.lt_of_lt_of_le za hb4.size
  clear hb4 o4
  go_wp2_with fail
  refine (HVB.out _ _ HI4.out (HTab.out.below HF4.out)).mono ?_
  rintro e w5 ⟨rfl, hb5⟩
  have HK5 := Lib.hid (HK4.out.below hb5 (by omega))
  have HF5 := Lib.hid (HF4.out.trans (hb5.mono HF4.out.size))
  have HB5 := Lib.hid (HB4.out.below hb5)
  have z5 : w3.heap.size < w5.heap.size := Nat.lt_of_lt_of_le z4 hb5.size
  clear hb5
  have ha5 : Below w5.heap.size w5 (w5.alloc (.cells #[.string ⟨(BM.pack VL).toArray⟩, .int .i64 (VL.length : Int)] 77)) := below1 w5 _
  have HKb := Lib.hid (HK5.out.below ha5 (by omega))
  have HFb := Lib.hid (HF5.out.trans (ha5.mono HF5.out.size))
  have HBb := Lib.hid (HB5.out.below ha5)
  have HCb := Lib.hid (gd_RB_new w5 ⟨(BM.pack VL).toArray⟩ (VL.length : Int))
  have zb : w5.heap.size < (w5.alloc (.cells #[.string ⟨(BM.pack VL).toArray⟩, .int .i64 (VL.length : Int)] 77)).heap.size := by simp
  have p0 := HB5.out.c0
  have p1 := HB5.out.c1
  clear ha5
  go_wp2_with fail
  refine (HJ.out _).mono ?_
  rintro e w6 ⟨rfl, hb6⟩
  have hf6 := HFb.out.trans (hb6.mono HFb.out.size)
  have hK6 := HKb.out.below hb6 (by omega)
  have r0 := hK6.c0
  have r1 := hK6.c1
  have f0 := hK6.f 0
  have f1 := hK6.f 1
  have z6 : w.heap.size < w6.heap.size := by have := hb6.size; omega
  clear hb6 hK6 p0 p1
  have q0 : (((w6.setCell ⟨w.heap.size, 0, none⟩ (.int .i64 (xs.length : Int))).setCell ⟨w.heap.size, 1, none⟩ (.string ⟨R.toArray⟩)).alloc (.cells #[.string ⟨R.toArray⟩, .int .i64 ((TL.length : Int) + (VL.length : Int))] 77)).cell? ⟨w.heap.size, 0, none⟩ = some (.int .i64 (xs.length : Int)) :=
    (World.cell?_alloc_lt _ _ _ (by simpa using z6)).trans (by simp [go_sem, r0, r1])
  have q1 : (((w6.setCell ⟨w.heap.size, 0, none⟩ (.int .i64 (xs.length : Int))).setCell ⟨w.heap.size, 1, none⟩ (.string ⟨R.toArray⟩)).alloc (.cells #[.string ⟨R.toArray⟩, .int .i64 ((TL.length : Int) + (VL.length : Int))] 77)).cell? ⟨w.heap.size, 1, none⟩ = some (.string ⟨R.toArray⟩) :=
    (World.cell?_alloc_lt _ _ _ (by simpa using z6)).trans (by simp [go_sem, r0, r1])
  have hs1 : Below w.heap.size w (w6.setCell ⟨w.heap.size, 0, none⟩ (.int .i64 (xs.length : Int))) := hf6.setCell (by simp) _
  have hs2 : Below w.heap.size w ((w6.setCell ⟨w.heap.size, 0, none⟩ (.int .i64 (xs.length : Int))).setCell ⟨w.heap.size, 1, none⟩ (.string ⟨R.toArray⟩)) := hs1.setCell (by simp) _
  have HQ := Lib.hid (hs2.alloc (by simp; omega) (.cells #[.string ⟨R.toArray⟩, .int .i64 ((TL.length : Int) + (VL.length : Int))] 77))
  clear hs1 hs2
  go_wp2_with fail
  exact bodyPost_ret (v := .tuple #[.agg #[.int .i64 (xs.length : Int), .string ⟨R.toArray⟩], .bool true]) (by simp [results, Tryd.results48, go_sem, q0, q1]) rfl ⟨rfl, HQ.out⟩

theorem specBlockOf_any (v : Value) (xs : List (Int × Int)) (w : World) (h : PL w w.heap.size v xs) :
    Calls Tryd.prog 51 #[v] w (BlkPost (bkN xs) (bkD xs) (bkB xs) w) := by
  unfold bkN bkD
  cases hB : bkB xs with
  | false => rw [if_neg (by simp), if_neg (by simp)]; exact specBlockOf_bad v xs w h hB
  | true =>
    rw [if_pos rfl, if_pos rfl]
    have hb := hB
    unfold bkB at hb
    rw [Bool.and_eq_true, decide_eq_true_iff] at hb
    exact specBlockOf_good v xs w h hb.1 hb.2 _ rfl
theorem implBlockOf_any (v : Value) (xs : List (Int × Int)) (w : World) (h : PL w w.heap.size v xs) (hT : Tab w) :
    Calls Tryd.prog 48 #[v] w (BlkPost (bkN xs) (bkD xs) (bkB xs) w) := by
  unfold bkN bkD
  cases hB : bkB xs with
  | false => rw [if_neg (by simp), if_neg (by simp)]; exact implBlockOf_bad v xs w h hB
  | true =>
    rw [if_pos rfl, if_pos rfl]
    have hb := hB
    unfold bkB at hb
    rw [Bool.and_eq_true, decide_eq_true_iff] at hb
    exact implBlockOf_good v xs w h hT hb.1 hb.2 _ rfl
end Go.Proofs.YtanoohfhifhhaaaDoor
