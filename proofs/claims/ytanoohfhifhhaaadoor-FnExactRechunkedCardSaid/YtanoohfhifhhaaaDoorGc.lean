/- Walks: points whose times are valid: the law FnExactPointsOk. -/
import Derived.Test.YtanoohfhifhhaaaDoorGa
import Derived.Test.YtanoohfhifhhaaaDoorDa
import Derived.Test.YtanoohfhifhhaaaDoorEg
import Derived.Deep.AppendLies
set_option linter.unusedVariables false
set_option linter.unusedSimpArgs false
namespace Go.Proofs.YtanoohfhifhhaaaDoor
open Go.RowKit

def ptsOkB (xs : List (Int × Int)) : Bool := timesOkB (xs.map Prod.fst)
theorem rng_fst {xs : List (Int × Int)} (h : ∀ j, Rng (xs.getD j (0, 0)).1 ∧ Rng (xs.getD j (0, 0)).2) (j : Nat) : Rng ((xs.map Prod.fst).getD j 0) := by
  rw [tsOf_getD]; exact (h j).1
theorem rng_snd {xs : List (Int × Int)} (h : ∀ j, Rng (xs.getD j (0, 0)).1 ∧ Rng (xs.getD j (0, 0)).2) (j : Nat) : Rng ((xs.map Prod.snd).getD j 0) := by
  rw [vsOf_getD]; exact (h j).2
theorem take_succ_int {T : List Int} {k : Nat} (hk : k < T.length) {x : Int} (h : T.getD k 0 = x) : T.take (k + 1) = T.take k ++ [x] := by
  rw [List.take_add_one, List.getElem?_eq_getElem hk]
  rw [List.getD_eq_getElem?_getD, List.getElem?_eq_getElem hk] at h
  simp only [Option.getD_some] at h
  simp [h]

set_option maxRecDepth 100000 in
set_option maxHeartbeats 1000000 in
theorem specPointsOk_any (v : Value) (xs : List (Int × Int)) (w : World) (h : PL w w.heap.size v xs) :
    Calls Tryd.prog 49 #[v] w (BoolPost (ptsOkB xs) w) := by
  obtain ⟨hr, hlen, A, c, rfl, h3⟩ := h
  have Hr := Lib.hid (rng_fst hr)
  clear hr
  have hT := Lib.hid (fun v W h => specTimesOk_any v (xs.map Prod.fst) W h)
  have HG := Lib.hid (tsOf_getD xs)
  have HL := Lib.hid (show (xs.map Prod.fst).length = xs.length by simp)
  unfold ptsOkB
  generalize xs.map Prod.fst = T at *
  obtain ⟨i0, hi, hz0, hz1, hz2⟩ := info_parts u_info_i64
  go_enter Tryd.func49, Tryd.ntmps49
  go_wp2_with fail
  go_loopw [3, 4] (fun v i wr => ∃ k : Nat, k ≤ xs.length ∧ i = .int .i64 k ∧ wr.ownsRow w.heap.size 2 1 v k (ints (T.take k)) ∧ Below w.heap.size w wr)
    (fun _ i _ => xs.length - (intOf i).toNat)
  case atStart =>
    refine ⟨0, Nat.zero_le _, rfl, ?_, ?_⟩
    · have := World.ownsRow_made w (base := w.heap.size) (e := 2) (size := 1) #[] 0 (Nat.le_refl _) (by simp [maxLen]) rfl
      simpa [ints] using this
    · exact (Below.refl _ _).alloc (Nat.le_refl _) _
  case round =>
    obtain ⟨k, hk, rfl, hown, hb⟩ := hrel
    have hsz := hb.size
    by_cases hlt : k < xs.length
    · rcases h3 with h3 | ⟨b, off, rfl, hbl, hc⟩
      · subst h3; simp at hlt
      have hx0 : wr.cell? ⟨b, off + k * 2, none⟩ = some (.int .i64 (xs.getD k (0, 0)).1) := (hb.cell (p := ⟨b, off + k * 2, none⟩) hbl).trans (hc k hlt).1
      have hx1 : wr.cell? ⟨b, off + k * 2 + 1, none⟩ = some (.int .i64 (xs.getD k (0, 0)).2) := (hb.cell (p := ⟨b, off + k * 2 + 1, none⟩) hbl).trans (hc k hlt).2
      obtain ⟨x, y, hX⟩ : ∃ x y, xs.getD k (0, 0) = (x, y) := ⟨_, _, rfl⟩
      rw [hX] at hx0 hx1
      have HX := Lib.hid (take_succ_int (T := T) (k := k) (x := x) (by have := HL.out; omega) (by rw [HG.out, hX]))
      clear hX hc
      go_wp2_with (at_builtin; refine wpList_append_own _ rfl _ _ 94 rfl w.heap.size 2 i0 (.int .i64 0) 1 8 Tryd.underlying94 hi hz0 hz1 hz2 rfl (by decide) _ _ _ rfl (hown.alloc _) ⟨wr.heap.size, 0, none⟩ 1 1 [.int .i64 x] rfl rfl ?c1 ?c2 ?c3 ?c4 ?c5 ?_)
      case c2 => rfl
      case c3 => unfold maxLen; omega
      case c4 => omega
      case c5 => first | omega | (simp; omega)
      intro v' w4 hown' hgrow _
      have hb4 := u_below_append hb (Nat.le_refl _) hsz hown hgrow
      have hown5 : w4.ownsRow w.heap.size 2 1 v' (k + 1) (ints (T.take (k + 1))) := by rw [HX.out, ints_append]; exact hown'
      clear hown' hown hgrow hb
      go_wp2_with fail
      go_roundw
      case rel => exact ⟨k + 1, by omega, by go_num, hown5, hb4⟩
      case measure => simp [intOf]; omega
    · obtain rfl : k = xs.length := by omega
      rw [← HL.out, List.take_length] at hown
      have HI := Lib.hid (IL.of_own hown rfl Hr.out (by have := HL.out; omega))
      have HB := Lib.hid hb
      clear hown hb
      go_wp2_with fail
      refine (hT.out _ _ HI.out).mono ?_
      rintro e w2 ⟨rfl, hb2⟩
      go_wp2_with fail
      go_ret
      exact ⟨rfl, HB.out.trans (hb2.mono hsz)⟩

set_option maxRecDepth 100000 in
set_option maxHeartbeats 1000000 in
theorem timesOf_any (v : Value) (xs : List (Int × Int)) (w : World) (h : PL w w.heap.size v xs) :
    Calls Tryd.prog 72 #[v] w (OwnPost w.heap.size (xs.map Prod.fst) w) := by
  obtain ⟨hr, hlen, A, c, rfl, h3⟩ := h
  clear hr
  obtain ⟨i0, hi, hz0, hz1, hz2⟩ := info_parts u_info_i64
  go_enter Tryd.func72, Tryd.ntmps72
  go_wp2_with (at_make; refine wpList_make_full _ rfl _ _ 94 rfl w.heap.size 2 i0 (.int .i64 0) 1 Tryd.underlying94 hi hz0 hz1 _ _ _ _ xs.length rfl rfl rfl rfl ?b2 ?b3 ?b4 ?_)
  case b2 => rw [hz2]; omega
  case b3 => unfold maxLen; omega
  case b4 => exact Nat.le_refl _
  intro w1 hown hgrow
  rw [made_ints] at hown
  have hb1 : Below w.heap.size w w1 := (Below.refl _ _).grown hgrow (Nat.le_refl _) (fun k hk => by cases hk)
  clear hgrow
  go_wp2_with fail
  go_loopw [11] (fun i wr => ∃ (k : Nat) (l : List Int), k ≤ xs.length ∧ i = .int .i64 k ∧ l.length = xs.length ∧ (∀ j, j < k → l.getD j 0 = (xs.getD j (0, 0)).1) ∧
      wr.ownsRow w.heap.size 2 1 (.slice (some ⟨w.heap.size, 0, none⟩) xs.length xs.length) xs.length (ints l) ∧ Below w.heap.size w wr)
    (fun i _ => xs.length - (intOf i).toNat)
  case atStart => exact ⟨0, List.replicate xs.length 0, Nat.zero_le _, rfl, by simp, fun j hj => by omega, hown, hb1⟩
  case round =>
    clear hown hb1
    obtain ⟨k, l, hk, rfl, hll, hag, hown, hb1⟩ := hrel
    have Hag := Lib.hid hag
    have Hll := Lib.hid hll
    clear hag hll
    by_cases hlt : k < xs.length
    · rcases h3 with h3 | ⟨b, off, rfl, hbl, hc⟩
      · subst h3; simp at hlt
      have hx0 : wr.cell? ⟨b, off + k * 2, none⟩ = some (.int .i64 (xs.getD k (0, 0)).1) := (hb1.cell (p := ⟨b, off + k * 2, none⟩) hbl).trans (hc k hlt).1
      have hx1 : wr.cell? ⟨b, off + k * 2 + 1, none⟩ = some (.int .i64 (xs.getD k (0, 0)).2) := (hb1.cell (p := ⟨b, off + k * 2 + 1, none⟩) hbl).trans (hc k hlt).2
      obtain ⟨x, y, hX⟩ : ∃ x y, xs.getD k (0, 0) = (x, y) := ⟨_, _, rfl⟩
      rw [hX] at hx0 hx1
      have HX := Lib.hid hX
      clear hX hc
      have hlk : k < l.length := by have := Hll.out; omega
      have c0 : wr.cell? ⟨w.heap.size, k, none⟩ = some (.int .i64 (l.getD k 0)) := by
        rw [hown.cellAt _ (by omega)]; exact ints_get _ _ hlk
      have f0 : wr.frozen? ⟨w.heap.size, k, none⟩ = false := hown.frozenAt _
      have hsz : w.heap.size < wr.heap.size := World.block_lt_of_cell? wr _ c0
      generalize l.getD k 0 = o0 at c0
      have hst := hown.stored k (.int .i64 x)
      have hown4 := hst.1
      rw [ints_set] at hown4
      have HO := Lib.hid (hown4.alloc (.cells #[.int .i64 x, .int .i64 y] 41))
      have HB := Lib.hid ((hb1.setCell (show w.heap.size ≤ (⟨w.heap.size, k, none⟩ : Addr).block by simp) (.int .i64 x)).alloc (by simp; omega) (.cells #[.int .i64 x, .int .i64 y] 41))
      clear hst hown4 hown hb1 hlk
      go_wp2_with fail
      refine ⟨⟨k + 1, l.set k x, by omega, by go_num, by simpa using Hll.out, fun j hj => ?_, HO.out, HB.out⟩, by simp [intOf]; omega⟩
      rw [getD_set_int _ _ _ _ (by have := Hll.out; omega)]
      by_cases e : j = k
      · subst e; rw [if_pos rfl, HX.out]
      · rw [if_neg e]; exact Hag.out j (by omega)
    · obtain rfl : k = xs.length := by omega
      have e : l = xs.map Prod.fst := ints_ext (by simpa using Hll.out) (fun j hj => by rw [tsOf_getD]; exact Hag.out j (by have := Hll.out; omega))
      subst e
      go_wp2_with fail
      go_ret
      exact ⟨_, rfl, by simpa using hown, hb1⟩

set_option maxRecDepth 100000 in
set_option maxHeartbeats 1000000 in
theorem implPointsOk_any (v : Value) (xs : List (Int × Int)) (w : World) (h : PL w w.heap.size v xs) :
    Calls Tryd.prog 46 #[v] w (BoolPost (ptsOkB xs) w) := by
  have hlen := h.2.1
  have Hr := Lib.hid (rng_fst h.1)
  have HP := Lib.hid h
  have hT := Lib.hid (fun v W h => implTimesOk_any v (xs.map Prod.fst) W h)
  have hO := Lib.hid (fun W h => timesOf_any v xs W h)
  clear h
  go_enter Tryd.func46, Tryd.ntmps46
  go_wp2_with fail
  refine (hO.out _ HP.out).mono ?_
  rintro e w1 ⟨v1, rfl, hown, hb⟩
  have HI := Lib.hid (IL.of_own hown (by simp) Hr.out (by simpa using hlen))
  have HB := Lib.hid hb
  have hsz := hb.size
  clear hown hb
  go_wp2_with fail
  refine (hT.out _ _ HI.out).mono ?_
  rintro e w2 ⟨rfl, hb2⟩
  go_wp2_with fail
  go_ret
  exact ⟨rfl, HB.out.trans (hb2.mono hsz)⟩

end Go.Proofs.YtanoohfhifhhaaaDoor

/- Walks: the times and the values of points; the model's block. -/
set_option linter.unusedVariables false
set_option linter.unusedSimpArgs false
namespace Go.Proofs.YtanoohfhifhhaaaDoor
open Go.RowKit

set_option maxRecDepth 100000 in
set_option maxHeartbeats 1000000 in
theorem valuesOf_any (v : Value) (xs : List (Int × Int)) (w : World) (h : PL w w.heap.size v xs) :
    Calls Tryd.prog 76 #[v] w (OwnPost w.heap.size (xs.map Prod.snd) w) := by
  obtain ⟨hr, hlen, A, c, rfl, h3⟩ := h
  clear hr
  obtain ⟨i0, hi, hz0, hz1, hz2⟩ := info_parts u_info_i64
  go_enter Tryd.func76, Tryd.ntmps76
  go_wp2_with (at_make; refine wpList_make_full _ rfl _ _ 94 rfl w.heap.size 2 i0 (.int .i64 0) 1 Tryd.underlying94 hi hz0 hz1 _ _ _ _ xs.length rfl rfl rfl rfl ?b2 ?b3 ?b4 ?_)
  case b2 => rw [hz2]; omega
  case b3 => unfold maxLen; omega
  case b4 => exact Nat.le_refl _
  intro w1 hown hgrow
  rw [made_ints] at hown
  have hb1 : Below w.heap.size w w1 := (Below.refl _ _).grown hgrow (Nat.le_refl _) (fun k hk => by cases hk)
  clear hgrow
  go_wp2_with fail
  go_loopw [11] (fun i wr => ∃ (k : Nat) (l : List Int), k ≤ xs.length ∧ i = .int .i64 k ∧ l.length = xs.length ∧ (∀ j, j < k → l.getD j 0 = (xs.getD j (0, 0)).2) ∧
      wr.ownsRow w.heap.size 2 1 (.slice (some ⟨w.heap.size, 0, none⟩) xs.length xs.length) xs.length (ints l) ∧ Below w.heap.size w wr)
    (fun i _ => xs.length - (intOf i).toNat)
  case atStart => exact ⟨0, List.replicate xs.length 0, Nat.zero_le _, rfl, by simp, fun j hj => by omega, hown, hb1⟩
  case round =>
    clear hown hb1
    obtain ⟨k, l, hk, rfl, hll, hag, hown, hb1⟩ := hrel
    have Hag := Lib.hid hag
    have Hll := Lib.hid hll
    clear hag hll
    by_cases hlt : k < xs.length
    · rcases h3 with h3 | ⟨b, off, rfl, hbl, hc⟩
      · subst h3; simp at hlt
      have hx0 : wr.cell? ⟨b, off + k * 2, none⟩ = some (.int .i64 (xs.getD k (0, 0)).1) := (hb1.cell (p := ⟨b, off + k * 2, none⟩) hbl).trans (hc k hlt).1
      have hx1 : wr.cell? ⟨b, off + k * 2 + 1, none⟩ = some (.int .i64 (xs.getD k (0, 0)).2) := (hb1.cell (p := ⟨b, off + k * 2 + 1, none⟩) hbl).trans (hc k hlt).2
      obtain ⟨x, y, hX⟩ : ∃ x y, xs.getD k (0, 0) = (x, y) := ⟨_, _, rfl⟩
      rw [hX] at hx0 hx1
      have HX := Lib.hid hX
      clear hX hc
      have hlk : k < l.length := by have := Hll.out; omega
      have c0 : wr.cell? ⟨w.heap.size, k, none⟩ = some (.int .i64 (l.getD k 0)) := by
        rw [hown.cellAt _ (by omega)]; exact ints_get _ _ hlk
      have f0 : wr.frozen? ⟨w.heap.size, k, none⟩ = false := hown.frozenAt _
      have hsz : w.heap.size < wr.heap.size := World.block_lt_of_cell? wr _ c0
      generalize l.getD k 0 = o0 at c0
      have hst := hown.stored k (.int .i64 y)
      have hown4 := hst.1
      rw [ints_set] at hown4
      have HO := Lib.hid (hown4.alloc (.cells #[.int .i64 x, .int .i64 y] 41))
      have HB := Lib.hid ((hb1.setCell (show w.heap.size ≤ (⟨w.heap.size, k, none⟩ : Addr).block by simp) (.int .i64 y)).alloc (by simp; omega) (.cells #[.int .i64 x, .int .i64 y] 41))
      clear hst hown4 hown hb1 hlk
      go_wp2_with fail
      refine ⟨⟨k + 1, l.set k y, by omega, by go_num, by simpa using Hll.out, fun j hj => ?_, HO.out, HB.out⟩, by simp [intOf]; omega⟩
      rw [getD_set_int _ _ _ _ (by have := Hll.out; omega)]
      by_cases e : j = k
      · subst e; rw [if_pos rfl, HX.out]
      · rw [if_neg e]; exact Hag.out j (by omega)
    · obtain rfl : k = xs.length := by omega
      have e : l = xs.map Prod.snd := ints_ext (by simpa using Hll.out) (fun j hj => by rw [vsOf_getD]; exact Hag.out j (by have := Hll.out; omega))
      subst e
      go_wp2_with fail
      go_ret
      exact ⟨_, rfl, by simpa using hown, hb1⟩


/-- two lists of numbers, each its own -/
def SplitPost (ts vs : List Int) (w : World) (e : Ending) (w' : World) : Prop :=
  ∃ v u, e = .returned (.tuple #[v, u]) ∧ w'.ownsRow w.heap.size 2 1 v ts.length (ints ts) ∧ w'.ownsRow w.heap.size 2 1 u vs.length (ints vs) ∧ Below w.heap.size w w'
theorem own_kept {w1 w2 : World} {B g b : Nat} {e : TypeId} {size c : Nat} {n : Nat} {xs : List Value} (h : w1.ownsRow B e size (.slice (some ⟨b, 0, none⟩) n c) n xs) (k : w1.grownBy w2 (some g)) (hg : b ≠ g) : w2.ownsRow B e size (.slice (some ⟨b, 0, none⟩) n c) n xs := by
  obtain ⟨h1, h2⟩ := h
  refine ⟨h1, ?_⟩
  rcases h2 with ⟨h2, _⟩ | ⟨b', cap, cur, he, hb, hh, rest⟩
  · cases h2
  · injection he with he1 he2 he3
    injection he1 with he1
    injection he1 with he1
    subst he1
    exact .inr ⟨b, cap, cur, by rw [he3], hb, (k.block b (Array.getElem?_eq_some_iff.1 hh).1 (by intro h; injection h with h; exact hg h)).trans hh, rest⟩
theorem own_lt {w1 : World} {B b : Nat} {e : TypeId} {size c : Nat} {n : Nat} {xs : List Value} (h : w1.ownsRow B e size (.slice (some ⟨b, 0, none⟩) n c) n xs) : B ≤ b ∧ b < w1.heap.size := h.lt b rfl
set_option maxRecDepth 100000 in
set_option maxHeartbeats 2000000 in
theorem l5Split_any (v : Value) (xs : List (Int × Int)) (w : World) (h : PL w w.heap.size v xs) :
    Calls Tryd.prog 79 #[v] w (SplitPost (xs.map Prod.fst) (xs.map Prod.snd) w) := by
  obtain ⟨hr, hlen, A, c, rfl, h3⟩ := h
  clear hr
  obtain ⟨i0, hi, hz0, hz1, hz2⟩ := info_parts u_info_i64
  have HG := Lib.hid (tsOf_getD xs)
  have HL := Lib.hid (show (xs.map Prod.fst).length = xs.length by simp)
  have HG2 := Lib.hid (vsOf_getD xs)
  have HL2 := Lib.hid (show (xs.map Prod.snd).length = xs.length by simp)
  generalize xs.map Prod.fst = T at *
  generalize xs.map Prod.snd = V at *
  have o1 : ((w.alloc (.cells #[] 2)).alloc (.cells #[] 2)).ownsRow w.heap.size 2 1 (.slice (some ⟨w.heap.size, 0, none⟩) 0 0) 0 (ints (T.take 0)) := by
    have := (World.ownsRow_made w (base := w.heap.size) (e := 2) (size := 1) #[] 0 (Nat.le_refl _) (by simp [maxLen]) rfl).alloc (.cells #[] 2)
    simpa [ints] using this
  have o2 : ((w.alloc (.cells #[] 2)).alloc (.cells #[] 2)).ownsRow w.heap.size 2 1 (.slice (some ⟨w.heap.size + 1, 0, none⟩) 0 0) 0 (ints (V.take 0)) := by
    have := World.ownsRow_made (w.alloc (.cells #[] 2)) (base := w.heap.size) (e := 2) (size := 1) #[] 0 (by simp) (by simp [maxLen]) rfl
    simpa [ints] using this
  have hb0 := below2 w (.cells #[] 2) (.cells #[] 2)
  go_enter Tryd.func79, Tryd.ntmps79
  go_wp2_with fail
  go_loopw [4, 5, 6] (fun v u i wr => ∃ k gt ct gv cv : Nat, k ≤ xs.length ∧ i = .int .i64 k ∧ v = .slice (some ⟨gt, 0, none⟩) k ct ∧ u = .slice (some ⟨gv, 0, none⟩) k cv ∧ gt ≠ gv ∧
      wr.ownsRow w.heap.size 2 1 (.slice (some ⟨gt, 0, none⟩) k ct) k (ints (T.take k)) ∧ wr.ownsRow w.heap.size 2 1 (.slice (some ⟨gv, 0, none⟩) k cv) k (ints (V.take k)) ∧ Below w.heap.size w wr)
    (fun _ _ i _ => xs.length - (intOf i).toNat)
  case atStart => exact ⟨0, w.heap.size, 0, w.heap.size + 1, 0, Nat.zero_le _, rfl, rfl, rfl, by omega, o1, o2, hb0⟩
  case round =>
    clear o1 o2 hb0
    obtain ⟨k, gt, ct, gv, cv, hk, rfl, rfl, rfl, hne, ot, ov, hb⟩ := hrel
    have hsz := hb.size
    by_cases hlt : k < xs.length
    · rcases h3 with h3 | ⟨b, off, rfl, hbl, hc⟩
      · subst h3; simp at hlt
      have hx0 : wr.cell? ⟨b, off + k * 2, none⟩ = some (.int .i64 (xs.getD k (0, 0)).1) := (hb.cell (p := ⟨b, off + k * 2, none⟩) hbl).trans (hc k hlt).1
      have hx1 : wr.cell? ⟨b, off + k * 2 + 1, none⟩ = some (.int .i64 (xs.getD k (0, 0)).2) := (hb.cell (p := ⟨b, off + k * 2 + 1, none⟩) hbl).trans (hc k hlt).2
      obtain ⟨x, y, hX⟩ : ∃ x y, xs.getD k (0, 0) = (x, y) := ⟨_, _, rfl⟩
      rw [hX] at hx0 hx1
      have HX := Lib.hid (take_succ_int (T := T) (k := k) (x := x) (by have := HL.out; omega) (by rw [HG.out, hX]))
      have HY := Lib.hid (take_succ_int (T := V) (k := k) (x := y) (by have := HL2.out; omega) (by rw [HG2.out, hX]))
      clear hX hc
      have HOT := Lib.hid (ot.alloc (.cells #[.int .i64 x] 2))
      have HOV := Lib.hid (ov.alloc (.cells #[.int .i64 x] 2))
      have HBA := Lib.hid (hb.alloc hsz (.cells #[.int .i64 x] 2))
      have hgt := (own_lt ot).2
      have hgv := (own_lt ov).2
      have hgt0 := (own_lt ot).1
      have hgv0 := (own_lt ov).1
      clear ot ov hb
      go_wp2_with (at_builtin; refine wpList_append_lies _ rfl _ _ 94 rfl w.heap.size 2 i0 (.int .i64 0) 1 8 Tryd.underlying94 hi hz0 hz1 hz2 rfl (by decide) _ _ _ rfl HOT.out ⟨wr.heap.size, 0, none⟩ 1 1 [.int .i64 x] rfl rfl ?c1 ?c2 (by decide) ?c3 ?c4 ?c5 (wr.heap.size + 1) ?c6 ?_)
      try (case c1 => first | exact cell_one_new _ _ _ | exact fun j u h => h)
      case c2 => first | rfl | (intro q hq; simp at hq; subst hq; rfl)
      case c3 => unfold maxLen; omega
      case c4 => omega
      case c5 => first | omega | (simp; omega)
      try (case c6 => simp)
      intro g1 cap1 w4 hown' hgrow hl1 hlt1
      have hg1 : g1 ≠ gv := by
        rcases hl1 with h | h
        · have h : gt = g1 := by simpa [Value.ownBlock] using h
          omega
        · omega
      have hg1b : w.heap.size ≤ g1 := (own_lt hown').1
      have ot4 : w4.ownsRow w.heap.size 2 1 (.slice (some ⟨g1, 0, none⟩) (k + 1) cap1) (k + 1) (ints (T.take (k + 1))) := by rw [HX.out, ints_append]; exact hown'
      have ov4 := own_kept HOV.out hgrow (fun h => hne h.symm)
      have hb4 : Below w.heap.size w w4 := HBA.out.grown hgrow (by simp; omega) (fun g hg => (HOT.out.lt g hg).1)
      have hx1' : w4.cell? ⟨b, off + k * 2 + 1, none⟩ = some (.int .i64 y) := (hgrow.cell_far ⟨b, off + k * 2 + 1, none⟩ (by simp; omega) (fun h => by (have h : b = gt := by simpa [Value.ownBlock] using h); omega)).trans ((World.cell?_alloc_lt wr _ ⟨b, off + k * 2 + 1, none⟩ (show b < wr.heap.size by omega)).trans hx1)
      clear hown' hgrow HBA HOT HOV hx0 hx1
      have HOT := Lib.hid (ot4.alloc (.cells #[.int .i64 y] 2))
      have HOV := Lib.hid (ov4.alloc (.cells #[.int .i64 y] 2))
      have hsz4 := hb4.size
      have HBA := Lib.hid (hb4.alloc hsz4 (.cells #[.int .i64 y] 2))
      have hgv4 := (own_lt ov4).2
      clear ot4 ov4 hb4
      go_wp2_with (at_builtin; refine wpList_append_lies _ rfl _ _ 94 rfl w.heap.size 2 i0 (.int .i64 0) 1 8 Tryd.underlying94 hi hz0 hz1 hz2 rfl (by decide) _ _ _ rfl HOV.out ⟨w4.heap.size, 0, none⟩ 1 1 [.int .i64 y] rfl rfl ?d1 ?d2 (by decide) ?d3 ?d4 ?d5 (w4.heap.size + 1) ?d6 ?_)
      try (case d1 => first | exact cell_one_new _ _ _ | exact fun j u h => h)
      case d2 => first | rfl | (intro q hq; simp at hq; subst hq; rfl)
      case d3 => unfold maxLen; omega
      case d4 => omega
      case d5 => first | omega | (simp; omega)
      try (case d6 => simp)
      intro g2 cap2 w5 hown' hgrow hl2 hlt2
      have hg2 : g1 ≠ g2 := by
        rcases hl2 with h | h
        · have h : gv = g2 := by simpa [Value.ownBlock] using h
          omega
        · omega
      have ov5 : w5.ownsRow w.heap.size 2 1 (.slice (some ⟨g2, 0, none⟩) (k + 1) cap2) (k + 1) (ints (V.take (k + 1))) := by rw [HY.out, ints_append]; exact hown'
      have ot5 := own_kept HOT.out hgrow hg1
      have hb5 : Below w.heap.size w w5 := HBA.out.grown hgrow (by simp; omega) (fun g hg => (HOV.out.lt g hg).1)
      clear hown' hgrow HBA HOT HOV
      go_wp2_with fail
      go_roundw
      case rel => exact ⟨k + 1, g1, cap1, g2, cap2, by omega, by go_num, rfl, rfl, hg2, ot5, ov5, hb5⟩
      case measure => simp [intOf]; omega
    · obtain rfl : k = xs.length := by omega
      rw [← HL.out, List.take_length, HL.out] at ot
      rw [← HL2.out, List.take_length, HL2.out] at ov
      go_wp2_with fail
      go_ret2
      exact ⟨_, _, rfl, by rw [HL.out]; exact ot, by rw [HL2.out]; exact ov, hb⟩
end Go.Proofs.YtanoohfhifhhaaaDoor
