/- Walks: the model's code of a step. -/
import Derived.Test.YtanoohfhifhhaaaDoorWk
import Derived.Test.YtanoohfhifhhaaaDoorWc
import Derived.Deep.RegionLaw
import Derived.Deep.AppendLies
import Derived.Lib.SmallJoins
import Derived.Test.YtanoohfhifhhaaaDoorUi
import Derived.Test.YtanoohfhifhhaaaDoorWn
set_option linter.unusedVariables false
set_option linter.unusedSimpArgs false
namespace Go.Proofs.YtanoohfhifhhaaaDoor
open Go.RowKit

/-- the bits of a step -/
def codeL (d : Int) : List Bool :=
  if d = 0 then [false]
  else if -63 ≤ d ∧ d ≤ 64 then [true, false] ++ BM.digits (u64of (d + 63)) 7
  else if -255 ≤ d ∧ d ≤ 256 then [true, true, false] ++ BM.digits (u64of (d + 255)) 9
  else if -2047 ≤ d ∧ d ≤ 2048 then [true, true, true, false] ++ BM.digits (u64of (d + 2047)) 12
  else [true, true, true, true] ++ BM.digits (u64of (d + 2199023255552)) 42
theorem codeL_le (d : Int) : (codeL d).length ≤ 46 := by
  unfold codeL; repeat' split
  all_goals simp [BM.digits_length]
theorem codeL_pos (d : Int) : 0 < (codeL d).length := by
  unfold codeL; repeat' split
  all_goals simp [BM.digits_length]
theorem bitInts_oneCell (l : List Bool) : ∀ u ∈ bitInts l, u.oneCell' = true := by
  intro u hu; unfold bitInts at hu; rw [List.mem_map] at hu; obtain ⟨b, _, rfl⟩ := hu; rfl
theorem own_lit_i64 (w : World) (l : List Bool) (hl : l.length ≤ 100) (base : Nat) (hb : base ≤ w.heap.size) :
    (w.alloc (.cells (bitInts l).toArray 2)).ownsRow base 2 1 (.slice (some ⟨w.heap.size, 0, none⟩) l.length l.length) l.length (bitInts l) := by
  have h := World.ownsRow_lit w (base := base) (e := 2) (size := 1) (bitInts l).toArray l.length hb (by unfold maxLen; omega) (by simp [bitInts])
  exact h

/-- two rows put one behind the other -/
theorem join_rows {w w2 w3 : World} {base k m : Nat} {xs ys : List Bool} {v : Value} {g : Nat} {c : Nat} {L : List Bool}
    (hL : xs ++ ys = L) (hk : xs.length = k) (hm : ys.length = m) (hown : w3.ownsRow base 2 1 v (k + m) (bitInts xs ++ bitInts ys)) :
    w3.ownsRow base 2 1 v L.length (bitInts L) := by
  subst hL hk hm
  rw [List.length_append, ← bitInts_append]; exact hown

set_option maxRecDepth 100000 in
set_option maxHeartbeats 1000000 in
theorem l3Code_0 (w : World) : Calls Tryd.prog 105 #[.int .i64 0] w (ListPost w.heap.size [false] w) := by
  go_enter Tryd.func105, Tryd.ntmps105
  go_wp2_with fail
  go_ret
  exact ⟨_, rfl, own_lit_i64 w [false] (by simp) _ (Nat.le_refl _), (Below.refl _ _).alloc (Nat.le_refl _) _, by simp⟩

set_option maxRecDepth 100000 in
set_option maxHeartbeats 1000000 in
theorem l3Code_1 (d : Int) (w : World) (hz : d ≠ 0) (h0 : (-63 ≤ d ∧ d ≤ 64)) (hr0 : -1000000000000 ≤ d) (hr1 : d ≤ 1000000000000) (L : List Bool) (hL : Hid ([true, false] ++ BM.digits (u64of (d + 63)) 7 = L)) : Calls Tryd.prog 105 #[.int .i64 d] w (ListPost w.heap.size L w) := by
  have H := Lib.hid (fun W => l1Digits_any (d + 63) 7 W (by omega))
  obtain ⟨i0, hi, hz0, hz1, hz2⟩ := info_parts info_i64
  have Hin0 := fun W => v_l1In_q d (-63) 64 W
  rw [vIn_true h0.1 h0.2] at Hin0
  have HIn0 := Lib.hid Hin0
  have hd : (d == 0) = false := by simpa using hz
  have hw : wrap64 (d + 63) = d + 63 := by unfold wrap64; omega
  clear hz Hin0
  go_enter Tryd.func105, Tryd.ntmps105
  go_wp2_with fail
  refine (HIn0.out _).mono ?_
  rintro e w ⟨rfl, rfl⟩
  go_wp2_with fail
  refine (H.out _).mono ?_
  rintro e w5 ⟨v, rfl, hown, hb, -⟩
  have hlitA := own_lit_i64 w [true, false] (by simp) w.heap.size (Nat.le_refl _)
  have hlit := u_own_below hlitA hb
  have hbA := ((Below.refl w.heap.size w).alloc (Nat.le_refl _) (.cells (bitInts [true, false]).toArray 2)).trans (hb.mono (by simp))
  have hsz : w.heap.size ≤ w5.heap.size := hbA.size
  rw [BM.digits_length] at hown
  obtain ⟨gB, cB, rfl⟩ := Go.Joins.ownsRow_form hown (by omega)
  have hcells : ∀ j u, (bitInts (BM.digits (u64of (d + 63)) 7))[j]? = some u → w5.cell? ((⟨gB, 0, none⟩ : Addr).add j) = some u := hown.cells rfl
  have hln : (bitInts (BM.digits (u64of (d + 63)) 7)).length = 7 * 1 := by rw [bitInts_length, BM.digits_length]
  have hone := bitInts_oneCell (BM.digits (u64of (d + 63)) 7)
  have hdl := BM.digits_length (u64of (d + 63)) 7
  clear hlitA hb
  have hL' := hL
  clear hL
  generalize BM.digits (u64of (d + 63)) 7 = D at *
  have Hcells := Lib.hid hcells
  have Hone := Lib.hid hone
  have Hln := Lib.hid hln
  have Hdl := Lib.hid hdl
  clear hcells hone hln hdl
  go_wp2_with (at_builtin; refine wpList_append_own _ rfl _ _ 94 rfl w.heap.size 2 i0 (.int .i64 0) 1 8 Tryd.underlying94 hi hz0 hz1 hz2 rfl (by decide) _ _ _ rfl hlit ⟨gB, 0, none⟩ 7 cB (bitInts D) rfl Hln.out Hcells.out Hone.out ?c3 ?c4 ?c5 ?_)
  case c3 => unfold maxLen; simp
  case c4 => simp
  case c5 => exact hsz
  intro v' w6 hown' hgrow hnn
  have hown2 := join_rows (w := w) (w2 := w) (g := 0) (c := 0) hL'.out (by simp) Hdl.out hown'
  have Hnn : Hid (v' ≠ .slice none 0 0) := by first | exact hnn | exact fun h => by have := (hnn.1 h).2; simp at this
  have hb6 : Below w.heap.size w w6 := hbA.grown hgrow hsz (fun k hk => (hlit.lt _ hk).1)
  clear hnn hown' hgrow
  go_wp2_with fail
  go_ret
  exact ⟨_, rfl, hown2, hb6, Hnn.out⟩

set_option maxRecDepth 100000 in
set_option maxHeartbeats 1000000 in
theorem l3Code_2 (d : Int) (w : World) (hz : d ≠ 0) (h0 : ¬ (-63 ≤ d ∧ d ≤ 64)) (h1 : (-255 ≤ d ∧ d ≤ 256)) (hr0 : -1000000000000 ≤ d) (hr1 : d ≤ 1000000000000) (L : List Bool) (hL : Hid ([true, true, false] ++ BM.digits (u64of (d + 255)) 9 = L)) : Calls Tryd.prog 105 #[.int .i64 d] w (ListPost w.heap.size L w) := by
  have H := Lib.hid (fun W => l1Digits_any (d + 255) 9 W (by omega))
  obtain ⟨i0, hi, hz0, hz1, hz2⟩ := info_parts info_i64
  have Hin0 := fun W => v_l1In_q d (-63) 64 W
  rw [vIn_false h0] at Hin0
  have HIn0 := Lib.hid Hin0
  have Hin1 := fun W => v_l1In_q d (-255) 256 W
  rw [vIn_true h1.1 h1.2] at Hin1
  have HIn1 := Lib.hid Hin1
  have hd : (d == 0) = false := by simpa using hz
  have hw : wrap64 (d + 255) = d + 255 := by unfold wrap64; omega
  clear hz Hin0 Hin1
  go_enter Tryd.func105, Tryd.ntmps105
  go_wp2_with fail
  refine (HIn0.out _).mono ?_
  rintro e w ⟨rfl, rfl⟩
  go_wp2_with fail
  refine (HIn1.out _).mono ?_
  rintro e w ⟨rfl, rfl⟩
  go_wp2_with fail
  refine (H.out _).mono ?_
  rintro e w5 ⟨v, rfl, hown, hb, -⟩
  have hlitA := own_lit_i64 w [true, true, false] (by simp) w.heap.size (Nat.le_refl _)
  have hlit := u_own_below hlitA hb
  have hbA := ((Below.refl w.heap.size w).alloc (Nat.le_refl _) (.cells (bitInts [true, true, false]).toArray 2)).trans (hb.mono (by simp))
  have hsz : w.heap.size ≤ w5.heap.size := hbA.size
  rw [BM.digits_length] at hown
  obtain ⟨gB, cB, rfl⟩ := Go.Joins.ownsRow_form hown (by omega)
  have hcells : ∀ j u, (bitInts (BM.digits (u64of (d + 255)) 9))[j]? = some u → w5.cell? ((⟨gB, 0, none⟩ : Addr).add j) = some u := hown.cells rfl
  have hln : (bitInts (BM.digits (u64of (d + 255)) 9)).length = 9 * 1 := by rw [bitInts_length, BM.digits_length]
  have hone := bitInts_oneCell (BM.digits (u64of (d + 255)) 9)
  have hdl := BM.digits_length (u64of (d + 255)) 9
  clear hlitA hb
  have hL' := hL
  clear hL
  generalize BM.digits (u64of (d + 255)) 9 = D at *
  have Hcells := Lib.hid hcells
  have Hone := Lib.hid hone
  have Hln := Lib.hid hln
  have Hdl := Lib.hid hdl
  clear hcells hone hln hdl
  go_wp2_with (at_builtin; refine wpList_append_own _ rfl _ _ 94 rfl w.heap.size 2 i0 (.int .i64 0) 1 8 Tryd.underlying94 hi hz0 hz1 hz2 rfl (by decide) _ _ _ rfl hlit ⟨gB, 0, none⟩ 9 cB (bitInts D) rfl Hln.out Hcells.out Hone.out ?c3 ?c4 ?c5 ?_)
  case c3 => unfold maxLen; simp
  case c4 => simp
  case c5 => exact hsz
  intro v' w6 hown' hgrow hnn
  have hown2 := join_rows (w := w) (w2 := w) (g := 0) (c := 0) hL'.out (by simp) Hdl.out hown'
  have Hnn : Hid (v' ≠ .slice none 0 0) := by first | exact hnn | exact fun h => by have := (hnn.1 h).2; simp at this
  have hb6 : Below w.heap.size w w6 := hbA.grown hgrow hsz (fun k hk => (hlit.lt _ hk).1)
  clear hnn hown' hgrow
  go_wp2_with fail
  go_ret
  exact ⟨_, rfl, hown2, hb6, Hnn.out⟩

set_option maxRecDepth 100000 in
set_option maxHeartbeats 1000000 in
theorem l3Code_3 (d : Int) (w : World) (hz : d ≠ 0) (h0 : ¬ (-63 ≤ d ∧ d ≤ 64)) (h1 : ¬ (-255 ≤ d ∧ d ≤ 256)) (h2 : (-2047 ≤ d ∧ d ≤ 2048)) (hr0 : -1000000000000 ≤ d) (hr1 : d ≤ 1000000000000) (L : List Bool) (hL : Hid ([true, true, true, false] ++ BM.digits (u64of (d + 2047)) 12 = L)) : Calls Tryd.prog 105 #[.int .i64 d] w (ListPost w.heap.size L w) := by
  have H := Lib.hid (fun W => l1Digits_any (d + 2047) 12 W (by omega))
  obtain ⟨i0, hi, hz0, hz1, hz2⟩ := info_parts info_i64
  have Hin0 := fun W => v_l1In_q d (-63) 64 W
  rw [vIn_false h0] at Hin0
  have HIn0 := Lib.hid Hin0
  have Hin1 := fun W => v_l1In_q d (-255) 256 W
  rw [vIn_false h1] at Hin1
  have HIn1 := Lib.hid Hin1
  have Hin2 := fun W => v_l1In_q d (-2047) 2048 W
  rw [vIn_true h2.1 h2.2] at Hin2
  have HIn2 := Lib.hid Hin2
  have hd : (d == 0) = false := by simpa using hz
  have hw : wrap64 (d + 2047) = d + 2047 := by unfold wrap64; omega
  clear hz Hin0 Hin1 Hin2
  go_enter Tryd.func105, Tryd.ntmps105
  go_wp2_with fail
  refine (HIn0.out _).mono ?_
  rintro e w ⟨rfl, rfl⟩
  go_wp2_with fail
  refine (HIn1.out _).mono ?_
  rintro e w ⟨rfl, rfl⟩
  go_wp2_with fail
  refine (HIn2.out _).mono ?_
  rintro e w ⟨rfl, rfl⟩
  go_wp2_with fail
  refine (H.out _).mono ?_
  rintro e w5 ⟨v, rfl, hown, hb, -⟩
  have hlitA := own_lit_i64 w [true, true, true, false] (by simp) w.heap.size (Nat.le_refl _)
  have hlit := u_own_below hlitA hb
  have hbA := ((Below.refl w.heap.size w).alloc (Nat.le_refl _) (.cells (bitInts [true, true, true, false]).toArray 2)).trans (hb.mono (by simp))
  have hsz : w.heap.size ≤ w5.heap.size := hbA.size
  rw [BM.digits_length] at hown
  obtain ⟨gB, cB, rfl⟩ := Go.Joins.ownsRow_form hown (by omega)
  have hcells : ∀ j u, (bitInts (BM.digits (u64of (d + 2047)) 12))[j]? = some u → w5.cell? ((⟨gB, 0, none⟩ : Addr).add j) = some u := hown.cells rfl
  have hln : (bitInts (BM.digits (u64of (d + 2047)) 12)).length = 12 * 1 := by rw [bitInts_length, BM.digits_length]
  have hone := bitInts_oneCell (BM.digits (u64of (d + 2047)) 12)
  have hdl := BM.digits_length (u64of (d + 2047)) 12
  clear hlitA hb
  have hL' := hL
  clear hL
  generalize BM.digits (u64of (d + 2047)) 12 = D at *
  have Hcells := Lib.hid hcells
  have Hone := Lib.hid hone
  have Hln := Lib.hid hln
  have Hdl := Lib.hid hdl
  clear hcells hone hln hdl
  go_wp2_with (at_builtin; refine wpList_append_own _ rfl _ _ 94 rfl w.heap.size 2 i0 (.int .i64 0) 1 8 Tryd.underlying94 hi hz0 hz1 hz2 rfl (by decide) _ _ _ rfl hlit ⟨gB, 0, none⟩ 12 cB (bitInts D) rfl Hln.out Hcells.out Hone.out ?c3 ?c4 ?c5 ?_)
  case c3 => unfold maxLen; simp
  case c4 => simp
  case c5 => exact hsz
  intro v' w6 hown' hgrow hnn
  have hown2 := join_rows (w := w) (w2 := w) (g := 0) (c := 0) hL'.out (by simp) Hdl.out hown'
  have Hnn : Hid (v' ≠ .slice none 0 0) := by first | exact hnn | exact fun h => by have := (hnn.1 h).2; simp at this
  have hb6 : Below w.heap.size w w6 := hbA.grown hgrow hsz (fun k hk => (hlit.lt _ hk).1)
  clear hnn hown' hgrow
  go_wp2_with fail
  go_ret
  exact ⟨_, rfl, hown2, hb6, Hnn.out⟩

set_option maxRecDepth 100000 in
set_option maxHeartbeats 1000000 in
theorem l3Code_4 (d : Int) (w : World) (hz : d ≠ 0) (h0 : ¬ (-63 ≤ d ∧ d ≤ 64)) (h1 : ¬ (-255 ≤ d ∧ d ≤ 256)) (h2 : ¬ (-2047 ≤ d ∧ d ≤ 2048)) (hr0 : -1000000000000 ≤ d) (hr1 : d ≤ 1000000000000) (L : List Bool) (hL : Hid ([true, true, true, true] ++ BM.digits (u64of (d + 2199023255552)) 42 = L)) : Calls Tryd.prog 105 #[.int .i64 d] w (ListPost w.heap.size L w) := by
  have H := Lib.hid (fun W => l1Digits_any (d + 2199023255552) 42 W (by omega))
  obtain ⟨i0, hi, hz0, hz1, hz2⟩ := info_parts info_i64
  have Hin0 := fun W => v_l1In_q d (-63) 64 W
  rw [vIn_false h0] at Hin0
  have HIn0 := Lib.hid Hin0
  have Hin1 := fun W => v_l1In_q d (-255) 256 W
  rw [vIn_false h1] at Hin1
  have HIn1 := Lib.hid Hin1
  have Hin2 := fun W => v_l1In_q d (-2047) 2048 W
  rw [vIn_false h2] at Hin2
  have HIn2 := Lib.hid Hin2
  have hd : (d == 0) = false := by simpa using hz
  have hw : wrap64 (d + 2199023255552) = d + 2199023255552 := by unfold wrap64; omega
  clear hz Hin0 Hin1 Hin2
  go_enter Tryd.func105, Tryd.ntmps105
  go_wp2_with fail
  refine (HIn0.out _).mono ?_
  rintro e w ⟨rfl, rfl⟩
  go_wp2_with fail
  refine (HIn1.out _).mono ?_
  rintro e w ⟨rfl, rfl⟩
  go_wp2_with fail
  refine (HIn2.out _).mono ?_
  rintro e w ⟨rfl, rfl⟩
  go_wp2_with fail
  refine (H.out _).mono ?_
  rintro e w5 ⟨v, rfl, hown, hb, -⟩
  have hlitA := own_lit_i64 w [true, true, true, true] (by simp) w.heap.size (Nat.le_refl _)
  have hlit := u_own_below hlitA hb
  have hbA := ((Below.refl w.heap.size w).alloc (Nat.le_refl _) (.cells (bitInts [true, true, true, true]).toArray 2)).trans (hb.mono (by simp))
  have hsz : w.heap.size ≤ w5.heap.size := hbA.size
  rw [BM.digits_length] at hown
  obtain ⟨gB, cB, rfl⟩ := Go.Joins.ownsRow_form hown (by omega)
  have hcells : ∀ j u, (bitInts (BM.digits (u64of (d + 2199023255552)) 42))[j]? = some u → w5.cell? ((⟨gB, 0, none⟩ : Addr).add j) = some u := hown.cells rfl
  have hln : (bitInts (BM.digits (u64of (d + 2199023255552)) 42)).length = 42 * 1 := by rw [bitInts_length, BM.digits_length]
  have hone := bitInts_oneCell (BM.digits (u64of (d + 2199023255552)) 42)
  have hdl := BM.digits_length (u64of (d + 2199023255552)) 42
  clear hlitA hb
  have hL' := hL
  clear hL
  generalize BM.digits (u64of (d + 2199023255552)) 42 = D at *
  have Hcells := Lib.hid hcells
  have Hone := Lib.hid hone
  have Hln := Lib.hid hln
  have Hdl := Lib.hid hdl
  clear hcells hone hln hdl
  go_wp2_with (at_builtin; refine wpList_append_own _ rfl _ _ 94 rfl w.heap.size 2 i0 (.int .i64 0) 1 8 Tryd.underlying94 hi hz0 hz1 hz2 rfl (by decide) _ _ _ rfl hlit ⟨gB, 0, none⟩ 42 cB (bitInts D) rfl Hln.out Hcells.out Hone.out ?c3 ?c4 ?c5 ?_)
  case c3 => unfold maxLen; simp
  case c4 => simp
  case c5 => exact hsz
  intro v' w6 hown' hgrow hnn
  have hown2 := join_rows (w := w) (w2 := w) (g := 0) (c := 0) hL'.out (by simp) Hdl.out hown'
  have Hnn : Hid (v' ≠ .slice none 0 0) := by first | exact hnn | exact fun h => by have := (hnn.1 h).2; simp at this
  have hb6 : Below w.heap.size w w6 := hbA.grown hgrow hsz (fun k hk => (hlit.lt _ hk).1)
  clear hnn hown' hgrow
  go_wp2_with fail
  go_ret
  exact ⟨_, rfl, hown2, hb6, Hnn.out⟩

theorem l3Code_any (d : Int) (w : World) (hr0 : -1000000000000 ≤ d) (hr1 : d ≤ 1000000000000) :
    Calls Tryd.prog 105 #[.int .i64 d] w (ListPost w.heap.size (codeL d) w) := by
  unfold codeL
  split
  · subst d; exact l3Code_0 w
  · split
    · exact l3Code_1 d w (by assumption) (by assumption) hr0 hr1 _ (Lib.hid rfl)
    · split
      · exact l3Code_2 d w (by assumption) (by assumption) (by assumption) hr0 hr1 _ (Lib.hid rfl)
      · split
        · exact l3Code_3 d w (by assumption) (by assumption) (by assumption) (by assumption) hr0 hr1 _ (Lib.hid rfl)
        · exact l3Code_4 d w (by assumption) (by assumption) (by assumption) (by assumption) hr0 hr1 _ (Lib.hid rfl)

theorem intsAt_own {w : World} {base g c : Nat} {l : List Bool} (h : w.ownsRow base 2 1 (.slice (some ⟨g, 0, none⟩) l.length c) l.length (bitInts l)) : IntsAt w w.heap.size (some ⟨g, 0, none⟩) (bitInts l) :=
  .inr ⟨g, 0, rfl, (h.lt g rfl).2, fun j u hj => by
    have := h.cells rfl j u hj
    simp [Addr.add] at this ⊢
    split at this
    · subst_vars; exact this
    · exact this⟩
set_option maxRecDepth 100000 in
set_option maxHeartbeats 1000000 in
theorem l3Step_any (d : Int) (w : World) :
    Calls Tryd.prog 122 #[.int .i64 d] w fun e w' => e = .returned (.bool (vIn d (-1000000000000) 1000000000000)) ∧ w' = w := by
  go_enter Tryd.func122, Tryd.ntmps122
  go_wp2_with fail
  refine (v_l1In_q _ _ _ _).mono ?_
  rintro e w ⟨rfl, rfl⟩
  go_wp2_with fail
  go_ret
  exact ⟨rfl, rfl⟩

/-- the bits and the length of a step's code; nothing where it is too large -/
def stepB (d : Int) : Bool := vIn d (-1000000000000) 1000000000000
def codeB (d : Int) : List Bool := if stepB d then codeL d else []
theorem codeB_le (d : Int) : (codeB d).length ≤ 46 := by
  unfold codeB; split
  · exact codeL_le d
  · simp
theorem stepB_iff {d : Int} : stepB d = true ↔ -1000000000000 ≤ d ∧ d ≤ 1000000000000 := by
  unfold stepB vIn; simp

end Go.Proofs.YtanoohfhifhhaaaDoor
