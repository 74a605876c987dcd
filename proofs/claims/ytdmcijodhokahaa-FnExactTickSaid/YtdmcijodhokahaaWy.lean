/- Walks: what is too old: the closures of advance. -/
import Derived.Test.YtdmcijodhokahaaWx
import Derived.Test.YtdmcijodhokahaaPk
set_option linter.unusedVariables false
set_option linter.unusedSimpArgs false
namespace Go.Proofs.Ytdmcijodhokahaa
open Go.RowKit

set_option maxRecDepth 100000 in
set_option maxHeartbeats 2000000 in
theorem adv1_any (bn bc cb : Nat) (nw kp x y : Int) (w : World) (h0 : w.cell? ⟨bn, 0, none⟩ = some (.int .i64 nw)) (h1 : w.cell? ⟨bc, 0, none⟩ = some (.pointer (some ⟨cb, 0, none⟩))) (h2 : w.cell? ⟨cb, 1, none⟩ = some (.int .i64 kp))
    (hn : 0 ≤ nw ∧ nw ≤ 1000000000000) (hk : 0 ≤ kp ∧ kp ≤ 1000000000) :
    Calls Try.prog 104 #[.agg #[.int .i64 x, .int .i64 y], .pointer (some ⟨bn, 0, none⟩), .pointer (some ⟨bc, 0, none⟩)] w fun e w' => e = .returned (.bool (!decide (nw - kp < x))) ∧ Below w.heap.size w w' := by
  have eX : IntKind.i64.wrap (nw - kp) = nw - kp := IntWalk.i64_in _ (by omega)
  have HR := Lib.hid (fun W => recent_any x nw kp W eX)
  clear eX
  have hb0 : bn < w.heap.size := World.block_lt_of_cell? w _ h0
  have hb1 : bc < w.heap.size := World.block_lt_of_cell? w _ h1
  have hb2 : cb < w.heap.size := World.block_lt_of_cell? w _ h2
  obtain ⟨wb, hwb⟩ : ∃ wb, w.alloc (.cells #[.int .i64 x, .int .i64 y] 47) = wb := ⟨_, rfl⟩
  have HB := Lib.hid (show Below w.heap.size w wb from by rw [← hwb]; exact (Below.refl _ _).alloc (Nat.le_refl _) _)
  have BX : BoxN wb w.heap.size #[.int .i64 x, .int .i64 y] 47 := by rw [← hwb]; exact World.alloc_heap_new w _
  have k0 := (HB.out.cell (p := ⟨bn, 0, none⟩) hb0).trans h0
  have k1 := (HB.out.cell (p := ⟨bc, 0, none⟩) hb1).trans h1
  have k2 := (HB.out.cell (p := ⟨cb, 1, none⟩) hb2).trans h2
  have y0 := BX.cell (i := 0) rfl
  have HW := Lib.hid hwb
  clear hwb BX h0 h1 h2
  go_enter Try.func104, Try.ntmps104
  go_wp2_with fail
  rw [HW.out]
  go_region_law (go_simp; go_at_call 81; refine (HR.out _).mono ?_; rintro e w5 ⟨rfl, rfl⟩)
  all_goals
    go_simp
    go_wp2_with fail
    go_ret
    exact ⟨rfl, by first | exact HB.out.drew | exact HB.out | exact below_drewN_u HB.out _⟩
/-- the closure's captures: the box of the time, the box of the pointer to the cascade, whose second cell is what it keeps for -/
structure AdvF (bn bc cb : Nat) (nw kp : Int) (g : Nat) (W : World) : Prop where
  now : W.cell? ⟨bn, 0, none⟩ = some (.int .i64 nw)
  ptr : W.cell? ⟨bc, 0, none⟩ = some (.pointer (some ⟨cb, 0, none⟩))
  keep : W.cell? ⟨cb, 1, none⟩ = some (.int .i64 kp)
  apart : bn ≠ g ∧ bc ≠ g ∧ cb ≠ g
theorem advP_pred (bn bc cb g : Nat) (nw kp : Int) (xs : List (Int × Int)) (hn : 0 ≤ nw ∧ nw ≤ 1000000000000) (hk : 0 ≤ kp ∧ kp ≤ 1000000000) :
    PredPt (.pointer (some ⟨bn, 0, none⟩)) (.pointer (some ⟨bc, 0, none⟩)) (fun p => !decide (nw - kp < p.1)) g (AdvF bn bc cb nw kp g) xs := by
  refine ⟨fun W W' h hg => ⟨?_, ?_, ?_, h.apart⟩, fun p _ W h => adv1_any bn bc cb nw kp p.1 p.2 W h.now h.ptr h.keep hn hk⟩
  · exact hg.cell h.now (fun e => by injection e with e; exact h.apart.1 e)
  · exact hg.cell h.ptr (fun e => by injection e with e; exact h.apart.2.1 e)
  · exact hg.cell h.keep (fun e => by injection e with e; exact h.apart.2.2 e)
theorem filter_old (nw kp : Int) (xs : List (Int × Int)) : xs.filter (fun p => !!decide (nw - kp < p.1)) = xs.filter (fun p => decide (nw - kp < p.1)) := by
  congr 1; funext p; simp

set_option maxRecDepth 100000 in
set_option maxHeartbeats 2000000 in
theorem adv2_any (bl bn b o : Nat) (W K nw : Int) (r : R6) (x : Lv) (w : World) (hx : x.1 = W) (hk : x.2.1 = K) (hT : r.1 ≤ nw) (hW : 1 ≤ W ∧ W ≤ 1000000) (hn : 0 ≤ nw ∧ nw ≤ 1000000000000) (hT0 : 0 ≤ r.1) (hK : 0 ≤ K ∧ K ≤ 1000000000)
    (h0 : w.cell? ⟨bl, 0, none⟩ = some (.pointer (some ⟨b, o, none⟩))) (h1 : w.cell? ⟨bn, 0, none⟩ = some (.int .i64 nw)) (c0 : w.cell? ⟨b, o, none⟩ = some (.int .i64 W)) (c1 : w.cell? ⟨b, o + 1, none⟩ = some (.int .i64 K)) :
    Calls Try.prog 106 #[.agg #[.int .i64 r.1, .int .i64 r.2.1, .int .i64 r.2.2.1, .int .i64 r.2.2.2.1, .int .i64 r.2.2.2.2.1, .int .i64 r.2.2.2.2.2], .pointer (some ⟨bl, 0, none⟩), .pointer (some ⟨bn, 0, none⟩)] w fun e w' => e = .returned (.bool (!rolAt nw x r)) ∧ Below w.heap.size w w' := by
  have hb0 : bl < w.heap.size := World.block_lt_of_cell? w _ h0
  have hb1 : bn < w.heap.size := World.block_lt_of_cell? w _ h1
  have hb : b < w.heap.size := World.block_lt_of_cell? w _ c0
  have hRt := Lib.hid (fun W' h1 h2 h3 => retains_any b o W K nw r x W' hx hk hT hW hn hT0 hK h1 h2 h3)
  obtain ⟨t, r1, r2, r3, r4, r5⟩ := r
  simp only at hRt hT hT0 ⊢
  obtain ⟨wb, hwb⟩ : ∃ wb, w.alloc (.cells #[.int .i64 t, .int .i64 r1, .int .i64 r2, .int .i64 r3, .int .i64 r4, .int .i64 r5] 56) = wb := ⟨_, rfl⟩
  have HB := Lib.hid (show Below w.heap.size w wb from by rw [← hwb]; exact (Below.refl _ _).alloc (Nat.le_refl _) _)
  have BX : BoxN wb w.heap.size #[.int .i64 t, .int .i64 r1, .int .i64 r2, .int .i64 r3, .int .i64 r4, .int .i64 r5] 56 := by rw [← hwb]; exact World.alloc_heap_new w _
  have k0 := (HB.out.cell (p := ⟨bl, 0, none⟩) hb0).trans h0
  have k1 := (HB.out.cell (p := ⟨bn, 0, none⟩) hb1).trans h1
  have d0 := (HB.out.cell (p := ⟨b, o, none⟩) hb).trans c0
  have d1 := (HB.out.cell (p := ⟨b, o + 1, none⟩) hb).trans c1
  have hcal := Lib.hid (hRt.out wb (Nat.lt_of_lt_of_le hb HB.out.size) d0 d1)
  have y0 := BX.cell (i := 0) rfl
  have y1 := BX.cell (i := 1) rfl
  have y2 := BX.cell (i := 2) rfl
  have y3 := BX.cell (i := 3) rfl
  have y4 := BX.cell (i := 4) rfl
  have y5 := BX.cell (i := 5) rfl
  have HW := Lib.hid hwb
  rw [← hwb] at k0 k1
  clear hwb BX h0 h1 c0 c1 d0 d1
  generalize rolAt nw x (t, r1, r2, r3, r4, r5) = bb at hcal
  go_enter Try.func106, Try.ntmps106
  go_wp2_with fail
  rw [HW.out]
  refine hcal.out.mono ?_
  rintro e w3 ⟨rfl, hb3⟩
  have HB3 := Lib.hid (HB.out.trans (hb3.mono HB.out.size))
  clear hb3
  go_wp2_with fail
  go_ret
  exact ⟨rfl, HB3.out⟩
end Go.Proofs.Ytdmcijodhokahaa
