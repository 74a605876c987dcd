/- Walks: the law FnExactLineText. -/
import Derived.Test.YthnejknjngekiaaDoorKj
import Derived.Deep.RegionLaw
set_option linter.unusedVariables false
set_option linter.unusedSimpArgs false
namespace Go.Proofs.YthnejknjngekiaaDoor
open Go.RowKit

theorem below_undrewL {w w' : World} {B : Nat} (h : Below B w.drew w') : Below B w w' := ((Below.refl B w).drew).trans h
theorem LL.drewL {w : World} {v : Value} {xs : List (ByteArray × ByteArray)} (h : LL w w.heap.size v xs) : LL w.drew w.drew.heap.size v xs := h
set_option maxRecDepth 100000 in
set_option maxHeartbeats 4000000 in
theorem walkFnExactLineText (A : Option Addr) (n c : Nat) (V T : Int) (w : World) (hn : n ≤ maxLen) (hx : n ≤ 1048576 → ∃ xs : List (ByteArray × ByteArray), xs.length = n ∧ LL w w.heap.size (.slice A n c) xs) (pt : PTab w) :
    Calls Tryd.prog 3 #[.agg #[.slice A n c, .int .i64 V, .int .i64 T]] w fun e w' => e = .returned (.bool true) ∧ Below w.heap.size w w' := by
  obtain ⟨w0, hw0⟩ : ∃ w0, w.alloc (.cells #[.slice A n c, .int .i64 V, .int .i64 T] 24) = w0 := ⟨_, rfl⟩
  have b0 : BoxL w0 w.heap.size #[.slice A n c, .int .i64 V, .int .i64 T] 24 := by rw [← hw0]; exact World.alloc_heap_new w _
  have BB0 := Lib.hid (show Below w.heap.size w w0 from by rw [← hw0]; exact (Below.refl _ _).alloc (Nat.le_refl _) _)
  have S0 := BB0.out.size
  have HS := Lib.hid (szLine_any V T A n c 1048576 w0 hn (by omega) (fun h => by obtain ⟨xs, h1, h2⟩ := hx h; exact ⟨xs, h1, (h2.below BB0.out).up S0⟩))
  have BX0 := Lib.hid b0
  have HW := Lib.hid hw0
  clear hw0
  have x0 := b0.cell (i := 0) rfl
  have x1 := b0.cell (i := 1) rfl
  have x2 := b0.cell (i := 2) rfl
  clear b0
  by_cases hbg : n ≤ 1048576
  case neg =>
    clear hx
    go_enter Tryd.func3, Tryd.ntmps3
    go_wp2_with fail
    rw [HW.out]
    go_wp2_with fail
    refine HS.out.mono ?_
    rintro e w1 ⟨⟨r, rfl, hr⟩, hb1⟩
    rcases hr with rfl | ⟨m, rfl, hm, hn2⟩
    · go_wp2_with fail
      go_ret
      exact ⟨rfl, BB0.out.trans (hb1.mono S0)⟩
    · exact absurd hn2 hbg
  obtain ⟨xs, rfl, hll⟩ := hx hbg
  have I0 := Lib.hid hll
  have RG := Lib.hid hll.1
  have hle := hll.2.1
  have hcp := Lib.hid (fun v W h => toLine_any V T v xs W h)
  have hsp := Lib.hid (fun v W h => specLineText_any V T v xs W h)
  have him := Lib.hid (fun v W h ht => implLineText_any V T v xs W h ht)
  have PT := Lib.hid pt
  clear pt
  have heq := Lib.hid (fun v u W h h' => eqLine_same V T v u xs W h h')
  clear hx hll hbg
  generalize lnText xs V T = RES at *
  all_goals
    go_enter Tryd.func3, Tryd.ntmps3
    go_wp2_with fail
    rw [HW.out]
    go_wp2_with fail
    refine HS.out.mono ?_
    rintro e w1 ⟨⟨r, rfl, hr⟩, hb1⟩
    rcases hr with rfl | ⟨m, rfl, hm, hn2⟩
    · go_wp2_with fail
      go_ret
      exact ⟨rfl, BB0.out.trans (hb1.mono S0)⟩
    have B1 := Lib.hid (BB0.out.trans (hb1.mono S0))
    have S1' := hb1.size
    have S1 : w.heap.size ≤ w1.heap.size := by omega
    have BX1 : Hid (BoxL w1 w.heap.size #[.slice A xs.length c, .int .i64 V, .int .i64 T] 24) := Lib.hid ((hb1.block _ (BoxL.lt BX0.out)).trans BX0.out)
    have I1 := Lib.hid ((I0.out.below B1.out).up S1)
    clear hb1 HS x0 x1 x2
    have x0 := BoxL.cell (i := 0) BX1.out rfl
    have x1 := BoxL.cell (i := 1) BX1.out rfl
    have x2 := BoxL.cell (i := 2) BX1.out rfl
    go_wp2_with fail
    refine (hcp.out _ _ I1.out).mono ?_
    rintro e w2 ⟨v2, rfl, ho2, hb2⟩
    have S2 := hb2.size
    have C2 := Lib.hid (LL.of_own ho2 rfl RG.out hle)
    have I2 := Lib.hid ((I1.out.below hb2).up S2)
    have BX2 : Hid (BoxL w2 w.heap.size #[.slice A xs.length c, .int .i64 V, .int .i64 T] 24) := Lib.hid ((hb2.block _ (BoxL.lt BX1.out)).trans BX1.out)
    have B2 := Lib.hid (B1.out.trans (hb2.mono S1))
    clear ho2 hb2 I1 B1
    go_wp2_with fail
    refine (hsp.out _ _ C2.out).mono ?_
    rintro e w3 ⟨rfl, hb3⟩
    have S3 := hb3.size
    have BX3 : Hid (BoxL w3 w.heap.size #[.slice A xs.length c, .int .i64 V, .int .i64 T] 24) := Lib.hid ((hb3.block _ (BoxL.lt BX2.out)).trans BX2.out)
    have I3 := Lib.hid ((I2.out.below hb3).up S3)
    have B3 := Lib.hid (B2.out.trans (hb3.mono (by omega)))
    clear x0 x1 x2
    have x0 := BoxL.cell (i := 0) BX3.out rfl
    have x1 := BoxL.cell (i := 1) BX3.out rfl
    have x2 := BoxL.cell (i := 2) BX3.out rfl
    clear hb3 I2 B2 C2
    go_wp2_with fail
    refine (hcp.out _ _ I3.out).mono ?_
    rintro e w4 ⟨v4, rfl, ho4, hb4⟩
    have S4 := hb4.size
    have BX4 : Hid (BoxL w4 w.heap.size #[.slice A xs.length c, .int .i64 V, .int .i64 T] 24) := Lib.hid ((hb4.block _ (BoxL.lt BX3.out)).trans BX3.out)
    have I4 := Lib.hid ((I3.out.below hb4).up S4)
    have C4 := Lib.hid (LL.of_own ho4 rfl RG.out hle)
    have B4 := Lib.hid (B3.out.trans (hb4.mono (by omega)))
    obtain ⟨_, _, ra, rc, rfl, _⟩ := C4.out
    clear ho4 hb4 I3 B3
    obtain ⟨wb, hwb⟩ : ∃ wb, w4.alloc (.cells #[.slice ra xs.length rc, .int .i64 V, .int .i64 T] 29) = wb := ⟨_, rfl⟩
    have Y4 : Hid (BoxL wb w4.heap.size #[.slice ra xs.length rc, .int .i64 V, .int .i64 T] 29) := Lib.hid (by rw [← hwb]; exact World.alloc_heap_new w4 _)
    have hbb : Below w4.heap.size w4 wb := by rw [← hwb]; exact (Below.refl _ _).alloc (Nat.le_refl _) _
    have Sb := hbb.size
    have Ib := Lib.hid ((I4.out.below hbb).up Sb)
    have Cb := Lib.hid ((C4.out.below hbb).up Sb)
    have Bb := Lib.hid (B4.out.trans (hbb.mono (by omega)))
    have BXb : Hid (BoxL wb w.heap.size #[.slice A xs.length c, .int .i64 V, .int .i64 T] 24) := Lib.hid ((hbb.block _ (BoxL.lt BX4.out)).trans BX4.out)
    have HWb := Lib.hid hwb
    have hlb : w4.heap.size < wb.heap.size := Y4.out.lt
    clear hwb hbb I4 C4 B4 x0 x1 x2
    have y0 := BoxL.cell (i := 0) Y4.out rfl
    have y1 := BoxL.cell (i := 1) Y4.out rfl
    have y2 := BoxL.cell (i := 2) Y4.out rfl
    go_wp2_with fail
    rw [HWb.out]
    go_wp2_with fail
    refine (him.out _ _ Cb.out (PT.out.below Bb.out)).mono ?_
    rintro e w5 ⟨rfl, hb5⟩
    have S5 := hb5.size
    have BX5 : Hid (BoxL w5 w.heap.size #[.slice A xs.length c, .int .i64 V, .int .i64 T] 24) := Lib.hid ((hb5.block _ (BoxL.lt BXb.out)).trans BXb.out)
    have Y5 : Hid (BoxL w5 w4.heap.size #[.slice ra xs.length rc, .int .i64 V, .int .i64 T] 29) := Lib.hid ((hb5.block _ Y4.out.lt).trans Y4.out)
    have I5u := Lib.hid ((Ib.out.below hb5).up S5)
    have I5d : Hid (LL w5.drew w5.drew.heap.size (.slice A xs.length c) xs) := Lib.hid I5u.out
    have C5 := Lib.hid ((Cb.out.below hb5).up hb5.size)
    have B5 := Lib.hid (Bb.out.trans (hb5.mono (by omega)))
    clear hb5 Ib Bb Cb y0 y1 y2
    have x0 := BoxL.cell (i := 0) BX5.out rfl
    have x1 := BoxL.cell (i := 1) BX5.out rfl
    have x2 := BoxL.cell (i := 2) BX5.out rfl
    have y0 := BoxL.cell (i := 0) Y5.out rfl
    have y1 := BoxL.cell (i := 1) Y5.out rfl
    have y2 := BoxL.cell (i := 2) Y5.out rfl
    go_wp2_with fail
    go_region_law (first
      | (go_simp; go_at_call 6; refine (hcp.out _ _ (by first | with_reducible exact I5d.out | with_reducible exact I5u.out)).mono ?_; rintro e w6 ⟨v6, rfl, ho6, hb6⟩; have C6 := Lib.hid (LL.of_own ho6 rfl RG.out hle); have C56 := Lib.hid ((C5.out.below (show Below w5.heap.size w5 w6 from by first | exact hb6 | exact below_undrewL hb6)).up (show Below w5.heap.size w5 w6 from by first | exact hb6 | exact below_undrewL hb6).size); have B6 := Lib.hid (B5.out.trans ((show Below w5.heap.size w5 w6 from by first | exact hb6 | exact below_undrewL hb6).mono (by omega))); have Y6 : Hid (BoxL w6 w4.heap.size #[.slice ra xs.length rc, .int .i64 V, .int .i64 T] 29) := Lib.hid ((Below.block (show Below w5.heap.size w5 w6 from by first | exact hb6 | exact below_undrewL hb6) _ (BoxL.lt Y5.out)).trans Y5.out); have z0 := BoxL.cell (i := 0) Y6.out rfl; have z1 := BoxL.cell (i := 1) Y6.out rfl; have z2 := BoxL.cell (i := 2) Y6.out rfl; clear ho6 hb6)
      | (go_simp; go_at_call 8; refine (heq.out _ _ _ (by first | with_reducible exact C56.out | with_reducible exact LL.drewL C56.out) (by first | with_reducible exact C6.out | with_reducible exact LL.drewL C6.out)).mono ?_; rintro e w7 ⟨rfl, hb7⟩; have B7 := Lib.hid (B6.out.trans ((show Below w6.heap.size w6 w7 from by first | exact hb7 | exact below_undrewL hb7).mono B6.out.size)); clear hb7))
    all_goals
      go_simp
      go_wp2_with fail
      go_ret
      exact ⟨rfl, B7.out⟩
end Go.Proofs.YthnejknjngekiaaDoor
