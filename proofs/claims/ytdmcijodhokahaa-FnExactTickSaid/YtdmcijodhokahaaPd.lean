/- Walks: cascades: a cascade marked, and the marks read. -/
import Derived.Test.YtdmcijodhokahaaPc
set_option linter.unusedVariables false
set_option linter.unusedSimpArgs false
namespace Go.Proofs.Ytdmcijodhokahaa
open Go.RowKit

set_option maxRecDepth 100000 in
set_option maxHeartbeats 4000000 in
theorem markCascade_any (base top : Nat) (c : Cs) (rv lv : Value) (es : List LvC) (K : Int) (w : World) (hK : 0 ≤ K) (hK2 : K + totC c ≤ 100000000000000) (hr : CR c) (h : CD w base top c rv lv es) :
    Calls Try.prog 20 #[.agg #[.int .i64 c.1, .int .i64 c.2.1, rv, lv], .int .i64 K] w (MarkPC base top c rv lv es K w) := by
  obtain ⟨nw, kp, rp, ls⟩ := c
  have HR := Lib.hid hr
  have HK := Lib.hid (show K + (2 * (rp.length : Int) + totL ls) ≤ 100000000000000 from hK2)
  have hrl : rp.length ≤ 1048576 := hr.rlen
  have htn := totL_nonneg ls
  have hkr : K + 2 * (rp.length : Int) ≤ 100000000000000 := by have := HK.out; omega
  clear hr hK2 htn
  obtain ⟨Ap, cp, rfl⟩ := h.raw.shape
  obtain ⟨Al, cl, rfl⟩ := h.lvl.row.shape
  simp only at h ⊢
  have hmp := Lib.hid (fun v K xs w hK hK2 hl h => markPointO_any base top v K xs w hK hK2 hl h)
  have hml := Lib.hid (fun v K ls es w hK hK2 hl hrl h => markLevelS_any base top v K ls es w hK hK2 hl hrl h)
  obtain ⟨wb, hwb⟩ : ∃ wb, w.alloc (.cells #[.int .i64 nw, .int .i64 kp, .slice Ap rp.length cp, .slice Al ls.length cl] 30) = wb := ⟨_, rfl⟩
  have BX : BoxN wb w.heap.size #[.int .i64 nw, .int .i64 kp, .slice Ap rp.length cp, .slice Al ls.length cl] 30 := by rw [← hwb]; exact World.alloc_heap_new w _
  have HB := Lib.hid (show Below w.heap.size w wb from by rw [← hwb]; exact (Below.refl _ _).alloc (Nat.le_refl _) _)
  have HW := Lib.hid hwb
  have HD := Lib.hid (h.below HB.out)
  have hltA : ∀ g, CBk (nw, kp, rp, ls) (.slice Ap rp.length cp) (.slice Al ls.length cl) es g → g < w.heap.size := fun g hg => (h.lt hg).2.2
  have HA := Lib.hid hltA
  clear hwb h hltA
  have Q := Lib.hid BX
  have x2 := BX.cell (i := 2) rfl
  clear BX
  have hcal := Lib.hid (hmp.out _ K rp wb hK (by omega) hrl HD.out.raw)
  go_enter Try.func20, Try.ntmps20
  go_wp2_with fail
  rw [HW.out]
  go_wp2_with fail
  refine hcal.out.mono ?_
  rintro e w1 ⟨rfl, hrow1, hc1⟩
  have Q1 : BoxN w1 w.heap.size #[.int .i64 nw, .int .i64 kp, .slice Ap rp.length cp, .slice Al ls.length cl] 30 :=
    (hc1.block _ Q.out.lt (fun hS => by have := HA.out _ (.inl hS); omega)).trans Q.out
  have x3 := Q1.cell (i := 3) rfl
  have HR1 := Lib.hid hrow1
  have HC1 := Lib.hid hc1
  have hl1 := HD.out.lvl.chg hc1 (fun g hg hS => HD.out.off g hS hg)
  have hcal2 := Lib.hid (hml.out _ (K + 2 * (rp.length : Int)) ls es w1 (by omega) (by have := HK.out; omega) HR.out.llen (fun j hj => (HR.out.rolls j hj).2) hl1)
  clear hrow1 hc1 hl1 Q1 x2
  go_wp2_with fail
  refine hcal2.out.mono ?_
  rintro e w2 ⟨rfl, ⟨es', hl2, hse⟩, hc2⟩
  have HL2 := Lib.hid hl2
  have HS2 := Lib.hid hse
  have HC2 := Lib.hid hc2
  clear hl2 hse hc2 x3
  go_wp2_with fail
  go_ret
  have e1 : K + 2 * (rp.length : Int) + totL ls = K + (2 * (rp.length : Int) + totL ls) := by omega
  refine ⟨by rw [e1]; rfl, ⟨es', ⟨?_, HL2.out, ?_⟩⟩, wb, HB.out, (HC1.out.mono (fun k hk => .inl hk)).trans (HC2.out.mono (fun k hk => .inr hk))⟩
  · have hr1 := HR1.out
    show ORow w2 base top _ 2 _ (marks2 K rp.length).length (prs (marks2 K rp.length))
    rw [marks2_length]
    refine hr1.at_ (fun g hg => HC2.out.block g (hr1.lt hg).2.2 (fun hS => HD.out.off g hg hS))
  · intro g hg hS
    have hg' : obk (.slice Ap rp.length cp) rp.length = some g := by
      have : obk (.slice Ap rp.length cp) (marks2 K rp.length).length = some g := hg
      rwa [marks2_length] at this
    refine HD.out.off g hg' (hS.same (mkL_length _ _) (fun j hj => ⟨?_, HS2.out j hj⟩))
    rw [mkL_getD _ _ _ hj]; exact marks6_length _ _

set_option maxRecDepth 100000 in
set_option maxHeartbeats 4000000 in
theorem heldCascade_any (v : Value) (c : Cs) (K : Int) (w : World) (hK : 0 ≤ K) (hK2 : K + totC c ≤ 100000000000000) (h : CV w w.heap.size v (mkC K c)) :
    Calls Try.prog 21 #[v, .int .i64 K] w fun e w' => e = .returned (.int .i64 (K + totC c)) ∧ Below w.heap.size w w' := by
  obtain ⟨nw, kp, rp, ls⟩ := c
  have HK := Lib.hid (show K + (2 * (rp.length : Int) + totL ls) ≤ 100000000000000 from hK2)
  have htn := totL_nonneg ls
  have HT := Lib.hid htn
  have hkr : K + 2 * (rp.length : Int) ≤ 100000000000000 := by have := HK.out; omega
  clear hK2 htn
  obtain ⟨rv, lv, rfl, hP, hL, z7, z8⟩ := h
  clear z7 z8
  have hP' : PL w w.heap.size rv (marks2 K rp.length) := hP
  have hL' : LS w w.heap.size lv (mkL (K + 2 * (rp.length : Int)) ls) := hL
  clear hP hL
  obtain ⟨np, hnp⟩ : ∃ n, rp.length = n := ⟨_, rfl⟩
  have HNP := Lib.hid hnp
  rw [hnp] at hP' hL' hkr
  have HP := Lib.hid hP'
  have HL := Lib.hid hL'
  obtain ⟨z1, z2, Ap, cp, rfl, z3⟩ := hP'
  obtain ⟨z4, z5, Al, cl, rfl, z6⟩ := hL'
  clear z1 z2 z3 z4 z5 z6
  rw [marks2_length] at HP ⊢
  rw [mkL_length] at HL ⊢
  show Calls _ _ #[.agg #[.int .i64 nw, .int .i64 kp, .slice Ap np cp, .slice Al ls.length cl], .int .i64 K] w _
  clear hnp
  obtain ⟨wb, hwb⟩ : ∃ wb, w.alloc (.cells #[.int .i64 nw, .int .i64 kp, .slice Ap np cp, .slice Al ls.length cl] 30) = wb := ⟨_, rfl⟩
  have BX : BoxN wb w.heap.size #[.int .i64 nw, .int .i64 kp, .slice Ap np cp, .slice Al ls.length cl] 30 := by rw [← hwb]; exact World.alloc_heap_new w _
  have HB := Lib.hid (show Below w.heap.size w wb from by rw [← hwb]; exact (Below.refl _ _).alloc (Nat.le_refl _) _)
  have HW := Lib.hid hwb
  have x2 := BX.cell (i := 2) rfl
  have x3 := BX.cell (i := 3) rfl
  clear hwb BX
  have hcal := Lib.hid (heldPointS_any _ np K wb hK (by omega) ((HP.out.below HB.out).up HB.out.size))
  have hcal2 := Lib.hid (heldLevelS_any _ ls (K + 2 * (np : Int)) wb (by omega) (by have := HK.out; have := HNP.out; omega) ((HL.out.below HB.out).up HB.out.size))
  have d1 : decide (K + 2 * (np : Int) < 0) = false := decide_eq_false (by omega)
  have d2 : decide (K + 2 * (np : Int) + totL ls < 0) = false := decide_eq_false (by have := HT.out; omega)
  go_enter Try.func21, Try.ntmps21
  go_wp2_with fail
  rw [HW.out]
  go_wp2_with fail
  refine hcal.out.mono ?_
  rintro e w1 ⟨rfl, rfl⟩
  go_wp2_with fail
  refine hcal2.out.mono ?_
  rintro e w2 ⟨rfl, rfl⟩
  go_wp2_with fail
  go_ret
  have e1 : K + 2 * (np : Int) + totL ls = K + (2 * (rp.length : Int) + totL ls) := by have := HNP.out; omega
  exact ⟨by rw [e1]; rfl, HB.out⟩
end Go.Proofs.Ytdmcijodhokahaa
