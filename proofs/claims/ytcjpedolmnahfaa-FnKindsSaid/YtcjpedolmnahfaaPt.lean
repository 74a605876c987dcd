/- Walks: queries: impl.Query. -/
import Derived.Test.YtcjpedolmnahfaaPu
set_option linter.unusedVariables false
set_option linter.unusedSimpArgs false
namespace Go.Proofs.Ytcjpedolmnahfaa
open Go.RowKit

theorem RL.at_ {w : World} {B : Nat} {A : Option Addr} {n c : Nat} {xs : List R6} (h : RL w B (.slice A n c) xs) {k : Nat} (hk : k < n) :
    ∃ b off, A = some ⟨b, off, none⟩ ∧ b < B ∧ w.cell? ⟨b, off + k * 6, none⟩ = some (.int .i64 (xs.getD k z6).1) ∧ w.cell? ⟨b, off + k * 6 + 1, none⟩ = some (.int .i64 (xs.getD k z6).2.1) ∧ w.cell? ⟨b, off + k * 6 + 2, none⟩ = some (.int .i64 (xs.getD k z6).2.2.1) ∧ w.cell? ⟨b, off + k * 6 + 3, none⟩ = some (.int .i64 (xs.getD k z6).2.2.2.1) ∧ w.cell? ⟨b, off + k * 6 + 4, none⟩ = some (.int .i64 (xs.getD k z6).2.2.2.2.1) ∧ w.cell? ⟨b, off + k * 6 + 5, none⟩ = some (.int .i64 (xs.getD k z6).2.2.2.2.2) := by
  obtain ⟨_, _, A', c', he, h3⟩ := h
  injection he with e1 e2 e3
  rcases h3 with h3 | ⟨b, off, hb, hlt, hc⟩
  · rw [h3] at e2; simp at e2; omega
  · exact ⟨b, off, e1.trans hb, hlt, hc k (by omega)⟩
theorem p_base' {w : World} {base base' sz : Nat} {e : TypeId} {v : Value} {n : Nat} {xs : List Value} (h : w.ownsRow base e sz v n xs) (hb : base' ≤ base) : w.ownsRow base' e sz v n xs :=
  ⟨h.1, h.2.imp id fun ⟨g, cap, cur, a, b, c⟩ => ⟨g, cap, cur, a, Nat.le_trans hb b, c⟩⟩
def QPost (base : Nat) (xs : List (Int × Int)) (b : Bool) (w : World) (e : Ending) (w' : World) : Prop :=
  ∃ v, e = .returned (.tuple #[v, .bool b]) ∧ w'.ownsRow base 43 2 v xs.length (prs xs) ∧ Below w.heap.size w w'
theorem qryB_pick {c : Cs} {f t h : Int} (h0 : ¬ -1 ≤ pickM c f) : qryB c f t h = false := by unfold qryB; rw [decide_eq_false h0]; rfl
theorem qryB_to {c : Cs} {f t h : Int} (h0 : vIn t 0 1000000000000 = false) : qryB c f t h = false := by unfold qryB; rw [h0]; simp
theorem qryB_how {c : Cs} {f t h : Int} (h0 : vIn h 1 6 = false) : qryB c f t h = false := by unfold qryB; rw [h0]; simp
theorem qryB_ok {c : Cs} {f t h : Int} (h0 : -1 ≤ pickM c f) (h1 : vIn t 0 1000000000000 = true) (h2 : vIn h 1 6 = true) : qryB c f t h = true := by unfold qryB; rw [decide_eq_true h0, h1, h2]; rfl
theorem qryM_no {c : Cs} {f t h : Int} (h0 : qryB c f t h = false) : qryM c f t h = [] := by unfold qryM; rw [if_neg (by rw [h0]; simp)]
theorem qryM_yes {c : Cs} {f t h : Int} (h0 : qryB c f t h = true) : qryM c f t h = qryL (pickRs c (pickM c f)) f t h := by unfold qryM; rw [if_pos h0]
theorem vIn6 {h : Int} : vIn h 1 6 = true ↔ 1 ≤ h ∧ h ≤ 6 := by unfold vIn; rw [decide_eq_true_iff]

set_option maxRecDepth 100000 in
set_option maxHeartbeats 4000000 in
theorem implQuery_pick (v : Value) (c : Cs) (f t hw : Int) (w : World) (h : CV w w.heap.size v c) (hp : ¬ -1 ≤ pickM c f) :
    Calls Try.prog 39 #[v, .int .i64 f, .int .i64 t, .int .i64 hw] w (QPost w.heap.size (qryM c f t hw) (qryB c f t hw) w) := by
  have HC := Lib.hid h
  have HCR := Lib.hid h.cr
  obtain ⟨nw, kp, rp, ls⟩ := c
  obtain ⟨rv, lv, rfl, hP, hL, z1, z2⟩ := h
  clear z1 z2
  simp only at hP hL HC HCR ⊢
  obtain ⟨z3, hpl, Ap, cp, rfl, z4⟩ := hP
  obtain ⟨z5, hll, Al, cl, rfl, z6⟩ := hL
  clear z3 z4 z5 z6
  obtain ⟨wb, hwb⟩ : ∃ wb, w.alloc (.cells #[.int .i64 nw, .int .i64 kp, .slice Ap rp.length cp, .slice Al ls.length cl] 30) = wb := ⟨_, rfl⟩
  have BX : BoxN wb w.heap.size #[.int .i64 nw, .int .i64 kp, .slice Ap rp.length cp, .slice Al ls.length cl] 30 := by rw [← hwb]; exact World.alloc_heap_new w _
  have HB := Lib.hid (show Below w.heap.size w wb from by rw [← hwb]; exact (Below.refl _ _).alloc (Nat.le_refl _) _)
  have HW := Lib.hid hwb
  have Q := Lib.hid BX
  have hltb : w.heap.size < wb.heap.size := BX.lt
  have x0 := BX.cell (i := 0) rfl
  have x1 := BX.cell (i := 1) rfl
  have x2 := BX.cell (i := 2) rfl
  have x3 := BX.cell (i := 3) rfl
  clear hwb BX
  have HPk := Lib.hid (implPick_any (.agg #[.int .i64 nw, .int .i64 kp, .slice Ap rp.length cp, .slice Al ls.length cl]) (nw, kp, rp, ls) f wb ((HC.out.below HB.out).up HB.out.size))
  have HNB := Lib.hid (qryB_pick (t := t) (h := hw) hp)
  have HNM := Lib.hid (qryM_no HNB.out)
  generalize hpk : pickM (nw, kp, rp, ls) f = p at HPk hp
  clear hpk
  have hq : decide (p < -1) = true := decide_eq_true (by omega)
  have HAg := Lib.hid (fun W => aggregateOf_any hw W)
  go_enter Try.func39, Try.ntmps39
  go_wp2_with fail
  rw [HW.out]
  go_wp2_with fail
  refine HPk.out.mono ?_
  rintro e w2 ⟨rfl, hb2⟩
  have Q2 : BoxN w2 w.heap.size #[.int .i64 nw, .int .i64 kp, .slice Ap rp.length cp, .slice Al ls.length cl] 30 := (hb2.block _ hltb).trans Q.out
  have HB2 := Lib.hid (HB.out.trans (hb2.mono (by omega)))
  clear x0 x1 x2 x3 Q
  have Q := Lib.hid Q2
  have x0 := Q2.cell (i := 0) rfl
  have x1 := Q2.cell (i := 1) rfl
  have x2 := Q2.cell (i := 2) rfl
  have x3 := Q2.cell (i := 3) rfl
  clear Q2
  go_wp2_with fail
  refine (HAg.out _).mono ?_
  rintro e _ ⟨rfl, rfl⟩
  go_wp2_with fail
  go_ret2
  rw [HNM.out, HNB.out]
  exact ⟨_, rfl, World.ownsRow_nil _ _ _ _, HB2.out⟩

set_option maxRecDepth 100000 in
set_option maxHeartbeats 4000000 in
theorem implQuery_to (v : Value) (c : Cs) (f t hw : Int) (w : World) (h : CV w w.heap.size v c) (hp : -1 ≤ pickM c f) (ht : vIn t 0 1000000000000 = false) :
    Calls Try.prog 39 #[v, .int .i64 f, .int .i64 t, .int .i64 hw] w (QPost w.heap.size (qryM c f t hw) (qryB c f t hw) w) := by
  have HC := Lib.hid h
  have HCR := Lib.hid h.cr
  obtain ⟨nw, kp, rp, ls⟩ := c
  obtain ⟨rv, lv, rfl, hP, hL, z1, z2⟩ := h
  clear z1 z2
  simp only at hP hL HC HCR ⊢
  obtain ⟨z3, hpl, Ap, cp, rfl, z4⟩ := hP
  obtain ⟨z5, hll, Al, cl, rfl, z6⟩ := hL
  clear z3 z4 z5 z6
  obtain ⟨wb, hwb⟩ : ∃ wb, w.alloc (.cells #[.int .i64 nw, .int .i64 kp, .slice Ap rp.length cp, .slice Al ls.length cl] 30) = wb := ⟨_, rfl⟩
  have BX : BoxN wb w.heap.size #[.int .i64 nw, .int .i64 kp, .slice Ap rp.length cp, .slice Al ls.length cl] 30 := by rw [← hwb]; exact World.alloc_heap_new w _
  have HB := Lib.hid (show Below w.heap.size w wb from by rw [← hwb]; exact (Below.refl _ _).alloc (Nat.le_refl _) _)
  have HW := Lib.hid hwb
  have Q := Lib.hid BX
  have hltb : w.heap.size < wb.heap.size := BX.lt
  have x0 := BX.cell (i := 0) rfl
  have x1 := BX.cell (i := 1) rfl
  have x2 := BX.cell (i := 2) rfl
  have x3 := BX.cell (i := 3) rfl
  clear hwb BX
  have HPk := Lib.hid (implPick_any (.agg #[.int .i64 nw, .int .i64 kp, .slice Ap rp.length cp, .slice Al ls.length cl]) (nw, kp, rp, ls) f wb ((HC.out.below HB.out).up HB.out.size))
  have HNB := Lib.hid (qryB_to (f := f) (h := hw) (c := (nw, kp, rp, ls)) ht)
  have HNM := Lib.hid (qryM_no HNB.out)
  generalize hpk : pickM (nw, kp, rp, ls) f = p at HPk hp
  clear hpk
  have hq : decide (p < -1) = false := decide_eq_false (by omega)
  have hT := Lib.hid (fun W => timeOk_any t W)
  rw [ht] at hT
  have HAg := Lib.hid (fun W => aggregateOf_any hw W)
  go_enter Try.func39, Try.ntmps39
  go_wp2_with fail
  rw [HW.out]
  go_wp2_with fail
  refine HPk.out.mono ?_
  rintro e w2 ⟨rfl, hb2⟩
  have Q2 : BoxN w2 w.heap.size #[.int .i64 nw, .int .i64 kp, .slice Ap rp.length cp, .slice Al ls.length cl] 30 := (hb2.block _ hltb).trans Q.out
  have HB2 := Lib.hid (HB.out.trans (hb2.mono (by omega)))
  clear x0 x1 x2 x3 Q
  have Q := Lib.hid Q2
  have x0 := Q2.cell (i := 0) rfl
  have x1 := Q2.cell (i := 1) rfl
  have x2 := Q2.cell (i := 2) rfl
  have x3 := Q2.cell (i := 3) rfl
  clear Q2
  go_wp2_with fail
  refine (HAg.out _).mono ?_
  rintro e _ ⟨rfl, rfl⟩
  go_wp2_with (go_at_call 80; refine (hT.out _).mono ?_; rintro e w' ⟨rfl, rfl⟩)
  go_ret2
  rw [HNM.out, HNB.out]
  exact ⟨_, rfl, World.ownsRow_nil _ _ _ _, HB2.out⟩

set_option maxRecDepth 100000 in
set_option maxHeartbeats 4000000 in
theorem implQuery_how (v : Value) (c : Cs) (f t hw : Int) (w : World) (h : CV w w.heap.size v c) (hp : -1 ≤ pickM c f) (ht : vIn t 0 1000000000000 = true) (hh : ¬ (1 ≤ hw ∧ hw ≤ 6)) :
    Calls Try.prog 39 #[v, .int .i64 f, .int .i64 t, .int .i64 hw] w (QPost w.heap.size (qryM c f t hw) (qryB c f t hw) w) := by
  have HC := Lib.hid h
  have HCR := Lib.hid h.cr
  obtain ⟨nw, kp, rp, ls⟩ := c
  obtain ⟨rv, lv, rfl, hP, hL, z1, z2⟩ := h
  clear z1 z2
  simp only at hP hL HC HCR ⊢
  obtain ⟨z3, hpl, Ap, cp, rfl, z4⟩ := hP
  obtain ⟨z5, hll, Al, cl, rfl, z6⟩ := hL
  clear z3 z4 z5 z6
  obtain ⟨wb, hwb⟩ : ∃ wb, w.alloc (.cells #[.int .i64 nw, .int .i64 kp, .slice Ap rp.length cp, .slice Al ls.length cl] 30) = wb := ⟨_, rfl⟩
  have BX : BoxN wb w.heap.size #[.int .i64 nw, .int .i64 kp, .slice Ap rp.length cp, .slice Al ls.length cl] 30 := by rw [← hwb]; exact World.alloc_heap_new w _
  have HB := Lib.hid (show Below w.heap.size w wb from by rw [← hwb]; exact (Below.refl _ _).alloc (Nat.le_refl _) _)
  have HW := Lib.hid hwb
  have Q := Lib.hid BX
  have hltb : w.heap.size < wb.heap.size := BX.lt
  have x0 := BX.cell (i := 0) rfl
  have x1 := BX.cell (i := 1) rfl
  have x2 := BX.cell (i := 2) rfl
  have x3 := BX.cell (i := 3) rfl
  clear hwb BX
  have HPk := Lib.hid (implPick_any (.agg #[.int .i64 nw, .int .i64 kp, .slice Ap rp.length cp, .slice Al ls.length cl]) (nw, kp, rp, ls) f wb ((HC.out.below HB.out).up HB.out.size))
  have hv6 : vIn hw 1 6 = false := by
    cases e : vIn hw 1 6 with
    | false => rfl
    | true => exact absurd (vIn6.1 e) hh
  have HNB := Lib.hid (qryB_how (f := f) (t := t) (c := (nw, kp, rp, ls)) hv6)
  have HNM := Lib.hid (qryM_no HNB.out)
  generalize hpk : pickM (nw, kp, rp, ls) f = p at HPk hp
  clear hpk
  have hq : decide (p < -1) = false := decide_eq_false (by omega)
  have hT := Lib.hid (fun W => timeOk_any t W)
  rw [ht] at hT
  have hK := Lib.hid (fun W => knownField_any hw W)
  have hv5 : vIn hw 1 5 = false := by unfold vIn; rw [decide_eq_false (by omega)]
  rw [hv5] at hK
  clear hv5 hv6
  have hm : ∀ k w, (method (k + 60) 136 (.int .i64 hw) "loop.example/g00617/impl.known").run Try.prog w = .ok (154, (.int .i64 hw)) w := fun _ _ => by kernel_rfl
  have HAg := Lib.hid (fun W => aggregateOf_any hw W)
  rw [aggI_f (by omega)] at HAg
  clear hh
  go_enter Try.func39, Try.ntmps39
  go_wp2_with fail
  rw [HW.out]
  go_wp2_with fail
  refine HPk.out.mono ?_
  rintro e w2 ⟨rfl, hb2⟩
  have Q2 : BoxN w2 w.heap.size #[.int .i64 nw, .int .i64 kp, .slice Ap rp.length cp, .slice Al ls.length cl] 30 := (hb2.block _ hltb).trans Q.out
  have HB2 := Lib.hid (HB.out.trans (hb2.mono (by omega)))
  clear x0 x1 x2 x3 Q
  have Q := Lib.hid Q2
  have x0 := Q2.cell (i := 0) rfl
  have x1 := Q2.cell (i := 1) rfl
  have x2 := Q2.cell (i := 2) rfl
  have x3 := Q2.cell (i := 3) rfl
  clear Q2
  go_wp2_with fail
  refine (HAg.out _).mono ?_
  rintro e _ ⟨rfl, rfl⟩
  go_wp2_with (first | (go_at_call 80; refine (hT.out _).mono ?_; rintro e w' ⟨rfl, rfl⟩) | (go_at_call 154; refine (hK.out _).mono ?_; rintro e w' ⟨rfl, rfl⟩))
  go_ret2
  rw [HNM.out, HNB.out]
  exact ⟨_, rfl, World.ownsRow_nil _ _ _ _, HB2.out⟩

set_option maxRecDepth 100000 in
set_option maxHeartbeats 4000000 in
theorem implQuery_field (v : Value) (c : Cs) (f t hw : Int) (w : World) (h : CV w w.heap.size v c) (hp : -1 ≤ pickM c f) (ht : vIn t 0 1000000000000 = true) (hh : 1 ≤ hw ∧ hw ≤ 5) :
    Calls Try.prog 39 #[v, .int .i64 f, .int .i64 t, .int .i64 hw] w (QPost w.heap.size (qryM c f t hw) (qryB c f t hw) w) := by
  have HC := Lib.hid h
  have HCR := Lib.hid h.cr
  obtain ⟨nw, kp, rp, ls⟩ := c
  obtain ⟨rv, lv, rfl, hP, hL, z1, z2⟩ := h
  clear z1 z2
  simp only at hP hL HC HCR ⊢
  obtain ⟨z3, hpl, Ap, cp, rfl, z4⟩ := hP
  obtain ⟨z5, hll, Al, cl, rfl, z6⟩ := hL
  clear z3 z4 z5 z6
  obtain ⟨wb, hwb⟩ : ∃ wb, w.alloc (.cells #[.int .i64 nw, .int .i64 kp, .slice Ap rp.length cp, .slice Al ls.length cl] 30) = wb := ⟨_, rfl⟩
  have BX : BoxN wb w.heap.size #[.int .i64 nw, .int .i64 kp, .slice Ap rp.length cp, .slice Al ls.length cl] 30 := by rw [← hwb]; exact World.alloc_heap_new w _
  have HB := Lib.hid (show Below w.heap.size w wb from by rw [← hwb]; exact (Below.refl _ _).alloc (Nat.le_refl _) _)
  have HW := Lib.hid hwb
  have Q := Lib.hid BX
  have hltb : w.heap.size < wb.heap.size := BX.lt
  have x0 := BX.cell (i := 0) rfl
  have x1 := BX.cell (i := 1) rfl
  have x2 := BX.cell (i := 2) rfl
  have x3 := BX.cell (i := 3) rfl
  clear hwb BX
  have HPk := Lib.hid (implPick_any (.agg #[.int .i64 nw, .int .i64 kp, .slice Ap rp.length cp, .slice Al ls.length cl]) (nw, kp, rp, ls) f wb ((HC.out.below HB.out).up HB.out.size))
  have h16 : 1 ≤ hw ∧ hw ≤ 6 := by omega
  have HNB := Lib.hid (qryB_ok hp ht (vIn6.2 h16))
  have HNM := Lib.hid (qryM_yes HNB.out)
  obtain ⟨hcb, hfq, hpp⟩ := pickM_at hp
  have HPT := Lib.hid (pickRs_tr hcb HCR.out hpp)
  have hval := Lib.hid (fun r W hr => value_any hw r W h16 hr)
  have hRA := Lib.hid (fun W h => rollsAt_any (.agg #[.int .i64 nw, .int .i64 kp, .slice Ap rp.length cp, .slice Al ls.length cl]) (nw, kp, rp, ls) (pickM (nw, kp, rp, ls) f) W h hcb hpp)
  clear hpp hcb hfq
  generalize hrs : pickRs (nw, kp, rp, ls) (pickM (nw, kp, rp, ls) f) = rs at HPT HNM hRA
  clear hrs
  generalize hpk : pickM (nw, kp, rp, ls) f = p at HPk hp hRA
  clear hpk
  have hq : decide (p < -1) = false := decide_eq_false (by omega)
  have hT := Lib.hid (fun W => timeOk_any t W)
  rw [ht] at hT
  have hK := Lib.hid (fun W => knownField_any hw W)
  have hv5 : vIn hw 1 5 = true := by unfold vIn; rw [decide_eq_true (by omega)]
  rw [hv5] at hK
  clear hv5
  have hm : ∀ k w, (method (k + 60) 136 (.int .i64 hw) "loop.example/g00617/impl.known").run Try.prog w = .ok (154, (.int .i64 hw)) w := fun _ _ => by kernel_rfl
  have HAg := Lib.hid (fun W => aggregateOf_any hw W)
  rw [aggI_f (show ¬ hw = 6 by omega)] at HAg hval
  clear h16
  go_enter Try.func39, Try.ntmps39
  go_wp2_with fail
  rw [HW.out]
  go_wp2_with fail
  refine HPk.out.mono ?_
  rintro e w2 ⟨rfl, hb2⟩
  have Q2 : BoxN w2 w.heap.size #[.int .i64 nw, .int .i64 kp, .slice Ap rp.length cp, .slice Al ls.length cl] 30 := (hb2.block _ hltb).trans Q.out
  have HB2 := Lib.hid (HB.out.trans (hb2.mono (by omega)))
  clear x0 x1 x2 x3 Q
  have Q := Lib.hid Q2
  have x0 := Q2.cell (i := 0) rfl
  have x1 := Q2.cell (i := 1) rfl
  have x2 := Q2.cell (i := 2) rfl
  have x3 := Q2.cell (i := 3) rfl
  clear Q2
  go_wp2_with fail
  refine (HAg.out _).mono ?_
  rintro e _ ⟨rfl, rfl⟩
  go_wp2_with (first | (go_at_call 80; refine (hT.out _).mono ?_; rintro e w' ⟨rfl, rfl⟩) | (go_at_call 154; refine (hK.out _).mono ?_; rintro e w' ⟨rfl, rfl⟩))
  refine (hRA.out _ ((HC.out.below HB2.out).up HB2.out.size)).mono ?_
  rintro e w3 ⟨r, rfl, hrl, hb3⟩
  have HR := Lib.hid hrl
  obtain ⟨z1, hlen, Ar, cr, rfl, z2⟩ := hrl
  clear z1 z2
  have HB3 := Lib.hid (HB2.out.trans (hb3.mono HB2.out.size))
  have hs3 : w.heap.size < w3.heap.size := Nat.lt_of_lt_of_le Q.out.lt hb3.size
  obtain ⟨i0, hi, hz0, hz1, hz2⟩ := info_parts info_pt
  clear hb3 Q x0 x1 x2 x3 HPk HAg hRA hT
  go_wp2_with fail
  go_loopw [12, 36] (fun v i wr => ∃ k : Nat, k ≤ rs.length ∧ i = .int .i64 k ∧ Hid (wr.ownsRow w3.heap.size 43 2 v (qryL (rs.take k) f t hw).length (prs (qryL (rs.take k) f t hw))) ∧ Hid (Below w3.heap.size w3 wr)) (fun _ i _ => rs.length - (intOf i).toNat)
  case atStart => exact ⟨0, Nat.zero_le _, rfl, Lib.hid (by simpa [qryL, prs] using World.ownsRow_nil w3 w3.heap.size 43 2), Lib.hid (Below.refl _ _)⟩
  case round =>
    obtain ⟨k, hk, rfl, HO, HD⟩ := hrel
    have hsz := HD.out.size
    by_cases hlt : k < rs.length
    · obtain ⟨b, off, rfl, hbl, y0, y1, y2, y3, y4, y5⟩ := HR.out.at_ hlt
      have k0 := (HD.out.cell (p := ⟨b, off + k * 6, none⟩) hbl).trans y0
      have k1 := (HD.out.cell (p := ⟨b, off + k * 6 + 1, none⟩) hbl).trans y1
      have k2 := (HD.out.cell (p := ⟨b, off + k * 6 + 2, none⟩) hbl).trans y2
      have k3 := (HD.out.cell (p := ⟨b, off + k * 6 + 3, none⟩) hbl).trans y3
      have k4 := (HD.out.cell (p := ⟨b, off + k * 6 + 4, none⟩) hbl).trans y4
      have k5 := (HD.out.cell (p := ⟨b, off + k * 6 + 5, none⟩) hbl).trans y5
      have HS := Lib.hid (qryL_succ f t hw hlt)
      have HTR := Lib.hid (HPT.out.1 k hlt)
      have hlq : (qryL (rs.take k) f t hw).length ≤ 400 := by
        have h1 := qryL_len (rs.take k) f t hw
        have h2 := HPT.out.2
        rw [List.length_take] at h1; omega
      obtain ⟨r0, r1, r2, r3, r4, r5, hX⟩ : ∃ a b c d e g, rs.getD k z6 = (a, b, c, d, e, g) := ⟨_, _, _, _, _, _, rfl⟩
      rw [hX] at k0 k1 k2 k3 k4 k5 HS HTR
      simp only at k0 k1 k2 k3 k4 k5 HS
      clear hX y0 y1 y2 y3 y4 y5
      have hvc := Lib.hid (fun W => hval.out (r0, r1, r2, r3, r4, r5) W HTR.out)
      generalize aggV hw (r0, r1, r2, r3, r4, r5) = av at HS hvc
      generalize qryL (rs.take k) f t hw = ys at HO HS hlq
      have HBx := Lib.hid (HD.out.alloc hsz (.cells #[.int .i64 r0, .int .i64 r1, .int .i64 r2, .int .i64 r3, .int .i64 r4, .int .i64 r5] 48))
      have HOx := Lib.hid (HO.out.alloc (.cells #[.int .i64 r0, .int .i64 r1, .int .i64 r2, .int .i64 r3, .int .i64 r4, .int .i64 r5] 48))
      by_cases g1 : f ≤ r0
      case neg =>
        have E := HS.out
        rw [if_neg (fun e => g1 e.1), List.append_nil] at E
        have E := Lib.hid E
        go_wp2_with fail
        go_roundw
        case rel => exact ⟨k + 1, by omega, by go_num, Lib.hid (by rw [E.out]; exact HOx.out), HBx⟩
        case measure => simp [intOf]; omega
      by_cases g2 : r0 < t
      case neg =>
        have E := HS.out
        rw [if_neg (fun e => g2 e.2), List.append_nil] at E
        have E := Lib.hid E
        go_wp2_with fail
        go_roundw
        case rel => exact ⟨k + 1, by omega, by go_num, Lib.hid (by rw [E.out]; exact HOx.out), HBx⟩
        case measure => simp [intOf]; omega
      have E := HS.out
      rw [if_pos ⟨g1, g2⟩] at E
      have E := Lib.hid E
      clear HS
      obtain ⟨Wx, hWx⟩ : ∃ Wx, wr.alloc (.cells #[.int .i64 r0, .int .i64 r1, .int .i64 r2, .int .i64 r3, .int .i64 r4, .int .i64 r5] 48) = Wx := ⟨_, rfl⟩
      have bx : BoxN Wx wr.heap.size #[.int .i64 r0, .int .i64 r1, .int .i64 r2, .int .i64 r3, .int .i64 r4, .int .i64 r5] 48 := by rw [← hWx]; exact World.alloc_heap_new wr _
      rw [hWx] at HBx HOx
      have HWx := Lib.hid hWx
      clear hWx
      have hsx := bx.lt
      have hsx3 : w3.heap.size ≤ Wx.heap.size := by omega
      have c0 := bx.cell (i := 0) rfl
      have c1 := bx.cell (i := 1) rfl
      have c2 := bx.cell (i := 2) rfl
      have c3 := bx.cell (i := 3) rfl
      have c4 := bx.cell (i := 4) rfl
      have c5 := bx.cell (i := 5) rfl
      clear bx
      go_wp2_with fail
      rw [HWx.out]
      clear k0 k1 k2 k3 k4 k5
      go_region_law (first
        | (go_simp; go_at_call 85; refine (hvc.out _).mono ?_; rintro e w5 ⟨rfl, hb5⟩; have z0 : w5.cell? ⟨wr.heap.size, 0, none⟩ = some (.int .i64 r0) := (hb5.cell (p := ⟨wr.heap.size, 0, none⟩) (by first | exact hsx | (simp; omega))).trans (by first | exact c0 | go_simp); have HO5 := Lib.hid (u_own_below (by first | exact HOx.out | exact HOx.out.drew) hb5); have HB5 := Lib.hid (HBx.out.drew.trans (hb5.mono (by first | exact hsx3 | (simp; omega)))); have hs5 := HB5.out.size; clear hb5)
        | (refine step_append_ownR _ rfl _ _ 27 rfl w3.heap.size 43 i0 (.agg #[.int .i64 0, .int .i64 0]) 2 16 Try.underlying27 hi hz0 hz1 hz2 rfl (by decide) u12 ys.length (prs ys) rfl (HO5.out.alloc _) ⟨w5.heap.size, 0, none⟩ 1 1 [.int .i64 r0, .int .i64 av] rfl rfl (two_cells (by go_simp) (by go_simp)) (fun u hu => by simp at hu; rcases hu with rfl | rfl <;> rfl) (by unfold maxLen; omega) (by omega) (by first | omega | (simp; omega)) ?_; intro v6 w6 hown6 hgrow6; have HO6 := Lib.hid (show w6.ownsRow w3.heap.size 43 2 v6 (qryL (rs.take (k + 1)) f t hw).length (prs (qryL (rs.take (k + 1)) f t hw)) from by rw [E.out, prs_append, List.length_append]; exact hown6); have HB6 := Lib.hid ((HB5.out.alloc (by omega) (.cells #[.int .i64 r0, .int .i64 av] 43)).grown hgrow6 (by first | omega | (simp; omega)) (fun j hj => (HO5.out.lt j hj).1)); clear hown6 hgrow6))
      all_goals
        go_simp
        go_wp2_with fail
        go_roundw
        case rel => exact ⟨k + 1, by omega, by go_num, HO6, HB6⟩
        case measure => simp [intOf]; omega
    · obtain rfl : k = rs.length := by omega
      have ho := HO.out
      rw [List.take_length] at ho
      have HO2 := Lib.hid ho
      clear ho
      go_wp2_with fail
      go_ret2
      rw [HNM.out, HNB.out]
      exact ⟨_, rfl, p_base' HO2.out (Nat.le_of_lt hs3), HB3.out.trans (HD.out.mono (Nat.le_of_lt hs3))⟩

set_option maxRecDepth 100000 in
set_option maxHeartbeats 4000000 in
theorem implQuery_mean (v : Value) (c : Cs) (f t : Int) (w : World) (h : CV w w.heap.size v c) (hp : -1 ≤ pickM c f) (ht : vIn t 0 1000000000000 = true)  :
    Calls Try.prog 39 #[v, .int .i64 f, .int .i64 t, .int .i64 6] w (QPost w.heap.size (qryM c f t 6) (qryB c f t 6) w) := by
  have HC := Lib.hid h
  have HCR := Lib.hid h.cr
  obtain ⟨nw, kp, rp, ls⟩ := c
  obtain ⟨rv, lv, rfl, hP, hL, z1, z2⟩ := h
  clear z1 z2
  simp only at hP hL HC HCR ⊢
  obtain ⟨z3, hpl, Ap, cp, rfl, z4⟩ := hP
  obtain ⟨z5, hll, Al, cl, rfl, z6⟩ := hL
  clear z3 z4 z5 z6
  obtain ⟨wb, hwb⟩ : ∃ wb, w.alloc (.cells #[.int .i64 nw, .int .i64 kp, .slice Ap rp.length cp, .slice Al ls.length cl] 30) = wb := ⟨_, rfl⟩
  have BX : BoxN wb w.heap.size #[.int .i64 nw, .int .i64 kp, .slice Ap rp.length cp, .slice Al ls.length cl] 30 := by rw [← hwb]; exact World.alloc_heap_new w _
  have HB := Lib.hid (show Below w.heap.size w wb from by rw [← hwb]; exact (Below.refl _ _).alloc (Nat.le_refl _) _)
  have HW := Lib.hid hwb
  have Q := Lib.hid BX
  have hltb : w.heap.size < wb.heap.size := BX.lt
  have x0 := BX.cell (i := 0) rfl
  have x1 := BX.cell (i := 1) rfl
  have x2 := BX.cell (i := 2) rfl
  have x3 := BX.cell (i := 3) rfl
  clear hwb BX
  have HPk := Lib.hid (implPick_any (.agg #[.int .i64 nw, .int .i64 kp, .slice Ap rp.length cp, .slice Al ls.length cl]) (nw, kp, rp, ls) f wb ((HC.out.below HB.out).up HB.out.size))
  have h16 : (1 : Int) ≤ 6 ∧ (6 : Int) ≤ 6 := by omega
  have HNB := Lib.hid (qryB_ok hp ht (vIn6.2 h16))
  have HNM := Lib.hid (qryM_yes HNB.out)
  obtain ⟨hcb, hfq, hpp⟩ := pickM_at hp
  have HPT := Lib.hid (pickRs_tr hcb HCR.out hpp)
  have hval := Lib.hid (fun r W hr => value_any 6 r W h16 hr)
  have hRA := Lib.hid (fun W h => rollsAt_any (.agg #[.int .i64 nw, .int .i64 kp, .slice Ap rp.length cp, .slice Al ls.length cl]) (nw, kp, rp, ls) (pickM (nw, kp, rp, ls) f) W h hcb hpp)
  clear hpp hcb hfq
  generalize hrs : pickRs (nw, kp, rp, ls) (pickM (nw, kp, rp, ls) f) = rs at HPT HNM hRA
  clear hrs
  generalize hpk : pickM (nw, kp, rp, ls) f = p at HPk hp hRA
  clear hpk
  have hq : decide (p < -1) = false := decide_eq_false (by omega)
  have hT := Lib.hid (fun W => timeOk_any t W)
  rw [ht] at hT
  have hK := Lib.hid (fun W => knownMean_any W)
  have hm : ∀ k w, (method (k + 60) 135 (.agg #[]) "loop.example/g00617/impl.known").run Try.prog w = .ok (153, (.agg #[])) w := fun _ _ => by kernel_rfl
  have HAg := Lib.hid (fun W => aggregateOf_any 6 W)
  rw [show aggI 6 = .iface 135 (.agg #[]) from rfl] at HAg hval
  clear h16
  go_enter Try.func39, Try.ntmps39
  go_wp2_with fail
  rw [HW.out]
  go_wp2_with fail
  refine HPk.out.mono ?_
  rintro e w2 ⟨rfl, hb2⟩
  have Q2 : BoxN w2 w.heap.size #[.int .i64 nw, .int .i64 kp, .slice Ap rp.length cp, .slice Al ls.length cl] 30 := (hb2.block _ hltb).trans Q.out
  have HB2 := Lib.hid (HB.out.trans (hb2.mono (by omega)))
  clear x0 x1 x2 x3 Q
  have Q := Lib.hid Q2
  have x0 := Q2.cell (i := 0) rfl
  have x1 := Q2.cell (i := 1) rfl
  have x2 := Q2.cell (i := 2) rfl
  have x3 := Q2.cell (i := 3) rfl
  clear Q2
  go_wp2_with fail
  refine (HAg.out _).mono ?_
  rintro e _ ⟨rfl, rfl⟩
  go_wp2_with (first | (go_at_call 80; refine (hT.out _).mono ?_; rintro e w' ⟨rfl, rfl⟩) | (go_at_call 153; refine (hK.out _).mono ?_; rintro e w8 ⟨rfl, hb8⟩; have HB9 := Lib.hid (HB2.out.trans (hb8.mono HB2.out.size)); have Q9 : Hid (BoxN w8 w.heap.size #[.int .i64 nw, .int .i64 kp, .slice Ap rp.length cp, .slice Al ls.length cl] 30) := Lib.hid ((hb8.block _ Q.out.lt).trans Q.out); clear x0 x1 x2 x3 Q HB2 hb8; have HB2 := HB9; have Q := Q9; clear HB9 Q9; have x0 := Q.out.cell (i := 0) rfl; have x1 := Q.out.cell (i := 1) rfl; have x2 := Q.out.cell (i := 2) rfl; have x3 := Q.out.cell (i := 3) rfl))
  refine (hRA.out _ ((HC.out.below HB2.out).up HB2.out.size)).mono ?_
  rintro e w3 ⟨r, rfl, hrl, hb3⟩
  have HR := Lib.hid hrl
  obtain ⟨z1, hlen, Ar, cr, rfl, z2⟩ := hrl
  clear z1 z2
  have HB3 := Lib.hid (HB2.out.trans (hb3.mono HB2.out.size))
  have hs3 : w.heap.size < w3.heap.size := Nat.lt_of_lt_of_le Q.out.lt hb3.size
  obtain ⟨i0, hi, hz0, hz1, hz2⟩ := info_parts info_pt
  clear hb3 Q x0 x1 x2 x3 HPk HAg hRA hT
  go_wp2_with fail
  go_loopw [12, 36] (fun v i wr => ∃ k : Nat, k ≤ rs.length ∧ i = .int .i64 k ∧ Hid (wr.ownsRow w3.heap.size 43 2 v (qryL (rs.take k) f t 6).length (prs (qryL (rs.take k) f t 6))) ∧ Hid (Below w3.heap.size w3 wr)) (fun _ i _ => rs.length - (intOf i).toNat)
  case atStart => exact ⟨0, Nat.zero_le _, rfl, Lib.hid (by simpa [qryL, prs] using World.ownsRow_nil w3 w3.heap.size 43 2), Lib.hid (Below.refl _ _)⟩
  case round =>
    obtain ⟨k, hk, rfl, HO, HD⟩ := hrel
    have hsz := HD.out.size
    by_cases hlt : k < rs.length
    · obtain ⟨b, off, rfl, hbl, y0, y1, y2, y3, y4, y5⟩ := HR.out.at_ hlt
      have k0 := (HD.out.cell (p := ⟨b, off + k * 6, none⟩) hbl).trans y0
      have k1 := (HD.out.cell (p := ⟨b, off + k * 6 + 1, none⟩) hbl).trans y1
      have k2 := (HD.out.cell (p := ⟨b, off + k * 6 + 2, none⟩) hbl).trans y2
      have k3 := (HD.out.cell (p := ⟨b, off + k * 6 + 3, none⟩) hbl).trans y3
      have k4 := (HD.out.cell (p := ⟨b, off + k * 6 + 4, none⟩) hbl).trans y4
      have k5 := (HD.out.cell (p := ⟨b, off + k * 6 + 5, none⟩) hbl).trans y5
      have HS := Lib.hid (qryL_succ f t 6 hlt)
      have HTR := Lib.hid (HPT.out.1 k hlt)
      have hlq : (qryL (rs.take k) f t 6).length ≤ 400 := by
        have h1 := qryL_len (rs.take k) f t 6
        have h2 := HPT.out.2
        rw [List.length_take] at h1; omega
      obtain ⟨r0, r1, r2, r3, r4, r5, hX⟩ : ∃ a b c d e g, rs.getD k z6 = (a, b, c, d, e, g) := ⟨_, _, _, _, _, _, rfl⟩
      rw [hX] at k0 k1 k2 k3 k4 k5 HS HTR
      simp only at k0 k1 k2 k3 k4 k5 HS
      clear hX y0 y1 y2 y3 y4 y5
      have hvc := Lib.hid (fun W => hval.out (r0, r1, r2, r3, r4, r5) W HTR.out)
      generalize aggV 6 (r0, r1, r2, r3, r4, r5) = av at HS hvc
      generalize qryL (rs.take k) f t 6 = ys at HO HS hlq
      have HBx := Lib.hid (HD.out.alloc hsz (.cells #[.int .i64 r0, .int .i64 r1, .int .i64 r2, .int .i64 r3, .int .i64 r4, .int .i64 r5] 48))
      have HOx := Lib.hid (HO.out.alloc (.cells #[.int .i64 r0, .int .i64 r1, .int .i64 r2, .int .i64 r3, .int .i64 r4, .int .i64 r5] 48))
      by_cases g1 : f ≤ r0
      case neg =>
        have E := HS.out
        rw [if_neg (fun e => g1 e.1), List.append_nil] at E
        have E := Lib.hid E
        go_wp2_with fail
        go_roundw
        case rel => exact ⟨k + 1, by omega, by go_num, Lib.hid (by rw [E.out]; exact HOx.out), HBx⟩
        case measure => simp [intOf]; omega
      by_cases g2 : r0 < t
      case neg =>
        have E := HS.out
        rw [if_neg (fun e => g2 e.2), List.append_nil] at E
        have E := Lib.hid E
        go_wp2_with fail
        go_roundw
        case rel => exact ⟨k + 1, by omega, by go_num, Lib.hid (by rw [E.out]; exact HOx.out), HBx⟩
        case measure => simp [intOf]; omega
      have E := HS.out
      rw [if_pos ⟨g1, g2⟩] at E
      have E := Lib.hid E
      clear HS
      obtain ⟨Wx, hWx⟩ : ∃ Wx, wr.alloc (.cells #[.int .i64 r0, .int .i64 r1, .int .i64 r2, .int .i64 r3, .int .i64 r4, .int .i64 r5] 48) = Wx := ⟨_, rfl⟩
      have bx : BoxN Wx wr.heap.size #[.int .i64 r0, .int .i64 r1, .int .i64 r2, .int .i64 r3, .int .i64 r4, .int .i64 r5] 48 := by rw [← hWx]; exact World.alloc_heap_new wr _
      rw [hWx] at HBx HOx
      have HWx := Lib.hid hWx
      clear hWx
      have hsx := bx.lt
      have hsx3 : w3.heap.size ≤ Wx.heap.size := by omega
      have c0 := bx.cell (i := 0) rfl
      have c1 := bx.cell (i := 1) rfl
      have c2 := bx.cell (i := 2) rfl
      have c3 := bx.cell (i := 3) rfl
      have c4 := bx.cell (i := 4) rfl
      have c5 := bx.cell (i := 5) rfl
      clear bx
      go_wp2_with fail
      rw [HWx.out]
      clear k0 k1 k2 k3 k4 k5
      go_region_law (first
        | (go_simp; go_at_call 85; refine (hvc.out _).mono ?_; rintro e w5 ⟨rfl, hb5⟩; have z0 : w5.cell? ⟨wr.heap.size, 0, none⟩ = some (.int .i64 r0) := (hb5.cell (p := ⟨wr.heap.size, 0, none⟩) (by first | exact hsx | (simp; omega))).trans (by first | exact c0 | go_simp); have HO5 := Lib.hid (u_own_below (by first | exact HOx.out | exact HOx.out.drew) hb5); have HB5 := Lib.hid (HBx.out.drew.trans (hb5.mono (by first | exact hsx3 | (simp; omega)))); have hs5 := HB5.out.size; clear hb5)
        | (refine step_append_ownR _ rfl _ _ 27 rfl w3.heap.size 43 i0 (.agg #[.int .i64 0, .int .i64 0]) 2 16 Try.underlying27 hi hz0 hz1 hz2 rfl (by decide) u12 ys.length (prs ys) rfl (HO5.out.alloc _) ⟨w5.heap.size, 0, none⟩ 1 1 [.int .i64 r0, .int .i64 av] rfl rfl (two_cells (by go_simp) (by go_simp)) (fun u hu => by simp at hu; rcases hu with rfl | rfl <;> rfl) (by unfold maxLen; omega) (by omega) (by first | omega | (simp; omega)) ?_; intro v6 w6 hown6 hgrow6; have HO6 := Lib.hid (show w6.ownsRow w3.heap.size 43 2 v6 (qryL (rs.take (k + 1)) f t 6).length (prs (qryL (rs.take (k + 1)) f t 6)) from by rw [E.out, prs_append, List.length_append]; exact hown6); have HB6 := Lib.hid ((HB5.out.alloc (by omega) (.cells #[.int .i64 r0, .int .i64 av] 43)).grown hgrow6 (by first | omega | (simp; omega)) (fun j hj => (HO5.out.lt j hj).1)); clear hown6 hgrow6))
      all_goals
        go_simp
        go_wp2_with fail
        go_roundw
        case rel => exact ⟨k + 1, by omega, by go_num, HO6, HB6⟩
        case measure => simp [intOf]; omega
    · obtain rfl : k = rs.length := by omega
      have ho := HO.out
      rw [List.take_length] at ho
      have HO2 := Lib.hid ho
      clear ho
      go_wp2_with fail
      go_ret2
      rw [HNM.out, HNB.out]
      exact ⟨_, rfl, p_base' HO2.out (Nat.le_of_lt hs3), HB3.out.trans (HD.out.mono (Nat.le_of_lt hs3))⟩

theorem implQuery_any (v : Value) (c : Cs) (f t hw : Int) (w : World) (h : CV w w.heap.size v c) :
    Calls Try.prog 39 #[v, .int .i64 f, .int .i64 t, .int .i64 hw] w (QPost w.heap.size (qryM c f t hw) (qryB c f t hw) w) := by
  by_cases hp : -1 ≤ pickM c f
  · cases ht : vIn t 0 1000000000000 with
    | false => exact implQuery_to v c f t hw w h hp ht
    | true =>
      by_cases hh : 1 ≤ hw ∧ hw ≤ 6
      · by_cases h6 : hw = 6
        · subst h6; exact implQuery_mean v c f t w h hp ht
        · exact implQuery_field v c f t hw w h hp ht (by omega)
      · exact implQuery_how v c f t hw w h hp ht hh
  · exact implQuery_pick v c f t hw w h hp
end Go.Proofs.Ytcjpedolmnahfaa
