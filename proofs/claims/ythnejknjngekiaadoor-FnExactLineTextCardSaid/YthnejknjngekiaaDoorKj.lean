/- Walks: the text of a line, both. -/
import Derived.Deep.RegionHeld3
import Derived.Test.YthnejknjngekiaaDoorKi
import Derived.Test.YthnejknjngekiaaDoorKg
import Derived.Test.YthnejknjngekiaaDoorNg
set_option linter.unusedVariables false
set_option linter.unusedSimpArgs false
namespace Go.Proofs.YthnejknjngekiaaDoor
open Go.RowKit

theorem dec_size {n : Int} (h : n.natAbs < 10 ^ 13) : (dec n).size ≤ 14 := by
  have h1 := dd_len 12 n.natAbs h
  show (Lib.itoa n).toArray.size ≤ 14
  rw [List.size_toArray]
  by_cases h2 : n < 0
  · rw [itoa_neg h2, List.length_cons]; omega
  · rw [itoa_nonneg h2]; omega
def spS : ByteArray := ⟨#[32]⟩
def lnRaw (ls : List (ByteArray × ByteArray)) (V T : Int) : ByteArray := txTo ls ls.length ++ spS ++ dec V ++ spS ++ dec T
def lnText (ls : List (ByteArray × ByteArray)) (V T : Int) : ByteArray := if lineB ls V T = true then lnRaw ls V T else ⟨#[]⟩
theorem line_parts {ls : List (ByteArray × ByteArray)} {V T : Int} (h : lineB ls V T = true) : labOkB ls = true ∧ V.natAbs < 10 ^ 13 ∧ T.natAbs < 10 ^ 13 := by
  unfold lineB smB vIn at h
  simp only [Bool.and_eq_true, decide_eq_true_eq] at h
  obtain ⟨h1, h2, h3⟩ := h
  exact ⟨h1, by omega, by omega⟩

set_option maxRecDepth 100000 in
set_option maxHeartbeats 4000000 in
theorem l11Text_any (V T : Int) (rv : Value) (ls : List (ByteArray × ByteArray)) (w : World) (h : LL w w.heap.size rv ls) (hok : lineB ls V T = true) :
    Calls Tryd.prog 11 #[.agg #[rv, .int .i64 V, .int .i64 T]] w fun e w' => e = .returned (.string (lnRaw ls V T)) ∧ Below w.heap.size w w' := by
  obtain ⟨hlab, hV, hT⟩ := line_parts hok
  obtain ⟨P1, P2, P3⟩ := labOk_parts hlab
  clear hok hlab
  have HR := Lib.hid h
  obtain ⟨_, _, A, c, rfl, _⟩ := h
  obtain ⟨w1, hw1⟩ : ∃ w1, w.alloc (.cells #[.slice A ls.length c, .int .i64 V, .int .i64 T] 29) = w1 := ⟨_, rfl⟩
  have B1 := Lib.hid (show Below w.heap.size w w1 from by rw [← hw1]; exact (Below.refl _ w).alloc (Nat.le_refl _) _)
  have n0 : BoxL w1 w.heap.size #[.slice A ls.length c, .int .i64 V, .int .i64 T] 29 := by rw [← hw1]; exact World.alloc_heap_new w _
  have HW := Lib.hid hw1
  have N0 := Lib.hid n0
  have GX : Hid (∀ W, Below w1.heap.size w1 W → W.cell? ⟨w.heap.size, 0, none⟩ = some (.slice A ls.length c) ∧ W.cell? ⟨w.heap.size, 1, none⟩ = some (.int .i64 V) ∧ W.cell? ⟨w.heap.size, 2, none⟩ = some (.int .i64 T)) := Lib.hid (fun W hb => by
    have p2 : BoxL W w.heap.size #[.slice A ls.length c, .int .i64 V, .int .i64 T] 29 := (hb.block _ N0.out.lt).trans N0.out
    exact ⟨p2.cell (i := 0) rfl, p2.cell (i := 1) rfl, p2.cell (i := 2) rfl⟩)
  have HI : Hid (∀ W, Below w1.heap.size w1 W → LL W W.heap.size (.slice A ls.length c) ls) := Lib.hid (fun W hb => (HR.out.below (B1.out.trans (hb.mono B1.out.size))).up (B1.out.trans (hb.mono B1.out.size)).size)
  obtain ⟨x0, x1, x2⟩ := GX.out w1 (Below.refl _ _)
  clear hw1 n0
  have HLb : Hid (∀ W, Below w1.heap.size w1 W → Calls Tryd.prog 21 #[.slice A ls.length c] W fun e W' => e = .returned (.string (txTo ls ls.length)) ∧ Below w1.heap.size w1 W') := Lib.hid (fun W hb => (l6Text_any _ ls W (HI.out W hb) P1 P3).mono fun e W' hp => ⟨hp.1, hb.trans (hp.2.mono hb.size)⟩)
  have HV : Hid (∀ W, Below w1.heap.size w1 W → Calls Tryd.prog 22 #[.int .i64 V] W fun e W' => e = .returned (.string (dec V)) ∧ Below w1.heap.size w1 W') := Lib.hid (fun W hb => (l1Dec_any V W hV).mono fun e W' hp => ⟨hp.1, hb.trans (hp.2.mono hb.size)⟩)
  have HT : Hid (∀ W, Below w1.heap.size w1 W → Calls Tryd.prog 22 #[.int .i64 T] W fun e W' => e = .returned (.string (dec T)) ∧ Below w1.heap.size w1 W') := Lib.hid (fun W hb => (l1Dec_any T W hT).mono fun e W' hp => ⟨hp.1, hb.trans (hp.2.mono hb.size)⟩)
  have HE : Hid (lnRaw ls V T = txTo ls ls.length ++ spS ++ dec V ++ spS ++ dec T) := Lib.hid rfl
  have hzL : (txTo ls ls.length).size ≤ 110 := Nat.le_trans (txTo_size ls.length P1 ls.length (Nat.le_refl _)) (by omega)
  have hzV := dec_size hV
  have hzT := dec_size hT
  clear P1 P2 P3 hV hT
  generalize lnRaw ls V T = RES at *
  generalize txTo ls ls.length = L at *
  generalize dec V = D1 at *
  generalize dec T = D2 at *
  have s1 : ¬ 9223372036854775807 < L.size + 1 := by omega
  have s2 : ¬ 9223372036854775807 < L.size + 1 + D1.size := by omega
  have s3 : ¬ 9223372036854775807 < L.size + 1 + D1.size + 1 := by omega
  have s4 : ¬ 9223372036854775807 < L.size + 1 + D1.size + 1 + D2.size := by omega
  clear hzL hzV hzT
  have HKO : Hid (∀ W, Below w1.heap.size w1 W → Below w1.heap.size w1 W ∧ W.cell? ⟨w.heap.size, 0, none⟩ = some (.slice A ls.length c) ∧ W.cell? ⟨w.heap.size, 1, none⟩ = some (.int .i64 V) ∧ W.cell? ⟨w.heap.size, 2, none⟩ = some (.int .i64 T)) := Lib.hid (fun W hb => ⟨hb, GX.out W hb⟩)
  have HK0 := Lib.hid (HKO.out _ (Below.refl w1.heap.size w1).drew)
  go_enter Tryd.func11, Tryd.ntmps11
  go_wp2_with fail
  rw [HW.out]
  go_wp2_with fail
  go_region_held3 (fun W => Below w1.heap.size w1 W ∧ W.cell? ⟨w.heap.size, 0, none⟩ = some (.slice A ls.length c) ∧ W.cell? ⟨w.heap.size, 1, none⟩ = some (.int .i64 V) ∧ W.cell? ⟨w.heap.size, 2, none⟩ = some (.int .i64 T))
    (first | with_reducible assumption | with_reducible exact HK0.out | with_reducible exact HKO.out _ (by assumption))
    (first | (go_at_call 21; (with_reducible refine (HLb.out _ (And.left (by assumption))).mono ?_); rintro e w2 ⟨rfl, hb2⟩) | (go_at_call 22; (with_reducible refine (HV.out _ (And.left (by assumption))).mono ?_); rintro e w3 ⟨rfl, hb3⟩) | (go_at_call 22; (with_reducible refine (HT.out _ (And.left (by assumption))).mono ?_); rintro e w4 ⟨rfl, hb4⟩; have G3 := Lib.hid hb4))
  all_goals (
    go_wp2_with fail
    go_ret
    exact ⟨by rw [HE.out]; rfl, B1.out.trans (G3.out.mono B1.out.size)⟩)

set_option maxRecDepth 100000 in
set_option maxHeartbeats 4000000 in
theorem specLineText_any (V T : Int) (rv : Value) (ls : List (ByteArray × ByteArray)) (w : World) (h : LL w w.heap.size rv ls) :
    Calls Tryd.prog 5 #[.agg #[rv, .int .i64 V, .int .i64 T]] w fun e w' => e = .returned (.string (lnText ls V T)) ∧ Below w.heap.size w w' := by
  have HO := Lib.hid (fun W h => specLineOk_any V T rv ls W h)
  have HX := Lib.hid (fun W h hok => l11Text_any V T rv ls W h hok)
  have HR := Lib.hid h
  obtain ⟨_, _, A, c, rfl, _⟩ := h
  obtain ⟨w1, hw1⟩ : ∃ w1, w.alloc (.cells #[.slice A ls.length c, .int .i64 V, .int .i64 T] 29) = w1 := ⟨_, rfl⟩
  have B1 := Lib.hid (show Below w.heap.size w w1 from by rw [← hw1]; exact (Below.refl _ w).alloc (Nat.le_refl _) _)
  have n0 : BoxL w1 w.heap.size #[.slice A ls.length c, .int .i64 V, .int .i64 T] 29 := by rw [← hw1]; exact World.alloc_heap_new w _
  have HW := Lib.hid hw1
  have N0 := Lib.hid n0
  have GX : Hid (∀ W, Below w1.heap.size w1 W → W.cell? ⟨w.heap.size, 0, none⟩ = some (.slice A ls.length c) ∧ W.cell? ⟨w.heap.size, 1, none⟩ = some (.int .i64 V) ∧ W.cell? ⟨w.heap.size, 2, none⟩ = some (.int .i64 T)) := Lib.hid (fun W hb => by
    have p2 : BoxL W w.heap.size #[.slice A ls.length c, .int .i64 V, .int .i64 T] 29 := (hb.block _ N0.out.lt).trans N0.out
    exact ⟨p2.cell (i := 0) rfl, p2.cell (i := 1) rfl, p2.cell (i := 2) rfl⟩)
  have HI : Hid (∀ W, Below w1.heap.size w1 W → LL W W.heap.size (.slice A ls.length c) ls) := Lib.hid (fun W hb => (HR.out.below (B1.out.trans (hb.mono B1.out.size))).up (B1.out.trans (hb.mono B1.out.size)).size)
  obtain ⟨x0, x1, x2⟩ := GX.out w1 (Below.refl _ _)
  clear hw1 n0
  cases hok : lineB ls V T with
  | false =>
    have E : Hid (lnText ls V T = ⟨#[]⟩) := Lib.hid (by unfold lnText; rw [if_neg (by rw [hok]; exact Bool.false_ne_true)])
    rw [hok] at HO
    clear hok HX
    go_enter Tryd.func5, Tryd.ntmps5
    go_wp2_with fail
    rw [HW.out]
    go_wp2_with fail
    refine (HO.out _ (HI.out w1 (Below.refl _ _))).mono ?_
    rintro e w2 ⟨rfl, hb2⟩
    have G2 := Lib.hid (B1.out.trans (hb2.mono B1.out.size))
    clear hb2
    go_wp2_with fail
    go_ret
    exact ⟨by rw [E.out]; rfl, G2.out⟩
  | true =>
    have E : Hid (lnText ls V T = lnRaw ls V T) := Lib.hid (by unfold lnText; rw [if_pos hok])
    have HX1 := Lib.hid (fun W h => HX.out W h hok)
    rw [hok] at HO
    clear hok HX
    generalize lnRaw ls V T = RES at *
    go_enter Tryd.func5, Tryd.ntmps5
    go_wp2_with fail
    rw [HW.out]
    go_wp2_with fail
    refine (HO.out _ (HI.out w1 (Below.refl _ _))).mono ?_
    rintro e w2 ⟨rfl, hb2⟩
    have I2 := Lib.hid (HI.out w2 hb2)
    have G2 := Lib.hid (B1.out.trans (hb2.mono B1.out.size))
    obtain ⟨y0, y1, y2⟩ := GX.out w2 hb2
    clear hb2 x0 x1 x2
    go_wp2_with fail
    refine (HX1.out _ I2.out).mono ?_
    rintro e w3 ⟨rfl, hb3⟩
    have G3 := Lib.hid (G2.out.trans (hb3.mono G2.out.size))
    clear hb3
    go_wp2_with fail
    go_ret
    exact ⟨by rw [E.out]; rfl, G3.out⟩

set_option maxRecDepth 100000 in
set_option maxHeartbeats 4000000 in
theorem implLineText_any (V T : Int) (rv : Value) (ls : List (ByteArray × ByteArray)) (w : World) (h : LL w w.heap.size rv ls) (pt : PTab w) :
    Calls Tryd.prog 7 #[.agg #[rv, .int .i64 V, .int .i64 T]] w fun e w' => e = .returned (.string (lnText ls V T)) ∧ Below w.heap.size w w' := by
  have HO := Lib.hid (fun W h => implLineOk_any V T rv ls W h)
  have PT := Lib.hid pt
  have HR := Lib.hid h
  obtain ⟨_, _, A, c, rfl, _⟩ := h
  obtain ⟨w1, hw1⟩ : ∃ w1, w.alloc (.cells #[.slice A ls.length c, .int .i64 V, .int .i64 T] 29) = w1 := ⟨_, rfl⟩
  have B1 := Lib.hid (show Below w.heap.size w w1 from by rw [← hw1]; exact (Below.refl _ w).alloc (Nat.le_refl _) _)
  have n0 : BoxL w1 w.heap.size #[.slice A ls.length c, .int .i64 V, .int .i64 T] 29 := by rw [← hw1]; exact World.alloc_heap_new w _
  have HW := Lib.hid hw1
  have N0 := Lib.hid n0
  have GX : Hid (∀ W, Below w1.heap.size w1 W → W.cell? ⟨w.heap.size, 0, none⟩ = some (.slice A ls.length c) ∧ W.cell? ⟨w.heap.size, 1, none⟩ = some (.int .i64 V) ∧ W.cell? ⟨w.heap.size, 2, none⟩ = some (.int .i64 T)) := Lib.hid (fun W hb => by
    have p2 : BoxL W w.heap.size #[.slice A ls.length c, .int .i64 V, .int .i64 T] 29 := (hb.block _ N0.out.lt).trans N0.out
    exact ⟨p2.cell (i := 0) rfl, p2.cell (i := 1) rfl, p2.cell (i := 2) rfl⟩)
  have HI : Hid (∀ W, Below w1.heap.size w1 W → LL W W.heap.size (.slice A ls.length c) ls) := Lib.hid (fun W hb => (HR.out.below (B1.out.trans (hb.mono B1.out.size))).up (B1.out.trans (hb.mono B1.out.size)).size)
  obtain ⟨x0, x1, x2⟩ := GX.out w1 (Below.refl _ _)
  clear hw1 n0
  cases hok : lineB ls V T with
  | false =>
    have E : Hid (lnText ls V T = ⟨#[]⟩) := Lib.hid (by unfold lnText; rw [if_neg (by rw [hok]; exact Bool.false_ne_true)])
    rw [hok] at HO
    clear hok
    go_enter Tryd.func7, Tryd.ntmps7
    go_wp2_with fail
    rw [HW.out]
    go_wp2_with fail
    refine (HO.out _ (HI.out w1 (Below.refl _ _))).mono ?_
    rintro e w2 ⟨rfl, hb2⟩
    have G2 := Lib.hid (B1.out.trans (hb2.mono B1.out.size))
    clear hb2
    go_wp2_with fail
    go_ret
    exact ⟨by rw [E.out]; rfl, G2.out⟩
  | true =>
  have HE : Hid (lnText ls V T = txTo ls ls.length ++ spS ++ dec V ++ spS ++ dec T) := Lib.hid (by unfold lnText; rw [if_pos hok]; rfl)
  obtain ⟨hlab, hV, hT⟩ := line_parts hok
  obtain ⟨P1, P2, P3⟩ := labOk_parts hlab
  rw [hok] at HO
  have elb : lbText ls = txTo ls ls.length := by unfold lbText; rw [if_pos hlab]
  clear hok hlab
  have HLb : Hid (∀ W, Below w1.heap.size w1 W → Calls Tryd.prog 14 #[.slice A ls.length c] W fun e W' => e = .returned (.string (txTo ls ls.length)) ∧ Below w1.heap.size w1 W') := Lib.hid (fun W hb => (implLabelsText_any _ ls W (HI.out W hb)).mono fun e W' hp => ⟨by rw [← elb]; exact hp.1, hb.trans (hp.2.mono hb.size)⟩)
  have HV : Hid (∀ W, Below w1.heap.size w1 W → Calls Tryd.prog 15 #[.int .i64 V] W fun e W' => e = .returned (.string (dec V)) ∧ Below w1.heap.size w1 W') := Lib.hid (fun W hb => (decimal_any V W (by omega) (by omega) (PT.out.below (B1.out.trans (hb.mono B1.out.size)))).mono fun e W' hp => ⟨hp.1, hb.trans (hp.2.mono hb.size)⟩)
  have HT : Hid (∀ W, Below w1.heap.size w1 W → Calls Tryd.prog 15 #[.int .i64 T] W fun e W' => e = .returned (.string (dec T)) ∧ Below w1.heap.size w1 W') := Lib.hid (fun W hb => (decimal_any T W (by omega) (by omega) (PT.out.below (B1.out.trans (hb.mono B1.out.size)))).mono fun e W' hp => ⟨hp.1, hb.trans (hp.2.mono hb.size)⟩)
  have hzL : (txTo ls ls.length).size ≤ 110 := Nat.le_trans (txTo_size ls.length P1 ls.length (Nat.le_refl _)) (by omega)
  have hzV := dec_size hV
  have hzT := dec_size hT
  clear P1 P2 P3 hV hT elb
  generalize lnText ls V T = RES at *
  generalize txTo ls ls.length = L at *
  generalize dec V = D1 at *
  generalize dec T = D2 at *
  have s1 : ¬ 9223372036854775807 < L.size + 1 := by omega
  have s2 : ¬ 9223372036854775807 < L.size + 1 + D1.size := by omega
  have s3 : ¬ 9223372036854775807 < L.size + 1 + D1.size + 1 := by omega
  have s4 : ¬ 9223372036854775807 < L.size + 1 + D1.size + 1 + D2.size := by omega
  clear hzL hzV hzT
  have HKO : Hid (∀ W, Below w1.heap.size w1 W → Below w1.heap.size w1 W ∧ W.cell? ⟨w.heap.size, 0, none⟩ = some (.slice A ls.length c) ∧ W.cell? ⟨w.heap.size, 1, none⟩ = some (.int .i64 V) ∧ W.cell? ⟨w.heap.size, 2, none⟩ = some (.int .i64 T)) := Lib.hid (fun W hb => ⟨hb, GX.out W hb⟩)
  go_enter Tryd.func7, Tryd.ntmps7
  go_wp2_with fail
  rw [HW.out]
  go_wp2_with fail
  refine (HO.out _ (HI.out w1 (Below.refl _ _))).mono ?_
  rintro e w2 ⟨rfl, hb2⟩
  have HK0 := Lib.hid (HKO.out _ hb2.drew)
  clear hb2 x0 x1 x2
  go_wp2_with fail
  go_region_held3 (fun W => Below w1.heap.size w1 W ∧ W.cell? ⟨w.heap.size, 0, none⟩ = some (.slice A ls.length c) ∧ W.cell? ⟨w.heap.size, 1, none⟩ = some (.int .i64 V) ∧ W.cell? ⟨w.heap.size, 2, none⟩ = some (.int .i64 T))
    (first | with_reducible assumption | with_reducible exact HK0.out | with_reducible exact HKO.out _ (by assumption))
    (first | (go_at_call 14; (with_reducible refine (HLb.out _ (And.left (by assumption))).mono ?_); rintro e w2 ⟨rfl, hb2⟩) | (go_at_call 15; (with_reducible refine (HV.out _ (And.left (by assumption))).mono ?_); rintro e w3 ⟨rfl, hb3⟩) | (go_at_call 15; (with_reducible refine (HT.out _ (And.left (by assumption))).mono ?_); rintro e w4 ⟨rfl, hb4⟩; have G3 := Lib.hid hb4))
  all_goals (
    go_wp2_with fail
    go_ret
    exact ⟨by rw [HE.out]; rfl, B1.out.trans (G3.out.mono B1.out.size)⟩)

end Go.Proofs.YthnejknjngekiaaDoor
