/- Walks: the law FnExactBlockOf. -/
import Derived.Test.YtbgogpfhdfgjeabDoorGd
set_option linter.unusedVariables false
set_option linter.unusedSimpArgs false
namespace Go.Proofs.YtbgogpfhdfgjeabDoor
open Go.RowKit

set_option maxRecDepth 100000 in
set_option maxHeartbeats 400000 in
theorem eqBlock_same (N : Int) (D : ByteArray) (w : World) :
    Calls Tryd.prog 12 #[.agg #[.int .i64 N, .string D], .agg #[.int .i64 N, .string D]] w fun e w' => e = .returned (.bool true) ∧ Below w.heap.size w w' := by
  go_enter Tryd.func12, Tryd.ntmps12
  go_wp2
  go_ret
  exact ⟨rfl, below2 w _ _⟩

set_option maxRecDepth 100000 in
set_option maxHeartbeats 1000000 in
theorem walkFnExactBlockOf (A : Option Addr) (n c : Nat) (w : World) (hT : Tab w) (hn : n ≤ maxLen) (hx : n ≤ 1048576 → ∃ xs : List (Int × Int), xs.length = n ∧ PL w w.heap.size (.slice A n c) xs) :
    Calls Tryd.prog 3 #[.slice A n c] w fun e w' => e = .returned (.bool true) ∧ Below w.heap.size w w' := by
  unfold maxLen at hn
  by_cases hbig : (1048576 : Int) < n
  · clear hx hT
    have e1 : wrap64 (1048576 - (n : Int)) = 1048576 - (n : Int) := by unfold wrap64; omega
    go_enter Tryd.func3, Tryd.ntmps3
    go_wp2
    go_ret
    exact ⟨rfl, Below.refl _ _⟩
  · obtain ⟨xs, rfl, hil⟩ := hx (by omega)
    have Hil := Lib.hid hil
    have Hrng := Lib.hid hil.1
    have hsp := Lib.hid (fun v W h => specBlockOf_any v xs W h)
    have him := Lib.hid (fun v W h hT => implBlockOf_any v xs W h hT)
    have HTab := Lib.hid hT
    generalize bkN xs = K at *
    generalize bkD xs = R at *
    generalize bkB xs = T at *
    have hcp := Lib.hid (fun v W h => toPointS_any v xs W h)
    have heq := Lib.hid (fun v u W h h' => eqPointS_any v u xs xs W h h')
    rw [decide_eq_true rfl] at heq
    clear hx hil hT
    have e1 : wrap64 (1048576 - (xs.length : Int)) = 1048576 - (xs.length : Int) := by unfold wrap64; omega
    go_enter Tryd.func3, Tryd.ntmps3
    go_wp2_with (first | (go_at_call 8; go_in) | fail)
    refine (hcp.out _ _ Hil.out).mono ?_
    rintro e w1 ⟨v1, rfl, hown1, hb1⟩
    have H1 := Lib.hid (PL.of_own hown1 rfl Hrng.out (by omega))
    have Hil1 := Lib.hid ((Hil.out.below hb1).up hb1.size)
    have B1 := Lib.hid hb1
    clear hown1 hb1 Hil
    go_wp2_with fail
    refine (hsp.out _ _ H1.out).mono ?_
    rintro e w2 ⟨rfl, hb2⟩
    have Hil2 := Lib.hid ((Hil1.out.below hb2).up hb2.size)
    have B2 := Lib.hid (B1.out.trans (hb2.mono B1.out.size))
    clear hb2 Hil1 B1 H1
    have ha : Below w2.heap.size w2 (w2.alloc (.cells #[.int .i64 K, .string R] 25)) := below1 w2 _
    have HA := Lib.hid ((Hil2.out.below ha).up ha.size)
    have BA := Lib.hid (B2.out.trans (ha.mono B2.out.size))
    have SA := Lib.hid (KB.new w2 K R)
    have za : w2.heap.size < (w2.alloc (.cells #[.int .i64 K, .string R] 25)).heap.size := by simp
    clear ha Hil2 B2
    go_wp2_with fail
    refine (hcp.out _ _ HA.out).mono ?_
    rintro e w3 ⟨v3, rfl, hown3, hb3⟩
    have H3 := Lib.hid (PL.of_own hown3 rfl Hrng.out (by omega))
    have Hil3 := Lib.hid ((HA.out.below hb3).up hb3.size)
    have B3 := Lib.hid (BA.out.trans (hb3.mono BA.out.size))
    have S3 := Lib.hid (SA.out.below hb3 za)
    have z3 : w2.heap.size < w3.heap.size := Nat.lt_of_lt_of_le za hb3.size
    clear hown3 hb3 HA BA SA za
    go_wp2_with fail
    refine (him.out _ _ H3.out (HTab.out.below B3.out)).mono ?_
    rintro e w4 ⟨rfl, hb4⟩
    have ha : Below w4.heap.size w4 (w4.alloc (.cells #[.int .i64 K, .string R] 25)) := below1 w4 _
    have Hil4 := Lib.hid ((((Hil3.out.below hb4).up hb4.size).below ha).up ha.size)
    have H4 := Lib.hid ((((H3.out.below hb4).up hb4.size).below ha).up ha.size)
    have B4 := Lib.hid ((B3.out.trans (hb4.mono B3.out.size)).trans (ha.mono (B3.out.trans (hb4.mono B3.out.size)).size))
    have S4 := S3.out.below hb4 z3
    have c0 := S4.c0
    have c1 := S4.c1
    have hlt : w2.heap.size < w4.heap.size := Nat.lt_of_lt_of_le z3 hb4.size
    clear hb4 ha Hil3 B3 H3 S3 S4
    go_wp2_with fail
    refine (eqBlock_same _ _ _).mono ?_
    rintro e w5 ⟨rfl, hb5⟩
    have Hil5 := Lib.hid ((Hil4.out.below hb5).up hb5.size)
    have H5 := Lib.hid ((H4.out.below hb5).up hb5.size)
    have B5 := Lib.hid (B4.out.trans (hb5.mono B4.out.size))
    clear hb5 Hil4 H4 B4 c0 c1 hlt
    go_wp2_with fail
    refine (hcp.out _ _ Hil5.out).mono ?_
    rintro e w6 ⟨v6, rfl, hown6, hb6⟩
    have H6 := Lib.hid (PL.of_own hown6 rfl Hrng.out (by omega))
    have H56 := Lib.hid ((H5.out.below hb6).up hb6.size)
    have B6 := Lib.hid (B5.out.trans (hb6.mono B5.out.size))
    clear hown6 hb6 Hil5 B5 H5
    go_wp2_with fail
    refine (heq.out _ _ _ H56.out H6.out).mono ?_
    rintro e w7 ⟨rfl, hb7⟩
    have B7 := Lib.hid (B6.out.trans (hb7.mono B6.out.size))
    clear hb7 B6
    go_wp2_with fail
    go_ret
    exact ⟨rfl, B7.out⟩
end Go.Proofs.YtbgogpfhdfgjeabDoor
