/- Walks: the law FnExactMatches. -/
import Derived.Test.YtbgogpfhdfgjeabNl
import Derived.Test.YtbgogpfhdfgjeabNe
set_option linter.unusedVariables false
set_option linter.unusedSimpArgs false
namespace Go.Proofs.Ytbgogpfhdfgjeab
open Go.RowKit

set_option maxRecDepth 100000 in
set_option maxHeartbeats 4000000 in
theorem walkFnExactMatches (A : Option Addr) (n c : Nat) (A' : Option Addr) (n' c' : Nat) (w : World) (hn : n ≤ maxLen) (hn' : n' ≤ maxLen)
    (hx : n ≤ 1048576 → ∃ xs : List (ByteArray × ByteArray), xs.length = n ∧ LL w w.heap.size (.slice A n c) xs)
    (hx' : n' ≤ 1048576 → ∃ ms : List MT, ms.length = n' ∧ ML w w.heap.size (.slice A' n' c') ms) :
    Calls Try.prog 6 #[.slice A n c, .slice A' n' c'] w fun e w' => e = .returned (.bool true) ∧ Below w.heap.size w w' := by
  have HZ := Lib.hid (szLabelS_any A n c 1048576 w hn (by omega) hx)
  have HZ2 := Lib.hid (fun l W hl hx => szMatchS_any A' n' c' l W hn' hl hx)
  go_enter Try.func6, Try.ntmps6
  go_wp2_with fail
  refine HZ.out.mono ?_
  rintro e w0 ⟨⟨r, rfl, hr⟩, hb0⟩
  rcases hr with rfl | ⟨m, rfl, hm, hn2⟩
  · go_wp2_with fail
    go_ret
    exact ⟨rfl, hb0⟩
  · obtain ⟨xs, rfl, hil⟩ := hx hn2
    have Hil0 := Lib.hid ((hil.below hb0).up hb0.size)
    have Hrng := Lib.hid hil.1
    have HX0 := Lib.hid (fun h : n' ≤ 1048576 => (hx' h).imp fun ms h2 => (⟨h2.1, (h2.2.below hb0).up hb0.size⟩ : ms.length = n' ∧ ML w0 w0.heap.size (.slice A' n' c') ms))
    have HZ3 := Lib.hid (HZ2.out m w0 hm HX0.out)
    have B00 := Lib.hid hb0
    clear hx hx' hil hb0 HZ HZ2
    go_wp2_with fail
    refine HZ3.out.mono ?_
    rintro e w00 ⟨⟨r, rfl, hr⟩, hb00⟩
    rcases hr with rfl | ⟨m', rfl, hm', hn2'⟩
    · go_wp2_with fail
      go_ret
      exact ⟨rfl, B00.out.trans (hb00.mono B00.out.size)⟩
    · obtain ⟨ms, rfl, hml⟩ := HX0.out hn2'
      have Hml := Lib.hid ((hml.below hb00).up hb00.size)
      have Hil := Lib.hid ((Hil0.out.below hb00).up hb00.size)
      have Hrng2 := Lib.hid hml.1
      have B := Lib.hid (B00.out.trans (hb00.mono B00.out.size))
      have hsp := Lib.hid (fun v u W h h' => specMatches_any v u xs ms W h h')
      have him := Lib.hid (fun v u W h h' => implMatches_any v u xs ms W h h')
      have hcp := Lib.hid (fun v W h => toLabelS_any v xs W h)
      have hcm := Lib.hid (fun v W h => toMatchS_any v ms W h)
      have heq := Lib.hid (fun v u W h h' => eqLabelS_any v u xs xs W h h')
      have heqm := Lib.hid (fun v u W h h' => eqMatchS_any v u ms ms W h h')
      rw [decide_eq_true rfl] at heq heqm
      clear HX0 hml Hil0 hb00 HZ3 B00
      generalize matB xs ms = S at *
      cases S
      all_goals
        go_wp2_with fail
        refine (hcp.out _ _ Hil.out).mono ?_
        rintro e w1 ⟨v1, rfl, hown1, hb1⟩
        have H1 := Lib.hid (LL.of_own hown1 rfl Hrng.out (by omega))
        have HilT := Lib.hid ((Hil.out.below hb1).up hb1.size)
        clear Hil
        have Hil := HilT
        clear HilT
        have HmlT := Lib.hid ((Hml.out.below hb1).up hb1.size)
        clear Hml
        have Hml := HmlT
        clear HmlT
        have BT := Lib.hid (B.out.trans (hb1.mono B.out.size))
        clear B
        have B := BT
        clear BT
        clear hb1 hown1
        go_wp2_with fail
        refine (hcm.out _ _ Hml.out).mono ?_
        rintro e w2 ⟨v2, rfl, hown2, hb2⟩
        have H2 := Lib.hid (ML.of_own hown2 rfl Hrng2.out (by omega))
        have HilT := Lib.hid ((Hil.out.below hb2).up hb2.size)
        clear Hil
        have Hil := HilT
        clear HilT
        have HmlT := Lib.hid ((Hml.out.below hb2).up hb2.size)
        clear Hml
        have Hml := HmlT
        clear HmlT
        have H1T := Lib.hid ((H1.out.below hb2).up hb2.size)
        clear H1
        have H1 := H1T
        clear H1T
        have BT := Lib.hid (B.out.trans (hb2.mono B.out.size))
        clear B
        have B := BT
        clear BT
        clear hb2 hown2
        go_wp2_with fail
        refine (hsp.out _ _ _ H1.out H2.out).mono ?_
        rintro e w3 ⟨rfl, hb3⟩
        have HilT := Lib.hid ((Hil.out.below hb3).up hb3.size)
        clear Hil
        have Hil := HilT
        clear HilT
        have HmlT := Lib.hid ((Hml.out.below hb3).up hb3.size)
        clear Hml
        have Hml := HmlT
        clear HmlT
        have H1T := Lib.hid ((H1.out.below hb3).up hb3.size)
        clear H1
        have H1 := H1T
        clear H1T
        have H2T := Lib.hid ((H2.out.below hb3).up hb3.size)
        clear H2
        have H2 := H2T
        clear H2T
        have BT := Lib.hid (B.out.trans (hb3.mono B.out.size))
        clear B
        have B := BT
        clear BT
        clear hb3
        clear H1 H2
        go_wp2_with fail
        refine (hcp.out _ _ Hil.out).mono ?_
        rintro e w4 ⟨v4, rfl, hown4, hb4⟩
        have H1 := Lib.hid (LL.of_own hown4 rfl Hrng.out (by omega))
        have HilT := Lib.hid ((Hil.out.below hb4).up hb4.size)
        clear Hil
        have Hil := HilT
        clear HilT
        have HmlT := Lib.hid ((Hml.out.below hb4).up hb4.size)
        clear Hml
        have Hml := HmlT
        clear HmlT
        have BT := Lib.hid (B.out.trans (hb4.mono B.out.size))
        clear B
        have B := BT
        clear BT
        clear hb4 hown4
        go_wp2_with fail
        refine (hcm.out _ _ Hml.out).mono ?_
        rintro e w5 ⟨v5, rfl, hown5, hb5⟩
        have H2 := Lib.hid (ML.of_own hown5 rfl Hrng2.out (by omega))
        have HilT := Lib.hid ((Hil.out.below hb5).up hb5.size)
        clear Hil
        have Hil := HilT
        clear HilT
        have HmlT := Lib.hid ((Hml.out.below hb5).up hb5.size)
        clear Hml
        have Hml := HmlT
        clear HmlT
        have H1T := Lib.hid ((H1.out.below hb5).up hb5.size)
        clear H1
        have H1 := H1T
        clear H1T
        have BT := Lib.hid (B.out.trans (hb5.mono B.out.size))
        clear B
        have B := BT
        clear BT
        clear hb5 hown5
        go_wp2_with fail
        refine (him.out _ _ _ H1.out H2.out).mono ?_
        rintro e w6 ⟨rfl, hb6⟩
        have HilT := Lib.hid ((Hil.out.below hb6).up hb6.size)
        clear Hil
        have Hil := HilT
        clear HilT
        have HmlT := Lib.hid ((Hml.out.below hb6).up hb6.size)
        clear Hml
        have Hml := HmlT
        clear HmlT
        have H1T := Lib.hid ((H1.out.below hb6).up hb6.size)
        clear H1
        have H1 := H1T
        clear H1T
        have H2T := Lib.hid ((H2.out.below hb6).up hb6.size)
        clear H2
        have H2 := H2T
        clear H2T
        have BT := Lib.hid (B.out.trans (hb6.mono B.out.size))
        clear B
        have B := BT
        clear BT
        clear hb6
        go_wp2_with fail
        refine (hcp.out _ _ Hil.out).mono ?_
        rintro e w7 ⟨v7, rfl, hown7, hb7⟩
        have H3 := Lib.hid (LL.of_own hown7 rfl Hrng.out (by omega))
        have HilT := Lib.hid ((Hil.out.below hb7).up hb7.size)
        clear Hil
        have Hil := HilT
        clear HilT
        have HmlT := Lib.hid ((Hml.out.below hb7).up hb7.size)
        clear Hml
        have Hml := HmlT
        clear HmlT
        have H1T := Lib.hid ((H1.out.below hb7).up hb7.size)
        clear H1
        have H1 := H1T
        clear H1T
        have H2T := Lib.hid ((H2.out.below hb7).up hb7.size)
        clear H2
        have H2 := H2T
        clear H2T
        have BT := Lib.hid (B.out.trans (hb7.mono B.out.size))
        clear B
        have B := BT
        clear BT
        clear hb7 hown7
        go_wp2_with fail
        refine (heq.out _ _ _ H1.out H3.out).mono ?_
        rintro e w8 ⟨rfl, hb8⟩
        have HilT := Lib.hid ((Hil.out.below hb8).up hb8.size)
        clear Hil
        have Hil := HilT
        clear HilT
        have HmlT := Lib.hid ((Hml.out.below hb8).up hb8.size)
        clear Hml
        have Hml := HmlT
        clear HmlT
        have H1T := Lib.hid ((H1.out.below hb8).up hb8.size)
        clear H1
        have H1 := H1T
        clear H1T
        have H2T := Lib.hid ((H2.out.below hb8).up hb8.size)
        clear H2
        have H2 := H2T
        clear H2T
        have H3T := Lib.hid ((H3.out.below hb8).up hb8.size)
        clear H3
        have H3 := H3T
        clear H3T
        have BT := Lib.hid (B.out.trans (hb8.mono B.out.size))
        clear B
        have B := BT
        clear BT
        clear hb8
        clear H1 H3
        go_wp2_with fail
        refine (hcm.out _ _ Hml.out).mono ?_
        rintro e w9 ⟨v9, rfl, hown9, hb9⟩
        have H4 := Lib.hid (ML.of_own hown9 rfl Hrng2.out (by omega))
        have HilT := Lib.hid ((Hil.out.below hb9).up hb9.size)
        clear Hil
        have Hil := HilT
        clear HilT
        have HmlT := Lib.hid ((Hml.out.below hb9).up hb9.size)
        clear Hml
        have Hml := HmlT
        clear HmlT
        have H2T := Lib.hid ((H2.out.below hb9).up hb9.size)
        clear H2
        have H2 := H2T
        clear H2T
        have BT := Lib.hid (B.out.trans (hb9.mono B.out.size))
        clear B
        have B := BT
        clear BT
        clear hb9 hown9
        go_wp2_with fail
        refine (heqm.out _ _ _ H2.out H4.out).mono ?_
        rintro e w10 ⟨rfl, hb10⟩
        have HilT := Lib.hid ((Hil.out.below hb10).up hb10.size)
        clear Hil
        have Hil := HilT
        clear HilT
        have HmlT := Lib.hid ((Hml.out.below hb10).up hb10.size)
        clear Hml
        have Hml := HmlT
        clear HmlT
        have H2T := Lib.hid ((H2.out.below hb10).up hb10.size)
        clear H2
        have H2 := H2T
        clear H2T
        have H4T := Lib.hid ((H4.out.below hb10).up hb10.size)
        clear H4
        have H4 := H4T
        clear H4T
        have BT := Lib.hid (B.out.trans (hb10.mono B.out.size))
        clear B
        have B := BT
        clear BT
        clear hb10
        clear H2 H4
        go_wp2_with fail
        go_ret
        exact ⟨rfl, B.out⟩
end Go.Proofs.Ytbgogpfhdfgjeab
