/- Walks: the program's code of a step; the law FnExactCodeOf. -/
import Derived.Test.YtbgogpfhdfgjeaaCd
import Derived.Test.YtbgogpfhdfgjeaaLc
set_option linter.unusedVariables false
set_option linter.unusedSimpArgs false
namespace Go.Proofs.Ytbgogpfhdfgjeaa
open Go.RowKit

theorem fits0 (v : Int) : fitsB v 0 = decide (v = 0) := by
  unfold fitsB; apply decide_eq_decide.2
  rw [show (2 : Int) ^ (0 : Int).toNat = 1 by decide]; omega
theorem fits7 (v : Int) : fitsB v 7 = decide (0 ≤ v ∧ v < 128) := by
  unfold fitsB; apply decide_eq_decide.2
  rw [show (2 : Int) ^ (7 : Int).toNat = 128 by decide]; omega
theorem fits9 (v : Int) : fitsB v 9 = decide (0 ≤ v ∧ v < 512) := by
  unfold fitsB; apply decide_eq_decide.2
  rw [show (2 : Int) ^ (9 : Int).toNat = 512 by decide]; omega
theorem fits12 (v : Int) : fitsB v 12 = decide (0 ≤ v ∧ v < 4096) := by
  unfold fitsB; apply decide_eq_decide.2
  rw [show (2 : Int) ^ (12 : Int).toNat = 4096 by decide]; omega
theorem fits42 (v : Int) : fitsB v 42 = decide (0 ≤ v ∧ v < 4398046511104) := by
  unfold fitsB; apply decide_eq_decide.2
  rw [show (2 : Int) ^ (42 : Int).toNat = 4398046511104 by decide]; omega

set_option maxRecDepth 100000 in
set_option maxHeartbeats 1000000 in
theorem codesPut_out (g gc : Nat) (d : Int) (w : World) (hr : stepB d = false) :
    Calls Try.prog 45 #[.pointer (some ⟨gc, 0, none⟩), .pointer (some ⟨g, 0, none⟩), .int .i64 d] w fun e w' => e = .returned (.tuple #[]) ∧ w' = w := by
  have hh : d < -1000000000000 ∨ (¬ d < -1000000000000 ∧ 1000000000000 < d) := by
    have := mt stepB_iff.2 (by rw [hr]; decide : ¬ stepB d = true)
    omega
  clear hr
  rcases hh with hh | ⟨h1, h2⟩
  · go_enter Try.func45, Try.ntmps45
    go_wp2_with fail
    exact bodyPost_ret (results_none rfl _ _ _) rfl ⟨rfl, rfl⟩
  · go_enter Try.func45, Try.ntmps45
    go_wp2_with fail
    exact bodyPost_ret (results_none rfl _ _ _) rfl ⟨rfl, rfl⟩

theorem grownBy_rfl (w : World) (r : Option Nat) : w.grownBy w r := ⟨rfl, rfl, rfl, Nat.le_refl _, fun _ _ _ => rfl⟩
theorem codesPut_any (g gc : Nat) (l : List Bool) (d : Int) (w : World) (hcs : CodesAt w gc) (hl : BitsAt w g l) (hn : l.length + 46 ≤ 20000) :
    Calls Try.prog 45 #[.pointer (some ⟨gc, 0, none⟩), .pointer (some ⟨g, 0, none⟩), .int .i64 d] w (PutPost g (l ++ codeB d) (.tuple #[]) w) := by
  cases hs : stepB d with
  | false =>
    refine (codesPut_out g gc d w hs).mono ?_
    rintro e w' ⟨rfl, rfl⟩
    have hB : codeB d = [] := by unfold codeB; rw [hs]; rfl
    rw [hB, List.append_nil]
    exact ⟨rfl, hl, grownBy_rfl _ _⟩
  | true =>
    have hr := stepB_iff.1 hs
    have hB : codeB d = codeL d := by unfold codeB; rw [hs]; rfl
    rw [hB]
    unfold codeL
    split
    · rename_i h0
      subst h0
      exact codesPut_0 g gc l 0 w hcs hl hr.1 hr.2 hn (by rw [fits0]; decide) _ (Lib.hid (by rw [List.append_assoc]; rfl))
    · rename_i h0
      have F0 : fitsB (d + 0) 0 = false := by rw [fits0, decide_eq_false_iff_not]; omega
      split
      · rename_i h1
        exact codesPut_1 g gc l d w hcs hl hr.1 hr.2 hn F0 (by rw [fits7, decide_eq_true_iff]; omega) _ (Lib.hid (by rw [List.append_assoc]; rfl))
      · rename_i h1
        have F1 : fitsB (d + 63) 7 = false := by rw [fits7, decide_eq_false_iff_not]; omega
        split
        · rename_i h2
          exact codesPut_2 g gc l d w hcs hl hr.1 hr.2 hn F0 F1 (by rw [fits9, decide_eq_true_iff]; omega) _ (Lib.hid (by rw [List.append_assoc]; rfl))
        · rename_i h2
          have F2 : fitsB (d + 255) 9 = false := by rw [fits9, decide_eq_false_iff_not]; omega
          split
          · rename_i h3
            exact codesPut_3 g gc l d w hcs hl hr.1 hr.2 hn F0 F1 F2 (by rw [fits12, decide_eq_true_iff]; omega) _ (Lib.hid (by rw [List.append_assoc]; rfl))
          · rename_i h3
            have F3 : fitsB (d + 2047) 12 = false := by rw [fits12, decide_eq_false_iff_not]; omega
            exact codesPut_4 g gc l d w hcs hl hr.1 hr.2 hn F0 F1 F2 F3 (by rw [fits42, decide_eq_true_iff]; omega) _ (Lib.hid (by rw [List.append_assoc]; rfl))

set_option maxRecDepth 100000 in
set_option maxHeartbeats 1000000 in
theorem implCodeOf_go (d : Int) (w : World) (R : List UInt8) (hR : Hid (BM.pack (codeB d) = R)) (n : Nat) (hn : Hid ((codeB d).length = n)) :
    Calls Try.prog 11 #[.int .i64 d] w fun e w' => e = .returned (.agg #[.string ⟨R.toArray⟩, .int .i64 (n : Int)]) ∧ Below w.heap.size w w' := by
  go_enter Try.func11, Try.ntmps11
  go_wp2_with (first
    | (with_reducible refine wl_alloc_ba ?_))
  refine (newStepCodes_any _).mono ?_
  rintro e w1 ⟨gc, rfl, hcs, hgc, hb1⟩
  have hz : w.heap.size + 2 ≤ w1.heap.size := by have := hb1.size; simpa using this
  have hr0 : ResBlk ((w.alloc (.cells #[.string ⟨#[]⟩, .int .i64 0] 26)).alloc (.cells (baCells zeroWs 0) 71)) w.heap.size := heap_alloc2_old _ _ _
  have hbk0 : BaBlk ((w.alloc (.cells #[.string ⟨#[]⟩, .int .i64 0] 26)).alloc (.cells (baCells zeroWs 0) 71)) (w.heap.size + 1) zeroWs 0 := heap_alloc2_new _ _ _
  have hl0 : BitsAt ((w.alloc (.cells #[.string ⟨#[]⟩, .int .i64 0] 26)).alloc (.cells (baCells zeroWs 0) 71)) (w.heap.size + 1) [] := ⟨zeroWs, hbk0, BM.words_zero⟩
  have hl1 := hl0.below hb1
  have hr1 := hr0.below hb1
  have hf1 : Below w.heap.size w w1 := (below2 w _ _).trans (hb1.mono (by simp; omega))
  have HL := Lib.hid hl1
  have HC := Lib.hid hcs
  have HR := Lib.hid hr1
  have HF := Lib.hid hf1
  clear hr0 hbk0 hl0 hl1 hr1 hb1 hf1 hcs
  go_wp2_with fail
  refine (codesPut_any _ gc [] d _ HC.out HL.out (by simp)).mono ?_
  rintro e w2 ⟨rfl, hl2, hg2⟩
  rw [List.nil_append] at hl2
  have hr2 := HR.out.grown hg2 (by simp)
  have hf2 := HF.out.grown hg2 (by omega) (fun k hk => by injection hk with hk; omega)
  have hz2 := hg2.size
  obtain ⟨ws, hb2, hw2⟩ := hl2
  have hpk := packed_any (w.heap.size + 1) ws (codeB d) w2 hb2 hw2
  rw [hR.out, hn.out] at hpk
  have HP := Lib.hid hpk
  have HR2 := Lib.hid hr2
  have HF2 := Lib.hid hf2
  clear hg2 hb2 hw2 hr2 hf2 hpk
  go_wp2_with fail
  refine HP.out.mono ?_
  rintro e w3 ⟨rfl, hb3⟩
  have hr3 := HR2.out.below hb3
  have hf3 := HF2.out.trans (hb3.mono (by omega))
  have r0 := hr3.c0
  have r1 := hr3.c1
  have f0 := hr3.f 0
  have f1 := hr3.f 1
  clear hb3 hr3
  go_wp2_with fail
  exact bodyPost_ret (v := .agg #[.string ⟨R.toArray⟩, .int .i64 (n : Int)]) (by simp [results, Try.results11, go_sem, r0, r1]) rfl
    ⟨rfl, (hf3.setCell (by simp) _).setCell (by simp) _⟩

theorem implCodeOf_any (d : Int) (w : World) :
    Calls Try.prog 11 #[.int .i64 d] w fun e w' => e = .returned (.agg #[.string ⟨(BM.pack (codeB d)).toArray⟩, .int .i64 ((codeB d).length : Int)]) ∧ Below w.heap.size w w' :=
  implCodeOf_go d w _ (Lib.hid rfl) _ (Lib.hid rfl)

end Go.Proofs.Ytbgogpfhdfgjeaa
