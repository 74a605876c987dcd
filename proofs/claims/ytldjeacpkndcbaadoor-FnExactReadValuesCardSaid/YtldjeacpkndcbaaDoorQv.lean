/- Walk: the law FnExactReadValues. -/
import Derived.Test.YtldjeacpkndcbaaDoorQu
set_option linter.unusedVariables false
set_option linter.unusedSimpArgs false
namespace Go.Proofs.YtldjeacpkndcbaaDoor
open Go.RowKit

theorem rv_ok (s : ByteArray) (N a n : Int) : (∀ j, Rng ((rvX (readVs s N a n)).getD j 0)) ∧ (rvX (readVs s N a n)).length ≤ 120 := by
  have hnil : (∀ j, Rng (([] : List Int).getD j 0)) ∧ ([] : List Int).length ≤ 120 := ⟨rng_nil, by simp⟩
  unfold readVs
  split
  · rename_i h
    obtain ⟨⟨h0, h1⟩, hb⟩ := h
    have hh := hb
    unfold hasB at hh
    rw [Bool.and_eq_true, decide_eq_true_iff] at hh
    obtain ⟨hok, _, ha, haN⟩ := hh
    unfold valsB
    cases hr : valG (BM.listOf s.data.toList N.toNat) n.toNat a.toNat with
    | none => exact hnil
    | some x =>
      obtain ⟨xs, q, l, t⟩ := x
      have T := valI_ok (num := numB (BM.listOf s.data.toList N.toNat)) (N := (BM.listOf s.data.toList N.toNat).length) (p := a.toNat) (by rw [BM.listOf_length]; omega) n.toNat xs q _ _ (valI_of n.toNat xs q l t hr).1
      unfold fitB
      simp only
      split
      · exact ⟨T.rng, by show xs.length ≤ 120; rw [T.len]; omega⟩
      · exact hnil
  · exact hnil
theorem qv_marks_rng (n : Nat) (h : n ≤ 1048576) (j : Nat) : Rng ((marks 1 n).getD j 0) := by
  by_cases hj : j < n
  · rw [marks_getD _ _ _ hj]; unfold Rng; omega
  · rw [List.getD_eq_getElem?_getD, List.getElem?_eq_none (by rw [marks_length]; omega)]; exact ⟨by simp, by simp⟩
theorem implReadValues_t (s : ByteArray) (N a n : Int) (w : World) (hs : s.size ≤ maxLen) (hT : Tab w) :
    Calls Tryd.prog 15 #[.agg #[.string s, .int .i64 N], .int .i64 a, .int .i64 n] w (TOutV (rvX (readVs s N a n)) (rvQ (readVs s N a n)) (rvB (readVs s N a n)) w) :=
  (implReadValues_any s N a n w hs hT).mono fun _ _ h => TOutV.of_read h
theorem qv_kept_at {B : Nat} {w w' : World} {g : Nat} {s : ByteArray} {N : Int} (hb : Below B w w') (hg : g < B) (h : w.cell? ⟨g, 0, none⟩ = some (.string s) ∧ w.cell? ⟨g, 1, none⟩ = some (.int .i64 N)) :
    w'.cell? ⟨g, 0, none⟩ = some (.string s) ∧ w'.cell? ⟨g, 1, none⟩ = some (.int .i64 N) :=
  ⟨(hb.cell (p := ⟨g, 0, none⟩) hg).trans h.1, (hb.cell (p := ⟨g, 1, none⟩) hg).trans h.2⟩

set_option maxRecDepth 100000 in
set_option maxHeartbeats 2000000 in
theorem walkFnExactReadValues (s : ByteArray) (N a n : Int) (w : World) (hs : s.size ≤ maxLen) (_wn : (Lit.int .i64 N).wf = true) (_wa : (Lit.int .i64 a).wf = true) (_wb : (Lit.int .i64 n).wf = true) (hT : Tab w) :
    Calls Tryd.prog 6 #[.agg #[.string s, .int .i64 N], .int .i64 a, .int .i64 n] w fun e w' => e = .returned (.bool true) ∧ Below w.heap.size w w' := by
  by_cases hbig : (1048576 : Int) < s.size
  · have hsz := fun W => szBits_any s N 1048576 W (by omega) (by omega) hs
    rw [if_pos hbig] at hsz
    have Hsz := Lib.hid hsz
    clear hsz
    go_enter Tryd.func6, Tryd.ntmps6
    go_wp2_with fail
    refine (Hsz.out _).mono ?_
    rintro e w1 ⟨rfl, hb1⟩
    go_wp2_with fail
    go_ret
    exact ⟨rfl, ((Below.refl w.heap.size w).alloc (Nat.le_refl _) _).trans (hb1.mono (by simp))⟩
  · have hsz := fun W => szBits_any s N 1048576 W (by omega) (by omega) hs
    rw [if_neg hbig] at hsz
    have Hsz := Lib.hid hsz
    clear hsz
    have hA : (0 : Int) ≤ 1048576 - s.size := by omega
    have hA2 : decide ((1048576 : Int) - s.size < 0) = false := by simp; omega
    obtain ⟨hrng0, hlen⟩ := rv_ok s N a n
    have hrng := Lib.hid hrng0
    have h1 := Lib.hid (fun W => specReadValues_any s N a n W hs)
    have h2 := Lib.hid (fun W hT => implReadValues_t s N a n W hs hT)
    have HT := Lib.hid hT
    clear hT
    clear hrng0
    unfold TOutV at h1 h2
    generalize rvX (readVs s N a n) = xs at *
    generalize rvQ (readVs s N a n) = q at *
    generalize rvB (readVs s N a n) = b at *
    have heq := Lib.hid (fun v u W h h' => eqInt64S_any v u xs xs W h h')
    rw [decide_eq_true rfl] at heq
    have hmk := Lib.hid (fun base v W h => markInt64S_any base v xs W (by omega) h)
    have hhd := Lib.hid (fun v W h => heldInt64S_any v xs.length W h)
    have hmr := Lib.hid (qv_marks_rng xs.length (by omega))
    go_enter Tryd.func6, Tryd.ntmps6
    go_wp2_with fail
    refine (Hsz.out _).mono ?_
    rintro e w1 ⟨rfl, hb1⟩
    obtain ⟨x0, x1, hg⟩ := kept2' hb1 (g := w.heap.size) (s := s) (n := N) (by simp) (by go_simp) (by go_simp)
    have hf := ((Below.refl w.heap.size w).alloc (Nat.le_refl _) (.cells #[.string s, .int .i64 N] 49)).trans (hb1.mono (by simp))
    clear hb1
    go_wp2_with fail
    refine (toBits_any s N _).mono ?_
    rintro e w2 ⟨rfl, hb2⟩
    obtain ⟨y0, y1, hg2⟩ := kept2' hb2 hg x0 x1
    have hf2 := hf.trans (hb2.mono (by omega))
    clear hb2 hf x0 x1 hg
    go_wp2_with fail
    refine (h1.out _).mono ?_
    rintro e w3 ⟨v1, rfl, hown1, hb3⟩
    obtain ⟨x0, x1, hg⟩ := kept2' hb3 hg2 y0 y1
    have hf := hf2.trans (hb3.mono (by omega))
    have I1 := Lib.hid (IL.of_own hown1 rfl hrng.out (by omega))
    clear hb3 hf2 y0 y1 hg2 hown1
    go_wp2_with fail
    refine (toBits_any s N _).mono ?_
    rintro e w4 ⟨rfl, hb2⟩
    obtain ⟨y0, y1, hg2⟩ := kept2' hb2 hg x0 x1
    have hf2 := hf.trans (hb2.mono (by omega))
    have I2 := Lib.hid ((I1.out.below hb2).up hb2.size)
    clear hb2 hf x0 x1 hg I1
    go_wp2_with fail
    refine (h2.out _ (HT.out.below hf2)).mono ?_
    rintro e w5 ⟨v2, rfl, hown2, hb3⟩
    obtain ⟨x0, x1, hg⟩ := kept2' hb3 hg2 y0 y1
    have hf := hf2.trans (hb3.mono (by omega))
    have I3 := Lib.hid (I2.out.below hb3)
    have S3 := hb3.size
    have O2 := Lib.hid hown2
    have J2 := Lib.hid (IL.of_own hown2 rfl hrng.out (by omega))
    clear hb3 hf2 y0 y1 hown2 I2
    go_wp2_with fail
    refine (heq.out _ _ _ J2.out (I3.out.up S3)).mono ?_
    rintro e w6 ⟨rfl, hb6⟩
    obtain ⟨y0, y1, hg6⟩ := kept2' hb6 hg x0 x1
    have hf6 := hf.trans (hb6.mono (by omega))
    have O3 := Lib.hid (u_own_below O2.out hb6)
    have I6 := Lib.hid (I3.out.below (hb6.mono S3))
    have S6 := hb6.size
    clear hb6 hf x0 x1 hg J2 I3 O2
    go_wp2_with fail
    refine (hmk.out _ _ _ O3.out).mono ?_
    rintro e w7 ⟨rfl, hown7, hb7, hg7⟩
    obtain ⟨x0, x1⟩ := qv_kept_at hb7 hg2 ⟨y0, y1⟩
    have hf := hf6.trans (hb7.mono (by omega))
    have I7 := Lib.hid (IL.of_own hown7 (marks_length _ _).symm hmr.out (by rw [marks_length]; omega))
    have J7 := Lib.hid (I6.out.below hb7)
    have S7 := hg7.size
    have hg : w.heap.size < w7.heap.size := by omega
    clear hown7 hb7 hg7 O3 I6 hf6 y0 y1
    go_wp2_with fail
    refine (hhd.out _ _ I7.out).mono ?_
    rintro e w8 ⟨rfl, rfl⟩
    go_wp2_with fail
    refine (toBits_any s N _).mono ?_
    rintro e w8 ⟨rfl, hb8⟩
    have hf8 := hf.trans (hb8.mono (by omega))
    have I8 := Lib.hid ((I7.out.below hb8).up hb8.size)
    have J8 := Lib.hid (J7.out.below (hb8.mono (by omega)))
    have S8 := hb8.size
    clear hb8 hf x0 x1 I7 J7
    go_wp2_with fail
    refine (h2.out _ (HT.out.below hf8)).mono ?_
    rintro e w9 ⟨v9, rfl, hown9, hb9⟩
    have hf := hf8.trans (hb9.mono (by omega))
    have I9 := Lib.hid (IL.of_own hown9 rfl hrng.out (by omega))
    have J9 := Lib.hid (J8.out.below (hb9.mono (by omega)))
    have K9 := Lib.hid ((I8.out.below hb9).up hb9.size)
    have S9 := hb9.size
    clear hb9 hf8 hown9 I8 J8
    go_wp2_with fail
    refine (heq.out _ _ _ I9.out (J9.out.up (by omega))).mono ?_
    rintro e w10 ⟨rfl, hb10⟩
    have hf10 := hf.trans (hb10.mono (by omega))
    have K10 := Lib.hid ((K9.out.below hb10).up hb10.size)
    clear hb10 hf I9 J9 K9
    go_wp2_with fail
    refine (hhd.out _ _ K10.out).mono ?_
    rintro e w11 ⟨rfl, rfl⟩
    go_wp2_with fail
    go_ret
    exact ⟨rfl, hf10⟩
end Go.Proofs.YtldjeacpkndcbaaDoor
