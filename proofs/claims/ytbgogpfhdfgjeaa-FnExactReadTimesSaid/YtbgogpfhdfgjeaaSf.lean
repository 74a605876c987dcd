/- Walks: the document's ReadTimes; the law FnExactReadTimes. -/
import Derived.Test.YtbgogpfhdfgjeaaSe
set_option linter.unusedVariables false
set_option linter.unusedSimpArgs false
namespace Go.Proofs.Ytbgogpfhdfgjeaa
open Go.RowKit

/-- a list, the place behind it, and whether it is there -/
def TOut (xs : List Int) (q : Int) (b : Bool) (w : World) (e : Ending) (w' : World) : Prop :=
  ∃ v, e = .returned (.tuple #[v, .int .i64 q, .bool b]) ∧ w'.ownsRow w.heap.size 2 1 v xs.length (ints xs) ∧ Below w.heap.size w w'
def rtX (r : Option (List Int × Nat)) : List Int := match r with | some (xs, _) => xs | none => []
def rtQ (r : Option (List Int × Nat)) : Int := match r with | some (_, q) => (q : Int) | none => 0
def rtB (r : Option (List Int × Nat)) : Bool := match r with | some _ => true | none => false
theorem TOut.of_read {r : Option (List Int × Nat)} {w : World} {e : Ending} {w' : World} (h : ReadOut r w e w' ∧ Below w.heap.size w w') : TOut (rtX r) (rtQ r) (rtB r) w e w' := by
  obtain ⟨h, hb⟩ := h
  cases r with
  | none => exact ⟨_, h, World.ownsRow_nil _ _ _ _, hb⟩
  | some xq =>
    obtain ⟨xs, q⟩ := xq
    obtain ⟨v, h1, h2, _⟩ := h
    exact ⟨v, h1, h2, hb⟩
theorem rt_ok (s : ByteArray) (N a n : Int) : (∀ j, Rng ((rtX (readTs s N a n)).getD j 0)) ∧ (rtX (readTs s N a n)).length ≤ 120 := by
  unfold readTs
  split
  · rename_i h
    obtain ⟨⟨h0, h1⟩, hb⟩ := h
    unfold hasB at hb
    rw [Bool.and_eq_true, decide_eq_true_iff] at hb
    unfold timesB timesFin
    cases ht : timesG (fL (BM.listOf s.data.toList N.toNat)) (getL (BM.listOf s.data.toList N.toNat)) n.toNat a.toNat with
    | none => exact ⟨fun j => by simpa [rtX] using rng_zero, by simp [rtX]⟩
    | some xq =>
      obtain ⟨xs, q⟩ := xq
      have T := timesG_ok (rdOk_L (BM.listOf s.data.toList N.toNat)) (p := a.toNat) (by rw [BM.listOf_length]; omega) n.toNat xs q (by omega) ht
      simp only
      split
      · exact ⟨T.rng, by have := T.len; simp only [rtX]; omega⟩
      · exact ⟨fun j => by simpa [rtX] using rng_zero, by simp [rtX]⟩
  · exact ⟨fun j => by simpa [rtX] using rng_zero, by simp [rtX]⟩

set_option maxRecDepth 100000 in
set_option maxHeartbeats 2000000 in
theorem specReadTimes_any (s : ByteArray) (N a n : Int) (w : World) (hs : s.size ≤ maxLen) :
    Calls Try.prog 23 #[.agg #[.string s, .int .i64 N], .int .i64 a, .int .i64 n] w (TOut (rtX (readTs s N a n)) (rtQ (readTs s N a n)) (rtB (readTs s N a n)) w) := by
  have hok := fun W => specBitsOk_any s N W hs
  have HA := Lib.hid ((Below.refl w.heap.size w).alloc (Nat.le_refl _) (.cells #[.string s, .int .i64 N] 26))
  cases h : okB s N with
  | false =>
    have hV : readTs s N a n = none := by unfold readTs hasB; rw [h]; simp
    rw [hV]
    rw [h] at hok
    have Hok := Lib.hid hok
    clear hok h hV
    go_enter Try.func23, Try.ntmps23
    go_wp2_with fail
    refine (Hok.out _).mono ?_
    rintro e w1 ⟨rfl, hb1⟩
    have hf := HA.out.trans (hb1.mono (by simp))
    clear hb1
    go_wp2_with fail
    go_ret3
    exact ⟨_, rfl, World.ownsRow_nil _ _ _ _, hf⟩
  | true =>
    rw [h] at hok
    have Hok := Lib.hid hok
    clear hok
    by_cases hin : 0 ≤ a ∧ a ≤ N
    · have hI := Lib.hid (fun W => l1In_any a 0 N W)
      rw [inB_true hin.1 hin.2] at hI
      by_cases hnn : 0 ≤ n ∧ n ≤ 120
      · have hJ := Lib.hid (fun W => l1In_any n 0 120 W)
        rw [inB_true hnn.1 hnn.2] at hJ
        obtain ⟨f0, f1, f2, f3⟩ := okB_facts h
        obtain ⟨N, rfl⟩ : ∃ m : Nat, N = (m : Int) := ⟨N.toNat, by omega⟩
        obtain ⟨p, rfl⟩ : ∃ p : Nat, a = (p : Int) := ⟨a.toNat, by omega⟩
        obtain ⟨n, rfl⟩ : ∃ k : Nat, n = (k : Int) := ⟨n.toNat, by omega⟩
        have hV : readTs s (N : Int) (p : Int) (n : Int) = timesB (BM.listOf s.data.toList N) n p := by
          unfold readTs hasB
          rw [h, if_pos ⟨hnn, by rw [Bool.true_and, decide_eq_true_iff]; omega⟩, Int.toNat_natCast, Int.toNat_natCast, Int.toNat_natCast]
        have H3 := Lib.hid (fun W => l3Back_any s N p n W hs (by omega) (by omega) (by omega) (by omega) _ rfl)
        rw [hV]
        unfold timesB
        clear hV h f0 f1 f2 f3 hin hnn
        generalize timesG (fL (BM.listOf s.data.toList N)) (getL (BM.listOf s.data.toList N)) n p = r at *
        go_enter Try.func23, Try.ntmps23
        go_wp2_with fail
        refine (Hok.out _).mono ?_
        rintro e w1 ⟨rfl, hb1⟩
        obtain ⟨x0, x1, hgg⟩ := kept2' hb1 (g := w.heap.size) (s := s) (n := (N : Int)) (by simp) (by go_simp) (by go_simp)
        have HF := Lib.hid (HA.out.trans (hb1.mono (by simp)))
        clear hb1
        go_wp2_with fail
        refine (hI.out _).mono ?_
        rintro e w2 ⟨rfl, rfl⟩
        go_wp2_with fail
        refine (hJ.out _).mono ?_
        rintro e w2 ⟨rfl, rfl⟩
        go_wp2_with fail
        refine (H3.out _).mono ?_
        rintro e w3 ⟨ho, hb3⟩
        have HF3 := Lib.hid (HF.out.trans (hb3.mono HF.out.size))
        have hszF := HF.out.size
        clear hb3 x0 x1
        cases r with
        | none =>
          unfold BackOut at ho
          subst ho
          go_wp2_with fail
          go_ret3
          exact ⟨_, rfl, World.ownsRow_nil _ _ _ _, HF3.out⟩
        | some xq =>
          obtain ⟨xs, q⟩ := xq
          obtain ⟨v, rfl, hown⟩ := ho
          cases hb : timesOkB xs with
          | true =>
            have hfin : timesFin (some (xs, q)) = some (xs, q) := by unfold timesFin; simp only; rw [if_pos hb]
            have HFin := Lib.hid hfin
            clear hfin
            go_wp2_with fail
            go_ret3
            rw [HFin.out]
            exact ⟨v, rfl, u_ownsRow_base hown hszF, HF3.out⟩
          | false =>
            have hfin : timesFin (some (xs, q)) = none := by unfold timesFin; simp only; rw [if_neg (by simp [hb])]
            have HFin := Lib.hid hfin
            clear hfin
            go_wp2_with fail
            go_ret3
            rw [HFin.out]
            exact ⟨_, rfl, World.ownsRow_nil _ _ _ _, HF3.out⟩
      · have hV : readTs s N a n = none := by unfold readTs; rw [if_neg (fun h => hnn h.1)]
        rw [hV]
        have hJ := Lib.hid (fun W => l1In_any n 0 120 W)
        rw [inB_false hnn] at hJ
        go_enter Try.func23, Try.ntmps23
        go_wp2_with fail
        refine (Hok.out _).mono ?_
        rintro e w1 ⟨rfl, hb1⟩
        obtain ⟨x0, x1, hgg⟩ := kept2' hb1 (g := w.heap.size) (s := s) (n := N) (by simp) (by go_simp) (by go_simp)
        have HF := Lib.hid (HA.out.trans (hb1.mono (by simp)))
        clear hb1
        go_wp2_with fail
        refine (hI.out _).mono ?_
        rintro e w2 ⟨rfl, rfl⟩
        go_wp2_with fail
        refine (hJ.out _).mono ?_
        rintro e w2 ⟨rfl, rfl⟩
        go_wp2_with fail
        go_ret3
        exact ⟨_, rfl, World.ownsRow_nil _ _ _ _, HF.out⟩
    · have hV : readTs s N a n = none := by
        unfold readTs hasB
        rw [h, if_neg (fun hh => by rw [Bool.true_and, decide_eq_true_iff] at hh; omega)]
      rw [hV]
      have hI := Lib.hid (fun W => l1In_any a 0 N W)
      rw [inB_false hin] at hI
      go_enter Try.func23, Try.ntmps23
      go_wp2_with fail
      refine (Hok.out _).mono ?_
      rintro e w1 ⟨rfl, hb1⟩
      obtain ⟨x0, x1, hgg⟩ := kept2' hb1 (g := w.heap.size) (s := s) (n := N) (by simp) (by go_simp) (by go_simp)
      have HF := Lib.hid (HA.out.trans (hb1.mono (by simp)))
      clear hb1
      go_wp2_with fail
      refine (hI.out _).mono ?_
      rintro e w2 ⟨rfl, rfl⟩
      go_wp2_with fail
      go_ret3
      exact ⟨_, rfl, World.ownsRow_nil _ _ _ _, HF.out⟩
theorem st_marks_rng (n : Nat) (h : n ≤ 1048576) (j : Nat) : Rng ((marks 1 n).getD j 0) := by
  by_cases hj : j < n
  · rw [marks_getD _ _ _ hj]; unfold Rng; omega
  · rw [List.getD_eq_getElem?_getD, List.getElem?_eq_none (by rw [marks_length]; omega)]; exact rng_zero
theorem implReadTimes_t (s : ByteArray) (N a n : Int) (w : World) (hs : s.size ≤ maxLen) :
    Calls Try.prog 22 #[.agg #[.string s, .int .i64 N], .int .i64 a, .int .i64 n] w (TOut (rtX (readTs s N a n)) (rtQ (readTs s N a n)) (rtB (readTs s N a n)) w) :=
  (implReadTimes_any s N a n w hs).mono fun _ _ h => TOut.of_read h
theorem kept_at {B : Nat} {w w' : World} {g : Nat} {s : ByteArray} {N : Int} (hb : Below B w w') (hg : g < B) (h : w.cell? ⟨g, 0, none⟩ = some (.string s) ∧ w.cell? ⟨g, 1, none⟩ = some (.int .i64 N)) :
    w'.cell? ⟨g, 0, none⟩ = some (.string s) ∧ w'.cell? ⟨g, 1, none⟩ = some (.int .i64 N) :=
  ⟨(hb.cell (p := ⟨g, 0, none⟩) hg).trans h.1, (hb.cell (p := ⟨g, 1, none⟩) hg).trans h.2⟩

set_option maxRecDepth 100000 in
set_option maxHeartbeats 2000000 in
theorem walkFnExactReadTimes (s : ByteArray) (N a n : Int) (w : World) (hs : s.size ≤ maxLen) (_wn : (Lit.int .i64 N).wf = true) (_wa : (Lit.int .i64 a).wf = true) (_wb : (Lit.int .i64 n).wf = true) :
    Calls Try.prog 7 #[.agg #[.string s, .int .i64 N], .int .i64 a, .int .i64 n] w fun e w' => e = .returned (.bool true) ∧ Below w.heap.size w w' := by
  by_cases hbig : (1048576 : Int) < s.size
  · have hsz := fun W => szBits_any s N 1048576 W (by omega) (by omega) hs
    rw [if_pos hbig] at hsz
    have Hsz := Lib.hid hsz
    clear hsz
    go_enter Try.func7, Try.ntmps7
    go_wp2_with fail
    refine (Hsz.out _).mono ?_
    rintro e w1 ⟨rfl, hb1⟩
    go_wp2_with fail
    go_ret
    exact ⟨rfl, ((Below.refl w.heap.size w).alloc (Nat.le_refl _) _).trans (hb1.mono (by simp))⟩
  · have hsz := fun W => szBits_any s N 1048576 W (by omega) (by omega) hs
    rw [if_neg hbig] at hsz
    have Hsz := Lib.hid hsz
    clear hsz
    have hA : (0 : Int) ≤ 1048576 - s.size := by omega
    have hA2 : decide ((1048576 : Int) - s.size < 0) = false := by simp; omega
    obtain ⟨hrng0, hlen⟩ := rt_ok s N a n
    have hrng := Lib.hid hrng0
    have h1 := Lib.hid (fun W => specReadTimes_any s N a n W hs)
    have h2 := Lib.hid (fun W => implReadTimes_t s N a n W hs)
    clear hrng0
    unfold TOut at h1 h2
    generalize rtX (readTs s N a n) = xs at *
    generalize rtQ (readTs s N a n) = q at *
    generalize rtB (readTs s N a n) = b at *
    have heq := Lib.hid (fun v u W h h' => eqInt64S_any v u xs xs W h h')
    rw [decide_eq_true rfl] at heq
    have hmk := Lib.hid (fun base v W h => markInt64S_any base v xs W (by omega) h)
    have hhd := Lib.hid (fun v W h => heldInt64S_any v xs.length W h)
    have hmr := Lib.hid (st_marks_rng xs.length (by omega))
    go_enter Try.func7, Try.ntmps7
    go_wp2_with fail
    refine (Hsz.out _).mono ?_
    rintro e w1 ⟨rfl, hb1⟩
    obtain ⟨x0, x1, hg⟩ := kept2' hb1 (g := w.heap.size) (s := s) (n := N) (by simp) (by go_simp) (by go_simp)
    have hf := ((Below.refl w.heap.size w).alloc (Nat.le_refl _) (.cells #[.string s, .int .i64 N] 52)).trans (hb1.mono (by simp))
    clear hb1
    go_wp2_with fail
    refine (toBits_any s N _).mono ?_
    rintro e w2 ⟨rfl, hb2⟩
    obtain ⟨y0, y1, hg2⟩ := kept2' hb2 hg x0 x1
    have hf2 := hf.trans (hb2.mono (by omega))
    clear hb2 hf x0 x1 hg
    go_wp2_with fail
    refine (h1.out _).mono ?_
    rintro e w3 ⟨v1, rfl, hown1, hb3⟩
    obtain ⟨x0, x1, hg⟩ := kept2' hb3 hg2 y0 y1
    have hf := hf2.trans (hb3.mono (by omega))
    have I1 := Lib.hid (IL.of_own hown1 rfl hrng.out (by omega))
    clear hb3 hf2 y0 y1 hg2 hown1
    go_wp2_with fail
    refine (toBits_any s N _).mono ?_
    rintro e w4 ⟨rfl, hb2⟩
    obtain ⟨y0, y1, hg2⟩ := kept2' hb2 hg x0 x1
    have hf2 := hf.trans (hb2.mono (by omega))
    have I2 := Lib.hid ((I1.out.below hb2).up hb2.size)
    clear hb2 hf x0 x1 hg I1
    go_wp2_with fail
    refine (h2.out _).mono ?_
    rintro e w5 ⟨v2, rfl, hown2, hb3⟩
    obtain ⟨x0, x1, hg⟩ := kept2' hb3 hg2 y0 y1
    have hf := hf2.trans (hb3.mono (by omega))
    have I3 := Lib.hid (I2.out.below hb3)
    have S3 := hb3.size
    have O2 := Lib.hid hown2
    have J2 := Lib.hid (IL.of_own hown2 rfl hrng.out (by omega))
    clear hb3 hf2 y0 y1 hown2 I2
    go_wp2_with fail
    refine (heq.out _ _ _ J2.out (I3.out.up S3)).mono ?_
    rintro e w6 ⟨rfl, hb6⟩
    obtain ⟨y0, y1, hg6⟩ := kept2' hb6 hg x0 x1
    have hf6 := hf.trans (hb6.mono (by omega))
    have O3 := Lib.hid (u_own_below O2.out hb6)
    have I6 := Lib.hid (I3.out.below (hb6.mono S3))
    have S6 := hb6.size
    clear hb6 hf x0 x1 hg J2 I3 O2
    go_wp2_with fail
    refine (hmk.out _ _ _ O3.out).mono ?_
    rintro e w7 ⟨rfl, hown7, hb7, hg7⟩
    obtain ⟨x0, x1⟩ := kept_at hb7 hg2 ⟨y0, y1⟩
    have hf := hf6.trans (hb7.mono (by omega))
    have I7 := Lib.hid (IL.of_own hown7 (marks_length _ _).symm hmr.out (by rw [marks_length]; omega))
    have J7 := Lib.hid (I6.out.below hb7)
    have S7 := hg7.size
    have hg : w.heap.size < w7.heap.size := by omega
    clear hown7 hb7 hg7 O3 I6 hf6 y0 y1
    go_wp2_with fail
    refine (hhd.out _ _ I7.out).mono ?_
    rintro e w8 ⟨rfl, rfl⟩
    go_wp2_with fail
    refine (toBits_any s N _).mono ?_
    rintro e w8 ⟨rfl, hb8⟩
    have hf8 := hf.trans (hb8.mono (by omega))
    have I8 := Lib.hid ((I7.out.below hb8).up hb8.size)
    have J8 := Lib.hid (J7.out.below (hb8.mono (by omega)))
    have S8 := hb8.size
    clear hb8 hf x0 x1 I7 J7
    go_wp2_with fail
    refine (h2.out _).mono ?_
    rintro e w9 ⟨v9, rfl, hown9, hb9⟩
    have hf := hf8.trans (hb9.mono (by omega))
    have I9 := Lib.hid (IL.of_own hown9 rfl hrng.out (by omega))
    have J9 := Lib.hid (J8.out.below (hb9.mono (by omega)))
    have K9 := Lib.hid ((I8.out.below hb9).up hb9.size)
    have S9 := hb9.size
    clear hb9 hf8 hown9 I8 J8
    go_wp2_with fail
    refine (heq.out _ _ _ I9.out (J9.out.up (by omega))).mono ?_
    rintro e w10 ⟨rfl, hb10⟩
    have hf10 := hf.trans (hb10.mono (by omega))
    have K10 := Lib.hid ((K9.out.below hb10).up hb10.size)
    clear hb10 hf I9 J9 K9
    go_wp2_with fail
    refine (hhd.out _ _ K10.out).mono ?_
    rintro e w11 ⟨rfl, rfl⟩
    go_wp2_with fail
    go_ret
    exact ⟨rfl, hf10⟩
end Go.Proofs.Ytbgogpfhdfgjeaa
