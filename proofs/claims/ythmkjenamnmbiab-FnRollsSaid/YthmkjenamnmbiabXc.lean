/- Walks: the law FnBetween. -/
import Derived.Test.YthmkjenamnmbiabXb
set_option linter.unusedVariables false
set_option linter.unusedSimpArgs false
namespace Go.Proofs.Ythmkjenamnmbiab
open Go.RowKit

theorem pts_lt {xs : List (Int × Int)} (h : ptsOkB xs = true) : ∀ (d i : Nat), i + d + 1 < xs.length → (xs.getD i (0, 0)).1 < (xs.getD (i + d + 1) (0, 0)).1 := by
  intro d
  induction d with
  | zero =>
    intro i hi
    have := (ptsOkB_at h (j := i + 1) (by omega)).2
    rcases this with e | e
    · omega
    · simpa using e
  | succ d ih =>
    intro i hi
    have h1 := ih i (by omega)
    have h2 := (ptsOkB_at h (j := i + (d + 1) + 1) hi).2
    rcases h2 with e | e
    · omega
    · have e2 : i + (d + 1) + 1 - 1 = i + d + 1 := by omega
      rw [e2] at e
      omega
theorem pts_pairwise {xs : List (Int × Int)} (h : ptsOkB xs = true) : xs.Pairwise (fun p q => p.1 < q.1) := by
  rw [List.pairwise_iff_getElem]
  intro i j hi hj hij
  have := pts_lt h (j - i - 1) i (by omega)
  have e : i + (j - i - 1) + 1 = j := by omega
  rw [e, List.getD_eq_getElem?_getD, List.getElem?_eq_getElem hi, List.getD_eq_getElem?_getD, List.getElem?_eq_getElem hj] at this
  exact this
theorem btw_split (m M : Int) : ∀ (xs : List (Int × Int)), xs.Pairwise (fun p q => p.1 < q.1) → (∀ p ∈ xs, 0 ≤ p.1 ∧ p.1 < M) → btwL xs 0 m ++ btwL xs m M = xs := by
  intro xs
  induction xs with
  | nil => intro _ _; rfl
  | cons p xs ih =>
    intro hp hr
    have h1 := ih (List.pairwise_cons.1 hp).2 (fun q hq => hr q (by simp [hq]))
    have h2 := hr p (by simp)
    by_cases hm : p.1 < m
    · have a1 : inW 0 m p = true := by unfold inW; rw [decide_eq_true h2.1, decide_eq_true hm]; rfl
      have a2 : inW m M p = false := by unfold inW; rw [decide_eq_false (by omega)]; rfl
      unfold btwL at h1 ⊢
      rw [List.filter_cons_of_pos a1, List.filter_cons_of_neg (by rw [a2]; simp), List.cons_append, h1]
    · have a1 : inW 0 m p = false := by unfold inW; rw [decide_eq_false hm, Bool.and_false]
      have a2 : inW m M p = true := by unfold inW; rw [decide_eq_true (by omega), decide_eq_true h2.2]; rfl
      have a3 : xs.filter (inW 0 m) = [] := by
        rw [List.filter_eq_nil_iff]
        intro q hq
        have := (List.pairwise_cons.1 hp).1 q hq
        unfold inW
        rw [decide_eq_false (show ¬ q.1 < m by omega), Bool.and_false]; simp
      unfold btwL at h1 ⊢
      rw [List.filter_cons_of_neg (by rw [a1]; simp), List.filter_cons_of_pos a2, a3, List.nil_append]
      rw [a3, List.nil_append] at h1
      rw [h1]
theorem pts_mem {xs : List (Int × Int)} (h : ptsOkB xs = true) : ∀ p ∈ xs, 0 ≤ p.1 ∧ p.1 < 1000000000001 := by
  intro p hp
  obtain ⟨i, hi, rfl⟩ := List.getElem_of_mem hp
  have := (ptsOkB_at h hi).1
  rw [List.getD_eq_getElem?_getD, List.getElem?_eq_getElem hi] at this
  simp only [Option.getD_some] at this
  omega
theorem btw_all {xs : List (Int × Int)} (h : ptsOkB xs = true) (m : Int) : btwL xs 0 m ++ btwL xs m 1000000000001 = xs := btw_split m _ xs (pts_pairwise h) (pts_mem h)
theorem btw_at {xs : List (Int × Int)} {k : Nat} (f t : Int) (hk : k < xs.length) (h : inW f t (xs.getD k (0, 0)) = true) :
    (btwL (xs.take k) f t).length < (btwL xs f t).length ∧ (btwL xs f t).getD (btwL (xs.take k) f t).length (0, 0) = xs.getD k (0, 0) := by
  have h1 := btwL_succ f t hk
  rw [if_pos h] at h1
  have h2 : btwL xs f t = btwL (xs.take (k + 1)) f t ++ btwL (xs.drop (k + 1)) f t := by
    unfold btwL
    rw [← List.filter_append, List.take_append_drop]
  rw [h2, h1]
  constructor
  · simp
  · rw [List.getD_eq_getElem?_getD, List.append_assoc, List.getElem?_append_right (Nat.le_refl _)]
    simp
theorem drewN_cell (w : World) (n : Nat) (a : Addr) : (w.drewN n).cell? a = w.cell? a := rfl

set_option maxRecDepth 100000 in
set_option maxHeartbeats 8000000 in
theorem walkFnBetween (A : Option Addr) (n c : Nat) (w : World) (h : n ≤ 1048576 → CodeAt w A n c) :
    Calls Try.prog 10 #[.slice A n c] w fun e w' => e = .returned (.bool true) ∧ Below w.heap.size w w' := by
  have hbig := fun W => big_any A n c W
  by_cases hb : (n : Int) ≤ 1048576
  · have hd : decide (1048576 < (n : Int)) = false := by simp; omega
    rw [hd] at hbig
    have Hbig := Lib.hid hbig
    have hdraw := Lib.hid (fun W h => DrawBetween_any A n c W h)
    have hcode := Lib.hid (h (by omega))
    clear hbig hd h
    obtain ⟨i0, hi, hz0, hz1, hz2⟩ := info_parts info_pt
    go_enter Try.func10, Try.ntmps10
    go_wp2_with fail
    refine (Hbig.out _).mono ?_
    rintro e w' ⟨rfl, rfl⟩
    go_wp2_with fail
    refine (hdraw.out _ hcode.out).mono ?_
    rintro e w1 ⟨v, xs, f, t, rfl, hown1, hxl, hxr, hrf, hrt, hb1⟩
    have B1 := Lib.hid hb1
    have P1 := Lib.hid (PL.of_own hown1 rfl (prng_of hxr) (by omega))
    have hok := btwM_ok xs f t (prng_of hxr) (by omega)
    have YR := Lib.hid hok.1
    have hyl := hok.2
    have HR := Lib.hid (prng_of hxr)
    clear hb1 hown1 hxr hok hdraw hcode Hbig
    have him := Lib.hid (fun f t W h => implBetween_any v xs f t W h)
    have hsp := Lib.hid (fun f t W h => specBetween_any v xs f t W h)
    have hpo := Lib.hid (fun W h => specPointsOk_any v xs W h)
    have hsame := Lib.hid (fun v u ys W h h' => samePoints_any v u ys W h h')
    obtain ⟨ys, hys⟩ : ∃ ys, ys = btwM xs f t := ⟨_, rfl⟩
    rw [← hys] at YR hyl
    have HY := Lib.hid hys
    clear hys
    go_wp2_with fail
    refine (him.out f t _ P1.out).mono ?_
    rintro e w2 ⟨vb, rfl, hown2, hb2⟩
    rw [← HY.out] at hown2
    have O2 := Lib.hid hown2
    have S1 := B1.out.size
    have S2 := hb2.size
    have B2 := Lib.hid (B1.out.trans (hb2.mono S1))
    have P2 := Lib.hid ((P1.out.below hb2).up S2)
    clear hown2 hb2 P1 B1
    go_wp2_with fail
    refine (hsp.out f t _ P2.out).mono ?_
    rintro e w3 ⟨vs, rfl, hown3, hb3⟩
    rw [← HY.out] at hown3
    have S3 := hb3.size
    have O3 := Lib.hid (u_own_below O2.out hb3)
    have R3 := Lib.hid (PL.of_own hown3 rfl YR.out hyl)
    have B3 := Lib.hid (B2.out.trans (hb3.mono (by omega)))
    have P3 := Lib.hid ((P2.out.below hb3).up S3)
    clear hown3 hb3 P2 B2 O2
    go_wp2_with fail
    refine (hsame.out _ _ ys _ (PL.of_own O3.out rfl YR.out hyl) R3.out).mono ?_
    rintro e w4 ⟨rfl, hb4⟩
    have S4 := hb4.size
    have O4 := Lib.hid (u_own_below O3.out hb4)
    have B4 := Lib.hid (B3.out.trans (hb4.mono (by omega)))
    have P4 := Lib.hid ((P3.out.below hb4).up S4)
    clear hb4 P3 B3 O3 R3
    go_wp2_with fail
    refine (hpo.out _ P4.out).mono ?_
    rintro e w5 ⟨rfl, hb5⟩
    have S5 := hb5.size
    have O5 := Lib.hid (u_own_below O4.out hb5)
    have B5 := Lib.hid (B4.out.trans (hb5.mono (by omega)))
    have P5 := Lib.hid ((P4.out.below hb5).up S5)
    clear hb5 P4 B4 O4
    cases hok : ptsOkB xs with
    | false =>
      clear hok
      go_wp2_with fail
      refine (hsp.out f t _ P5.out).mono ?_
      rintro e w6 ⟨vs, rfl, hown6, hb6⟩
      rw [← HY.out] at hown6
      have O6 := Lib.hid (u_own_below O5.out hb6)
      have R6' := Lib.hid (PL.of_own hown6 rfl YR.out hyl)
      have B6 := Lib.hid (B5.out.trans (hb6.mono (by omega)))
      clear hown6 hb6 O5 B5 P5
      go_wp2_with fail
      refine (hsame.out _ _ ys _ (PL.of_own O6.out rfl YR.out hyl) R6'.out).mono ?_
      rintro e w7 ⟨rfl, hb7⟩
      have B7 := Lib.hid (B6.out.trans (hb7.mono B6.out.size))
      clear hb7
      go_wp2_with fail
      go_ret
      exact ⟨rfl, B7.out⟩
    | true =>
      have HL : Hid (ys = btwL xs f t) := Lib.hid (by rw [HY.out]; unfold btwM; rw [if_pos hok])
      have HAT := Lib.hid (fun k hk h => btw_at (xs := xs) (k := k) f t hk h)
      have HSU := Lib.hid (fun k hk => btwL_succ (xs := xs) (k := k) f t hk)
      have HALL := Lib.hid (btw_all hok 50)
      have H0 : Hid (btwM xs 0 50 = btwL xs 0 50) := Lib.hid (by unfold btwM; rw [if_pos hok])
      have H1 : Hid (btwM xs 50 1000000000001 = btwL xs 50 1000000000001) := Lib.hid (by unfold btwM; rw [if_pos hok])
      rw [← HL.out] at HAT
      clear hok
      have Pb := Lib.hid (PL.of_own O5.out rfl YR.out hyl)
      obtain ⟨_, _, Ab, cb, hvb, hcb⟩ := Pb.out
      obtain ⟨_, _, Ax, cx, hvx, hcx⟩ := P5.out
      subst hvb hvx
      go_wp2_with fail
      go_loopw [7, 8] (fun kk i wr => ∃ (j q : Nat), j ≤ xs.length ∧ i = .int .i64 j ∧ kk = .int .i64 ((btwL (xs.take j) f t).length : Int) ∧ wr = w5.drewN q) (fun _ i _ => xs.length - (intOf i).toNat)
      case atStart => exact ⟨0, 0, Nat.zero_le _, rfl, rfl, rfl⟩
      case round =>
        obtain ⟨j, q, hj, rfl, rfl, rfl⟩ := hrel
        by_cases hlt : j < xs.length
        · rcases hcx with hcx | ⟨bx, ox, rfl, hbx, hcx⟩
          · subst hcx; simp at hlt
          have hx0 := (hcx j hlt).1
          have hx1 := (hcx j hlt).2
          clear hcx
          have HA := Lib.hid (HAT.out j hlt)
          have HS := Lib.hid (HSU.out j hlt)
          obtain ⟨x, y, hX⟩ : ∃ x y, xs.getD j (0, 0) = (x, y) := ⟨_, _, rfl⟩
          rw [hX] at hx0 hx1 HA HS
          clear hX
          obtain ⟨k, hk⟩ : ∃ k, k = (btwL (xs.take j) f t).length := ⟨_, rfl⟩
          rw [← hk] at HA
          have HK := Lib.hid hk
          rw [← hk]
          clear hk
          by_cases g1 : x < f
          · have E := Lib.hid (show (btwL (xs.take (j + 1)) f t).length = k from by
              rw [HS.out, if_neg (by unfold inW; rw [decide_eq_false (show ¬ f ≤ x by omega)]; simp), List.append_nil, HK.out])
            go_wp2_with fail
            go_roundw
            case rel => exact ⟨j + 1, q, by omega, by go_num, by rw [E.out], rfl⟩
            case measure => simp [intOf]; omega
          by_cases g2 : t ≤ x
          · have E := Lib.hid (show (btwL (xs.take (j + 1)) f t).length = k from by
              rw [HS.out, if_neg (by unfold inW; rw [decide_eq_false (show ¬ x < t by omega)]; simp), List.append_nil, HK.out])
            go_wp2_with fail
            go_roundw
            case rel => exact ⟨j + 1, q, by omega, by go_num, by rw [E.out], rfl⟩
            case measure => simp [intOf]; omega
          have hin : inW f t (x, y) = true := by unfold inW; rw [decide_eq_true (show f ≤ x by omega), decide_eq_true (show x < t by omega)]; rfl
          have E := Lib.hid (show (btwL (xs.take (j + 1)) f t).length = k + 1 from by
            rw [HS.out, if_pos hin, List.length_append, HK.out]; rfl)
          obtain ⟨hk1, hk2⟩ := HA.out hin
          clear HA HS hin
          rcases hcb with hcb | ⟨bb, ob, rfl, hbb, hcb⟩
          · subst hcb; simp at hk1
          have hy0 := (hcb k hk1).1
          have hy1 := (hcb k hk1).2
          clear hcb
          rw [hk2] at hy0 hy1
          clear hk2
          have hne : ((k : Int) == (ys.length : Int)) = false := by simp; omega
          have hne' : decide ((k : Int) = (ys.length : Int)) = false := by simp; omega
          go_wp2_with fail
          go_quiet (fail)
          go_wp2_with fail
          go_roundw
          case rel => exact ⟨j + 1, _, by omega, by go_num, by rw [E.out]; push_cast; rfl, rfl⟩
          case measure => simp [intOf]; omega
        · obtain rfl : j = xs.length := by omega
          have HYL : Hid ((btwL (xs.take xs.length) f t).length = ys.length) := Lib.hid (by rw [List.take_length, HL.out])
          rw [HYL.out]
          have Bq := Lib.hid (below_drewN_u B5.out q)
          have Pq : Hid (PL (w5.drewN q) (w5.drewN q).heap.size (.slice Ax xs.length cx) xs) := Lib.hid P5.out
          have hq : (w5.drewN q).heap.size = w5.heap.size := rfl
          clear P5 B5 O5 Pb hcx hcb
          generalize w5.drewN q = wq at *
          have HLE := Lib.hid (btwL_len xs 0 50 xs.length)
          rw [List.take_length] at HLE
          have HLE2 := Lib.hid (btwL_len xs 50 1000000000001 xs.length)
          rw [List.take_length] at HLE2
          have Sq := Lib.hid (show w.heap.size ≤ wq.heap.size from Bq.out.size)
          have Pq1 := Lib.hid ((Pq.out.below ((Below.refl _ wq).alloc (Nat.le_refl _) (.cells #[] 55))).up (show wq.heap.size ≤ (wq.alloc (.cells #[] 55)).heap.size by simp))
          clear hq
          go_wp2_with fail
          have M6 := Lib.hid (World.ownsRow_made wq (base := wq.heap.size) (e := 55) (size := 2) #[] 0 (Nat.le_refl _) (by simp [maxLen]) rfl)
          have D6 := Lib.hid ((Below.refl wq.heap.size wq).alloc (Nat.le_refl _) (.cells #[] 55))
          have Pq2 := Lib.hid Pq.out
          clear Pq
          generalize wq.alloc (.cells #[] 55) = w6 at *
          refine (him.out 0 50 _ Pq1.out).mono ?_
          rintro e w7 ⟨v7, rfl, hown7, hb7⟩
          rw [H0.out] at hown7
          have O7 := Lib.hid hown7
          have M7 := Lib.hid (u_own_below M6.out hb7)
          have D7 := Lib.hid (D6.out.trans (hb7.mono D6.out.size))
          have S7 := D7.out.size
          clear D6 hown7 hb7 M6 Pq1
          go_wp2_with (at_builtin; refine wpList_append_row rfl _ _ 33 rfl wq.heap.size 55 i0 (.agg #[.int .i64 0, .int .i64 0]) 2 16 Try.underlying33 hi hz0 hz1 hz2 rfl (by decide) _ 0 (prs []) rfl M7.out _ v7 (btwL xs 0 50).length (prs (btwL xs 0 50)) rfl O7.out (prs_one _) ?c3 ?c4 ?c5 ?_)
          case c3 => have := HLE.out; unfold maxLen; omega
          case c4 => have := HLE.out; omega
          case c5 => omega
          intro v8 w8 hown8 hg8
          have hown8 : w8.ownsRow wq.heap.size 55 2 v8 (btwL xs 0 50).length (prs (btwL xs 0 50)) := by simpa [prs] using hown8
          have D8 := Lib.hid (D7.out.grown hg8 D7.out.size (fun j e => by simp [Value.ownBlock] at e; omega))
          have P8 := Lib.hid ((Pq2.out.below D8.out).up D8.out.size)
          have O8 := Lib.hid hown8
          clear hown8 hg8 D7 O7 M7 S7
          go_wp2_with fail
          refine (him.out 50 1000000000001 _ P8.out).mono ?_
          rintro e w9 ⟨v9, rfl, hown9, hb9⟩
          rw [H1.out] at hown9
          have O9 := Lib.hid hown9
          have M9 := Lib.hid (u_own_below O8.out hb9)
          have D9 := Lib.hid (D8.out.trans (hb9.mono D8.out.size))
          have S9 := D9.out.size
          clear hown9 hb9 O8 D8 P8
          go_wp2_with (at_builtin; refine wpList_append_row rfl _ _ 33 rfl wq.heap.size 55 i0 (.agg #[.int .i64 0, .int .i64 0]) 2 16 Try.underlying33 hi hz0 hz1 hz2 rfl (by decide) v8 (btwL xs 0 50).length (prs (btwL xs 0 50)) rfl M9.out _ v9 (btwL xs 50 1000000000001).length (prs (btwL xs 50 1000000000001)) rfl O9.out (prs_one _) ?c3 ?c4 ?c5 ?_)
          case c3 => have := HLE.out; have := HLE2.out; unfold maxLen; omega
          case c4 => have := HLE.out; have := HLE2.out; omega
          case c5 => omega
          intro v10 w10 hown10 hg10
          rw [← prs_append, ← List.length_append, HALL.out] at hown10
          have D10 := Lib.hid (D9.out.grown hg10 D9.out.size (fun j e => (M9.out.lt j e).1))
          have R10 := Lib.hid (PL.of_own hown10 rfl HR.out (by omega))
          have P10 := Lib.hid ((Pq2.out.below D10.out).up D10.out.size)
          have B10 := Lib.hid (Bq.out.trans (D10.out.mono Sq.out))
          clear hown10 hg10 D9 M9 O9 D10
          go_wp2_with fail
          refine (hsame.out _ _ xs _ R10.out P10.out).mono ?_
          rintro e w11 ⟨rfl, hb11⟩
          have B11 := Lib.hid (B10.out.trans (hb11.mono B10.out.size))
          clear hb11
          go_wp2_with fail
          go_ret
          exact ⟨rfl, B11.out⟩
  · have hd : decide (1048576 < (n : Int)) = true := by simp; omega
    rw [hd] at hbig
    have Hbig := Lib.hid hbig
    clear hbig hd h
    go_enter Try.func10, Try.ntmps10
    go_wp2_with fail
    refine (Hbig.out _).mono ?_
    rintro e w' ⟨rfl, rfl⟩
    go_wp2_with fail
    go_ret
    exact ⟨rfl, Below.refl _ _⟩
end Go.Proofs.Ythmkjenamnmbiab
