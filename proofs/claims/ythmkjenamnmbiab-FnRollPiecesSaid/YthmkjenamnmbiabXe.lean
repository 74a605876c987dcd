/- Walks: the law FnRollPieces. -/
import Derived.Test.YthmkjenamnmbiabXd
set_option linter.unusedVariables false
set_option linter.unusedSimpArgs false
namespace Go.Proofs.Ythmkjenamnmbiab
open Go.RowKit

set_option maxRecDepth 100000 in
set_option maxHeartbeats 8000000 in
theorem walkFnRollPieces (A : Option Addr) (n c : Nat) (w : World) (h : n ≤ 1048576 → CodeAt w A n c) :
    Calls Try.prog 12 #[.slice A n c] w fun e w' => e = .returned (.bool true) ∧ Below w.heap.size w w' := by
  have hbig := fun W => big_any A n c W
  by_cases hb : (n : Int) ≤ 1048576
  · have hd : decide (1048576 < (n : Int)) = false := by simp; omega
    rw [hd] at hbig
    have Hbig := Lib.hid hbig
    have hdraw := Lib.hid (fun W h => DrawRollsOf_any A n c W h)
    have hcode := Lib.hid (h (by omega))
    clear hbig hd h
    obtain ⟨i0, hi, hz0, hz1, hz2⟩ := info_parts info_rl
    go_enter Try.func12, Try.ntmps12
    go_wp2_with fail
    refine (Hbig.out _).mono ?_
    rintro e w' ⟨rfl, rfl⟩
    go_wp2_with fail
    refine (hdraw.out _ hcode.out).mono ?_
    rintro e w1 ⟨v, xs, W, rfl, hown1, hxl, hxr, hrW, hb1⟩
    have B1 := Lib.hid hb1
    have P1 := Lib.hid (PL.of_own hown1 rfl (prng_of hxr) (by omega))
    have HX := Lib.hid hxr
    clear hb1 hown1 hxr hdraw hcode Hbig
    have him := Lib.hid (fun W' h => implRollsOf_any v xs W W' h)
    have hsp := Lib.hid (fun W' h => specRollsOf_any v xs W W' h)
    have hyl := (rollsM_ok xs W (prng_of HX.out) (by omega)).2
    have YR := Lib.hid (rollsM_ok xs W (prng_of HX.out) (by omega)).1
    cases hfb : rollsB xs W with
    | false =>
      rw [hfb] at him hsp
      go_wp2_with fail
      refine (him.out _ P1.out).mono ?_
      rintro e w2 ⟨v2, rfl, hown2, hb2⟩
      have B2 := Lib.hid (B1.out.trans (hb2.mono B1.out.size))
      have P2 := Lib.hid ((P1.out.below hb2).up hb2.size)
      clear hown2 hb2
      go_wp2_with fail
      refine (hsp.out _ P2.out).mono ?_
      rintro e w3 ⟨v3, rfl, hown3, hb3⟩
      have B3 := Lib.hid (B2.out.trans (hb3.mono B2.out.size))
      clear hown3 hb3
      go_wp2_with fail
      go_ret
      exact ⟨rfl, B3.out⟩
    | true =>
      rw [hfb] at him hsp
      have hps : ptsSmB xs = true := by unfold rollsB at hfb; rw [Bool.and_eq_true] at hfb; exact hfb.1
      have hwd : wdB W = true := by unfold rollsB at hfb; rw [Bool.and_eq_true] at hfb; exact hfb.2
      obtain ⟨hW1, hW2⟩ := wdB_in hwd
      have hn6 : 0 ≤ (n : Int) % 6 ∧ (n : Int) % 6 ≤ 5 := by omega
      obtain ⟨q6, hq6⟩ : ∃ q, q = (n : Int) % 6 := ⟨_, rfl⟩
      have hmb : 0 ≤ W * q6 ∧ W * q6 ≤ 5000000 := by
        rw [← hq6] at hn6
        have h1 := Int.mul_nonneg (show 0 ≤ W by omega) hn6.1
        have h2 := Int.mul_le_mul hW2 hn6.2 hn6.1 (by omega : (0 : Int) ≤ 1000000)
        omega
      have em1 : wrap64 (W * q6) = W * q6 := by unfold wrap64; omega
      have em2 : IntKind.i64.wrap (W * q6) = W * q6 := IntWalk.i64_in _ (by omega)
      have et : (n : Int).tmod 6 = q6 := by rw [Int.tmod_eq_emod_of_nonneg (by omega), hq6]
      have et2 : (n : Int) % 6 = q6 := hq6.symm
      have et3 : IntKind.i64.wrap q6 = q6 := IntWalk.i64_in _ (by omega)
      have HM : Hid (rollsM xs W = rollsL xs W) := Lib.hid (by unfold rollsM; rw [if_pos ⟨hps, hwd⟩])
      obtain ⟨m, hm⟩ : ∃ m, m = W * q6 := ⟨_, rfl⟩
      have HPC := Lib.hid (rolls_pieces (m := m) hps hW1 (by rw [hm]; exact Int.mul_emod_right W q6))
      have hpk := ptsSmB_ok' hps
      have aS := ptsSmB_sub hps (btwL_sub xs 0 m)
      have bS := ptsSmB_sub hps (btwL_sub xs m 1000000000001)
      have La : Hid (btwM xs 0 m = btwL xs 0 m) := Lib.hid (by unfold btwM; rw [if_pos hpk])
      have Lb : Hid (btwM xs m 1000000000001 = btwL xs m 1000000000001) := Lib.hid (by unfold btwM; rw [if_pos hpk])
      have aM : Hid (rollsM (btwL xs 0 m) W = rollsL (btwL xs 0 m) W) := Lib.hid (by unfold rollsM; rw [if_pos ⟨aS, hwd⟩])
      have bM : Hid (rollsM (btwL xs m 1000000000001) W = rollsL (btwL xs m 1000000000001) W) := Lib.hid (by unfold rollsM; rw [if_pos ⟨bS, hwd⟩])
      have hroa := Lib.hid (fun v W' h => implRollsOf_any v (btwL xs 0 m) W W' h)
      have hrob := Lib.hid (fun v W' h => implRollsOf_any v (btwL xs m 1000000000001) W W' h)
      rw [show rollsB (btwL xs 0 m) W = true from by unfold rollsB; rw [aS, hwd]; rfl] at hroa
      rw [show rollsB (btwL xs m 1000000000001) W = true from by unfold rollsB; rw [bS, hwd]; rfl] at hrob
      have aR := Lib.hid (fun p hp => HX.out p ((btwL_sub xs 0 m).subset hp))
      have bR := Lib.hid (fun p hp => HX.out p ((btwL_sub xs m 1000000000001).subset hp))
      have al0 := (btwL_sub xs 0 m).length_le
      have bl0 := (btwL_sub xs m 1000000000001).length_le
      have al : (btwL xs 0 m).length ≤ 1048576 := by omega
      have bl : (btwL xs m 1000000000001).length ≤ 1048576 := by omega
      have hLa := rollsL_len (btwL xs 0 m) W
      have hLb := rollsL_len (btwL xs m 1000000000001) W
      have hbt := Lib.hid (fun f t W h => implBetween_any v xs f t W h)
      have hsame := Lib.hid (fun v u ys W h h' => sameRolls_any v u ys W h h')
      have Hm := Lib.hid hm
      rw [← hm] at em1 em2
      have Hlen := Lib.hid (show (rollsL (btwL xs 0 m) W).length ≤ 10 ∧ (rollsL (btwL xs m 1000000000001) W).length ≤ 10 from ⟨by omega, by omega⟩)
      have em3 : W * q6 = m := hm.symm
      clear hps hwd hpk aS bS hfb hLa hLb al0 bl0 hq6 hn6 hmb hm
      rw [HM.out] at him YR hyl
      go_wp2_with fail
      refine (him.out _ P1.out).mono ?_
      rintro e w2 ⟨v2, rfl, hown2, hb2⟩
      have R2 := Lib.hid (RL.of_own hown2 rfl YR.out hyl)
      have B2 := Lib.hid (B1.out.trans (hb2.mono B1.out.size))
      have P2 := Lib.hid ((P1.out.below hb2).up hb2.size)
      have C := Lib.hid (Below.refl w2.heap.size w2)
      clear hown2 hb2 B1 P1
      go_wp2_with fail
      refine (hsp.out _ P2.out).mono ?_
      rintro e w3 ⟨v3, rfl, hown3, hb3⟩
      have C3 := Lib.hid (C.out.trans hb3)
      have P3 := Lib.hid ((P2.out.below hb3).up hb3.size)
      clear hown3 hb3 P2 C
      have C := C3
      clear C3

      go_wp2_with fail
      refine (hbt.out 0 m _ P3.out).mono ?_
      rintro e w4 ⟨v4, rfl, hown4, hb4⟩
      rw [La.out] at hown4
      have Q4 := Lib.hid (PL.of_own hown4 rfl (prng_of aR.out) al)
      have C4 := Lib.hid (C.out.trans (hb4.mono C.out.size))
      clear C
      have C := C4
      have P4 := Lib.hid ((P3.out.below hb4).up hb4.size)
      clear hown4 hb4 P3
      go_wp2_with fail
      refine (hroa.out v4 _ Q4.out).mono ?_
      rintro e w5 ⟨v5, rfl, hown5, hb5⟩
      rw [aM.out] at hown5
      have O5 := Lib.hid (own_mono hown5 C.out.size)
      have C5 := Lib.hid (C.out.trans (hb5.mono C.out.size))
      
      clear C
      have C := C5
      have P5 := Lib.hid ((P4.out.below hb5).up hb5.size)
      clear C5 C4 hown5 hb5 P4 Q4

      go_wp2_with fail
      refine (hbt.out m 1000000000001 _ P5.out).mono ?_
      rintro e w6 ⟨v6, rfl, hown6, hb6⟩
      rw [Lb.out] at hown6
      have Q6 := Lib.hid (PL.of_own hown6 rfl (prng_of bR.out) bl)
      have C6 := Lib.hid (C.out.trans (hb6.mono C.out.size))
      clear C
      have C := C6
      have P6 := Lib.hid ((P5.out.below hb6).up hb6.size)
      have HB6 := Lib.hid hb6
      clear hown6 P5
      go_wp2_with fail
      refine (hrob.out v6 _ Q6.out).mono ?_
      rintro e w7 ⟨v7, rfl, hown7, hb7⟩
      rw [bM.out] at hown7
      have O7 := Lib.hid (own_mono hown7 C.out.size)
      have C7 := Lib.hid (C.out.trans (hb7.mono C.out.size))
      have Oa := Lib.hid (u_own_below O5.out (HB6.out.trans (hb7.mono HB6.out.size)))
      clear C
      have C := C7
      have P7 := Lib.hid ((P6.out.below hb7).up hb7.size)
      clear C7 C6 hown7 hb7 P6 Q6 hb6 O5
      have Sq := Lib.hid C.out.size
      generalize w7 = wq at *
      have M8 := Lib.hid (World.ownsRow_made wq (base := wq.heap.size) (e := 53) (size := 6) #[] 0 (Nat.le_refl _) (by simp [maxLen]) rfl)
      go_wp2_with (at_builtin; refine wpList_append_rowG (by first | rfl | (simp [Region.wanted, yielded])) _ _ 25 rfl wq.heap.size 53 i0 (.agg #[.int .i64 0, .int .i64 0, .int .i64 0, .int .i64 0, .int .i64 0, .int .i64 0]) 6 48 Try.underlying25 hi hz0 hz1 hz2 rfl (by decide) (.slice (some ⟨wq.heap.size, 0, none⟩) 0 0) 0 (rls []) rfl M8.out _ v5 (rollsL (btwL xs 0 m) W).length (rls (rollsL (btwL xs 0 m) W)) rfl (Oa.out.alloc _) (rls_one _) ?c3 ?c4 ?c5 ?_)
      case c3 => have := Hlen.out; unfold maxLen; omega
      case c4 => have := Hlen.out; omega
      case c5 => simp
      intro v8 w8 hown8 hg8
      have hown8 : w8.ownsRow wq.heap.size 53 6 v8 (rollsL (btwL xs 0 m) W).length (rls (rollsL (btwL xs 0 m) W)) := by simpa [rls] using hown8
      have D8 := Lib.hid (((Below.refl wq.heap.size wq).alloc (Nat.le_refl _) (.cells #[] 53)).grown hg8 (by simp) (fun j e => by simp [Value.ownBlock] at e; omega))
      have O8 := Lib.hid hown8
      have Ob := Lib.hid (u_own_below O7.out D8.out)
      have S8 := D8.out.size
      clear hown8 hg8 M8 Oa O7
      go_wp2_with (at_builtin; refine wpList_append_rowG (by first | rfl | (simp [Region.wanted, yielded])) _ _ 25 rfl wq.heap.size 53 i0 (.agg #[.int .i64 0, .int .i64 0, .int .i64 0, .int .i64 0, .int .i64 0, .int .i64 0]) 6 48 Try.underlying25 hi hz0 hz1 hz2 rfl (by decide) v8 (rollsL (btwL xs 0 m) W).length (rls (rollsL (btwL xs 0 m) W)) rfl O8.out _ v7 (rollsL (btwL xs m 1000000000001) W).length (rls (rollsL (btwL xs m 1000000000001) W)) rfl Ob.out (rls_one _) ?c3 ?c4 ?c5 ?_)
      case c3 => have := Hlen.out; unfold maxLen; omega
      case c4 => have := Hlen.out; omega
      case c5 => omega
      intro v9 w9 hown9 hg9
      rw [← rls_append, ← List.length_append, HPC.out] at hown9
      have D9 := Lib.hid (D8.out.grown hg9 S8 (fun j e => (O8.out.lt j e).1))
      have R9 := Lib.hid (RL.of_own hown9 rfl YR.out hyl)
      have E9 := Lib.hid (C.out.trans (D9.out.mono Sq.out))
      have R2' := Lib.hid ((R2.out.below E9.out).up E9.out.size)
      have B9 := Lib.hid (B2.out.trans (E9.out.mono B2.out.size))
      clear hown9 hg9 D8 D9 O8 Ob C R2 E9 B2
      go_wp2_with fail
      refine (hsame.out _ _ _ _ R9.out R2'.out).mono ?_
      rintro e w10 ⟨rfl, hb10⟩
      have B10 := Lib.hid (B9.out.trans (hb10.mono B9.out.size))
      clear hb10
      go_wp2_with fail
      go_ret
      exact ⟨rfl, B10.out⟩
  · have hd : decide (1048576 < (n : Int)) = true := by simp; omega
    rw [hd] at hbig
    have Hbig := Lib.hid hbig
    clear hbig hd h
    go_enter Try.func12, Try.ntmps12
    go_wp2_with fail
    refine (Hbig.out _).mono ?_
    rintro e w' ⟨rfl, rfl⟩
    go_wp2_with fail
    go_ret
    exact ⟨rfl, Below.refl _ _⟩
end Go.Proofs.Ythmkjenamnmbiab
