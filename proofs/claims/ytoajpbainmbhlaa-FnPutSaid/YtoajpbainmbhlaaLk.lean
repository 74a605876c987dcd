/- The walk of the law FnPut. -/
import Derived.Test.YtoajpbainmbhlaaRi
import Derived.Test.YtoajpbainmbhlaaLg
import Derived.Test.YtoajpbainmbhlaaLd
import Derived.Test.YtoajpbainmbhlaaRj
namespace Go.Proofs.Ytoajpbainmbhlaa
open Go.RowKit

/-- the four boxes of the law hold their bits -/
def FourP (w : World) (gb gp gw gx : Nat) (s : ByteArray) (N : Int) (R : ByteArray) (M : Int) (t : ByteArray) (L : Int) (W : World) : Prop :=
  SB W gb s N ∧ SB W gp R M ∧ SB W gw R M ∧ SB W gx t L ∧ Below w.heap.size w W
theorem FourP.below {w : World} {gb gp gw gx : Nat} {s R t : ByteArray} {N M L : Int} {W W' : World} (p : FourP w gb gp gw gx s N R M t L W) (hb : Below W.heap.size W W') : FourP w gb gp gw gx s N R M t L W' :=
  ⟨p.1.below hb, p.2.1.below hb, p.2.2.1.below hb, p.2.2.2.1.below hb, p.2.2.2.2.trans (hb.mono p.2.2.2.2.size)⟩
theorem FourP.drew {w : World} {gb gp gw gx : Nat} {s R t : ByteArray} {N M L : Int} {W : World} (p : FourP w gb gp gw gx s N R M t L W) : FourP w gb gp gw gx s N R M t L W.drew :=
  ⟨p.1.drew, p.2.1.drew, p.2.2.1.drew, p.2.2.2.1.drew, p.2.2.2.2.drew⟩

theorem wrap_sum (N k : Int) (h : 0 ≤ N + k) (h2 : N + k ≤ 20000) : wrap64 (N + k) = N + k := by unfold wrap64; omega

set_option maxRecDepth 100000 in
set_option maxHeartbeats 12000000 in
theorem walkFnPut (A : Option Addr) (n c : Nat) (w : World) (h : n ≤ 1048576 → CodeAt w A n c) :
    Calls Try.prog 3 #[.slice A n c] w fun e w' => e = .returned (.bool true) ∧ Below w.heap.size w w' := by
  have hbig := fun W => big_any A n c W
  by_cases hn : n ≤ 1048576
  · have H := Lib.hid (h hn)
    have hd : decide (1048576 < (n : Int)) = false := by simp; omega
    rw [hd] at hbig
    have Hbig := Lib.hid hbig
    clear hbig hd h
    go_enter Try.func3, Try.ntmps3
    go_wp2_with fail
    refine (Hbig.out _).mono ?_
    rintro e w' ⟨rfl, rfl⟩
    go_wp2_with fail
    refine (DrawPutBits_any A n c _ H.out).mono ?_
    rintro e w1 ⟨s, N, v, k, rfl, hs, ⟨_, hN, hN0, hN1⟩, ⟨_, hv, hv0, hv1⟩, ⟨_, hk, hk0, hk1⟩, hb1⟩
    injection hN with _ hN
    injection hv with _ hv
    injection hk with _ hk
    subst hN hv hk
    have hs' : s.size ≤ maxLen := by unfold maxLen; omega
    obtain ⟨R, hR⟩ : ∃ R, R = putS s N v k := ⟨_, rfl⟩
    obtain ⟨M, hM⟩ : ∃ M, M = putN s N v k := ⟨_, rfl⟩
    obtain ⟨B, hB⟩ : ∃ B, B = putB s N v k := ⟨_, rfl⟩
    have him : ∀ W, Calls Try.prog 17 #[.agg #[.string s, .int .i64 N], .int .i64 v, .int .i64 k] W (BPost R M B W) := fun W => by
      subst hR hM hB; exact implPutBits_any s N v k W hs'
    have hsp : ∀ W, Calls Try.prog 18 #[.agg #[.string s, .int .i64 N], .int .i64 v, .int .i64 k] W (BPost R M B W) := fun W => by
      subst hR hM hB; exact specPutBits_any s N v k W hs' (by omega)
    have Him := Lib.hid him
    have Hsp := Lib.hid hsp
    have HR := Lib.hid hR
    have HM := Lib.hid hM
    have HB := Lib.hid hB
    have Hb1 := Lib.hid hb1
    have hsb1 : SB (w1.alloc (.cells #[.string s, .int .i64 N] 25)) w1.heap.size s N := SB.new w1 s N
    have hbl1 : Below w.heap.size w (w1.alloc (.cells #[.string s, .int .i64 N] 25)) := hb1.trans ((below1 w1 _).mono hb1.size)
    clear him hsp hR hM hB hb1
    go_wp2_with fail
    refine (Him.out _).mono ?_
    rintro e w2 ⟨rfl, hb2⟩
    have hsb2 : SB (w2.alloc (.cells #[.string R, .int .i64 M] 25)) w1.heap.size s N := (hsb1.below hb2).below (below1 w2 _)
    have hp2 : SB (w2.alloc (.cells #[.string R, .int .i64 M] 25)) w2.heap.size R M := SB.new w2 R M
    have hbl2 : Below w.heap.size w (w2.alloc (.cells #[.string R, .int .i64 M] 25)) := hbl1.trans ((hb2.trans ((below1 w2 _).mono hb2.size)).mono hbl1.size)
    have c0 := (hsb1.below hb2).c0
    have c1 := (hsb1.below hb2).c1
    have hl2 : w1.heap.size < w2.heap.size := (hsb1.below hb2).lt
    clear hsb1 hbl1 hb2
    go_wp2_with fail
    refine (Hsp.out _).mono ?_
    rintro e w4 ⟨rfl, hb4⟩
    have hsb4 : SB (w4.alloc (.cells #[.string R, .int .i64 M] 25)) w1.heap.size s N := (hsb2.below hb4).below (below1 w4 _)
    have hp4 : SB (w4.alloc (.cells #[.string R, .int .i64 M] 25)) w2.heap.size R M := (hp2.below hb4).below (below1 w4 _)
    have hw4 : SB (w4.alloc (.cells #[.string R, .int .i64 M] 25)) w4.heap.size R M := SB.new w4 R M
    have hbl4 : Below w.heap.size w (w4.alloc (.cells #[.string R, .int .i64 M] 25)) := hbl2.trans ((hb4.trans ((below1 w4 _).mono hb4.size)).mono hbl2.size)
    have hco := H.out.below hbl4
    clear c0 c1 hsb2 hp2 hbl2 hb4
    have Hco := Lib.hid hco
    have Hs4 := Lib.hid hsb4
    have Hp4 := Lib.hid hp4
    have Hw4 := Lib.hid hw4
    have Hl4 := Lib.hid hbl4
    clear hco hsb4 hp4 hw4 hbl4
    go_wp2_with fail
    refine (DrawBitsOk_any A n c _ Hco.out).mono ?_
    rintro e w6 ⟨t, L, rfl, ht, ⟨_, hL, hL0, hL1⟩, hb6⟩
    injection hL with _ hL
    subst hL
    have hP : FourP w w1.heap.size w2.heap.size w4.heap.size w6.heap.size s N R M t L (w6.alloc (.cells #[.string t, .int .i64 L] 25)) :=
      ⟨(Hs4.out.below hb6).below (below1 w6 _), (Hp4.out.below hb6).below (below1 w6 _), (Hw4.out.below hb6).below (below1 w6 _), SB.new w6 t L, Hl4.out.trans ((hb6.trans ((below1 w6 _).mono hb6.size)).mono Hl4.out.size)⟩
    have ht' : t.size ≤ maxLen := by unfold maxLen; omega
    obtain ⟨D, hD⟩ : ∃ D : Bool, D = okB t L := ⟨_, rfl⟩
    have hok : ∀ W, FourP w w1.heap.size w2.heap.size w4.heap.size w6.heap.size s N R M t L W → Calls Try.prog 20 #[.agg #[.string t, .int .i64 L]] W (fun e W' => e = .returned (.bool D) ∧ FourP w w1.heap.size w2.heap.size w4.heap.size w6.heap.size s N R M t L W') := fun W hW => by
      subst hD; exact (implBitsOk_any t L W ht').mono fun e W' ⟨h1, h2⟩ => ⟨h1, hW.below h2⟩
    have hos : ∀ W, FourP w w1.heap.size w2.heap.size w4.heap.size w6.heap.size s N R M t L W → Calls Try.prog 21 #[.agg #[.string t, .int .i64 L]] W (fun e W' => e = .returned (.bool D) ∧ FourP w w1.heap.size w2.heap.size w4.heap.size w6.heap.size s N R M t L W') := fun W hW => by
      subst hD; exact (specBitsOk_any t L W ht').mono fun e W' ⟨h1, h2⟩ => ⟨h1, hW.below h2⟩
    have HP := Lib.hid hP
    have Hok := Lib.hid hok
    have Hos := Lib.hid hos
    clear hP hok hos hb6 hD Hco Hs4 Hp4 Hw4 Hl4
    go_wp2_with fail
    generalize (w6.alloc (.cells #[.string t, .int .i64 L] 25)) = w7 at HP ⊢
    have b0 := HP.out.1.c0
    have b1 := HP.out.1.c1
    have p0 := HP.out.2.1.c0
    have p1 := HP.out.2.1.c1
    have q0 := HP.out.2.2.1.c0
    have q1 := HP.out.2.2.1.c1
    have x0 := HP.out.2.2.2.1.c0
    have x1 := HP.out.2.2.2.1.c1
    rename_i K' hK'
    refine (fun (hk : ∀ W, FourP w w1.heap.size w2.heap.size w4.heap.size w6.heap.size s N R M t L W → K' ?act W) => ?main) ?rest
    case main =>
      go_region_law (first
      | (go_simp; go_at_call 20; (refine (Hok.out _ (by first | exact HP.out | exact HP.out.drew | exact RowKit.Hid.out (by assumption) | exact FourP.drew (RowKit.Hid.out (by assumption)))).mono ?_); rintro e w5 ⟨rfl, hP5⟩; have b0 := hP5.1.c0; have b1 := hP5.1.c1; have p0 := hP5.2.1.c0; have p1 := hP5.2.1.c1; have q0 := hP5.2.2.1.c0; have q1 := hP5.2.2.1.c1; have x0 := hP5.2.2.2.1.c0; have x1 := hP5.2.2.2.1.c1; have HP5 := Lib.hid hP5; clear hP5)
      | (go_simp; go_at_call 21; (refine (Hos.out _ (by first | exact HP.out | exact HP.out.drew | exact RowKit.Hid.out (by assumption) | exact FourP.drew (RowKit.Hid.out (by assumption)))).mono ?_); rintro e w5 ⟨rfl, hP5⟩; have b0 := hP5.1.c0; have b1 := hP5.1.c1; have p0 := hP5.2.1.c0; have p1 := hP5.2.1.c1; have q0 := hP5.2.2.1.c0; have q1 := hP5.2.2.1.c1; have x0 := hP5.2.2.2.1.c0; have x1 := hP5.2.2.2.1.c1; have HP5 := Lib.hid hP5; clear hP5))
      all_goals
        go_simp
        exact hk _ (RowKit.Hid.out (by assumption : RowKit.Hid (FourP _ _ _ _ _ _ _ _ _ _ _ _)))
    case rest =>
      intro w8 hP8
      have b0 := hP8.1.c0
      have b1 := hP8.1.c1
      have p0 := hP8.2.1.c0
      have p1 := hP8.2.1.c1
      have q0 := hP8.2.2.1.c0
      have q1 := hP8.2.2.1.c1
      have x0 := hP8.2.2.2.1.c0
      have x1 := hP8.2.2.2.1.c1
      have HP8 := Lib.hid hP8
      clear hP8
      refine hK' _ _ ?_
      clear hK' HP
      cases B with
      | false =>
        go_wp2_with fail
        go_region_law (first
          | (go_simp; go_at_call 20; (refine (Hok.out _ (by first | exact HP8.out | exact HP8.out.drew | exact RowKit.Hid.out (by assumption) | exact FourP.drew (RowKit.Hid.out (by assumption)))).mono ?_); rintro e w5 ⟨rfl, hP5⟩; have b0 := hP5.1.c0; have b1 := hP5.1.c1; have p0 := hP5.2.1.c0; have p1 := hP5.2.1.c1; have q0 := hP5.2.2.1.c0; have q1 := hP5.2.2.1.c1; have x0 := hP5.2.2.2.1.c0; have x1 := hP5.2.2.2.1.c1; have HP5 := Lib.hid hP5; clear hP5)
          | (go_simp; go_at_call 21; (refine (Hos.out _ (by first | exact HP8.out | exact HP8.out.drew | exact RowKit.Hid.out (by assumption) | exact FourP.drew (RowKit.Hid.out (by assumption)))).mono ?_); rintro e w5 ⟨rfl, hP5⟩; have b0 := hP5.1.c0; have b1 := hP5.1.c1; have p0 := hP5.2.1.c0; have p1 := hP5.2.1.c1; have q0 := hP5.2.2.1.c0; have q1 := hP5.2.2.1.c1; have x0 := hP5.2.2.2.1.c0; have x1 := hP5.2.2.2.1.c1; have HP5 := Lib.hid hP5; clear hP5))
        all_goals
          go_simp
          try go_wp2_with fail
          try go_ret
          exact ⟨rfl, (RowKit.Hid.out (by assumption : RowKit.Hid (FourP _ _ _ _ _ _ _ _ _ _ _ _))).2.2.2.2⟩
      | true =>
        have hpb := HB.out.symm
        obtain ⟨h1, h2, h3⟩ := put_facts hpb
        obtain ⟨f1, f2, _⟩ := fits_facts h2
        have h0 := (okB_facts h1).1
        have hMN : M = N + k := by rw [HM.out]; unfold putN; rw [if_pos hpb]
        have hget : ∀ W, Calls Try.prog 22 #[.agg #[.string R, .int .i64 M], .int .i64 N, .int .i64 k] W (PairPost v true W) := fun W => by
          rw [hMN, HR.out]
          have := implGetBits_any (putS s N v k) (N + k) N k W (put_size hpb)
          unfold GetPost at this
          rw [put_get hpb, if_pos rfl, put_val hpb hv0 hv1] at this
          exact this
        have hpart : ∀ W, Calls Try.prog 23 #[.agg #[.string R, .int .i64 M], .int .i64 0, .int .i64 N] W (BPost s N true W) := fun W => by
          rw [hMN, HR.out]
          have := implPart_any (putS s N v k) (N + k) 0 N W (put_size hpb) (by omega)
          rw [put_part hpb, put_partN hpb, put_has hpb] at this
          exact this
        have hpok : ∀ W, Calls Try.prog 20 #[.agg #[.string R, .int .i64 M]] W (RetBelow (.bool true) W) := fun W => by
          rw [hMN, HR.out]
          have := implBitsOk_any (putS s N v k) (N + k) W (put_size hpb)
          rw [put_ok hpb] at this
          exact this
        have Hget := Lib.hid hget
        have Hpart := Lib.hid hpart
        have Hpok := Lib.hid hpok
        have HMN := Lib.hid hMN
        clear hget hpart hpok hMN hpb h1 h2 Hok Hos
        go_wp2_with fail
        refine (Hget.out _).mono ?_
        rintro e w9 ⟨rfl, hb9⟩
        have HP9 := Lib.hid (HP8.out.below hb9)
        clear hb9 b0 b1 p0 p1 q0 q1 x0 x1 HP8
        have b0 := HP9.out.1.c0
        have b1 := HP9.out.1.c1
        have p0 := HP9.out.2.1.c0
        have p1 := HP9.out.2.1.c1
        have q0 := HP9.out.2.2.1.c0
        have q1 := HP9.out.2.2.1.c1
        go_wp2_with fail
        refine (Hpart.out _).mono ?_
        rintro e w10 ⟨rfl, hb10⟩
        have HP10 := Lib.hid (HP9.out.below hb10)
        clear hb10 b0 b1 p0 p1 q0 q1 HP9
        have b0 := HP10.out.1.c0
        have b1 := HP10.out.1.c1
        have p0 := HP10.out.2.1.c0
        have p1 := HP10.out.2.1.c1
        have q0 := HP10.out.2.2.1.c0
        have q1 := HP10.out.2.2.1.c1
        have l1 : w1.heap.size < w10.heap.size := HP10.out.1.lt
        have l2 : w2.heap.size < w10.heap.size := HP10.out.2.1.lt
        have l4 : w4.heap.size < w10.heap.size := HP10.out.2.2.1.lt
        have HP11 := Lib.hid (HP10.out.below (below1 w10 (.cells #[.string s, .int .i64 N] 25)))
        have Hold := Lib.hid (SB.new w10 s N)
        go_wp2_with fail
        refine (Hpok.out _).mono ?_
        rintro e w12 ⟨rfl, hb12⟩
        have HP12 := Lib.hid (HP11.out.below hb12)
        have Hold2 := Lib.hid (Hold.out.below hb12)
        clear hb12 b0 b1 p0 p1 q0 q1 HP10 HP11 Hold
        have b0 := HP12.out.1.c0
        have b1 := HP12.out.1.c1
        have p0 := HP12.out.2.1.c0
        have p1 := HP12.out.2.1.c1
        have o0 := Hold2.out.c0
        have o1 := Hold2.out.c1
        have e1 : (M == N + k) = true := by rw [beq_iff_eq]; exact HMN.out
        have e2 : wrap64 (N + k) = N + k := wrap_sum N k (by omega) (by omega)
        have e3 : (M == wrap64 (N + k)) = true := by rw [e2]; exact e1
        go_wp2_with fail
        go_ret
        exact ⟨rfl, HP12.out.2.2.2.2⟩
  · have hd : decide (1048576 < (n : Int)) = true := by simp; omega
    rw [hd] at hbig
    have Hbig := Lib.hid hbig
    clear hbig hd h
    go_enter Try.func3, Try.ntmps3
    go_wp2_with fail
    refine (Hbig.out _).mono ?_
    rintro e w' ⟨rfl, rfl⟩
    go_wp2_with fail
    go_ret
    exact ⟨rfl, Below.refl _ _⟩
end Go.Proofs.Ytoajpbainmbhlaa
