/- The walk of the law FnJoined. -/
import Derived.Test.YtpnfkmhhilnglaaJb
import Derived.Test.YtpnfkmhhilnglaaJc
import Derived.Test.YtpnfkmhhilnglaaLj
import Derived.Test.YtpnfkmhhilnglaaUb
set_option linter.unusedVariables false
set_option linter.unusedSimpArgs false
namespace Go.Proofs.Ytpnfkmhhilnglaa
open Go.RowKit

set_option maxRecDepth 100000 in
set_option maxHeartbeats 12000000 in
theorem walkFnJoined (A : Option Addr) (n c : Nat) (w : World) (h : n ≤ 1048576 → CodeAt w A n c) :
    Calls Try.prog 3 #[.slice A n c] w fun e w' => e = .returned (.bool true) ∧ Below w.heap.size w w' := by
  have hbig := fun W => big_any A n c W
  by_cases hn : n ≤ 1048576
  · have H := Lib.hid (h hn)
    have hd : decide (1048576 < (n : Int)) = false := by simp; omega
    rw [hd] at hbig
    have Hbig := Lib.hid hbig
    clear hbig hd h
    go_enter Try.func3, Try.ntmps3
    go_wp2_with fail
    refine (Hbig.out _).mono ?_
    rintro e w' ⟨rfl, rfl⟩
    go_wp2_with fail
    refine (DrawJoined_any A n c _ H.out).mono ?_
    rintro e w1 ⟨s, N, t, M, rfl, hs, ht, hN, hM, hb1⟩
    have H1 := Lib.hid (H.out.below hb1)
    have B1 := Lib.hid hb1
    have hs' : s.size ≤ maxLen := by unfold maxLen; omega
    have ht' : t.size ≤ maxLen := by unfold maxLen; omega
    have him := fun W => implJoined_any s N t M W hs' ht'
    have hsp := fun W => specJoined_any s N t M W hs' ht'
    have hjf := Lib.hid (fun h => @join_facts s N t M h hs ht)
    generalize joinS s N t M = R at *
    generalize joinN s N t M = K at *
    generalize joinB s N t M = T at *
    have Him := Lib.hid him
    have Hsp := Lib.hid hsp
    clear him hsp hb1 hN hM

    have Xa := Lib.hid (show SB ((w1.alloc (.cells #[.string s, .int .i64 N] 25)).alloc (.cells #[.string t, .int .i64 M] 25)) w1.heap.size s N from heap_alloc2_old _ _ _)
    have Xb := Lib.hid (show SB ((w1.alloc (.cells #[.string s, .int .i64 N] 25)).alloc (.cells #[.string t, .int .i64 M] 25)) (w1.heap.size + 1) t M from heap_alloc2_new _ _ _)
    have hba : Below w1.heap.size w1 ((w1.alloc (.cells #[.string s, .int .i64 N] 25)).alloc (.cells #[.string t, .int .i64 M] 25)) := below2 w1 _ _
    have BB := Lib.hid (B1.out.trans (hba.mono B1.out.size))
    have HC := Lib.hid (H1.out.below hba)
    clear hba B1 H1
    go_wp2_with fail
    refine (Him.out _).mono ?_
    rintro e w2 ⟨rfl, hb⟩
    have Xa := Lib.hid (Xa.out.below hb)
    have Xb := Lib.hid (Xb.out.below hb)
    have HC := Lib.hid (HC.out.below hb)
    have BB := Lib.hid (BB.out.trans (hb.mono BB.out.size))
    clear hb
    have ac0 := Xa.out.c0
    have ac1 := Xa.out.c1
    have alt := Xa.out.lt
    have bc0 := Xb.out.c0
    have bc1 := Xb.out.c1
    have blt := Xb.out.lt
    go_wp2_with fail
    clear ac0 ac1 alt bc0 bc1 blt
    have hba : Below w2.heap.size w2 (w2.alloc (.cells #[.string R, .int .i64 K] 25)) := below1 w2 _
    have Xj := Lib.hid (SB.new w2 R K)
    have Xa := Lib.hid (Xa.out.below hba)
    have Xb := Lib.hid (Xb.out.below hba)
    have HC := Lib.hid (HC.out.below hba)
    have BB := Lib.hid (BB.out.trans (hba.mono BB.out.size))
    clear hba
    refine (Hsp.out _).mono ?_
    rintro e w3 ⟨rfl, hb⟩
    have Xa := Lib.hid (Xa.out.below hb)
    have Xb := Lib.hid (Xb.out.below hb)
    have Xj := Lib.hid (Xj.out.below hb)
    have HC := Lib.hid (HC.out.below hb)
    have BB := Lib.hid (BB.out.trans (hb.mono BB.out.size))
    clear hb
    have ac0 := Xa.out.c0
    have ac1 := Xa.out.c1
    have alt := Xa.out.lt
    have bc0 := Xb.out.c0
    have bc1 := Xb.out.c1
    have blt := Xb.out.lt
    have jc0 := Xj.out.c0
    have jc1 := Xj.out.c1
    have jlt := Xj.out.lt
    go_wp2_with fail
    clear ac0 ac1 alt bc0 bc1 blt jc0 jc1 jlt
    have hba : Below w3.heap.size w3 (w3.alloc (.cells #[.string R, .int .i64 K] 25)) := below1 w3 _
    have Xwant := Lib.hid (SB.new w3 R K)
    have Xa := Lib.hid (Xa.out.below hba)
    have Xb := Lib.hid (Xb.out.below hba)
    have Xj := Lib.hid (Xj.out.below hba)
    have HC := Lib.hid (HC.out.below hba)
    have BB := Lib.hid (BB.out.trans (hba.mono BB.out.size))
    clear hba
    refine (DrawPart_any A n c _ HC.out).mono ?_
    rintro e w4 ⟨s4, N4, f4, n4, rfl, hs4, hN4, hf4, hn4, hb⟩
    have hs4' : s4.size ≤ maxLen := by unfold maxLen; omega
    have hip := fun W => implPart_any s4 N4 f4 n4 W hs4' (by unfold Rng at hn4; omega)
    have hpp := fun W => specPart_any s4 N4 f4 n4 W hs4'
    generalize partS s4 N4 f4 n4 = P at *
    generalize partN s4 N4 f4 n4 = KP at *
    generalize hasB s4 N4 f4 n4 = TP at *
    have Hip := Lib.hid hip
    have Hpp := Lib.hid hpp
    clear hip hpp hN4 hf4 hn4 hs4 hs4'
    have Xa := Lib.hid (Xa.out.below hb)
    have Xb := Lib.hid (Xb.out.below hb)
    have Xj := Lib.hid (Xj.out.below hb)
    have Xwant := Lib.hid (Xwant.out.below hb)
    have HC := Lib.hid (HC.out.below hb)
    have BB := Lib.hid (BB.out.trans (hb.mono BB.out.size))
    clear hb
    have ac0 := Xa.out.c0
    have ac1 := Xa.out.c1
    have alt := Xa.out.lt
    have bc0 := Xb.out.c0
    have bc1 := Xb.out.c1
    have blt := Xb.out.lt
    have jc0 := Xj.out.c0
    have jc1 := Xj.out.c1
    have jlt := Xj.out.lt
    have wantc0 := Xwant.out.c0
    have wantc1 := Xwant.out.c1
    have wantlt := Xwant.out.lt
    go_wp2_with fail
    clear ac0 ac1 alt bc0 bc1 blt jc0 jc1 jlt wantc0 wantc1 wantlt
    have hba : Below w4.heap.size w4 (w4.alloc (.cells #[.string s4, .int .i64 N4] 25)) := below1 w4 _
    have Xc := Lib.hid (SB.new w4 s4 N4)
    have Xa := Lib.hid (Xa.out.below hba)
    have Xb := Lib.hid (Xb.out.below hba)
    have Xj := Lib.hid (Xj.out.below hba)
    have Xwant := Lib.hid (Xwant.out.below hba)
    have BB := Lib.hid (BB.out.trans (hba.mono BB.out.size))
    clear hba HC
    refine (Hip.out _).mono ?_
    rintro e w5 ⟨rfl, hb⟩
    have Xa := Lib.hid (Xa.out.below hb)
    have Xb := Lib.hid (Xb.out.below hb)
    have Xj := Lib.hid (Xj.out.below hb)
    have Xwant := Lib.hid (Xwant.out.below hb)
    have Xc := Lib.hid (Xc.out.below hb)
    have BB := Lib.hid (BB.out.trans (hb.mono BB.out.size))
    clear hb
    have ac0 := Xa.out.c0
    have ac1 := Xa.out.c1
    have alt := Xa.out.lt
    have bc0 := Xb.out.c0
    have bc1 := Xb.out.c1
    have blt := Xb.out.lt
    have jc0 := Xj.out.c0
    have jc1 := Xj.out.c1
    have jlt := Xj.out.lt
    have wantc0 := Xwant.out.c0
    have wantc1 := Xwant.out.c1
    have wantlt := Xwant.out.lt
    have cc0 := Xc.out.c0
    have cc1 := Xc.out.c1
    have clt := Xc.out.lt
    go_wp2_with fail
    clear ac0 ac1 alt bc0 bc1 blt jc0 jc1 jlt wantc0 wantc1 wantlt cc0 cc1 clt
    have hba : Below w5.heap.size w5 (w5.alloc (.cells #[.string P, .int .i64 KP] 25)) := below1 w5 _
    have Xp := Lib.hid (SB.new w5 P KP)
    have Xa := Lib.hid (Xa.out.below hba)
    have Xb := Lib.hid (Xb.out.below hba)
    have Xj := Lib.hid (Xj.out.below hba)
    have Xwant := Lib.hid (Xwant.out.below hba)
    have Xc := Lib.hid (Xc.out.below hba)
    have BB := Lib.hid (BB.out.trans (hba.mono BB.out.size))
    clear hba
    refine (Hpp.out _).mono ?_
    rintro e w6 ⟨rfl, hb⟩
    have Xa := Lib.hid (Xa.out.below hb)
    have Xb := Lib.hid (Xb.out.below hb)
    have Xj := Lib.hid (Xj.out.below hb)
    have Xwant := Lib.hid (Xwant.out.below hb)
    have Xc := Lib.hid (Xc.out.below hb)
    have Xp := Lib.hid (Xp.out.below hb)
    have BB := Lib.hid (BB.out.trans (hb.mono BB.out.size))
    clear hb
    have ac0 := Xa.out.c0
    have ac1 := Xa.out.c1
    have alt := Xa.out.lt
    have bc0 := Xb.out.c0
    have bc1 := Xb.out.c1
    have blt := Xb.out.lt
    have jc0 := Xj.out.c0
    have jc1 := Xj.out.c1
    have jlt := Xj.out.lt
    have wantc0 := Xwant.out.c0
    have wantc1 := Xwant.out.c1
    have wantlt := Xwant.out.lt
    have cc0 := Xc.out.c0
    have cc1 := Xc.out.c1
    have clt := Xc.out.lt
    have pc0 := Xp.out.c0
    have pc1 := Xp.out.c1
    have plt := Xp.out.lt
    cases T with
    | false =>
      cases TP with
      | true =>
        go_wp2_with fail
        go_ret
        exact ⟨rfl, BB.out.alloc (by have := BB.out.size; omega) _⟩
      | false =>
        go_wp2_with fail
        go_ret
        exact ⟨rfl, BB.out.alloc (by have := BB.out.size; omega) _⟩
    | true =>
      obtain ⟨U, KU, V, KV, JF⟩ := hjf.out rfl
      have Hx := Lib.hid JF.x
      have Hy := Lib.hid JF.y
      have Hz := Lib.hid JF.z
      have Hu := Lib.hid JF.u
      have Hv := Lib.hid JF.v
      have Hw := Lib.hid JF.w
      clear JF
      cases TP with
      | true =>
        go_wp2_with fail
        clear ac0 ac1 alt bc0 bc1 blt jc0 jc1 jlt wantc0 wantc1 wantlt cc0 cc1 clt pc0 pc1 plt
        have hba : Below w6.heap.size w6 (w6.alloc (.cells #[.string P, .int .i64 KP] 25)) := below1 w6 _
        have Xa := Lib.hid (Xa.out.below hba)
        have Xb := Lib.hid (Xb.out.below hba)
        have Xj := Lib.hid (Xj.out.below hba)
        have BB := Lib.hid (BB.out.trans (hba.mono BB.out.size))
        clear hba Xwant Xc Xp
        refine (Hx.out _).mono ?_
        rintro e w7 ⟨rfl, hb⟩
        have Xa := Lib.hid (Xa.out.below hb)
        have Xb := Lib.hid (Xb.out.below hb)
        have Xj := Lib.hid (Xj.out.below hb)
        have BB := Lib.hid (BB.out.trans (hb.mono BB.out.size))
        clear hb
        have ac0 := Xa.out.c0
        have ac1 := Xa.out.c1
        have alt := Xa.out.lt
        have bc0 := Xb.out.c0
        have bc1 := Xb.out.c1
        have blt := Xb.out.lt
        have jc0 := Xj.out.c0
        have jc1 := Xj.out.c1
        have jlt := Xj.out.lt
        go_wp2_with fail
        clear ac0 ac1 alt bc0 bc1 blt jc0 jc1 jlt
        have hba : Below w7.heap.size w7 (w7.alloc (.cells #[.string s, .int .i64 N] 25)) := below1 w7 _
        have Xx := Lib.hid (SB.new w7 s N)
        have Xa := Lib.hid (Xa.out.below hba)
        have Xb := Lib.hid (Xb.out.below hba)
        have Xj := Lib.hid (Xj.out.below hba)
        have BB := Lib.hid (BB.out.trans (hba.mono BB.out.size))
        clear hba
        refine (Hy.out _).mono ?_
        rintro e w8 ⟨rfl, hb⟩
        have Xa := Lib.hid (Xa.out.below hb)
        have Xb := Lib.hid (Xb.out.below hb)
        have Xj := Lib.hid (Xj.out.below hb)
        have Xx := Lib.hid (Xx.out.below hb)
        have BB := Lib.hid (BB.out.trans (hb.mono BB.out.size))
        clear hb
        have ac0 := Xa.out.c0
        have ac1 := Xa.out.c1
        have alt := Xa.out.lt
        have bc0 := Xb.out.c0
        have bc1 := Xb.out.c1
        have blt := Xb.out.lt
        have jc0 := Xj.out.c0
        have jc1 := Xj.out.c1
        have jlt := Xj.out.lt
        have xc0 := Xx.out.c0
        have xc1 := Xx.out.c1
        have xlt := Xx.out.lt
        go_wp2_with fail
        clear ac0 ac1 alt bc0 bc1 blt jc0 jc1 jlt xc0 xc1 xlt
        have hba : Below w8.heap.size w8 (w8.alloc (.cells #[.string t, .int .i64 M] 25)) := below1 w8 _
        have Xy := Lib.hid (SB.new w8 t M)
        have Xa := Lib.hid (Xa.out.below hba)
        have Xb := Lib.hid (Xb.out.below hba)
        have Xj := Lib.hid (Xj.out.below hba)
        have Xx := Lib.hid (Xx.out.below hba)
        have BB := Lib.hid (BB.out.trans (hba.mono BB.out.size))
        clear hba
        refine (Hz.out _).mono ?_
        rintro e w9 ⟨rfl, hb⟩
        have Xa := Lib.hid (Xa.out.below hb)
        have Xb := Lib.hid (Xb.out.below hb)
        have Xj := Lib.hid (Xj.out.below hb)
        have Xx := Lib.hid (Xx.out.below hb)
        have Xy := Lib.hid (Xy.out.below hb)
        have BB := Lib.hid (BB.out.trans (hb.mono BB.out.size))
        clear hb
        have ac0 := Xa.out.c0
        have ac1 := Xa.out.c1
        have alt := Xa.out.lt
        have bc0 := Xb.out.c0
        have bc1 := Xb.out.c1
        have blt := Xb.out.lt
        have jc0 := Xj.out.c0
        have jc1 := Xj.out.c1
        have jlt := Xj.out.lt
        have xc0 := Xx.out.c0
        have xc1 := Xx.out.c1
        have xlt := Xx.out.lt
        have yc0 := Xy.out.c0
        have yc1 := Xy.out.c1
        have ylt := Xy.out.lt
        go_wp2_with fail
        clear ac0 ac1 alt bc0 bc1 blt jc0 jc1 jlt xc0 xc1 xlt yc0 yc1 ylt
        have hba : Below w9.heap.size w9 (w9.alloc (.cells #[.string s, .int .i64 N] 25)) := below1 w9 _
        have Xz := Lib.hid (SB.new w9 s N)
        have Xa := Lib.hid (Xa.out.below hba)
        have Xb := Lib.hid (Xb.out.below hba)
        have Xj := Lib.hid (Xj.out.below hba)
        have Xx := Lib.hid (Xx.out.below hba)
        have Xy := Lib.hid (Xy.out.below hba)
        have BB := Lib.hid (BB.out.trans (hba.mono BB.out.size))
        clear hba
        refine (Hu.out _).mono ?_
        rintro e w10 ⟨rfl, hb⟩
        have Xa := Lib.hid (Xa.out.below hb)
        have Xb := Lib.hid (Xb.out.below hb)
        have Xj := Lib.hid (Xj.out.below hb)
        have Xx := Lib.hid (Xx.out.below hb)
        have Xy := Lib.hid (Xy.out.below hb)
        have Xz := Lib.hid (Xz.out.below hb)
        have BB := Lib.hid (BB.out.trans (hb.mono BB.out.size))
        clear hb
        have ac0 := Xa.out.c0
        have ac1 := Xa.out.c1
        have alt := Xa.out.lt
        have bc0 := Xb.out.c0
        have bc1 := Xb.out.c1
        have blt := Xb.out.lt
        have jc0 := Xj.out.c0
        have jc1 := Xj.out.c1
        have jlt := Xj.out.lt
        have xc0 := Xx.out.c0
        have xc1 := Xx.out.c1
        have xlt := Xx.out.lt
        have yc0 := Xy.out.c0
        have yc1 := Xy.out.c1
        have ylt := Xy.out.lt
        have zc0 := Xz.out.c0
        have zc1 := Xz.out.c1
        have zlt := Xz.out.lt
        go_wp2_with fail
        clear ac0 ac1 alt bc0 bc1 blt jc0 jc1 jlt xc0 xc1 xlt yc0 yc1 ylt zc0 zc1 zlt
        have hba : Below w10.heap.size w10 (w10.alloc (.cells #[.string U, .int .i64 KU] 25)) := below1 w10 _
        have Xu := Lib.hid (SB.new w10 U KU)
        have Xa := Lib.hid (Xa.out.below hba)
        have Xb := Lib.hid (Xb.out.below hba)
        have Xj := Lib.hid (Xj.out.below hba)
        have Xx := Lib.hid (Xx.out.below hba)
        have Xy := Lib.hid (Xy.out.below hba)
        have Xz := Lib.hid (Xz.out.below hba)
        have BB := Lib.hid (BB.out.trans (hba.mono BB.out.size))
        clear hba
        refine (Hv.out _).mono ?_
        rintro e w11 ⟨rfl, hb⟩
        have Xa := Lib.hid (Xa.out.below hb)
        have Xb := Lib.hid (Xb.out.below hb)
        have Xj := Lib.hid (Xj.out.below hb)
        have Xx := Lib.hid (Xx.out.below hb)
        have Xy := Lib.hid (Xy.out.below hb)
        have Xz := Lib.hid (Xz.out.below hb)
        have Xu := Lib.hid (Xu.out.below hb)
        have BB := Lib.hid (BB.out.trans (hb.mono BB.out.size))
        clear hb
        have ac0 := Xa.out.c0
        have ac1 := Xa.out.c1
        have alt := Xa.out.lt
        have bc0 := Xb.out.c0
        have bc1 := Xb.out.c1
        have blt := Xb.out.lt
        have jc0 := Xj.out.c0
        have jc1 := Xj.out.c1
        have jlt := Xj.out.lt
        have xc0 := Xx.out.c0
        have xc1 := Xx.out.c1
        have xlt := Xx.out.lt
        have yc0 := Xy.out.c0
        have yc1 := Xy.out.c1
        have ylt := Xy.out.lt
        have zc0 := Xz.out.c0
        have zc1 := Xz.out.c1
        have zlt := Xz.out.lt
        have uc0 := Xu.out.c0
        have uc1 := Xu.out.c1
        have ult := Xu.out.lt
        go_wp2_with fail
        clear ac0 ac1 alt bc0 bc1 blt jc0 jc1 jlt xc0 xc1 xlt yc0 yc1 ylt zc0 zc1 zlt uc0 uc1 ult
        have hba : Below w11.heap.size w11 (w11.alloc (.cells #[.string V, .int .i64 KV] 25)) := below1 w11 _
        have Xv := Lib.hid (SB.new w11 V KV)
        have Xa := Lib.hid (Xa.out.below hba)
        have Xb := Lib.hid (Xb.out.below hba)
        have Xj := Lib.hid (Xj.out.below hba)
        have Xx := Lib.hid (Xx.out.below hba)
        have Xy := Lib.hid (Xy.out.below hba)
        have Xz := Lib.hid (Xz.out.below hba)
        have Xu := Lib.hid (Xu.out.below hba)
        have BB := Lib.hid (BB.out.trans (hba.mono BB.out.size))
        clear hba
        refine (Hw.out _).mono ?_
        rintro e w12 ⟨rfl, hb⟩
        have Xa := Lib.hid (Xa.out.below hb)
        have Xb := Lib.hid (Xb.out.below hb)
        have Xj := Lib.hid (Xj.out.below hb)
        have Xx := Lib.hid (Xx.out.below hb)
        have Xy := Lib.hid (Xy.out.below hb)
        have Xz := Lib.hid (Xz.out.below hb)
        have Xu := Lib.hid (Xu.out.below hb)
        have Xv := Lib.hid (Xv.out.below hb)
        have BB := Lib.hid (BB.out.trans (hb.mono BB.out.size))
        clear hb
        have ac0 := Xa.out.c0
        have ac1 := Xa.out.c1
        have alt := Xa.out.lt
        have bc0 := Xb.out.c0
        have bc1 := Xb.out.c1
        have blt := Xb.out.lt
        have jc0 := Xj.out.c0
        have jc1 := Xj.out.c1
        have jlt := Xj.out.lt
        have xc0 := Xx.out.c0
        have xc1 := Xx.out.c1
        have xlt := Xx.out.lt
        have yc0 := Xy.out.c0
        have yc1 := Xy.out.c1
        have ylt := Xy.out.lt
        have zc0 := Xz.out.c0
        have zc1 := Xz.out.c1
        have zlt := Xz.out.lt
        have uc0 := Xu.out.c0
        have uc1 := Xu.out.c1
        have ult := Xu.out.lt
        have vc0 := Xv.out.c0
        have vc1 := Xv.out.c1
        have vlt := Xv.out.lt
        go_wp2_with fail
        go_ret
        exact ⟨rfl, BB.out.alloc (by have := BB.out.size; omega) _⟩
      | false =>
        go_wp2_with fail
        clear ac0 ac1 alt bc0 bc1 blt jc0 jc1 jlt wantc0 wantc1 wantlt cc0 cc1 clt pc0 pc1 plt
        have hba : Below w6.heap.size w6 (w6.alloc (.cells #[.string P, .int .i64 KP] 25)) := below1 w6 _
        have Xa := Lib.hid (Xa.out.below hba)
        have Xb := Lib.hid (Xb.out.below hba)
        have Xj := Lib.hid (Xj.out.below hba)
        have BB := Lib.hid (BB.out.trans (hba.mono BB.out.size))
        clear hba Xwant Xc Xp
        refine (Hx.out _).mono ?_
        rintro e w7 ⟨rfl, hb⟩
        have Xa := Lib.hid (Xa.out.below hb)
        have Xb := Lib.hid (Xb.out.below hb)
        have Xj := Lib.hid (Xj.out.below hb)
        have BB := Lib.hid (BB.out.trans (hb.mono BB.out.size))
        clear hb
        have ac0 := Xa.out.c0
        have ac1 := Xa.out.c1
        have alt := Xa.out.lt
        have bc0 := Xb.out.c0
        have bc1 := Xb.out.c1
        have blt := Xb.out.lt
        have jc0 := Xj.out.c0
        have jc1 := Xj.out.c1
        have jlt := Xj.out.lt
        go_wp2_with fail
        clear ac0 ac1 alt bc0 bc1 blt jc0 jc1 jlt
        have hba : Below w7.heap.size w7 (w7.alloc (.cells #[.string s, .int .i64 N] 25)) := below1 w7 _
        have Xx := Lib.hid (SB.new w7 s N)
        have Xa := Lib.hid (Xa.out.below hba)
        have Xb := Lib.hid (Xb.out.below hba)
        have Xj := Lib.hid (Xj.out.below hba)
        have BB := Lib.hid (BB.out.trans (hba.mono BB.out.size))
        clear hba
        refine (Hy.out _).mono ?_
        rintro e w8 ⟨rfl, hb⟩
        have Xa := Lib.hid (Xa.out.below hb)
        have Xb := Lib.hid (Xb.out.below hb)
        have Xj := Lib.hid (Xj.out.below hb)
        have Xx := Lib.hid (Xx.out.below hb)
        have BB := Lib.hid (BB.out.trans (hb.mono BB.out.size))
        clear hb
        have ac0 := Xa.out.c0
        have ac1 := Xa.out.c1
        have alt := Xa.out.lt
        have bc0 := Xb.out.c0
        have bc1 := Xb.out.c1
        have blt := Xb.out.lt
        have jc0 := Xj.out.c0
        have jc1 := Xj.out.c1
        have jlt := Xj.out.lt
        have xc0 := Xx.out.c0
        have xc1 := Xx.out.c1
        have xlt := Xx.out.lt
        go_wp2_with fail
        clear ac0 ac1 alt bc0 bc1 blt jc0 jc1 jlt xc0 xc1 xlt
        have hba : Below w8.heap.size w8 (w8.alloc (.cells #[.string t, .int .i64 M] 25)) := below1 w8 _
        have Xy := Lib.hid (SB.new w8 t M)
        have Xa := Lib.hid (Xa.out.below hba)
        have Xb := Lib.hid (Xb.out.below hba)
        have Xj := Lib.hid (Xj.out.below hba)
        have Xx := Lib.hid (Xx.out.below hba)
        have BB := Lib.hid (BB.out.trans (hba.mono BB.out.size))
        clear hba
        refine (Hz.out _).mono ?_
        rintro e w9 ⟨rfl, hb⟩
        have Xa := Lib.hid (Xa.out.below hb)
        have Xb := Lib.hid (Xb.out.below hb)
        have Xj := Lib.hid (Xj.out.below hb)
        have Xx := Lib.hid (Xx.out.below hb)
        have Xy := Lib.hid (Xy.out.below hb)
        have BB := Lib.hid (BB.out.trans (hb.mono BB.out.size))
        clear hb
        have ac0 := Xa.out.c0
        have ac1 := Xa.out.c1
        have alt := Xa.out.lt
        have bc0 := Xb.out.c0
        have bc1 := Xb.out.c1
        have blt := Xb.out.lt
        have jc0 := Xj.out.c0
        have jc1 := Xj.out.c1
        have jlt := Xj.out.lt
        have xc0 := Xx.out.c0
        have xc1 := Xx.out.c1
        have xlt := Xx.out.lt
        have yc0 := Xy.out.c0
        have yc1 := Xy.out.c1
        have ylt := Xy.out.lt
        go_wp2_with fail
        clear ac0 ac1 alt bc0 bc1 blt jc0 jc1 jlt xc0 xc1 xlt yc0 yc1 ylt
        have hba : Below w9.heap.size w9 (w9.alloc (.cells #[.string s, .int .i64 N] 25)) := below1 w9 _
        have Xz := Lib.hid (SB.new w9 s N)
        have Xa := Lib.hid (Xa.out.below hba)
        have Xb := Lib.hid (Xb.out.below hba)
        have Xj := Lib.hid (Xj.out.below hba)
        have Xx := Lib.hid (Xx.out.below hba)
        have Xy := Lib.hid (Xy.out.below hba)
        have BB := Lib.hid (BB.out.trans (hba.mono BB.out.size))
        clear hba
        refine (Hu.out _).mono ?_
        rintro e w10 ⟨rfl, hb⟩
        have Xa := Lib.hid (Xa.out.below hb)
        have Xb := Lib.hid (Xb.out.below hb)
        have Xj := Lib.hid (Xj.out.below hb)
        have Xx := Lib.hid (Xx.out.below hb)
        have Xy := Lib.hid (Xy.out.below hb)
        have Xz := Lib.hid (Xz.out.below hb)
        have BB := Lib.hid (BB.out.trans (hb.mono BB.out.size))
        clear hb
        have ac0 := Xa.out.c0
        have ac1 := Xa.out.c1
        have alt := Xa.out.lt
        have bc0 := Xb.out.c0
        have bc1 := Xb.out.c1
        have blt := Xb.out.lt
        have jc0 := Xj.out.c0
        have jc1 := Xj.out.c1
        have jlt := Xj.out.lt
        have xc0 := Xx.out.c0
        have xc1 := Xx.out.c1
        have xlt := Xx.out.lt
        have yc0 := Xy.out.c0
        have yc1 := Xy.out.c1
        have ylt := Xy.out.lt
        have zc0 := Xz.out.c0
        have zc1 := Xz.out.c1
        have zlt := Xz.out.lt
        go_wp2_with fail
        clear ac0 ac1 alt bc0 bc1 blt jc0 jc1 jlt xc0 xc1 xlt yc0 yc1 ylt zc0 zc1 zlt
        have hba : Below w10.heap.size w10 (w10.alloc (.cells #[.string U, .int .i64 KU] 25)) := below1 w10 _
        have Xu := Lib.hid (SB.new w10 U KU)
        have Xa := Lib.hid (Xa.out.below hba)
        have Xb := Lib.hid (Xb.out.below hba)
        have Xj := Lib.hid (Xj.out.below hba)
        have Xx := Lib.hid (Xx.out.below hba)
        have Xy := Lib.hid (Xy.out.below hba)
        have Xz := Lib.hid (Xz.out.below hba)
        have BB := Lib.hid (BB.out.trans (hba.mono BB.out.size))
        clear hba
        refine (Hv.out _).mono ?_
        rintro e w11 ⟨rfl, hb⟩
        have Xa := Lib.hid (Xa.out.below hb)
        have Xb := Lib.hid (Xb.out.below hb)
        have Xj := Lib.hid (Xj.out.below hb)
        have Xx := Lib.hid (Xx.out.below hb)
        have Xy := Lib.hid (Xy.out.below hb)
        have Xz := Lib.hid (Xz.out.below hb)
        have Xu := Lib.hid (Xu.out.below hb)
        have BB := Lib.hid (BB.out.trans (hb.mono BB.out.size))
        clear hb
        have ac0 := Xa.out.c0
        have ac1 := Xa.out.c1
        have alt := Xa.out.lt
        have bc0 := Xb.out.c0
        have bc1 := Xb.out.c1
        have blt := Xb.out.lt
        have jc0 := Xj.out.c0
        have jc1 := Xj.out.c1
        have jlt := Xj.out.lt
        have xc0 := Xx.out.c0
        have xc1 := Xx.out.c1
        have xlt := Xx.out.lt
        have yc0 := Xy.out.c0
        have yc1 := Xy.out.c1
        have ylt := Xy.out.lt
        have zc0 := Xz.out.c0
        have zc1 := Xz.out.c1
        have zlt := Xz.out.lt
        have uc0 := Xu.out.c0
        have uc1 := Xu.out.c1
        have ult := Xu.out.lt
        go_wp2_with fail
        clear ac0 ac1 alt bc0 bc1 blt jc0 jc1 jlt xc0 xc1 xlt yc0 yc1 ylt zc0 zc1 zlt uc0 uc1 ult
        have hba : Below w11.heap.size w11 (w11.alloc (.cells #[.string V, .int .i64 KV] 25)) := below1 w11 _
        have Xv := Lib.hid (SB.new w11 V KV)
        have Xa := Lib.hid (Xa.out.below hba)
        have Xb := Lib.hid (Xb.out.below hba)
        have Xj := Lib.hid (Xj.out.below hba)
        have Xx := Lib.hid (Xx.out.below hba)
        have Xy := Lib.hid (Xy.out.below hba)
        have Xz := Lib.hid (Xz.out.below hba)
        have Xu := Lib.hid (Xu.out.below hba)
        have BB := Lib.hid (BB.out.trans (hba.mono BB.out.size))
        clear hba
        refine (Hw.out _).mono ?_
        rintro e w12 ⟨rfl, hb⟩
        have Xa := Lib.hid (Xa.out.below hb)
        have Xb := Lib.hid (Xb.out.below hb)
        have Xj := Lib.hid (Xj.out.below hb)
        have Xx := Lib.hid (Xx.out.below hb)
        have Xy := Lib.hid (Xy.out.below hb)
        have Xz := Lib.hid (Xz.out.below hb)
        have Xu := Lib.hid (Xu.out.below hb)
        have Xv := Lib.hid (Xv.out.below hb)
        have BB := Lib.hid (BB.out.trans (hb.mono BB.out.size))
        clear hb
        have ac0 := Xa.out.c0
        have ac1 := Xa.out.c1
        have alt := Xa.out.lt
        have bc0 := Xb.out.c0
        have bc1 := Xb.out.c1
        have blt := Xb.out.lt
        have jc0 := Xj.out.c0
        have jc1 := Xj.out.c1
        have jlt := Xj.out.lt
        have xc0 := Xx.out.c0
        have xc1 := Xx.out.c1
        have xlt := Xx.out.lt
        have yc0 := Xy.out.c0
        have yc1 := Xy.out.c1
        have ylt := Xy.out.lt
        have zc0 := Xz.out.c0
        have zc1 := Xz.out.c1
        have zlt := Xz.out.lt
        have uc0 := Xu.out.c0
        have uc1 := Xu.out.c1
        have ult := Xu.out.lt
        have vc0 := Xv.out.c0
        have vc1 := Xv.out.c1
        have vlt := Xv.out.lt
        go_wp2_with fail
        go_ret
        exact ⟨rfl, BB.out.alloc (by have := BB.out.size; omega) _⟩
  · have hd : decide (1048576 < (n : Int)) = true := by simp; omega
    rw [hd] at hbig
    have Hbig := Lib.hid hbig
    clear hbig hd h
    go_enter Try.func3, Try.ntmps3
    go_wp2_with fail
    refine (Hbig.out _).mono ?_
    rintro e w' ⟨rfl, rfl⟩
    go_wp2_with fail
    go_ret
    exact ⟨rfl, Below.refl _ _⟩
end Go.Proofs.Ytpnfkmhhilnglaa
