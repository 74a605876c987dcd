/- The walk of the law FnOneByOne. -/
import Derived.Test.YtoajpbainmbhlaaRg
import Derived.Test.YtoajpbainmbhlaaLb
import Derived.Test.YtoajpbainmbhlaaLc
import Derived.Test.YtoajpbainmbhlaaLa
import Derived.Test.YtoajpbainmbhlaaRh
import Derived.Test.YtoajpbainmbhlaaZa
namespace Go.Proofs.Ytoajpbainmbhlaa
open Go.RowKit

/-- block g holds these bits, and all that was below w is as it was -/
def OneP (w : World) (g : Nat) (s : ByteArray) (N : Int) (W : World) : Prop := SB W g s N ∧ Below w.heap.size w W
def TwoP (w : World) (g h : Nat) (s : ByteArray) (N : Int) (k : Nat) (W : World) : Prop := SB W g s N ∧ SB W h (pref s k) (k : Int) ∧ Below w.heap.size w W
theorem TwoP.drew {w : World} {g h : Nat} {s : ByteArray} {N : Int} {k : Nat} {W : World} (p : TwoP w g h s N k W) : TwoP w g h s N k W.drew := ⟨p.1.drew, p.2.1.drew, p.2.2.drew⟩
theorem TwoP.below {w : World} {g h : Nat} {s : ByteArray} {N : Int} {k : Nat} {W W' : World} (p : TwoP w g h s N k W) (hb : Below W.heap.size W W') : TwoP w g h s N k W' :=
  ⟨p.1.below hb, p.2.1.below hb, p.2.2.trans (hb.mono p.2.2.size)⟩
theorem SB.set2 {w : World} {g : Nat} {s s' : ByteArray} {N N' : Int} (h : SB w g s N) : SB ((w.setCell ⟨g, 0, none⟩ (.string s')).setCell ⟨g, 1, none⟩ (.int .i64 N')) g s' N' := by
  unfold SB at h ⊢
  simp only [World.setCell, Array.getElem?_modify, if_pos, h, Option.map_some]
  rfl
theorem SB.other {w : World} {g : Nat} {s : ByteArray} {N : Int} (h : SB w g s N) {a : Addr} (ha : g ≠ a.block) (v : Value) : SB (w.setCell a v) g s N := by
  have ha' : ¬ a.block = g := fun e => ha e.symm
  unfold SB at h ⊢
  simp only [World.setCell, Array.getElem?_modify, if_neg ha', h]
theorem TwoP.step {w : World} {g h : Nat} {s : ByteArray} {N : Int} {k : Nat} {W : World} (p : TwoP w g h s N k W) (hgh : g ≠ h) (hw : w.heap.size ≤ h) (o : Obj) :
    TwoP w g h s N (k + 1) (((W.setCell ⟨h, 0, none⟩ (.string (pref s (k + 1)))).setCell ⟨h, 1, none⟩ (.int .i64 ((k : Int) + 1))).alloc o) := by
  refine ⟨((p.1.other (by exact hgh) _).other (by exact hgh) _).below (below1 _ _), SB.below (by rw [show ((k + 1 : Nat) : Int) = (k : Int) + 1 from rfl]; exact p.2.1.set2) (below1 _ _), Below.alloc ((p.2.2.setCell (by exact hw) _).setCell (by exact hw) _) ?_ _⟩
  simpa using p.2.2.size
theorem OneP.drew {w : World} {g : Nat} {s : ByteArray} {N : Int} {W : World} (h : OneP w g s N W) : OneP w g s N W.drew := ⟨h.1.drew, h.2.drew⟩
theorem OneP.below {w : World} {g : Nat} {s : ByteArray} {N : Int} {W W' : World} (h : OneP w g s N W) (hb : Below W.heap.size W W') : OneP w g s N W' := ⟨h.1.below hb, h.2.trans (hb.mono h.2.size)⟩
def OnePost (w : World) (g : Nat) (s : ByteArray) (N : Int) (v : Value) (e : Ending) (W : World) : Prop := e = .returned v ∧ OneP w g s N W

set_option maxRecDepth 100000 in
set_option maxHeartbeats 1000000 in
theorem walkFnOneByOne (A : Option Addr) (n c : Nat) (w : World) (h : n ≤ 1048576 → CodeAt w A n c) :
    Calls Try.prog 8 #[.slice A n c] w fun e w' => e = .returned (.bool true) ∧ Below w.heap.size w w' := by
  have hbig := fun W => big_any A n c W
  by_cases hn : n ≤ 1048576
  · have H := Lib.hid (h hn)
    have hd : decide (1048576 < (n : Int)) = false := by simp; omega
    rw [hd] at hbig
    have Hbig := Lib.hid hbig
    clear hbig hd h
    go_enter Try.func8, Try.ntmps8
    go_wp2_with fail
    refine (Hbig.out _).mono ?_
    rintro e w' ⟨rfl, rfl⟩
    go_wp2_with fail
    refine (DrawBitsOk_any A n c _ H.out).mono ?_
    rintro e w1 ⟨s, N, rfl, hs, ⟨_, hN, hN0, hN1⟩, hb1⟩
    injection hN with _ hN
    subst hN
    have hs' : s.size ≤ maxLen := by unfold maxLen; omega
    have hz1 := hb1.size
    have hw2 : Below w1.heap.size w1 (w1.alloc (.cells #[.string s, .int .i64 N] 25)) := below1 w1 _
    have hsb : SB (w1.alloc (.cells #[.string s, .int .i64 N] 25)) w1.heap.size s N := SB.new w1 s N
    have hP : OneP w w1.heap.size s N (w1.alloc (.cells #[.string s, .int .i64 N] 25)) := ⟨hsb, hb1.trans (hw2.mono hz1)⟩
    obtain ⟨B, hB⟩ : ∃ B : Bool, B = okB s N := ⟨_, rfl⟩
    have hsp : ∀ W, OneP w w1.heap.size s N W → Calls Try.prog 21 #[.agg #[.string s, .int .i64 N]] W (OnePost w w1.heap.size s N (.bool B)) := fun W hW => by
      subst hB; exact (specBitsOk_any s N W hs').mono fun e W' ⟨h1, h2⟩ => ⟨h1, hW.below h2⟩
    have him : ∀ W, OneP w w1.heap.size s N W → Calls Try.prog 20 #[.agg #[.string s, .int .i64 N]] W (OnePost w w1.heap.size s N (.bool B)) := fun W hW => by
      subst hB; exact (implBitsOk_any s N W hs').mono fun e W' ⟨h1, h2⟩ => ⟨h1, hW.below h2⟩
    have Hsp := Lib.hid hsp
    have Him := Lib.hid him
    have HP := Lib.hid hP
    have HB := Lib.hid hB
    clear hsp him hB hP hsb hw2 hb1
    go_wp2_with fail
    generalize (w1.alloc (.cells #[.string s, .int .i64 N] 25)) = w2 at HP ⊢
    have c0 := HP.out.1.c0
    have c1 := HP.out.1.c1
    cases B with
    | false =>
      go_region_law (first
        | (go_simp; go_at_call 20; (refine (Him.out _ (by first | exact HP.out | exact HP.out.drew | exact RowKit.Hid.out (by assumption) | exact OneP.drew (RowKit.Hid.out (by assumption)))).mono ?_); rintro e w5 ⟨rfl, hP5⟩; have c0 := hP5.1.c0; have c1 := hP5.1.c1; have HP5 := Lib.hid hP5; clear hP5)
        | (go_simp; go_at_call 21; (refine (Hsp.out _ (by first | exact HP.out | exact HP.out.drew | exact RowKit.Hid.out (by assumption) | exact OneP.drew (RowKit.Hid.out (by assumption)))).mono ?_); rintro e w5 ⟨rfl, hP5⟩; have c0 := hP5.1.c0; have c1 := hP5.1.c1; have HP5 := Lib.hid hP5; clear hP5))
      all_goals
        go_simp
        try go_wp2_with fail
        go_region_law (first
          | (go_simp; go_at_call 20; (refine (Him.out _ (by first | exact HP.out | exact HP.out.drew | exact RowKit.Hid.out (by assumption) | exact OneP.drew (RowKit.Hid.out (by assumption)))).mono ?_); rintro e w5 ⟨rfl, hP5⟩; have c0 := hP5.1.c0; have c1 := hP5.1.c1; have HP5 := Lib.hid hP5; clear hP5)
          | (go_simp; go_at_call 21; (refine (Hsp.out _ (by first | exact HP.out | exact HP.out.drew | exact RowKit.Hid.out (by assumption) | exact OneP.drew (RowKit.Hid.out (by assumption)))).mono ?_); rintro e w5 ⟨rfl, hP5⟩; have c0 := hP5.1.c0; have c1 := hP5.1.c1; have HP5 := Lib.hid hP5; clear hP5))
        all_goals
          go_simp
          try go_wp2_with fail
          go_ret
          exact ⟨rfl, (RowKit.Hid.out (by assumption : RowKit.Hid (OneP _ _ _ _ _))).2⟩
    | true =>
      go_region_law (first
        | (go_simp; go_at_call 20; (refine (Him.out _ (by first | exact HP.out | exact HP.out.drew | exact RowKit.Hid.out (by assumption) | exact OneP.drew (RowKit.Hid.out (by assumption)))).mono ?_); rintro e w5 ⟨rfl, hP5⟩; have c0 := hP5.1.c0; have c1 := hP5.1.c1; have HP5 := Lib.hid hP5; clear hP5)
        | (go_simp; go_at_call 21; (refine (Hsp.out _ (by first | exact HP.out | exact HP.out.drew | exact RowKit.Hid.out (by assumption) | exact OneP.drew (RowKit.Hid.out (by assumption)))).mono ?_); rintro e w5 ⟨rfl, hP5⟩; have c0 := hP5.1.c0; have c1 := hP5.1.c1; have HP5 := Lib.hid hP5; clear hP5))
      all_goals
        have HP6 := (by assumption : RowKit.Hid (OneP w w1.heap.size s N _))
        go_simp
        try go_wp2_with fail
        have hgl : w1.heap.size < w5.heap.size := HP5.out.1.lt
        have hgw : w.heap.size ≤ w5.heap.size := HP5.out.2.size
        have hfin : TwoP w w1.heap.size w5.heap.size s N 0 (w5.alloc (.cells #[.string ⟨#[]⟩, .int .i64 0] 25)) :=
          ⟨HP5.out.1.below (below1 _ _), by rw [pref_zero]; exact SB.new w5 ⟨#[]⟩ 0, HP5.out.2.alloc hgw _⟩
        have hN' := (okB_facts HB.out.symm).1
        have hN'' := (okB_facts HB.out.symm).2.1
        go_loopw [5] (fun i wr => ∃ k : Nat, (k : Int) ≤ N ∧ i = .int .i64 k ∧ Hid (TwoP w w1.heap.size w5.heap.size s N k wr)) (fun i _ => N.toNat - (intOf i).toNat)
        case atStart => exact ⟨0, by omega, rfl, hfin⟩
        case round =>
          clear hfin
          obtain ⟨k, hk, rfl, HT⟩ := hrel
          by_cases hlt : (k : Int) < N
          · have hok := HB.out.symm
            have hkk : k + 1 ≤ 20000 := by omega
            obtain ⟨X, hX⟩ : ∃ X : Int, X = wrap64 (takeN s k 1 : Int) := ⟨_, rfl⟩
            have hget : ∀ W, TwoP w w1.heap.size w5.heap.size s N k W → Calls Try.prog 22 #[.agg #[.string s, .int .i64 N], .int .i64 k, .int .i64 1] W (fun e W' => e = .returned (.tuple #[.int .i64 X, .bool true]) ∧ TwoP w w1.heap.size w5.heap.size s N k W' ∧ Below W.heap.size W W') := fun W hW => by
              subst hX
              refine (implGetBits_any s N k 1 W hs').mono fun e W' h => ?_
              unfold GetPost at h
              rw [one_get s N k hok hlt, if_pos rfl, Int.toNat_natCast] at h
              exact ⟨h.1, hW.below h.2, h.2⟩
            have hput : ∀ W, TwoP w w1.heap.size w5.heap.size s N k W → Calls Try.prog 17 #[.agg #[.string (pref s k), .int .i64 k], .int .i64 X, .int .i64 1] W (fun e W' => e = .returned (.tuple #[.agg #[.string (pref s (k + 1)), .int .i64 ((k : Int) + 1)], .bool true]) ∧ TwoP w w1.heap.size w5.heap.size s N k W' ∧ Below W.heap.size W W') := fun W hW => by
              subst hX
              refine (implPutBits_any (pref s k) k (wrap64 (takeN s k 1 : Int)) 1 W (pref_le s k (by omega))).mono fun e W' h => ?_
              unfold BPost at h
              rw [one_putS s k hkk, one_putN s k hkk, one_put s k hkk] at h
              exact ⟨h.1, hW.below h.2, h.2⟩
            have hX64 := one_u64 s k
            rw [← hX] at hX64
            have Hget := Lib.hid hget
            have Hput := Lib.hid hput
            clear hget hput hX hok
            have c0 := HT.out.1.c0
            have c1 := HT.out.1.c1
            have d0 := HT.out.2.1.c0
            have d1 := HT.out.2.1.c1
            go_wp2_with fail
            refine (Hget.out _ HT.out).mono ?_
            rintro e w6 ⟨rfl, hT6, hb6⟩
            clear c0 c1 d0 d1 hb6
            have HT6 := Lib.hid hT6
            clear hT6
            have c0 := HT6.out.1.c0
            have c1 := HT6.out.1.c1
            have d0 := HT6.out.2.1.c0
            have d1 := HT6.out.2.1.c1
            try go_wp2_with fail
            refine (Hput.out _ HT6.out).mono ?_
            rintro e w7 ⟨rfl, hT7, hb7⟩
            clear c0 c1 d0 d1 hb7
            have HT7 := Lib.hid hT7
            clear hT7
            have c0 := HT7.out.1.c0
            have c1 := HT7.out.1.c1
            have d0 := HT7.out.2.1.c0
            have d1 := HT7.out.2.1.c1
            have f0 := HT7.out.2.1.f 0
            have f1 := HT7.out.2.1.f 1
            have hl7 : w5.heap.size < w7.heap.size := HT7.out.2.1.lt
            have hgl7 : w1.heap.size < w7.heap.size := HT7.out.1.lt
            try go_wp2_with fail
            exact ⟨⟨k + 1, by omega, by simp, Lib.hid (HT7.out.step (by omega) (by omega) _)⟩, by simp only [intOf]; omega⟩
          · have hkN : (k : Int) = N := by omega
            have hT := HT.out
            unfold TwoP at hT
            rw [pref_all s N k HB.out.symm hkN, hkN] at hT
            have c0 := hT.1.c0
            have c1 := hT.1.c1
            have d0 := hT.2.1.c0
            have d1 := hT.2.1.c1
            have hbl := hT.2.2
            clear hT
            have hd : decide ((k : Int) < N) = false := by simpa using hlt
            go_wp2_with fail
            go_ret
            exact ⟨rfl, hbl⟩
  · have hd : decide (1048576 < (n : Int)) = true := by simp; omega
    rw [hd] at hbig
    have Hbig := Lib.hid hbig
    clear hbig hd h
    go_enter Try.func8, Try.ntmps8
    go_wp2_with fail
    refine (Hbig.out _).mono ?_
    rintro e w' ⟨rfl, rfl⟩
    go_wp2_with fail
    go_ret
    exact ⟨rfl, Below.refl _ _⟩
end Go.Proofs.Ytoajpbainmbhlaa
