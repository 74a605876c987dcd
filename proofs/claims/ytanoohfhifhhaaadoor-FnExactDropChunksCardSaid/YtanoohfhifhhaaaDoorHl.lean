/- Walks: the document's reader of a code. -/
import Derived.Test.YtanoohfhifhhaaaDoorHk
set_option linter.unusedVariables false
set_option linter.unusedSimpArgs false
namespace Go.Proofs.YtanoohfhifhhaaaDoor
open Go.RowKit

def LenPost (m : Nat) (w : World) (e : Ending) (w' : World) : Prop := ∃ g c, e = .returned (.slice (some ⟨g, 0, none⟩) m c) ∧ Below w.heap.size w w'
theorem l3Code_len (d : Int) (w : World) (h : stepB d = true) :
    Calls Tryd.prog 105 #[.int .i64 d] w (LenPost (codeB d).length w) := by
  have hB : codeB d = codeL d := by unfold codeB; rw [h]; rfl
  obtain ⟨h0, h1⟩ := stepB_iff.1 h
  rw [hB]
  refine (l3Code_any d w h0 h1).mono ?_
  rintro e w' ⟨v, rfl, hown, hb, hv⟩
  have hl := codeL_pos d
  obtain ⟨g, c, rfl, hg, hg', _⟩ := own_form hown hv
  exact ⟨g, c, rfl, hb⟩
set_option maxRecDepth 100000 in
set_option maxHeartbeats 1000000 in
theorem l3Read_short0 (s : ByteArray) (n p : Nat) (w : World) (hs : s.size ≤ maxLen) (hn : n ≤ 20000) (h8 : n ≤ 8 * s.size) (hp : p + 1 ≤ n) (b0 : BM.bitAt s.data.toList p = false) (hq : ¬ p + 1 + 0 ≤ n) :
    Calls Tryd.prog 110 #[.agg #[.string s, .int .i64 (n : Int)], .int .i64 (p : Int)] w (RetBelow (readT none) w) := by
  exact absurd hp (by omega)
set_option maxRecDepth 100000 in
set_option maxHeartbeats 1000000 in
theorem l3Read_out0 (s : ByteArray) (n p : Nat) (w : World) (hs : s.size ≤ maxLen) (hn : n ≤ 20000) (h8 : n ≤ 8 * s.size) (hp : p = n)   :
    Calls Tryd.prog 110 #[.agg #[.string s, .int .i64 (n : Int)], .int .i64 (p : Int)] w (RetBelow (readT none) w) := by
  have b3w := fun (a b c : Obj) => ((((Below.refl w.heap.size w).alloc (Nat.le_refl _) a).alloc (by simp) b).alloc (by simp; omega) c)
  have hpi : (n : Int) = (p : Int) + 0 := by omega
  have gN : decide ((p : Int) < (n : Int)) = false := by simp; omega
  clear hpi
  go_enter Tryd.func110, Tryd.ntmps110
  go_wp2_with fail
  refine wp_loop_rounds 2 ?_
  rw [rounds_succ]
  go_wp2_with fail
  exact bodyPost_ret (v := .tuple #[.int .i64 0, .int .i64 0, .bool false]) (by simp [results, Tryd.results110, go_sem] <;> omega) rfl ⟨rfl, b3w _ _ _⟩
set_option maxRecDepth 100000 in
set_option maxHeartbeats 1000000 in
theorem l3Read_far0 (s : ByteArray) (n p : Nat) (w : World) (hs : s.size ≤ maxLen) (hn : n ≤ 20000) (h8 : n ≤ 8 * s.size) (hp : p + 1 ≤ n) (b0 : BM.bitAt s.data.toList p = false) (hq : p + 1 + 0 ≤ n) (X : Nat) (hX : takeN s (p + 1) 0 = X) (hst : stepB ((X : Int) - 0) = false) :
    Calls Tryd.prog 110 #[.agg #[.string s, .int .i64 (n : Int)], .int .i64 (p : Int)] w (RetBelow (readT none) w) := by
  have B0 := Lib.hid (fun W => show Calls Tryd.prog 111 #[.string s, .int .i64 (p : Int)] W fun e w' => e = .returned (.int .i64 0) ∧ w' = W from
    (by have := l1Bit_any s p W (by omega) (by omega) hs; rw [show (p : Int) = ((p : Nat) : Int) by omega]; exact this.mono fun _ _ h => ⟨by rw [h.1, b0]; rfl, h.2.symm⟩))
  have b3w := fun (a b c : Obj) => ((((Below.refl w.heap.size w).alloc (Nat.le_refl _) a).alloc (by simp) b).alloc (by simp; omega) c)
  have hXl : X < 2 ^ 0 := by rw [← hX]; exact BM.ofBits_lt _ _
  have hXw : wrap64 (takeN s (p + 1) 0 : Int) = (X : Int) := by rw [hX]; unfold wrap64; omega
  have T := Lib.hid (fun W => show Calls Tryd.prog 109 #[.agg #[.string s, .int .i64 (n : Int)], .int .i64 ((p : Int) + 1), .int .i64 0] W fun e w' => e = .returned (.int .i64 (X : Int)) ∧ Below W.heap.size W w' from
    (by have := l1Take_any s (n : Int) (p + 1) 0 W (by omega) (by omega) hs; rw [hXw] at this; rw [show ((p : Int) + 1) = ((p + 1 : Nat) : Int) by omega]; exact this))
  have S := Lib.hid (fun W => show Calls Tryd.prog 122 #[.int .i64 ((X : Int) - 0)] W fun e w' => e = .returned (.bool false) ∧ w' = W from
    (by have := l3Step_any ((X : Int) - 0) W; unfold stepB at hst; rw [hst] at this; exact this))
  have hx42 : X < 4398046511104 := Nat.lt_of_lt_of_le hXl (by decide)
  have hwx : IntKind.i64.wrap ((X : Int) - 0) = (X : Int) - 0 := IntWalk.i64_in _ (by omega)
  clear hXl hXw hX hst b0
  go_enter Tryd.func110, Tryd.ntmps110
  go_wp2_with fail
  refine wp_loop_rounds 2 ?_
  rw [rounds_succ]
  go_wp2_with fail
  refine (B0.out _).mono ?_
  rintro e w1 ⟨rfl, rfl⟩
  go_wp2_with fail
  refine (T.out _).mono ?_
  rintro e w2 ⟨rfl, hb2⟩
  have HB2 := Lib.hid ((b3w _ _ _).trans (hb2.mono (by simp; omega)))
  clear hb2
  go_wp2_with fail
  refine (S.out _).mono ?_
  rintro e w3 ⟨rfl, rfl⟩
  go_wp2_with fail
  exact bodyPost_ret (v := .tuple #[.int .i64 0, .int .i64 0, .bool false]) (by simp [results, Tryd.results110, go_sem] <;> omega) rfl ⟨rfl, HB2.out⟩
set_option maxRecDepth 100000 in
set_option maxHeartbeats 1000000 in
theorem l3Read_odd0 (s : ByteArray) (n p : Nat) (w : World) (hs : s.size ≤ maxLen) (hn : n ≤ 20000) (h8 : n ≤ 8 * s.size) (hp : p + 1 ≤ n) (b0 : BM.bitAt s.data.toList p = false) (hq : p + 1 + 0 ≤ n) (X : Nat) (hX : takeN s (p + 1) 0 = X) (hst : stepB ((X : Int) - 0) = true) (m : Nat) (hm : (codeB ((X : Int) - 0)).length = m) (hml : ¬ m = 1) :
    Calls Tryd.prog 110 #[.agg #[.string s, .int .i64 (n : Int)], .int .i64 (p : Int)] w (RetBelow (readT none) w) := by
  have B0 := Lib.hid (fun W => show Calls Tryd.prog 111 #[.string s, .int .i64 (p : Int)] W fun e w' => e = .returned (.int .i64 0) ∧ w' = W from
    (by have := l1Bit_any s p W (by omega) (by omega) hs; rw [show (p : Int) = ((p : Nat) : Int) by omega]; exact this.mono fun _ _ h => ⟨by rw [h.1, b0]; rfl, h.2.symm⟩))
  have b3w := fun (a b c : Obj) => ((((Below.refl w.heap.size w).alloc (Nat.le_refl _) a).alloc (by simp) b).alloc (by simp; omega) c)
  have hXl : X < 2 ^ 0 := by rw [← hX]; exact BM.ofBits_lt _ _
  have hXw : wrap64 (takeN s (p + 1) 0 : Int) = (X : Int) := by rw [hX]; unfold wrap64; omega
  have T := Lib.hid (fun W => show Calls Tryd.prog 109 #[.agg #[.string s, .int .i64 (n : Int)], .int .i64 ((p : Int) + 1), .int .i64 0] W fun e w' => e = .returned (.int .i64 (X : Int)) ∧ Below W.heap.size W w' from
    (by have := l1Take_any s (n : Int) (p + 1) 0 W (by omega) (by omega) hs; rw [hXw] at this; rw [show ((p : Int) + 1) = ((p + 1 : Nat) : Int) by omega]; exact this))
  have S := Lib.hid (fun W => show Calls Tryd.prog 122 #[.int .i64 ((X : Int) - 0)] W fun e w' => e = .returned (.bool true) ∧ w' = W from
    (by have := l3Step_any ((X : Int) - 0) W; unfold stepB at hst; rw [hst] at this; exact this))
  have C := Lib.hid (fun W => show Calls Tryd.prog 105 #[.int .i64 ((X : Int) - 0)] W (LenPost m W) from (by have := l3Code_len ((X : Int) - 0) W hst; rw [hm] at this; exact this))
  have hmi : ¬ (m : Int) = 1 := by omega
  have hx42 : X < 4398046511104 := Nat.lt_of_lt_of_le hXl (by decide)
  have hwx : IntKind.i64.wrap ((X : Int) - 0) = (X : Int) - 0 := IntWalk.i64_in _ (by omega)
  clear hXl hXw hX hst hm hml b0
  go_enter Tryd.func110, Tryd.ntmps110
  go_wp2_with fail
  refine wp_loop_rounds 2 ?_
  rw [rounds_succ]
  go_wp2_with fail
  refine (B0.out _).mono ?_
  rintro e w1 ⟨rfl, rfl⟩
  go_wp2_with fail
  refine (T.out _).mono ?_
  rintro e w2 ⟨rfl, hb2⟩
  have HB2 := Lib.hid ((b3w _ _ _).trans (hb2.mono (by simp; omega)))
  clear hb2
  go_wp2_with fail
  refine (S.out _).mono ?_
  rintro e w3 ⟨rfl, rfl⟩
  go_wp2_with fail
  refine (C.out _).mono ?_
  rintro e w4 ⟨g4, c4, rfl, hb4⟩
  have HB4 := Lib.hid (HB2.out.trans (hb4.mono HB2.out.size))
  clear hb4
  go_wp2_with fail
  exact bodyPost_ret (v := .tuple #[.int .i64 0, .int .i64 0, .bool false]) (by simp [results, Tryd.results110, go_sem] <;> omega) rfl ⟨rfl, HB4.out⟩
set_option maxRecDepth 100000 in
set_option maxHeartbeats 1000000 in
theorem l3Read_yes0 (s : ByteArray) (n p : Nat) (w : World) (hs : s.size ≤ maxLen) (hn : n ≤ 20000) (h8 : n ≤ 8 * s.size) (hp : p + 1 ≤ n) (b0 : BM.bitAt s.data.toList p = false) (hq : p + 1 + 0 ≤ n) (X : Nat) (hX : takeN s (p + 1) 0 = X) (hst : stepB ((X : Int) - 0) = true) (m : Nat) (hm : (codeB ((X : Int) - 0)).length = m) (hml : m = 1) :
    Calls Tryd.prog 110 #[.agg #[.string s, .int .i64 (n : Int)], .int .i64 (p : Int)] w (RetBelow (readT (some (((X : Int) - 0), p + 1))) w) := by
  have B0 := Lib.hid (fun W => show Calls Tryd.prog 111 #[.string s, .int .i64 (p : Int)] W fun e w' => e = .returned (.int .i64 0) ∧ w' = W from
    (by have := l1Bit_any s p W (by omega) (by omega) hs; rw [show (p : Int) = ((p : Nat) : Int) by omega]; exact this.mono fun _ _ h => ⟨by rw [h.1, b0]; rfl, h.2.symm⟩))
  have b3w := fun (a b c : Obj) => ((((Below.refl w.heap.size w).alloc (Nat.le_refl _) a).alloc (by simp) b).alloc (by simp; omega) c)
  have hXl : X < 2 ^ 0 := by rw [← hX]; exact BM.ofBits_lt _ _
  have hXw : wrap64 (takeN s (p + 1) 0 : Int) = (X : Int) := by rw [hX]; unfold wrap64; omega
  have T := Lib.hid (fun W => show Calls Tryd.prog 109 #[.agg #[.string s, .int .i64 (n : Int)], .int .i64 ((p : Int) + 1), .int .i64 0] W fun e w' => e = .returned (.int .i64 (X : Int)) ∧ Below W.heap.size W w' from
    (by have := l1Take_any s (n : Int) (p + 1) 0 W (by omega) (by omega) hs; rw [hXw] at this; rw [show ((p : Int) + 1) = ((p + 1 : Nat) : Int) by omega]; exact this))
  have S := Lib.hid (fun W => show Calls Tryd.prog 122 #[.int .i64 ((X : Int) - 0)] W fun e w' => e = .returned (.bool true) ∧ w' = W from
    (by have := l3Step_any ((X : Int) - 0) W; unfold stepB at hst; rw [hst] at this; exact this))
  have C := Lib.hid (fun W => show Calls Tryd.prog 105 #[.int .i64 ((X : Int) - 0)] W (LenPost m W) from (by have := l3Code_len ((X : Int) - 0) W hst; rw [hm] at this; exact this))
  have hmi : (m : Int) = 1 := by omega
  subst hml
  have hx42 : X < 4398046511104 := Nat.lt_of_lt_of_le hXl (by decide)
  have hwx : IntKind.i64.wrap ((X : Int) - 0) = (X : Int) - 0 := IntWalk.i64_in _ (by omega)
  clear hXl hXw hX hst hm b0
  go_enter Tryd.func110, Tryd.ntmps110
  go_wp2_with fail
  refine wp_loop_rounds 2 ?_
  rw [rounds_succ]
  go_wp2_with fail
  refine (B0.out _).mono ?_
  rintro e w1 ⟨rfl, rfl⟩
  go_wp2_with fail
  refine (T.out _).mono ?_
  rintro e w2 ⟨rfl, hb2⟩
  have HB2 := Lib.hid ((b3w _ _ _).trans (hb2.mono (by simp; omega)))
  clear hb2
  go_wp2_with fail
  refine (S.out _).mono ?_
  rintro e w3 ⟨rfl, rfl⟩
  go_wp2_with fail
  refine (C.out _).mono ?_
  rintro e w4 ⟨g4, c4, rfl, hb4⟩
  have HB4 := Lib.hid (HB2.out.trans (hb4.mono HB2.out.size))
  clear hb4
  go_wp2_with fail
  exact bodyPost_ret (v := .tuple #[.int .i64 ((X : Int) - 0), .int .i64 ((p + 1 : Nat) : Int), .bool true]) (by simp [results, Tryd.results110, go_sem] <;> omega) rfl ⟨rfl, HB4.out⟩
set_option maxRecDepth 100000 in
set_option maxHeartbeats 1000000 in
theorem l3Read_short1 (s : ByteArray) (n p : Nat) (w : World) (hs : s.size ≤ maxLen) (hn : n ≤ 20000) (h8 : n ≤ 8 * s.size) (hp : p + 2 ≤ n) (b0 : BM.bitAt s.data.toList p = true) (b1 : BM.bitAt s.data.toList (p + 1) = false) (hq : ¬ p + 2 + 7 ≤ n) :
    Calls Tryd.prog 110 #[.agg #[.string s, .int .i64 (n : Int)], .int .i64 (p : Int)] w (RetBelow (readT none) w) := by
  have B0 := Lib.hid (fun W => show Calls Tryd.prog 111 #[.string s, .int .i64 (p : Int)] W fun e w' => e = .returned (.int .i64 1) ∧ w' = W from
    (by have := l1Bit_any s p W (by omega) (by omega) hs; rw [show (p : Int) = ((p : Nat) : Int) by omega]; exact this.mono fun _ _ h => ⟨by rw [h.1, b0]; rfl, h.2.symm⟩))
  have B1 := Lib.hid (fun W => show Calls Tryd.prog 111 #[.string s, .int .i64 ((p : Int) + 1)] W fun e w' => e = .returned (.int .i64 0) ∧ w' = W from
    (by have := l1Bit_any s (p + 1) W (by omega) (by omega) hs; rw [show ((p : Int) + 1) = (((p + 1) : Nat) : Int) by omega]; exact this.mono fun _ _ h => ⟨by rw [h.1, b1]; rfl, h.2.symm⟩))
  have b3w := fun (a b c : Obj) => ((((Below.refl w.heap.size w).alloc (Nat.le_refl _) a).alloc (by simp) b).alloc (by simp; omega) c)
  clear b0 b1
  go_enter Tryd.func110, Tryd.ntmps110
  go_wp2_with fail
  refine wp_loop_rounds 3 ?_
  rw [rounds_succ]
  go_wp2_with fail
  refine (B0.out _).mono ?_
  rintro e w1 ⟨rfl, rfl⟩
  go_wp2_with fail
  rw [rounds_succ]
  go_wp2_with fail
  refine (B1.out _).mono ?_
  rintro e w1 ⟨rfl, rfl⟩
  go_wp2_with fail
  exact bodyPost_ret (v := .tuple #[.int .i64 0, .int .i64 0, .bool false]) (by simp [results, Tryd.results110, go_sem] <;> omega) rfl ⟨rfl, b3w _ _ _⟩
set_option maxRecDepth 100000 in
set_option maxHeartbeats 1000000 in
theorem l3Read_out1 (s : ByteArray) (n p : Nat) (w : World) (hs : s.size ≤ maxLen) (hn : n ≤ 20000) (h8 : n ≤ 8 * s.size) (hp : p + 1 = n) (b0 : BM.bitAt s.data.toList p = true)  :
    Calls Tryd.prog 110 #[.agg #[.string s, .int .i64 (n : Int)], .int .i64 (p : Int)] w (RetBelow (readT none) w) := by
  have B0 := Lib.hid (fun W => show Calls Tryd.prog 111 #[.string s, .int .i64 (p : Int)] W fun e w' => e = .returned (.int .i64 1) ∧ w' = W from
    (by have := l1Bit_any s p W (by omega) (by omega) hs; rw [show (p : Int) = ((p : Nat) : Int) by omega]; exact this.mono fun _ _ h => ⟨by rw [h.1, b0]; rfl, h.2.symm⟩))
  have b3w := fun (a b c : Obj) => ((((Below.refl w.heap.size w).alloc (Nat.le_refl _) a).alloc (by simp) b).alloc (by simp; omega) c)
  have hpi : (n : Int) = (p : Int) + 1 := by omega
  have gN : decide (((p : Int) + 1) < (n : Int)) = false := by simp; omega
  clear hpi
  clear b0
  go_enter Tryd.func110, Tryd.ntmps110
  go_wp2_with fail
  refine wp_loop_rounds 3 ?_
  rw [rounds_succ]
  go_wp2_with fail
  refine (B0.out _).mono ?_
  rintro e w1 ⟨rfl, rfl⟩
  go_wp2_with fail
  rw [rounds_succ]
  go_wp2_with fail
  exact bodyPost_ret (v := .tuple #[.int .i64 0, .int .i64 0, .bool false]) (by simp [results, Tryd.results110, go_sem] <;> omega) rfl ⟨rfl, b3w _ _ _⟩
set_option maxRecDepth 100000 in
set_option maxHeartbeats 1000000 in
theorem l3Read_far1 (s : ByteArray) (n p : Nat) (w : World) (hs : s.size ≤ maxLen) (hn : n ≤ 20000) (h8 : n ≤ 8 * s.size) (hp : p + 2 ≤ n) (b0 : BM.bitAt s.data.toList p = true) (b1 : BM.bitAt s.data.toList (p + 1) = false) (hq : p + 2 + 7 ≤ n) (X : Nat) (hX : takeN s (p + 2) 7 = X) (hst : stepB ((X : Int) - 63) = false) :
    Calls Tryd.prog 110 #[.agg #[.string s, .int .i64 (n : Int)], .int .i64 (p : Int)] w (RetBelow (readT none) w) := by
  have B0 := Lib.hid (fun W => show Calls Tryd.prog 111 #[.string s, .int .i64 (p : Int)] W fun e w' => e = .returned (.int .i64 1) ∧ w' = W from
    (by have := l1Bit_any s p W (by omega) (by omega) hs; rw [show (p : Int) = ((p : Nat) : Int) by omega]; exact this.mono fun _ _ h => ⟨by rw [h.1, b0]; rfl, h.2.symm⟩))
  have B1 := Lib.hid (fun W => show Calls Tryd.prog 111 #[.string s, .int .i64 ((p : Int) + 1)] W fun e w' => e = .returned (.int .i64 0) ∧ w' = W from
    (by have := l1Bit_any s (p + 1) W (by omega) (by omega) hs; rw [show ((p : Int) + 1) = (((p + 1) : Nat) : Int) by omega]; exact this.mono fun _ _ h => ⟨by rw [h.1, b1]; rfl, h.2.symm⟩))
  have b3w := fun (a b c : Obj) => ((((Below.refl w.heap.size w).alloc (Nat.le_refl _) a).alloc (by simp) b).alloc (by simp; omega) c)
  have hXl : X < 2 ^ 7 := by rw [← hX]; exact BM.ofBits_lt _ _
  have hXw : wrap64 (takeN s (p + 2) 7 : Int) = (X : Int) := by rw [hX]; unfold wrap64; omega
  have T := Lib.hid (fun W => show Calls Tryd.prog 109 #[.agg #[.string s, .int .i64 (n : Int)], .int .i64 ((p : Int) + 2), .int .i64 7] W fun e w' => e = .returned (.int .i64 (X : Int)) ∧ Below W.heap.size W w' from
    (by have := l1Take_any s (n : Int) (p + 2) 7 W (by omega) (by omega) hs; rw [hXw] at this; rw [show ((p : Int) + 2) = ((p + 2 : Nat) : Int) by omega]; exact this))
  have S := Lib.hid (fun W => show Calls Tryd.prog 122 #[.int .i64 ((X : Int) - 63)] W fun e w' => e = .returned (.bool false) ∧ w' = W from
    (by have := l3Step_any ((X : Int) - 63) W; unfold stepB at hst; rw [hst] at this; exact this))
  have hx42 : X < 4398046511104 := Nat.lt_of_lt_of_le hXl (by decide)
  have hwx : IntKind.i64.wrap ((X : Int) - 63) = (X : Int) - 63 := IntWalk.i64_in _ (by omega)
  clear hXl hXw hX hst b0 b1
  go_enter Tryd.func110, Tryd.ntmps110
  go_wp2_with fail
  refine wp_loop_rounds 3 ?_
  rw [rounds_succ]
  go_wp2_with fail
  refine (B0.out _).mono ?_
  rintro e w1 ⟨rfl, rfl⟩
  go_wp2_with fail
  rw [rounds_succ]
  go_wp2_with fail
  refine (B1.out _).mono ?_
  rintro e w1 ⟨rfl, rfl⟩
  go_wp2_with fail
  refine (T.out _).mono ?_
  rintro e w2 ⟨rfl, hb2⟩
  have HB2 := Lib.hid ((b3w _ _ _).trans (hb2.mono (by simp; omega)))
  clear hb2
  go_wp2_with fail
  refine (S.out _).mono ?_
  rintro e w3 ⟨rfl, rfl⟩
  go_wp2_with fail
  exact bodyPost_ret (v := .tuple #[.int .i64 0, .int .i64 0, .bool false]) (by simp [results, Tryd.results110, go_sem] <;> omega) rfl ⟨rfl, HB2.out⟩
set_option maxRecDepth 100000 in
set_option maxHeartbeats 1000000 in
theorem l3Read_odd1 (s : ByteArray) (n p : Nat) (w : World) (hs : s.size ≤ maxLen) (hn : n ≤ 20000) (h8 : n ≤ 8 * s.size) (hp : p + 2 ≤ n) (b0 : BM.bitAt s.data.toList p = true) (b1 : BM.bitAt s.data.toList (p + 1) = false) (hq : p + 2 + 7 ≤ n) (X : Nat) (hX : takeN s (p + 2) 7 = X) (hst : stepB ((X : Int) - 63) = true) (m : Nat) (hm : (codeB ((X : Int) - 63)).length = m) (hml : ¬ m = 9) :
    Calls Tryd.prog 110 #[.agg #[.string s, .int .i64 (n : Int)], .int .i64 (p : Int)] w (RetBelow (readT none) w) := by
  have B0 := Lib.hid (fun W => show Calls Tryd.prog 111 #[.string s, .int .i64 (p : Int)] W fun e w' => e = .returned (.int .i64 1) ∧ w' = W from
    (by have := l1Bit_any s p W (by omega) (by omega) hs; rw [show (p : Int) = ((p : Nat) : Int) by omega]; exact this.mono fun _ _ h => ⟨by rw [h.1, b0]; rfl, h.2.symm⟩))
  have B1 := Lib.hid (fun W => show Calls Tryd.prog 111 #[.string s, .int .i64 ((p : Int) + 1)] W fun e w' => e = .returned (.int .i64 0) ∧ w' = W from
    (by have := l1Bit_any s (p + 1) W (by omega) (by omega) hs; rw [show ((p : Int) + 1) = (((p + 1) : Nat) : Int) by omega]; exact this.mono fun _ _ h => ⟨by rw [h.1, b1]; rfl, h.2.symm⟩))
  have b3w := fun (a b c : Obj) => ((((Below.refl w.heap.size w).alloc (Nat.le_refl _) a).alloc (by simp) b).alloc (by simp; omega) c)
  have hXl : X < 2 ^ 7 := by rw [← hX]; exact BM.ofBits_lt _ _
  have hXw : wrap64 (takeN s (p + 2) 7 : Int) = (X : Int) := by rw [hX]; unfold wrap64; omega
  have T := Lib.hid (fun W => show Calls Tryd.prog 109 #[.agg #[.string s, .int .i64 (n : Int)], .int .i64 ((p : Int) + 2), .int .i64 7] W fun e w' => e = .returned (.int .i64 (X : Int)) ∧ Below W.heap.size W w' from
    (by have := l1Take_any s (n : Int) (p + 2) 7 W (by omega) (by omega) hs; rw [hXw] at this; rw [show ((p : Int) + 2) = ((p + 2 : Nat) : Int) by omega]; exact this))
  have S := Lib.hid (fun W => show Calls Tryd.prog 122 #[.int .i64 ((X : Int) - 63)] W fun e w' => e = .returned (.bool true) ∧ w' = W from
    (by have := l3Step_any ((X : Int) - 63) W; unfold stepB at hst; rw [hst] at this; exact this))
  have C := Lib.hid (fun W => show Calls Tryd.prog 105 #[.int .i64 ((X : Int) - 63)] W (LenPost m W) from (by have := l3Code_len ((X : Int) - 63) W hst; rw [hm] at this; exact this))
  have hmi : ¬ (m : Int) = 9 := by omega
  have hx42 : X < 4398046511104 := Nat.lt_of_lt_of_le hXl (by decide)
  have hwx : IntKind.i64.wrap ((X : Int) - 63) = (X : Int) - 63 := IntWalk.i64_in _ (by omega)
  clear hXl hXw hX hst hm hml b0 b1
  go_enter Tryd.func110, Tryd.ntmps110
  go_wp2_with fail
  refine wp_loop_rounds 3 ?_
  rw [rounds_succ]
  go_wp2_with fail
  refine (B0.out _).mono ?_
  rintro e w1 ⟨rfl, rfl⟩
  go_wp2_with fail
  rw [rounds_succ]
  go_wp2_with fail
  refine (B1.out _).mono ?_
  rintro e w1 ⟨rfl, rfl⟩
  go_wp2_with fail
  refine (T.out _).mono ?_
  rintro e w2 ⟨rfl, hb2⟩
  have HB2 := Lib.hid ((b3w _ _ _).trans (hb2.mono (by simp; omega)))
  clear hb2
  go_wp2_with fail
  refine (S.out _).mono ?_
  rintro e w3 ⟨rfl, rfl⟩
  go_wp2_with fail
  refine (C.out _).mono ?_
  rintro e w4 ⟨g4, c4, rfl, hb4⟩
  have HB4 := Lib.hid (HB2.out.trans (hb4.mono HB2.out.size))
  clear hb4
  go_wp2_with fail
  exact bodyPost_ret (v := .tuple #[.int .i64 0, .int .i64 0, .bool false]) (by simp [results, Tryd.results110, go_sem] <;> omega) rfl ⟨rfl, HB4.out⟩
set_option maxRecDepth 100000 in
set_option maxHeartbeats 1000000 in
theorem l3Read_yes1 (s : ByteArray) (n p : Nat) (w : World) (hs : s.size ≤ maxLen) (hn : n ≤ 20000) (h8 : n ≤ 8 * s.size) (hp : p + 2 ≤ n) (b0 : BM.bitAt s.data.toList p = true) (b1 : BM.bitAt s.data.toList (p + 1) = false) (hq : p + 2 + 7 ≤ n) (X : Nat) (hX : takeN s (p + 2) 7 = X) (hst : stepB ((X : Int) - 63) = true) (m : Nat) (hm : (codeB ((X : Int) - 63)).length = m) (hml : m = 9) :
    Calls Tryd.prog 110 #[.agg #[.string s, .int .i64 (n : Int)], .int .i64 (p : Int)] w (RetBelow (readT (some (((X : Int) - 63), p + 9))) w) := by
  have B0 := Lib.hid (fun W => show Calls Tryd.prog 111 #[.string s, .int .i64 (p : Int)] W fun e w' => e = .returned (.int .i64 1) ∧ w' = W from
    (by have := l1Bit_any s p W (by omega) (by omega) hs; rw [show (p : Int) = ((p : Nat) : Int) by omega]; exact this.mono fun _ _ h => ⟨by rw [h.1, b0]; rfl, h.2.symm⟩))
  have B1 := Lib.hid (fun W => show Calls Tryd.prog 111 #[.string s, .int .i64 ((p : Int) + 1)] W fun e w' => e = .returned (.int .i64 0) ∧ w' = W from
    (by have := l1Bit_any s (p + 1) W (by omega) (by omega) hs; rw [show ((p : Int) + 1) = (((p + 1) : Nat) : Int) by omega]; exact this.mono fun _ _ h => ⟨by rw [h.1, b1]; rfl, h.2.symm⟩))
  have b3w := fun (a b c : Obj) => ((((Below.refl w.heap.size w).alloc (Nat.le_refl _) a).alloc (by simp) b).alloc (by simp; omega) c)
  have hXl : X < 2 ^ 7 := by rw [← hX]; exact BM.ofBits_lt _ _
  have hXw : wrap64 (takeN s (p + 2) 7 : Int) = (X : Int) := by rw [hX]; unfold wrap64; omega
  have T := Lib.hid (fun W => show Calls Tryd.prog 109 #[.agg #[.string s, .int .i64 (n : Int)], .int .i64 ((p : Int) + 2), .int .i64 7] W fun e w' => e = .returned (.int .i64 (X : Int)) ∧ Below W.heap.size W w' from
    (by have := l1Take_any s (n : Int) (p + 2) 7 W (by omega) (by omega) hs; rw [hXw] at this; rw [show ((p : Int) + 2) = ((p + 2 : Nat) : Int) by omega]; exact this))
  have S := Lib.hid (fun W => show Calls Tryd.prog 122 #[.int .i64 ((X : Int) - 63)] W fun e w' => e = .returned (.bool true) ∧ w' = W from
    (by have := l3Step_any ((X : Int) - 63) W; unfold stepB at hst; rw [hst] at this; exact this))
  have C := Lib.hid (fun W => show Calls Tryd.prog 105 #[.int .i64 ((X : Int) - 63)] W (LenPost m W) from (by have := l3Code_len ((X : Int) - 63) W hst; rw [hm] at this; exact this))
  have hmi : (m : Int) = 9 := by omega
  subst hml
  have hx42 : X < 4398046511104 := Nat.lt_of_lt_of_le hXl (by decide)
  have hwx : IntKind.i64.wrap ((X : Int) - 63) = (X : Int) - 63 := IntWalk.i64_in _ (by omega)
  clear hXl hXw hX hst hm b0 b1
  go_enter Tryd.func110, Tryd.ntmps110
  go_wp2_with fail
  refine wp_loop_rounds 3 ?_
  rw [rounds_succ]
  go_wp2_with fail
  refine (B0.out _).mono ?_
  rintro e w1 ⟨rfl, rfl⟩
  go_wp2_with fail
  rw [rounds_succ]
  go_wp2_with fail
  refine (B1.out _).mono ?_
  rintro e w1 ⟨rfl, rfl⟩
  go_wp2_with fail
  refine (T.out _).mono ?_
  rintro e w2 ⟨rfl, hb2⟩
  have HB2 := Lib.hid ((b3w _ _ _).trans (hb2.mono (by simp; omega)))
  clear hb2
  go_wp2_with fail
  refine (S.out _).mono ?_
  rintro e w3 ⟨rfl, rfl⟩
  go_wp2_with fail
  refine (C.out _).mono ?_
  rintro e w4 ⟨g4, c4, rfl, hb4⟩
  have HB4 := Lib.hid (HB2.out.trans (hb4.mono HB2.out.size))
  clear hb4
  go_wp2_with fail
  exact bodyPost_ret (v := .tuple #[.int .i64 ((X : Int) - 63), .int .i64 ((p + 9 : Nat) : Int), .bool true]) (by simp [results, Tryd.results110, go_sem] <;> omega) rfl ⟨rfl, HB4.out⟩
set_option maxRecDepth 100000 in
set_option maxHeartbeats 1000000 in
theorem l3Read_short2 (s : ByteArray) (n p : Nat) (w : World) (hs : s.size ≤ maxLen) (hn : n ≤ 20000) (h8 : n ≤ 8 * s.size) (hp : p + 3 ≤ n) (b0 : BM.bitAt s.data.toList p = true) (b1 : BM.bitAt s.data.toList (p + 1) = true) (b2 : BM.bitAt s.data.toList (p + 2) = false) (hq : ¬ p + 3 + 9 ≤ n) :
    Calls Tryd.prog 110 #[.agg #[.string s, .int .i64 (n : Int)], .int .i64 (p : Int)] w (RetBelow (readT none) w) := by
  have B0 := Lib.hid (fun W => show Calls Tryd.prog 111 #[.string s, .int .i64 (p : Int)] W fun e w' => e = .returned (.int .i64 1) ∧ w' = W from
    (by have := l1Bit_any s p W (by omega) (by omega) hs; rw [show (p : Int) = ((p : Nat) : Int) by omega]; exact this.mono fun _ _ h => ⟨by rw [h.1, b0]; rfl, h.2.symm⟩))
  have B1 := Lib.hid (fun W => show Calls Tryd.prog 111 #[.string s, .int .i64 ((p : Int) + 1)] W fun e w' => e = .returned (.int .i64 1) ∧ w' = W from
    (by have := l1Bit_any s (p + 1) W (by omega) (by omega) hs; rw [show ((p : Int) + 1) = (((p + 1) : Nat) : Int) by omega]; exact this.mono fun _ _ h => ⟨by rw [h.1, b1]; rfl, h.2.symm⟩))
  have B2 := Lib.hid (fun W => show Calls Tryd.prog 111 #[.string s, .int .i64 ((p : Int) + 2)] W fun e w' => e = .returned (.int .i64 0) ∧ w' = W from
    (by have := l1Bit_any s (p + 2) W (by omega) (by omega) hs; rw [show ((p : Int) + 2) = (((p + 2) : Nat) : Int) by omega]; exact this.mono fun _ _ h => ⟨by rw [h.1, b2]; rfl, h.2.symm⟩))
  have b3w := fun (a b c : Obj) => ((((Below.refl w.heap.size w).alloc (Nat.le_refl _) a).alloc (by simp) b).alloc (by simp; omega) c)
  clear b0 b1 b2
  go_enter Tryd.func110, Tryd.ntmps110
  go_wp2_with fail
  refine wp_loop_rounds 4 ?_
  rw [rounds_succ]
  go_wp2_with fail
  refine (B0.out _).mono ?_
  rintro e w1 ⟨rfl, rfl⟩
  go_wp2_with fail
  rw [rounds_succ]
  go_wp2_with fail
  refine (B1.out _).mono ?_
  rintro e w1 ⟨rfl, rfl⟩
  go_wp2_with fail
  rw [rounds_succ]
  go_wp2_with fail
  refine (B2.out _).mono ?_
  rintro e w1 ⟨rfl, rfl⟩
  go_wp2_with fail
  exact bodyPost_ret (v := .tuple #[.int .i64 0, .int .i64 0, .bool false]) (by simp [results, Tryd.results110, go_sem] <;> omega) rfl ⟨rfl, b3w _ _ _⟩
set_option maxRecDepth 100000 in
set_option maxHeartbeats 1000000 in
theorem l3Read_out2 (s : ByteArray) (n p : Nat) (w : World) (hs : s.size ≤ maxLen) (hn : n ≤ 20000) (h8 : n ≤ 8 * s.size) (hp : p + 2 = n) (b0 : BM.bitAt s.data.toList p = true) (b1 : BM.bitAt s.data.toList (p + 1) = true)  :
    Calls Tryd.prog 110 #[.agg #[.string s, .int .i64 (n : Int)], .int .i64 (p : Int)] w (RetBelow (readT none) w) := by
  have B0 := Lib.hid (fun W => show Calls Tryd.prog 111 #[.string s, .int .i64 (p : Int)] W fun e w' => e = .returned (.int .i64 1) ∧ w' = W from
    (by have := l1Bit_any s p W (by omega) (by omega) hs; rw [show (p : Int) = ((p : Nat) : Int) by omega]; exact this.mono fun _ _ h => ⟨by rw [h.1, b0]; rfl, h.2.symm⟩))
  have B1 := Lib.hid (fun W => show Calls Tryd.prog 111 #[.string s, .int .i64 ((p : Int) + 1)] W fun e w' => e = .returned (.int .i64 1) ∧ w' = W from
    (by have := l1Bit_any s (p + 1) W (by omega) (by omega) hs; rw [show ((p : Int) + 1) = (((p + 1) : Nat) : Int) by omega]; exact this.mono fun _ _ h => ⟨by rw [h.1, b1]; rfl, h.2.symm⟩))
  have b3w := fun (a b c : Obj) => ((((Below.refl w.heap.size w).alloc (Nat.le_refl _) a).alloc (by simp) b).alloc (by simp; omega) c)
  have hpi : (n : Int) = (p : Int) + 2 := by omega
  have gN : decide (((p : Int) + 2) < (n : Int)) = false := by simp; omega
  clear hpi
  clear b0 b1
  go_enter Tryd.func110, Tryd.ntmps110
  go_wp2_with fail
  refine wp_loop_rounds 4 ?_
  rw [rounds_succ]
  go_wp2_with fail
  refine (B0.out _).mono ?_
  rintro e w1 ⟨rfl, rfl⟩
  go_wp2_with fail
  rw [rounds_succ]
  go_wp2_with fail
  refine (B1.out _).mono ?_
  rintro e w1 ⟨rfl, rfl⟩
  go_wp2_with fail
  rw [rounds_succ]
  go_wp2_with fail
  exact bodyPost_ret (v := .tuple #[.int .i64 0, .int .i64 0, .bool false]) (by simp [results, Tryd.results110, go_sem] <;> omega) rfl ⟨rfl, b3w _ _ _⟩
set_option maxRecDepth 100000 in
set_option maxHeartbeats 1000000 in
theorem l3Read_far2 (s : ByteArray) (n p : Nat) (w : World) (hs : s.size ≤ maxLen) (hn : n ≤ 20000) (h8 : n ≤ 8 * s.size) (hp : p + 3 ≤ n) (b0 : BM.bitAt s.data.toList p = true) (b1 : BM.bitAt s.data.toList (p + 1) = true) (b2 : BM.bitAt s.data.toList (p + 2) = false) (hq : p + 3 + 9 ≤ n) (X : Nat) (hX : takeN s (p + 3) 9 = X) (hst : stepB ((X : Int) - 255) = false) :
    Calls Tryd.prog 110 #[.agg #[.string s, .int .i64 (n : Int)], .int .i64 (p : Int)] w (RetBelow (readT none) w) := by
  have B0 := Lib.hid (fun W => show Calls Tryd.prog 111 #[.string s, .int .i64 (p : Int)] W fun e w' => e = .returned (.int .i64 1) ∧ w' = W from
    (by have := l1Bit_any s p W (by omega) (by omega) hs; rw [show (p : Int) = ((p : Nat) : Int) by omega]; exact this.mono fun _ _ h => ⟨by rw [h.1, b0]; rfl, h.2.symm⟩))
  have B1 := Lib.hid (fun W => show Calls Tryd.prog 111 #[.string s, .int .i64 ((p : Int) + 1)] W fun e w' => e = .returned (.int .i64 1) ∧ w' = W from
    (by have := l1Bit_any s (p + 1) W (by omega) (by omega) hs; rw [show ((p : Int) + 1) = (((p + 1) : Nat) : Int) by omega]; exact this.mono fun _ _ h => ⟨by rw [h.1, b1]; rfl, h.2.symm⟩))
  have B2 := Lib.hid (fun W => show Calls Tryd.prog 111 #[.string s, .int .i64 ((p : Int) + 2)] W fun e w' => e = .returned (.int .i64 0) ∧ w' = W from
    (by have := l1Bit_any s (p + 2) W (by omega) (by omega) hs; rw [show ((p : Int) + 2) = (((p + 2) : Nat) : Int) by omega]; exact this.mono fun _ _ h => ⟨by rw [h.1, b2]; rfl, h.2.symm⟩))
  have b3w := fun (a b c : Obj) => ((((Below.refl w.heap.size w).alloc (Nat.le_refl _) a).alloc (by simp) b).alloc (by simp; omega) c)
  have hXl : X < 2 ^ 9 := by rw [← hX]; exact BM.ofBits_lt _ _
  have hXw : wrap64 (takeN s (p + 3) 9 : Int) = (X : Int) := by rw [hX]; unfold wrap64; omega
  have T := Lib.hid (fun W => show Calls Tryd.prog 109 #[.agg #[.string s, .int .i64 (n : Int)], .int .i64 ((p : Int) + 3), .int .i64 9] W fun e w' => e = .returned (.int .i64 (X : Int)) ∧ Below W.heap.size W w' from
    (by have := l1Take_any s (n : Int) (p + 3) 9 W (by omega) (by omega) hs; rw [hXw] at this; rw [show ((p : Int) + 3) = ((p + 3 : Nat) : Int) by omega]; exact this))
  have S := Lib.hid (fun W => show Calls Tryd.prog 122 #[.int .i64 ((X : Int) - 255)] W fun e w' => e = .returned (.bool false) ∧ w' = W from
    (by have := l3Step_any ((X : Int) - 255) W; unfold stepB at hst; rw [hst] at this; exact this))
  have hx42 : X < 4398046511104 := Nat.lt_of_lt_of_le hXl (by decide)
  have hwx : IntKind.i64.wrap ((X : Int) - 255) = (X : Int) - 255 := IntWalk.i64_in _ (by omega)
  clear hXl hXw hX hst b0 b1 b2
  go_enter Tryd.func110, Tryd.ntmps110
  go_wp2_with fail
  refine wp_loop_rounds 4 ?_
  rw [rounds_succ]
  go_wp2_with fail
  refine (B0.out _).mono ?_
  rintro e w1 ⟨rfl, rfl⟩
  go_wp2_with fail
  rw [rounds_succ]
  go_wp2_with fail
  refine (B1.out _).mono ?_
  rintro e w1 ⟨rfl, rfl⟩
  go_wp2_with fail
  rw [rounds_succ]
  go_wp2_with fail
  refine (B2.out _).mono ?_
  rintro e w1 ⟨rfl, rfl⟩
  go_wp2_with fail
  refine (T.out _).mono ?_
  rintro e w2 ⟨rfl, hb2⟩
  have HB2 := Lib.hid ((b3w _ _ _).trans (hb2.mono (by simp; omega)))
  clear hb2
  go_wp2_with fail
  refine (S.out _).mono ?_
  rintro e w3 ⟨rfl, rfl⟩
  go_wp2_with fail
  exact bodyPost_ret (v := .tuple #[.int .i64 0, .int .i64 0, .bool false]) (by simp [results, Tryd.results110, go_sem] <;> omega) rfl ⟨rfl, HB2.out⟩
set_option maxRecDepth 100000 in
set_option maxHeartbeats 1000000 in
theorem l3Read_odd2 (s : ByteArray) (n p : Nat) (w : World) (hs : s.size ≤ maxLen) (hn : n ≤ 20000) (h8 : n ≤ 8 * s.size) (hp : p + 3 ≤ n) (b0 : BM.bitAt s.data.toList p = true) (b1 : BM.bitAt s.data.toList (p + 1) = true) (b2 : BM.bitAt s.data.toList (p + 2) = false) (hq : p + 3 + 9 ≤ n) (X : Nat) (hX : takeN s (p + 3) 9 = X) (hst : stepB ((X : Int) - 255) = true) (m : Nat) (hm : (codeB ((X : Int) - 255)).length = m) (hml : ¬ m = 12) :
    Calls Tryd.prog 110 #[.agg #[.string s, .int .i64 (n : Int)], .int .i64 (p : Int)] w (RetBelow (readT none) w) := by
  have B0 := Lib.hid (fun W => show Calls Tryd.prog 111 #[.string s, .int .i64 (p : Int)] W fun e w' => e = .returned (.int .i64 1) ∧ w' = W from
    (by have := l1Bit_any s p W (by omega) (by omega) hs; rw [show (p : Int) = ((p : Nat) : Int) by omega]; exact this.mono fun _ _ h => ⟨by rw [h.1, b0]; rfl, h.2.symm⟩))
  have B1 := Lib.hid (fun W => show Calls Tryd.prog 111 #[.string s, .int .i64 ((p : Int) + 1)] W fun e w' => e = .returned (.int .i64 1) ∧ w' = W from
    (by have := l1Bit_any s (p + 1) W (by omega) (by omega) hs; rw [show ((p : Int) + 1) = (((p + 1) : Nat) : Int) by omega]; exact this.mono fun _ _ h => ⟨by rw [h.1, b1]; rfl, h.2.symm⟩))
  have B2 := Lib.hid (fun W => show Calls Tryd.prog 111 #[.string s, .int .i64 ((p : Int) + 2)] W fun e w' => e = .returned (.int .i64 0) ∧ w' = W from
    (by have := l1Bit_any s (p + 2) W (by omega) (by omega) hs; rw [show ((p : Int) + 2) = (((p + 2) : Nat) : Int) by omega]; exact this.mono fun _ _ h => ⟨by rw [h.1, b2]; rfl, h.2.symm⟩))
  have b3w := fun (a b c : Obj) => ((((Below.refl w.heap.size w).alloc (Nat.le_refl _) a).alloc (by simp) b).alloc (by simp; omega) c)
  have hXl : X < 2 ^ 9 := by rw [← hX]; exact BM.ofBits_lt _ _
  have hXw : wrap64 (takeN s (p + 3) 9 : Int) = (X : Int) := by rw [hX]; unfold wrap64; omega
  have T := Lib.hid (fun W => show Calls Tryd.prog 109 #[.agg #[.string s, .int .i64 (n : Int)], .int .i64 ((p : Int) + 3), .int .i64 9] W fun e w' => e = .returned (.int .i64 (X : Int)) ∧ Below W.heap.size W w' from
    (by have := l1Take_any s (n : Int) (p + 3) 9 W (by omega) (by omega) hs; rw [hXw] at this; rw [show ((p : Int) + 3) = ((p + 3 : Nat) : Int) by omega]; exact this))
  have S := Lib.hid (fun W => show Calls Tryd.prog 122 #[.int .i64 ((X : Int) - 255)] W fun e w' => e = .returned (.bool true) ∧ w' = W from
    (by have := l3Step_any ((X : Int) - 255) W; unfold stepB at hst; rw [hst] at this; exact this))
  have C := Lib.hid (fun W => show Calls Tryd.prog 105 #[.int .i64 ((X : Int) - 255)] W (LenPost m W) from (by have := l3Code_len ((X : Int) - 255) W hst; rw [hm] at this; exact this))
  have hmi : ¬ (m : Int) = 12 := by omega
  have hx42 : X < 4398046511104 := Nat.lt_of_lt_of_le hXl (by decide)
  have hwx : IntKind.i64.wrap ((X : Int) - 255) = (X : Int) - 255 := IntWalk.i64_in _ (by omega)
  clear hXl hXw hX hst hm hml b0 b1 b2
  go_enter Tryd.func110, Tryd.ntmps110
  go_wp2_with fail
  refine wp_loop_rounds 4 ?_
  rw [rounds_succ]
  go_wp2_with fail
  refine (B0.out _).mono ?_
  rintro e w1 ⟨rfl, rfl⟩
  go_wp2_with fail
  rw [rounds_succ]
  go_wp2_with fail
  refine (B1.out _).mono ?_
  rintro e w1 ⟨rfl, rfl⟩
  go_wp2_with fail
  rw [rounds_succ]
  go_wp2_with fail
  refine (B2.out _).mono ?_
  rintro e w1 ⟨rfl, rfl⟩
  go_wp2_with fail
  refine (T.out _).mono ?_
  rintro e w2 ⟨rfl, hb2⟩
  have HB2 := Lib.hid ((b3w _ _ _).trans (hb2.mono (by simp; omega)))
  clear hb2
  go_wp2_with fail
  refine (S.out _).mono ?_
  rintro e w3 ⟨rfl, rfl⟩
  go_wp2_with fail
  refine (C.out _).mono ?_
  rintro e w4 ⟨g4, c4, rfl, hb4⟩
  have HB4 := Lib.hid (HB2.out.trans (hb4.mono HB2.out.size))
  clear hb4
  go_wp2_with fail
  exact bodyPost_ret (v := .tuple #[.int .i64 0, .int .i64 0, .bool false]) (by simp [results, Tryd.results110, go_sem] <;> omega) rfl ⟨rfl, HB4.out⟩
set_option maxRecDepth 100000 in
set_option maxHeartbeats 1000000 in
theorem l3Read_yes2 (s : ByteArray) (n p : Nat) (w : World) (hs : s.size ≤ maxLen) (hn : n ≤ 20000) (h8 : n ≤ 8 * s.size) (hp : p + 3 ≤ n) (b0 : BM.bitAt s.data.toList p = true) (b1 : BM.bitAt s.data.toList (p + 1) = true) (b2 : BM.bitAt s.data.toList (p + 2) = false) (hq : p + 3 + 9 ≤ n) (X : Nat) (hX : takeN s (p + 3) 9 = X) (hst : stepB ((X : Int) - 255) = true) (m : Nat) (hm : (codeB ((X : Int) - 255)).length = m) (hml : m = 12) :
    Calls Tryd.prog 110 #[.agg #[.string s, .int .i64 (n : Int)], .int .i64 (p : Int)] w (RetBelow (readT (some (((X : Int) - 255), p + 12))) w) := by
  have B0 := Lib.hid (fun W => show Calls Tryd.prog 111 #[.string s, .int .i64 (p : Int)] W fun e w' => e = .returned (.int .i64 1) ∧ w' = W from
    (by have := l1Bit_any s p W (by omega) (by omega) hs; rw [show (p : Int) = ((p : Nat) : Int) by omega]; exact this.mono fun _ _ h => ⟨by rw [h.1, b0]; rfl, h.2.symm⟩))
  have B1 := Lib.hid (fun W => show Calls Tryd.prog 111 #[.string s, .int .i64 ((p : Int) + 1)] W fun e w' => e = .returned (.int .i64 1) ∧ w' = W from
    (by have := l1Bit_any s (p + 1) W (by omega) (by omega) hs; rw [show ((p : Int) + 1) = (((p + 1) : Nat) : Int) by omega]; exact this.mono fun _ _ h => ⟨by rw [h.1, b1]; rfl, h.2.symm⟩))
  have B2 := Lib.hid (fun W => show Calls Tryd.prog 111 #[.string s, .int .i64 ((p : Int) + 2)] W fun e w' => e = .returned (.int .i64 0) ∧ w' = W from
    (by have := l1Bit_any s (p + 2) W (by omega) (by omega) hs; rw [show ((p : Int) + 2) = (((p + 2) : Nat) : Int) by omega]; exact this.mono fun _ _ h => ⟨by rw [h.1, b2]; rfl, h.2.symm⟩))
  have b3w := fun (a b c : Obj) => ((((Below.refl w.heap.size w).alloc (Nat.le_refl _) a).alloc (by simp) b).alloc (by simp; omega) c)
  have hXl : X < 2 ^ 9 := by rw [← hX]; exact BM.ofBits_lt _ _
  have hXw : wrap64 (takeN s (p + 3) 9 : Int) = (X : Int) := by rw [hX]; unfold wrap64; omega
  have T := Lib.hid (fun W => show Calls Tryd.prog 109 #[.agg #[.string s, .int .i64 (n : Int)], .int .i64 ((p : Int) + 3), .int .i64 9] W fun e w' => e = .returned (.int .i64 (X : Int)) ∧ Below W.heap.size W w' from
    (by have := l1Take_any s (n : Int) (p + 3) 9 W (by omega) (by omega) hs; rw [hXw] at this; rw [show ((p : Int) + 3) = ((p + 3 : Nat) : Int) by omega]; exact this))
  have S := Lib.hid (fun W => show Calls Tryd.prog 122 #[.int .i64 ((X : Int) - 255)] W fun e w' => e = .returned (.bool true) ∧ w' = W from
    (by have := l3Step_any ((X : Int) - 255) W; unfold stepB at hst; rw [hst] at this; exact this))
  have C := Lib.hid (fun W => show Calls Tryd.prog 105 #[.int .i64 ((X : Int) - 255)] W (LenPost m W) from (by have := l3Code_len ((X : Int) - 255) W hst; rw [hm] at this; exact this))
  have hmi : (m : Int) = 12 := by omega
  subst hml
  have hx42 : X < 4398046511104 := Nat.lt_of_lt_of_le hXl (by decide)
  have hwx : IntKind.i64.wrap ((X : Int) - 255) = (X : Int) - 255 := IntWalk.i64_in _ (by omega)
  clear hXl hXw hX hst hm b0 b1 b2
  go_enter Tryd.func110, Tryd.ntmps110
  go_wp2_with fail
  refine wp_loop_rounds 4 ?_
  rw [rounds_succ]
  go_wp2_with fail
  refine (B0.out _).mono ?_
  rintro e w1 ⟨rfl, rfl⟩
  go_wp2_with fail
  rw [rounds_succ]
  go_wp2_with fail
  refine (B1.out _).mono ?_
  rintro e w1 ⟨rfl, rfl⟩
  go_wp2_with fail
  rw [rounds_succ]
  go_wp2_with fail
  refine (B2.out _).mono ?_
  rintro e w1 ⟨rfl, rfl⟩
  go_wp2_with fail
  refine (T.out _).mono ?_
  rintro e w2 ⟨rfl, hb2⟩
  have HB2 := Lib.hid ((b3w _ _ _).trans (hb2.mono (by simp; omega)))
  clear hb2
  go_wp2_with fail
  refine (S.out _).mono ?_
  rintro e w3 ⟨rfl, rfl⟩
  go_wp2_with fail
  refine (C.out _).mono ?_
  rintro e w4 ⟨g4, c4, rfl, hb4⟩
  have HB4 := Lib.hid (HB2.out.trans (hb4.mono HB2.out.size))
  clear hb4
  go_wp2_with fail
  exact bodyPost_ret (v := .tuple #[.int .i64 ((X : Int) - 255), .int .i64 ((p + 12 : Nat) : Int), .bool true]) (by simp [results, Tryd.results110, go_sem] <;> omega) rfl ⟨rfl, HB4.out⟩
set_option maxRecDepth 100000 in
set_option maxHeartbeats 1000000 in
theorem l3Read_short3 (s : ByteArray) (n p : Nat) (w : World) (hs : s.size ≤ maxLen) (hn : n ≤ 20000) (h8 : n ≤ 8 * s.size) (hp : p + 4 ≤ n) (b0 : BM.bitAt s.data.toList p = true) (b1 : BM.bitAt s.data.toList (p + 1) = true) (b2 : BM.bitAt s.data.toList (p + 2) = true) (b3 : BM.bitAt s.data.toList (p + 3) = false) (hq : ¬ p + 4 + 12 ≤ n) :
    Calls Tryd.prog 110 #[.agg #[.string s, .int .i64 (n : Int)], .int .i64 (p : Int)] w (RetBelow (readT none) w) := by
  have B0 := Lib.hid (fun W => show Calls Tryd.prog 111 #[.string s, .int .i64 (p : Int)] W fun e w' => e = .returned (.int .i64 1) ∧ w' = W from
    (by have := l1Bit_any s p W (by omega) (by omega) hs; rw [show (p : Int) = ((p : Nat) : Int) by omega]; exact this.mono fun _ _ h => ⟨by rw [h.1, b0]; rfl, h.2.symm⟩))
  have B1 := Lib.hid (fun W => show Calls Tryd.prog 111 #[.string s, .int .i64 ((p : Int) + 1)] W fun e w' => e = .returned (.int .i64 1) ∧ w' = W from
    (by have := l1Bit_any s (p + 1) W (by omega) (by omega) hs; rw [show ((p : Int) + 1) = (((p + 1) : Nat) : Int) by omega]; exact this.mono fun _ _ h => ⟨by rw [h.1, b1]; rfl, h.2.symm⟩))
  have B2 := Lib.hid (fun W => show Calls Tryd.prog 111 #[.string s, .int .i64 ((p : Int) + 2)] W fun e w' => e = .returned (.int .i64 1) ∧ w' = W from
    (by have := l1Bit_any s (p + 2) W (by omega) (by omega) hs; rw [show ((p : Int) + 2) = (((p + 2) : Nat) : Int) by omega]; exact this.mono fun _ _ h => ⟨by rw [h.1, b2]; rfl, h.2.symm⟩))
  have B3 := Lib.hid (fun W => show Calls Tryd.prog 111 #[.string s, .int .i64 ((p : Int) + 3)] W fun e w' => e = .returned (.int .i64 0) ∧ w' = W from
    (by have := l1Bit_any s (p + 3) W (by omega) (by omega) hs; rw [show ((p : Int) + 3) = (((p + 3) : Nat) : Int) by omega]; exact this.mono fun _ _ h => ⟨by rw [h.1, b3]; rfl, h.2.symm⟩))
  have b3w := fun (a b c : Obj) => ((((Below.refl w.heap.size w).alloc (Nat.le_refl _) a).alloc (by simp) b).alloc (by simp; omega) c)
  clear b0 b1 b2 b3
  go_enter Tryd.func110, Tryd.ntmps110
  go_wp2_with fail
  refine wp_loop_rounds 5 ?_
  rw [rounds_succ]
  go_wp2_with fail
  refine (B0.out _).mono ?_
  rintro e w1 ⟨rfl, rfl⟩
  go_wp2_with fail
  rw [rounds_succ]
  go_wp2_with fail
  refine (B1.out _).mono ?_
  rintro e w1 ⟨rfl, rfl⟩
  go_wp2_with fail
  rw [rounds_succ]
  go_wp2_with fail
  refine (B2.out _).mono ?_
  rintro e w1 ⟨rfl, rfl⟩
  go_wp2_with fail
  rw [rounds_succ]
  go_wp2_with fail
  refine (B3.out _).mono ?_
  rintro e w1 ⟨rfl, rfl⟩
  go_wp2_with fail
  exact bodyPost_ret (v := .tuple #[.int .i64 0, .int .i64 0, .bool false]) (by simp [results, Tryd.results110, go_sem] <;> omega) rfl ⟨rfl, b3w _ _ _⟩
set_option maxRecDepth 100000 in
set_option maxHeartbeats 1000000 in
theorem l3Read_out3 (s : ByteArray) (n p : Nat) (w : World) (hs : s.size ≤ maxLen) (hn : n ≤ 20000) (h8 : n ≤ 8 * s.size) (hp : p + 3 = n) (b0 : BM.bitAt s.data.toList p = true) (b1 : BM.bitAt s.data.toList (p + 1) = true) (b2 : BM.bitAt s.data.toList (p + 2) = true)  :
    Calls Tryd.prog 110 #[.agg #[.string s, .int .i64 (n : Int)], .int .i64 (p : Int)] w (RetBelow (readT none) w) := by
  have B0 := Lib.hid (fun W => show Calls Tryd.prog 111 #[.string s, .int .i64 (p : Int)] W fun e w' => e = .returned (.int .i64 1) ∧ w' = W from
    (by have := l1Bit_any s p W (by omega) (by omega) hs; rw [show (p : Int) = ((p : Nat) : Int) by omega]; exact this.mono fun _ _ h => ⟨by rw [h.1, b0]; rfl, h.2.symm⟩))
  have B1 := Lib.hid (fun W => show Calls Tryd.prog 111 #[.string s, .int .i64 ((p : Int) + 1)] W fun e w' => e = .returned (.int .i64 1) ∧ w' = W from
    (by have := l1Bit_any s (p + 1) W (by omega) (by omega) hs; rw [show ((p : Int) + 1) = (((p + 1) : Nat) : Int) by omega]; exact this.mono fun _ _ h => ⟨by rw [h.1, b1]; rfl, h.2.symm⟩))
  have B2 := Lib.hid (fun W => show Calls Tryd.prog 111 #[.string s, .int .i64 ((p : Int) + 2)] W fun e w' => e = .returned (.int .i64 1) ∧ w' = W from
    (by have := l1Bit_any s (p + 2) W (by omega) (by omega) hs; rw [show ((p : Int) + 2) = (((p + 2) : Nat) : Int) by omega]; exact this.mono fun _ _ h => ⟨by rw [h.1, b2]; rfl, h.2.symm⟩))
  have b3w := fun (a b c : Obj) => ((((Below.refl w.heap.size w).alloc (Nat.le_refl _) a).alloc (by simp) b).alloc (by simp; omega) c)
  have hpi : (n : Int) = (p : Int) + 3 := by omega
  have gN : decide (((p : Int) + 3) < (n : Int)) = false := by simp; omega
  clear hpi
  clear b0 b1 b2
  go_enter Tryd.func110, Tryd.ntmps110
  go_wp2_with fail
  refine wp_loop_rounds 5 ?_
  rw [rounds_succ]
  go_wp2_with fail
  refine (B0.out _).mono ?_
  rintro e w1 ⟨rfl, rfl⟩
  go_wp2_with fail
  rw [rounds_succ]
  go_wp2_with fail
  refine (B1.out _).mono ?_
  rintro e w1 ⟨rfl, rfl⟩
  go_wp2_with fail
  rw [rounds_succ]
  go_wp2_with fail
  refine (B2.out _).mono ?_
  rintro e w1 ⟨rfl, rfl⟩
  go_wp2_with fail
  rw [rounds_succ]
  go_wp2_with fail
  exact bodyPost_ret (v := .tuple #[.int .i64 0, .int .i64 0, .bool false]) (by simp [results, Tryd.results110, go_sem] <;> omega) rfl ⟨rfl, b3w _ _ _⟩
set_option maxRecDepth 100000 in
set_option maxHeartbeats 1000000 in
theorem l3Read_far3 (s : ByteArray) (n p : Nat) (w : World) (hs : s.size ≤ maxLen) (hn : n ≤ 20000) (h8 : n ≤ 8 * s.size) (hp : p + 4 ≤ n) (b0 : BM.bitAt s.data.toList p = true) (b1 : BM.bitAt s.data.toList (p + 1) = true) (b2 : BM.bitAt s.data.toList (p + 2) = true) (b3 : BM.bitAt s.data.toList (p + 3) = false) (hq : p + 4 + 12 ≤ n) (X : Nat) (hX : takeN s (p + 4) 12 = X) (hst : stepB ((X : Int) - 2047) = false) :
    Calls Tryd.prog 110 #[.agg #[.string s, .int .i64 (n : Int)], .int .i64 (p : Int)] w (RetBelow (readT none) w) := by
  have B0 := Lib.hid (fun W => show Calls Tryd.prog 111 #[.string s, .int .i64 (p : Int)] W fun e w' => e = .returned (.int .i64 1) ∧ w' = W from
    (by have := l1Bit_any s p W (by omega) (by omega) hs; rw [show (p : Int) = ((p : Nat) : Int) by omega]; exact this.mono fun _ _ h => ⟨by rw [h.1, b0]; rfl, h.2.symm⟩))
  have B1 := Lib.hid (fun W => show Calls Tryd.prog 111 #[.string s, .int .i64 ((p : Int) + 1)] W fun e w' => e = .returned (.int .i64 1) ∧ w' = W from
    (by have := l1Bit_any s (p + 1) W (by omega) (by omega) hs; rw [show ((p : Int) + 1) = (((p + 1) : Nat) : Int) by omega]; exact this.mono fun _ _ h => ⟨by rw [h.1, b1]; rfl, h.2.symm⟩))
  have B2 := Lib.hid (fun W => show Calls Tryd.prog 111 #[.string s, .int .i64 ((p : Int) + 2)] W fun e w' => e = .returned (.int .i64 1) ∧ w' = W from
    (by have := l1Bit_any s (p + 2) W (by omega) (by omega) hs; rw [show ((p : Int) + 2) = (((p + 2) : Nat) : Int) by omega]; exact this.mono fun _ _ h => ⟨by rw [h.1, b2]; rfl, h.2.symm⟩))
  have B3 := Lib.hid (fun W => show Calls Tryd.prog 111 #[.string s, .int .i64 ((p : Int) + 3)] W fun e w' => e = .returned (.int .i64 0) ∧ w' = W from
    (by have := l1Bit_any s (p + 3) W (by omega) (by omega) hs; rw [show ((p : Int) + 3) = (((p + 3) : Nat) : Int) by omega]; exact this.mono fun _ _ h => ⟨by rw [h.1, b3]; rfl, h.2.symm⟩))
  have b3w := fun (a b c : Obj) => ((((Below.refl w.heap.size w).alloc (Nat.le_refl _) a).alloc (by simp) b).alloc (by simp; omega) c)
  have hXl : X < 2 ^ 12 := by rw [← hX]; exact BM.ofBits_lt _ _
  have hXw : wrap64 (takeN s (p + 4) 12 : Int) = (X : Int) := by rw [hX]; unfold wrap64; omega
  have T := Lib.hid (fun W => show Calls Tryd.prog 109 #[.agg #[.string s, .int .i64 (n : Int)], .int .i64 ((p : Int) + 4), .int .i64 12] W fun e w' => e = .returned (.int .i64 (X : Int)) ∧ Below W.heap.size W w' from
    (by have := l1Take_any s (n : Int) (p + 4) 12 W (by omega) (by omega) hs; rw [hXw] at this; rw [show ((p : Int) + 4) = ((p + 4 : Nat) : Int) by omega]; exact this))
  have S := Lib.hid (fun W => show Calls Tryd.prog 122 #[.int .i64 ((X : Int) - 2047)] W fun e w' => e = .returned (.bool false) ∧ w' = W from
    (by have := l3Step_any ((X : Int) - 2047) W; unfold stepB at hst; rw [hst] at this; exact this))
  have hx42 : X < 4398046511104 := Nat.lt_of_lt_of_le hXl (by decide)
  have hwx : IntKind.i64.wrap ((X : Int) - 2047) = (X : Int) - 2047 := IntWalk.i64_in _ (by omega)
  clear hXl hXw hX hst b0 b1 b2 b3
  go_enter Tryd.func110, Tryd.ntmps110
  go_wp2_with fail
  refine wp_loop_rounds 5 ?_
  rw [rounds_succ]
  go_wp2_with fail
  refine (B0.out _).mono ?_
  rintro e w1 ⟨rfl, rfl⟩
  go_wp2_with fail
  rw [rounds_succ]
  go_wp2_with fail
  refine (B1.out _).mono ?_
  rintro e w1 ⟨rfl, rfl⟩
  go_wp2_with fail
  rw [rounds_succ]
  go_wp2_with fail
  refine (B2.out _).mono ?_
  rintro e w1 ⟨rfl, rfl⟩
  go_wp2_with fail
  rw [rounds_succ]
  go_wp2_with fail
  refine (B3.out _).mono ?_
  rintro e w1 ⟨rfl, rfl⟩
  go_wp2_with fail
  refine (T.out _).mono ?_
  rintro e w2 ⟨rfl, hb2⟩
  have HB2 := Lib.hid ((b3w _ _ _).trans (hb2.mono (by simp; omega)))
  clear hb2
  go_wp2_with fail
  refine (S.out _).mono ?_
  rintro e w3 ⟨rfl, rfl⟩
  go_wp2_with fail
  exact bodyPost_ret (v := .tuple #[.int .i64 0, .int .i64 0, .bool false]) (by simp [results, Tryd.results110, go_sem] <;> omega) rfl ⟨rfl, HB2.out⟩
set_option maxRecDepth 100000 in
set_option maxHeartbeats 1000000 in
theorem l3Read_odd3 (s : ByteArray) (n p : Nat) (w : World) (hs : s.size ≤ maxLen) (hn : n ≤ 20000) (h8 : n ≤ 8 * s.size) (hp : p + 4 ≤ n) (b0 : BM.bitAt s.data.toList p = true) (b1 : BM.bitAt s.data.toList (p + 1) = true) (b2 : BM.bitAt s.data.toList (p + 2) = true) (b3 : BM.bitAt s.data.toList (p + 3) = false) (hq : p + 4 + 12 ≤ n) (X : Nat) (hX : takeN s (p + 4) 12 = X) (hst : stepB ((X : Int) - 2047) = true) (m : Nat) (hm : (codeB ((X : Int) - 2047)).length = m) (hml : ¬ m = 16) :
    Calls Tryd.prog 110 #[.agg #[.string s, .int .i64 (n : Int)], .int .i64 (p : Int)] w (RetBelow (readT none) w) := by
  have B0 := Lib.hid (fun W => show Calls Tryd.prog 111 #[.string s, .int .i64 (p : Int)] W fun e w' => e = .returned (.int .i64 1) ∧ w' = W from
    (by have := l1Bit_any s p W (by omega) (by omega) hs; rw [show (p : Int) = ((p : Nat) : Int) by omega]; exact this.mono fun _ _ h => ⟨by rw [h.1, b0]; rfl, h.2.symm⟩))
  have B1 := Lib.hid (fun W => show Calls Tryd.prog 111 #[.string s, .int .i64 ((p : Int) + 1)] W fun e w' => e = .returned (.int .i64 1) ∧ w' = W from
    (by have := l1Bit_any s (p + 1) W (by omega) (by omega) hs; rw [show ((p : Int) + 1) = (((p + 1) : Nat) : Int) by omega]; exact this.mono fun _ _ h => ⟨by rw [h.1, b1]; rfl, h.2.symm⟩))
  have B2 := Lib.hid (fun W => show Calls Tryd.prog 111 #[.string s, .int .i64 ((p : Int) + 2)] W fun e w' => e = .returned (.int .i64 1) ∧ w' = W from
    (by have := l1Bit_any s (p + 2) W (by omega) (by omega) hs; rw [show ((p : Int) + 2) = (((p + 2) : Nat) : Int) by omega]; exact this.mono fun _ _ h => ⟨by rw [h.1, b2]; rfl, h.2.symm⟩))
  have B3 := Lib.hid (fun W => show Calls Tryd.prog 111 #[.string s, .int .i64 ((p : Int) + 3)] W fun e w' => e = .returned (.int .i64 0) ∧ w' = W from
    (by have := l1Bit_any s (p + 3) W (by omega) (by omega) hs; rw [show ((p : Int) + 3) = (((p + 3) : Nat) : Int) by omega]; exact this.mono fun _ _ h => ⟨by rw [h.1, b3]; rfl, h.2.symm⟩))
  have b3w := fun (a b c : Obj) => ((((Below.refl w.heap.size w).alloc (Nat.le_refl _) a).alloc (by simp) b).alloc (by simp; omega) c)
  have hXl : X < 2 ^ 12 := by rw [← hX]; exact BM.ofBits_lt _ _
  have hXw : wrap64 (takeN s (p + 4) 12 : Int) = (X : Int) := by rw [hX]; unfold wrap64; omega
  have T := Lib.hid (fun W => show Calls Tryd.prog 109 #[.agg #[.string s, .int .i64 (n : Int)], .int .i64 ((p : Int) + 4), .int .i64 12] W fun e w' => e = .returned (.int .i64 (X : Int)) ∧ Below W.heap.size W w' from
    (by have := l1Take_any s (n : Int) (p + 4) 12 W (by omega) (by omega) hs; rw [hXw] at this; rw [show ((p : Int) + 4) = ((p + 4 : Nat) : Int) by omega]; exact this))
  have S := Lib.hid (fun W => show Calls Tryd.prog 122 #[.int .i64 ((X : Int) - 2047)] W fun e w' => e = .returned (.bool true) ∧ w' = W from
    (by have := l3Step_any ((X : Int) - 2047) W; unfold stepB at hst; rw [hst] at this; exact this))
  have C := Lib.hid (fun W => show Calls Tryd.prog 105 #[.int .i64 ((X : Int) - 2047)] W (LenPost m W) from (by have := l3Code_len ((X : Int) - 2047) W hst; rw [hm] at this; exact this))
  have hmi : ¬ (m : Int) = 16 := by omega
  have hx42 : X < 4398046511104 := Nat.lt_of_lt_of_le hXl (by decide)
  have hwx : IntKind.i64.wrap ((X : Int) - 2047) = (X : Int) - 2047 := IntWalk.i64_in _ (by omega)
  clear hXl hXw hX hst hm hml b0 b1 b2 b3
  go_enter Tryd.func110, Tryd.ntmps110
  go_wp2_with fail
  refine wp_loop_rounds 5 ?_
  rw [rounds_succ]
  go_wp2_with fail
  refine (B0.out _).mono ?_
  rintro e w1 ⟨rfl, rfl⟩
  go_wp2_with fail
  rw [rounds_succ]
  go_wp2_with fail
  refine (B1.out _).mono ?_
  rintro e w1 ⟨rfl, rfl⟩
  go_wp2_with fail
  rw [rounds_succ]
  go_wp2_with fail
  refine (B2.out _).mono ?_
  rintro e w1 ⟨rfl, rfl⟩
  go_wp2_with fail
  rw [rounds_succ]
  go_wp2_with fail
  refine (B3.out _).mono ?_
  rintro e w1 ⟨rfl, rfl⟩
  go_wp2_with fail
  refine (T.out _).mono ?_
  rintro e w2 ⟨rfl, hb2⟩
  have HB2 := Lib.hid ((b3w _ _ _).trans (hb2.mono (by simp; omega)))
  clear hb2
  go_wp2_with fail
  refine (S.out _).mono ?_
  rintro e w3 ⟨rfl, rfl⟩
  go_wp2_with fail
  refine (C.out _).mono ?_
  rintro e w4 ⟨g4, c4, rfl, hb4⟩
  have HB4 := Lib.hid (HB2.out.trans (hb4.mono HB2.out.size))
  clear hb4
  go_wp2_with fail
  exact bodyPost_ret (v := .tuple #[.int .i64 0, .int .i64 0, .bool false]) (by simp [results, Tryd.results110, go_sem] <;> omega) rfl ⟨rfl, HB4.out⟩
set_option maxRecDepth 100000 in
set_option maxHeartbeats 1000000 in
theorem l3Read_yes3 (s : ByteArray) (n p : Nat) (w : World) (hs : s.size ≤ maxLen) (hn : n ≤ 20000) (h8 : n ≤ 8 * s.size) (hp : p + 4 ≤ n) (b0 : BM.bitAt s.data.toList p = true) (b1 : BM.bitAt s.data.toList (p + 1) = true) (b2 : BM.bitAt s.data.toList (p + 2) = true) (b3 : BM.bitAt s.data.toList (p + 3) = false) (hq : p + 4 + 12 ≤ n) (X : Nat) (hX : takeN s (p + 4) 12 = X) (hst : stepB ((X : Int) - 2047) = true) (m : Nat) (hm : (codeB ((X : Int) - 2047)).length = m) (hml : m = 16) :
    Calls Tryd.prog 110 #[.agg #[.string s, .int .i64 (n : Int)], .int .i64 (p : Int)] w (RetBelow (readT (some (((X : Int) - 2047), p + 16))) w) := by
  have B0 := Lib.hid (fun W => show Calls Tryd.prog 111 #[.string s, .int .i64 (p : Int)] W fun e w' => e = .returned (.int .i64 1) ∧ w' = W from
    (by have := l1Bit_any s p W (by omega) (by omega) hs; rw [show (p : Int) = ((p : Nat) : Int) by omega]; exact this.mono fun _ _ h => ⟨by rw [h.1, b0]; rfl, h.2.symm⟩))
  have B1 := Lib.hid (fun W => show Calls Tryd.prog 111 #[.string s, .int .i64 ((p : Int) + 1)] W fun e w' => e = .returned (.int .i64 1) ∧ w' = W from
    (by have := l1Bit_any s (p + 1) W (by omega) (by omega) hs; rw [show ((p : Int) + 1) = (((p + 1) : Nat) : Int) by omega]; exact this.mono fun _ _ h => ⟨by rw [h.1, b1]; rfl, h.2.symm⟩))
  have B2 := Lib.hid (fun W => show Calls Tryd.prog 111 #[.string s, .int .i64 ((p : Int) + 2)] W fun e w' => e = .returned (.int .i64 1) ∧ w' = W from
    (by have := l1Bit_any s (p + 2) W (by omega) (by omega) hs; rw [show ((p : Int) + 2) = (((p + 2) : Nat) : Int) by omega]; exact this.mono fun _ _ h => ⟨by rw [h.1, b2]; rfl, h.2.symm⟩))
  have B3 := Lib.hid (fun W => show Calls Tryd.prog 111 #[.string s, .int .i64 ((p : Int) + 3)] W fun e w' => e = .returned (.int .i64 0) ∧ w' = W from
    (by have := l1Bit_any s (p + 3) W (by omega) (by omega) hs; rw [show ((p : Int) + 3) = (((p + 3) : Nat) : Int) by omega]; exact this.mono fun _ _ h => ⟨by rw [h.1, b3]; rfl, h.2.symm⟩))
  have b3w := fun (a b c : Obj) => ((((Below.refl w.heap.size w).alloc (Nat.le_refl _) a).alloc (by simp) b).alloc (by simp; omega) c)
  have hXl : X < 2 ^ 12 := by rw [← hX]; exact BM.ofBits_lt _ _
  have hXw : wrap64 (takeN s (p + 4) 12 : Int) = (X : Int) := by rw [hX]; unfold wrap64; omega
  have T := Lib.hid (fun W => show Calls Tryd.prog 109 #[.agg #[.string s, .int .i64 (n : Int)], .int .i64 ((p : Int) + 4), .int .i64 12] W fun e w' => e = .returned (.int .i64 (X : Int)) ∧ Below W.heap.size W w' from
    (by have := l1Take_any s (n : Int) (p + 4) 12 W (by omega) (by omega) hs; rw [hXw] at this; rw [show ((p : Int) + 4) = ((p + 4 : Nat) : Int) by omega]; exact this))
  have S := Lib.hid (fun W => show Calls Tryd.prog 122 #[.int .i64 ((X : Int) - 2047)] W fun e w' => e = .returned (.bool true) ∧ w' = W from
    (by have := l3Step_any ((X : Int) - 2047) W; unfold stepB at hst; rw [hst] at this; exact this))
  have C := Lib.hid (fun W => show Calls Tryd.prog 105 #[.int .i64 ((X : Int) - 2047)] W (LenPost m W) from (by have := l3Code_len ((X : Int) - 2047) W hst; rw [hm] at this; exact this))
  have hmi : (m : Int) = 16 := by omega
  subst hml
  have hx42 : X < 4398046511104 := Nat.lt_of_lt_of_le hXl (by decide)
  have hwx : IntKind.i64.wrap ((X : Int) - 2047) = (X : Int) - 2047 := IntWalk.i64_in _ (by omega)
  clear hXl hXw hX hst hm b0 b1 b2 b3
  go_enter Tryd.func110, Tryd.ntmps110
  go_wp2_with fail
  refine wp_loop_rounds 5 ?_
  rw [rounds_succ]
  go_wp2_with fail
  refine (B0.out _).mono ?_
  rintro e w1 ⟨rfl, rfl⟩
  go_wp2_with fail
  rw [rounds_succ]
  go_wp2_with fail
  refine (B1.out _).mono ?_
  rintro e w1 ⟨rfl, rfl⟩
  go_wp2_with fail
  rw [rounds_succ]
  go_wp2_with fail
  refine (B2.out _).mono ?_
  rintro e w1 ⟨rfl, rfl⟩
  go_wp2_with fail
  rw [rounds_succ]
  go_wp2_with fail
  refine (B3.out _).mono ?_
  rintro e w1 ⟨rfl, rfl⟩
  go_wp2_with fail
  refine (T.out _).mono ?_
  rintro e w2 ⟨rfl, hb2⟩
  have HB2 := Lib.hid ((b3w _ _ _).trans (hb2.mono (by simp; omega)))
  clear hb2
  go_wp2_with fail
  refine (S.out _).mono ?_
  rintro e w3 ⟨rfl, rfl⟩
  go_wp2_with fail
  refine (C.out _).mono ?_
  rintro e w4 ⟨g4, c4, rfl, hb4⟩
  have HB4 := Lib.hid (HB2.out.trans (hb4.mono HB2.out.size))
  clear hb4
  go_wp2_with fail
  exact bodyPost_ret (v := .tuple #[.int .i64 ((X : Int) - 2047), .int .i64 ((p + 16 : Nat) : Int), .bool true]) (by simp [results, Tryd.results110, go_sem] <;> omega) rfl ⟨rfl, HB4.out⟩
set_option maxRecDepth 100000 in
set_option maxHeartbeats 1000000 in
theorem l3Read_short4 (s : ByteArray) (n p : Nat) (w : World) (hs : s.size ≤ maxLen) (hn : n ≤ 20000) (h8 : n ≤ 8 * s.size) (hp : p + 4 ≤ n) (b0 : BM.bitAt s.data.toList p = true) (b1 : BM.bitAt s.data.toList (p + 1) = true) (b2 : BM.bitAt s.data.toList (p + 2) = true) (b3 : BM.bitAt s.data.toList (p + 3) = true) (hq : ¬ p + 4 + 42 ≤ n) :
    Calls Tryd.prog 110 #[.agg #[.string s, .int .i64 (n : Int)], .int .i64 (p : Int)] w (RetBelow (readT none) w) := by
  have B0 := Lib.hid (fun W => show Calls Tryd.prog 111 #[.string s, .int .i64 (p : Int)] W fun e w' => e = .returned (.int .i64 1) ∧ w' = W from
    (by have := l1Bit_any s p W (by omega) (by omega) hs; rw [show (p : Int) = ((p : Nat) : Int) by omega]; exact this.mono fun _ _ h => ⟨by rw [h.1, b0]; rfl, h.2.symm⟩))
  have B1 := Lib.hid (fun W => show Calls Tryd.prog 111 #[.string s, .int .i64 ((p : Int) + 1)] W fun e w' => e = .returned (.int .i64 1) ∧ w' = W from
    (by have := l1Bit_any s (p + 1) W (by omega) (by omega) hs; rw [show ((p : Int) + 1) = (((p + 1) : Nat) : Int) by omega]; exact this.mono fun _ _ h => ⟨by rw [h.1, b1]; rfl, h.2.symm⟩))
  have B2 := Lib.hid (fun W => show Calls Tryd.prog 111 #[.string s, .int .i64 ((p : Int) + 2)] W fun e w' => e = .returned (.int .i64 1) ∧ w' = W from
    (by have := l1Bit_any s (p + 2) W (by omega) (by omega) hs; rw [show ((p : Int) + 2) = (((p + 2) : Nat) : Int) by omega]; exact this.mono fun _ _ h => ⟨by rw [h.1, b2]; rfl, h.2.symm⟩))
  have B3 := Lib.hid (fun W => show Calls Tryd.prog 111 #[.string s, .int .i64 ((p : Int) + 3)] W fun e w' => e = .returned (.int .i64 1) ∧ w' = W from
    (by have := l1Bit_any s (p + 3) W (by omega) (by omega) hs; rw [show ((p : Int) + 3) = (((p + 3) : Nat) : Int) by omega]; exact this.mono fun _ _ h => ⟨by rw [h.1, b3]; rfl, h.2.symm⟩))
  have b3w := fun (a b c : Obj) => ((((Below.refl w.heap.size w).alloc (Nat.le_refl _) a).alloc (by simp) b).alloc (by simp; omega) c)
  clear b0 b1 b2 b3
  go_enter Tryd.func110, Tryd.ntmps110
  go_wp2_with fail
  refine wp_loop_rounds 6 ?_
  rw [rounds_succ]
  go_wp2_with fail
  refine (B0.out _).mono ?_
  rintro e w1 ⟨rfl, rfl⟩
  go_wp2_with fail
  rw [rounds_succ]
  go_wp2_with fail
  refine (B1.out _).mono ?_
  rintro e w1 ⟨rfl, rfl⟩
  go_wp2_with fail
  rw [rounds_succ]
  go_wp2_with fail
  refine (B2.out _).mono ?_
  rintro e w1 ⟨rfl, rfl⟩
  go_wp2_with fail
  rw [rounds_succ]
  go_wp2_with fail
  refine (B3.out _).mono ?_
  rintro e w1 ⟨rfl, rfl⟩
  go_wp2_with fail
  rw [rounds_succ]
  go_wp2_with fail
  exact bodyPost_ret (v := .tuple #[.int .i64 0, .int .i64 0, .bool false]) (by simp [results, Tryd.results110, go_sem] <;> omega) rfl ⟨rfl, b3w _ _ _⟩
set_option maxRecDepth 100000 in
set_option maxHeartbeats 1000000 in
theorem l3Read_far4 (s : ByteArray) (n p : Nat) (w : World) (hs : s.size ≤ maxLen) (hn : n ≤ 20000) (h8 : n ≤ 8 * s.size) (hp : p + 4 ≤ n) (b0 : BM.bitAt s.data.toList p = true) (b1 : BM.bitAt s.data.toList (p + 1) = true) (b2 : BM.bitAt s.data.toList (p + 2) = true) (b3 : BM.bitAt s.data.toList (p + 3) = true) (hq : p + 4 + 42 ≤ n) (X : Nat) (hX : takeN s (p + 4) 42 = X) (hst : stepB ((X : Int) - 2199023255552) = false) :
    Calls Tryd.prog 110 #[.agg #[.string s, .int .i64 (n : Int)], .int .i64 (p : Int)] w (RetBelow (readT none) w) := by
  have B0 := Lib.hid (fun W => show Calls Tryd.prog 111 #[.string s, .int .i64 (p : Int)] W fun e w' => e = .returned (.int .i64 1) ∧ w' = W from
    (by have := l1Bit_any s p W (by omega) (by omega) hs; rw [show (p : Int) = ((p : Nat) : Int) by omega]; exact this.mono fun _ _ h => ⟨by rw [h.1, b0]; rfl, h.2.symm⟩))
  have B1 := Lib.hid (fun W => show Calls Tryd.prog 111 #[.string s, .int .i64 ((p : Int) + 1)] W fun e w' => e = .returned (.int .i64 1) ∧ w' = W from
    (by have := l1Bit_any s (p + 1) W (by omega) (by omega) hs; rw [show ((p : Int) + 1) = (((p + 1) : Nat) : Int) by omega]; exact this.mono fun _ _ h => ⟨by rw [h.1, b1]; rfl, h.2.symm⟩))
  have B2 := Lib.hid (fun W => show Calls Tryd.prog 111 #[.string s, .int .i64 ((p : Int) + 2)] W fun e w' => e = .returned (.int .i64 1) ∧ w' = W from
    (by have := l1Bit_any s (p + 2) W (by omega) (by omega) hs; rw [show ((p : Int) + 2) = (((p + 2) : Nat) : Int) by omega]; exact this.mono fun _ _ h => ⟨by rw [h.1, b2]; rfl, h.2.symm⟩))
  have B3 := Lib.hid (fun W => show Calls Tryd.prog 111 #[.string s, .int .i64 ((p : Int) + 3)] W fun e w' => e = .returned (.int .i64 1) ∧ w' = W from
    (by have := l1Bit_any s (p + 3) W (by omega) (by omega) hs; rw [show ((p : Int) + 3) = (((p + 3) : Nat) : Int) by omega]; exact this.mono fun _ _ h => ⟨by rw [h.1, b3]; rfl, h.2.symm⟩))
  have b3w := fun (a b c : Obj) => ((((Below.refl w.heap.size w).alloc (Nat.le_refl _) a).alloc (by simp) b).alloc (by simp; omega) c)
  have hXl : X < 2 ^ 42 := by rw [← hX]; exact BM.ofBits_lt _ _
  have hXw : wrap64 (takeN s (p + 4) 42 : Int) = (X : Int) := by rw [hX]; unfold wrap64; omega
  have T := Lib.hid (fun W => show Calls Tryd.prog 109 #[.agg #[.string s, .int .i64 (n : Int)], .int .i64 ((p : Int) + 4), .int .i64 42] W fun e w' => e = .returned (.int .i64 (X : Int)) ∧ Below W.heap.size W w' from
    (by have := l1Take_any s (n : Int) (p + 4) 42 W (by omega) (by omega) hs; rw [hXw] at this; rw [show ((p : Int) + 4) = ((p + 4 : Nat) : Int) by omega]; exact this))
  have S := Lib.hid (fun W => show Calls Tryd.prog 122 #[.int .i64 ((X : Int) - 2199023255552)] W fun e w' => e = .returned (.bool false) ∧ w' = W from
    (by have := l3Step_any ((X : Int) - 2199023255552) W; unfold stepB at hst; rw [hst] at this; exact this))
  have hx42 : X < 4398046511104 := Nat.lt_of_lt_of_le hXl (by decide)
  have hwx : IntKind.i64.wrap ((X : Int) - 2199023255552) = (X : Int) - 2199023255552 := IntWalk.i64_in _ (by omega)
  clear hXl hXw hX hst b0 b1 b2 b3
  go_enter Tryd.func110, Tryd.ntmps110
  go_wp2_with fail
  refine wp_loop_rounds 6 ?_
  rw [rounds_succ]
  go_wp2_with fail
  refine (B0.out _).mono ?_
  rintro e w1 ⟨rfl, rfl⟩
  go_wp2_with fail
  rw [rounds_succ]
  go_wp2_with fail
  refine (B1.out _).mono ?_
  rintro e w1 ⟨rfl, rfl⟩
  go_wp2_with fail
  rw [rounds_succ]
  go_wp2_with fail
  refine (B2.out _).mono ?_
  rintro e w1 ⟨rfl, rfl⟩
  go_wp2_with fail
  rw [rounds_succ]
  go_wp2_with fail
  refine (B3.out _).mono ?_
  rintro e w1 ⟨rfl, rfl⟩
  go_wp2_with fail
  rw [rounds_succ]
  go_wp2_with fail
  refine (T.out _).mono ?_
  rintro e w2 ⟨rfl, hb2⟩
  have HB2 := Lib.hid ((b3w _ _ _).trans (hb2.mono (by simp; omega)))
  clear hb2
  go_wp2_with fail
  refine (S.out _).mono ?_
  rintro e w3 ⟨rfl, rfl⟩
  go_wp2_with fail
  exact bodyPost_ret (v := .tuple #[.int .i64 0, .int .i64 0, .bool false]) (by simp [results, Tryd.results110, go_sem] <;> omega) rfl ⟨rfl, HB2.out⟩
set_option maxRecDepth 100000 in
set_option maxHeartbeats 1000000 in
theorem l3Read_odd4 (s : ByteArray) (n p : Nat) (w : World) (hs : s.size ≤ maxLen) (hn : n ≤ 20000) (h8 : n ≤ 8 * s.size) (hp : p + 4 ≤ n) (b0 : BM.bitAt s.data.toList p = true) (b1 : BM.bitAt s.data.toList (p + 1) = true) (b2 : BM.bitAt s.data.toList (p + 2) = true) (b3 : BM.bitAt s.data.toList (p + 3) = true) (hq : p + 4 + 42 ≤ n) (X : Nat) (hX : takeN s (p + 4) 42 = X) (hst : stepB ((X : Int) - 2199023255552) = true) (m : Nat) (hm : (codeB ((X : Int) - 2199023255552)).length = m) (hml : ¬ m = 46) :
    Calls Tryd.prog 110 #[.agg #[.string s, .int .i64 (n : Int)], .int .i64 (p : Int)] w (RetBelow (readT none) w) := by
  have B0 := Lib.hid (fun W => show Calls Tryd.prog 111 #[.string s, .int .i64 (p : Int)] W fun e w' => e = .returned (.int .i64 1) ∧ w' = W from
    (by have := l1Bit_any s p W (by omega) (by omega) hs; rw [show (p : Int) = ((p : Nat) : Int) by omega]; exact this.mono fun _ _ h => ⟨by rw [h.1, b0]; rfl, h.2.symm⟩))
  have B1 := Lib.hid (fun W => show Calls Tryd.prog 111 #[.string s, .int .i64 ((p : Int) + 1)] W fun e w' => e = .returned (.int .i64 1) ∧ w' = W from
    (by have := l1Bit_any s (p + 1) W (by omega) (by omega) hs; rw [show ((p : Int) + 1) = (((p + 1) : Nat) : Int) by omega]; exact this.mono fun _ _ h => ⟨by rw [h.1, b1]; rfl, h.2.symm⟩))
  have B2 := Lib.hid (fun W => show Calls Tryd.prog 111 #[.string s, .int .i64 ((p : Int) + 2)] W fun e w' => e = .returned (.int .i64 1) ∧ w' = W from
    (by have := l1Bit_any s (p + 2) W (by omega) (by omega) hs; rw [show ((p : Int) + 2) = (((p + 2) : Nat) : Int) by omega]; exact this.mono fun _ _ h => ⟨by rw [h.1, b2]; rfl, h.2.symm⟩))
  have B3 := Lib.hid (fun W => show Calls Tryd.prog 111 #[.string s, .int .i64 ((p : Int) + 3)] W fun e w' => e = .returned (.int .i64 1) ∧ w' = W from
    (by have := l1Bit_any s (p + 3) W (by omega) (by omega) hs; rw [show ((p : Int) + 3) = (((p + 3) : Nat) : Int) by omega]; exact this.mono fun _ _ h => ⟨by rw [h.1, b3]; rfl, h.2.symm⟩))
  have b3w := fun (a b c : Obj) => ((((Below.refl w.heap.size w).alloc (Nat.le_refl _) a).alloc (by simp) b).alloc (by simp; omega) c)
  have hXl : X < 2 ^ 42 := by rw [← hX]; exact BM.ofBits_lt _ _
  have hXw : wrap64 (takeN s (p + 4) 42 : Int) = (X : Int) := by rw [hX]; unfold wrap64; omega
  have T := Lib.hid (fun W => show Calls Tryd.prog 109 #[.agg #[.string s, .int .i64 (n : Int)], .int .i64 ((p : Int) + 4), .int .i64 42] W fun e w' => e = .returned (.int .i64 (X : Int)) ∧ Below W.heap.size W w' from
    (by have := l1Take_any s (n : Int) (p + 4) 42 W (by omega) (by omega) hs; rw [hXw] at this; rw [show ((p : Int) + 4) = ((p + 4 : Nat) : Int) by omega]; exact this))
  have S := Lib.hid (fun W => show Calls Tryd.prog 122 #[.int .i64 ((X : Int) - 2199023255552)] W fun e w' => e = .returned (.bool true) ∧ w' = W from
    (by have := l3Step_any ((X : Int) - 2199023255552) W; unfold stepB at hst; rw [hst] at this; exact this))
  have C := Lib.hid (fun W => show Calls Tryd.prog 105 #[.int .i64 ((X : Int) - 2199023255552)] W (LenPost m W) from (by have := l3Code_len ((X : Int) - 2199023255552) W hst; rw [hm] at this; exact this))
  have hmi : ¬ (m : Int) = 46 := by omega
  have hx42 : X < 4398046511104 := Nat.lt_of_lt_of_le hXl (by decide)
  have hwx : IntKind.i64.wrap ((X : Int) - 2199023255552) = (X : Int) - 2199023255552 := IntWalk.i64_in _ (by omega)
  clear hXl hXw hX hst hm hml b0 b1 b2 b3
  go_enter Tryd.func110, Tryd.ntmps110
  go_wp2_with fail
  refine wp_loop_rounds 6 ?_
  rw [rounds_succ]
  go_wp2_with fail
  refine (B0.out _).mono ?_
  rintro e w1 ⟨rfl, rfl⟩
  go_wp2_with fail
  rw [rounds_succ]
  go_wp2_with fail
  refine (B1.out _).mono ?_
  rintro e w1 ⟨rfl, rfl⟩
  go_wp2_with fail
  rw [rounds_succ]
  go_wp2_with fail
  refine (B2.out _).mono ?_
  rintro e w1 ⟨rfl, rfl⟩
  go_wp2_with fail
  rw [rounds_succ]
  go_wp2_with fail
  refine (B3.out _).mono ?_
  rintro e w1 ⟨rfl, rfl⟩
  go_wp2_with fail
  rw [rounds_succ]
  go_wp2_with fail
  refine (T.out _).mono ?_
  rintro e w2 ⟨rfl, hb2⟩
  have HB2 := Lib.hid ((b3w _ _ _).trans (hb2.mono (by simp; omega)))
  clear hb2
  go_wp2_with fail
  refine (S.out _).mono ?_
  rintro e w3 ⟨rfl, rfl⟩
  go_wp2_with fail
  refine (C.out _).mono ?_
  rintro e w4 ⟨g4, c4, rfl, hb4⟩
  have HB4 := Lib.hid (HB2.out.trans (hb4.mono HB2.out.size))
  clear hb4
  go_wp2_with fail
  exact bodyPost_ret (v := .tuple #[.int .i64 0, .int .i64 0, .bool false]) (by simp [results, Tryd.results110, go_sem] <;> omega) rfl ⟨rfl, HB4.out⟩
set_option maxRecDepth 100000 in
set_option maxHeartbeats 1000000 in
theorem l3Read_yes4 (s : ByteArray) (n p : Nat) (w : World) (hs : s.size ≤ maxLen) (hn : n ≤ 20000) (h8 : n ≤ 8 * s.size) (hp : p + 4 ≤ n) (b0 : BM.bitAt s.data.toList p = true) (b1 : BM.bitAt s.data.toList (p + 1) = true) (b2 : BM.bitAt s.data.toList (p + 2) = true) (b3 : BM.bitAt s.data.toList (p + 3) = true) (hq : p + 4 + 42 ≤ n) (X : Nat) (hX : takeN s (p + 4) 42 = X) (hst : stepB ((X : Int) - 2199023255552) = true) (m : Nat) (hm : (codeB ((X : Int) - 2199023255552)).length = m) (hml : m = 46) :
    Calls Tryd.prog 110 #[.agg #[.string s, .int .i64 (n : Int)], .int .i64 (p : Int)] w (RetBelow (readT (some (((X : Int) - 2199023255552), p + 46))) w) := by
  have B0 := Lib.hid (fun W => show Calls Tryd.prog 111 #[.string s, .int .i64 (p : Int)] W fun e w' => e = .returned (.int .i64 1) ∧ w' = W from
    (by have := l1Bit_any s p W (by omega) (by omega) hs; rw [show (p : Int) = ((p : Nat) : Int) by omega]; exact this.mono fun _ _ h => ⟨by rw [h.1, b0]; rfl, h.2.symm⟩))
  have B1 := Lib.hid (fun W => show Calls Tryd.prog 111 #[.string s, .int .i64 ((p : Int) + 1)] W fun e w' => e = .returned (.int .i64 1) ∧ w' = W from
    (by have := l1Bit_any s (p + 1) W (by omega) (by omega) hs; rw [show ((p : Int) + 1) = (((p + 1) : Nat) : Int) by omega]; exact this.mono fun _ _ h => ⟨by rw [h.1, b1]; rfl, h.2.symm⟩))
  have B2 := Lib.hid (fun W => show Calls Tryd.prog 111 #[.string s, .int .i64 ((p : Int) + 2)] W fun e w' => e = .returned (.int .i64 1) ∧ w' = W from
    (by have := l1Bit_any s (p + 2) W (by omega) (by omega) hs; rw [show ((p : Int) + 2) = (((p + 2) : Nat) : Int) by omega]; exact this.mono fun _ _ h => ⟨by rw [h.1, b2]; rfl, h.2.symm⟩))
  have B3 := Lib.hid (fun W => show Calls Tryd.prog 111 #[.string s, .int .i64 ((p : Int) + 3)] W fun e w' => e = .returned (.int .i64 1) ∧ w' = W from
    (by have := l1Bit_any s (p + 3) W (by omega) (by omega) hs; rw [show ((p : Int) + 3) = (((p + 3) : Nat) : Int) by omega]; exact this.mono fun _ _ h => ⟨by rw [h.1, b3]; rfl, h.2.symm⟩))
  have b3w := fun (a b c : Obj) => ((((Below.refl w.heap.size w).alloc (Nat.le_refl _) a).alloc (by simp) b).alloc (by simp; omega) c)
  have hXl : X < 2 ^ 42 := by rw [← hX]; exact BM.ofBits_lt _ _
  have hXw : wrap64 (takeN s (p + 4) 42 : Int) = (X : Int) := by rw [hX]; unfold wrap64; omega
  have T := Lib.hid (fun W => show Calls Tryd.prog 109 #[.agg #[.string s, .int .i64 (n : Int)], .int .i64 ((p : Int) + 4), .int .i64 42] W fun e w' => e = .returned (.int .i64 (X : Int)) ∧ Below W.heap.size W w' from
    (by have := l1Take_any s (n : Int) (p + 4) 42 W (by omega) (by omega) hs; rw [hXw] at this; rw [show ((p : Int) + 4) = ((p + 4 : Nat) : Int) by omega]; exact this))
  have S := Lib.hid (fun W => show Calls Tryd.prog 122 #[.int .i64 ((X : Int) - 2199023255552)] W fun e w' => e = .returned (.bool true) ∧ w' = W from
    (by have := l3Step_any ((X : Int) - 2199023255552) W; unfold stepB at hst; rw [hst] at this; exact this))
  have C := Lib.hid (fun W => show Calls Tryd.prog 105 #[.int .i64 ((X : Int) - 2199023255552)] W (LenPost m W) from (by have := l3Code_len ((X : Int) - 2199023255552) W hst; rw [hm] at this; exact this))
  have hmi : (m : Int) = 46 := by omega
  subst hml
  have hx42 : X < 4398046511104 := Nat.lt_of_lt_of_le hXl (by decide)
  have hwx : IntKind.i64.wrap ((X : Int) - 2199023255552) = (X : Int) - 2199023255552 := IntWalk.i64_in _ (by omega)
  clear hXl hXw hX hst hm b0 b1 b2 b3
  go_enter Tryd.func110, Tryd.ntmps110
  go_wp2_with fail
  refine wp_loop_rounds 6 ?_
  rw [rounds_succ]
  go_wp2_with fail
  refine (B0.out _).mono ?_
  rintro e w1 ⟨rfl, rfl⟩
  go_wp2_with fail
  rw [rounds_succ]
  go_wp2_with fail
  refine (B1.out _).mono ?_
  rintro e w1 ⟨rfl, rfl⟩
  go_wp2_with fail
  rw [rounds_succ]
  go_wp2_with fail
  refine (B2.out _).mono ?_
  rintro e w1 ⟨rfl, rfl⟩
  go_wp2_with fail
  rw [rounds_succ]
  go_wp2_with fail
  refine (B3.out _).mono ?_
  rintro e w1 ⟨rfl, rfl⟩
  go_wp2_with fail
  rw [rounds_succ]
  go_wp2_with fail
  refine (T.out _).mono ?_
  rintro e w2 ⟨rfl, hb2⟩
  have HB2 := Lib.hid ((b3w _ _ _).trans (hb2.mono (by simp; omega)))
  clear hb2
  go_wp2_with fail
  refine (S.out _).mono ?_
  rintro e w3 ⟨rfl, rfl⟩
  go_wp2_with fail
  refine (C.out _).mono ?_
  rintro e w4 ⟨g4, c4, rfl, hb4⟩
  have HB4 := Lib.hid (HB2.out.trans (hb4.mono HB2.out.size))
  clear hb4
  go_wp2_with fail
  exact bodyPost_ret (v := .tuple #[.int .i64 ((X : Int) - 2199023255552), .int .i64 ((p + 46 : Nat) : Int), .bool true]) (by simp [results, Tryd.results110, go_sem] <;> omega) rfl ⟨rfl, HB4.out⟩
end Go.Proofs.YtanoohfhifhhaaaDoor
