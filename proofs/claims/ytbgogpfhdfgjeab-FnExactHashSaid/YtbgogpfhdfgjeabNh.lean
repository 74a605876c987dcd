/- Walks: the hash of labels. -/
import Derived.Test.YtbgogpfhdfgjeabNg
import Derived.Test.YtbgogpfhdfgjeabNe
import Derived.Laws.Bits64
set_option linter.unusedVariables false
set_option linter.unusedSimpArgs false
namespace Go.Proofs.Ytbgogpfhdfgjeab
open Go.RowKit

def hStep (h : Nat) (x : UInt8) : Nat := (h ^^^ x.toNat) * 1099511628211 % 18446744073709551616
def hTo (l : List UInt8) : Nat := l.foldl hStep 14695981039346656037
theorem hStep_lt (h : Nat) (x : UInt8) : hStep h x < 18446744073709551616 := Nat.mod_lt _ (by omega)
theorem hTo_nil : hTo [] = 14695981039346656037 := by unfold hTo; rw [List.foldl_nil]
theorem hTo_snoc (l : List UInt8) (x : UInt8) : hTo (l ++ [x]) = hStep (hTo l) x := by
  unfold hTo; rw [List.foldl_append, List.foldl_cons, List.foldl_nil]
theorem hTo_lt (l : List UInt8) : hTo l < 18446744073709551616 := by
  rcases List.eq_nil_or_concat l with rfl | ⟨m, x, rfl⟩
  · rw [hTo_nil]; omega
  · rw [List.concat_eq_append, hTo_snoc]; exact hStep_lt _ _
theorem hTo_take {l : List UInt8} {k : Nat} (h : k < l.length) : hTo (l.take (k + 1)) = hStep (hTo (l.take k)) (l.getD k 0) := by
  rw [List.take_add_one, List.getElem?_eq_getElem h, Option.toList_some, hTo_snoc, List.getD_eq_getElem?_getD, List.getElem?_eq_getElem h, Option.getD_some]
theorem h_wrap8 (x : UInt8) : IntKind.u64.wrap (x.toNat : Int) = (x.toNat : Int) := by
  have := x.toNat_lt
  rw [IntKind.wrap_u64]; omega
theorem h_i64 (H : Nat) : ((H : Int) % 4294967296) = ((H % 4294967296 : Nat) : Int) := by omega
theorem h_xor {h : Nat} (x : UInt8) (hh : h < 18446744073709551616) : bits .xor .u64 (h : Int) (x.toNat : Int) = ((h ^^^ x.toNat : Nat) : Int) :=
  bits_xor_u64_nat h x.toNat hh (by have := x.toNat_lt; omega)
theorem h_mul (h : Nat) : IntKind.u64.wrap ((h : Int) * 1099511628211) = ((h * 1099511628211 % 18446744073709551616 : Nat) : Int) := by
  rw [IntKind.wrap_u64]; omega
def lbHash (xs : List (ByteArray × ByteArray)) : Int := if labOkB xs = true then ((hTo (txTo xs xs.length).data.toList % 4294967296 : Nat) : Int) else -1

set_option maxRecDepth 100000 in
set_option maxHeartbeats 1000000 in
theorem specHash_any (v : Value) (xs : List (ByteArray × ByteArray)) (w : World) (h : LL w w.heap.size v xs) :
    Calls Try.prog 22 #[v] w fun e w' => e = .returned (.int .i64 (lbHash xs)) ∧ Below w.heap.size w w' := by
  have HO := Lib.hid (specLabelsOk_any v xs w h)
  have HL := Lib.hid h
  clear h
  unfold lbHash
  cases hB : labOkB xs with
  | false =>
    rw [hB] at HO
    rw [if_neg (by simp)]
    go_enter Try.func22, Try.ntmps22
    go_wp2_with fail
    refine HO.out.mono ?_
    rintro e w1 ⟨rfl, hb⟩
    go_wp2_with fail
    go_ret
    exact ⟨rfl, hb⟩
  | true =>
    obtain ⟨h1, h2, h3⟩ := labOk_parts hB
    have HT := Lib.hid (fun W (hW : LL W W.heap.size v xs) => l6Text_any v xs W hW h1 h3)
    have hsz := txTo_size xs.length h1 xs.length (Nat.le_refl _)
    rw [hB] at HO
    rw [if_pos rfl]
    clear hB h1
    generalize txTo xs xs.length = s at *
    obtain ⟨R, hR⟩ : ∃ R : Int, ((hTo s.data.toList % 4294967296 : Nat) : Int) = R := ⟨_, rfl⟩
    have HR := Lib.hid hR
    rw [hR]
    clear hR
    go_enter Try.func22, Try.ntmps22
    go_wp2_with fail
    refine HO.out.mono ?_
    rintro e w1 ⟨rfl, hb⟩
    have HL1 := Lib.hid ((HL.out.below hb).up hb.size)
    have HB := Lib.hid hb
    clear hb
    go_wp2_with fail
    refine (HT.out _ HL1.out).mono ?_
    rintro e w2 ⟨rfl, hb2⟩
    have HB2 := Lib.hid (HB.out.trans (hb2.mono HB.out.size))
    clear hb2
    go_wp2_with fail
    go_loop [3, 5] (fun h i => ∃ k : Nat, k ≤ s.size ∧ i = .int .i64 k ∧ h = .int .u64 (hTo (s.data.toList.take k) : Int)) (fun _ i => s.size - (intOf i).toNat)
    case atStart => exact ⟨0, Nat.zero_le _, rfl, by rw [List.take_zero, hTo_nil]; rfl⟩
    case round =>
      obtain ⟨k, hk, rfl, rfl⟩ := hrel
      have hH := hTo_lt (s.data.toList.take k)
      by_cases hlt : k < s.size
      · have hn := Lib.hid (hTo_take (l := s.data.toList) (k := k) (by simpa using hlt))
        rw [n_byte_of s k hlt] at hn
        have e1 := h_xor (h := hTo (s.data.toList.take k)) s[k] hH
        have e2 := h_mul (hTo (s.data.toList.take k) ^^^ s[k].toNat)
        generalize hTo (s.data.toList.take k) = H at *
        go_wp2_with fail
        go_round
        case rel => exact ⟨k + 1, by omega, by go_num, by rw [hn.out, h_wrap8, e1, e2]; unfold hStep; rfl⟩
        case measure => simp [intOf]; omega
      · obtain rfl : k = s.size := by omega
        rw [List.take_of_length_le (by simp)] at *
        generalize hTo s.data.toList = H at *
        go_wp2_with fail
        go_ret
        refine ⟨?_, HB2.out⟩
        rw [h_i64, HR.out]
        rfl

set_option maxRecDepth 100000 in
set_option maxHeartbeats 1000000 in
theorem implHash_any (v : Value) (xs : List (ByteArray × ByteArray)) (w : World) (h : LL w w.heap.size v xs) :
    Calls Try.prog 23 #[v] w fun e w' => e = .returned (.int .i64 (lbHash xs)) ∧ Below w.heap.size w w' := by
  have HO := Lib.hid (implLabelsOk_any v xs w h)
  have HL := Lib.hid h
  clear h
  unfold lbHash
  cases hB : labOkB xs with
  | false =>
    rw [hB] at HO
    rw [if_neg (by simp)]
    go_enter Try.func23, Try.ntmps23
    go_wp2_with fail
    refine HO.out.mono ?_
    rintro e w1 ⟨rfl, hb⟩
    go_wp2_with fail
    go_ret
    exact ⟨rfl, hb⟩
  | true =>
    obtain ⟨h1, h2, h3⟩ := labOk_parts hB
    have HT := Lib.hid (fun W (hW : LL W W.heap.size v xs) => implLabelsText_any v xs W hW)
    unfold lbText at HT
    rw [if_pos hB] at HT
    have hsz := txTo_size xs.length h1 xs.length (Nat.le_refl _)
    rw [hB] at HO
    rw [if_pos rfl]
    clear hB h1
    generalize txTo xs xs.length = s at *
    obtain ⟨R, hR⟩ : ∃ R : Int, ((hTo s.data.toList % 4294967296 : Nat) : Int) = R := ⟨_, rfl⟩
    have HR := Lib.hid hR
    rw [hR]
    clear hR
    go_enter Try.func23, Try.ntmps23
    go_wp2_with fail
    refine HO.out.mono ?_
    rintro e w1 ⟨rfl, hb⟩
    have HL1 := Lib.hid ((HL.out.below hb).up hb.size)
    have HB := Lib.hid hb
    clear hb
    go_wp2_with fail
    refine (HT.out _ HL1.out).mono ?_
    rintro e w2 ⟨rfl, hb2⟩
    have HB2 := Lib.hid (HB.out.trans (hb2.mono HB.out.size))
    clear hb2
    go_wp2_with fail
    go_loop [4, 13] (fun h i => ∃ k : Nat, k ≤ s.size ∧ i = .int .i64 k ∧ h = .int .u64 (hTo (s.data.toList.take k) : Int)) (fun _ i => s.size - (intOf i).toNat)
    case atStart => exact ⟨0, Nat.zero_le _, rfl, by rw [List.take_zero, hTo_nil]; rfl⟩
    case round =>
      obtain ⟨k, hk, rfl, rfl⟩ := hrel
      have hH := hTo_lt (s.data.toList.take k)
      by_cases hlt : k < s.size
      · have hn := Lib.hid (hTo_take (l := s.data.toList) (k := k) (by simpa using hlt))
        rw [n_byte_of s k hlt] at hn
        have e1 := h_xor (h := hTo (s.data.toList.take k)) s[k] hH
        have e2 := h_mul (hTo (s.data.toList.take k) ^^^ s[k].toNat)
        generalize hTo (s.data.toList.take k) = H at *
        go_wp2_with fail
        go_round
        case rel => exact ⟨k + 1, by omega, by go_num, by rw [hn.out, h_wrap8, e1, e2]; unfold hStep; rfl⟩
        case measure => simp [intOf]; omega
      · obtain rfl : k = s.size := by omega
        rw [List.take_of_length_le (by simp)] at *
        generalize hTo s.data.toList = H at *
        go_wp2_with fail
        go_ret
        refine ⟨?_, HB2.out⟩
        rw [h_i64, HR.out]
        rfl

set_option maxRecDepth 100000 in
set_option maxHeartbeats 1000000 in
theorem walkFnExactHash (A : Option Addr) (n c : Nat) (w : World) (hn : n ≤ maxLen) (hx : n ≤ 1048576 → ∃ xs : List (ByteArray × ByteArray), xs.length = n ∧ LL w w.heap.size (.slice A n c) xs) :
    Calls Try.prog 7 #[.slice A n c] w fun e w' => e = .returned (.bool true) ∧ Below w.heap.size w w' := by
  have HZ := Lib.hid (szLabelS_any A n c 1048576 w hn (by omega) hx)
  go_enter Try.func7, Try.ntmps7
  go_wp2_with fail
  refine HZ.out.mono ?_
  rintro e w0 ⟨⟨r, rfl, hr⟩, hb0⟩
  rcases hr with rfl | ⟨m, rfl, hm, hn2⟩
  · go_wp2_with fail
    go_ret
    exact ⟨rfl, hb0⟩
  · obtain ⟨xs, rfl, hil⟩ := hx hn2
    have Hil := Lib.hid ((hil.below hb0).up hb0.size)
    have Hrng := Lib.hid hil.1
    have B0 := Lib.hid hb0
    have hsp := Lib.hid (fun v W h => specHash_any v xs W h)
    have him := Lib.hid (fun v W h => implHash_any v xs W h)
    generalize lbHash xs = S at *
    have hcp := Lib.hid (fun v W h => toLabelS_any v xs W h)
    have heq := Lib.hid (fun v u W h h' => eqLabelS_any v u xs xs W h h')
    rw [decide_eq_true rfl] at heq
    clear hx hil hb0 HZ
    skip
    all_goals
      go_wp2_with fail
      refine (hcp.out _ _ Hil.out).mono ?_
      rintro e w1 ⟨v1, rfl, hown1, hb1⟩
      have H1 := Lib.hid (LL.of_own hown1 rfl Hrng.out (by omega))
      have Hil1 := Lib.hid ((Hil.out.below hb1).up hb1.size)
      have B1 := Lib.hid (B0.out.trans (hb1.mono B0.out.size))
      clear hown1 hb1 Hil B0
      go_wp2_with fail
      refine (hsp.out _ _ H1.out).mono ?_
      rintro e w2 ⟨rfl, hb2⟩
      have Hil2 := Lib.hid ((Hil1.out.below hb2).up hb2.size)
      have B2 := Lib.hid (B1.out.trans (hb2.mono B1.out.size))
      clear hb2 Hil1 B1 H1
      go_wp2_with fail
      refine (hcp.out _ _ Hil2.out).mono ?_
      rintro e w3 ⟨v3, rfl, hown3, hb3⟩
      have H3 := Lib.hid (LL.of_own hown3 rfl Hrng.out (by omega))
      have Hil3 := Lib.hid ((Hil2.out.below hb3).up hb3.size)
      have B3 := Lib.hid (B2.out.trans (hb3.mono B2.out.size))
      clear hown3 hb3 Hil2 B2
      go_wp2_with fail
      refine (him.out _ _ H3.out).mono ?_
      rintro e w4 ⟨rfl, hb4⟩
      have Hil4 := Lib.hid ((Hil3.out.below hb4).up hb4.size)
      have H4 := Lib.hid ((H3.out.below hb4).up hb4.size)
      have B4 := Lib.hid (B3.out.trans (hb4.mono B3.out.size))
      clear hb4 Hil3 B3 H3
      go_wp2_with fail
      refine (hcp.out _ _ Hil4.out).mono ?_
      rintro e w5 ⟨v5, rfl, hown5, hb5⟩
      have H5 := Lib.hid (LL.of_own hown5 rfl Hrng.out (by omega))
      have H45 := Lib.hid ((H4.out.below hb5).up hb5.size)
      have B5 := Lib.hid (B4.out.trans (hb5.mono B4.out.size))
      clear hown5 hb5 Hil4 B4 H4
      go_wp2_with fail
      refine (heq.out _ _ _ H45.out H5.out).mono ?_
      rintro e w6 ⟨rfl, hb6⟩
      have B6 := Lib.hid (B5.out.trans (hb6.mono B5.out.size))
      clear hb6 B5
      go_wp2_with fail
      go_ret
      exact ⟨rfl, B6.out⟩
set_option maxRecDepth 100000 in
set_option maxHeartbeats 1000000 in
theorem walkFnExactLabelsText (A : Option Addr) (n c : Nat) (w : World) (hn : n ≤ maxLen) (hx : n ≤ 1048576 → ∃ xs : List (ByteArray × ByteArray), xs.length = n ∧ LL w w.heap.size (.slice A n c) xs) :
    Calls Try.prog 5 #[.slice A n c] w fun e w' => e = .returned (.bool true) ∧ Below w.heap.size w w' := by
  have HZ := Lib.hid (szLabelS_any A n c 1048576 w hn (by omega) hx)
  go_enter Try.func5, Try.ntmps5
  go_wp2_with fail
  refine HZ.out.mono ?_
  rintro e w0 ⟨⟨r, rfl, hr⟩, hb0⟩
  rcases hr with rfl | ⟨m, rfl, hm, hn2⟩
  · go_wp2_with fail
    go_ret
    exact ⟨rfl, hb0⟩
  · obtain ⟨xs, rfl, hil⟩ := hx hn2
    have Hil := Lib.hid ((hil.below hb0).up hb0.size)
    have Hrng := Lib.hid hil.1
    have B0 := Lib.hid hb0
    have hsp := Lib.hid (fun v W h => specLabelsText_any v xs W h)
    have him := Lib.hid (fun v W h => implLabelsText_any v xs W h)
    generalize lbText xs = S at *
    have hcp := Lib.hid (fun v W h => toLabelS_any v xs W h)
    have heq := Lib.hid (fun v u W h h' => eqLabelS_any v u xs xs W h h')
    rw [decide_eq_true rfl] at heq
    clear hx hil hb0 HZ
    skip
    all_goals
      go_wp2_with fail
      refine (hcp.out _ _ Hil.out).mono ?_
      rintro e w1 ⟨v1, rfl, hown1, hb1⟩
      have H1 := Lib.hid (LL.of_own hown1 rfl Hrng.out (by omega))
      have Hil1 := Lib.hid ((Hil.out.below hb1).up hb1.size)
      have B1 := Lib.hid (B0.out.trans (hb1.mono B0.out.size))
      clear hown1 hb1 Hil B0
      go_wp2_with fail
      refine (hsp.out _ _ H1.out).mono ?_
      rintro e w2 ⟨rfl, hb2⟩
      have Hil2 := Lib.hid ((Hil1.out.below hb2).up hb2.size)
      have B2 := Lib.hid (B1.out.trans (hb2.mono B1.out.size))
      clear hb2 Hil1 B1 H1
      go_wp2_with fail
      refine (hcp.out _ _ Hil2.out).mono ?_
      rintro e w3 ⟨v3, rfl, hown3, hb3⟩
      have H3 := Lib.hid (LL.of_own hown3 rfl Hrng.out (by omega))
      have Hil3 := Lib.hid ((Hil2.out.below hb3).up hb3.size)
      have B3 := Lib.hid (B2.out.trans (hb3.mono B2.out.size))
      clear hown3 hb3 Hil2 B2
      go_wp2_with fail
      refine (him.out _ _ H3.out).mono ?_
      rintro e w4 ⟨rfl, hb4⟩
      have Hil4 := Lib.hid ((Hil3.out.below hb4).up hb4.size)
      have H4 := Lib.hid ((H3.out.below hb4).up hb4.size)
      have B4 := Lib.hid (B3.out.trans (hb4.mono B3.out.size))
      clear hb4 Hil3 B3 H3
      go_wp2_with fail
      refine (hcp.out _ _ Hil4.out).mono ?_
      rintro e w5 ⟨v5, rfl, hown5, hb5⟩
      have H5 := Lib.hid (LL.of_own hown5 rfl Hrng.out (by omega))
      have H45 := Lib.hid ((H4.out.below hb5).up hb5.size)
      have B5 := Lib.hid (B4.out.trans (hb5.mono B4.out.size))
      clear hown5 hb5 Hil4 B4 H4
      go_wp2_with fail
      refine (heq.out _ _ _ H45.out H5.out).mono ?_
      rintro e w6 ⟨rfl, hb6⟩
      have B6 := Lib.hid (B5.out.trans (hb6.mono B5.out.size))
      clear hb6 B5
      go_wp2_with fail
      go_ret
      exact ⟨rfl, B6.out⟩
end Go.Proofs.Ytbgogpfhdfgjeab
