/- Walks: the sizes of labels; the law FnExactLabelsOk. -/
import Derived.Test.YtbgogpfhdfgjeabNd
set_option linter.unusedVariables false
set_option linter.unusedSimpArgs false
namespace Go.Proofs.Ytbgogpfhdfgjeab
open Go.RowKit

set_option maxRecDepth 100000 in
set_option maxHeartbeats 1000000 in
theorem szLabel_any (a b : ByteArray) (l : Nat) (w : World) (ha : a.size ≤ maxLen) (hb : b.size ≤ maxLen) (hl : l ≤ 1048576) :
    Calls Try.prog 26 #[.agg #[.string a, .string b], .int .i64 (l : Int)] w fun e w' => (∃ r : Int, e = .returned (.int .i64 r) ∧ (r = -1 ∨ ∃ m : Nat, r = m ∧ m ≤ l)) ∧ Below w.heap.size w w' := by
  unfold maxLen at ha hb
  have e1 : wrap64 ((l : Int) - (a.size : Int)) = (l : Int) - (a.size : Int) := by unfold wrap64; omega
  by_cases h1 : (l : Int) - (a.size : Int) < 0
  · go_enter Try.func26, Try.ntmps26
    go_wp2_with fail
    go_ret
    exact ⟨⟨-1, rfl, .inl rfl⟩, by repeat (first | exact Below.refl _ _ | refine Below.alloc ?_ (by simp; try omega) _ | refine Below.setCell ?_ (by simp; try omega) _)⟩
  · have e2 : wrap64 ((l : Int) - (a.size : Int) - (b.size : Int)) = (l : Int) - (a.size : Int) - (b.size : Int) := by unfold wrap64; omega
    by_cases h2 : (l : Int) - (a.size : Int) - (b.size : Int) < 0
    · go_enter Try.func26, Try.ntmps26
      go_wp2_with fail
      go_ret
      exact ⟨⟨-1, rfl, .inl rfl⟩, by repeat (first | exact Below.refl _ _ | refine Below.alloc ?_ (by simp; try omega) _ | refine Below.setCell ?_ (by simp; try omega) _)⟩
    · go_enter Try.func26, Try.ntmps26
      go_wp2_with fail
      go_ret
      exact ⟨⟨_, rfl, .inr ⟨((l : Int) - (a.size : Int) - (b.size : Int)).toNat, by omega, by omega⟩⟩, by repeat (first | exact Below.refl _ _ | refine Below.alloc ?_ (by simp; try omega) _ | refine Below.setCell ?_ (by simp; try omega) _)⟩

set_option maxRecDepth 100000 in
set_option maxHeartbeats 1000000 in
theorem szLabelS_any (A : Option Addr) (n c l : Nat) (w : World) (hn : n ≤ maxLen) (hl : l ≤ 1048576) (hx : n ≤ 1048576 → ∃ xs : List (ByteArray × ByteArray), xs.length = n ∧ LL w w.heap.size (.slice A n c) xs) :
    Calls Try.prog 10 #[.slice A n c, .int .i64 (l : Int)] w fun e w' => (∃ r : Int, e = .returned (.int .i64 r) ∧ (r = -1 ∨ ∃ m : Nat, r = m ∧ m ≤ l ∧ n ≤ 1048576)) ∧ Below w.heap.size w w' := by
  unfold maxLen at hn
  have e1 : wrap64 ((l : Int) - (n : Int)) = (l : Int) - (n : Int) := by unfold wrap64; omega
  by_cases h1 : (l : Int) - (n : Int) < 0
  · clear hx
    go_enter Try.func10, Try.ntmps10
    go_wp2_with fail
    go_ret
    exact ⟨⟨-1, rfl, .inl rfl⟩, Below.refl _ _⟩
  · obtain ⟨xs, rfl, hil⟩ := hx (by omega)
    clear hx
    obtain ⟨hr, hlen, A', c', hA, h3⟩ := hil
    injection hA with hA1 hA2 hA3
    subst hA1
    have Hr := Lib.hid hr
    have HS := Lib.hid (fun a b l W ha hb hl => szLabel_any a b l W ha hb hl)
    clear hr hA3
    go_enter Try.func10, Try.ntmps10
    go_wp2_with fail
    go_loopw [1, 5] (fun q i wr => ∃ k m : Nat, k ≤ xs.length ∧ i = .int .i64 k ∧ q = .int .i64 (m : Int) ∧ m ≤ l ∧ Below w.heap.size w wr) (fun _ i _ => xs.length - (intOf i).toNat)
    case atStart => exact ⟨0, l - xs.length, Nat.zero_le _, rfl, by simp; omega, by omega, Below.refl _ _⟩
    case round =>
      obtain ⟨k, m, hk, rfl, rfl, hm, hb⟩ := hrel
      have hsz := hb.size
      by_cases hlt : k < xs.length
      · rcases h3 with h3 | ⟨b, off, rfl, hbl, hc⟩
        · subst h3; simp at hlt
        have hx0 : wr.cell? ⟨b, off + k * 2, none⟩ = some (.string (xs.getD k (em, em)).1) := (hb.cell (p := ⟨b, off + k * 2, none⟩) hbl).trans (hc k hlt).1
        have hx1 : wr.cell? ⟨b, off + k * 2 + 1, none⟩ = some (.string (xs.getD k (em, em)).2) := (hb.cell (p := ⟨b, off + k * 2 + 1, none⟩) hbl).trans (hc k hlt).2
        have HC := Lib.hid (fun W => HS.out (xs.getD k (em, em)).1 (xs.getD k (em, em)).2 m W (Hr.out k).1 (Hr.out k).2 (by omega))
        generalize (xs.getD k (em, em)).1 = x at *
        generalize (xs.getD k (em, em)).2 = y at *
        clear hc e1
        have HB := Lib.hid hb
        clear hb
        go_wp2_with fail
        refine (HC.out _).mono ?_
        rintro e w2 ⟨⟨r, rfl, hr⟩, hb2⟩
        have hb3 := HB.out.trans (hb2.mono hsz)
        clear hb2 HB hx0 hx1
        rcases hr with rfl | ⟨m', rfl, hm'⟩
        · go_wp2_with fail
          go_ret
          exact ⟨⟨-1, rfl, .inl rfl⟩, hb3⟩
        · go_wp2_with fail
          go_roundw
          case rel => exact ⟨k + 1, m', by omega, by go_num, rfl, by omega, hb3⟩
          case measure => simp [intOf]; omega
      · obtain rfl : k = xs.length := by omega
        go_wp2_with fail
        go_ret
        exact ⟨⟨_, rfl, .inr ⟨m, rfl, hm, hlen⟩⟩, hb⟩

set_option maxRecDepth 100000 in
set_option maxHeartbeats 1000000 in
theorem walkFnExactLabelsOk (A : Option Addr) (n c : Nat) (w : World) (hn : n ≤ maxLen) (hx : n ≤ 1048576 → ∃ xs : List (ByteArray × ByteArray), xs.length = n ∧ LL w w.heap.size (.slice A n c) xs) :
    Calls Try.prog 4 #[.slice A n c] w fun e w' => e = .returned (.bool true) ∧ Below w.heap.size w w' := by
  have HZ := Lib.hid (szLabelS_any A n c 1048576 w hn (by omega) hx)
  go_enter Try.func4, Try.ntmps4
  go_wp2_with fail
  refine HZ.out.mono ?_
  rintro e w0 ⟨⟨r, rfl, hr⟩, hb0⟩
  rcases hr with rfl | ⟨m, rfl, hm, hn2⟩
  · go_wp2_with fail
    go_ret
    exact ⟨rfl, hb0⟩
  · obtain ⟨xs, rfl, hil⟩ := hx hn2
    have Hil := Lib.hid ((hil.below hb0).up hb0.size)
    have Hrng := Lib.hid hil.1
    have B0 := Lib.hid hb0
    have hsp := Lib.hid (fun v W h => specLabelsOk_any v xs W h)
    have him := Lib.hid (fun v W h => implLabelsOk_any v xs W h)
    generalize labOkB xs = S at *
    have hcp := Lib.hid (fun v W h => toLabelS_any v xs W h)
    have heq := Lib.hid (fun v u W h h' => eqLabelS_any v u xs xs W h h')
    rw [decide_eq_true rfl] at heq
    clear hx hil hb0 HZ
    cases S
    all_goals
      go_wp2_with fail
      refine (hcp.out _ _ Hil.out).mono ?_
      rintro e w1 ⟨v1, rfl, hown1, hb1⟩
      have H1 := Lib.hid (LL.of_own hown1 rfl Hrng.out (by omega))
      have Hil1 := Lib.hid ((Hil.out.below hb1).up hb1.size)
      have B1 := Lib.hid (B0.out.trans (hb1.mono B0.out.size))
      clear hown1 hb1 Hil B0
      go_wp2_with fail
      refine (hsp.out _ _ H1.out).mono ?_
      rintro e w2 ⟨rfl, hb2⟩
      have Hil2 := Lib.hid ((Hil1.out.below hb2).up hb2.size)
      have B2 := Lib.hid (B1.out.trans (hb2.mono B1.out.size))
      clear hb2 Hil1 B1 H1
      go_wp2_with fail
      refine (hcp.out _ _ Hil2.out).mono ?_
      rintro e w3 ⟨v3, rfl, hown3, hb3⟩
      have H3 := Lib.hid (LL.of_own hown3 rfl Hrng.out (by omega))
      have Hil3 := Lib.hid ((Hil2.out.below hb3).up hb3.size)
      have B3 := Lib.hid (B2.out.trans (hb3.mono B2.out.size))
      clear hown3 hb3 Hil2 B2
      go_wp2_with fail
      refine (him.out _ _ H3.out).mono ?_
      rintro e w4 ⟨rfl, hb4⟩
      have Hil4 := Lib.hid ((Hil3.out.below hb4).up hb4.size)
      have H4 := Lib.hid ((H3.out.below hb4).up hb4.size)
      have B4 := Lib.hid (B3.out.trans (hb4.mono B3.out.size))
      clear hb4 Hil3 B3 H3
      go_wp2_with fail
      refine (hcp.out _ _ Hil4.out).mono ?_
      rintro e w5 ⟨v5, rfl, hown5, hb5⟩
      have H5 := Lib.hid (LL.of_own hown5 rfl Hrng.out (by omega))
      have H45 := Lib.hid ((H4.out.below hb5).up hb5.size)
      have B5 := Lib.hid (B4.out.trans (hb5.mono B4.out.size))
      clear hown5 hb5 Hil4 B4 H4
      go_wp2_with fail
      refine (heq.out _ _ _ H45.out H5.out).mono ?_
      rintro e w6 ⟨rfl, hb6⟩
      have B6 := Lib.hid (B5.out.trans (hb6.mono B5.out.size))
      clear hb6 B5
      go_wp2_with fail
      go_ret
      exact ⟨rfl, B6.out⟩
end Go.Proofs.Ytbgogpfhdfgjeab
