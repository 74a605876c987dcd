/- Walks: slices of points: the laws' marks. -/
import Derived.Test.YtanoohfhifhhaaaDoorGa
import Derived.Test.YtanoohfhifhhaaaDoorEn
import Derived.Test.YtanoohfhifhhaaaDoorEo
import Derived.Test.YtanoohfhifhhaaaDoorDg
import Derived.Test.YtanoohfhifhhaaaDoorEq
import Derived.Test.YtanoohfhifhhaaaDoorGi
set_option linter.unusedVariables false
set_option linter.unusedSimpArgs false
namespace Go.Proofs.YtanoohfhifhhaaaDoor
open Go.RowKit

def marks2 (K : Int) (n : Nat) : List (Int × Int) := (List.range n).map fun j : Nat => (K + 2 * (j : Int), K + 2 * (j : Int) + 1)
theorem marks2_length (K : Int) (n : Nat) : (marks2 K n).length = n := by simp [marks2]
theorem marks2_getD (K : Int) (n j : Nat) (h : j < n) : (marks2 K n).getD j (0, 0) = (K + 2 * (j : Int), K + 2 * (j : Int) + 1) := by
  simp [marks2, List.getD_eq_getElem?_getD, h]
theorem marks2_rng (K : Int) (n : Nat) (hK : 0 ≤ K) (hK2 : K ≤ 100000000000000) (h : n ≤ 1048576) (j : Nat) : Rng ((marks2 K n).getD j (0, 0)).1 ∧ Rng ((marks2 K n).getD j (0, 0)).2 := by
  by_cases hj : j < n
  · rw [marks2_getD _ _ _ hj]
    unfold Rng
    refine ⟨?_, ?_⟩ <;> (simp only []; omega)
  · rw [List.getD_eq_getElem?_getD, List.getElem?_eq_none (by rw [marks2_length]; omega)]; exact ⟨rng_zero, rng_zero⟩

def MarkPost2 (base : Nat) (v : Value) (n : Nat) (K : Int) (w : World) (e : Ending) (w' : World) : Prop :=
  e = .returned (.int .i64 (K + 2 * (n : Int))) ∧ w'.ownsRow base 41 2 v n (prs (marks2 K n)) ∧ Below base w w' ∧ w.grownBy w' v.ownBlock

set_option maxRecDepth 100000 in
set_option maxHeartbeats 4000000 in
theorem markPointS_any (base : Nat) (v : Value) (K : Int) (xs : List (Int × Int)) (w : World) (hK : 0 ≤ K) (hK2 : K ≤ 100000000000000) (hl : xs.length ≤ 1048576) (h : w.ownsRow base 41 2 v xs.length (prs xs)) :
    Calls Tryd.prog 37 #[v, .int .i64 K] w (MarkPost2 base v xs.length K w) := by
  obtain ⟨n, hn⟩ : ∃ n, n = xs.length := ⟨_, rfl⟩
  rw [← hn] at h hl ⊢
  have Hn := Lib.hid hn
  clear hn
  rcases h.2 with ⟨rfl, h0⟩ | ⟨g, cap, cur, rfl, hb, hg, _⟩
  · subst h0
    go_enter Tryd.func37, Tryd.ntmps37
    go_wp2_with fail
    refine wp_loop_rounds 1 ?_
    rw [rounds_succ]
    go_wp2_with fail
    go_ret
    exact ⟨by simp, World.ownsRow_nil _ _ _ _, Below.refl _ _, World.grownBy.refl _ _⟩
  · clear hg
    go_enter Tryd.func37, Tryd.ntmps37
    go_wp2_with fail
    go_loopw [5, 1] (fun i q wr => ∃ (k : Nat) (l : List (Int × Int)), k ≤ n ∧ i = .int .i64 k ∧ q = .int .i64 (K + 2 * (k : Int)) ∧ l.length = n ∧ (∀ j : Nat, j < k → l.getD j (0, 0) = (K + 2 * (j : Int), K + 2 * (j : Int) + 1)) ∧
      wr.ownsRow base 41 2 (.slice (some ⟨g, 0, none⟩) n cap) n (prs l) ∧ Below base w wr ∧ w.grownBy wr (some g))
      (fun i _ _ => n - (intOf i).toNat)
    case atStart => exact ⟨0, xs, Nat.zero_le _, rfl, by simp, Hn.out.symm, fun j hj => by omega, h, Below.refl _ _, World.grownBy.refl _ _⟩
    case round =>
      clear h
      obtain ⟨k, l, hk, rfl, rfl, hll, hag, hown, hb1, hg1⟩ := hrel
      have Hag := Lib.hid hag
      have Hll := Lib.hid hll
      clear hag hll
      by_cases hlt : k < n
      · have c0 : wr.cell? ⟨g, k * 2, none⟩ = some (.int .i64 (l.getD k (0, 0)).1) := by
          rw [hown.cellAt _ (by omega)]; exact prs_get0 _ _ (by have := Hll.out; omega)
        have c1 : wr.cell? ⟨g, k * 2 + 1, none⟩ = some (.int .i64 (l.getD k (0, 0)).2) := by
          rw [hown.cellAt _ (by omega)]; exact prs_get1 _ _ (by have := Hll.out; omega)
        have f0 : wr.frozen? ⟨g, k * 2, none⟩ = false := hown.frozenAt _
        have f1 : wr.frozen? ⟨g, k * 2 + 1, none⟩ = false := hown.frozenAt _
        generalize (l.getD k (0, 0)).1 = o0 at c0
        generalize (l.getD k (0, 0)).2 = o1 at c1
        have hst0 := hown.stored (k * 2) (.int .i64 (K + 2 * (k : Int)))
        have hst1 := hst0.1.stored (k * 2 + 1) (.int .i64 (K + 2 * (k : Int) + 1))
        have hown2 := hst1.1
        rw [prs_set l k (K + 2 * (k : Int)) (K + 2 * (k : Int) + 1) (by have := Hll.out; omega)] at hown2
        have hb2 := ((hb1.setCell (p := ⟨g, k * 2, none⟩) (by exact hb) (.int .i64 (K + 2 * (k : Int)))).setCell (p := ⟨g, k * 2 + 1, none⟩) (by exact hb) (.int .i64 (K + 2 * (k : Int) + 1)))
        have hg2 := ((hg1.trans hst0.2).trans hst1.2)
        have HO := Lib.hid hown2
        have HB := Lib.hid hb2
        have HG := Lib.hid hg2
        clear hst0 hst1 hown2 hb2 hg2 hb1 hg1 hown
        go_wp2_with fail
        go_roundw
        case rel =>
          have h1 := HO.out
          have h2 := HB.out
          have h3 := HG.out
          have h0 := Hll.out
          clear HO HB HG
          refine ⟨k + 1, l.set k (K + 2 * (k : Int), K + 2 * (k : Int) + 1), by omega, by go_num, by go_num, by simpa using h0, fun j hj => ?_, ?_, ?_, ?_⟩
          case refine_2 => with_reducible exact h1
          case refine_3 => with_reducible exact h2
          case refine_4 => with_reducible exact h3
          rw [getD_set_pr _ _ _ _ (by have := Hll.out; omega)]
          by_cases e : j = k
          · subst e; rw [if_pos rfl]; (try simp only [Prod.mk.injEq]); (repeat' (first | trivial | omega | apply And.intro))
          · rw [if_neg e]; exact Hag.out j (by omega)
        case measure => simp [intOf]; omega
      · obtain rfl : k = n := by omega
        have e : l = marks2 K k := prs_ext (by rw [marks2_length]; exact Hll.out) (fun j hj => by rw [marks2_getD _ _ _ (by have := Hll.out; omega)]; exact Hag.out j (by have := Hll.out; omega))
        subst e
        go_wp2_with fail
        go_ret
        exact ⟨rfl, hown, hb1, hg1⟩

set_option maxRecDepth 100000 in
set_option maxHeartbeats 4000000 in
theorem heldPointS_any (v : Value) (n : Nat) (K : Int) (w : World) (hK : 0 ≤ K) (hK2 : K ≤ 100000000000000) (h : PL w w.heap.size v (marks2 K n)) :
    Calls Tryd.prog 42 #[v, .int .i64 K] w fun e w' => e = .returned (.int .i64 (K + 2 * (n : Int))) ∧ w = w' := by
  obtain ⟨hr, hlen, A, c, rfl, h3⟩ := h
  rw [marks2_length] at hlen
  have hc0 : marks2 K n = [] ∨ ∃ b off, A = some ⟨b, off, none⟩ ∧ ∀ j, j < n → w.cell? ⟨b, off + j * 2, none⟩ = some (.int .i64 (K + 2 * (j : Int))) ∧ w.cell? ⟨b, off + j * 2 + 1, none⟩ = some (.int .i64 (K + 2 * (j : Int) + 1)) := by
    rcases h3 with h3 | ⟨b, off, rfl, hbl, hc⟩
    · exact .inl h3
    · exact .inr ⟨b, off, rfl, fun j hj => by have := hc j (by rw [marks2_length]; exact hj); rw [marks2_getD _ _ _ hj] at this; exact this⟩
  rw [marks2_length]
  clear h3 hr
  go_enter Tryd.func42, Tryd.ntmps42
  go_wp2_with fail
  go_loop [5, 1] (fun i q => ∃ k : Nat, k ≤ n ∧ i = .int .i64 k ∧ q = .int .i64 (K + 2 * (k : Int))) (fun i _ => n - (intOf i).toNat)
  case atStart => exact ⟨0, Nat.zero_le _, rfl, by simp⟩
  case round =>
    obtain ⟨k, hk, rfl, rfl⟩ := hrel
    by_cases hlt : k < n
    · rcases hc0 with hc0 | ⟨b, off, rfl, hc⟩
      · have := marks2_length K n; rw [hc0] at this; simp at this; omega
      obtain ⟨hx0, hx1⟩ := hc k hlt
      clear hc
      have e1 : wrap64 ((K + 2 * (k : Int)) + 1) = K + 2 * (k : Int) + 1 := by unfold wrap64; omega
      have e2 : wrap64 ((K + 2 * (k : Int) + 1) + 1) = K + 2 * (k : Int) + 2 := by unfold wrap64; omega
      go_wp2_with fail
      go_round
      case rel => exact ⟨k + 1, by omega, by go_num, by go_num⟩
      case measure => simp [intOf]; omega
    · obtain rfl : k = n := by omega
      clear hc0
      go_wp2_with fail
      go_ret
      exact ⟨rfl, rfl⟩
end Go.Proofs.YtanoohfhifhhaaaDoor

/- Walks: the law FnExactChunks. -/
set_option linter.unusedVariables false
set_option linter.unusedSimpArgs false
namespace Go.Proofs.YtanoohfhifhhaaaDoor
open Go.RowKit

theorem chsM_ok (xs : List (Int × Int)) (z : Int) : (∀ j, Rng ((chsM xs z).getD j (0, emB)).1 ∧ ((chsM xs z).getD j (0, emB)).2.size ≤ maxLen) ∧ (chsM xs z).length ≤ 1048576 := by
  have h0 : ∀ j, Rng (([] : List (Int × ByteArray)).getD j (0, emB)).1 ∧ (([] : List (Int × ByteArray)).getD j (0, emB)).2.size ≤ maxLen := fun j => ⟨by simpa using rng_zero, by simp; exact Nat.zero_le _⟩
  cases hb : chsB xs z with
  | false =>
    have e : chsM xs z = [] := by unfold chsM; rw [hb]; rfl
    rw [e]; exact ⟨h0, Nat.zero_le _⟩
  | true =>
    have e : chsM xs z = chkT xs z.toNat (nCh xs.length z.toNat) := by unfold chsM; rw [hb]; rfl
    rw [e]
    unfold chsB at hb
    rw [Bool.and_eq_true] at hb
    have hz : 1 ≤ z ∧ z ≤ 120 := by have := hb.2; unfold vIn at this; simpa using this
    have hl := ptsOk_len hb.1
    have hn := nCh_le (n := xs.length) (s := z.toNat) (by omega)
    refine ⟨fun j => ?_, by rw [chkT_len]; omega⟩
    by_cases hj : j < nCh xs.length z.toNat
    · have e2 : (chkT xs z.toNat (nCh xs.length z.toNat)).getD j (0, emB) = bkOf (chk xs z.toNat (j * z.toNat)) := by
        simp [chkT, List.getD_eq_getElem?_getD, hj]
      rw [e2]
      have h1 := bkD_size (chk xs z.toNat (j * z.toNat))
      have h2 := chk_len xs z.toNat (j * z.toNat)
      refine ⟨?_, by show (bkD _).size ≤ maxLen; unfold maxLen; omega⟩
      show Rng (bkN (chk xs z.toNat (j * z.toNat)))
      unfold bkN
      split
      · exact ⟨by omega, by omega⟩
      · exact rng_zero
    · rw [List.getD_eq_getElem?_getD, List.getElem?_eq_none (by rw [chkT_len]; omega)]; exact ⟨rng_zero, Nat.zero_le _⟩

set_option maxRecDepth 100000 in
set_option maxHeartbeats 4000000 in
theorem walkFnExactChunks (A : Option Addr) (n c : Nat) (z : Int) (w : World) (hT : Tab w) (hn : n ≤ maxLen) (hx : n ≤ 1048576 → ∃ xs : List (Int × Int), xs.length = n ∧ PL w w.heap.size (.slice A n c) xs) (r_z : Rng z) :
    Calls Tryd.prog 8 #[.slice A n c, .int .i64 z] w fun e w' => e = .returned (.bool true) ∧ Below w.heap.size w w' := by
  unfold maxLen at hn
  by_cases hbig : (1048576 : Int) < n
  · clear hx
    have e1 : wrap64 (1048576 - (n : Int)) = 1048576 - (n : Int) := by unfold wrap64; omega
    go_enter Tryd.func8, Tryd.ntmps8
    go_wp2
    go_ret
    exact ⟨rfl, Below.refl _ _⟩
  · obtain ⟨xs, rfl, hil⟩ := hx (by omega)
    have Hil := Lib.hid hil
    have Hrng := Lib.hid hil.1
    have hsp := Lib.hid (fun v W h hc => specChunks_any v xs z W h hc)
    have HTab := Lib.hid hT
    have him := Lib.hid (fun v W h hc hT => implChunks_any v xs z W h hc hT)
    unfold BOutF at hsp him
    obtain ⟨yr, hyl⟩ := chsM_ok xs z
    have YR := Lib.hid yr
    have hcp := Lib.hid (fun v W h => toPointS_any v xs W h)
    have heqA := Lib.hid (fun v u W h h' => eqPointS_any v u xs xs W h h')
    rw [decide_eq_true rfl] at heqA
    have hmkA := Lib.hid (fun base v W h => markPointS_any base v 1 xs W (by omega) (by omega) (by omega) h)
    clear hx hil yr hT
    generalize (chsM xs z) = ys at *
    have heqR := Lib.hid (fun v u W h h' => eqBlockS_any v u ys ys W h h')
    rw [decide_eq_true rfl] at heqR
    have hmkR : Hid (∀ (base : Nat) (v : Value) (W : World), base ≤ W.heap.size → W.ownsRow base 36 2 v ys.length (bks ys) → Calls Tryd.prog 38 #[v, .int .i64 1] W (fun e w' => e = .returned (.int .i64 (1 + 2 * (ys.length : Int))) ∧ w'.ownsRow base 36 2 v ys.length (bks (mkBs 1 ys.length)) ∧ Below base W w' ∧ W.grownBy w' v.ownBlock)) := Lib.hid (fun base v W hb h => markBlockS_full base v 1 ys W (by omega) (by omega) hyl hb h)
    have hhdR : Hid (∀ (v : Value) (W : World), BL W W.heap.size v (mkBs 1 ys.length) → Calls Tryd.prog 39 #[v, .int .i64 1] W (fun e w' => e = .returned (.int .i64 (1 + 2 * (ys.length : Int))) ∧ Below W.heap.size W w')) := Lib.hid (fun v W h => heldBlockS_any v 1 ys.length W (by omega) (by omega) hyl h)
    have hmr := Lib.hid (mkBs_rng 1 ys.length (by omega) hyl)
    have e1 : wrap64 (1048576 - (xs.length : Int)) = 1048576 - (xs.length : Int) := by unfold wrap64; omega
    generalize chsB xs z = fb at *
    cases fb
    all_goals
      go_enter Tryd.func8, Tryd.ntmps8
      go_wp2_with (first | (go_at_call 33; go_in) | fail)
      refine (hcp.out _ _ Hil.out).mono ?_
      rintro e w1 ⟨v1, rfl, hown1, hb1⟩
      have H1 := Lib.hid (PL.of_own hown1 rfl Hrng.out (by omega))
      have Hil1 := Lib.hid ((Hil.out.below hb1).up hb1.size)
      have B1 := Lib.hid hb1
      have K1 := Lib.hid (CapOk.of_own hown1)
      clear hown1 hb1 Hil e1
      go_wp2_with fail
      refine (hsp.out _ _ H1.out K1.out).mono ?_
      rintro e w2 ⟨v2, rfl, hown2, hb2⟩
      have R2 := Lib.hid (BL.of_own hown2 rfl YR.out hyl)
      have Hil2 := Lib.hid ((Hil1.out.below hb2).up hb2.size)
      have B2 := Lib.hid (B1.out.trans (hb2.mono B1.out.size))
      clear hown2 hb2 Hil1 B1 H1
      go_wp2_with fail
      refine (hcp.out _ _ Hil2.out).mono ?_
      rintro e w3 ⟨v3, rfl, hown3, hb3⟩
      have S0 := B2.out.size
      have S3 := hb3.size
      have O3 := Lib.hid hown3
      have Q3 := Lib.hid hown3.lt
      have R3 := Lib.hid (R2.out.below hb3)
      have Hil3 := Lib.hid (Hil2.out.below hb3)
      have B3 := Lib.hid (B2.out.trans (hb3.mono S0))
      clear hown3 hb3 Hil2 B2 R2
      go_wp2_with fail
      refine (him.out _ _ (PL.of_own O3.out rfl Hrng.out (by omega)) (CapOk.of_own O3.out) (HTab.out.below B3.out)).mono ?_
      rintro e w4 ⟨v4, rfl, hown4, hb4⟩
      have S4 := hb4.size
      have O4 := Lib.hid hown4
      have P4 := Lib.hid (u_own_below O3.out hb4)
      have R4 := Lib.hid (R3.out.below (hb4.mono S3))
      have Hil4 := Lib.hid (Hil3.out.below (hb4.mono S3))
      have B4 := Lib.hid (B3.out.trans (hb4.mono (by omega)))
      clear hown4 hb4 Hil3 B3 R3 O3
      go_wp2_with fail
      refine (heqR.out _ _ _ (BL.of_own O4.out rfl YR.out hyl) (R4.out.up (by omega))).mono ?_
      rintro e w5 ⟨rfl, hb5⟩
      have S5 := hb5.size
      have O5 := Lib.hid (u_own_below O4.out hb5)
      have P5 := Lib.hid (u_own_below P4.out hb5)
      have R5 := Lib.hid (R4.out.below (hb5.mono (by omega)))
      have Hil5 := Lib.hid (Hil4.out.below (hb5.mono (by omega)))
      have B5 := Lib.hid (B4.out.trans (hb5.mono (by omega)))
      clear hb5 Hil4 B4 R4 O4 P4
      go_wp2_with fail
      refine (hcp.out _ _ (Hil5.out.up (by omega))).mono ?_
      rintro e w6 ⟨v6, rfl, hown6, hb6⟩
      have S6 := hb6.size
      have H6 := Lib.hid (PL.of_own hown6 rfl Hrng.out (by omega))
      have O6 := Lib.hid (u_own_below O5.out hb6)
      have P6 := Lib.hid (u_own_below P5.out hb6)
      have R6' := Lib.hid (R5.out.below (hb6.mono (by omega)))
      have Hil6 := Lib.hid (Hil5.out.below (hb6.mono (by omega)))
      have B6 := Lib.hid (B5.out.trans (hb6.mono (by omega)))
      clear hb6 hown6 Hil5 B5 R5 O5 P5
      go_wp2_with fail
      refine (heqA.out _ _ _ (PL.of_own P6.out rfl Hrng.out (by omega)) H6.out).mono ?_
      rintro e w7 ⟨rfl, hb7⟩
      have S7 := hb7.size
      have O7 := Lib.hid (u_own_below O6.out hb7)
      have P7 := Lib.hid (u_own_below P6.out hb7)
      have R7 := Lib.hid (R6'.out.below (hb7.mono (by omega)))
      have Hil7 := Lib.hid (Hil6.out.below (hb7.mono (by omega)))
      have B7 := Lib.hid (B6.out.trans (hb7.mono (by omega)))
      clear hb7 Hil6 B6 R6' O6 P6 H6
      go_wp2_with fail
      refine (hmkA.out _ _ _ P7.out).mono ?_
      rintro e w8 ⟨rfl, hown8, hb8, hg8⟩
      have S8 := hg8.size
      have hne : v4.ownBlock = none ∨ v4.ownBlock ≠ v3.ownBlock := by
        cases h4 : v4.ownBlock with
        | none => exact .inl rfl
        | some k4 =>
          right
          intro h3
          have q4 := (O7.out.lt k4 h4).1
          have q3 := (Q3.out k4 h3.symm).2
          omega
      have O8 := Lib.hid (O7.out.kept hg8 hne)
      have R8 := Lib.hid (R7.out.below hb8)
      have Hil8 := Lib.hid (Hil7.out.below hb8)
      have B8 := Lib.hid (B7.out.trans (hb8.mono (by omega)))
      clear hown8 hb8 hg8 hne Hil7 B7 R7 O7 P7 Q3
      go_wp2_with fail
      refine (heqR.out _ _ _ (BL.of_own O8.out rfl YR.out hyl) (R8.out.up (by omega))).mono ?_
      rintro e w9 ⟨rfl, hb9⟩
      have S9 := hb9.size
      have O9 := Lib.hid (u_own_below O8.out hb9)
      have R9 := Lib.hid (R8.out.below (hb9.mono (by omega)))
      have Hil9 := Lib.hid (Hil8.out.below (hb9.mono (by omega)))
      have B9 := Lib.hid (B8.out.trans (hb9.mono (by omega)))
      clear hb9 Hil8 B8 R8 O8
      go_wp2_with fail
      refine (hmkR.out _ _ _ (by omega) O9.out).mono ?_
      rintro e w10 ⟨rfl, hown10, hb10, hg10⟩
      have S10 := hg10.size
      have G10 := Lib.hid (BL.of_own hown10 (mkBs_len _ _).symm hmr.out (by rw [mkBs_len]; exact hyl))
      have R10 := Lib.hid (R9.out.below (hb10.mono (by omega)))
      have Hil10 := Lib.hid (Hil9.out.below (hb10.mono (by omega)))
      have B10 := Lib.hid (B9.out.trans (hb10.mono (by omega)))
      clear hown10 hb10 hg10 Hil9 B9 R9 O9
      go_wp2_with fail
      refine (hhdR.out _ _ G10.out).mono ?_
      rintro e wh ⟨rfl, hbh⟩
      have SH := hbh.size
      have GH := Lib.hid ((G10.out.below hbh).up hbh.size)
      have RH := Lib.hid (R10.out.below (hbh.mono (by omega)))
      have HilH := Lib.hid (Hil10.out.below (hbh.mono (by omega)))
      have BH := Lib.hid (B10.out.trans (hbh.mono (by omega)))
      clear hbh Hil10 B10 R10 G10
      go_wp2_with fail
      refine (hcp.out _ _ (HilH.out.up (by omega))).mono ?_
      rintro e w11 ⟨v11, rfl, hown11, hb11⟩
      have S11 := hb11.size
      have H11 := Lib.hid (PL.of_own hown11 rfl Hrng.out (by omega))
      have G11 := Lib.hid ((GH.out.below hb11).up hb11.size)
      have R11 := Lib.hid (RH.out.below (hb11.mono (by omega)))
      have B11 := Lib.hid (BH.out.trans (hb11.mono (by omega)))
      have K11 := Lib.hid (CapOk.of_own hown11)
      clear hown11 hb11 HilH BH RH GH
      go_wp2_with fail
      refine (him.out _ _ H11.out K11.out (HTab.out.below B11.out)).mono ?_
      rintro e w12 ⟨v12, rfl, hown12, hb12⟩
      have S12 := hb12.size
      have J12 := Lib.hid (BL.of_own hown12 rfl YR.out hyl)
      have G12 := Lib.hid ((G11.out.below hb12).up hb12.size)
      have R12 := Lib.hid (R11.out.below (hb12.mono (by omega)))
      have B12 := Lib.hid (B11.out.trans (hb12.mono (by omega)))
      clear hown12 hb12 B11 R11 G11 H11
      go_wp2_with fail
      refine (heqR.out _ _ _ J12.out (R12.out.up (by omega))).mono ?_
      rintro e w13 ⟨rfl, hb13⟩
      have G13 := Lib.hid ((G12.out.below hb13).up hb13.size)
      have B13 := Lib.hid (B12.out.trans (hb13.mono (by omega)))
      clear hb13 B12 R12 G12 J12
      go_wp2_with fail
      refine (hhdR.out _ _ G13.out).mono ?_
      rintro e w14 ⟨rfl, hb14⟩
      go_wp2_with fail
      go_ret
      exact ⟨rfl, B13.out.trans (hb14.mono (by have := B13.out.size; omega))⟩
end Go.Proofs.YtanoohfhifhhaaaDoor

/- Walks: the law FnExactRechunked. -/
set_option linter.unusedVariables false
set_option linter.unusedSimpArgs false
namespace Go.Proofs.YtanoohfhifhhaaaDoor
open Go.RowKit

theorem rchM_ok (bs : List (Int × ByteArray)) (z : Int) : (∀ j, Rng ((rchM bs z).getD j (0, emB)).1 ∧ ((rchM bs z).getD j (0, emB)).2.size ≤ maxLen) ∧ (rchM bs z).length ≤ 1048576 := by
  unfold rchM
  cases uncO bs with
  | none => exact ⟨fun j => ⟨by simpa using rng_zero, by simp; exact Nat.zero_le _⟩, Nat.zero_le _⟩
  | some xs => exact chsM_ok xs z

set_option maxRecDepth 100000 in
set_option maxHeartbeats 4000000 in
theorem walkFnExactRechunked (A : Option Addr) (n c : Nat) (z : Int) (w : World) (hT : Tab w) (hn : n ≤ maxLen) (hx : n ≤ 1048576 → ∃ xs : List (Int × ByteArray), xs.length = n ∧ BL w w.heap.size (.slice A n c) xs) (r_z : Rng z) :
    Calls Tryd.prog 12 #[.slice A n c, .int .i64 z] w fun e w' => e = .returned (.bool true) ∧ Below w.heap.size w w' := by
  by_cases hbig : (1048576 : Int) < n
  · clear hx
    have hsz := Lib.hid (fun W => szBlockS_big A n c W hbig hn)
    unfold maxLen at hn
    go_enter Tryd.func12, Tryd.ntmps12
    go_wp2_with fail
    refine (hsz.out _).mono ?_
    rintro e w1 ⟨rfl, hb1⟩
    have HF := Lib.hid hb1
    clear hb1
    go_wp2_with fail
    go_ret
    exact ⟨rfl, HF.out⟩
  · obtain ⟨xs, rfl, hil⟩ := hx (by omega)
    have Hil := Lib.hid hil
    have Hrng := Lib.hid hil.1
    have HTab := Lib.hid hT
    unfold maxLen at hn
    go_enter Tryd.func12, Tryd.ntmps12
    go_wp2_with fail
    refine (szBlockS_any _ xs w hil).mono ?_
    rintro e w0 ⟨hz, hb0⟩
    have B0 := Lib.hid hb0
    have Hil0 := Lib.hid ((Hil.out.below hb0).up hb0.size)
    clear Hil hb0 hil hx hT
    rcases hz with rfl | ⟨L, rfl, hL0, hsz⟩
    · go_wp2_with fail
      go_ret
      exact ⟨rfl, B0.out⟩
    have e1 : ¬ L < 0 := by omega
    have hsp := Lib.hid (fun v W h => specRechunked_any v xs z W h hsz)
    have him := Lib.hid (fun v W h hT => implRechunked_any v xs z W h hsz hT)
    unfold BOutF at hsp him
    clear hsz hL0
    obtain ⟨yr, hyl⟩ := rchM_ok xs z
    have YR := Lib.hid yr
    have hcp := Lib.hid (fun v W h => toBlockS_any v xs W h)
    have heqA := Lib.hid (fun v u W h h' => eqBlockS_any v u xs xs W h h')
    rw [decide_eq_true rfl] at heqA
    have hmkA : Hid (∀ (base : Nat) (v : Value) (W : World), base ≤ W.heap.size → W.ownsRow base 36 2 v xs.length (bks xs) → Calls Tryd.prog 38 #[v, .int .i64 1] W (MarkPostK base v xs.length 1 W)) := Lib.hid (fun base v W hb h => markBlockS_any base v 1 xs W (by omega) (by omega) (by omega) hb h)
    unfold MarkPostK at hmkA
    clear yr
    generalize (rchM xs z) = ys at *
    have heqR := Lib.hid (fun v u W h h' => eqBlockS_any v u ys ys W h h')
    rw [decide_eq_true rfl] at heqR
    have hmkR : Hid (∀ (base : Nat) (v : Value) (W : World), base ≤ W.heap.size → W.ownsRow base 36 2 v ys.length (bks ys) → Calls Tryd.prog 38 #[v, .int .i64 1] W (fun e w' => e = .returned (.int .i64 (1 + 2 * (ys.length : Int))) ∧ w'.ownsRow base 36 2 v ys.length (bks (mkBs 1 ys.length)) ∧ Below base W w' ∧ W.grownBy w' v.ownBlock)) := Lib.hid (fun base v W hb h => markBlockS_full base v 1 ys W (by omega) (by omega) hyl hb h)
    have hhdR : Hid (∀ (v : Value) (W : World), BL W W.heap.size v (mkBs 1 ys.length) → Calls Tryd.prog 39 #[v, .int .i64 1] W (fun e w' => e = .returned (.int .i64 (1 + 2 * (ys.length : Int))) ∧ Below W.heap.size W w')) := Lib.hid (fun v W h => heldBlockS_any v 1 ys.length W (by omega) (by omega) hyl h)
    have hmr := Lib.hid (mkBs_rng 1 ys.length (by omega) hyl)
    generalize rchB xs z = fb at *
    cases fb
    all_goals
      go_wp2_with fail
      refine (hcp.out _ _ Hil0.out).mono ?_
      rintro e w1 ⟨v1, rfl, hown1, hb1⟩
      have H1 := Lib.hid (BL.of_own hown1 rfl Hrng.out (by omega))
      have Hil1 := Lib.hid ((Hil0.out.below hb1).up hb1.size)
      have B1 := Lib.hid (B0.out.trans (hb1.mono B0.out.size))
      clear hown1 hb1 Hil0 B0 e1
      go_wp2_with fail
      refine (hsp.out _ _ H1.out).mono ?_
      rintro e w2 ⟨v2, rfl, hown2, hb2⟩
      have R2 := Lib.hid (BL.of_own hown2 rfl YR.out hyl)
      have Hil2 := Lib.hid ((Hil1.out.below hb2).up hb2.size)
      have B2 := Lib.hid (B1.out.trans (hb2.mono B1.out.size))
      clear hown2 hb2 Hil1 B1 H1
      go_wp2_with fail
      refine (hcp.out _ _ Hil2.out).mono ?_
      rintro e w3 ⟨v3, rfl, hown3, hb3⟩
      have S0 := B2.out.size
      have S3 := hb3.size
      have O3 := Lib.hid hown3
      have Q3 := Lib.hid hown3.lt
      have R3 := Lib.hid (R2.out.below hb3)
      have Hil3 := Lib.hid (Hil2.out.below hb3)
      have B3 := Lib.hid (B2.out.trans (hb3.mono S0))
      clear hown3 hb3 Hil2 B2 R2
      go_wp2_with fail
      refine (him.out _ _ (BL.of_own O3.out rfl Hrng.out (by omega)) (HTab.out.below B3.out)).mono ?_
      rintro e w4 ⟨v4, rfl, hown4, hb4⟩
      have S4 := hb4.size
      have O4 := Lib.hid hown4
      have P4 := Lib.hid (u_own_below O3.out hb4)
      have R4 := Lib.hid (R3.out.below (hb4.mono S3))
      have Hil4 := Lib.hid (Hil3.out.below (hb4.mono S3))
      have B4 := Lib.hid (B3.out.trans (hb4.mono (by omega)))
      clear hown4 hb4 Hil3 B3 R3 O3
      go_wp2_with fail
      refine (heqR.out _ _ _ (BL.of_own O4.out rfl YR.out hyl) (R4.out.up (by omega))).mono ?_
      rintro e w5 ⟨rfl, hb5⟩
      have S5 := hb5.size
      have O5 := Lib.hid (u_own_below O4.out hb5)
      have P5 := Lib.hid (u_own_below P4.out hb5)
      have R5 := Lib.hid (R4.out.below (hb5.mono (by omega)))
      have Hil5 := Lib.hid (Hil4.out.below (hb5.mono (by omega)))
      have B5 := Lib.hid (B4.out.trans (hb5.mono (by omega)))
      clear hb5 Hil4 B4 R4 O4 P4
      go_wp2_with fail
      refine (hcp.out _ _ (Hil5.out.up (by omega))).mono ?_
      rintro e w6 ⟨v6, rfl, hown6, hb6⟩
      have S6 := hb6.size
      have H6 := Lib.hid (BL.of_own hown6 rfl Hrng.out (by omega))
      have O6 := Lib.hid (u_own_below O5.out hb6)
      have P6 := Lib.hid (u_own_below P5.out hb6)
      have R6' := Lib.hid (R5.out.below (hb6.mono (by omega)))
      have Hil6 := Lib.hid (Hil5.out.below (hb6.mono (by omega)))
      have B6 := Lib.hid (B5.out.trans (hb6.mono (by omega)))
      clear hb6 hown6 Hil5 B5 R5 O5 P5
      go_wp2_with fail
      refine (heqA.out _ _ _ (BL.of_own P6.out rfl Hrng.out (by omega)) H6.out).mono ?_
      rintro e w7 ⟨rfl, hb7⟩
      have S7 := hb7.size
      have O7 := Lib.hid (u_own_below O6.out hb7)
      have P7 := Lib.hid (u_own_below P6.out hb7)
      have R7 := Lib.hid (R6'.out.below (hb7.mono (by omega)))
      have Hil7 := Lib.hid (Hil6.out.below (hb7.mono (by omega)))
      have B7 := Lib.hid (B6.out.trans (hb7.mono (by omega)))
      clear hb7 Hil6 B6 R6' O6 P6 H6
      go_wp2_with fail
      refine (hmkA.out _ _ _ (by omega) P7.out).mono ?_
      rintro e w8 ⟨rfl, hb8, hg8⟩
      have S8 := hg8.size
      have hne : v4.ownBlock = none ∨ v4.ownBlock ≠ v3.ownBlock := by
        cases h4 : v4.ownBlock with
        | none => exact .inl rfl
        | some k4 =>
          right
          intro h3
          have q4 := (O7.out.lt k4 h4).1
          have q3 := (Q3.out k4 h3.symm).2
          omega
      have O8 := Lib.hid (O7.out.kept hg8 hne)
      have R8 := Lib.hid (R7.out.below hb8)
      have Hil8 := Lib.hid (Hil7.out.below hb8)
      have B8 := Lib.hid (B7.out.trans (hb8.mono (by omega)))
      clear hb8 hg8 hne Hil7 B7 R7 O7 P7 Q3
      go_wp2_with fail
      refine (heqR.out _ _ _ (BL.of_own O8.out rfl YR.out hyl) (R8.out.up (by omega))).mono ?_
      rintro e w9 ⟨rfl, hb9⟩
      have S9 := hb9.size
      have O9 := Lib.hid (u_own_below O8.out hb9)
      have R9 := Lib.hid (R8.out.below (hb9.mono (by omega)))
      have Hil9 := Lib.hid (Hil8.out.below (hb9.mono (by omega)))
      have B9 := Lib.hid (B8.out.trans (hb9.mono (by omega)))
      clear hb9 Hil8 B8 R8 O8
      go_wp2_with fail
      refine (hmkR.out _ _ _ (by omega) O9.out).mono ?_
      rintro e w10 ⟨rfl, hown10, hb10, hg10⟩
      have S10 := hg10.size
      have G10 := Lib.hid (BL.of_own hown10 (mkBs_len _ _).symm hmr.out (by rw [mkBs_len]; exact hyl))
      have R10 := Lib.hid (R9.out.below (hb10.mono (by omega)))
      have Hil10 := Lib.hid (Hil9.out.below (hb10.mono (by omega)))
      have B10 := Lib.hid (B9.out.trans (hb10.mono (by omega)))
      clear hown10 hb10 hg10 Hil9 B9 R9 O9
      go_wp2_with fail
      refine (hhdR.out _ _ G10.out).mono ?_
      rintro e wh ⟨rfl, hbh⟩
      have SH := hbh.size
      have GH := Lib.hid ((G10.out.below hbh).up hbh.size)
      have RH := Lib.hid (R10.out.below (hbh.mono (by omega)))
      have HilH := Lib.hid (Hil10.out.below (hbh.mono (by omega)))
      have BH := Lib.hid (B10.out.trans (hbh.mono (by omega)))
      clear hbh Hil10 B10 R10 G10
      go_wp2_with fail
      refine (hcp.out _ _ (HilH.out.up (by omega))).mono ?_
      rintro e w11 ⟨v11, rfl, hown11, hb11⟩
      have S11 := hb11.size
      have H11 := Lib.hid (BL.of_own hown11 rfl Hrng.out (by omega))
      have G11 := Lib.hid ((GH.out.below hb11).up hb11.size)
      have R11 := Lib.hid (RH.out.below (hb11.mono (by omega)))
      have B11 := Lib.hid (BH.out.trans (hb11.mono (by omega)))
      clear hown11 hb11 HilH BH RH GH
      go_wp2_with fail
      refine (him.out _ _ H11.out (HTab.out.below B11.out)).mono ?_
      rintro e w12 ⟨v12, rfl, hown12, hb12⟩
      have S12 := hb12.size
      have J12 := Lib.hid (BL.of_own hown12 rfl YR.out hyl)
      have G12 := Lib.hid ((G11.out.below hb12).up hb12.size)
      have R12 := Lib.hid (R11.out.below (hb12.mono (by omega)))
      have B12 := Lib.hid (B11.out.trans (hb12.mono (by omega)))
      clear hown12 hb12 B11 R11 G11 H11
      go_wp2_with fail
      refine (heqR.out _ _ _ J12.out (R12.out.up (by omega))).mono ?_
      rintro e w13 ⟨rfl, hb13⟩
      have G13 := Lib.hid ((G12.out.below hb13).up hb13.size)
      have B13 := Lib.hid (B12.out.trans (hb13.mono (by omega)))
      clear hb13 B12 R12 G12 J12
      go_wp2_with fail
      refine (hhdR.out _ _ G13.out).mono ?_
      rintro e w14 ⟨rfl, hb14⟩
      go_wp2_with fail
      go_ret
      exact ⟨rfl, B13.out.trans (hb14.mono (by have := B13.out.size; omega))⟩
end Go.Proofs.YtanoohfhifhhaaaDoor

/- Walks: the law FnExactDropChunks. -/
set_option linter.unusedVariables false
set_option linter.unusedSimpArgs false
namespace Go.Proofs.YtanoohfhifhhaaaDoor
open Go.RowKit

theorem dropM_ok (bs : List (Int × ByteArray)) (t : Int) (h : ∀ j, Rng (bs.getD j (0, emB)).1 ∧ (bs.getD j (0, emB)).2.size ≤ maxLen) (hl : bs.length ≤ 1048576) : (∀ j, Rng ((dropM bs t).getD j (0, emB)).1 ∧ ((dropM bs t).getD j (0, emB)).2.size ≤ maxLen) ∧ (dropM bs t).length ≤ 1048576 := by
  have hl2 := drP_len bs t (List.range (spN bs))
  rw [List.length_range] at hl2
  have hN : spN bs ≤ bs.length := by unfold spN; split <;> omega
  refine ⟨fun j => ?_, by unfold dropM; omega⟩
  by_cases hj : j < (dropM bs t).length
  · have e : (dropM bs t).getD j (0, emB) ∈ dropM bs t := by
      rw [List.getD_eq_getElem?_getD, List.getElem?_eq_getElem hj]; exact List.getElem_mem hj
    obtain ⟨i, _, he⟩ := List.mem_map.1 (show (dropM bs t).getD j (0, emB) ∈ ((List.range (spN bs)).filter (drB bs t)).map (fun i => bs.getD i (0, emB)) from e)
    rw [← he]; exact h i
  · rw [List.getD_eq_getElem?_getD, List.getElem?_eq_none (by omega)]; exact ⟨rng_zero, Nat.zero_le _⟩

set_option maxRecDepth 100000 in
set_option maxHeartbeats 4000000 in
theorem walkFnExactDropChunks (A : Option Addr) (n c : Nat) (z : Int) (w : World) (hT : Tab w) (hn : n ≤ maxLen) (hx : n ≤ 1048576 → ∃ xs : List (Int × ByteArray), xs.length = n ∧ BL w w.heap.size (.slice A n c) xs) (r_z : Rng z) :
    Calls Tryd.prog 11 #[.slice A n c, .int .i64 z] w fun e w' => e = .returned (.bool true) ∧ Below w.heap.size w w' := by
  by_cases hbig : (1048576 : Int) < n
  · clear hx
    have hsz := Lib.hid (fun W => szBlockS_big A n c W hbig hn)
    unfold maxLen at hn
    go_enter Tryd.func11, Tryd.ntmps11
    go_wp2_with fail
    refine (hsz.out _).mono ?_
    rintro e w1 ⟨rfl, hb1⟩
    have HF := Lib.hid hb1
    clear hb1
    go_wp2_with fail
    go_ret
    exact ⟨rfl, HF.out⟩
  · obtain ⟨xs, rfl, hil⟩ := hx (by omega)
    have Hil := Lib.hid hil
    have Hrng := Lib.hid hil.1
    have HTab := Lib.hid hT
    unfold maxLen at hn
    go_enter Tryd.func11, Tryd.ntmps11
    go_wp2_with fail
    refine (szBlockS_any _ xs w hil).mono ?_
    rintro e w0 ⟨hz, hb0⟩
    have B0 := Lib.hid hb0
    have Hil0 := Lib.hid ((Hil.out.below hb0).up hb0.size)
    clear Hil hb0 hil hx hT
    rcases hz with rfl | ⟨L, rfl, hL0, hsz⟩
    · go_wp2_with fail
      go_ret
      exact ⟨rfl, B0.out⟩
    have e1 : ¬ L < 0 := by omega
    have hsp := Lib.hid (fun v W h => specDropChunks_any v xs z W h hsz)
    have him := Lib.hid (fun v W h hT => implDropChunks_any v xs z W h hsz hT)
    unfold BOwnPost at hsp him
    clear hsz hL0
    obtain ⟨yr, hyl⟩ := dropM_ok xs z Hrng.out (by omega)
    have YR := Lib.hid yr
    have hcp := Lib.hid (fun v W h => toBlockS_any v xs W h)
    have heqA := Lib.hid (fun v u W h h' => eqBlockS_any v u xs xs W h h')
    rw [decide_eq_true rfl] at heqA
    have hmkA : Hid (∀ (base : Nat) (v : Value) (W : World), base ≤ W.heap.size → W.ownsRow base 36 2 v xs.length (bks xs) → Calls Tryd.prog 38 #[v, .int .i64 1] W (MarkPostK base v xs.length 1 W)) := Lib.hid (fun base v W hb h => markBlockS_any base v 1 xs W (by omega) (by omega) (by omega) hb h)
    unfold MarkPostK at hmkA
    clear yr
    generalize (dropM xs z) = ys at *
    have heqR := Lib.hid (fun v u W h h' => eqBlockS_any v u ys ys W h h')
    rw [decide_eq_true rfl] at heqR
    have hmkR : Hid (∀ (base : Nat) (v : Value) (W : World), base ≤ W.heap.size → W.ownsRow base 36 2 v ys.length (bks ys) → Calls Tryd.prog 38 #[v, .int .i64 1] W (fun e w' => e = .returned (.int .i64 (1 + 2 * (ys.length : Int))) ∧ w'.ownsRow base 36 2 v ys.length (bks (mkBs 1 ys.length)) ∧ Below base W w' ∧ W.grownBy w' v.ownBlock)) := Lib.hid (fun base v W hb h => markBlockS_full base v 1 ys W (by omega) (by omega) hyl hb h)
    have hhdR : Hid (∀ (v : Value) (W : World), BL W W.heap.size v (mkBs 1 ys.length) → Calls Tryd.prog 39 #[v, .int .i64 1] W (fun e w' => e = .returned (.int .i64 (1 + 2 * (ys.length : Int))) ∧ Below W.heap.size W w')) := Lib.hid (fun v W h => heldBlockS_any v 1 ys.length W (by omega) (by omega) hyl h)
    have hmr := Lib.hid (mkBs_rng 1 ys.length (by omega) hyl)
    all_goals
      go_wp2_with fail
      refine (hcp.out _ _ Hil0.out).mono ?_
      rintro e w1 ⟨v1, rfl, hown1, hb1⟩
      have H1 := Lib.hid (BL.of_own hown1 rfl Hrng.out (by omega))
      have Hil1 := Lib.hid ((Hil0.out.below hb1).up hb1.size)
      have B1 := Lib.hid (B0.out.trans (hb1.mono B0.out.size))
      clear hown1 hb1 Hil0 B0 e1
      go_wp2_with fail
      refine (hsp.out _ _ H1.out).mono ?_
      rintro e w2 ⟨v2, rfl, hown2, hb2⟩
      have R2 := Lib.hid (BL.of_own hown2 rfl YR.out hyl)
      have Hil2 := Lib.hid ((Hil1.out.below hb2).up hb2.size)
      have B2 := Lib.hid (B1.out.trans (hb2.mono B1.out.size))
      clear hown2 hb2 Hil1 B1 H1
      go_wp2_with fail
      refine (hcp.out _ _ Hil2.out).mono ?_
      rintro e w3 ⟨v3, rfl, hown3, hb3⟩
      have S0 := B2.out.size
      have S3 := hb3.size
      have O3 := Lib.hid hown3
      have Q3 := Lib.hid hown3.lt
      have R3 := Lib.hid (R2.out.below hb3)
      have Hil3 := Lib.hid (Hil2.out.below hb3)
      have B3 := Lib.hid (B2.out.trans (hb3.mono S0))
      clear hown3 hb3 Hil2 B2 R2
      go_wp2_with fail
      refine (him.out _ _ (BL.of_own O3.out rfl Hrng.out (by omega)) (HTab.out.below B3.out)).mono ?_
      rintro e w4 ⟨v4, rfl, hown4, hb4⟩
      have S4 := hb4.size
      have O4 := Lib.hid hown4
      have P4 := Lib.hid (u_own_below O3.out hb4)
      have R4 := Lib.hid (R3.out.below (hb4.mono S3))
      have Hil4 := Lib.hid (Hil3.out.below (hb4.mono S3))
      have B4 := Lib.hid (B3.out.trans (hb4.mono (by omega)))
      clear hown4 hb4 Hil3 B3 R3 O3
      go_wp2_with fail
      refine (heqR.out _ _ _ (BL.of_own O4.out rfl YR.out hyl) (R4.out.up (by omega))).mono ?_
      rintro e w5 ⟨rfl, hb5⟩
      have S5 := hb5.size
      have O5 := Lib.hid (u_own_below O4.out hb5)
      have P5 := Lib.hid (u_own_below P4.out hb5)
      have R5 := Lib.hid (R4.out.below (hb5.mono (by omega)))
      have Hil5 := Lib.hid (Hil4.out.below (hb5.mono (by omega)))
      have B5 := Lib.hid (B4.out.trans (hb5.mono (by omega)))
      clear hb5 Hil4 B4 R4 O4 P4
      go_wp2_with fail
      refine (hcp.out _ _ (Hil5.out.up (by omega))).mono ?_
      rintro e w6 ⟨v6, rfl, hown6, hb6⟩
      have S6 := hb6.size
      have H6 := Lib.hid (BL.of_own hown6 rfl Hrng.out (by omega))
      have O6 := Lib.hid (u_own_below O5.out hb6)
      have P6 := Lib.hid (u_own_below P5.out hb6)
      have R6' := Lib.hid (R5.out.below (hb6.mono (by omega)))
      have Hil6 := Lib.hid (Hil5.out.below (hb6.mono (by omega)))
      have B6 := Lib.hid (B5.out.trans (hb6.mono (by omega)))
      clear hb6 hown6 Hil5 B5 R5 O5 P5
      go_wp2_with fail
      refine (heqA.out _ _ _ (BL.of_own P6.out rfl Hrng.out (by omega)) H6.out).mono ?_
      rintro e w7 ⟨rfl, hb7⟩
      have S7 := hb7.size
      have O7 := Lib.hid (u_own_below O6.out hb7)
      have P7 := Lib.hid (u_own_below P6.out hb7)
      have R7 := Lib.hid (R6'.out.below (hb7.mono (by omega)))
      have Hil7 := Lib.hid (Hil6.out.below (hb7.mono (by omega)))
      have B7 := Lib.hid (B6.out.trans (hb7.mono (by omega)))
      clear hb7 Hil6 B6 R6' O6 P6 H6
      go_wp2_with fail
      refine (hmkA.out _ _ _ (by omega) P7.out).mono ?_
      rintro e w8 ⟨rfl, hb8, hg8⟩
      have S8 := hg8.size
      have hne : v4.ownBlock = none ∨ v4.ownBlock ≠ v3.ownBlock := by
        cases h4 : v4.ownBlock with
        | none => exact .inl rfl
        | some k4 =>
          right
          intro h3
          have q4 := (O7.out.lt k4 h4).1
          have q3 := (Q3.out k4 h3.symm).2
          omega
      have O8 := Lib.hid (O7.out.kept hg8 hne)
      have R8 := Lib.hid (R7.out.below hb8)
      have Hil8 := Lib.hid (Hil7.out.below hb8)
      have B8 := Lib.hid (B7.out.trans (hb8.mono (by omega)))
      clear hb8 hg8 hne Hil7 B7 R7 O7 P7 Q3
      go_wp2_with fail
      refine (heqR.out _ _ _ (BL.of_own O8.out rfl YR.out hyl) (R8.out.up (by omega))).mono ?_
      rintro e w9 ⟨rfl, hb9⟩
      have S9 := hb9.size
      have O9 := Lib.hid (u_own_below O8.out hb9)
      have R9 := Lib.hid (R8.out.below (hb9.mono (by omega)))
      have Hil9 := Lib.hid (Hil8.out.below (hb9.mono (by omega)))
      have B9 := Lib.hid (B8.out.trans (hb9.mono (by omega)))
      clear hb9 Hil8 B8 R8 O8
      go_wp2_with fail
      refine (hmkR.out _ _ _ (by omega) O9.out).mono ?_
      rintro e w10 ⟨rfl, hown10, hb10, hg10⟩
      have S10 := hg10.size
      have G10 := Lib.hid (BL.of_own hown10 (mkBs_len _ _).symm hmr.out (by rw [mkBs_len]; exact hyl))
      have R10 := Lib.hid (R9.out.below (hb10.mono (by omega)))
      have Hil10 := Lib.hid (Hil9.out.below (hb10.mono (by omega)))
      have B10 := Lib.hid (B9.out.trans (hb10.mono (by omega)))
      clear hown10 hb10 hg10 Hil9 B9 R9 O9
      go_wp2_with fail
      refine (hhdR.out _ _ G10.out).mono ?_
      rintro e wh ⟨rfl, hbh⟩
      have SH := hbh.size
      have GH := Lib.hid ((G10.out.below hbh).up hbh.size)
      have RH := Lib.hid (R10.out.below (hbh.mono (by omega)))
      have HilH := Lib.hid (Hil10.out.below (hbh.mono (by omega)))
      have BH := Lib.hid (B10.out.trans (hbh.mono (by omega)))
      clear hbh Hil10 B10 R10 G10
      go_wp2_with fail
      refine (hcp.out _ _ (HilH.out.up (by omega))).mono ?_
      rintro e w11 ⟨v11, rfl, hown11, hb11⟩
      have S11 := hb11.size
      have H11 := Lib.hid (BL.of_own hown11 rfl Hrng.out (by omega))
      have G11 := Lib.hid ((GH.out.below hb11).up hb11.size)
      have R11 := Lib.hid (RH.out.below (hb11.mono (by omega)))
      have B11 := Lib.hid (BH.out.trans (hb11.mono (by omega)))
      clear hown11 hb11 HilH BH RH GH
      go_wp2_with fail
      refine (him.out _ _ H11.out (HTab.out.below B11.out)).mono ?_
      rintro e w12 ⟨v12, rfl, hown12, hb12⟩
      have S12 := hb12.size
      have J12 := Lib.hid (BL.of_own hown12 rfl YR.out hyl)
      have G12 := Lib.hid ((G11.out.below hb12).up hb12.size)
      have R12 := Lib.hid (R11.out.below (hb12.mono (by omega)))
      have B12 := Lib.hid (B11.out.trans (hb12.mono (by omega)))
      clear hown12 hb12 B11 R11 G11 H11
      go_wp2_with fail
      refine (heqR.out _ _ _ J12.out (R12.out.up (by omega))).mono ?_
      rintro e w13 ⟨rfl, hb13⟩
      have G13 := Lib.hid ((G12.out.below hb13).up hb13.size)
      have B13 := Lib.hid (B12.out.trans (hb13.mono (by omega)))
      clear hb13 B12 R12 G12 J12
      go_wp2_with fail
      refine (hhdR.out _ _ G13.out).mono ?_
      rintro e w14 ⟨rfl, hb14⟩
      go_wp2_with fail
      go_ret
      exact ⟨rfl, B13.out.trans (hb14.mono (by have := B13.out.size; omega))⟩
end Go.Proofs.YtanoohfhifhhaaaDoor
