/- Walks: HistRank of the model and of the program. -/
import Derived.Test.YtljmiodkmddllaaBg
set_option linter.unusedVariables false
set_option linter.unusedSimpArgs false
namespace Go.Proofs.Ytljmiodkmddllaa
open Go.RowKit Go.Shelf

def hrB (h : List Int) (m : Int) : Bool := histB h && milB m && decide (psum h h.length ≠ 0)
def hrK (h : List Int) (m : Int) : Nat := (sumsL h).countP (· < qIx (psum h h.length) m + 1)
def hrM (h : List Int) (m : Int) : Int := if hrB h m = true then (hrK h m : Int) else -1
theorem hrM_no {h : List Int} {m : Int} (e : hrB h m = false) : hrM h m = -1 := by unfold hrM; rw [e]; rfl
theorem hrM_yes {h : List Int} {m : Int} (e : hrB h m = true) : hrM h m = (hrK h m : Int) := by unfold hrM; rw [if_pos e]

set_option maxRecDepth 100000 in
set_option maxHeartbeats 4000000 in
theorem implHistRank_any (v : Value) (xs : List Int) (m : Int) (w : World) (h : IL w w.heap.size v xs) :
    Calls Try.prog 22 #[v, .int .i64 m] w fun e w' => e = .returned (.int .i64 (hrM xs m)) ∧ Below w.heap.size w w' := by
  have hA := Lib.hid (slotsOk_any v xs _ h)
  have hM := Lib.hid (fun W => milleOk_any m W)
  have Q1 := Lib.hid h
  obtain ⟨-, hlen, A, c, rfl, -⟩ := h
  cases ea : histB xs with
  | false =>
    have E := Lib.hid (hrM_no (h := xs) (m := m) (by unfold hrB; rw [ea]; rfl))
    rw [ea] at hA
    go_enter Try.func22, Try.ntmps22
    go_wp2_with fail
    refine hA.out.mono ?_
    rintro e w' ⟨rfl, rfl⟩
    go_wp2_with fail
    go_ret
    exact ⟨by rw [E.out]; rfl, Below.refl _ _⟩
  | true =>
  cases em : milB m with
  | false =>
    have E := Lib.hid (hrM_no (h := xs) (m := m) (by unfold hrB; rw [ea, em]; rfl))
    rw [ea] at hA
    rw [em] at hM
    go_enter Try.func22, Try.ntmps22
    go_wp2_with fail
    refine hA.out.mono ?_
    rintro e w' ⟨rfl, rfl⟩
    go_wp2_with fail
    refine (hM.out _).mono ?_
    rintro e w' ⟨rfl, rfl⟩
    go_wp2_with fail
    go_ret
    exact ⟨by rw [E.out]; rfl, Below.refl _ _⟩
  | true =>
    have HLN := Lib.hid (histB_len ea)
    have HRS := Lib.hid (runningSums_any _ xs w Q1.out ea)
    have HSL := Lib.hid (sumsL_length xs)
    have HSG := Lib.hid (sumsL_getD xs)
    have HSR := Lib.hid (sumsL_rng (histB_NN ea) (histB_len ea).2)
    have HSS := Lib.hid (sumsL_sorted (histB_NN ea))
    have HPB := Lib.hid (psum_bd (histB_NN ea) xs.length (Nat.le_refl _))
    have HBL := Lib.hid (fun v x W h => lessN_any v (sumsL xs) x W h HSS.out)
    have HQI := Lib.hid (fun (h1 : 1 ≤ psum xs xs.length) (h2 : psum xs xs.length ≤ 100000000000) W => quantileIndex_any (psum xs xs.length) m W h1 h2 em)
    have HQR := Lib.hid (fun (h1 : 1 ≤ psum xs xs.length) => qIx_in h1 em)
    have HN := Lib.hid (show psum xs xs.length = 0 → hrM xs m = -1 from fun e => hrM_no (by unfold hrB; rw [e]; simp))
    have HY := Lib.hid (show psum xs xs.length ≠ 0 → hrM xs m = (((sumsL xs).countP (· < qIx (psum xs xs.length) m + 1) : Nat) : Int) from fun e => hrM_yes (by unfold hrB; rw [ea, em, decide_eq_true e]; rfl))
    rw [ea] at hA
    rw [em] at hM
    clear ea em
    go_enter Try.func22, Try.ntmps22
    go_wp2_with fail
    refine hA.out.mono ?_
    rintro e w' ⟨rfl, rfl⟩
    go_wp2_with fail
    refine (hM.out _).mono ?_
    rintro e w' ⟨rfl, rfl⟩
    go_wp2_with fail
    refine HRS.out.mono ?_
    rintro e w1 ⟨vs, rfl, hown, hb⟩
    clear hA hM HRS
    have HI1 := Lib.hid (IL.of_own hown rfl HSR.out (by rw [HSL.out]; exact hlen))
    have HB1 := Lib.hid hb
    rcases hown.2 with ⟨rfl, h0⟩ | ⟨g, cap, cur, rfl, hbg, hg, _⟩
    · have := HLN.out; rw [HSL.out] at h0; omega
    have hx : w1.cell? ⟨g, xs.length - 1, none⟩ = some (.int .i64 (psum xs xs.length)) := by
      have h1 := HLN.out.1
      rw [hown.cellAt _ (by rw [HSL.out]; omega), ints_get _ _ (by rw [HSL.out]; omega), HSG.out _ (by omega), show xs.length - 1 + 1 = xs.length by omega]
    have e1 : IntKind.i64.wrap ((xs.length : Int) - 1) = (xs.length : Int) - 1 := IntWalk.i64_in _ (by omega)
    have e2 : (0 : Int) ≤ (xs.length : Int) - 1 := by have := HLN.out; omega
    have e2' : (1 : Int) ≤ (xs.length : Int) := by have := HLN.out; omega
    have e3 : ((xs.length : Int) - 1).toNat = xs.length - 1 := by omega
    have e4 : (xs.length : Int) - 1 < (xs.length : Int) := by omega
    have HLL := HSL.out
    have h21 := HLN.out.2
    have hpb := HPB.out
    clear hown hb hg
    obtain ⟨S, hS⟩ : ∃ S, sumsL xs = S := ⟨_, rfl⟩
    have HEQ := Lib.hid hS
    rw [hS] at HI1 HBL HY HLL ⊢
    rw [HLL] at HI1 ⊢
    clear hS HSG HSR HSS HSL
    generalize hP : psum xs xs.length = p at *
    clear hP
    by_cases hp : p = 0
    · have E := Lib.hid (HN.out hp)
      have hp' : (p == 0) = true := by simp [hp]
      subst hp
      clear hp'
      go_wp2_with fail
      go_ret
      exact ⟨by rw [E.out]; rfl, HB1.out⟩
    · have E := Lib.hid (HY.out hp)
      have hp' : (p == 0) = false := by simp [hp]
      have hQ := Lib.hid (fun W => HQI.out (by omega) (by omega) W)
      have hqr := HQR.out (by omega)
      generalize qIx p m = q at *
      have e5 : IntKind.i64.wrap (q + 1) = q + 1 := IntWalk.i64_in _ (by omega)
      clear HN HY HQI HQR
      go_wp2_with fail
      refine (hQ.out _).mono ?_
      rintro e w' ⟨rfl, rfl⟩
      clear e1 e2 e2' e3 e4
      go_wp2_with fail
      refine (HBL.out _ (q + 1) _ HI1.out).mono ?_
      rintro e w2 ⟨rfl, hb2⟩
      have HB2 := Lib.hid (HB1.out.trans (hb2.mono HB1.out.size))
      obtain ⟨cnt, hcnt⟩ : ∃ cnt, S.countP (· < q + 1) = cnt := ⟨_, rfl⟩
      rw [hcnt] at E ⊢
      clear hcnt hb2
      go_wp2_with fail
      go_ret
      exact ⟨by rw [E.out]; rfl, HB2.out⟩

set_option maxRecDepth 100000 in
set_option maxHeartbeats 4000000 in
theorem specHistRank_any (v : Value) (xs : List Int) (m : Int) (w : World) (h : IL w w.heap.size v xs) :
    Calls Try.prog 21 #[v, .int .i64 m] w fun e w' => e = .returned (.int .i64 (hrM xs m)) ∧ Below w.heap.size w w' := by
  have hA := Lib.hid (fun W (hW : IL W W.heap.size v xs) => l16Hist_any v xs W hW)
  have hM := Lib.hid (fun W => v_l1In_q m 0 1000 W)
  have Q1 := Lib.hid h
  obtain ⟨-, hlen, A, c, rfl, h3⟩ := h
  cases ea : histB xs with
  | false =>
    have E := Lib.hid (hrM_no (h := xs) (m := m) (by unfold hrB; rw [ea]; rfl))
    rw [ea] at hA
    clear h3
    go_enter Try.func21, Try.ntmps21
    go_wp2_with fail
    refine wp_loop_rounds 1 ?_
    rw [rounds_succ]
    by_cases h0 : 0 < xs.length
    · go_wp2_with (go_at_call 39; refine (hA.out _ Q1.out).mono ?_; rintro e w' ⟨rfl, rfl⟩)
      go_ret
      exact ⟨by rw [E.out]; rfl, Below.refl _ _⟩
    · go_wp2_with fail
      go_ret
      exact ⟨by rw [E.out]; rfl, Below.refl _ _⟩
  | true =>
    rw [ea] at hA
    have HLN := Lib.hid (histB_len ea)
    have HPB := Lib.hid (psum_bd (histB_NN ea))
    have HPS := Lib.hid (fun (k : Nat) (hk : k < xs.length) => psum_succ (h := xs) hk)
    have HNN := Lib.hid (histB_NN ea)
    have HN := Lib.hid (show psum xs xs.length = 0 → hrM xs m = -1 from fun e => hrM_no (by unfold hrB; rw [e]; simp))
    have HNM := Lib.hid (show milB m = false → hrM xs m = -1 from fun e => hrM_no (by unfold hrB; rw [e]; simp))
    have HY := Lib.hid (show psum xs xs.length ≠ 0 → milB m = true → hrM xs m = (((sumsL xs).countP (· < qIx (psum xs xs.length) m + 1) : Nat) : Int) from fun e em => hrM_yes (by unfold hrB; rw [ea, em, decide_eq_true e]; rfl))
    have HQI := Lib.hid (fun (em : milB m = true) (h1 : 1 ≤ psum xs xs.length) (h2 : psum xs xs.length ≤ 100000000000) W => l16Rank_any (psum xs xs.length) m W h1 h2 em)
    have HQR := Lib.hid (fun (em : milB m = true) (h1 : 1 ≤ psum xs xs.length) => qIx_in h1 em)
    have HSS := Lib.hid (sumsL_sorted (histB_NN ea))
    clear ea
    go_enter Try.func21, Try.ntmps21
    go_wp2_with fail
    go_loop [5, 6] (fun s i => ∃ k : Nat, k ≤ xs.length ∧ i = .int .i64 (k : Int) ∧ s = .int .i64 (psum xs k)) (fun _ i => xs.length - (Go.RowKit.intOf i).toNat)
    case atStart => exact ⟨0, Nat.zero_le _, by simp, rfl⟩
    case round =>
      obtain ⟨k, hk, rfl, rfl⟩ := hrel
      by_cases hlt : k < xs.length
      · rcases h3 with h3 | ⟨b1, o1, rfl, hbl1, hc1⟩
        · subst h3; simp at hlt
        have hx : w.cell? ⟨b1, o1 + k, none⟩ = some (.int .i64 (xs.getD k 0)) := hc1 k hlt
        have hps := HPS.out k hlt
        have hp0 := HPB.out k (by omega)
        have hnn := HNN.out k
        have HPS1 := Lib.hid hps
        clear hps
        generalize xs.getD k 0 = x at *
        generalize psum xs k = p at *
        have hY : IntKind.i64.wrap (p + x) = p + x := IntWalk.i64_in _ (by have := HLN.out; omega)
        clear hc1 hp0 hnn
        go_wp2_with (go_at_call 39; refine (hA.out _ Q1.out).mono ?_; rintro e w' ⟨rfl, rfl⟩)
        go_round
        case rel => exact ⟨k + 1, by omega, by go_num, by rw [HPS1.out]⟩
        case measure => simp [Go.RowKit.intOf]; omega
      · obtain rfl : k = xs.length := by omega
        have hpb := HPB.out xs.length (Nat.le_refl _)
        have h21 := HLN.out
        obtain ⟨p, hP⟩ : ∃ p, psum xs xs.length = p := ⟨_, rfl⟩
        have HP := Lib.hid hP
        rw [hP] at HN HY HQI HQR hpb ⊢
        clear hP
        by_cases hp : p = 0
        · have E := Lib.hid (HN.out hp)
          subst hp
          clear hpb
          go_wp2_with fail
          go_ret
          exact ⟨by rw [E.out]; rfl, Below.refl _ _⟩
        · have hp' : (p == 0) = false := by simp [hp]
          cases em : milB m with
          | false =>
            have E := Lib.hid (HNM.out em)
            have em' : vIn m 0 1000 = false := em
            rw [em'] at hM
            clear em em'
            go_wp2_with fail
            refine (hM.out _).mono ?_
            rintro e w' ⟨rfl, rfl⟩
            go_wp2_with fail
            go_ret
            exact ⟨by rw [E.out]; rfl, Below.refl _ _⟩
          | true =>
            have E := Lib.hid (HY.out hp em)
            have hQ := Lib.hid (fun W => HQI.out em (by omega) (by omega) W)
            have hqr := HQR.out em (by omega)
            have em' : vIn m 0 1000 = true := em
            rw [em'] at hM
            clear em em' HQI HQR HN HNM HY
            generalize qIx p m = q at *
            go_wp2_with fail
            refine (hM.out _).mono ?_
            rintro e w ⟨rfl, rfl⟩
            go_wp2_with fail
            refine (hQ.out _).mono ?_
            rintro e w ⟨rfl, rfl⟩
            go_wp2_with fail
            have HPQ := Lib.hid hqr.2
            have Hhpb := Lib.hid hpb
            have Hq0 := Lib.hid hqr.1
            clear hp' hp hqr hpb
            go_loop [7, 8] (fun s i => ∃ (k : Nat) (r : Int), k ≤ xs.length ∧ i = .int .i64 (k : Int) ∧ s = .int .i64 r ∧ Hid (r = q - psum xs k) ∧ Hid (∀ j, j < k → psum xs (j + 1) ≤ q) ∧ Hid (0 ≤ r)) (fun _ i => xs.length - (Go.RowKit.intOf i).toNat)
            case atStart => exact ⟨0, q, Nat.zero_le _, by simp, rfl, Lib.hid (by rw [psum_zero]; omega), Lib.hid (fun j hj => by omega), Hq0⟩
            case round =>
              obtain ⟨k, r, hk, rfl, rfl, HR, HJ, HR0⟩ := hrel
              by_cases hlt : k < xs.length
              · rcases h3 with h3 | ⟨b1, o1, rfl, hbl1, hc1⟩
                · subst h3; simp at hlt
                have hx : w.cell? ⟨b1, o1 + k, none⟩ = some (.int .i64 (xs.getD k 0)) := hc1 k hlt
                have hps := Lib.hid (HPS.out k hlt)
                have hp0 := Lib.hid (HPB.out k (by omega))
                have hnn := Lib.hid (HNN.out k)
                clear hc1
                have HG := Lib.hid (sumsL_getD xs)
                have hc : Hid (¬ r < xs.getD k 0 → psum xs (k + 1) ≤ q) := Lib.hid (fun h => by rw [hps.out]; have := HR.out; omega)
                have hd : Hid (r < xs.getD k 0 → (sumsL xs).countP (· < q + 1) = k) := Lib.hid (fun h => cnt_at (by rw [sumsL_length]; exact hlt) (fun j hj => by rw [sumsL_getD xs j (by omega)]; have := HJ.out j hj; omega) (by rw [sumsL_getD xs k hlt, hps.out]; have := HR.out; omega) HSS.out)
                have hrn : Hid (¬ r < xs.getD k 0 → r - xs.getD k 0 = q - psum xs (k + 1)) := Lib.hid (fun h => by rw [hps.out]; have := HR.out; omega)
                have hrb := HR0.out
                have hrb2 : r ≤ 100000000000 := by have := HR.out; have := hp0.out; have := HPQ.out; have := Hhpb.out; omega
                generalize xs.getD k 0 = x at *
                by_cases hrx : r < x
                · have E2 := Lib.hid (E.out.trans (by rw [hd.out hrx]))
                  clear hrb hrb2
                  go_wp2_with fail
                  go_ret
                  exact ⟨by rw [E2.out]; rfl, Below.refl _ _⟩
                · have hx9 := hnn.out
                  have hY : IntKind.i64.wrap (r - x) = r - x := IntWalk.i64_in _ (by omega)
                  have H1 := Lib.hid (hc.out hrx)
                  have H2 := Lib.hid (hrn.out hrx)
                  have H3 : Hid (0 ≤ r - x) := Lib.hid (by omega)
                  have H4 : Hid (∀ j, j < k + 1 → psum xs (j + 1) ≤ q) := Lib.hid (by
                    intro j hj
                    by_cases e : j = k
                    · rw [e]; exact H1.out
                    · exact HJ.out j (by omega))
                  clear hc hrn hd hx9
                  go_wp2_with fail
                  go_round
                  case rel => exact ⟨k + 1, r - x, by omega, by go_num, by first | rfl | (rw [hY]), H2, H4, H3⟩
                  case measure => simp [Go.RowKit.intOf]; omega
              · exfalso
                obtain rfl : k = xs.length := by omega
                have := HR.out
                rw [HP.out] at this
                have := HPQ.out
                have := HR0.out
                omega

set_option maxRecDepth 100000 in
set_option maxHeartbeats 1000000 in
theorem walkFnExactHistRank (A : Option Addr) (n c : Nat) (m : Int) (w : World) (hx : n ≤ 1048576 → ∃ xs : List Int, xs.length = n ∧ IL w w.heap.size (.slice A n c) xs) :
    Calls Try.prog 5 #[.slice A n c, .int .i64 m] w fun e w' => e = .returned (.bool true) ∧ Below w.heap.size w w' := by
  by_cases hbig : (1048576 : Int) < n
  · clear hx
    go_enter Try.func5, Try.ntmps5
    go_wp2_with fail
    go_ret
    exact ⟨rfl, Below.refl _ _⟩
  · obtain ⟨xs, rfl, hil⟩ := hx (by omega)
    have Hil := Lib.hid hil
    have Hrng := Lib.hid hil.1
    clear hx hil
    have hsp := Lib.hid (fun v W h => specHistRank_any v xs m W h)
    have him := Lib.hid (fun v W h => implHistRank_any v xs m W h)
    generalize hrM xs m = S at *
    have hcp := Lib.hid (fun v W h => toInt64S_any v xs W h)
    have heq := Lib.hid (fun v u W h h' => eqInt64S_any v u xs xs W h h')
    rw [decide_eq_true rfl] at heq
    all_goals
      go_enter Try.func5, Try.ntmps5
      go_wp2_with fail
      refine (hcp.out _ _ Hil.out).mono ?_
      rintro e w1 ⟨v1, rfl, hown1, hb1⟩
      have H1 := Lib.hid (IL.of_own hown1 rfl Hrng.out (by omega))
      have Hil1 := Lib.hid ((Hil.out.below hb1).up hb1.size)
      have B1 := Lib.hid hb1
      clear hown1 hb1 Hil
      go_wp2_with fail
      refine (hsp.out _ _ H1.out).mono ?_
      rintro e w2 ⟨rfl, hb2⟩
      have Hil2 := Lib.hid ((Hil1.out.below hb2).up hb2.size)
      have B2 := Lib.hid (B1.out.trans (hb2.mono B1.out.size))
      clear hb2 Hil1 B1 H1
      go_wp2_with fail
      refine (hcp.out _ _ Hil2.out).mono ?_
      rintro e w3 ⟨v3, rfl, hown3, hb3⟩
      have H3 := Lib.hid (IL.of_own hown3 rfl Hrng.out (by omega))
      have Hil3 := Lib.hid ((Hil2.out.below hb3).up hb3.size)
      have B3 := Lib.hid (B2.out.trans (hb3.mono B2.out.size))
      clear hown3 hb3 Hil2 B2
      go_wp2_with fail
      refine (him.out _ _ H3.out).mono ?_
      rintro e w4 ⟨rfl, hb4⟩
      have Hil4 := Lib.hid ((Hil3.out.below hb4).up hb4.size)
      have H4 := Lib.hid ((H3.out.below hb4).up hb4.size)
      have B4 := Lib.hid (B3.out.trans (hb4.mono B3.out.size))
      clear hb4 Hil3 B3 H3
      go_wp2_with fail
      refine (hcp.out _ _ Hil4.out).mono ?_
      rintro e w5 ⟨v5, rfl, hown5, hb5⟩
      have H5 := Lib.hid (IL.of_own hown5 rfl Hrng.out (by omega))
      have H45 := Lib.hid ((H4.out.below hb5).up hb5.size)
      have B5 := Lib.hid (B4.out.trans (hb5.mono B4.out.size))
      clear hown5 hb5 Hil4 B4 H4
      go_wp2_with fail
      refine (heq.out _ _ _ H45.out H5.out).mono ?_
      rintro e w6 ⟨rfl, hb6⟩
      have B6 := Lib.hid (B5.out.trans (hb6.mono B5.out.size))
      clear hb6 B5
      go_wp2_with fail
      go_ret
      exact ⟨rfl, B6.out⟩
end Go.Proofs.Ytljmiodkmddllaa
