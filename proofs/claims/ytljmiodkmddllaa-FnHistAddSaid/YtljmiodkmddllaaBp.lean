/- Walks: HistOf of the program. -/
import Derived.Test.YtljmiodkmddllaaBl
set_option linter.unusedVariables false
set_option linter.unusedSimpArgs false
namespace Go.Proofs.Ytljmiodkmddllaa
open Go.RowKit

def lastC (V b : List Int) (k : Nat) : Int := if k = 0 then 0 else (cLe V b (k - 1) : Int)
theorem lastC_zero (V b : List Int) : lastC V b 0 = 0 := rfl
theorem lastC_succ (V b : List Int) (k : Nat) : lastC V b (k + 1) = (cLe V b k : Int) := rfl
theorem cEq_last (V b : List Int) (k : Nat) : (cEq V b k : Int) = (cLe V b k : Int) - lastC V b k := by
  cases k with
  | zero => rw [lastC_zero, cLe_zero]; omega
  | succ k => rw [lastC_succ, cLe_succ]; omega
theorem cLe_le (V b : List Int) (j : Nat) : cLe V b j ≤ V.length := List.countP_le_length
theorem lastC_in (V b : List Int) (k : Nat) : 0 ≤ lastC V b k ∧ lastC V b k ≤ V.length := by
  cases k with
  | zero => rw [lastC_zero]; omega
  | succ k => rw [lastC_succ]; have := cLe_le V b k; omega
theorem srt_below {V b : List Int} {j : Nat} (hr : Ris b) (hj : j < b.length) : (srt V).countP (· < b.getD j 0) = cLe V b j := by
  rw [cLe_bound hr hj]
  exact (srt_perm V).countP_eq _

set_option maxRecDepth 100000 in
set_option maxHeartbeats 4000000 in
theorem implHistOf_any (v u : Value) (xs : List (Int × Int)) (b : List Int) (w : World) (h : PL w w.heap.size v xs) (h' : IL w w.heap.size u b) :
    Calls Try.prog 29 #[v, u] w (OwnPost w.heap.size (hoM xs b) w) := by
  have hP := Lib.hid (implPointsOk_any v xs w h)
  have hB := Lib.hid (fun W h => implBoundsOk_any u b W h)
  have Q1 := Lib.hid h
  have Q2 := Lib.hid h'
  obtain ⟨i0, hi, hz0, hz1, hz2⟩ := info_parts u_info_i64
  have hlen := h.2.1
  obtain ⟨-, -, A, c, rfl, -⟩ := h
  obtain ⟨-, hlen', A', c', rfl, h3'⟩ := h'
  cases ep : ptsOkB xs with
  | false =>
    have E := Lib.hid (hoM_no (l := xs) (b := b) (by unfold hoB; rw [ep]; rfl))
    rw [ep] at hP
    clear Q1 Q2 hB ep h3'
    go_enter Try.func29, Try.ntmps29
    go_wp2_with fail
    refine hP.out.mono ?_
    rintro e w1 ⟨rfl, hb1⟩
    go_wp2_with fail
    go_ret
    rw [E.out]
    exact ⟨_, rfl, World.ownsRow_nil _ _ _ _, hb1⟩
  | true =>
  cases eb : bndB b with
  | false =>
    have E := Lib.hid (hoM_no (l := xs) (b := b) (by unfold hoB; rw [eb]; simp))
    rw [ep] at hP
    rw [eb] at hB
    clear Q1 ep eb h3'
    go_enter Try.func29, Try.ntmps29
    go_wp2_with fail
    refine hP.out.mono ?_
    rintro e w1 ⟨rfl, hb1⟩
    have HB1 := Lib.hid hb1
    have HI1 := Lib.hid ((Q2.out.below hb1).up hb1.size)
    clear hb1
    go_wp2_with fail
    refine (hB.out _ HI1.out).mono ?_
    rintro e w2 ⟨rfl, hb2⟩
    have HB2 := Lib.hid (HB1.out.trans (hb2.mono HB1.out.size))
    clear hb2
    go_wp2_with fail
    go_ret
    rw [E.out]
    exact ⟨_, rfl, World.ownsRow_nil _ _ _ _, HB2.out⟩
  | true =>
    have E := Lib.hid (hoM_yes (l := xs) (b := b) (by unfold hoB; rw [ep, eb]; rfl))
    have HRS := Lib.hid (bndB_ris eb)
    have H20 := Lib.hid (bndB_len eb)
    have H120 := Lib.hid (pts_len ep)
    rw [ep] at hP
    rw [eb] at hB
    have HVL := Lib.hid (show (xs.map Prod.snd).length = xs.length by simp)
    have HRV := Lib.hid (rng_snd Q1.out.1)
    have hV := Lib.hid (fun W (hW : PL W W.heap.size (.slice A xs.length c) xs) => valuesOf_any _ xs W hW)
    obtain ⟨V, hVV⟩ : ∃ V, xs.map Prod.snd = V := ⟨_, rfl⟩
    rw [hVV] at HVL HRV hV E
    clear hVV ep eb
    have hS := Lib.hid (fun v W (hW : IL W W.heap.size v V) => sorted_any v V W hW)
    have hSE : (V.mergeSort fun x y => decide (x ≤ y)) = srt V := rfl
    rw [hSE] at hS
    clear hSE
    have HBW := Lib.hid (fun v x W (hW : IL W W.heap.size v (srt V)) => lessN_any v (srt V) x W hW (srt_sorted V))
    have HSL := Lib.hid ((srt_length V).trans HVL.out)
    have HSR := Lib.hid (srt_rng HRV.out)
    have HCB := Lib.hid (fun (j : Nat) (hj : j < b.length) => srt_below (V := V) HRS.out hj)
    have HCE := Lib.hid (cEq_last V b)
    have HCI := Lib.hid (lastC_in V b)
    have HCL := Lib.hid (cLe_le V b)
    have HCA := Lib.hid (cLe_all V b)
    have HLS := Lib.hid (lastC_succ V b)
    have HHL := Lib.hid (hiL_length V b)
    have HHG := Lib.hid (hiL_getD V b)
    have HLZ := Lib.hid (lastC_zero V b)
    generalize srt V = S at *
    generalize hiL V b = H at *
    generalize lastC V b = LC at *
    generalize cLe V b = CL at *
    generalize cEq V b = CE at *
    obtain ⟨n, hn⟩ : ∃ n, b.length = n := ⟨_, rfl⟩
    have HN := Lib.hid hn
    rw [hn] at hB Q2 H20 hlen' HHL HHG HCB h3' HCA ⊢
    clear hn
    obtain ⟨m, hm⟩ : ∃ m, xs.length = m := ⟨_, rfl⟩
    rw [hm] at hP Q1 hlen H120 HVL HSL hV ⊢
    clear hm
    go_enter Try.func29, Try.ntmps29
    go_wp2_with fail
    refine hP.out.mono ?_
    rintro e w1 ⟨rfl, hb1⟩
    have HB1 := Lib.hid hb1
    have HI1 := Lib.hid ((Q2.out.below hb1).up hb1.size)
    have HP1 := Lib.hid ((Q1.out.below hb1).up hb1.size)
    clear hb1
    go_wp2_with fail
    refine (hB.out _ HI1.out).mono ?_
    rintro e w2 ⟨rfl, hb2⟩
    have HB2 := Lib.hid (HB1.out.trans (hb2.mono HB1.out.size))
    have HP2 := Lib.hid ((HP1.out.below hb2).up hb2.size)
    clear hb2 HI1 HB1 hP hB HP1
    go_wp2_with fail
    refine (hV.out _ HP2.out).mono ?_
    rintro e w3 ⟨vv, rfl, hown, hb⟩
    have HI3 := Lib.hid (IL.of_own hown rfl HRV.out (by rw [HVL.out]; exact hlen))
    have HB3 := Lib.hid (HB2.out.trans (hb.mono HB2.out.size))
    clear hown hb HP2 HB2
    go_wp2_with fail
    refine (hS.out _ _ HI3.out).mono ?_
    rintro e w4 ⟨vs, rfl, hown, hb⟩
    have HI4 := Lib.hid (IL.of_own hown rfl HSR.out (by rw [HSL.out]; exact hlen))
    have HB4 := Lib.hid (HB3.out.trans (hb.mono HB3.out.size))
    obtain ⟨-, -, A4, c4, rfl, -⟩ := HI4.out
    have hsl := HSL.out
    rw [hsl] at HI4 ⊢
    clear hown hb HI3 HB3 hsl
    have hz4 : w.heap.size ≤ w4.heap.size := HB4.out.size
    have h20 := H20.out
    have h120 := H120.out
    go_wp2_with fail
    have h20n := H20.out
    go_loopw [24, 6, 7] (fun i o l wr => ∃ k : Nat, k ≤ n ∧ i = .int .i64 (k : Int) ∧ l = .int .i64 (LC k) ∧ wr.ownsRow w4.heap.size 2 1 o k (ints (H.take k)) ∧ Below w4.heap.size w4 wr)
      (fun i _ _ _ => n - (Go.RowKit.intOf i).toNat)
    case atStart => exact ⟨0, Nat.zero_le _, by simp, by rw [HLZ.out], World.ownsRow_nil _ _ _ _, Below.refl _ _⟩
    case round =>
      obtain ⟨k, hk, rfl, rfl, hown, hb⟩ := hrel
      have hci := HCI.out k
      have hvl := HVL.out
      have hz := hb.size
      have HIS := Lib.hid ((HI4.out.below hb).up hz)
      by_cases hlt : k < n
      · rcases h3' with h3' | ⟨b1, o1, rfl, hbl1, hc1⟩
        · have := HN.out; rw [h3'] at this; simp at this; omega
        have hx : wr.cell? ⟨b1, o1 + k, none⟩ = some (.int .i64 (b.getD k 0)) := ((HB4.out.trans (hb.mono hz4)).cell (p := ⟨b1, o1 + k, none⟩) hbl1).trans (hc1 k hlt)
        have hbw := Lib.hid (fun W hW => HBW.out (.slice A4 m c4) (b.getD k 0) W hW)
        rw [HCB.out k hlt] at hbw
        have hTk := Lib.hid (h_ints_take H k (by rw [HHL.out]; omega))
        rw [HHG.out k (by omega), HCE.out k] at hTk
        have hcl := HCL.out k
        have HLK := Lib.hid (HLS.out k)
        generalize b.getD k 0 = x at *
        generalize LC k = l at *
        generalize CL k = cc at *
        have hY : IntKind.i64.wrap ((cc : Int) - l) = (cc : Int) - l := IntWalk.i64_in _ (by omega)
        have HO := Lib.hid hown
        have HB := Lib.hid hb
        clear hown hb hc1
        go_wp2_with fail
        refine (hbw.out _ HIS.out).mono ?_
        rintro e w5 ⟨rfl, hb5⟩
        have HB5 := Lib.hid (HB.out.trans (hb5.mono hz))
        have HO5 := Lib.hid ((u_own_below HO.out hb5).alloc (.cells #[.int .i64 ((cc : Int) - l)] 2))
        have HR5 := Lib.hid (u_own_below HO.out hb5)
        have hz5 := HB5.out.size
        clear hb5 HIS
        generalize hYY : (cc : Int) - l = y at hTk hY HO5
        go_wp2_with (at_builtin; refine wpList_append_own _ rfl _ _ 22 rfl w4.heap.size 2 i0 (.int .i64 0) 1 8 Try.underlying22 hi hz0 hz1 hz2 rfl (by decide) _ _ _ rfl HO5.out ⟨w5.heap.size, 0, none⟩ 1 1 [.int .i64 y] rfl rfl ?c1 ?c2 ?c3 ?c4 ?c5 ?_)
        case c1 => exact cell_one_new w5 _ _
        case c2 => intro q hq; simp at hq; subst hq; rfl
        case c3 => unfold maxLen; omega
        case c4 => omega
        case c5 => first | omega | (simp; omega)
        intro v' w6 hown6 hgrow _
        rw [← hTk.out] at hown6
        have hb6 : Below w4.heap.size w4 w6 := u_below_append HB5.out (Nat.le_refl _) hz5 HR5.out hgrow
        have HO6 := Lib.hid hown6
        have HB6 := Lib.hid hb6
        clear hgrow hown6 hb6
        go_wp2_with fail
        go_roundw
        case rel => exact ⟨k + 1, by omega, by go_num, by rw [HLK.out], HO6.out, HB6.out⟩
        case measure => simp [Go.RowKit.intOf]; omega
      · obtain rfl : k = n := by omega
        have hTk := Lib.hid (h_ints_take H k (by rw [HHL.out]; omega))
        have hca := Lib.hid (HCA.out.trans HVL.out)
        rw [HHG.out k (by omega), HCE.out k, hca.out, List.take_of_length_le (l := H) (by rw [HHL.out]; exact Nat.le_refl _)] at hTk
        generalize LC k = l at *
        have hY : IntKind.i64.wrap ((m : Int) - l) = (m : Int) - l := IntWalk.i64_in _ (by omega)
        have HO := Lib.hid hown
        have HB := Lib.hid hb
        generalize hYY : (m : Int) - l = y at hTk hY
        have HO5 := Lib.hid (hown.alloc (.cells #[.int .i64 y] 2))
        clear hown hb
        go_wp2_with (at_builtin; refine wpList_append_own _ rfl _ _ 22 rfl w4.heap.size 2 i0 (.int .i64 0) 1 8 Try.underlying22 hi hz0 hz1 hz2 rfl (by decide) _ _ _ rfl HO5.out ⟨wr.heap.size, 0, none⟩ 1 1 [.int .i64 y] rfl rfl ?c1 ?c2 ?c3 ?c4 ?c5 ?_)
        case c1 => exact cell_one_new wr _ _
        case c2 => intro q hq; simp at hq; subst hq; rfl
        case c3 => unfold maxLen; omega
        case c4 => omega
        case c5 => first | omega | (simp; omega)
        intro v' w6 hown6 hgrow _
        have hb6 : Below w4.heap.size w4 w6 := u_below_append HB.out (Nat.le_refl _) hz HO.out hgrow
        have HO6 := Lib.hid (u_ownsRow_base (hTk.out ▸ hown6) hz4)
        have HB6 := Lib.hid (HB4.out.trans (hb6.mono hz4))
        clear hgrow hown6 hb6
        go_wp2_with fail
        go_ret
        rw [E.out]
        exact ⟨_, rfl, by rw [HHL.out]; exact HO6.out, HB6.out⟩
end Go.Proofs.Ytljmiodkmddllaa
