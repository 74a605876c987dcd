/- Walks: facts on quantiles; the law FnQuantile. -/
import Derived.Test.YtljmiodkmddllaaBs
import Derived.Test.YtljmiodkmddllaaBk
set_option linter.unusedVariables false
set_option linter.unusedSimpArgs false
namespace Go.Proofs.Ytljmiodkmddllaa
open Go.RowKit

theorem qIx_zero {n : Int} (hn : 1 ≤ n) : qIx n 0 = 0 := by unfold qIx; rw [Int.mul_zero]; omega
theorem qIx_all {n : Int} (hn : 1 ≤ n) : qIx n 1000 = n - 1 := by unfold qIx; omega
theorem qIx_mono {n m m' : Int} (hn : 1 ≤ n) (h : m ≤ m') : qIx n m ≤ qIx n m' := by
  have h1 : n * m ≤ n * m' := Int.mul_le_mul_of_nonneg_left h (by omega)
  unfold qIx
  omega
theorem srt_at_le {V : List Int} {i j : Nat} (hij : i ≤ j) (hj : j < V.length) : (srt V).getD i 0 ≤ (srt V).getD j 0 := by
  have hl := srt_length V
  by_cases e : i = j
  · rw [e]; exact Int.le_refl _
  · have := List.pairwise_iff_getElem.1 (srt_sorted V) i j (by omega) (by omega) (by omega)
    rw [List.getD_eq_getElem?_getD, List.getElem?_eq_getElem (by omega), List.getD_eq_getElem?_getD, List.getElem?_eq_getElem (by omega)]
    exact this
theorem srt_ends {V : List Int} {k : Nat} (hk : k < V.length) : (srt V).getD 0 0 ≤ V.getD k 0 ∧ V.getD k 0 ≤ (srt V).getD (V.length - 1) 0 := by
  have hl := srt_length V
  have hm : V.getD k 0 ∈ srt V := (srt_perm V).mem_iff.2 (getD_mem hk)
  obtain ⟨i, hi, he⟩ := List.getElem_of_mem hm
  have e : (srt V).getD i 0 = V.getD k 0 := by rw [List.getD_eq_getElem?_getD, List.getElem?_eq_getElem hi]; exact he
  rw [← e]
  exact ⟨srt_at_le (Nat.zero_le _) (by omega), srt_at_le (by omega) (by omega)⟩
theorem srt_cnt {V : List Int} {q : Nat} (hq : q < V.length) : V.countP (fun x => decide (x < (srt V).getD q 0)) ≤ q := by
  rw [← (srt_perm V).countP_eq]
  have hl := srt_length V
  have e := List.take_append_drop q (srt V)
  have h4 : ((srt V).drop q).countP (fun x => decide (x < (srt V).getD q 0)) = 0 := by
    rw [List.countP_eq_zero]
    intro y hy
    obtain ⟨i, hi, rfl⟩ := List.getElem_of_mem hy
    rw [List.length_drop] at hi
    rw [List.getElem_drop]
    have := srt_at_le (V := V) (i := q) (j := q + i) (by omega) (by omega)
    rw [List.getD_eq_getElem?_getD (i := q + i), List.getElem?_eq_getElem (by omega)] at this
    simp only [Option.getD_some] at this
    simp only [decide_eq_true_eq]
    omega
  have h5 : (srt V).countP (fun x => decide (x < (srt V).getD q 0)) = ((srt V).take q).countP (fun x => decide (x < (srt V).getD q 0)) + ((srt V).drop q).countP (fun x => decide (x < (srt V).getD q 0)) := by
    conv => lhs; arg 2; rw [← e]
    rw [List.countP_append]
  have h6 := List.countP_le_length (p := fun x => decide (x < (srt V).getD q 0)) (l := (srt V).take q)
  rw [List.length_take] at h6
  omega
theorem cnt_snoc {V : List Int} {k : Nat} (hk : k < V.length) (v : Int) : (V.take (k + 1)).countP (fun x => decide (x < v)) = (V.take k).countP (fun x => decide (x < v)) + if V.getD k 0 < v then 1 else 0 := by
  rw [take_snoc_int hk, List.countP_append]
  simp [List.countP_cons]
theorem quB_parts {l : List (Int × Int)} {m : Int} (h : quB l m = true) : ptsOkB l = true ∧ l.length ≠ 0 ∧ milB m = true := by
  unfold quB at h
  simp only [Bool.and_eq_true, decide_eq_true_eq] at h
  exact ⟨h.1.1, h.1.2, h.2⟩
theorem quB_of {l : List (Int × Int)} {m : Int} (h1 : ptsOkB l = true) (h2 : l.length ≠ 0) (h3 : milB m = true) : quB l m = true := by
  unfold quB; rw [h1, h3, decide_eq_true h2]; rfl
/-- what the law says of the quantiles -/
theorem qu_facts {l : List (Int × Int)} {m : Int} (h : quB l m = true) :
    quM l 0 = (quV l 0, true) ∧ quM l 1000 = (quV l 1000, true) ∧ (m < 1000 → quM l (m + 1) = (quV l (m + 1), true)) ∧ quV l 0 ≤ quV l m ∧ quV l m ≤ quV l 1000 ∧ (m < 1000 → quV l m ≤ quV l (m + 1)) ∧
    (∀ k, k < l.length → quV l 0 ≤ (l.map Prod.snd).getD k 0 ∧ (l.map Prod.snd).getD k 0 ≤ quV l 1000) ∧
    (((l.map Prod.snd).countP (fun x => decide (x < quV l m)) : Nat) : Int) * 1000 ≤ (l.length : Int) * m := by
  obtain ⟨h1, h2, h3⟩ := quB_parts h
  have hm := h3
  unfold milB at hm
  have hm := of_decide_eq_true hm
  have hn : 1 ≤ (l.length : Int) := by omega
  have hVL : (l.map Prod.snd).length = l.length := by simp
  have a0 := qIx_in hn (show milB 0 = true from rfl)
  have a1 := qIx_in hn (show milB 1000 = true from rfl)
  have am := qIx_in hn h3
  have z0 := qIx_zero hn
  have z1 := qIx_all hn
  have c0 := qIx_mono hn hm.1
  have c1 := qIx_mono hn hm.2
  refine ⟨quM_yes (quB_of h1 h2 rfl), quM_yes (quB_of h1 h2 rfl), fun hlt => quM_yes (quB_of h1 h2 (by unfold milB; exact decide_eq_true (by omega))), ?_, ?_, fun hlt => ?_, fun k hk => ?_, ?_⟩
  · unfold quV; exact srt_at_le (by omega) (by omega)
  · unfold quV; exact srt_at_le (by omega) (by omega)
  · have a2 := qIx_in hn (show milB (m + 1) = true from by unfold milB; exact decide_eq_true (by omega))
    have c2 := qIx_mono hn (show m ≤ m + 1 by omega)
    unfold quV; exact srt_at_le (by omega) (by omega)
  · have := srt_ends (V := l.map Prod.snd) (k := k) (by omega)
    unfold quV
    rw [z0, z1, hVL] at *
    rw [show ((l.length : Int) - 1).toNat = l.length - 1 by omega]
    exact this
  · have hc := srt_cnt (V := l.map Prod.snd) (q := (qIx l.length m).toNat) (by omega)
    have hq : qIx l.length m ≤ (l.length : Int) * m / 1000 := by unfold qIx; omega
    have : (((l.map Prod.snd).countP (fun x => decide (x < quV l m)) : Nat) : Int) ≤ qIx l.length m := by
      have : (l.map Prod.snd).countP (fun x => decide (x < quV l m)) ≤ (qIx l.length m).toNat := hc
      omega
    generalize (l.length : Int) * m = p at *
    omega

set_option maxRecDepth 100000 in
set_option maxHeartbeats 8000000 in
theorem walkFnQuantile (A : Option Addr) (n c : Nat) (w : World) (h : n ≤ 1048576 → CodeAt w A n c) :
    Calls Try.prog 10 #[.slice A n c] w fun e w' => e = .returned (.bool true) ∧ Below w.heap.size w w' := by
  have hbig := fun W => big_any A n c W
  by_cases hb : (n : Int) ≤ 1048576
  case neg =>
    have hd : decide (1048576 < (n : Int)) = true := by simp; omega
    rw [hd] at hbig
    have Hbig := Lib.hid hbig
    clear hbig hd h
    go_enter Try.func10, Try.ntmps10
    go_wp2_with fail
    refine (Hbig.out _).mono ?_
    rintro e w' ⟨rfl, rfl⟩
    go_wp2_with fail
    go_ret
    exact ⟨rfl, Below.refl _ _⟩
  · have hd : decide (1048576 < (n : Int)) = false := by simp; omega
    rw [hd] at hbig
    have Hbig := Lib.hid hbig
    have hcode := Lib.hid (h (by omega))
    have HD := Lib.hid (fun W h => DrawQuantile_any A n c W h)
    clear hbig hd h
    go_enter Try.func10, Try.ntmps10
    go_wp2_with fail
    refine (Hbig.out _).mono ?_
    rintro e w' ⟨rfl, rfl⟩
    go_wp2_with fail
    refine (HD.out _ hcode.out).mono ?_
    rintro e w1 ⟨v, a, m, rfl, hown, hal, har, hmr, hb1⟩
    have HP1 := Lib.hid (PL.of_own hown rfl (fun j => prng_of har j) (by omega))
    have HB1 := Lib.hid hb1
    obtain ⟨-, -, A1, c1, rfl, hc1⟩ := HP1.out
    have HC1 := Lib.hid hc1
    clear hown har hmr hb1 hc1 HD hcode
    have hI := Lib.hid (fun m' W (hW : PL W W.heap.size (.slice A1 a.length c1) a) => implQuantile_any _ a m' W hW)
    have hS := Lib.hid (fun m' W (hW : PL W W.heap.size (.slice A1 a.length c1) a) => specQuantile_any _ a m' W hW)
    cases eq : quB a m with
    | false =>
      have hI' := Lib.hid (hI.out m)
      have hS' := Lib.hid (hS.out m)
      rw [quM_no eq] at hI' hS'
      clear hI hS eq
      go_wp2_with fail
      refine (hI'.out _ HP1.out).mono ?_
      rintro e w2 ⟨rfl, hb2⟩
      have HB2 := Lib.hid (HB1.out.trans (hb2.mono HB1.out.size))
      have HP2 := Lib.hid ((HP1.out.below hb2).up hb2.size)
      clear hb2
      go_wp2_with fail
      refine (hS'.out _ HP2.out).mono ?_
      rintro e w3 ⟨rfl, hb3⟩
      have HB3 := Lib.hid (HB2.out.trans (hb3.mono HB2.out.size))
      clear hb3
      go_wp2_with fail
      go_ret
      exact ⟨rfl, HB3.out⟩
    | true =>
      have HM := Lib.hid (quB_parts eq).2.2
      obtain ⟨f1, f2, f3, f4, f5, f6, f7, f8⟩ := qu_facts eq
      have F3 := Lib.hid f3
      have F6 := Lib.hid f6
      have F7 := Lib.hid f7
      have F8 := Lib.hid f8
      have hI' := Lib.hid (hI.out m)
      have hI0 := Lib.hid (hI.out 0)
      have hI1 := Lib.hid (hI.out 1000)
      have hIm := Lib.hid (hI.out (m + 1))
      have hS' := Lib.hid (hS.out m)
      rw [quM_yes eq] at hI' hS'
      rw [f1] at hI0
      rw [f2] at hI1
      have HVL := Lib.hid (show (a.map Prod.snd).length = a.length by simp)
      have HG := Lib.hid (vsOf_getD a)
      have HCS := Lib.hid (fun (k : Nat) (hk : k < (a.map Prod.snd).length) (v : Int) => cnt_snoc hk v)
      clear hI hS eq f1 f2 f3 f6 f7 f8
      obtain ⟨lo, hlo⟩ : ∃ lo, quV a 0 = lo := ⟨_, rfl⟩
      obtain ⟨hi, hhi⟩ : ∃ hi, quV a 1000 = hi := ⟨_, rfl⟩
      obtain ⟨q, hq⟩ : ∃ q, quV a m = q := ⟨_, rfl⟩
      obtain ⟨nx, hnx⟩ : ∃ nx, quV a (m + 1) = nx := ⟨_, rfl⟩
      rw [hlo] at hI0 f4 F7
      rw [hhi] at hI1 f5 F7
      rw [hq] at hI' hS' f4 f5 F6 F8
      rw [hnx] at F3 F6
      clear hlo hhi hq hnx
      generalize a.map Prod.snd = V at *
      go_wp2_with fail
      refine (hI'.out _ HP1.out).mono ?_
      rintro e w2 ⟨rfl, hb2⟩
      have HB2 := Lib.hid (HB1.out.trans (hb2.mono HB1.out.size))
      have HP2 := Lib.hid ((HP1.out.below hb2).up hb2.size)
      clear hb2
      go_wp2_with fail
      refine (hS'.out _ HP2.out).mono ?_
      rintro e w3 ⟨rfl, hb3⟩
      have HB3 := Lib.hid (HB2.out.trans (hb3.mono HB2.out.size))
      have HP3 := Lib.hid ((HP2.out.below hb3).up hb3.size)
      clear hb3
      go_wp2_with fail
      refine (hI0.out _ HP3.out).mono ?_
      rintro e w4 ⟨rfl, hb4⟩
      have HB4 := Lib.hid (HB3.out.trans (hb4.mono HB3.out.size))
      have HP4 := Lib.hid ((HP3.out.below hb4).up hb4.size)
      clear hb4
      go_wp2_with fail
      refine (hI1.out _ HP4.out).mono ?_
      rintro e w5 ⟨rfl, hb5⟩
      have HB5 := Lib.hid (HB4.out.trans (hb5.mono HB4.out.size))
      have HP5 := Lib.hid ((HP4.out.below hb5).up hb5.size)
      clear hb5 HB1 HB2 HB3 HB4 HP1 HP2 HP3 HP4 hI' hS' hI0 hI1 HC1
      obtain ⟨-, -, A5, c5, he5, h5⟩ := HP5.out
      injection he5 with e51 e52 e53
      subst e51 e53
      have H5 := Lib.hid h5
      clear h5 e52
      go_wp2_with fail
      go_loop [13, 14] (fun s i => ∃ k cnt : Nat, k ≤ a.length ∧ i = .int .i64 (k : Int) ∧ s = .int .i64 (cnt : Int) ∧ cnt ≤ k ∧ Hid ((V.take k).countP (fun x => decide (x < q)) = cnt)) (fun _ i => a.length - (Go.RowKit.intOf i).toNat)
      case atStart => exact ⟨0, 0, Nat.zero_le _, by simp, by simp, Nat.le_refl _, Lib.hid (by simp)⟩
      case round =>
        obtain ⟨k, cnt, hk, rfl, rfl, hck, HC⟩ := hrel
        by_cases hlt : k < a.length
        · rcases H5.out with h3 | ⟨b1, o1, rfl, hbl1, hc1⟩
          · rw [h3] at hlt; simp at hlt
          have hx : w5.cell? ⟨b1, o1 + k * 2 + 1, none⟩ = some (.int .i64 (a.getD k (0, 0)).2) := (hc1 k hlt).2
          have hf := F7.out k hlt
          have hcs := HCS.out k (by rw [HVL.out]; exact hlt) q
          rw [HC.out] at hcs
          rw [HG.out] at hf hcs
          have HCS' := Lib.hid hcs
          clear hc1 hcs
          generalize (a.getD k (0, 0)).2 = x at *
          by_cases hxq : x < q
          · have G : Hid ((V.take (k + 1)).countP (fun x => decide (x < q)) = cnt + 1) := Lib.hid (by rw [HCS'.out, if_pos hxq])
            have g1 : ¬ x < lo := by omega
            have g2 : ¬ hi < x := by omega
            clear HCS'
            go_wp2_with fail
            go_round
            case rel => exact ⟨k + 1, cnt + 1, by omega, by go_num, by go_num, by omega, G⟩
            case measure => simp [Go.RowKit.intOf]; omega
          · have G : Hid ((V.take (k + 1)).countP (fun x => decide (x < q)) = cnt) := Lib.hid (by rw [HCS'.out, if_neg hxq]; omega)
            have g1 : ¬ x < lo := by omega
            have g2 : ¬ hi < x := by omega
            clear HCS'
            go_wp2_with fail
            go_round
            case rel => exact ⟨k + 1, cnt, by omega, by go_num, by go_num, by omega, G⟩
            case measure => simp [Go.RowKit.intOf]; omega
        · obtain rfl : k = a.length := by omega
          have f8 := F8.out
          have hcc := HC.out
          rw [List.take_of_length_le (by rw [HVL.out]; exact Nat.le_refl _)] at hcc
          rw [hcc] at f8
          have hmil := HM.out
          unfold milB at hmil
          have hmil := of_decide_eq_true hmil
          have hmul : 0 ≤ (a.length : Int) * m ∧ (a.length : Int) * m ≤ 9000 := by
            constructor
            · exact Int.mul_nonneg (by omega) hmil.1
            · have := Int.mul_le_mul (show (a.length : Int) ≤ 9 by omega) hmil.2 hmil.1 (by omega)
              omega
          have e1 : IntKind.i64.wrap ((a.length : Int) * m) = (a.length : Int) * m := IntWalk.i64_in _ (by omega)
          have e1' : wrap64 ((a.length : Int) * m) = (a.length : Int) * m := by unfold wrap64; omega
          have HE1 := Lib.hid e1'
          have e2 : IntKind.i64.wrap ((cnt : Int) * 1000) = (cnt : Int) * 1000 := IntWalk.i64_in _ (by omega)
          have hF := Lib.hid (show (cnt : Int) * 1000 ≤ wrap64 ((a.length : Int) * m) by rw [e1']; exact f8)
          have f6 := F6.out
          have f3 := F3.out
          clear hcc f8 hmul e1 e1'
          by_cases hm : m < 1000
          · have h6 := f6 hm
            have hIM := hIm.out
            rw [f3 hm] at hIM
            have HIM := Lib.hid hIM
            have em : IntKind.i64.wrap (m + 1) = m + 1 := IntWalk.i64_in _ (by omega)
            clear f3 f6 hIM
            go_wp2_with fail
            refine (HIM.out _ HP5.out).mono ?_
            rintro e w6 ⟨rfl, hb6⟩
            have HB6 := Lib.hid (HB5.out.trans (hb6.mono HB5.out.size))
            clear hb6 em
            have hF' := hF.out
            go_wp2_with fail
            go_ret
            exact ⟨by first | rfl | (simp; omega) | (congr 2; simp; omega), HB6.out⟩
          · clear f3 f6
            have hF' := hF.out
            have hqq : q ≤ q := Int.le_refl _
            go_wp2_with fail
            go_ret
            exact ⟨by first | rfl | (simp; omega) | (congr 2; simp; omega), HB5.out⟩
end Go.Proofs.Ytljmiodkmddllaa
