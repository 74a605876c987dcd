/- Walks: rolls of rolls: the program. -/
import Derived.Test.YthmkjenamnmbiabYs
import Derived.Test.YthmkjenamnmbiabYu
import Derived.Test.YthmkjenamnmbiabYc
set_option linter.unusedVariables false
set_option linter.unusedSimpArgs false
namespace Go.Proofs.Ythmkjenamnmbiab
open Go.RowKit Go.Shelf

attribute [local go_sem] Oper.semAt_some

set_option maxRecDepth 100000 in
set_option maxHeartbeats 4000000 in
theorem values1_in (n : Nat) (hn : 1 ≤ n) (l Bn n₀ : Nat) (A : Option Addr) (c : Nat) (xs : List R6) (hg : ∀ j, j < xs.length → 0 ≤ (xs.getD j z6).1 ∧ Rng6 (xs.getD j z6)) (J Jx : List RX → World → Prop)
    (hY : ∀ pre (x : RX) W, J pre W → pre.length < xs.length → YieldAt Fence.wide (n - 1) Try.prog l #[agR x.1] W fun e W' =>
      (e = .returned (.bool true) ∧ J (pre ++ [x]) W' ∧ Below n₀ W W') ∨ (e = .returned (.bool false) ∧ Jx (pre ++ [x]) W'))
    (W : World) (hBn : W.cell? ⟨Bn, 0, none⟩ = some (.slice A xs.length c)) (hn₀ : n₀ ≤ W.heap.size) (hP : RL W n₀ (.slice A xs.length c) xs) (hJ : AbidesFrom W.heap.size J) (h0 : J [] W) :
    CallsIn Fence.wide n Try.prog 103 #[.func (.yield l) #[] #[], .pointer (some ⟨Bn, 0, none⟩)] W fun e W' => (∃ v, e = .returned v) ∧
      ((∃ ys, ys = xs.map rxOf ∧ J ys W') ∨ (∃ pre, pre <+: xs.map rxOf ∧ Jx pre W')) := by
  obtain ⟨_, hl, A', c', hA, h3⟩ := hP
  cases hA
  have HG := Lib.hid hg
  have HJ := Lib.hid hJ
  have HY := Lib.hid hY
  clear hg hJ hY
  refine callsIn_of_wp Try.func103 rfl trivial ?_ rfl
  simp only [Try.ntmps103, List.size_toArray, List.length_cons, List.length_nil, Nat.reduceAdd, Nat.reduceSub, Array.replicate_succ, Array.replicate_zero, List.push_toArray, List.append_toArray, List.nil_append, List.cons_append]
  gi_wp2
  gi_loopw [7] (fun i wr => ∃ k : Nat, k ≤ xs.length ∧ i = .int .i64 k ∧ Hid (J ((xs.take k).map rxOf) wr) ∧ W.heap.size ≤ wr.heap.size ∧ Below n₀ W wr)
    (fun i _ => xs.length - (intOf i).toNat)
  case atStart => exact ⟨0, Nat.zero_le _, rfl, Lib.hid h0, Nat.le_refl _, Below.refl _ _⟩
  case round =>
    obtain ⟨k, hk, rfl, HJk, hsz, hb⟩ := hrel
    by_cases hlt : k < xs.length
    · rcases h3 with h3 | ⟨b, off, rfl, hbl, hc⟩
      · subst h3; simp at hlt
      have hx0 : wr.cell? ⟨b, off + k * 6, none⟩ = some (.int .i64 (xs.getD k z6).1) := (hb.cell (p := ⟨b, off + k * 6, none⟩) hbl).trans (hc k hlt).1
      have hx1 : wr.cell? ⟨b, off + k * 6 + 1, none⟩ = some (.int .i64 (xs.getD k z6).2.1) := (hb.cell (p := ⟨b, off + k * 6 + 1, none⟩) hbl).trans (hc k hlt).2.1
      have hx2 : wr.cell? ⟨b, off + k * 6 + 2, none⟩ = some (.int .i64 (xs.getD k z6).2.2.1) := (hb.cell (p := ⟨b, off + k * 6 + 2, none⟩) hbl).trans (hc k hlt).2.2.1
      have hx3 : wr.cell? ⟨b, off + k * 6 + 3, none⟩ = some (.int .i64 (xs.getD k z6).2.2.2.1) := (hb.cell (p := ⟨b, off + k * 6 + 3, none⟩) hbl).trans (hc k hlt).2.2.2.1
      have hx4 : wr.cell? ⟨b, off + k * 6 + 4, none⟩ = some (.int .i64 (xs.getD k z6).2.2.2.2.1) := (hb.cell (p := ⟨b, off + k * 6 + 4, none⟩) hbl).trans (hc k hlt).2.2.2.2.1
      have hx5 : wr.cell? ⟨b, off + k * 6 + 5, none⟩ = some (.int .i64 (xs.getD k z6).2.2.2.2.2) := (hb.cell (p := ⟨b, off + k * 6 + 5, none⟩) hbl).trans (hc k hlt).2.2.2.2.2
      clear hc
      have hgk := HG.out k hlt
      have HT : Hid ((xs.take (k + 1)).map rxOf = (xs.take k).map rxOf ++ [rxOf (xs.getD k z6)]) := Lib.hid (by
        rw [List.take_add_one, List.getElem?_eq_getElem hlt, List.getD_eq_getElem?_getD, List.getElem?_eq_getElem hlt, List.map_append]
        rfl)
      have HLen : Hid (((xs.take k).map rxOf).length < xs.length) := Lib.hid (by rw [List.length_map, List.length_take]; omega)
      have HPre : Hid ((xs.take (k + 1)).map rxOf <+: xs.map rxOf) := Lib.hid (by
        rw [List.map_take]; exact List.take_prefix _ _)
      obtain ⟨pre1, hp1⟩ : ∃ q, q = (xs.take (k + 1)).map rxOf := ⟨_, rfl⟩
      rw [← hp1] at HT HPre
      have HZ := Lib.hid hp1
      clear hp1
      generalize (xs.take k).map rxOf = pre at *
      have HX : Hid ((rxOf (xs.getD k z6)).1 = xs.getD k z6) := Lib.hid (rxOf_eq hgk)
      generalize rxOf (xs.getD k z6) = rx at *
      generalize xs.getD k z6 = p at *
      obtain ⟨x0, x1, x2, x3, x4, x5⟩ := p
      simp only at hx0 hx1 hx2 hx3 hx4 hx5
      have HB := Lib.hid hb
      have Hsz := Lib.hid hsz
      clear hgk hb hsz
      have HB2 := Lib.hid (HB.out.alloc (by have := Hsz.out; omega) (.cells #[.int .i64 x0, .int .i64 x1, .int .i64 x2, .int .i64 x3, .int .i64 x4, .int .i64 x5] 53))
      obtain ⟨fn, tmps, assign, body, hy, hR⟩ := HY.out pre rx (wr.alloc (.cells #[.int .i64 x0, .int .i64 x1, .int .i64 x2, .int .i64 x3, .int .i64 x4, .int .i64 x5] 53)) (HJ.out _ _ _ none HJk.out (World.grownBy_alloc wr _ none) (fun r e => by cases e)) HLen.out
      rw [HX.out] at hy
      dsimp only [agR] at hy
      gi_wp2
      refine hR.mono ?_
      rintro e W3 (⟨rfl, hJ3, hk3⟩ | ⟨rfl, hJx3⟩)
      · gi_wp2
        go_roundw
        case rel => exact ⟨k + 1, by omega, by go_num, Lib.hid (by rw [← HZ.out, HT.out]; exact hJ3), by have := hk3.size; have := Hsz.out; simp at *; omega, HB2.out.trans hk3⟩
        case measure => simp [intOf]; omega
      · gi_wp2
        refine bodyPost_ret (results_none rfl _ _ _) rfl ?_
        exact ⟨⟨_, rfl⟩, .inr ⟨pre1, HPre.out, by rw [HT.out]; exact hJx3⟩⟩
    · obtain rfl : k = xs.length := by omega
      rw [List.take_length] at HJk
      gi_wp2
      go_end0
      exact ⟨⟨_, rfl⟩, .inl ⟨_, rfl, HJk.out⟩⟩

theorem values_stops (n : Nat) (hn : 1 ≤ n) (Bn n₀ : Nat) (A : Option Addr) (c : Nat) (xs : List R6) (hg : ∀ j, j < xs.length → 0 ≤ (xs.getD j z6).1 ∧ Rng6 (xs.getD j z6))
    (w : World) (hBn : Bn < w.heap.size) (hn₀ : n₀ ≤ w.heap.size) (hc : w.cell? ⟨Bn, 0, none⟩ = some (.slice A xs.length c)) (hP : RL w n₀ (.slice A xs.length c) xs) :
    SeqStopsK Fence.wide n Try.prog 103 #[.pointer (some ⟨Bn, 0, none⟩)] (fun x : RX => #[agR x.1]) (Below n₀) (fun ys => ys = xs.map rxOf) (fun pre => pre <+: xs.map rxOf) xs.length w := fun l J Jx W hW hJ _ hY h0 =>
  values1_in n hn l Bn n₀ A c xs hg J Jx hY W ((hW.cell (p := ⟨Bn, 0, none⟩) hBn).trans hc) (Nat.le_trans hn₀ hW.size) (hP.below (hW.mono hn₀)) hJ h0

set_option maxRecDepth 100000 in
set_option maxHeartbeats 1000000 in
theorem values_any (A : Option Addr) (n c : Nat) (w : World) :
    Calls Try.prog 72 #[.slice A n c] w fun e w' => e = .returned (.func (.func 103) #[] #[.pointer (some ⟨w.heap.size, 0, none⟩)]) ∧ w' = w.alloc (.cells #[.slice A n c] 25) := by
  go_enter Try.func72, Try.ntmps72
  go_wp2_with fail
  go_ret
  exact ⟨rfl, rfl⟩

theorem winR_D {W : Int} {x : R6} : winR W x = winD W x := by
  have := Int.emod_add_mul_ediv x.1 W
  have h2 := Int.mul_comm W (x.1 / W)
  unfold winR winD
  simp only [Prod.mk.injEq, and_true]
  omega
theorem foldI_coar {xs : List R6} {W : Int} (hg : ∀ j, j < xs.length → 0 ≤ (xs.getD j z6).1 ∧ Rng6 (xs.getD j z6)) (hi : ∀ j, j < xs.length → j = 0 ∨ (xs.getD (j - 1) z6).1 < (xs.getD j z6).1) (hW : 1 ≤ W) :
    ∀ k, k ≤ xs.length → foldI W ((xs.take k).map rxOf) = coarL (xs.take k) W ∧ (0 < k → (lastR (coarL (xs.take k) W)).1 = (xs.getD (k - 1) z6).1 / W * W) := by
  intro k
  induction k with
  | zero => intro _; exact ⟨rfl, fun h => by omega⟩
  | succ k ih =>
    intro hk
    obtain ⟨h1, h2⟩ := ih (by omega)
    have hlt : k < xs.length := by omega
    have hs := coarL_succ (l := xs) W hlt
    have hm : (xs.take (k + 1)).map rxOf = (xs.take k).map rxOf ++ [rxOf (xs.getD k z6)] := by
      rw [List.take_add_one, List.getElem?_eq_getElem hlt, List.getD_eq_getElem?_getD, List.getElem?_eq_getElem hlt, List.map_append]
      rfl
    have hl : (lastR (coarL (xs.take (k + 1)) W)).1 = (xs.getD k z6).1 / W * W := by rw [hs, lastR_addS]; rfl
    refine ⟨?_, fun _ => by rw [hl]; rfl⟩
    rw [hm, foldI_snoc, rxOf_eq (hg k hlt), h1, addI_eq ?_, winR_D, hs]
    by_cases h0 : (coarL (xs.take k) W).length = 0
    · exact .inl h0
    · right
      have hk0 : 0 < k := by
        rcases Nat.eq_zero_or_pos k with e | e
        · subst e; exact absurd rfl h0
        · exact e
      rw [winR_D, h2 hk0]
      rcases hi k hlt with e | e
      · omega
      · exact ediv_mono_mul (Int.le_of_lt e) hW


set_option maxRecDepth 100000 in
set_option maxHeartbeats 4000000 in
theorem implCoarser_any (v : Value) (xs : List R6) (W to : Int) (w : World) (h : RL w w.heap.size v xs) :
    Calls Try.prog 29 #[v, .int .i64 W, .int .i64 to] w (RFlagPost w.heap.size (crsM xs W to) (crsB xs W to) w) := by
  have HP := Lib.hid h
  have hS := Lib.hid (fun W' h => implRollsOk_any v xs W W' h)
  have hW := Lib.hid (fun w => widthOk_any to w)
  have hS2 := Lib.hid (fun v W' h => implRollsOk_any v (coarL xs to) to W' h)
  obtain ⟨hr, hl, A, c, rfl, _⟩ := h
  have Hr := Lib.hid hr
  clear hr
  cases hs : rollsOkB xs W with
  | false =>
    have E2 := Lib.hid (show crsB xs W to = false from by unfold crsB; rw [hs]; rfl)
    have E := Lib.hid (show crsM xs W to = [] from by unfold crsM; rw [if_neg (by rw [E2.out]; simp)])
    rw [hs] at hS
    clear hs
    go_enter Try.func29, Try.ntmps29
    go_wp2_with fail
    refine (hS.out _ HP.out).mono ?_
    rintro e w1 ⟨rfl, hb1⟩
    go_wp2_with fail
    go_ret2
    exact ⟨_, by rw [E2.out]; rfl, by rw [E.out]; exact World.ownsRow_nil _ _ _ _, hb1⟩
  | true =>
    rw [hs] at hS
    have hwi := rollsOkB_in hs
    have hlen := hwi.1
    have HT := Lib.hid (fun j hj => (gdR_in (hwi.2.2 j hj)).1.1)
    have HInc := Lib.hid (fun j hj => (gdR_in (hwi.2.2 j hj)).2.2)
    have hwz : (W == 0) = false := by simpa using (show ¬ W = 0 by omega)
    have hw0 : ¬ W = 0 := by omega
    clear hwi
    cases hwd : wdB to with
    | false =>
      have E2 := Lib.hid (show crsB xs W to = false from by unfold crsB; rw [hs, hwd]; rfl)
      have E := Lib.hid (show crsM xs W to = [] from by unfold crsM; rw [if_neg (by rw [E2.out]; simp)])
      rw [hwd] at hW
      clear hs hwd
      go_enter Try.func29, Try.ntmps29
      go_wp2_with fail
      refine (hS.out _ HP.out).mono ?_
      rintro e w1 ⟨rfl, hb1⟩
      go_wp2_with (go_at_call 61; refine (hW.out _).mono ?_; rintro e w' ⟨rfl, rfl⟩)
      go_ret2
      exact ⟨_, by rw [E2.out]; rfl, by rw [E.out]; exact World.ownsRow_nil _ _ _ _, hb1⟩
    | true =>
      rw [hwd] at hW
      obtain ⟨ht1, ht2⟩ := wdB_in hwd
      have htm : to.tmod W = to % W := Int.tmod_eq_emod_of_nonneg (by omega)
      by_cases hm : to % W = 0
      case neg =>
        have E2 := Lib.hid (show crsB xs W to = false from by unfold crsB; rw [hs, hwd, decide_eq_false hm]; rfl)
        have E := Lib.hid (show crsM xs W to = [] from by unfold crsM; rw [if_neg (by rw [E2.out]; simp)])
        have hm' : (to % W != 0) = true := by simpa using hm
        have hm'' : decide (to % W = 0) = false := decide_eq_false hm
        clear hs hwd
        go_enter Try.func29, Try.ntmps29
        go_wp2_with fail
        refine (hS.out _ HP.out).mono ?_
        rintro e w1 ⟨rfl, hb1⟩
        go_wp2_with (go_at_call 61; refine (hW.out _).mono ?_; rintro e w' ⟨rfl, rfl⟩)
        go_ret2
        exact ⟨_, by rw [E2.out]; rfl, by rw [E.out]; exact World.ownsRow_nil _ _ _ _, hb1⟩
      have hm' : (to % W != 0) = false := by simpa using hm
      have hm'' : decide (to % W = 0) = true := decide_eq_true hm
      have YR := Lib.hid (rrs_getD (coarL_ok xs to Hr.out HT.out ht1))
      have hyl : (coarL xs to).length ≤ 1048576 := Nat.le_trans (coarL_len xs to) hl
      have hVA := Lib.hid (fun w => values_any A xs.length c w)
      have HF := Lib.hid (show foldI to (xs.map rxOf) = coarL xs to from by
        have := (foldI_coar (fun j hj => ⟨HT.out j hj, Hr.out j⟩) HInc.out ht1 xs.length (Nat.le_refl _)).1
        rwa [List.take_length] at this)
      cases ho : rollsOkB (coarL xs to) to
      all_goals
        have E2 := Lib.hid (show crsB xs W to = _ from by unfold crsB; rw [hs, hwd, decide_eq_true hm, ho])
        have E := Lib.hid (show crsM xs W to = if crsB xs W to = true then coarL xs to else [] from rfl)
        rw [E2.out] at E
        rw [ho] at hS2
        go_enter Try.func29, Try.ntmps29
        go_wp2_with fail
        refine (hS.out _ HP.out).mono ?_
        rintro e w1 ⟨rfl, hb1⟩
        have HB1 := Lib.hid hb1
        clear hb1
        go_wp2_with (go_at_call 61; refine (hW.out _).mono ?_; rintro e w' ⟨rfl, rfl⟩)
        refine (hVA.out _).mono ?_
        rintro e wv ⟨rfl, hwv⟩
        have hbv : Below w1.heap.size w1 wv := by rw [hwv]; exact (Below.refl _ _).alloc (Nat.le_refl _) _
        have hcell : wv.cell? ⟨w1.heap.size, 0, none⟩ = some (.slice A xs.length c) := by rw [hwv]; go_simp
        have hsv : w1.heap.size < wv.heap.size := by rw [hwv]; simp
        have HBv := Lib.hid (HB1.out.trans (hbv.mono HB1.out.size))
        have HPv := Lib.hid (HP.out.below HBv.out)
        have HC := Lib.hid (combined_any 103 #[.pointer (some ⟨w1.heap.size, 0, none⟩)] (xs.map rxOf) to wv ht1 (by rw [List.length_map]; omega) (enters_of Try.func103 (by kernel_rfl) rfl) _
          (by rw [List.length_map]; exact values_stops 3 (by omega) w1.heap.size wv.heap.size A c xs (fun j hj => ⟨HT.out j hj, Hr.out j⟩) wv hsv (Nat.le_refl _) hcell (HPv.out.up HBv.out.size)))
        clear hwv hbv hcell HPv
        go_wp2_with fail
        refine HC.out.mono ?_
        rintro e w2 ⟨v2, rfl, hown2, hb2⟩
        rw [HF.out] at hown2
        have HO2 := Lib.hid (own_mono hown2 HBv.out.size)
        have HB2 := Lib.hid (HBv.out.trans (hb2.mono HBv.out.size))
        clear hown2 hb2 HC
        have Hz := Lib.hid HB2.out.size
        go_wp2_with fail
        refine (hS2.out _ _ (RL.of_own HO2.out rfl YR.out hyl)).mono ?_
        rintro e w5 ⟨rfl, hb5⟩
        have HO5 := Lib.hid (u_own_below HO2.out hb5)
        have HB5 := Lib.hid (HB2.out.trans (hb5.mono Hz.out))
        clear hb5
        go_wp2_with fail
        go_ret2
        exact ⟨_, by rw [E2.out]; rfl, by rw [E.out]; first | exact HO5.out | exact World.ownsRow_nil _ _ _ _, HB5.out⟩

end Go.Proofs.Ythmkjenamnmbiab
