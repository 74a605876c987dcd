/- Walks: rolls of rolls: the model. -/
import Derived.Test.YthmkjenamnmbiabYq
import Derived.Test.YthmkjenamnmbiabYd
set_option linter.unusedVariables false
set_option linter.unusedSimpArgs false
namespace Go.Proofs.Ythmkjenamnmbiab
open Go.RowKit

def winD (W : Int) (x : R6) : R6 := (x.1 / W * W, x.2)
def coarL (l : List R6) (to : Int) : List R6 := (l.map (winD to)).foldl addS []
def crsB (l : List R6) (W to : Int) : Bool := rollsOkB l W && (wdB to && (decide (to % W = 0) && rollsOkB (coarL l to) to))
def crsM (l : List R6) (W to : Int) : List R6 := if crsB l W to = true then coarL l to else []
theorem RS.more {w w' : World} {ad : Addr} {xs : List R6} (h : RS w w.heap.size ad xs) (hb : Below w.heap.size w w') : RS w' w'.heap.size ad xs :=
  ⟨h.1, Nat.lt_of_lt_of_le h.2.1 hb.size, (h.below hb).2.2⟩
theorem coarL_succ {l : List R6} {k : Nat} (W : Int) (hk : k < l.length) : coarL (l.take (k + 1)) W = addS (coarL (l.take k) W) (winD W (l.getD k z6)) := by
  unfold coarL
  rw [List.take_add_one, List.getElem?_eq_getElem hk, List.getD_eq_getElem?_getD, List.getElem?_eq_getElem hk, List.map_append, List.foldl_append]
  rfl
theorem coarL_len (l : List R6) (W : Int) : (coarL l W).length ≤ l.length := by
  have := rollsF_len (l.map (winD W)) []
  rw [List.length_map, List.length_nil] at this
  unfold coarL; omega
theorem rollsOkB_in {l : List R6} {W : Int} (h : rollsOkB l W = true) : l.length ≤ 400 ∧ (1 ≤ W ∧ W ≤ 1000000) ∧ ∀ j, j < l.length → gdR l W j = true := by
  unfold rollsOkB at h
  rw [Bool.and_eq_true, Bool.and_eq_true, decide_eq_true_eq] at h
  exact ⟨h.1.2, wdB_in h.1.1, fun j hj => gdToR_at h.2 hj⟩
theorem gdR_in {l : List R6} {W : Int} {j : Nat} (h : gdR l W j = true) : (0 ≤ (l.getD j z6).1 ∧ (l.getD j z6).1 ≤ 1000000000000) ∧ (l.getD j z6).1 % W = 0 ∧ (j = 0 ∨ (l.getD (j - 1) z6).1 < (l.getD j z6).1) := by
  unfold gdR okRB at h
  simp only [Bool.and_eq_true, Bool.or_eq_true, decide_eq_true_eq] at h
  exact ⟨h.1.1.1, h.1.1.2, h.2⟩
theorem coarL_ok (l : List R6) (W : Int) (hr : ∀ j, Rng6 (l.getD j z6)) (hp : ∀ j, j < l.length → 0 ≤ (l.getD j z6).1) (hW : 1 ≤ W) : RRs (coarL l W) := by
  refine rrs_fold _ [] (fun p hp => by simp at hp) (fun x hx => ?_)
  obtain ⟨p, hp1, rfl⟩ := List.mem_map.1 hx
  obtain ⟨i, hi, rfl⟩ := List.getElem_of_mem hp1
  have h1 := hr i
  have h2 := hp i hi
  rw [List.getD_eq_getElem?_getD, List.getElem?_eq_getElem hi] at h1 h2
  simp only [Option.getD_some] at h1 h2
  have h3 := div_small (W := W) h2 hW
  have h4 : Rng (l[i].1 / W * W) := by
    have h5 := h1.1
    unfold Rng at h5 ⊢
    omega
  exact ⟨h4, h1.2⟩
theorem crsM_ok (l : List R6) (W to : Int) (hr : ∀ j, Rng6 (l.getD j z6)) (hl : l.length ≤ 1048576) : (∀ j, Rng6 ((crsM l W to).getD j z6)) ∧ (crsM l W to).length ≤ 1048576 := by
  unfold crsM
  split
  · rename_i h
    unfold crsB at h
    rw [Bool.and_eq_true, Bool.and_eq_true] at h
    have h1 := rollsOkB_in h.1
    exact ⟨rrs_getD (coarL_ok l to hr (fun j hj => (gdR_in (h1.2.2 j hj)).1.1) (wdB_in h.2.1).1), Nat.le_trans (coarL_len l to) hl⟩
  · exact ⟨fun j => rng6_zero, Nat.zero_le _⟩

set_option maxRecDepth 100000 in
set_option maxHeartbeats 2000000 in
theorem specL7Coarser_any (v : Value) (xs : List R6) (W : Int) (w : World) (h : RL w w.heap.size v xs) (hp : ∀ j, j < xs.length → 0 ≤ (xs.getD j z6).1) (hlen : xs.length ≤ 400) (hW : 1 ≤ W) (hW2 : W ≤ 1000000) :
    Calls Try.prog 71 #[v, .int .i64 W] w (ROwnPost w.heap.size (coarL xs W) w) := by
  have HP := Lib.hid hp
  obtain ⟨hr, _, A, c, rfl, h3⟩ := h
  have HR6 := Lib.hid hr
  clear hr hp
  have HA := Lib.hid (fun b off c xs a0 a1 a2 a3 a4 a5 W h hl => l7Add_any b off c xs a0 a1 a2 a3 a4 a5 W h hl)
  have HL := Lib.hid (fun k => coarL_len (xs.take k) W)
  have hwz : (W == 0) = false := by simpa using (show ¬ W = 0 by omega)
  have hw0 : ¬ W = 0 := by omega
  go_enter Try.func71, Try.ntmps71
  go_wp2_with fail
  go_loopw [5, 6] (fun v i wr => ∃ k : Nat, k ≤ xs.length ∧ i = .int .i64 k ∧ Hid (GRow wr w.heap.size v (coarL (xs.take k) W)) ∧ Below w.heap.size w wr)
    (fun _ i _ => xs.length - (intOf i).toNat)
  case atStart => exact ⟨0, Nat.zero_le _, rfl, Lib.hid (GRow.made w (Nat.le_refl _)), (Below.refl _ _).alloc (Nat.le_refl _) _⟩
  case round =>
    obtain ⟨k, hk, rfl, HG, hb⟩ := hrel
    have hsz := hb.size
    by_cases hlt : k < xs.length
    · rcases h3 with h3 | ⟨b, off, rfl, hbl, hc⟩
      · subst h3; simp at hlt
      have hx0 : wr.cell? ⟨b, off + k * 6, none⟩ = some (.int .i64 (xs.getD k z6).1) := (hb.cell (p := ⟨b, off + k * 6, none⟩) hbl).trans (hc k hlt).1
      have hx1 : wr.cell? ⟨b, off + k * 6 + 1, none⟩ = some (.int .i64 (xs.getD k z6).2.1) := (hb.cell (p := ⟨b, off + k * 6 + 1, none⟩) hbl).trans (hc k hlt).2.1
      have hx2 : wr.cell? ⟨b, off + k * 6 + 2, none⟩ = some (.int .i64 (xs.getD k z6).2.2.1) := (hb.cell (p := ⟨b, off + k * 6 + 2, none⟩) hbl).trans (hc k hlt).2.2.1
      have hx3 : wr.cell? ⟨b, off + k * 6 + 3, none⟩ = some (.int .i64 (xs.getD k z6).2.2.2.1) := (hb.cell (p := ⟨b, off + k * 6 + 3, none⟩) hbl).trans (hc k hlt).2.2.2.1
      have hx4 : wr.cell? ⟨b, off + k * 6 + 4, none⟩ = some (.int .i64 (xs.getD k z6).2.2.2.2.1) := (hb.cell (p := ⟨b, off + k * 6 + 4, none⟩) hbl).trans (hc k hlt).2.2.2.2.1
      have hx5 : wr.cell? ⟨b, off + k * 6 + 5, none⟩ = some (.int .i64 (xs.getD k z6).2.2.2.2.2) := (hb.cell (p := ⟨b, off + k * 6 + 5, none⟩) hbl).trans (hc k hlt).2.2.2.2.2
      clear hc
      have HS := coarL_succ W hlt
      have ht := HP.out k hlt
      have hr6 := (HR6.out k).1
      have hlk : (coarL (xs.take k) W).length ≤ 400 := by
        have h1 := HL.out k
        rw [List.length_take] at h1
        omega
      have hpos : 0 < (coarL (xs.take (k + 1)) W).length := by rw [HS]; exact addS_pos _ _
      have hlk1 : (coarL (xs.take (k + 1)) W).length ≤ 1048576 := by
        have h1 := HL.out (k + 1)
        rw [List.length_take] at h1
        omega
      generalize xs.getD k z6 = p at *
      obtain ⟨x0, x1, x2, x3, x4, x5⟩ := p
      simp only at hx0 hx1 hx2 hx3 hx4 hx5 ht hr6
      obtain ⟨zs, hzs⟩ : ∃ zs, zs = coarL (xs.take (k + 1)) W := ⟨_, rfl⟩
      rw [← hzs] at HS hpos hlk1
      have HZ := Lib.hid hzs
      clear hzs
      have HS := Lib.hid HS
      obtain ⟨g, cc, rfl, hRS, hown⟩ := HG.out
      have HO := Lib.hid hown
      have HR := Lib.hid hRS
      have HB := Lib.hid hb
      have Hl := Lib.hid hlk
      have Hp := Lib.hid hpos
      have Hl1 := Lib.hid hlk1
      clear HG hown hRS hb hlk hpos hlk1
      have hd := div_small (W := W) ht hW
      unfold Rng at hr6
      have e1 : wrap64 (x0 / W * W) = x0 / W * W := by unfold wrap64; omega
      have e2 : IntKind.i64.wrap (x0 / W * W) = x0 / W * W := IntWalk.i64_in _ (by omega)
      have e3 : x0.tdiv W = x0 / W := Int.tdiv_eq_ediv_of_nonneg ht
      have e4 : IntKind.i64.wrap (x0 / W) = x0 / W := IntWalk.i64_in _ (by have h0 := Int.ediv_nonneg ht (b := W) (by omega); have h2 := Int.ediv_le_self W ht; omega)
      clear hd hr6
      have HAk := Lib.hid (fun W' h => HA.out g 0 cc (coarL (xs.take k) W) (x0 / W * W) x1 x2 x3 x4 x5 W' h (by have := Hl.out; omega))
      go_wp2_with fail
      refine (HAk.out _ (HR.out.more ?_)).mono ?_
      · repeat (first | exact Below.refl _ _ | refine Below.alloc ?_ (by simp; try omega) _ | refine Below.setCell ?_ (by simp; try omega) _ | refine Below.drew ?_ | refine below_drewN_u ?_ _)
      rintro e w4 ⟨v4, rfl, hown4, hb4⟩
      have HO4 := Lib.hid (show w4.ownsRow w.heap.size 53 6 v4 (addS (coarL (xs.take k) W) (x0 / W * W, x1, x2, x3, x4, x5)).length (rls (addS (coarL (xs.take k) W) (x0 / W * W, x1, x2, x3, x4, x5))) from own_mono hown4 (by simp; omega))
      have HB4 := Lib.hid ((HB.out.alloc hsz (.cells #[.int .i64 (x0 / W * W), .int .i64 x1, .int .i64 x2, .int .i64 x3, .int .i64 x4, .int .i64 x5] 53)).trans (hb4.mono (by simp; omega)))
      clear hown4 hb4
      go_wp2_with fail
      go_roundw
      case rel => exact ⟨k + 1, by omega, by go_num, Lib.hid (by rw [← HZ.out]; exact GRow.of_own (by rw [HS.out]; exact HO4.out) Hp.out Hl1.out), HB4.out⟩
      case measure => simp [intOf]; omega
    · obtain rfl : k = xs.length := by omega
      rw [List.take_length] at HG
      obtain ⟨g, cc, rfl, hRS, hown⟩ := HG.out
      have HO := Lib.hid hown
      clear HG hRS hown
      go_wp2_with fail
      go_ret
      exact ⟨_, rfl, HO.out, hb⟩


set_option maxRecDepth 100000 in
set_option maxHeartbeats 4000000 in
theorem specCoarser_any (v : Value) (xs : List R6) (W to : Int) (w : World) (h : RL w w.heap.size v xs) :
    Calls Try.prog 28 #[v, .int .i64 W, .int .i64 to] w (RFlagPost w.heap.size (crsM xs W to) (crsB xs W to) w) := by
  have HP := Lib.hid h
  have hS := Lib.hid (fun W' h => specRollsOk_any v xs W W' h)
  have hW := Lib.hid (fun w => l7Width_any to w)
  have hS2 := Lib.hid (fun v W' h => specRollsOk_any v (coarL xs to) to W' h)
  obtain ⟨hr, hl, A, c, rfl, _⟩ := h
  have Hr := Lib.hid hr
  clear hr
  cases hs : rollsOkB xs W with
  | false =>
    have E2 := Lib.hid (show crsB xs W to = false from by unfold crsB; rw [hs]; rfl)
    have E := Lib.hid (show crsM xs W to = [] from by unfold crsM; rw [if_neg (by rw [E2.out]; simp)])
    rw [hs] at hS
    clear hs
    go_enter Try.func28, Try.ntmps28
    go_wp2_with fail
    refine (hS.out _ HP.out).mono ?_
    rintro e w1 ⟨rfl, hb1⟩
    go_wp2_with fail
    go_ret2
    exact ⟨_, by rw [E2.out]; rfl, by rw [E.out]; exact World.ownsRow_nil _ _ _ _, hb1⟩
  | true =>
    rw [hs] at hS
    have hwi := rollsOkB_in hs
    have hlen := hwi.1
    have HT := Lib.hid (fun j hj => (gdR_in (hwi.2.2 j hj)).1.1)
    have HInc := Lib.hid (fun j hj => (gdR_in (hwi.2.2 j hj)).2.2)
    have hwz : (W == 0) = false := by simpa using (show ¬ W = 0 by omega)
    have hw0 : ¬ W = 0 := by omega
    clear hwi
    cases hwd : wdB to with
    | false =>
      have E2 := Lib.hid (show crsB xs W to = false from by unfold crsB; rw [hs, hwd]; rfl)
      have E := Lib.hid (show crsM xs W to = [] from by unfold crsM; rw [if_neg (by rw [E2.out]; simp)])
      rw [hwd] at hW
      clear hs hwd
      go_enter Try.func28, Try.ntmps28
      go_wp2_with fail
      refine (hS.out _ HP.out).mono ?_
      rintro e w1 ⟨rfl, hb1⟩
      go_wp2_with (go_at_call 57; refine (hW.out _).mono ?_; rintro e w' ⟨rfl, rfl⟩)
      go_ret2
      exact ⟨_, by rw [E2.out]; rfl, by rw [E.out]; exact World.ownsRow_nil _ _ _ _, hb1⟩
    | true =>
      rw [hwd] at hW
      obtain ⟨ht1, ht2⟩ := wdB_in hwd
      have htm : to.tmod W = to % W := Int.tmod_eq_emod_of_nonneg (by omega)
      by_cases hm : to % W = 0
      case neg =>
        have E2 := Lib.hid (show crsB xs W to = false from by unfold crsB; rw [hs, hwd, decide_eq_false hm]; rfl)
        have E := Lib.hid (show crsM xs W to = [] from by unfold crsM; rw [if_neg (by rw [E2.out]; simp)])
        have hm' : (to % W != 0) = true := by simpa using hm
        have hm'' : decide (to % W = 0) = false := decide_eq_false hm
        clear hs hwd
        go_enter Try.func28, Try.ntmps28
        go_wp2_with fail
        refine (hS.out _ HP.out).mono ?_
        rintro e w1 ⟨rfl, hb1⟩
        go_wp2_with (go_at_call 57; refine (hW.out _).mono ?_; rintro e w' ⟨rfl, rfl⟩)
        go_ret2
        exact ⟨_, by rw [E2.out]; rfl, by rw [E.out]; exact World.ownsRow_nil _ _ _ _, hb1⟩
      have hm' : (to % W != 0) = false := by simpa using hm
      have hm'' : decide (to % W = 0) = true := decide_eq_true hm
      have YR := Lib.hid (rrs_getD (coarL_ok xs to Hr.out HT.out ht1))
      have hyl : (coarL xs to).length ≤ 1048576 := Nat.le_trans (coarL_len xs to) hl
      have hR := Lib.hid (fun W' h => specL7Coarser_any (.slice A xs.length c) xs to W' h HT.out hlen ht1 ht2)
      cases ho : rollsOkB (coarL xs to) to
      all_goals
        have E2 := Lib.hid (show crsB xs W to = _ from by unfold crsB; rw [hs, hwd, decide_eq_true hm, ho])
        have E := Lib.hid (show crsM xs W to = if crsB xs W to = true then coarL xs to else [] from rfl)
        rw [E2.out] at E
        rw [ho] at hS2
        go_enter Try.func28, Try.ntmps28
        go_wp2_with fail
        refine (hS.out _ HP.out).mono ?_
        rintro e w1 ⟨rfl, hb1⟩
        have HB1 := Lib.hid hb1
        clear hb1
        go_wp2_with (go_at_call 57; refine (hW.out _).mono ?_; rintro e w' ⟨rfl, rfl⟩)
        refine (hR.out _ ((HP.out.below HB1.out).up HB1.out.size)).mono ?_
        rintro e w2 ⟨v2, rfl, hown2, hb2⟩
        have HO2 := Lib.hid (own_mono hown2 HB1.out.size)
        have HB2 := Lib.hid (HB1.out.trans (hb2.mono HB1.out.size))
        clear hown2 hb2
        have Hz := Lib.hid HB2.out.size
        go_wp2_with fail
        refine (hS2.out _ _ (RL.of_own HO2.out rfl YR.out hyl)).mono ?_
        rintro e w5 ⟨rfl, hb5⟩
        have HO5 := Lib.hid (u_own_below HO2.out hb5)
        have HB5 := Lib.hid (HB2.out.trans (hb5.mono Hz.out))
        clear hb5
        go_wp2_with fail
        go_ret2
        exact ⟨_, by rw [E2.out]; rfl, by rw [E.out]; first | exact HO5.out | exact World.ownsRow_nil _ _ _ _, HB5.out⟩

end Go.Proofs.Ythmkjenamnmbiab
