/- Walks: cascades: the model's check. -/
import Derived.Test.YtcjpedolmnahfaaOa
import Derived.Test.YtcjpedolmnahfaaYd
set_option linter.unusedVariables false
set_option linter.unusedSimpArgs false
namespace Go.Proofs.Ytcjpedolmnahfaa
open Go.RowKit

set_option maxRecDepth 100000 in
set_option maxHeartbeats 2000000 in
theorem specCascadeOk_any (v : Value) (c : Cs) (w : World) (h : CV w w.heap.size v c) :
    Calls Try.prog 21 #[v] w (BoolPost (cascB c) w) := by
  obtain ⟨nw, kp, rp, ls⟩ := c
  obtain ⟨rv, lv, rfl, hP, hL, hrn, hrk⟩ := h
  simp only at hP hL hrn hrk ⊢
  have HPl := Lib.hid hP
  have HLs := Lib.hid hL
  obtain ⟨hrp, hpl, Ap, cp, rfl, hcp⟩ := hP
  obtain ⟨hrl, hll, Al, cl, rfl, hcl⟩ := hL
  have HRL := Lib.hid hrl
  clear hrp hrl
  have HIn := Lib.hid (fun w => v_l1In_any nw 0 1000000000000 w)
  have HIk := Lib.hid (fun w => v_l1In_any kp 1 1000000000 w)
  have HPt := Lib.hid (fun W h => specL7Points_any (.slice Ap rp.length cp) rp W h)
  have hbx : Below w.heap.size w (w.alloc (.cells #[.int .i64 nw, .int .i64 kp, .slice Ap rp.length cp, .slice Al ls.length cl] 30)) := (Below.refl _ _).alloc (Nat.le_refl _) _
  have HBX := Lib.hid hbx
  have HPl1 := Lib.hid ((HPl.out.below hbx).up hbx.size)
  have HQ := Lib.hid (show headB (nw, kp, rp, ls) = (vIn nw 0 1000000000000 && (vIn kp 1 1000000000 && (ptsSmB rp && decide (ls.length ≤ 4)))) from rfl)
  clear hbx
  cases hn : vIn nw 0 1000000000000 with
  | false =>
    have E := Lib.hid (cascB_head (c := (nw, kp, rp, ls)) (by rw [HQ.out, hn]; rfl))
    rw [hn] at HIn
    go_enter Try.func21, Try.ntmps21
    go_wp2_with (go_at_call 61; (first | (with_reducible refine (HIn.out _).mono ?_) | (with_reducible refine (HIk.out _).mono ?_)); rintro e w' ⟨rfl, rfl⟩)
    go_ret
    exact ⟨by rw [E.out]; rfl, HBX.out⟩
  | true =>
    rw [hn] at HIn
    cases hk : vIn kp 1 1000000000 with
    | false =>
      have E := Lib.hid (cascB_head (c := (nw, kp, rp, ls)) (by rw [HQ.out, hk, hn]; rfl))
      rw [hk] at HIk
      go_enter Try.func21, Try.ntmps21
      go_wp2_with (go_at_call 61; (first | (with_reducible refine (HIn.out _).mono ?_) | (with_reducible refine (HIk.out _).mono ?_)); rintro e w' ⟨rfl, rfl⟩)
      go_ret
      exact ⟨by rw [E.out]; rfl, HBX.out⟩
    | true =>
      rw [hk] at HIk
      have hn2 : 0 ≤ nw ∧ nw ≤ 1000000000000 := by unfold vIn at hn; exact of_decide_eq_true hn
      have hk2 : 1 ≤ kp ∧ kp ≤ 1000000000 := by unfold vIn at hk; exact of_decide_eq_true hk
      cases hp : ptsSmB rp with
      | false =>
        have E := Lib.hid (cascB_head (c := (nw, kp, rp, ls)) (by rw [HQ.out, hp, hk, hn]; rfl))
        rw [hp] at HPt
        go_enter Try.func21, Try.ntmps21
        go_wp2_with (go_at_call 61; (first | (with_reducible refine (HIn.out _).mono ?_) | (with_reducible refine (HIk.out _).mono ?_)); rintro e w' ⟨rfl, rfl⟩)
        refine (HPt.out _ HPl1.out).mono ?_
        rintro e w2 ⟨rfl, hb2⟩
        go_wp2_with fail
        go_ret
        exact ⟨by rw [E.out]; rfl, HBX.out.trans (hb2.mono HBX.out.size)⟩
      | true =>
        rw [hp] at HPt
        by_cases h4 : ls.length ≤ 4
        case neg =>
          have E := Lib.hid (cascB_head (c := (nw, kp, rp, ls)) (by rw [HQ.out, hp, hk, hn, decide_eq_false h4]; rfl))
          have hd : decide (4 < ls.length) = true := by simp; omega
          go_enter Try.func21, Try.ntmps21
          go_wp2_with (go_at_call 61; (first | (with_reducible refine (HIn.out _).mono ?_) | (with_reducible refine (HIk.out _).mono ?_)); rintro e w' ⟨rfl, rfl⟩)
          refine (HPt.out _ HPl1.out).mono ?_
          rintro e w2 ⟨rfl, hb2⟩
          have z3 : w2.cell? ⟨w.heap.size, 3, none⟩ = some (.slice Al ls.length cl) := (hb2.cell (p := ⟨w.heap.size, 3, none⟩) (by simp)).trans (by go_simp)
          have HB2 := Lib.hid (HBX.out.trans (hb2.mono HBX.out.size))
          clear hb2
          go_wp2_with fail
          go_ret
          exact ⟨by rw [E.out]; rfl, HB2.out⟩
        have hd : decide (4 < ls.length) = false := by simp; omega
        have HHD := Lib.hid (show headB (nw, kp, rp, ls) = true from by rw [HQ.out, hp, hk, hn, decide_eq_true h4]; rfl)
        have hpl2 := ptsOkB_len (ptsSmB_pts hp)
        have HBad := Lib.hid (fun j hj h => cascB_raw (c := (nw, kp, rp, ls)) (j := j) hj h)
        have HBadL := Lib.hid (fun j hj h => cascB_lv (c := (nw, kp, rp, ls)) (j := j) hj h)
        have HOk := Lib.hid (fun h1 h2 => cascB_ok (c := (nw, kp, rp, ls)) HHD.out h1 h2)
        have eNK : IntKind.i64.wrap (nw - kp) = nw - kp := IntWalk.i64_in _ (by omega)
        clear hp hn hk HQ
        go_enter Try.func21, Try.ntmps21
        go_wp2_with (go_at_call 61; (first | (with_reducible refine (HIn.out _).mono ?_) | (with_reducible refine (HIk.out _).mono ?_)); rintro e w' ⟨rfl, rfl⟩)
        refine (HPt.out _ HPl1.out).mono ?_
        rintro e w2 ⟨rfl, hb2⟩
        have z0 : w2.cell? ⟨w.heap.size, 0, none⟩ = some (.int .i64 nw) := (hb2.cell (p := ⟨w.heap.size, 0, none⟩) (by simp)).trans (by go_simp)
        have z1 : w2.cell? ⟨w.heap.size, 1, none⟩ = some (.int .i64 kp) := (hb2.cell (p := ⟨w.heap.size, 1, none⟩) (by simp)).trans (by go_simp)
        have z2 : w2.cell? ⟨w.heap.size, 2, none⟩ = some (.slice Ap rp.length cp) := (hb2.cell (p := ⟨w.heap.size, 2, none⟩) (by simp)).trans (by go_simp)
        have z3 : w2.cell? ⟨w.heap.size, 3, none⟩ = some (.slice Al ls.length cl) := (hb2.cell (p := ⟨w.heap.size, 3, none⟩) (by simp)).trans (by go_simp)
        have HB2 := Lib.hid (HBX.out.trans (hb2.mono HBX.out.size))
        have hlt2 : w.heap.size < w2.heap.size := by have := hb2.size; simp at this; omega
        clear hb2 HBX HPl1 HPt HIn HIk HPl
        go_wp2_with fail
        go_loopw [3] (fun i wr => ∃ (j q : Nat), j ≤ rp.length ∧ i = .int .i64 j ∧ wr = w2.drewN q ∧ Hid (∀ i, i < j → rawAt nw kp (rp.getD i (0, 0)) = true)) (fun i _ => rp.length - (intOf i).toNat)
        case atStart => exact ⟨0, 0, Nat.zero_le _, rfl, rfl, Lib.hid (fun i hi => by omega)⟩
        case round =>
          obtain ⟨j, q, hj, rfl, rfl, HG⟩ := hrel
          by_cases hlt : j < rp.length
          · rcases hcp with hcp | ⟨b, off, rfl, hbl, hcp⟩
            · subst hcp; simp at hlt
            have hx0 : w2.cell? ⟨b, off + j * 2, none⟩ = some (.int .i64 (rp.getD j (0, 0)).1) := (HB2.out.cell (p := ⟨b, off + j * 2, none⟩) hbl).trans (hcp j hlt).1
            clear hcp
            have HBj := Lib.hid (fun h => HBad.out j hlt h)
            obtain ⟨x, hx⟩ : ∃ x, x = (rp.getD j (0, 0)).1 := ⟨_, rfl⟩
            rw [← hx] at hx0
            have HRA : Hid (rawAt nw kp (rp.getD j (0, 0)) = (decide (x ≤ nw) && decide (nw - kp < x))) := Lib.hid (by unfold rawAt; rw [← hx])
            clear hx
            by_cases g1 : x ≤ nw
            case neg =>
              have E := Lib.hid (HBj.out (by rw [HRA.out, decide_eq_false g1]; rfl))
              have g1' : decide (nw < x) = true := decide_eq_true (by omega)
              go_wp2_with fail
              go_quiet (fail)
              go_wp2_with fail
              go_ret
              exact ⟨by rw [E.out]; rfl, below_drewN_u (below_drewN_u HB2.out _) _⟩
            have g1' : decide (nw < x) = false := decide_eq_false (by omega)
            by_cases g2 : nw - kp < x
            case neg =>
              have E := Lib.hid (HBj.out (by rw [HRA.out, decide_eq_false g2, Bool.and_false]))
              have g2' : decide (x ≤ nw - kp) = true := decide_eq_true (by omega)
              go_wp2_with fail
              go_quiet (fail)
              go_wp2_with fail
              go_ret
              exact ⟨by rw [E.out]; rfl, below_drewN_u (below_drewN_u HB2.out _) _⟩
            have g2' : decide (x ≤ nw - kp) = false := decide_eq_false (by omega)
            have HT := Lib.hid (show rawAt nw kp (rp.getD j (0, 0)) = true from by rw [HRA.out, decide_eq_true g1, decide_eq_true g2]; rfl)
            go_wp2_with fail
            go_quiet (fail)
            go_wp2_with fail
            go_roundw
            case rel =>
              refine ⟨j + 1, q + nq, by omega, by go_num, ?_, Lib.hid (fun i hi => ?_)⟩
              · first | rfl | exact drewN_drewN _ _ _ | (simp [World.drewN, Nat.add_assoc])
              by_cases e : i = j
              · rw [e]; exact HT.out
              · exact HG.out i (by omega)
            case measure => simp [intOf]; omega
          · obtain rfl : j = rp.length := by omega
            have HRAW := Lib.hid (show ∀ j, j < rp.length → rawAt nw kp (rp.getD j (0, 0)) = true from HG.out)
            have HB3 := Lib.hid (below_drewN_u HB2.out q)
            have y0 : (w2.drewN q).cell? ⟨w.heap.size, 0, none⟩ = some (.int .i64 nw) := z0
            have y1 : (w2.drewN q).cell? ⟨w.heap.size, 1, none⟩ = some (.int .i64 kp) := z1
            have y2 : (w2.drewN q).cell? ⟨w.heap.size, 2, none⟩ = some (.slice Ap rp.length cp) := z2
            have y3 : (w2.drewN q).cell? ⟨w.heap.size, 3, none⟩ = some (.slice Al ls.length cl) := z3
            have hlt3 : w.heap.size < (w2.drewN q).heap.size := hlt2
            clear z0 z1 z2 z3 hlt2 HB2 HG hcp
            generalize w2.drewN q = w3 at *
            have Y0 := Lib.hid y0
            have Y1 := Lib.hid y1
            have Y3 := Lib.hid y3
            go_wp2_with fail
            clear y0 y1 y2 y3
            go_loopw [4, 5, 6] (fun a b i wr => ∃ (j : Nat), j ≤ ls.length ∧ i = .int .i64 j ∧ a = .int .i64 (prevW ls j) ∧ b = .int .i64 (prevK kp ls j) ∧ Hid (Below w3.heap.size w3 wr) ∧ Hid (∀ i, i < j → lvB nw (prevW ls i) (prevK kp ls i) (ls.getD i zLv) = true)) (fun _ _ i _ => ls.length - (intOf i).toNat)
            case atStart => exact ⟨0, Nat.zero_le _, rfl, rfl, rfl, Lib.hid (Below.refl _ _), Lib.hid (fun i hi => by omega)⟩
            case round =>
              obtain ⟨j, hj, rfl, rfl, rfl, HD, HG⟩ := hrel
              have hszD := HD.out.size
              have z0 : wr.cell? ⟨w.heap.size, 0, none⟩ = some (.int .i64 nw) := (HD.out.cell (p := ⟨w.heap.size, 0, none⟩) hlt3).trans Y0.out
              have z1 : wr.cell? ⟨w.heap.size, 1, none⟩ = some (.int .i64 kp) := (HD.out.cell (p := ⟨w.heap.size, 1, none⟩) hlt3).trans Y1.out
              have z3 : wr.cell? ⟨w.heap.size, 3, none⟩ = some (.slice Al ls.length cl) := (HD.out.cell (p := ⟨w.heap.size, 3, none⟩) hlt3).trans Y3.out
              have HBr := Lib.hid (HB3.out.trans (HD.out.mono HB3.out.size))
              by_cases hlt : j < ls.length
              · have HLr := Lib.hid (HLs.out.below HBr.out)
                obtain ⟨_, _, A', c', hA', hcl'⟩ := HLr.out
                cases hA'
                rcases hcl' with hcl' | ⟨b, off, rfl, hbl, hcl'⟩
                · rw [hcl'] at hlt; simp at hlt
                obtain ⟨x0, x1, rv, x2, hRx⟩ := hcl' j hlt
                have HRx := Lib.hid hRx
                obtain ⟨_, hrl, Ar, cr, rfl, hcr⟩ := hRx
                have hKr := (HRL.out j).2
                have HBj : Hid (lvB nw (prevW ls j) (prevK kp ls j) (ls.getD j zLv) = false → cascB (nw, kp, rp, ls) = false) := Lib.hid (fun h => HBadL.out j hlt h)
                have hpw : 1 ≤ prevW ls j := by
                  unfold prevW
                  split
                  · omega
                  · have h1 := HG.out (j - 1) (by omega)
                    unfold lvB at h1
                    rw [Bool.and_eq_true] at h1
                    have := (shpB_in h1.1).1.1
                    omega
                have hpk0 : 0 ≤ prevK kp ls j := by
                  unfold prevK
                  split
                  · omega
                  · have h1 := HG.out (j - 1) (by omega)
                    unfold lvB at h1
                    rw [Bool.and_eq_true] at h1
                    have h2 := (shpB_in h1.1).2.2.2
                    have h3 : 0 ≤ prevK kp ls (j - 1) → 0 ≤ (ls.getD (j - 1) zLv).2.1 := fun h => by omega
                    apply h3
                    have : ∀ i, i < j → 0 ≤ prevK kp ls i := by
                      intro i
                      induction i with
                      | zero => intro _; unfold prevK; rw [if_pos rfl]; omega
                      | succ i ih =>
                        intro hi
                        have g1 := HG.out i (by omega)
                        unfold lvB at g1
                        rw [Bool.and_eq_true] at g1
                        have g2 := (shpB_in g1.1).2.2.2
                        have g3 := ih (by omega)
                        unfold prevK
                        rw [if_neg (by omega)]
                        show 0 ≤ (ls.getD (i + 1 - 1) zLv).2.1
                        rw [Nat.add_sub_cancel]
                        omega
                    exact this (j - 1) (by omega)
                have HPW : Hid (prevW ls (j + 1) = (ls.getD j zLv).1) := Lib.hid (by unfold prevW; rw [if_neg (by omega)]; rfl)
                have HPK : Hid (prevK kp ls (j + 1) = (ls.getD j zLv).2.1) := Lib.hid (by unfold prevK; rw [if_neg (by omega)]; rfl)
                clear hcl' hcl
                obtain ⟨pw, hpwE⟩ : ∃ p, p = prevW ls j := ⟨_, rfl⟩
                obtain ⟨pk, hpkE⟩ : ∃ p, p = prevK kp ls j := ⟨_, rfl⟩
                rw [← hpwE] at hpw HBj ⊢
                rw [← hpkE] at hpk0 HBj ⊢
                have HPWE := Lib.hid hpwE
                have HPKE := Lib.hid hpkE
                clear hpwE hpkE
                obtain ⟨X, hX⟩ : ∃ X, X = ls.getD j zLv := ⟨_, rfl⟩
                rw [← hX] at x0 x1 x2 HRx hrl hcr HBj hKr HPW HPK
                have HXX := Lib.hid hX
                clear hX
                obtain ⟨xw, xk, rs⟩ := X
                simp only at x0 x1 x2 hrl hcr hKr
                have H8 := Lib.hid (fun W0 => l8Level_any xw xk (.slice Ar rs.length cr) pw pk (xw, xk, rs) W0 rfl rfl hpw hpk0 hKr ⟨_, _, _, rfl⟩)
                have HRo := Lib.hid (fun W h => specRollsOk_any (.slice Ar rs.length cr) rs xw W h)
                have HBox := Lib.hid ((Below.refl wr.heap.size wr).alloc (Nat.le_refl _) (.cells #[.int .i64 xw, .int .i64 xk, .slice Ar rs.length cr] 51))
                have HBE := Lib.hid (fun h => HBj.out h)
                cases hsh : shpB pw pk (xw, xk, rs) with
                | false =>
                  have E := Lib.hid (HBE.out (by show lvB nw pw pk (xw, xk, rs) = false; unfold lvB; rw [hsh]; rfl))
                  rw [hsh] at H8
                  clear hsh
                  go_wp2_with fail
                  refine (H8.out _).mono ?_
                  rintro e w4 ⟨rfl, hb4⟩
                  have HB4 := Lib.hid (HBr.out.trans ((HBox.out.trans (hb4.mono HBox.out.size)).mono HBr.out.size))
                  clear hb4
                  go_wp2_with fail
                  go_ret
                  exact ⟨by rw [E.out]; rfl, HB4.out⟩
                | true =>
                  have HSI := Lib.hid (shpB_in hsh)
                  have HSH := Lib.hid hsh
                  rw [hsh] at H8
                  clear hsh
                  go_wp2_with fail
                  refine (H8.out _).mono ?_
                  rintro e w4 ⟨rfl, hb4⟩
                  have q0 : w4.cell? ⟨wr.heap.size, 0, none⟩ = some (.int .i64 xw) := (hb4.cell (p := ⟨wr.heap.size, 0, none⟩) (by simp)).trans (by go_simp)
                  have q1 : w4.cell? ⟨wr.heap.size, 1, none⟩ = some (.int .i64 xk) := (hb4.cell (p := ⟨wr.heap.size, 1, none⟩) (by simp)).trans (by go_simp)
                  have q2 : w4.cell? ⟨wr.heap.size, 2, none⟩ = some (.slice Ar rs.length cr) := (hb4.cell (p := ⟨wr.heap.size, 2, none⟩) (by simp)).trans (by go_simp)
                  have D4 := Lib.hid (HBox.out.trans (hb4.mono HBox.out.size))
                  have hs4 : wr.heap.size < w4.heap.size := by have := hb4.size; simp at this; omega
                  have HR4 := Lib.hid ((HRx.out.below ((HBr.out.trans (D4.out.mono HBr.out.size)) |> fun h => (D4.out.mono HBr.out.size))).up (show w.heap.size ≤ w4.heap.size by omega))
                  clear hb4 x0 x1 x2
                  have D4w := Lib.hid (D4.out.mono (show w3.heap.size ≤ wr.heap.size from hszD))
                  have q3 := Lib.hid ((D4w.out.cell (p := ⟨w.heap.size, 0, none⟩) hlt3).trans z0)
                  have HBRo := Lib.hid (fun (h : rollsOkB rs xw = false) => HBE.out (by show lvB nw pw pk (xw, xk, rs) = false; unfold lvB; rw [h]; simp))
                  cases hro : rollsOkB rs xw with
                  | false =>
                    have E := Lib.hid (HBRo.out hro)
                    rw [hro] at HRo
                    clear hro
                    go_wp2_with fail
                    refine (HRo.out _ HR4.out).mono ?_
                    rintro e w5 ⟨rfl, hb5⟩
                    have HB5 := Lib.hid (HBr.out.trans ((D4.out.mono HBr.out.size).trans (hb5.mono (by omega))))
                    clear hb5
                    go_wp2_with fail
                    go_ret
                    exact ⟨by rw [E.out]; rfl, HB5.out⟩
                  | true =>
                    have hr400 := (rollsOkB_in hro).1
                    have HRin := Lib.hid (fun i hi => (gdR_in ((rollsOkB_in hro).2.2 i hi)).1)
                    have HRO := Lib.hid hro
                    rw [hro] at HRo
                    clear hro
                    go_wp2_with fail
                    refine (HRo.out _ HR4.out).mono ?_
                    rintro e w5 ⟨rfl, hb5⟩
                    have p0 : w5.cell? ⟨wr.heap.size, 0, none⟩ = some (.int .i64 xw) := (hb5.cell (p := ⟨wr.heap.size, 0, none⟩) hs4).trans q0
                    have p1 : w5.cell? ⟨wr.heap.size, 1, none⟩ = some (.int .i64 xk) := (hb5.cell (p := ⟨wr.heap.size, 1, none⟩) hs4).trans q1
                    have p2 : w5.cell? ⟨wr.heap.size, 2, none⟩ = some (.slice Ar rs.length cr) := (hb5.cell (p := ⟨wr.heap.size, 2, none⟩) hs4).trans q2
                    have p3 : w5.cell? ⟨w.heap.size, 0, none⟩ = some (.int .i64 nw) := (hb5.cell (p := ⟨w.heap.size, 0, none⟩) (show w.heap.size < w4.heap.size by omega)).trans q3.out
                    have HR5 := Lib.hid ((HR4.out.below hb5).up hb5.size)
                    have D5 := Lib.hid ((D4.out.mono (show w3.heap.size ≤ wr.heap.size from hszD)).trans (hb5.mono (by omega)))
                    have D5x := Lib.hid (HD.out.trans D5.out)
                    have hs5 : wr.heap.size < w5.heap.size := by have := hb5.size; omega
                    clear hb5 q0 q1 q2 q3 HR4 D4 D4w hs4 HBox HRo H8 z0 z1 z3 HRx hcr HLr HBRo
                    obtain ⟨_, _, Ar', cr', hAr, hcr⟩ := HR5.out
                    cases hAr
                    have hSI := HSI.out
                    have eNK2 : IntKind.i64.wrap (nw - xk) = nw - xk := IntWalk.i64_in _ (by have := hSI.2.2.2.1; omega)
                    go_wp2_with fail
                    go_loopw [8] (fun i wv => ∃ (m q2 : Nat), m ≤ rs.length ∧ i = .int .i64 m ∧ wv = w5.drewN q2 ∧ Hid (∀ i, i < m → rolAt nw (xw, xk, rs) (rs.getD i z6) = true)) (fun i _ => rs.length - (intOf i).toNat)
                    case atStart => exact ⟨0, 0, Nat.zero_le _, rfl, rfl, Lib.hid (fun i hi => by omega)⟩
                    case round =>
                      obtain ⟨m, q2, hm, rfl, rfl, HGr⟩ := hrel
                      by_cases hltm : m < rs.length
                      · rcases hcr with hcr | ⟨br, or, rfl, hbr, hcr⟩
                        · subst hcr; simp at hltm
                        have hx0 := (hcr m hltm).1
                        clear hcr
                        have HRi := HRin.out m hltm
                        have HBad2 := Lib.hid (fun h => HBE.out (rolls_bad (now := nw) (w := pw) (k := pk) (x := (xw, xk, rs)) (j := m) hltm h))
                        obtain ⟨T, hT⟩ : ∃ T, T = (rs.getD m z6).1 := ⟨_, rfl⟩
                        rw [← hT] at hx0 HRi
                        have HRA : Hid (rolAt nw (xw, xk, rs) (rs.getD m z6) = (decide (T ≤ nw) && decide (nw - xk < T + xw))) := Lib.hid (by unfold rolAt; rw [← hT])
                        clear hT
                        have eTW : IntKind.i64.wrap (T + xw) = T + xw := IntWalk.i64_in _ (by have := hSI.1; omega)
                        by_cases g1 : T ≤ nw
                        case neg =>
                          have E := Lib.hid (HBad2.out (by rw [HRA.out, decide_eq_false g1]; rfl))
                          have g1' : decide (nw < T) = true := decide_eq_true (by omega)
                          go_wp2_with fail
                          go_quiet (fail)
                          go_wp2_with fail
                          go_ret
                          exact ⟨by rw [E.out]; rfl, below_drewN_u (below_drewN_u (HB3.out.trans (D5x.out.mono HB3.out.size)) _) _⟩
                        have g1' : decide (nw < T) = false := decide_eq_false (by omega)
                        by_cases g2 : nw - xk < T + xw
                        case neg =>
                          have E := Lib.hid (HBad2.out (by rw [HRA.out, decide_eq_false g2, Bool.and_false]))
                          have g2' : decide (T + xw ≤ nw - xk) = true := decide_eq_true (by omega)
                          go_wp2_with fail
                          go_quiet (fail)
                          go_wp2_with fail
                          go_ret
                          exact ⟨by rw [E.out]; rfl, below_drewN_u (below_drewN_u (HB3.out.trans (D5x.out.mono HB3.out.size)) _) _⟩
                        have g2' : decide (T + xw ≤ nw - xk) = false := decide_eq_false (by omega)
                        have HT := Lib.hid (show rolAt nw (xw, xk, rs) (rs.getD m z6) = true from by rw [HRA.out, decide_eq_true g1, decide_eq_true g2]; rfl)
                        go_wp2_with fail
                        go_quiet (fail)
                        go_wp2_with fail
                        go_roundw
                        case rel =>
                          refine ⟨m + 1, q2 + nq, by omega, by go_num, ?_, Lib.hid (fun i hi => ?_)⟩
                          · first | rfl | exact drewN_drewN _ _ _ | (simp [World.drewN, Nat.add_assoc])
                          by_cases e : i = m
                          · rw [e]; exact HT.out
                          · exact HGr.out i (by omega)
                        case measure => simp [intOf]; omega
                      · obtain rfl : m = rs.length := by omega
                        have HLV := Lib.hid (show lvB nw pw pk (xw, xk, rs) = true from lvB_ok HSH.out HRO.out HGr.out)
                        go_wp2_with fail
                        go_roundw
                        case rel =>
                          refine ⟨j + 1, by omega, by go_num, by rw [HPW.out], by rw [HPK.out], Lib.hid (below_drewN_u D5x.out q2), Lib.hid (fun i hi => ?_)⟩
                          by_cases e : i = j
                          · rw [e, ← HPWE.out, ← HPKE.out, ← HXX.out]; exact HLV.out
                          · exact HG.out i (by omega)
                        case measure => simp [intOf]; omega
              · obtain rfl : j = ls.length := by omega
                have E := Lib.hid (HOk.out HRAW.out HG.out)
                go_wp2_with fail
                go_ret
                exact ⟨by rw [E.out]; rfl, HBr.out⟩
end Go.Proofs.Ytcjpedolmnahfaa
