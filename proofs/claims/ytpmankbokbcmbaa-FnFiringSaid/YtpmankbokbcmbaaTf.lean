/- Walks: the program's Above. -/
import Derived.Test.YtpmankbokbcmbaaTe
set_option linter.unusedVariables false
set_option linter.unusedSimpArgs false
namespace Go.Proofs.Ytpmankbokbcmbaa
open Go.RowKit

theorem flt_succ (p : Int × Int → Bool) {xs : List (Int × Int)} {k : Nat} (hk : k < xs.length) :
    (xs.take (k + 1)).filter p = (xs.take k).filter p ++ if p (xs.getD k (0, 0)) = true then [xs.getD k (0, 0)] else [] := by
  rw [List.take_succ_eq_append_getElem hk, List.filter_append]
  congr 1
  rw [show xs[k] = xs.getD k (0, 0) by simp [List.getD_eq_getElem?_getD, hk]]
  by_cases h : p (xs.getD k (0, 0)) = true
  · rw [if_pos h, List.filter_cons, if_pos h]; rfl
  · rw [if_neg h, List.filter_cons, if_neg h]; rfl
theorem spL_times {xs : List (Int × Int)} (h : ptsOkB xs = true) (lim : Int) (j : Nat) (hj : j < (spL lim none xs).length) : (0 ≤ ((spL lim none xs).getD j (0, 0)).1 ∧ ((spL lim none xs).getD j (0, 0)).1 ≤ 1000000000000) ∧ 0 ≤ ((spL lim none xs).getD j (0, 0)).2 ∧ ((spL lim none xs).getD j (0, 0)).2 ≤ 1000000000000 := by
  have hm : (spL lim none xs).getD j (0, 0) ∈ spL lim none xs := by rw [List.getD_eq_getElem?_getD, List.getElem?_eq_getElem hj]; exact List.getElem_mem hj
  exact spL_mem lim (fun t => 0 ≤ t ∧ t ≤ 1000000000000) xs none (fun p hp => by
    obtain ⟨i, hi, rfl⟩ := List.getElem_of_mem hp
    have := (ptsOkB_atT h hi).1
    simpa [List.getD_eq_getElem?_getD, hi] using this) (fun s hs => by cases hs) _ hm

set_option maxRecDepth 100000 in
set_option maxHeartbeats 4000000 in
theorem implAbove_any (v : Value) (xs : List (Int × Int)) (lim long : Int) (w : World) (h : PL w w.heap.size v xs) :
    Calls Try.prog 13 #[v, .int .i64 lim, .int .i64 long] w (SOwnPost w.heap.size (abvM xs lim long) w) := by
  have HP := Lib.hid h
  have hP := Lib.hid (fun W h => implPointsOk_any v xs W h)
  have hS := Lib.hid (fun W h => spansAbove_any v xs lim W h)
  have hok2 := Lib.hid (spL_ok xs lim h.1 h.2.1)
  obtain ⟨hr, hlen, A, c, rfl, h3⟩ := h
  obtain ⟨i0, hi, hz0, hz1, hz2⟩ := info_parts info_sp
  cases hok : ptsOkB xs with
  | false =>
    have hm : abvM xs lim long = [] := by unfold abvM; rw [hok]; exact if_neg (by simp)
    rw [hm]
    rw [hok] at hP
    clear hok hm h3 hr
    go_enter Try.func13, Try.ntmps13
    go_wp2_with fail
    refine (hP.out _ HP.out).mono ?_
    rintro e w2 ⟨rfl, hb2⟩
    go_wp2_with fail
    go_ret
    exact ⟨_, rfl, World.ownsRow_nil _ _ _ _, hb2⟩
  | true =>
    rw [hok] at hP
    by_cases hlong : long < 0
    · have hm : abvM xs lim long = [] := by unfold abvM; exact if_neg (by omega)
      rw [hm]
      clear hok hm h3 hr
      go_enter Try.func13, Try.ntmps13
      go_wp2_with fail
      refine (hP.out _ HP.out).mono ?_
      rintro e w2 ⟨rfl, hb2⟩
      go_wp2_with fail
      go_ret
      exact ⟨_, rfl, World.ownsRow_nil _ _ _ _, hb2⟩
    have hm : abvM xs lim long = (spL lim none xs).filter (longB long) := by unfold abvM; exact if_pos ⟨hok, by omega⟩
    rw [hm]
    have HT := Lib.hid (fun j hj => spL_times hok lim j hj)
    clear hok hm hr h3
    obtain ⟨S, hSd⟩ : ∃ S, spL lim none xs = S := ⟨_, rfl⟩
    rw [hSd] at HT hS hok2 ⊢
    clear hSd
    go_enter Try.func13, Try.ntmps13
    go_wp2_with fail
    refine (hP.out _ HP.out).mono ?_
    rintro e w1 ⟨rfl, hb1⟩
    have B1 := Lib.hid hb1
    have s1 := hb1.size
    clear hb1
    go_wp2_with fail
    refine (hS.out _ ((HP.out.below B1.out).up s1)).mono ?_
    rintro e w2 ⟨v2, rfl, hown2, hb2⟩
    have s2 := hb2.size
    have B2 := Lib.hid (B1.out.trans (hb2.mono s1))
    have HQ := Lib.hid (PL.of_ownS hown2 rfl hok2.out.1 hok2.out.2)
    obtain ⟨hr2, hl2, A2, c2, rfl, h32⟩ := HQ.out
    clear hown2 hb2 hr2 B1 hP hS HP
    go_wp2_with fail
    go_loopw [7, 21] (fun v i wr => ∃ k : Nat, k ≤ S.length ∧ i = .int .i64 (k : Int) ∧ Hid (wr.ownsRow w2.heap.size 40 2 v ((S.take k).filter (longB long)).length (prs ((S.take k).filter (longB long)))) ∧ Hid (Below w2.heap.size w2 wr))
      (fun _ i _ => S.length - (intOf i).toNat)
    case atStart => exact ⟨0, Nat.zero_le _, rfl, Lib.hid (World.ownsRow_nil _ _ _ _), Lib.hid (Below.refl _ _)⟩
    case round =>
      obtain ⟨k, hk, rfl, HO, HB⟩ := hrel
      have hsz := HB.out.size
      by_cases hlt : k < S.length
      · have hltI : (k : Int) < (S.length : Int) := by omega
        rcases h32 with h32 | ⟨b, off, rfl, hbl, hc⟩
        · subst h32; simp at hlt
        have d0 := (HB.out.cell (p := ⟨b, off + k * 2, none⟩) hbl).trans (hc k hlt).1
        have d1 := (HB.out.cell (p := ⟨b, off + k * 2 + 1, none⟩) hbl).trans (hc k hlt).2
        have HF := Lib.hid (flt_succ (longB long) hlt)
        have hyl : ((S.take k).filter (longB long)).length ≤ k := Nat.le_trans (List.length_filter_le _ _) (by rw [List.length_take]; omega)
        have t0 := HT.out k hlt
        obtain ⟨x, y, hX⟩ : ∃ x y, S.getD k (0, 0) = (x, y) := ⟨_, _, rfl⟩
        rw [hX] at d0 d1 HF t0
        simp only at t0
        have e7 : IntKind.i64.wrap (y - x) = y - x := IntWalk.i64_in _ (by omega)
        clear hc hX
        obtain ⟨ys, hys⟩ : ∃ ys, (S.take k).filter (longB long) = ys := ⟨_, rfl⟩
        rw [hys] at HF hyl HO
        clear hys
        by_cases hg : long ≤ y - x
        · have E := HF.out
          rw [if_pos (show longB long (x, y) = true from decide_eq_true hg)] at E
          have E := Lib.hid E
          clear HF
          go_wp2_with (at_builtin; refine wpList_append_own _ rfl _ _ 24 rfl w2.heap.size 40 i0 (.agg #[.int .i64 0, .int .i64 0]) 2 16 Try.underlying24 hi hz0 hz1 hz2 rfl (by decide) _ _ _ rfl ((HO.out.alloc _).alloc _) ⟨wr.heap.size + 1, 0, none⟩ 1 1 [.int .i64 x, .int .i64 y] rfl rfl (two_cells (by go_simp) (by go_simp)) ?c2 ?c3 ?c4 ?c5 ?_)
          case c2 => first | rfl | exact ⟨rfl, rfl⟩ | (intro u hu; simp at hu; rcases hu with rfl | rfl <;> rfl)
          case c3 => unfold maxLen; omega
          case c4 => omega
          case c5 => first | omega | (simp; omega)
          intro v' w4 hown' hgrow _
          have hb4 := ((HB.out.alloc hsz _).alloc (by simp; omega) _).grown hgrow (by first | omega | (simp; omega)) (fun k hk => by have := (HO.out.lt _ hk).1; omega)
          have hown5 := Lib.hid (show w4.ownsRow w2.heap.size 40 2 v' ((S.take (k + 1)).filter (longB long)).length (prs ((S.take (k + 1)).filter (longB long))) from by rw [E.out, prs_append, List.length_append]; exact hown')
          have HB4 := Lib.hid hb4
          clear hown' hgrow hb4
          go_wp2_with fail
          go_roundw
          case rel => exact ⟨k + 1, by omega, by go_num, hown5, HB4⟩
          case measure => simp [intOf]; omega
        · have E := HF.out
          rw [if_neg (show ¬ longB long (x, y) = true from by unfold longB; simpa using hg), List.append_nil] at E
          have E := Lib.hid E
          clear HF
          go_wp2_with fail
          go_roundw
          case rel => exact ⟨k + 1, by omega, by go_num, by rw [E.out]; exact Lib.hid ((HO.out.alloc _)), Lib.hid (HB.out.alloc hsz _)⟩
          case measure => simp [intOf]; omega
      · obtain rfl : k = S.length := by omega
        rw [List.take_length] at HO
        go_wp2_with fail
        go_ret
        exact ⟨_, rfl, own_mono HO.out (by omega), B2.out.trans (HB.out.mono (by omega))⟩
end Go.Proofs.Ytpmankbokbcmbaa
