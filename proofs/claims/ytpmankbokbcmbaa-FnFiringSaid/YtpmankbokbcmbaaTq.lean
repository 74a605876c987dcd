/- Walks: the law FnFiring. -/
import Derived.Test.YtpmankbokbcmbaaTp
set_option linter.unusedVariables false
set_option linter.unusedSimpArgs false
namespace Go.Proofs.Ytpmankbokbcmbaa
open Go.RowKit

theorem ptsOkB_ofT {l : List (Int × Int)} (hl : l.length ≤ 120) (hm : ∀ j, j < l.length → (0 ≤ (l.getD j (0, 0)).1 ∧ (l.getD j (0, 0)).1 ≤ 1000000000000) ∧ (j = 0 ∨ (l.getD (j - 1) (0, 0)).1 < (l.getD j (0, 0)).1)) : ptsOkB l = true := by
  unfold ptsOkB timesOkB
  rw [Bool.and_eq_true, decide_eq_true_iff, List.length_map]
  refine ⟨hl, ?_⟩
  unfold goodTo
  rw [List.all_eq_true]
  intro j hj
  have hj : j < l.length := by simpa using hj
  unfold goodAt
  rw [tsOf_getD, tsOf_getD]
  simp only [Bool.and_eq_true, Bool.or_eq_true, decide_eq_true_eq]
  exact hm j hj
theorem madeT (W : World) (base : Nat) (hb : base ≤ W.heap.size) : (W.alloc (.cells #[] 42)).ownsRow base 42 2 (.slice (some ⟨W.heap.size, 0, none⟩) 0 0) 0 (prs []) := by
  have := World.ownsRow_made W (base := base) (e := 42) (size := 2) #[] 0 hb (by simp [maxLen]) rfl
  simpa [prs] using this
theorem madeT1 (W : World) (o : Obj) : ((W.alloc o).alloc (.cells #[] 42)).ownsRow W.heap.size 42 2 (.slice (some ⟨W.heap.size + 1, 0, none⟩) 0 0) 0 (prs []) := by
  have := madeT (W.alloc o) W.heap.size (by simp)
  rwa [World.size_alloc] at this
theorem prs_oneT (xs : List (Int × Int)) : ∀ u ∈ prs xs, u.oneCell' = true := by
  intro u hu
  unfold prs at hu
  obtain ⟨p, _, h2⟩ := List.mem_flatMap.1 hu
  simp at h2
  rcases h2 with rfl | rfl <;> rfl
theorem ptsOkB_snoc {xs : List (Int × Int)} {now v : Int} (h : ptsOkB xs = true) (hl : xs.length < 120) (h0 : 0 < xs.length) (hlt : (xs.getD (xs.length - 1) (0, 0)).1 < now) (hn : now ≤ 1000000000000) : ptsOkB (xs ++ [(now, v)]) = true := by
  have hlast := (ptsOkB_atT h (j := xs.length - 1) (by omega)).1
  refine ptsOkB_ofT (by simp; omega) (fun j hj => ?_)
  rw [List.length_append, List.length_singleton] at hj
  by_cases e : j = xs.length
  · subst e
    rw [getD_snocP_eq, getD_snocP_lt xs _ (show xs.length - 1 < xs.length by omega)]
    exact ⟨⟨by simp only []; omega, by simp only []; omega⟩, .inr (by simp only []; omega)⟩
  · have hj' : j < xs.length := by omega
    rw [getD_snocP_lt xs _ hj', getD_snocP_lt xs _ (show j - 1 < xs.length by omega)]
    exact ptsOkB_atT h hj'
/-- what FnFiring's last line compares -/
theorem fir_last {xs : List (Int × Int)} {lim long now y : Int} (hp : ptsOkB xs = true) (hl : xs.length < 120) (h0 : 0 < xs.length) (hlt : (xs.getD (xs.length - 1) (0, 0)).1 < now) (hn : now ≤ 1000000000000) (hlong : 0 ≤ long) (hy : (xs.getD (xs.length - 1) (0, 0)).2 = y) :
    (¬ lim < y → firB xs lim long now = false) ∧
    (lim < y → (firB xs lim long now = true ∧ 0 < (abvM (xs ++ [(now, y)]) lim long).length ∧ ((abvM (xs ++ [(now, y)]) lim long).getD ((abvM (xs ++ [(now, y)]) lim long).length - 1) (0, 0)).2 = now) ∨
      (firB xs lim long now = false ∧ (0 < (abvM (xs ++ [(now, y)]) lim long).length → ((abvM (xs ++ [(now, y)]) lim long).getD ((abvM (xs ++ [(now, y)]) lim long).length - 1) (0, 0)).2 ≠ now))) := by
  have hlast := (ptsOkB_atT hp (j := xs.length - 1) (by omega)).1
  have hpm := ptsOkB_snoc (v := y) hp hl h0 hlt hn
  have hnow : vIn now 0 1000000000000 = true := vIn_true (by omega) hn
  refine ⟨fun hlo => ?_, fun hhi => ?_⟩
  · have hr := rsN_lo_eq (xs := xs) (lim := lim) (k := xs.length) (.inr (by rw [hy]; exact hlo))
    cases hv : vIn long 0 1000000000000 with
    | false => exact firB_f2 hv
    | true => rw [firB_t hp hv hnow h0, hr, decide_eq_false (Nat.lt_irrefl _)]; rfl
  · have hr := rs_lt h0 (show lim < (xs.getD (xs.length - 1) (0, 0)).2 by rw [hy]; exact hhi)
    have hf := (ptsOkB_atT hp hr).1
    obtain ⟨m1, m2⟩ := fir_more (long := long) (upT_of hpm) h0 hhi (by rw [hy]; exact hhi)
    have hab : abvM (xs ++ [(now, y)]) lim long = abvL (xs ++ [(now, y)]) lim long := by unfold abvM; exact if_pos ⟨hpm, hlong⟩
    rw [hab]
    by_cases hg : long ≤ now - (xs.getD (rsN xs lim xs.length) (0, 0)).1
    · left
      obtain ⟨A, hA⟩ := m1 hg
      rw [hA, List.length_append, List.length_singleton, Nat.add_sub_cancel, getD_snocP_eq]
      refine ⟨?_, by omega, rfl⟩
      rw [firB_t hp (vIn_true hlong (by omega)) hnow h0, decide_eq_true hr, decide_eq_true (by omega), decide_eq_true hg]; rfl
    · right
      refine ⟨?_, fun hp0 => ?_⟩
      · cases hv : vIn long 0 1000000000000 with
        | false => exact firB_f2 hv
        | true => rw [firB_t hp hv hnow h0, decide_eq_false hg, Bool.and_false, Bool.and_false]
      · refine m2 hg _ ?_
        rw [List.getD_eq_getElem?_getD, List.getElem?_eq_getElem (by omega)]
        exact List.getElem_mem _

set_option maxRecDepth 100000 in
set_option maxHeartbeats 8000000 in
theorem walkFnFiring (A : Option Addr) (n c : Nat) (w : World) (h : n ≤ 1048576 → CodeAt w A n c) :
    Calls Try.prog 6 #[.slice A n c] w fun e w' => e = .returned (.bool true) ∧ Below w.heap.size w w' := by
  have hbig := fun W => big_any A n c W
  by_cases hb : (n : Int) ≤ 1048576
  · have hd : decide (1048576 < (n : Int)) = false := by simp; omega
    rw [hd] at hbig
    have Hbig := Lib.hid hbig
    have hdraw := Lib.hid (fun W h => DrawFiring_any A n c W h)
    have hcode := Lib.hid (h (by omega))
    obtain ⟨i0, hi, hz0, hz1, hz2⟩ := info_parts info_pt
    clear hbig hd h
    go_enter Try.func6, Try.ntmps6
    go_wp2_with fail
    refine (Hbig.out _).mono ?_
    rintro e w' ⟨rfl, rfl⟩
    go_wp2_with fail
    refine (hdraw.out _ hcode.out).mono ?_
    rintro e w1 ⟨v, xs, lim, long, now, rfl, hown1, hxl, hxr, hra, hrb, hrc, hb1⟩
    have B1 := Lib.hid hb1
    have HR := Lib.hid (prng_of hxr)
    have P1 := Lib.hid (PL.of_own hown1 rfl (prng_of hxr) (by omega))
    obtain ⟨_, _, Ax, cx, rfl, hcx⟩ := P1.out
    have HCX := Lib.hid hcx
    have him := Lib.hid (fun W h => implFiring_any (.slice Ax xs.length cx) xs lim long now W h)
    have hsp := Lib.hid (fun W h => specFiring_any (.slice Ax xs.length cx) xs lim long now W h)
    have hpo := Lib.hid (fun W h => specPointsOk_any (.slice Ax xs.length cx) xs W h)
    have HFL := Lib.hid (fun hp h0 hlt hn hlong => fir_last (xs := xs) (lim := lim) (long := long) (now := now) hp (by omega) h0 hlt hn hlong rfl)
    obtain ⟨S, hS⟩ : ∃ S, firB xs lim long now = S := ⟨_, rfl⟩
    rw [hS] at him hsp HFL
    clear hb1 hown1 hxr hdraw hcode Hbig hcx hS
    go_wp2_with fail
    refine (him.out _ P1.out).mono ?_
    rintro e w2 ⟨rfl, hb2⟩
    have S1 := B1.out.size
    have S2 := hb2.size
    have D2 := Lib.hid hb2
    clear hb2 him
    go_upto_region 5 with fail
    go_cut [65] (fun cv wx => ∃ bad : Bool, cv = .bool bad ∧ (bad = false → ptsOkB xs = true ∧ 0 < xs.length ∧ (xs.getD (xs.length - 1) (0, 0)).1 < now ∧ now ≤ 1000000000000 ∧ 0 ≤ long) ∧ Below w1.heap.size w1 wx)
    case first =>
      go_wp2_with fail
      refine (hsp.out _ ((P1.out.below D2.out).up S2)).mono ?_
      rintro e w3 ⟨rfl, hb3⟩
      have D3 := Lib.hid (D2.out.trans (hb3.mono S2))
      have S3 := D3.out.size
      clear hb3 D2
      go_wp2_with fail
      refine (hpo.out _ ((P1.out.below D3.out).up S3)).mono ?_
      rintro e w4 ⟨rfl, hb4⟩
      have D4 := Lib.hid (D3.out.trans (hb4.mono S3))
      clear hb4 D3
      cases hok : ptsOkB xs with
      | false =>
        go_wp2_with fail
        go_meet
        case rel => exact ⟨true, rfl, (fun h => by cases h), D4.out⟩
      | true =>
        have HOK := Lib.hid hok
        clear hok
        by_cases h0 : 0 < xs.length
        case neg =>
          have h6 : (xs.length : Int) = 0 := by omega
          clear h0
          go_wp2_with fail
          go_meet
          case rel => exact ⟨true, by first | rfl | simp, (fun h => by cases h), D4.out⟩
        have h6 : ¬ (xs.length : Int) = 0 := by omega
        have h6b : ((xs.length : Int) == 0) = false := by simpa using h6
        have e1 : IntKind.i64.wrap ((xs.length : Int) - 1) = (xs.length : Int) - 1 := IntWalk.i64_in _ (by omega)
        have e2 : (0 : Int) ≤ (xs.length : Int) - 1 := by omega
        have e2' : (1 : Int) ≤ (xs.length : Int) := by omega
        have e3 : ((xs.length : Int) - 1).toNat = xs.length - 1 := by omega
        have e4 : (xs.length : Int) - 1 < (xs.length : Int) := by omega
        have e5 : (xs.length : Int) < 100 := by omega
        rcases HCX.out with hc | ⟨bx, ox, rfl, hbx, hc⟩
        · rw [hc] at h0; simp at h0
        have c0 := (D4.out.cell (p := ⟨bx, ox + (xs.length - 1) * 2, none⟩) hbx).trans (hc (xs.length - 1) (by omega)).1
        obtain ⟨x, hx⟩ : ∃ x, (xs.getD (xs.length - 1) (0, 0)).1 = x := ⟨_, rfl⟩
        rw [hx] at c0
        have HX := Lib.hid hx
        have H0 := Lib.hid h0
        clear hc hx h0
        by_cases g1 : x < now
        case neg =>
          go_wp2_with fail
          go_meet
          case rel => exact ⟨true, by first | rfl | simp, (fun h => by cases h), D4.out⟩
        by_cases g2 : now ≤ 1000000000000
        case neg =>
          go_wp2_with fail
          go_meet
          case rel => exact ⟨true, by first | rfl | simp, (fun h => by cases h), D4.out⟩
        by_cases g3 : 0 ≤ long
        case neg =>
          go_wp2_with fail
          go_meet
          case rel => exact ⟨true, by first | rfl | simp, (fun h => by cases h), D4.out⟩
        go_wp2_with fail
        go_meet
        case rel => exact ⟨false, by first | rfl | (simp; exact ⟨⟨⟨g1, g2⟩, g3⟩, by omega⟩), fun _ => ⟨HOK.out, H0.out, by rw [HX.out]; exact g1, g2, g3⟩, D4.out⟩
    case rest =>
      obtain ⟨bad, rfl, hgood, hd5⟩ := hcut
      obtain ⟨w5, rfl⟩ : ∃ w5, w5 = wc := ⟨_, rfl⟩
      have D5 := Lib.hid hd5
      have S5 := hd5.size
      clear hd5 D2
      cases bad
      case true =>
        clear hgood
        go_wp2_with fail
        refine (hsp.out _ ((P1.out.below D5.out).up S5)).mono ?_
        rintro e w6 ⟨rfl, hb6⟩
        go_wp2_with fail
        go_ret
        exact ⟨by simp, B1.out.trans ((D5.out.trans (hb6.mono S5)).mono S1)⟩
      obtain ⟨hok, h0, hlt, hn, hlong⟩ := hgood rfl
      obtain ⟨FA, FB⟩ := HFL.out hok h0 hlt hn hlong
      rcases HCX.out with hc | ⟨bx, ox, rfl, hbx, hc⟩
      · rw [hc] at h0; simp at h0
      have c0 := (D5.out.cell (p := ⟨bx, ox + (xs.length - 1) * 2, none⟩) hbx).trans (hc (xs.length - 1) (by omega)).1
      have c1 := (D5.out.cell (p := ⟨bx, ox + (xs.length - 1) * 2 + 1, none⟩) hbx).trans (hc (xs.length - 1) (by omega)).2
      have HRS := Lib.hid (fun W' (hb : Below w1.heap.size w1 W') => (fun j u hu => by
        have hjl : j < (prs xs).length := (List.getElem?_eq_some_iff.1 hu).1
        rw [prs_length] at hjl
        have hadd : (⟨bx, ox, none⟩ : Addr).add j = ⟨bx, ox + j, none⟩ := by unfold Addr.add; split <;> simp_all
        rw [hadd]
        rcases Nat.mod_two_eq_zero_or_one j with hm | hm
        · have e : j = (j / 2) * 2 := by omega
          have h1 := (hb.cell (p := ⟨bx, ox + (j / 2) * 2, none⟩) hbx).trans (hc (j / 2) (by omega)).1
          rw [← e] at h1
          have h2 := prs_get0 xs (j / 2) (by omega)
          rw [← e, hu] at h2
          rw [h1, ← h2]
        · have e : j = (j / 2) * 2 + 1 := by omega
          have h1 := (hb.cell (p := ⟨bx, ox + (j / 2) * 2 + 1, none⟩) hbx).trans (hc (j / 2) (by omega)).2
          rw [Nat.add_assoc, ← e] at h1
          have h2 := prs_get1 xs (j / 2) (by omega)
          rw [← e, hu] at h2
          rw [h1, ← h2] : ∀ (j : Nat) (u : Value), (prs xs)[j]? = some u → W'.cell? ((⟨bx, ox, none⟩ : Addr).add j) = some u))
      have hpm : ptsOkB (xs ++ [(now, (xs.getD (xs.length - 1) (0, 0)).2)]) = true := ptsOkB_snoc hok (by omega) h0 hlt hn
      have HRm : Hid (∀ j, Rng ((xs ++ [(now, (xs.getD (xs.length - 1) (0, 0)).2)]).getD j (0, 0)).1 ∧ Rng ((xs ++ [(now, (xs.getD (xs.length - 1) (0, 0)).2)]).getD j (0, 0)).2) := Lib.hid (prng_of (fun p hp => by
        rcases List.mem_append.1 hp with hp | hp
        · exact prng_mem HR.out p hp
        · rw [List.mem_singleton] at hp; subst hp; exact ⟨hrc, (HR.out _).2⟩))
      obtain ⟨x, hx⟩ : ∃ x, (xs.getD (xs.length - 1) (0, 0)).1 = x := ⟨_, rfl⟩
      obtain ⟨y, hy⟩ : ∃ y, (xs.getD (xs.length - 1) (0, 0)).2 = y := ⟨_, rfl⟩
      rw [hx] at c0
      rw [hy] at c1 HRm FA FB
      have FA := Lib.hid FA
      have FB := Lib.hid FB
      have him := Lib.hid (fun v W h => implAbove_any v (xs ++ [(now, y)]) lim long W h)
      have hokM := Lib.hid (abvM_ok (xs ++ [(now, y)]) lim long HRm.out (by simp; omega))
      obtain ⟨R, hR⟩ : ∃ R, abvM (xs ++ [(now, y)]) lim long = R := ⟨_, rfl⟩
      rw [hR] at him hokM FB
      have e1 : IntKind.i64.wrap ((xs.length : Int) - 1) = (xs.length : Int) - 1 := IntWalk.i64_in _ (by omega)
      have e2 : (0 : Int) ≤ (xs.length : Int) - 1 := by omega
      have e2' : (1 : Int) ≤ (xs.length : Int) := by omega
      have e3 : ((xs.length : Int) - 1).toNat = xs.length - 1 := by omega
      have e4 : (xs.length : Int) - 1 < (xs.length : Int) := by omega
      have H63 := Lib.hid (show 0 + xs.length ≤ maxLen from by unfold maxLen; omega)
      have H64 := Lib.hid (show xs.length + 1 ≤ maxLen from by unfold maxLen; omega)
      clear hR hx hy hc hok h0 hlt hn hlong hpm hgood
      have q1 : (w5.alloc (.cells #[.int .i64 x, .int .i64 y] 42)).cell? ⟨w5.heap.size, 1, none⟩ = some (.int .i64 y) := by go_simp
      obtain ⟨W7, hW7⟩ : ∃ W7, w5.alloc (.cells #[.int .i64 x, .int .i64 y] 42) = W7 := ⟨_, rfl⟩
      rw [hW7] at q1
      have S7 := Lib.hid (show W7.heap.size = w5.heap.size + 1 from by rw [← hW7]; simp)
      have D7 := Lib.hid (show Below w1.heap.size w1 W7 from by rw [← hW7]; exact D5.out.alloc S5 _)
      have S71 := Lib.hid D7.out.size
      have S72 : ∀ o, w1.heap.size ≤ (W7.alloc o).heap.size := fun o => by have := S71.out; simp; omega
      have hlt7 : w5.heap.size < W7.heap.size := by have := S7.out; omega
      have HW7 := Lib.hid hW7
      clear hW7
      go_upto_region 8 with fail
      rw [HW7.out]
      clear c0 c1 e1 e2 e2' e3 e4
      go_cut [9] (fun cv wx => wx.ownsRow W7.heap.size 42 2 cv (xs.length + 1) (prs (xs ++ [(now, y)])) ∧ Below W7.heap.size W7 wx)
      case first =>
        go_region_law (first
          | (refine step_append_ownT _ rfl _ _ 26 rfl W7.heap.size 42 i0 (.agg #[.int .i64 0, .int .i64 0]) 2 16 Try.underlying26 hi hz0 hz1 hz2 rfl (by decide) (.slice (some ⟨W7.heap.size, 0, none⟩) 0 0) 0 (prs []) rfl ((madeT W7 _ (Nat.le_refl _)).drew) ⟨bx, ox, none⟩ xs.length cx (prs xs) rfl (prs_length xs) (HRS.out _ ((D7.out.alloc S71.out _).drew)) (prs_oneT xs) H63.out (by omega) (by have hS := S7.out; simp; try omega) ?_; intro v4 w4 hown4 hgrow4; rw [Nat.zero_add, show prs [] ++ prs xs = prs xs from rfl] at hown4; have x1 := hgrow4.cell (a := ⟨w5.heap.size, 1, none⟩) (v := .int .i64 y) (((((Below.refl W7.heap.size W7).alloc (Nat.le_refl _) _).drew).cell (p := ⟨w5.heap.size, 1, none⟩) (by have hS := S7.out; simp; omega)).trans q1) (by have hS := S7.out; simp [Value.ownBlock]; try omega); have hB4 := (((Below.refl W7.heap.size W7).alloc (Nat.le_refl _) _).drew).grown hgrow4 (by have hS := S7.out; simp; try omega) (fun j hj => by have hS := S7.out; simp [Value.ownBlock] at hj; omega); have hZ4 := hB4.size)
          | (refine step_append_ownT _ rfl _ _ 26 rfl W7.heap.size 42 i0 (.agg #[.int .i64 0, .int .i64 0]) 2 16 Try.underlying26 hi hz0 hz1 hz2 rfl (by decide) (.slice (some ⟨W7.heap.size, 0, none⟩) 0 0) 0 (prs []) rfl (((madeT W7 _ (Nat.le_refl _)).alloc (.cells #[.int .i64 now, .int .i64 y] 42)).drew) ⟨bx, ox, none⟩ xs.length cx (prs xs) rfl (prs_length xs) (HRS.out _ (((D7.out.alloc S71.out _).alloc (S72 _) _).drew)) (prs_oneT xs) H63.out (by omega) (by have hS := S7.out; simp; try omega) ?_; intro v4 w4 hown4 hgrow4; rw [Nat.zero_add, show prs [] ++ prs xs = prs xs from rfl] at hown4; have x1 := hgrow4.cell (a := ⟨w5.heap.size, 1, none⟩) (v := .int .i64 y) ((((((Below.refl W7.heap.size W7).alloc (Nat.le_refl _) _).alloc (by simp) _).drew).cell (p := ⟨w5.heap.size, 1, none⟩) (by have hS := S7.out; simp; omega)).trans q1) (by have hS := S7.out; simp [Value.ownBlock]; try omega); have s0 := hgrow4.cell (a := ⟨W7.heap.size + 1, 0, none⟩) (v := .int .i64 now) (by go_simp) (by have hS := S7.out; simp [Value.ownBlock]; try omega); have s1 := hgrow4.cell (a := ⟨W7.heap.size + 1, 1, none⟩) (v := .int .i64 y) (by go_simp) (by have hS := S7.out; simp [Value.ownBlock]; try omega); have hB4 := ((((Below.refl W7.heap.size W7).alloc (Nat.le_refl _) _).alloc (by simp) _).drew).grown hgrow4 (by have hS := S7.out; simp; try omega) (fun j hj => by have hS := S7.out; simp [Value.ownBlock] at hj; omega); have hZ4 := hB4.size)
          | (refine step_append_ownT _ rfl _ _ 26 rfl W7.heap.size 42 i0 (.agg #[.int .i64 0, .int .i64 0]) 2 16 Try.underlying26 hi hz0 hz1 hz2 rfl (by decide) (.slice (some ⟨W7.heap.size + 1, 0, none⟩) 0 0) 0 (prs []) rfl ((madeT1 W7 (.cells #[.int .i64 now, .int .i64 y] 42)).drew) ⟨bx, ox, none⟩ xs.length cx (prs xs) rfl (prs_length xs) (HRS.out _ (((D7.out.alloc S71.out _).alloc (S72 _) _).drew)) (prs_oneT xs) H63.out (by omega) (by have hS := S7.out; simp; try omega) ?_; intro v4 w4 hown4 hgrow4; rw [Nat.zero_add, show prs [] ++ prs xs = prs xs from rfl] at hown4; have x1 := hgrow4.cell (a := ⟨w5.heap.size, 1, none⟩) (v := .int .i64 y) ((((((Below.refl W7.heap.size W7).alloc (Nat.le_refl _) _).alloc (by simp) _).drew).cell (p := ⟨w5.heap.size, 1, none⟩) (by have hS := S7.out; simp; omega)).trans q1) (by have hS := S7.out; simp [Value.ownBlock]; try omega); have s0 := hgrow4.cell (a := ⟨W7.heap.size, 0, none⟩) (v := .int .i64 now) (by go_simp) (by have hS := S7.out; simp [Value.ownBlock]; try omega); have s1 := hgrow4.cell (a := ⟨W7.heap.size, 1, none⟩) (v := .int .i64 y) (by go_simp) (by have hS := S7.out; simp [Value.ownBlock]; try omega); have hB4 := ((((Below.refl W7.heap.size W7).alloc (Nat.le_refl _) _).alloc (by simp) _).drew).grown hgrow4 (by have hS := S7.out; simp; try omega) (fun j hj => by have hS := S7.out; simp [Value.ownBlock] at hj; omega); have hZ4 := hB4.size)
          | (refine step_append_ownT _ rfl _ _ 26 rfl W7.heap.size 42 i0 (.agg #[.int .i64 0, .int .i64 0]) 2 16 Try.underlying26 hi hz0 hz1 hz2 rfl (by decide) v4 xs.length (prs xs) rfl (hown4.alloc _) ⟨w4.heap.size, 0, none⟩ 1 1 [.int .i64 now, .int .i64 y] rfl rfl (two_cells (by go_simp) (by go_simp)) (fun u hu => by simp at hu; rcases hu with rfl | rfl <;> rfl) H64.out (by omega) (by first | omega | (simp; omega)) ?_; intro v5 w6 hown5 hgrow5; have hB5 := (hB4.alloc hZ4 _).grown hgrow5 (by first | omega | (simp; omega)) (fun j hj => (hown4.lt j hj).1))
          | (refine step_append_ownT _ rfl _ _ 26 rfl W7.heap.size 42 i0 (.agg #[.int .i64 0, .int .i64 0]) 2 16 Try.underlying26 hi hz0 hz1 hz2 rfl (by decide) v4 xs.length (prs xs) rfl (hown4) ⟨W7.heap.size + 1, 0, none⟩ 1 1 [.int .i64 now, .int .i64 y] rfl rfl (two_cells s0 s1) (fun u hu => by simp at hu; rcases hu with rfl | rfl <;> rfl) H64.out (by omega) hZ4 ?_; intro v5 w6 hown5 hgrow5; have hB5 := hB4.grown hgrow5 (by first | omega | (simp; omega)) (fun j hj => (hown4.lt j hj).1))
          | (refine step_append_ownT _ rfl _ _ 26 rfl W7.heap.size 42 i0 (.agg #[.int .i64 0, .int .i64 0]) 2 16 Try.underlying26 hi hz0 hz1 hz2 rfl (by decide) v4 xs.length (prs xs) rfl (hown4) ⟨W7.heap.size, 0, none⟩ 1 1 [.int .i64 now, .int .i64 y] rfl rfl (two_cells s0 s1) (fun u hu => by simp at hu; rcases hu with rfl | rfl <;> rfl) H64.out (by omega) hZ4 ?_; intro v5 w6 hown5 hgrow5; have hB5 := hB4.grown hgrow5 (by first | omega | (simp; omega)) (fun j hj => (hown4.lt j hj).1)))
        all_goals
          go_simp
          go_wp2_with fail
          go_meet
          case rel => exact ⟨by rw [prs_append]; exact hown5, hB5⟩
      case rest =>
        obtain ⟨hown8, hb8⟩ := hcut
        have S8 := hb8.size
        have D8 := Lib.hid (D7.out.trans (hb8.mono S71.out))
        have P8 := Lib.hid (PL.of_own hown8 (by simp) HRm.out (by simp; omega))
        have q8 := (hb8.cell (p := ⟨w5.heap.size, 1, none⟩) (by have := S7.out; show w5.heap.size < _; omega)).trans q1
        clear hown8 hb8 q1
        go_wp2_with fail
        refine (him.out _ _ P8.out).mono ?_
        rintro e w9 ⟨v9, rfl, hown9, hb9⟩
        have q9 := (hb9.cell (p := ⟨w5.heap.size, 1, none⟩) (by have := S7.out; show w5.heap.size < _; omega)).trans q8
        have D9 := Lib.hid (D8.out.trans (hb9.mono (by have := S71.out; omega)))
        obtain ⟨_, _, A9, c9, rfl, h9⟩ := PL.of_ownS hown9 rfl hokM.out.1 hokM.out.2
        clear hown9 hb9 q8
        have hfin := B1.out.trans (D9.out.mono S1)
        clear him hsp hpo HFL HRS HCX P8 D8 D7 D5 P1
        by_cases g : lim < y
        case neg =>
          obtain rfl : S = false := FA.out (by omega)
          have gd : decide (lim < y) = false := decide_eq_false g
          clear FA FB h9
          go_wp2_with fail
          go_ret
          exact ⟨by first | rfl | simp, B1.out.trans (D9.out.mono S1)⟩
        have gd : decide (lim < y) = true := decide_eq_true g
        have hB := FB.out g
        clear FA FB
        by_cases hR : 0 < R.length
        case neg =>
          have gR : decide (0 < R.length) = false := decide_eq_false hR
          have gR2 : (R.length : Int) = 0 := by omega
          obtain rfl : S = false := by
            rcases hB with h | h
            · exact absurd h.2.1 hR
            · exact h.1
          clear hB h9 hR
          go_wp2_with fail
          go_ret
          exact ⟨by first | rfl | simp, B1.out.trans (D9.out.mono S1)⟩
        have gR : decide (0 < R.length) = true := decide_eq_true hR
        have hRl := hokM.out.2
        have r1 : IntKind.i64.wrap ((R.length : Int) - 1) = (R.length : Int) - 1 := IntWalk.i64_in _ (by omega)
        have r2 : (0 : Int) ≤ (R.length : Int) - 1 := by omega
        have r2' : (1 : Int) ≤ (R.length : Int) := by omega
        have r3 : ((R.length : Int) - 1).toNat = R.length - 1 := by omega
        have r4 : (R.length : Int) - 1 < (R.length : Int) := by omega
        rcases h9 with h9 | ⟨b9, o9, rfl, hb9l, hc9⟩
        · rw [h9] at hR; simp at hR
        have k0 := (hc9 (R.length - 1) (by omega)).2
        obtain ⟨t, ht⟩ : ∃ t, (R.getD (R.length - 1) (0, 0)).2 = t := ⟨_, rfl⟩
        rw [ht] at hB k0
        clear hc9 ht
        rcases hB with ⟨rfl, _, rfl⟩ | ⟨rfl, hne⟩
        · clear hRl
          go_wp2_with fail
          go_ret
          exact ⟨by first | rfl | simp, B1.out.trans (D9.out.mono S1)⟩
        · have hne2 := hne hR
          have hne3 : (t == now) = false := by simpa using hne2
          have hne4 : decide (t = now) = false := decide_eq_false hne2
          clear hRl hne hne2
          go_wp2_with fail
          go_ret
          exact ⟨by first | rfl | simp, B1.out.trans (D9.out.mono S1)⟩
  · have hd : decide (1048576 < (n : Int)) = true := by simp; omega
    rw [hd] at hbig
    have Hbig := Lib.hid hbig
    clear hbig hd h
    go_enter Try.func6, Try.ntmps6
    go_wp2_with fail
    refine (Hbig.out _).mono ?_
    rintro e w' ⟨rfl, rfl⟩
    go_wp2_with fail
    go_ret
    exact ⟨rfl, Below.refl _ _⟩
end Go.Proofs.Ytpmankbokbcmbaa
