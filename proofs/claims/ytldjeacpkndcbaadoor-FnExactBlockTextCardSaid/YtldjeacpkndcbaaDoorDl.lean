/- Walks: the document's PointsOf. -/
import Derived.Test.YtldjeacpkndcbaaDoorDi
import Derived.Test.YtldjeacpkndcbaaDoorQt
import Derived.Test.YtldjeacpkndcbaaDoorSe
import Derived.Test.YtldjeacpkndcbaaDoorKa
import Derived.Lib.AppendStr
import Derived.Deep.RegionLaw
import Derived.Test.YtldjeacpkndcbaaDoorVc
import Derived.Deep.RegionHeld3
set_option linter.unusedVariables false
set_option linter.unusedSimpArgs false
namespace Go.Proofs.YtldjeacpkndcbaaDoor
open Go.RowKit

theorem back3_any (s : ByteArray) (m : Nat) (w : World) (hs : s.size ≤ 2500) (hm : m ≤ 120) (L : List Bool) (hL : allL s = L) :
    Calls Tryd.prog 75 #[.agg #[.string s, .int .i64 ((8 * s.size : Nat) : Int)], .int .i64 0, .int .i64 (m : Int)] w fun e w' =>
      ∃ (v : Value) (q : Nat) (f : Bool), e = .returned (.tuple #[v, .int .i64 (q : Int), .bool f]) ∧ q ≤ 8 * s.size ∧ (f = false → timesB L m 0 = none) ∧ (f = true → ∃ ts, timesB L m 0 = some (ts, q) ∧ ts.length = m ∧ (∀ j, Rng (ts.getD j 0)) ∧ w'.ownsRow w.heap.size 2 1 v ts.length (ints ts)) ∧ Below w.heap.size w w' := by
  have hlen : L.length = 8 * s.size := by rw [← hL]; exact allL_len s
  refine (show Calls _ _ _ _ _ from l3Back_any s (8 * s.size) 0 m w (by unfold maxLen; omega) (by omega) (Nat.le_refl _) (Nat.zero_le _) hm L hL).mono ?_
  rintro e w' ⟨ho, hb⟩
  cases hr : timesG (fL L) (getL L) m 0 with
  | none =>
    rw [hr] at ho
    exact ⟨_, 0, false, ho, by omega, fun _ => by unfold timesB timesFin; rw [hr], (fun h => by cases h), hb⟩
  | some a =>
    obtain ⟨ts, q⟩ := a
    rw [hr] at ho
    obtain ⟨v, he, hown⟩ := ho
    have T := timesG_ok (rdOk_L L) (p := 0) (Nat.zero_le _) m ts q hm hr
    refine ⟨v, q, timesOkB ts, he, by have := T.qN; omega, fun h => by unfold timesB timesFin; rw [hr]; simp only; rw [if_neg (by rw [h]; simp)], fun h => ⟨ts, by unfold timesB timesFin; rw [hr]; simp only; rw [if_pos h], T.len, T.rng, hown⟩, hb⟩
theorem back4_any (s : ByteArray) (m q : Nat) (w : World) (hs : s.size ≤ 2500) (hq : q ≤ 8 * s.size) (hm : m ≤ 120) (L : List Bool) (hL : allL s = L) :
    Calls Tryd.prog 60 #[.agg #[.string s, .int .i64 ((8 * s.size : Nat) : Int)], .int .i64 (q : Int), .int .i64 (m : Int)] w fun e w' =>
      ∃ (v : Value) (p : Int) (f : Bool), e = .returned (.tuple #[v, .int .i64 p, .bool f]) ∧ (f = false → valG L m q = none) ∧ (f = true → ∃ vs q2 l t, valG L m q = some (vs, q2, l, t) ∧ vs.length = m ∧ (∀ j, Rng (vs.getD j 0)) ∧ w'.ownsRow w.heap.size 2 1 v vs.length (ints vs)) ∧ Below w.heap.size w w' := by
  have hlen : L.length = 8 * s.size := by rw [← hL]; exact allL_len s
  refine (l4Back_any s (8 * s.size) q m w (by unfold maxLen; omega) (by omega) (Nat.le_refl _) hq hm L hL).mono ?_
  rintro e w' ⟨ho, hb⟩
  cases hr : valG L m q with
  | none =>
    rw [hr] at ho
    exact ⟨_, 0, false, ho, fun _ => rfl, (fun h => by cases h), hb⟩
  | some a =>
    obtain ⟨vs, q2, l, t⟩ := a
    rw [hr] at ho
    obtain ⟨v, he, hown⟩ := ho
    have T := valG_ok (by omega) hr
    exact ⟨v, _, true, he, (fun h => by cases h), fun _ => ⟨vs, q2, l, t, rfl, T.1, T.2.1, hown⟩, hb⟩
theorem zip_take (xs : List (Int × Int)) (k : Nat) (x y : Int) (hk : k < xs.length) (h : xs.getD k (0, 0) = (x, y)) : xs.take (k + 1) = xs.take k ++ [(x, y)] := by
  rw [List.take_add_one, List.getElem?_eq_getElem hk]
  rw [List.getD_eq_getElem?_getD, List.getElem?_eq_getElem hk] at h
  simp only [Option.getD_some] at h
  simp [h]
theorem cells_pair (w : World) (a b : Value) (t : TypeId) : ∀ j u, ([a, b] : List Value)[j]? = some u → (w.alloc (.cells #[a, b] t)).cell? ((⟨w.heap.size, 0, none⟩ : Addr).add j) = some u := by
  intro j u hj
  rw [Addr.add_lit]
  rcases j with _ | _ | j
  · simp at hj; subst hj; go_simp
  · simp at hj; subst hj; go_simp
  · simp at hj
theorem prs_one (a b : Int) : prs [(a, b)] = [.int .i64 a, .int .i64 b] := rfl
theorem bits_box {w : World} {B : Nat} {s : ByteArray} {N : Int} (h : RB w B s N) : w.cell? ⟨B, 0, none⟩ = some (.string s) ∧ w.cell? ⟨B, 1, none⟩ = some (.int .i64 N) := ⟨h.c0, h.c1⟩

set_option maxRecDepth 100000 in
set_option maxHeartbeats 4000000 in
theorem specPointsOf_any (n : Int) (s : ByteArray) (w : World) (hs : s.size ≤ maxLen) :
    Calls Tryd.prog 23 #[.agg #[.int .i64 n, .string s]] w (POutF (ptsX (ptsB s n)) (ptsF (ptsB s n)) w) := by
  have hB0 := Lib.hid (below1 w (.cells #[.int .i64 n, .string s] 38))
  have hI := Lib.hid (fun W => l1In_any n 1 120 W)
  by_cases hn : 1 ≤ n ∧ n ≤ 120
  · have hJ := hI.out
    rw [inB_true hn.1 hn.2] at hJ
    have HI := Lib.hid hJ
    clear hJ hI
    by_cases h25 : s.size ≤ 2500
    · have h25i : ¬ (2500 : Int) < s.size := by omega
      obtain ⟨h0, h1⟩ := hn
      obtain ⟨m, rfl⟩ : ∃ m : Nat, n = (m : Int) := ⟨n.toNat, by omega⟩
      obtain ⟨L, hL⟩ : ∃ L, allL s = L := ⟨_, rfl⟩
      have hE : ptsB s (m : Int) = ptsL L s m := by unfold ptsB; rw [if_pos ⟨⟨h0, h1⟩, h25⟩, hL, Int.toNat_natCast]
      rw [hE]
      have H3 := Lib.hid (fun W => back3_any s m W h25 (by omega) L hL)
      have H4 := Lib.hid (fun q W hq => back4_any s m q W h25 hq (by omega) L hL)
      have HB := Lib.hid (fun v xs W h => specBlockOf_any v xs W h)
      have P0 := Lib.hid (show timesB L m 0 = none → ptsL L s m = none from fun h => by unfold ptsL; rw [h])
      have P1 := Lib.hid (show ∀ ts q, timesB L m 0 = some (ts, q) → valG L m q = none → ptsL L s m = none from fun ts q h h2 => by unfold ptsL; rw [h]; simp only; rw [h2])
      have P2 := Lib.hid (show ∀ ts q vs q2 l t, timesB L m 0 = some (ts, q) → valG L m q = some (vs, q2, l, t) → ptsL L s m = ptsZ s (m : Int) (ts.zip vs) from fun ts q vs q2 l t h h2 => by unfold ptsL; rw [h]; simp only; rw [h2])
      have e9 : wrap64 (8 * (s.size : Int)) = ((8 * s.size : Nat) : Int) := by unfold wrap64; omega
      have HK0 := Lib.hid ((KB.new w (m : Int) s).below (below1 _ (.cells #[.string s, .int .i64 ((8 * s.size : Nat) : Int)] 27)) (by simp))
      have HR0 := Lib.hid (gd_RB_new (w.alloc (.cells #[.int .i64 (m : Int), .string s] 38)) s ((8 * s.size : Nat) : Int))
      have HB2 := Lib.hid (below2 w (.cells #[.int .i64 (m : Int), .string s] 38) (.cells #[.string s, .int .i64 ((8 * s.size : Nat) : Int)] 27))
      have hz0 : (w.alloc (.cells #[.int .i64 (m : Int), .string s] 38)).heap.size = w.heap.size + 1 := by simp
      rw [hz0] at HR0
      obtain ⟨i0, hi, hzz0, hzz1, hzz2⟩ := info_parts info_pt
      clear hL hE h25 hz0
      go_enter Tryd.func23, Tryd.ntmps23
      go_wp2_with fail
      refine (HI.out _).mono ?_
      rintro e w2 ⟨rfl, rfl⟩
      go_wp2_with fail
      refine (H3.out _).mono ?_
      rintro e w3 ⟨v1, q, f1, rfl, hq, hf0, hf1, hb3⟩
      have K3 := Lib.hid (HK0.out.below hb3 (by simp; omega))
      have R3 := Lib.hid (HR0.out.below hb3)
      have F3 := Lib.hid (HB2.out.trans (hb3.mono (by simp; omega)))
      have x0 := K3.out.c0
      have r0 := R3.out.c0
      have r1 := R3.out.c1
      clear hb3
      go_wp2_with fail
      refine (H4.out q _ hq).mono ?_
      rintro e w4 ⟨v2, p2, f2, rfl, hg0, hg1, hb4⟩
      have K4 := Lib.hid (K3.out.below hb4 K3.out.lt)
      have F4 := Lib.hid (F3.out.trans (hb4.mono F3.out.size))
      have HB4 := Lib.hid hb4
      clear hb4 x0 r0 r1 R3
      cases f1 with
      | false =>
        have E := Lib.hid (P0.out (hf0 rfl))
        clear hf0 hf1 hg0 hg1
        go_wp2_with fail
        go_ret2
        rw [E.out]
        exact ⟨_, rfl, World.ownsRow_nil _ _ _ _, F4.out⟩
      | true =>
        obtain ⟨ts, hts, hlt, hrt, ho1⟩ := hf1 rfl
        cases f2 with
        | false =>
          have E := Lib.hid (P1.out ts q hts (hg0 rfl))
          clear hf0 hf1 hg0 hg1 hts ho1 hlt hrt
          go_wp2_with fail
          go_ret2
          rw [E.out]
          exact ⟨_, rfl, World.ownsRow_nil _ _ _ _, F4.out⟩
        | true =>
          obtain ⟨vs, q2, l, t, hvs, hlv, hrv, ho2⟩ := hg1 rfl
          have E := Lib.hid (P2.out ts q vs q2 l t hts hvs)
          have I1 := (IL.of_own ho1 rfl hrt (by omega)).below HB4.out
          have I2 := IL.of_own ho2 rfl hrv (by omega)
          have HRz := Lib.hid (zip_rng (show ts.length = vs.length by omega) hrt hrv)
          have HZl := Lib.hid (zip_len ts vs (by omega))
          obtain ⟨_, _, At, ct, rfl, ht3⟩ := I1
          obtain ⟨_, _, Av, cv, rfl, hv3⟩ := I2
          obtain ⟨bt, ot, rfl, hbt, hct⟩ : ∃ b off, At = some ⟨b, off, none⟩ ∧ b < w4.heap.size ∧ ∀ j, j < ts.length → w4.cell? ⟨b, off + j, none⟩ = some (.int .i64 (ts.getD j 0)) := by
            rcases ht3 with h9 | ⟨b, off, h9, h8, h7⟩
            · rw [h9] at hlt; simp at hlt; omega
            · exact ⟨b, off, h9, Nat.lt_of_lt_of_le h8 HB4.out.size, h7⟩
          obtain ⟨bv, ov, rfl, hbv, hcv⟩ : ∃ b off, Av = some ⟨b, off, none⟩ ∧ b < w4.heap.size ∧ ∀ j, j < vs.length → w4.cell? ⟨b, off + j, none⟩ = some (.int .i64 (vs.getD j 0)) := by
            rcases hv3 with h9 | h9
            · rw [h9] at hlv; simp at hlv; omega
            · exact h9
          rw [hlt] at hct
          rw [hlv] at hcv
          have HCt := Lib.hid hct
          have HCv := Lib.hid hcv
          have HLt := Lib.hid hlt
          have HLv := Lib.hid hlv
          rw [hlt, hlv]
          have hown0 : (w4.alloc (.cells #[] 89)).ownsRow w4.heap.size 89 2 (.slice (some ⟨w4.heap.size, 0, none⟩) 0 0) 0 (prs ((ts.zip vs).take 0)) := by
            have h9 := World.ownsRow_made w4 (base := w4.heap.size) (e := 89) (size := 2) #[] 0 (Nat.le_refl _) (by simp [maxLen]) rfl
            simpa [prs] using h9
          have H0 := Lib.hid hown0
          have HBa := Lib.hid (below1 w4 (.cells #[] 89))
          clear hown0 hf0 hf1 hg0 hg1 hts hvs ho1 ho2 hct hcv ht3 hv3 hlt hlv hrt hrv
          go_wp2_with fail
          go_loopw [11, 12] (fun u i wr => ∃ k : Nat, k ≤ m ∧ i = .int .i64 (k : Int) ∧ wr.ownsRow w4.heap.size 89 2 u k (prs ((ts.zip vs).take k)) ∧ Below w4.heap.size w4 wr)
            (fun _ i _ => m - (intOf i).toNat)
          case atStart => exact ⟨0, Nat.zero_le _, by simp, H0.out, HBa.out⟩
          case round =>
            clear H0 HBa
            obtain ⟨k, hk, rfl, hown, hb⟩ := hrel
            have Hb := Lib.hid hb
            have hzb := hb.size
            have HO := Lib.hid hown
            by_cases hkm : k < m
            · have hx : wr.cell? ⟨bt, ot + k, none⟩ = some (.int .i64 (ts.getD k 0)) := (hb.cell (p := ⟨bt, ot + k, none⟩) hbt).trans (HCt.out k hkm)
              have hy : wr.cell? ⟨bv, ov + k, none⟩ = some (.int .i64 (vs.getD k 0)) := (hb.cell (p := ⟨bv, ov + k, none⟩) hbv).trans (HCv.out k hkm)
              obtain ⟨x, hX⟩ : ∃ x, ts.getD k 0 = x := ⟨_, rfl⟩
              obtain ⟨y, hY⟩ : ∃ y, vs.getD k 0 = y := ⟨_, rfl⟩
              have HTk := Lib.hid (zip_take (ts.zip vs) k x y (by have h1 := HZl.out; have h2 := HLt.out; omega) (by rw [zip_getD ts vs k (by have h2 := HLt.out; omega) (by have h2 := HLv.out; omega), hX, hY]))
              rw [hX] at hx
              rw [hY] at hy
              clear hX hY hown hb
              go_wp2_with fail
              have hbt2 : bt < wr.heap.size := by omega
              have hbv2 : bv < wr.heap.size := by omega
              have hS0 : (fun W : World => W.cell? ⟨bt, ot + k, none⟩ = some (.int .i64 x) ∧ W.cell? ⟨bv, ov + k, none⟩ = some (.int .i64 y)) wr.drew := ⟨hx, hy⟩
              refine wp_region_held_drew (S := fun W : World => W.cell? ⟨bt, ot + k, none⟩ = some (.int .i64 x) ∧ W.cell? ⟨bv, ov + k, none⟩ = some (.int .i64 y)) (by kernel_rfl) hS0 ?_
              intro _
              refine wpAnyH_take (i := 0) (v := u11) rfl (by kernel_rfl) (by kernel_rfl) (by kernel_rfl) (fun _ _ _ h => h) (Or.inl ⟨by kernel_rfl, ?t0⟩) (by assumption) ?_
              case t0 =>
                intro W hW
                clear hW
                go_simp
              refine wpAnyH_take (i := 1) (v := .slice (some ⟨bt, ot, none⟩) m ct) rfl (by kernel_rfl) (by kernel_rfl) (by kernel_rfl) (fun _ _ _ h => h) (Or.inl ⟨by kernel_rfl, ?t1⟩) (by assumption) ?_
              case t1 =>
                intro W hW
                clear hW
                go_simp
              refine wpAnyH_take (i := 2) (v := .int .i64 (k : Int)) rfl (by kernel_rfl) (by kernel_rfl) (by kernel_rfl) (fun _ _ _ h => h) (Or.inl ⟨by kernel_rfl, ?t2⟩) (by assumption) ?_
              case t2 =>
                intro W hW
                clear hW
                go_simp
              refine wpAnyH_take (i := 3) (v := .pointer (some ⟨bt, ot + k, none⟩)) rfl (by kernel_rfl) (by kernel_rfl) (by kernel_rfl) (fun _ _ _ h => h) (Or.inl ⟨by kernel_rfl, ?t3⟩) (by assumption) ?_
              case t3 =>
                intro W hW
                clear hW
                go_simp
              refine wpAnyH_take (i := 4) (v := .int .i64 x) rfl (by kernel_rfl) (by kernel_rfl) (by kernel_rfl) (fun _ _ _ h => h) (Or.inl ⟨by kernel_rfl, ?t4⟩) (by assumption) ?_
              case t4 =>
                intro W hW
                obtain ⟨z0, z1⟩ := hW
                go_simp
              refine wpAnyH_take (i := 5) (v := .slice (some ⟨bv, ov, none⟩) m cv) rfl (by kernel_rfl) (by kernel_rfl) (by kernel_rfl) (fun _ _ _ h => h) (Or.inl ⟨by kernel_rfl, ?t5⟩) (by assumption) ?_
              case t5 =>
                intro W hW
                clear hW
                go_simp
              refine wpAnyH_take (i := 6) (v := .int .i64 (k : Int)) rfl (by kernel_rfl) (by kernel_rfl) (by kernel_rfl) (fun _ _ _ h => h) (Or.inl ⟨by kernel_rfl, ?t6⟩) (by assumption) ?_
              case t6 =>
                intro W hW
                clear hW
                go_simp
              refine wpAnyH_take (i := 7) (v := .pointer (some ⟨bv, ov + k, none⟩)) rfl (by kernel_rfl) (by kernel_rfl) (by kernel_rfl) (fun _ _ _ h => h) (Or.inl ⟨by kernel_rfl, ?t7⟩) (by assumption) ?_
              case t7 =>
                intro W hW
                clear hW
                go_simp
              refine wpAnyH_take (i := 8) (v := .int .i64 y) rfl (by kernel_rfl) (by kernel_rfl) (by kernel_rfl) (fun _ _ _ h => h) (Or.inl ⟨by kernel_rfl, ?t8⟩) (by assumption) ?_
              case t8 =>
                intro W hW
                obtain ⟨z0, z1⟩ := hW
                go_simp
              refine wpAnyH_take (i := 9) (v := .agg #[.int .i64 x, .int .i64 y]) rfl (by kernel_rfl) (by kernel_rfl) (by kernel_rfl) (fun _ _ _ h => h) (Or.inl ⟨by kernel_rfl, ?t9⟩) (by assumption) ?_
              case t9 =>
                intro W hW
                clear hW
                go_simp
              refine wpAnyH_ready (rs := [10]) (by kernel_rfl) (by simp) ?_
              refine AllReadyH.cons rfl (fun K10 hK10 => ?_) AllReadyH.nil
              go_simp
              refine hK10.out _ _ (by exact ⟨(World.cell?_alloc_lt _ _ _ (by simpa using hbt2)).trans hx, (World.cell?_alloc_lt _ _ _ (by simpa using hbv2)).trans hy⟩) (fun _ => ?_)
              clear hK10 K10
              refine wpAnyH_ready (rs := [11]) (by kernel_rfl) (by simp) ?_
              refine AllReadyH.cons rfl (fun K11 hK11 => ?_) AllReadyH.nil
              refine step_append_ownQ _ rfl _ _ 35 rfl w4.heap.size 89 i0 (.agg #[.int .i64 0, .int .i64 0]) 2 16 Tryd.underlying35 hi hzz0 hzz1 hzz2 rfl (by decide) _ k (prs ((ts.zip vs).take k)) rfl ((show wr.drew.ownsRow w4.heap.size 89 2 u11 k (prs ((ts.zip vs).take k)) from HO.out).alloc _) ⟨wr.heap.size, 0, none⟩ 1 1 [.int .i64 x, .int .i64 y] rfl rfl (cells_pair wr.drew _ _ _) (by simp [Value.oneCell']) (by unfold maxLen; omega) (by omega) (by simp; omega) ?_
              intro v' w5 hown' hgrow _
              have hb5 : Below w4.heap.size w4 w5 := (Hb.out.drew.alloc (by simpa using hzb) _).grown hgrow (by simp; omega) (fun k hk => (HO.out.lt _ hk).1)
              have hown5 : w5.ownsRow w4.heap.size 89 2 v' (k + 1) (prs ((ts.zip vs).take (k + 1))) := by rw [HTk.out, prs_append]; exact hown'
              clear hown' hgrow
              have hS5 : w5.cell? ⟨bt, ot + k, none⟩ = some (.int .i64 x) ∧ w5.cell? ⟨bv, ov + k, none⟩ = some (.int .i64 y) := ⟨(hb5.cell (p := ⟨bt, ot + k, none⟩) hbt).trans ((Hb.out.cell (p := ⟨bt, ot + k, none⟩) hbt).symm.trans hx), (hb5.cell (p := ⟨bv, ov + k, none⟩) hbv).trans ((Hb.out.cell (p := ⟨bv, ov + k, none⟩) hbv).symm.trans hy)⟩
              refine hK11.out _ _ hS5 (fun _ => ?_)
              clear hK11 K11
              refine wpAnyH_ready (rs := [12]) (by kernel_rfl) (by simp) ?_
              refine AllReadyH.cons rfl (fun K12 hK12 => ?_) AllReadyH.nil
              go_simp
              refine hK12.out _ _ hS5 (fun _ => ?_)
              clear hK12 K12
              refine wpAnyH_done (by kernel_rfl) ?_ _
              have HB5 := Lib.hid hb5
              have HO5 := Lib.hid hown5
              clear hb5 hown5 hS5 hS0 hx hy
              go_wp2_with fail
              first
              | (go_roundw; (case rel => exact ⟨k + 1, by omega, by go_num, HO5.out, HB5.out⟩); (case measure => simp [intOf]; omega))
              | exact ⟨⟨k + 1, by omega, by go_num, HO5.out, HB5.out⟩, by simp [intOf]; omega⟩
            · obtain rfl : k = m := by omega
              have hzl : (ts.zip vs).length = k := by rw [HZl.out, HLt.out]
              rw [show (ts.zip vs).take k = ts.zip vs from by rw [← hzl, List.take_length]] at HO
              have HPL := Lib.hid (PL.of_own HO.out hzl.symm HRz.out (by omega))
              have HZL := Lib.hid hzl
              have KA := Lib.hid (K4.out.below hb K4.out.lt)
              have FA := Lib.hid (F4.out.trans (hb.mono F4.out.size))
              have zw : w.heap.size ≤ w4.heap.size := F4.out.size
              have HZd : Hid (ptsZ s (k : Int) (ts.zip vs) = if bkN (ts.zip vs) = (k : Int) ∧ bkD (ts.zip vs) = s then some (ts.zip vs) else none) := Lib.hid rfl
              have HBk := Lib.hid (HB.out _ (ts.zip vs) _ HPL.out)
              unfold BlkPost at HBk
              have HFB := Lib.hid (show bkB (ts.zip vs) = false → bkN (ts.zip vs) = 0 from fun h => by unfold bkN; rw [h]; rfl)
              clear hown hb hzl HCt HCv
              generalize ts.zip vs = xs at *
              generalize bkN xs = K at *
              generalize bkD xs = D at *
              generalize bkB xs = F at *
              go_wp2_with fail
              refine HBk.out.mono ?_
              rintro e w5 ⟨rfl, hb5⟩
              have KB5 := KA.out.below hb5 KA.out.lt
              have z5 := hb5.size
              have K6 := Lib.hid (KB5.below (below1 w5 (.cells #[.int .i64 K, .string D] 38)) KB5.lt)
              have B6 := Lib.hid (KB.new w5 K D)
              have F6 := Lib.hid (FA.out.trans ((hb5.trans ((below1 w5 (.cells #[.int .i64 K, .string D] 38)).mono z5)).mono FA.out.size))
              have O6 := Lib.hid (u_own_below HO.out (hb5.trans ((below1 w5 (.cells #[.int .i64 K, .string D] 38)).mono z5)))
              have x0 := K6.out.c0
              have x1 := K6.out.c1
              have y0 := B6.out.c0
              have y1 := B6.out.c1
              clear hb5 KB5
              cases F with
              | false =>
                have EZ := Lib.hid (show ptsZ s (k : Int) xs = none by rw [HZd.out, if_neg (fun h => by have := HFB.out rfl; omega)])
                clear HZd
                go_wp2_with fail
                go_ret2
                rw [E.out, EZ.out]
                exact ⟨_, rfl, World.ownsRow_nil _ _ _ _, F6.out⟩
              | true =>
                rcases blk_cases K (k : Int) D s with ⟨hN, hD⟩ | hN | ⟨hN, hD⟩
                · subst hN
                  subst hD
                  have EZ := Lib.hid (show ptsZ D (k : Int) xs = some xs by rw [HZd.out, if_pos ⟨rfl, rfl⟩])
                  clear HZd
                  go_wp2_with fail
                  go_ret2
                  rw [E.out, EZ.out]
                  exact ⟨_, rfl, by show World.ownsRow _ _ _ _ _ xs.length _; rw [HZL.out]; exact u_ownsRow_base O6.out zw, F6.out⟩
                · have EZ := Lib.hid (show ptsZ s (k : Int) xs = none by rw [HZd.out, if_neg (fun h => hN h.1)])
                  clear HZd
                  go_wp2_with fail
                  go_ret2
                  rw [E.out, EZ.out]
                  exact ⟨_, rfl, World.ownsRow_nil _ _ _ _, F6.out⟩
                · subst hN
                  have EZ := Lib.hid (show ptsZ s (k : Int) xs = none by rw [HZd.out, if_neg (fun h => hD (by rw [h.2]))])
                  clear HZd
                  go_wp2_with fail
                  go_ret2
                  rw [E.out, EZ.out]
                  exact ⟨_, rfl, World.ownsRow_nil _ _ _ _, F6.out⟩
    · have h25i : (2500 : Int) < s.size := by omega
      have E := Lib.hid (show ptsB s n = none by unfold ptsB; rw [if_neg (fun h => h25 h.2)])
      clear hn h25
      go_enter Tryd.func23, Tryd.ntmps23
      go_wp2_with fail
      refine (HI.out _).mono ?_
      rintro e w2 ⟨rfl, rfl⟩
      go_wp2_with fail
      go_ret2
      rw [E.out]
      exact ⟨_, rfl, World.ownsRow_nil _ _ _ _, hB0.out⟩
  · have E := Lib.hid (show ptsB s n = none by unfold ptsB; rw [if_neg (fun h => hn h.1)])
    have hJ := hI.out
    rw [inB_false hn] at hJ
    have HI := Lib.hid hJ
    clear hJ hI hn
    go_enter Tryd.func23, Tryd.ntmps23
    go_wp2_with fail
    refine (HI.out _).mono ?_
    rintro e w2 ⟨rfl, rfl⟩
    go_wp2_with fail
    go_ret2
    rw [E.out]
    exact ⟨_, rfl, World.ownsRow_nil _ _ _ _, hB0.out⟩
end Go.Proofs.YtldjeacpkndcbaaDoor

/- Walks: the checksum's bytes; a number's four bytes; the frame of some data. -/
set_option linter.unusedVariables false
set_option linter.unusedSimpArgs false
namespace Go.Proofs.YtldjeacpkndcbaaDoor
open Go.RowKit

def bstr (l : List Nat) : ByteArray := ⟨(l.map UInt8.ofNat).toArray⟩
def be4 (n : Nat) : List Nat := [n / 16777216 % 256, n / 65536 % 256, n / 256 % 256, n % 256]
def le4 (n : Nat) : List Nat := [n % 256, n / 256 % 256, n / 65536 % 256, n / 16777216 % 256]
def rev4 (n : Nat) : Nat := n % 256 * 16777216 + n / 256 % 256 * 65536 + n / 65536 % 256 * 256 + n / 16777216 % 256
theorem be4_rev {n : Nat} (h : n < 2 ^ 32) : be4 (rev4 n) = le4 n := by
  unfold be4 rev4 le4
  have a0 := Nat.mod_lt n (show 256 > 0 by decide)
  have a1 := Nat.mod_lt (n / 256) (show 256 > 0 by decide)
  have a2 := Nat.mod_lt (n / 65536) (show 256 > 0 by decide)
  have a3 := Nat.mod_lt (n / 16777216) (show 256 > 0 by decide)
  generalize n % 256 = x0 at *
  generalize n / 256 % 256 = x1 at *
  generalize n / 65536 % 256 = x2 at *
  generalize n / 16777216 % 256 = x3 at *
  have e0 : (x0 * 16777216 + x1 * 65536 + x2 * 256 + x3) / 16777216 % 256 = x0 := by omega
  have e1 : (x0 * 16777216 + x1 * 65536 + x2 * 256 + x3) / 65536 % 256 = x1 := by omega
  have e2 : (x0 * 16777216 + x1 * 65536 + x2 * 256 + x3) / 256 % 256 = x2 := by omega
  have e3 : (x0 * 16777216 + x1 * 65536 + x2 * 256 + x3) % 256 = x3 := by omega
  rw [e0, e1, e2, e3]
theorem and_split (h l h' l' : Nat) (hl : l < 2 ^ 16) (hl' : l' < 2 ^ 16) : (2 ^ 16 * h + l) &&& (2 ^ 16 * h' + l') = 2 ^ 16 * (h &&& h') + (l &&& l') := by
  apply Nat.eq_of_testBit_eq
  intro i
  rw [Nat.testBit_and, Nat.testBit_two_pow_mul_add _ hl, Nat.testBit_two_pow_mul_add _ hl', Nat.testBit_two_pow_mul_add _ (Nat.and_lt_two_pow _ hl')]
  by_cases hi : i < 16
  · rw [if_pos hi, if_pos hi, if_pos hi, Nat.testBit_and]
  · rw [if_neg hi, if_neg hi, if_neg hi, Nat.testBit_and]
theorem or_split (h l h' l' : Nat) (hl : l < 2 ^ 16) (hl' : l' < 2 ^ 16) : (2 ^ 16 * h + l) ||| (2 ^ 16 * h' + l') = 2 ^ 16 * (h ||| h') + (l ||| l') := by
  apply Nat.eq_of_testBit_eq
  intro i
  rw [Nat.testBit_or, Nat.testBit_two_pow_mul_add _ hl, Nat.testBit_two_pow_mul_add _ hl', Nat.testBit_two_pow_mul_add _ (Nat.or_lt_two_pow hl hl')]
  by_cases hi : i < 16
  · rw [if_pos hi, if_pos hi, if_pos hi, Nat.testBit_or]
  · rw [if_neg hi, if_neg hi, if_neg hi, Nat.testBit_or]
theorem and_255 (n : Nat) : n &&& 255 = n % 256 := Nat.and_two_pow_sub_one_eq_mod n 8
theorem mask_rb {n : Nat} : n &&& 16711935 = 65536 * (n / 65536 % 256) + n % 256 := by
  have e : n = 2 ^ 16 * (n / 65536) + n % 65536 := by omega
  have h := and_split (n / 65536) (n % 65536) 255 255 (by omega) (by omega)
  rw [← e, and_255, and_255] at h
  have e2 : n % 65536 % 256 = n % 256 := by omega
  rw [e2] at h
  exact h
theorem or_byte {a b : Nat} (ha : a < 256) : a ||| b * 256 = b * 256 + a := by
  have := Nat.two_pow_add_eq_or_of_lt (i := 8) (b := a) (by omega) b
  rw [Nat.or_comm, Nat.mul_comm b 256]
  exact this.symm
theorem rb_step {n : Nat} (h : n < 2 ^ 32) : (n / 256 &&& 16711935) ||| (n &&& 16711935) * 256 % 4294967296 = n / 65536 % 256 * 16777216 + n / 16777216 % 256 * 65536 + n % 256 * 256 + n / 256 % 256 := by
  rw [mask_rb, mask_rb]
  have a0 := Nat.mod_lt n (show 256 > 0 by decide)
  have a1 := Nat.mod_lt (n / 256) (show 256 > 0 by decide)
  have a2 := Nat.mod_lt (n / 65536) (show 256 > 0 by decide)
  have a3 := Nat.mod_lt (n / 16777216) (show 256 > 0 by decide)
  have e3 : n / 256 / 65536 % 256 = n / 16777216 % 256 := by rw [Nat.div_div_eq_div_mul]
  rw [e3]
  generalize n % 256 = x0 at *
  generalize n / 256 % 256 = x1 at *
  generalize n / 65536 % 256 = x2 at *
  generalize n / 16777216 % 256 = x3 at *
  have e4 : (65536 * x2 + x0) * 256 % 4294967296 = 2 ^ 16 * (x2 * 256) + x0 * 256 := by omega
  rw [e4]
  have h5 := or_split x3 x1 (x2 * 256) (x0 * 256) (by omega) (by omega)
  rw [or_byte a3, or_byte a1] at h5
  rw [show 65536 * x3 + x1 = 2 ^ 16 * x3 + x1 from rfl, h5]
  omega
theorem rb_last {m : Nat} (h : m < 2 ^ 32) : (m / 65536) ||| m * 65536 % 4294967296 = m % 65536 * 65536 + m / 65536 := by
  have h1 := or_split 0 (m / 65536) (m % 65536) 0 (by omega) (by omega)
  rw [Nat.zero_or, Nat.or_zero, Nat.mul_zero, Nat.zero_add, Nat.add_zero] at h1
  rw [show m * 65536 % 4294967296 = 2 ^ 16 * (m % 65536) by omega, h1]
  omega
theorem k_or32 {a b : Nat} (ha : a < 2 ^ 32) (hb : b < 2 ^ 32) : bits .or .u32 (a : Int) (b : Int) = ((a ||| b : Nat) : Int) := by
  have hx : a ||| b < 2 ^ 32 := Nat.or_lt_two_pow ha hb
  show IntKind.u32.wrap ((BitVec.ofInt 32 (a : Int) ||| BitVec.ofInt 32 (b : Int)).toNat : Int) = _
  rw [BitVec.toNat_or, k_of32 ha, k_of32 hb, k_wrap32]
  omega
theorem bytes_one (l : List Nat) : ∀ u ∈ byteCells l, u.oneCell' = true := by
  intro u hu
  unfold byteCells at hu
  obtain ⟨p, _, rfl⟩ := List.mem_map.1 hu
  rfl
theorem bytes_made (l : List Nat) (w : World) (hl : l.length ≤ maxLen) : (w.alloc (.cells (byteCells l).toArray 5)).ownsRow w.heap.size 5 1 (.slice (some ⟨w.heap.size, 0, none⟩) l.length l.length) l.length (byteCells l) :=
  ⟨by rw [byteCells_length, Nat.mul_one], .inr ⟨w.heap.size, l.length, _, rfl, Nat.le_refl _, heap_alloc_new w _, Nat.le_refl _, hl, by simp [byteCells], by rw [Nat.mul_one]; show (byteCells l).take l.length = byteCells l; rw [← byteCells_length l, List.take_length]⟩⟩
theorem cells_new (w : World) (xs : List Value) (t : TypeId) : ∀ j u, xs[j]? = some u → (w.alloc (.cells xs.toArray t)).cell? ((⟨w.heap.size, 0, none⟩ : Addr).add j) = some u := by
  intro j u hj
  rw [Addr.add_lit]
  simp [hj]

end Go.Proofs.YtldjeacpkndcbaaDoor

/- Walks: the frame of some data; the law FnExactFrameOf. -/
set_option linter.unusedVariables false
set_option linter.unusedSimpArgs false
namespace Go.Proofs.YtldjeacpkndcbaaDoor
open Go.RowKit

def mid4 (n : Nat) : Nat := n / 65536 % 256 * 16777216 + n / 16777216 % 256 * 65536 + n % 256 * 256 + n / 256 % 256
theorem mid4_rev (n : Nat) : mid4 n < 2 ^ 32 ∧ mid4 n % 65536 * 65536 + mid4 n / 65536 = rev4 n := by
  unfold mid4 rev4
  have a0 := Nat.mod_lt n (show 256 > 0 by decide)
  have a1 := Nat.mod_lt (n / 256) (show 256 > 0 by decide)
  have a2 := Nat.mod_lt (n / 65536) (show 256 > 0 by decide)
  have a3 := Nat.mod_lt (n / 16777216) (show 256 > 0 by decide)
  generalize n % 256 = x0 at *
  generalize n / 256 % 256 = x1 at *
  generalize n / 65536 % 256 = x2 at *
  generalize n / 16777216 % 256 = x3 at *
  omega
theorem rev4_lt (n : Nat) : rev4 n < 2 ^ 32 := by
  unfold rev4
  have a0 := Nat.mod_lt n (show 256 > 0 by decide)
  have a1 := Nat.mod_lt (n / 256) (show 256 > 0 by decide)
  have a2 := Nat.mod_lt (n / 65536) (show 256 > 0 by decide)
  have a3 := Nat.mod_lt (n / 16777216) (show 256 > 0 by decide)
  generalize n % 256 = x0 at *
  generalize n / 256 % 256 = x1 at *
  generalize n / 65536 % 256 = x2 at *
  generalize n / 16777216 % 256 = x3 at *
  omega
theorem rb_mid {n : Nat} (hn : n < 2 ^ 32) : bits .or .u32 (bits .and .u32 ((n : Int) / 256) 16711935) (bits .and .u32 (n : Int) 16711935 * 256 % 4294967296) = (mid4 n : Int) := by
  have a1 : bits .and .u32 ((n : Int) / 256) 16711935 = ((n / 256 &&& 16711935 : Nat) : Int) := k_and32 (a := n / 256) (b := 16711935) (by omega) (by omega)
  have a2 : bits .and .u32 (n : Int) 16711935 = ((n &&& 16711935 : Nat) : Int) := k_and32 (a := n) (b := 16711935) hn (by omega)
  have hst := rb_step hn
  rw [a1, a2]
  have hA : n / 256 &&& 16711935 < 2 ^ 32 := Nat.and_lt_two_pow _ (by omega)
  generalize n / 256 &&& 16711935 = X at *
  generalize n &&& 16711935 = Y at *
  have e : (Y : Int) * 256 % 4294967296 = ((Y * 256 % 4294967296 : Nat) : Int) := by omega
  rw [e, k_or32 hA (by omega), hst]
  rfl
theorem rb_all {n : Nat} (hn : n < 2 ^ 32) : bits .or .u32 (bits .or .u32 (bits .and .u32 ((n : Int) / 256) 16711935) (bits .and .u32 (n : Int) 16711935 * 256 % 4294967296) / 65536) (bits .or .u32 (bits .and .u32 ((n : Int) / 256) 16711935) (bits .and .u32 (n : Int) 16711935 * 256 % 4294967296) * 65536 % 4294967296) = (rev4 n : Int) := by
  rw [rb_mid hn]
  obtain ⟨h1, h2⟩ := mid4_rev n
  have hl := rb_last h1
  generalize mid4 n = m at *
  rw [show (m : Int) / 65536 = ((m / 65536 : Nat) : Int) by omega, show (m : Int) * 65536 % 4294967296 = ((m * 65536 % 4294967296 : Nat) : Int) by omega, k_or32 (by omega) (by omega), hl, h2]


set_option maxRecDepth 100000 in
set_option maxHeartbeats 2000000 in
theorem appendBig_any (base : Nat) (v : Value) (l : List Nat) (n : Nat) (w : World) (hn : n < 2 ^ 32) (hl : l.length ≤ 1000000) (hb : base ≤ w.heap.size) (h : w.ownsRow base 5 1 v l.length (byteCells l)) :
    Calls Tryd.prog 81 #[v, .int .u32 (n : Int)] w fun e w' => ∃ v', e = .returned v' ∧ w'.ownsRow base 5 1 v' (l ++ be4 n).length (byteCells (l ++ be4 n)) ∧ w.grownBy w' v.ownBlock := by
  obtain ⟨i0, hi, hz0, hz1, hz2⟩ := info_parts u_info_u8
  have HC := Lib.hid (cells_new w (byteCells (be4 n)) 5)
  have HO := Lib.hid (h.alloc (.cells (byteCells (be4 n)).toArray 5))
  have HV := Lib.hid h
  have HB := Lib.hid (bytes_one (be4 n))
  have hq1 : (n : Int) / 16777216 = ((n / 16777216 : Nat) : Int) := by omega
  have hq2 : (n : Int) / 65536 = ((n / 65536 : Nat) : Int) := by omega
  have hq3 : (n : Int) / 256 = ((n / 256 : Nat) : Int) := by omega
  have HE : Hid (byteCells (be4 n) = [.int .u8 ((n : Int) / 16777216), .int .u8 ((n : Int) / 65536 % 256), .int .u8 ((n : Int) / 256 % 256), .int .u8 ((n : Int) % 256)]) := Lib.hid (by
    simp only [byteCells, be4, List.map_cons, List.map_nil]
    rw [hq1, hq2, hq3, show n / 16777216 % 256 = n / 16777216 by omega, show ((n / 65536 : Nat) : Int) % 256 = ((n / 65536 % 256 : Nat) : Int) by omega, show ((n / 256 : Nat) : Int) % 256 = ((n / 256 % 256 : Nat) : Int) by omega, show (n : Int) % 256 = ((n % 256 : Nat) : Int) by omega])
  rw [HE.out] at HC HO HB
  clear hq1 hq2 hq3 h
  go_enter Tryd.func81, Tryd.ntmps81
  go_wp2_with (at_builtin; refine wpList_append_own _ rfl _ _ 22 rfl base 5 i0 (.int .u8 0) 1 1 Tryd.underlying22 hi hz0 hz1 hz2 rfl (by decide) v l.length (byteCells l) rfl HO.out ⟨w.heap.size, 0, none⟩ 4 4 _ rfl ?a1 HC.out HB.out ?a4 ?a5 ?a6 ?_)
  case a1 => rfl
  case a4 => unfold maxLen; omega
  case a5 => omega
  case a6 => first | omega | (simp; omega)
  intro v' w1 hown hg _
  have HO1 := Lib.hid hown
  have HG1 := Lib.hid ((World.grownBy_alloc w _ _).trans hg)
  clear hown hg
  go_wp2_with fail
  go_ret
  refine ⟨v', rfl, ?_, HG1.out⟩
  rw [byteCells_append, HE.out, List.length_append]
  exact HO1.out

theorem bytes_made' (l : List Nat) (xs : List Value) (h : byteCells l = xs) (W : World) (hl : l.length ≤ maxLen) :
    (W.alloc (.cells xs.toArray 5)).ownsRow W.heap.size 5 1 (.slice (some ⟨W.heap.size, 0, none⟩) l.length l.length) l.length (byteCells l) := by
  subst h
  exact bytes_made l W hl
def frS (s : ByteArray) : ByteArray := if 100000 < s.size then ⟨#[]⟩ else bstr (be4 s.size ++ le4 (CR.sumN s.data.toList) ++ s.data.toList.map UInt8.toNat)
theorem sumN_lt' (l : List UInt8) : CR.sumN l < 2 ^ 32 := Nat.xor_lt_two_pow (CR.sumFrom_lt (by omega) l) (by omega)
theorem strCells_bytes (s : ByteArray) : Go.Lib.strCells s = byteCells (s.data.toList.map UInt8.toNat) := by
  unfold Go.Lib.strCells byteCells
  simp
theorem bstr_append (l m : List Nat) : bstr l ++ bstr m = bstr (l ++ m) := by
  unfold bstr
  apply ByteArray.ext
  simp
theorem bstr_self (s : ByteArray) : bstr (s.data.toList.map UInt8.toNat) = s := by
  unfold bstr
  apply ByteArray.ext
  simp [Function.comp_def]


end Go.Proofs.YtldjeacpkndcbaaDoor

/- Walks: the text of a block, both. -/
set_option linter.unusedVariables false
set_option linter.unusedSimpArgs false
namespace Go.Proofs.YtldjeacpkndcbaaDoor
open Go.RowKit

/-- a block's numbers and bytes, and its text -/
def btB (n : Int) (s : ByteArray) : ByteArray := varS n ++ varS (s.size : Int) ++ s
def btT (n : Int) (s : ByteArray) : ByteArray := btB n s ++ bstr (be4 (CR.sumN (btB n s).data.toList))
def btS (n : Int) (s : ByteArray) : ByteArray := if ptsF (ptsB s n) = true then btT n s else ⟨#[]⟩
theorem varS_short (n : Int) : (varS n).size ≤ 10 := by
  rw [varS_size]; exact VM.var_len64 _ (i64u_lt n)
theorem bstr_size (l : List Nat) : (bstr l).size = l.length := by
  show (l.map UInt8.ofNat).toArray.size = _
  simp
theorem varS_bstr (n : Int) : varS n = bstr (VM.var (i64u n)) := rfl
theorem ptsF_size {s : ByteArray} {n : Int} (h : ptsF (ptsB s n) = true) : s.size ≤ 2500 := by
  cases hp : ptsB s n with
  | none => rw [hp] at h; cases h
  | some xs =>
    obtain ⟨_, _, hD, _⟩ := ptsB_some hp
    have := bkD_size xs
    rw [hD] at this; omega

set_option maxRecDepth 100000 in
set_option maxHeartbeats 2000000 in
theorem l5Text_any (n : Int) (s : ByteArray) (w : World) (hs : s.size ≤ 100000) :
    Calls Tryd.prog 79 #[.agg #[.int .i64 n, .string s]] w fun e w' => e = .returned (.string (btT n s)) ∧ Below w.heap.size w w' := by
  have HLA := Lib.hid (fun W => specL2Var_any n W)
  have HLB := Lib.hid (fun W => specL2Var_any (s.size : Int) W)
  have HE1 := Lib.hid (show btT n s = btB n s ++ bstr (be4 (CR.sumN (btB n s).data.toList)) from rfl)
  have HE2 := Lib.hid (show btB n s = varS n ++ varS (s.size : Int) ++ s from rfl)
  have hA := varS_short n
  have hB := varS_short (s.size : Int)
  have HSm := Lib.hid (fun W => l5Sum_any (btB n s) W (by rw [show btB n s = varS n ++ varS (s.size : Int) ++ s from rfl, ByteArray.size_append, ByteArray.size_append]; unfold maxLen; omega))
  have hbz : (btB n s).size = (varS n).size + (varS (s.size : Int)).size + s.size := by rw [show btB n s = varS n ++ varS (s.size : Int) ++ s from rfl, ByteArray.size_append, ByteArray.size_append]
  have hZ := sumN_lt' (btB n s).data.toList
  have HK0 := Lib.hid (KB.new w n s)
  have HB0 := Lib.hid (below1 w (.cells #[.int .i64 n, .string s] 38))
  generalize CR.sumN (btB n s).data.toList = Z at *
  have hq1 : (Z : Int) / 16777216 = ((Z / 16777216 : Nat) : Int) := by omega
  have hq2 : (Z : Int) / 65536 = ((Z / 65536 : Nat) : Int) := by omega
  have hq3 : (Z : Int) / 256 = ((Z / 256 : Nat) : Int) := by omega
  have HM : Hid (∀ W : World, (W.alloc (.cells #[.int .u8 ((Z : Int) / 16777216), .int .u8 ((Z : Int) / 65536 % 256), .int .u8 ((Z : Int) / 256 % 256), .int .u8 ((Z : Int) % 256)] 5)).ownsRow W.heap.size 5 1 (.slice (some ⟨W.heap.size, 0, none⟩) 4 4) 4 (byteCells (be4 Z))) := Lib.hid (fun W => by
    refine bytes_made' (be4 Z) _ ?_ W (by simp [be4, maxLen])
    simp only [byteCells, be4, List.map_cons, List.map_nil]
    rw [hq1, hq2, hq3, show Z / 16777216 % 256 = Z / 16777216 by omega, show ((Z / 65536 : Nat) : Int) % 256 = ((Z / 65536 % 256 : Nat) : Int) by omega, show ((Z / 256 : Nat) : Int) % 256 = ((Z / 256 % 256 : Nat) : Int) by omega, show (Z : Int) % 256 = ((Z % 256 : Nat) : Int) by omega])
  clear hq1 hq2 hq3
  have HCV : Hid (∀ (W : World) (base b : Nat), W.ownsRow base 5 1 (.slice (some ⟨b, 0, none⟩) 4 4) 4 (byteCells (be4 Z)) → (convert 22 9 (.slice (some ⟨b, 0, none⟩) 4 4)).run Tryd.prog W = .ok (.string (bstr (be4 Z))) W) := Lib.hid (fun W base b h9 => conv_own (l := be4 Z) h9)
  have hz4 : (bstr (be4 Z)).size = 4 := rfl
  generalize bstr (be4 Z) = TZ at *
  generalize btB n s = BT at *
  generalize hVA : varS n = VA at *
  generalize hVB : varS (s.size : Int) = VB at *
  have HVA := Lib.hid hVA
  have HVB := Lib.hid hVB
  have hs1 : ¬ 9223372036854775807 < VA.size + VB.size := by omega
  have hs2 : ¬ 9223372036854775807 < (VA ++ VB).size + s.size := by rw [ByteArray.size_append]; omega
  have hs2b : ¬ 9223372036854775807 < VA.size + VB.size + s.size := by omega
  have hs3 : ¬ 9223372036854775807 < BT.size + TZ.size := by omega
  have hs4b : ¬ 9223372036854775807 < VA.size + VB.size + s.size + TZ.size := by omega
  have hs4 : ¬ 9223372036854775807 < (VA ++ VB ++ s).size + TZ.size := by rw [ByteArray.size_append, ByteArray.size_append]; omega
  clear hVA hVB
  have k0 := HK0.out.c0
  have k1 := HK0.out.c1
  have hS0 : Hid ((w.alloc (.cells #[.int .i64 n, .string s] 38)).drew.cell? ⟨w.heap.size, 0, none⟩ = some (.int .i64 n) ∧ (w.alloc (.cells #[.int .i64 n, .string s] 38)).drew.cell? ⟨w.heap.size, 1, none⟩ = some (.string s)) := Lib.hid ⟨k0, k1⟩
  have hz1 : w.heap.size < (w.alloc (.cells #[.int .i64 n, .string s] 38)).heap.size := by simp
  have HBX : Hid (Below (w.alloc (.cells #[.int .i64 n, .string s] 38)).heap.size (w.alloc (.cells #[.int .i64 n, .string s] 38)) (w.alloc (.cells #[.int .i64 n, .string s] 38)).drew) := Lib.hid (Below.refl _ _).drew
  go_enter Tryd.func79, Tryd.ntmps79
  go_wp2_with fail
  generalize hW1 : w.alloc (.cells #[.int .i64 n, .string s] 38) = w1 at *
  clear hW1
  go_region_held3 (fun W => W.cell? ⟨w.heap.size, 0, none⟩ = some (.int .i64 n) ∧ W.cell? ⟨w.heap.size, 1, none⟩ = some (.string s))
    (first | with_reducible assumption | with_reducible exact hS0.out)
    (first
      | (go_at_call 115; (with_reducible refine (HLA.out _).mono ?_); rintro e w5 ⟨rfl, hb5⟩; have HBY := Lib.hid (HBX.out.trans (hb5.mono HBX.out.size)); clear HBX hb5; have HBX := HBY; clear HBY; have hB5 : w5.cell? ⟨w.heap.size, 0, none⟩ = some (.int .i64 n) ∧ w5.cell? ⟨w.heap.size, 1, none⟩ = some (.string s) := ⟨(HBX.out.cell (p := ⟨w.heap.size, 0, none⟩) hz1).trans k0, (HBX.out.cell (p := ⟨w.heap.size, 1, none⟩) hz1).trans k1⟩)
      | (go_at_call 115; (with_reducible refine (HLB.out _).mono ?_); rintro e w5 ⟨rfl, hb5⟩; have HBY := Lib.hid (HBX.out.trans (hb5.mono HBX.out.size)); clear HBX hb5; have HBX := HBY; clear HBY; have hB5 : w5.cell? ⟨w.heap.size, 0, none⟩ = some (.int .i64 n) ∧ w5.cell? ⟨w.heap.size, 1, none⟩ = some (.string s) := ⟨(HBX.out.cell (p := ⟨w.heap.size, 0, none⟩) hz1).trans k0, (HBX.out.cell (p := ⟨w.heap.size, 1, none⟩) hz1).trans k1⟩))
  all_goals
    have HF5 := Lib.hid (HB0.out.trans (HBX.out.mono HB0.out.size))
    rw [← HE2.out]
    clear hB5
    go_wp2_with fail
    refine (HSm.out _).mono ?_
    rintro e w6 ⟨rfl, rfl⟩
    have hcva := HCV.out _ _ _ (HM.out w5)
    go_wp2_with fail
    go_ret
    exact ⟨by rw [HE1.out]; rfl, HF5.out.alloc HF5.out.size _⟩

set_option maxRecDepth 100000 in
set_option maxHeartbeats 2000000 in
theorem specBlockText_any (n : Int) (s : ByteArray) (w : World) (hs : s.size ≤ maxLen) :
    Calls Tryd.prog 40 #[.agg #[.int .i64 n, .string s]] w fun e w' => e = .returned (.string (btS n s)) ∧ Below w.heap.size w w' := by
  have HP := Lib.hid (fun W => specPointsOf_any n s W hs)
  unfold POutF at HP
  have HT := Lib.hid (fun W h => l5Text_any n s W h)
  have HSz := Lib.hid (@ptsF_size s n)
  have HK0 := Lib.hid (KB.new w n s)
  have HB0 := Lib.hid (below1 w (.cells #[.int .i64 n, .string s] 38))
  have HE : Hid (btS n s = if ptsF (ptsB s n) = true then btT n s else ⟨#[]⟩) := Lib.hid rfl
  generalize ptsF (ptsB s n) = F at *
  cases F with
  | false =>
    go_enter Tryd.func40, Tryd.ntmps40
    go_wp2_with fail
    refine (HP.out _).mono ?_
    rintro e w2 ⟨v, rfl, _, hb2⟩
    have HF := Lib.hid (HB0.out.trans (hb2.mono HB0.out.size))
    clear hb2
    go_wp2_with fail
    go_ret
    exact ⟨by rw [HE.out]; rfl, HF.out⟩
  | true =>
    have hsz := HSz.out rfl
    go_enter Tryd.func40, Tryd.ntmps40
    go_wp2_with fail
    refine (HP.out _).mono ?_
    rintro e w2 ⟨v, rfl, _, hb2⟩
    have HF := Lib.hid (HB0.out.trans (hb2.mono HB0.out.size))
    have HK2 := HK0.out.below hb2 (by simp)
    have x0 := HK2.c0
    have x1 := HK2.c1
    clear hb2
    go_wp2_with fail
    refine (HT.out _ (by omega)).mono ?_
    rintro e w3 ⟨rfl, hb3⟩
    have HF3 := Lib.hid (HF.out.trans (hb3.mono HF.out.size))
    clear hb3 x0 x1
    go_wp2_with fail
    go_ret
    exact ⟨by rw [HE.out]; rfl, HF3.out⟩

set_option maxRecDepth 100000 in
set_option maxHeartbeats 2000000 in
theorem implBlockText_any (n : Int) (s : ByteArray) (w : World) (hs : s.size ≤ 1000000000000) (hT : Tab w) :
    Calls Tryd.prog 41 #[.agg #[.int .i64 n, .string s]] w fun e w' => e = .returned (.string (btS n s)) ∧ Below w.heap.size w w' := by
  have HP := Lib.hid (fun W hT => implPointsOf_any n s W hs hT)
  unfold POutF at HP
  have HSz := Lib.hid (@ptsF_size s n)
  have HK0 := Lib.hid (KB.new w n s)
  have HB0 := Lib.hid (below1 w (.cells #[.int .i64 n, .string s] 38))
  have HT0 := Lib.hid (hT.below HB0.out)
  have HE : Hid (btS n s = if ptsF (ptsB s n) = true then btT n s else ⟨#[]⟩) := Lib.hid rfl
  have HE1 := Lib.hid (show btT n s = btB n s ++ bstr (be4 (CR.sumN (btB n s).data.toList)) from rfl)
  have HE2 := Lib.hid (show btB n s = bstr (VM.var (i64u n) ++ VM.var (i64u (s.size : Int)) ++ s.data.toList.map UInt8.toNat) by
    rw [show btB n s = varS n ++ varS (s.size : Int) ++ s from rfl, ← bstr_append, ← bstr_append, bstr_self]; rfl)
  have hA := VM.var_len64 _ (i64u_lt n)
  have hB := VM.var_len64 _ (i64u_lt (s.size : Int))
  have HAV := Lib.hid (fun n₀ v0 xs m W h1 h2 h3 => appendVar_any n₀ v0 xs m W h1 h2 h3)
  have HCS := Lib.hid (fun (t : ByteArray) W (h : t.size ≤ maxLen) => checksum_any t W h)
  have HSC := Lib.hid (strCells_bytes s)
  obtain ⟨i0, hii, hz0, hz1, hz2⟩ := info_parts u_info_u8
  generalize ptsF (ptsB s n) = F at *
  cases F with
  | false =>
    clear hT
    go_enter Tryd.func41, Tryd.ntmps41
    go_wp2_with fail
    refine (HP.out _ HT0.out).mono ?_
    rintro e w2 ⟨v, rfl, _, hb2⟩
    have HF := Lib.hid (HB0.out.trans (hb2.mono HB0.out.size))
    clear hb2
    go_wp2_with fail
    go_ret
    exact ⟨by rw [HE.out]; rfl, HF.out⟩
  | true =>
    have hsz := HSz.out rfl
    clear hT
    have HAV1 := Lib.hid (fun W => HAV.out W.heap.size (.slice none 0 0) [] n W (Nat.le_refl _) (by simp) (World.ownsRow_nil _ _ _ _))
    obtain ⟨LA, hLA⟩ : ∃ LA, VM.var (i64u n) = LA := ⟨_, rfl⟩
    obtain ⟨LB, hLB⟩ : ∃ LB, VM.var (i64u (s.size : Int)) = LB := ⟨_, rfl⟩
    rw [hLA] at hA HE2
    rw [hLB] at hB HE2
    have HLA := Lib.hid hLA
    have HLB := Lib.hid hLB
    clear hLA hLB
    go_enter Tryd.func41, Tryd.ntmps41
    go_wp2_with fail
    refine (HP.out _ HT0.out).mono ?_
    rintro e w2 ⟨v, rfl, _, hb2⟩
    have HF := Lib.hid (HB0.out.trans (hb2.mono HB0.out.size))
    have HK2 := Lib.hid (HK0.out.below hb2 (by simp))
    have x0 := HK2.out.c0
    have z2 : w.heap.size < w2.heap.size := HK2.out.lt
    clear hb2
    go_wp2_with fail
    refine (HAV1.out _).mono ?_
    rintro e w3 ⟨v1, rfl, ho1, hb3⟩
    rw [List.nil_append, HLA.out] at ho1
    have HO1 := Lib.hid ho1
    have HB3 := Lib.hid hb3
    have HK3 := Lib.hid (HK2.out.below hb3 z2)
    have x1 := HK3.out.c1
    clear hb3 ho1 x0
    go_wp2_with fail
    refine (HAV.out w2.heap.size v1 LA (s.size : Int) _ HB3.out.size (by omega) HO1.out).mono ?_
    rintro e w4 ⟨v2, rfl, ho2, hb4⟩
    rw [HLB.out] at ho2
    have HO2 := Lib.hid ho2
    have HB4 := Lib.hid (HB3.out.trans hb4)
    have HK4 := Lib.hid (HK3.out.below hb4 z2)
    have x2 := HK4.out.c1
    have hz4 := HB4.out.size
    clear hb4 ho2 x1
    go_wp2_with (at_builtin; refine Go.Lib.wpList_append_own_string _ rfl _ _ 22 9 rfl w2.heap.size 5 i0 Tryd.underlying22 Tryd.underlying9 hii hz0 hz1 hz2 v2 (LA ++ LB).length (byteCells (LA ++ LB)) rfl HO2.out s rfl ?a4 ?a5 ?a6 ?_)
    case a4 => simp [maxLen]; omega
    case a5 => simp; omega
    case a6 => exact hz4
    intro v5 w5 hown hg _
    have HB5 := Lib.hid (HB4.out.grown hg hz4 (fun k hk => (HO2.out.lt k hk).1))
    have hfin : w5.ownsRow w2.heap.size 5 1 v5 (LA ++ LB ++ s.data.toList.map UInt8.toNat).length (byteCells (LA ++ LB ++ s.data.toList.map UInt8.toNat)) := by
      rw [byteCells_append, ← HSC.out, List.length_append, List.length_append, show (s.data.toList.map UInt8.toNat).length = s.size by simp]
      exact hown
    have hlen : (LA ++ LB ++ s.data.toList.map UInt8.toNat).length ≤ 3000 := by
      rw [List.length_append, List.length_append, show (s.data.toList.map UInt8.toNat).length = s.size by simp]; omega
    have HLen := Lib.hid hlen
    generalize LA ++ LB ++ s.data.toList.map UInt8.toNat = BL at *
    have hconv := conv_own hfin
    rw [show (⟨(BL.map UInt8.ofNat).toArray⟩ : ByteArray) = bstr BL from rfl, ← HE2.out] at hconv
    have HO5 := Lib.hid hfin
    have HBz := Lib.hid (show (btB n s).size ≤ 3000 by rw [HE2.out, bstr_size]; exact hlen)
    have HZ := Lib.hid (sumN_lt' (btB n s).data.toList)
    have HCS1 := Lib.hid (fun W => HCS.out (btB n s) W (by have := HBz.out; unfold maxLen; omega))
    generalize btB n s = BT at *
    generalize CR.sumN BT.data.toList = Z at *
    have HBT := Lib.hid (show bstr BL = BT from HE2.out.symm)
    clear hown hg hfin hlen x2 HE2
    go_wp2_with fail
    refine (HCS1.out _).mono ?_
    rintro e w6 ⟨rfl, hb6⟩
    have HB6 := Lib.hid (HB5.out.trans (hb6.mono HB5.out.size))
    have HO6 := Lib.hid (u_own_below HO5.out hb6)
    clear hb6 HO5 HB5 hconv
    go_wp2_with fail
    refine (appendBig_any w2.heap.size v5 BL Z w6 HZ.out (by have := HLen.out; omega) HB6.out.size HO6.out).mono ?_
    rintro e w7 ⟨v7, rfl, ho7, hg7⟩
    have HB7 := Lib.hid (HB6.out.grown hg7 HB6.out.size (fun k hk => (HO6.out.lt k hk).1))
    have hconv7 := conv_own ho7
    clear ho7 hg7
    go_wp2_with fail
    go_ret
    refine ⟨?_, HF.out.trans (HB7.out.mono (by omega))⟩
    have h1 : btS n s = ⟨(BL.map UInt8.ofNat ++ (be4 Z).map UInt8.ofNat).toArray⟩ := by
      rw [show btS n s = btT n s from by rw [HE.out]; simp, HE1.out, ← HBT.out, bstr_append]
      unfold bstr
      rw [List.map_append]
    rw [h1]
    rfl
end Go.Proofs.YtldjeacpkndcbaaDoor
