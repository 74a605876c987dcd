/- Walks: the document's PointsOf. -/
import Derived.Test.YtanoohfhifhhaaaDoorDi
import Derived.Test.YtanoohfhifhhaaaDoorQt
import Derived.Test.YtanoohfhifhhaaaDoorSe
import Derived.Deep.QuietTactic
import Derived.OpenShut
import Derived.Deep.RegionLaw
set_option linter.unusedVariables false
set_option linter.unusedSimpArgs false
namespace Go.Proofs.YtanoohfhifhhaaaDoor
open Go.RowKit

theorem back3_any (s : ByteArray) (m : Nat) (w : World) (hs : s.size ≤ 2500) (hm : m ≤ 120) (L : List Bool) (hL : allL s = L) :
    Calls Tryd.prog 86 #[.agg #[.string s, .int .i64 ((8 * s.size : Nat) : Int)], .int .i64 0, .int .i64 (m : Int)] w fun e w' =>
      ∃ (v : Value) (q : Nat) (f : Bool), e = .returned (.tuple #[v, .int .i64 (q : Int), .bool f]) ∧ q ≤ 8 * s.size ∧ (f = false → timesB L m 0 = none) ∧ (f = true → ∃ ts, timesB L m 0 = some (ts, q) ∧ ts.length = m ∧ (∀ j, Rng (ts.getD j 0)) ∧ w'.ownsRow w.heap.size 2 1 v ts.length (ints ts)) ∧ Below w.heap.size w w' := by
  have hlen : L.length = 8 * s.size := by rw [← hL]; exact allL_len s
  refine (show Calls _ _ _ _ _ from l3Back_any s (8 * s.size) 0 m w (by unfold maxLen; omega) (by omega) (Nat.le_refl _) (Nat.zero_le _) hm L hL).mono ?_
  rintro e w' ⟨ho, hb⟩
  cases hr : timesG (fL L) (getL L) m 0 with
  | none =>
    rw [hr] at ho
    exact ⟨_, 0, false, ho, by omega, fun _ => by unfold timesB timesFin; rw [hr], (fun h => by cases h), hb⟩
  | some a =>
    obtain ⟨ts, q⟩ := a
    rw [hr] at ho
    obtain ⟨v, he, hown⟩ := ho
    have T := timesG_ok (rdOk_L L) (p := 0) (Nat.zero_le _) m ts q hm hr
    refine ⟨v, q, timesOkB ts, he, by have := T.qN; omega, fun h => by unfold timesB timesFin; rw [hr]; simp only; rw [if_neg (by rw [h]; simp)], fun h => ⟨ts, by unfold timesB timesFin; rw [hr]; simp only; rw [if_pos h], T.len, T.rng, hown⟩, hb⟩
theorem back4_any (s : ByteArray) (m q : Nat) (w : World) (hs : s.size ≤ 2500) (hq : q ≤ 8 * s.size) (hm : m ≤ 120) (L : List Bool) (hL : allL s = L) :
    Calls Tryd.prog 87 #[.agg #[.string s, .int .i64 ((8 * s.size : Nat) : Int)], .int .i64 (q : Int), .int .i64 (m : Int)] w fun e w' =>
      ∃ (v : Value) (p : Int) (f : Bool), e = .returned (.tuple #[v, .int .i64 p, .bool f]) ∧ (f = false → valG L m q = none) ∧ (f = true → ∃ vs q2 l t, valG L m q = some (vs, q2, l, t) ∧ vs.length = m ∧ (∀ j, Rng (vs.getD j 0)) ∧ w'.ownsRow w.heap.size 2 1 v vs.length (ints vs)) ∧ Below w.heap.size w w' := by
  have hlen : L.length = 8 * s.size := by rw [← hL]; exact allL_len s
  refine (l4Back_any s (8 * s.size) q m w (by unfold maxLen; omega) (by omega) (Nat.le_refl _) hq hm L hL).mono ?_
  rintro e w' ⟨ho, hb⟩
  cases hr : valG L m q with
  | none =>
    rw [hr] at ho
    exact ⟨_, 0, false, ho, fun _ => rfl, (fun h => by cases h), hb⟩
  | some a =>
    obtain ⟨vs, q2, l, t⟩ := a
    rw [hr] at ho
    obtain ⟨v, he, hown⟩ := ho
    have T := valG_ok (by omega) hr
    exact ⟨v, _, true, he, (fun h => by cases h), fun _ => ⟨vs, q2, l, t, rfl, T.1, T.2.1, hown⟩, hb⟩
theorem zip_take (xs : List (Int × Int)) (k : Nat) (x y : Int) (hk : k < xs.length) (h : xs.getD k (0, 0) = (x, y)) : xs.take (k + 1) = xs.take k ++ [(x, y)] := by
  rw [List.take_add_one, List.getElem?_eq_getElem hk]
  rw [List.getD_eq_getElem?_getD, List.getElem?_eq_getElem hk] at h
  simp only [Option.getD_some] at h
  simp [h]
theorem cells_pair (w : World) (a b : Value) (t : TypeId) : ∀ j u, ([a, b] : List Value)[j]? = some u → (w.alloc (.cells #[a, b] t)).cell? ((⟨w.heap.size, 0, none⟩ : Addr).add j) = some u := by
  intro j u hj
  rw [Addr.add_lit]
  rcases j with _ | _ | j
  · simp at hj; subst hj; go_simp
  · simp at hj; subst hj; go_simp
  · simp at hj
theorem prs_one (a b : Int) : prs [(a, b)] = [.int .i64 a, .int .i64 b] := rfl
theorem bits_box {w : World} {B : Nat} {s : ByteArray} {N : Int} (h : RB w B s N) : w.cell? ⟨B, 0, none⟩ = some (.string s) ∧ w.cell? ⟨B, 1, none⟩ = some (.int .i64 N) := ⟨h.c0, h.c1⟩

set_option maxRecDepth 100000 in
set_option maxHeartbeats 4000000 in
theorem specPointsOf_any (n : Int) (s : ByteArray) (w : World) (hs : s.size ≤ maxLen) :
    Calls Tryd.prog 57 #[.agg #[.int .i64 n, .string s]] w (POutF (ptsX (ptsB s n)) (ptsF (ptsB s n)) w) := by
  have hB0 := Lib.hid (below1 w (.cells #[.int .i64 n, .string s] 36))
  have hI := Lib.hid (fun W => l1In_any n 1 120 W)
  by_cases hn : 1 ≤ n ∧ n ≤ 120
  · have hJ := hI.out
    rw [inB_true hn.1 hn.2] at hJ
    have HI := Lib.hid hJ
    clear hJ hI
    by_cases h25 : s.size ≤ 2500
    · have h25i : ¬ (2500 : Int) < s.size := by omega
      obtain ⟨h0, h1⟩ := hn
      obtain ⟨m, rfl⟩ : ∃ m : Nat, n = (m : Int) := ⟨n.toNat, by omega⟩
      obtain ⟨L, hL⟩ : ∃ L, allL s = L := ⟨_, rfl⟩
      have hE : ptsB s (m : Int) = ptsL L s m := by unfold ptsB; rw [if_pos ⟨⟨h0, h1⟩, h25⟩, hL, Int.toNat_natCast]
      rw [hE]
      have H3 := Lib.hid (fun W => back3_any s m W h25 (by omega) L hL)
      have H4 := Lib.hid (fun q W hq => back4_any s m q W h25 hq (by omega) L hL)
      have HB := Lib.hid (fun v xs W h => specBlockOf_any v xs W h)
      have P0 := Lib.hid (show timesB L m 0 = none → ptsL L s m = none from fun h => by unfold ptsL; rw [h])
      have P1 := Lib.hid (show ∀ ts q, timesB L m 0 = some (ts, q) → valG L m q = none → ptsL L s m = none from fun ts q h h2 => by unfold ptsL; rw [h]; simp only; rw [h2])
      have P2 := Lib.hid (show ∀ ts q vs q2 l t, timesB L m 0 = some (ts, q) → valG L m q = some (vs, q2, l, t) → ptsL L s m = ptsZ s (m : Int) (ts.zip vs) from fun ts q vs q2 l t h h2 => by unfold ptsL; rw [h]; simp only; rw [h2])
      have e9 : wrap64 (8 * (s.size : Int)) = ((8 * s.size : Nat) : Int) := by unfold wrap64; omega
      have HK0 := Lib.hid ((KB.new w (m : Int) s).below (below1 _ (.cells #[.string s, .int .i64 ((8 * s.size : Nat) : Int)] 77)) (by simp))
      have HR0 := Lib.hid (gd_RB_new (w.alloc (.cells #[.int .i64 (m : Int), .string s] 36)) s ((8 * s.size : Nat) : Int))
      have HB2 := Lib.hid (below2 w (.cells #[.int .i64 (m : Int), .string s] 36) (.cells #[.string s, .int .i64 ((8 * s.size : Nat) : Int)] 77))
      have hz0 : (w.alloc (.cells #[.int .i64 (m : Int), .string s] 36)).heap.size = w.heap.size + 1 := by simp
      rw [hz0] at HR0
      obtain ⟨i0, hi, hzz0, hzz1, hzz2⟩ := info_parts info_pt
      clear hL hE h25 hz0
      go_enter Tryd.func57, Tryd.ntmps57
      go_wp2_with fail
      refine (HI.out _).mono ?_
      rintro e w2 ⟨rfl, rfl⟩
      go_wp2_with fail
      refine (H3.out _).mono ?_
      rintro e w3 ⟨v1, q, f1, rfl, hq, hf0, hf1, hb3⟩
      have K3 := Lib.hid (HK0.out.below hb3 (by simp; omega))
      have R3 := Lib.hid (HR0.out.below hb3)
      have F3 := Lib.hid (HB2.out.trans (hb3.mono (by simp; omega)))
      have x0 := K3.out.c0
      have r0 := R3.out.c0
      have r1 := R3.out.c1
      clear hb3
      go_wp2_with fail
      refine (H4.out q _ hq).mono ?_
      rintro e w4 ⟨v2, p2, f2, rfl, hg0, hg1, hb4⟩
      have K4 := Lib.hid (K3.out.below hb4 K3.out.lt)
      have F4 := Lib.hid (F3.out.trans (hb4.mono F3.out.size))
      have HB4 := Lib.hid hb4
      clear hb4 x0 r0 r1 R3
      cases f1 with
      | false =>
        have E := Lib.hid (P0.out (hf0 rfl))
        clear hf0 hf1 hg0 hg1
        go_wp2_with fail
        go_ret2
        rw [E.out]
        exact ⟨_, rfl, World.ownsRow_nil _ _ _ _, F4.out⟩
      | true =>
        obtain ⟨ts, hts, hlt, hrt, ho1⟩ := hf1 rfl
        cases f2 with
        | false =>
          have E := Lib.hid (P1.out ts q hts (hg0 rfl))
          clear hf0 hf1 hg0 hg1 hts ho1 hlt hrt
          go_wp2_with fail
          go_ret2
          rw [E.out]
          exact ⟨_, rfl, World.ownsRow_nil _ _ _ _, F4.out⟩
        | true =>
          obtain ⟨vs, q2, l, t, hvs, hlv, hrv, ho2⟩ := hg1 rfl
          have E := Lib.hid (P2.out ts q vs q2 l t hts hvs)
          have I1 := (IL.of_own ho1 rfl hrt (by omega)).below HB4.out
          have I2 := IL.of_own ho2 rfl hrv (by omega)
          have HRz := Lib.hid (zip_rng (show ts.length = vs.length by omega) hrt hrv)
          have HZl := Lib.hid (zip_len ts vs (by omega))
          obtain ⟨_, _, At, ct, rfl, ht3⟩ := I1
          obtain ⟨_, _, Av, cv, rfl, hv3⟩ := I2
          obtain ⟨bt, ot, rfl, hbt, hct⟩ : ∃ b off, At = some ⟨b, off, none⟩ ∧ b < w4.heap.size ∧ ∀ j, j < ts.length → w4.cell? ⟨b, off + j, none⟩ = some (.int .i64 (ts.getD j 0)) := by
            rcases ht3 with h9 | ⟨b, off, h9, h8, h7⟩
            · rw [h9] at hlt; simp at hlt; omega
            · exact ⟨b, off, h9, Nat.lt_of_lt_of_le h8 HB4.out.size, h7⟩
          obtain ⟨bv, ov, rfl, hbv, hcv⟩ : ∃ b off, Av = some ⟨b, off, none⟩ ∧ b < w4.heap.size ∧ ∀ j, j < vs.length → w4.cell? ⟨b, off + j, none⟩ = some (.int .i64 (vs.getD j 0)) := by
            rcases hv3 with h9 | h9
            · rw [h9] at hlv; simp at hlv; omega
            · exact h9
          rw [hlt] at hct
          rw [hlv] at hcv
          have HCt := Lib.hid hct
          have HCv := Lib.hid hcv
          have HLt := Lib.hid hlt
          have HLv := Lib.hid hlv
          rw [hlt, hlv]
          have hown0 : (w4.alloc (.cells #[] 41)).ownsRow w4.heap.size 41 2 (.slice (some ⟨w4.heap.size, 0, none⟩) 0 0) 0 (prs ((ts.zip vs).take 0)) := by
            have h9 := World.ownsRow_made w4 (base := w4.heap.size) (e := 41) (size := 2) #[] 0 (Nat.le_refl _) (by simp [maxLen]) rfl
            simpa [prs] using h9
          have H0 := Lib.hid hown0
          have HBa := Lib.hid (below1 w4 (.cells #[] 41))
          clear hown0 hf0 hf1 hg0 hg1 hts hvs ho1 ho2 hct hcv ht3 hv3 hlt hlv hrt hrv
          go_wp2_with fail
          go_loopw [11, 12] (fun u i wr => ∃ k : Nat, k ≤ m ∧ i = .int .i64 (k : Int) ∧ wr.ownsRow w4.heap.size 41 2 u k (prs ((ts.zip vs).take k)) ∧ Below w4.heap.size w4 wr)
            (fun _ i _ => m - (intOf i).toNat)
          case atStart => exact ⟨0, Nat.zero_le _, by simp, H0.out, HBa.out⟩
          case round =>
            clear H0 HBa
            obtain ⟨k, hk, rfl, hown, hb⟩ := hrel
            have Hb := Lib.hid hb
            have hzb := hb.size
            have HO := Lib.hid hown
            by_cases hkm : k < m
            · have hx : wr.cell? ⟨bt, ot + k, none⟩ = some (.int .i64 (ts.getD k 0)) := (hb.cell (p := ⟨bt, ot + k, none⟩) hbt).trans (HCt.out k hkm)
              have hy : wr.cell? ⟨bv, ov + k, none⟩ = some (.int .i64 (vs.getD k 0)) := (hb.cell (p := ⟨bv, ov + k, none⟩) hbv).trans (HCv.out k hkm)
              obtain ⟨x, hX⟩ : ∃ x, ts.getD k 0 = x := ⟨_, rfl⟩
              obtain ⟨y, hY⟩ : ∃ y, vs.getD k 0 = y := ⟨_, rfl⟩
              have HTk := Lib.hid (zip_take (ts.zip vs) k x y (by have h1 := HZl.out; have h2 := HLt.out; omega) (by rw [zip_getD ts vs k (by have h2 := HLt.out; omega) (by have h2 := HLv.out; omega), hX, hY]))
              rw [hX] at hx
              rw [hY] at hy
              clear hX hY hown hb
              go_wp2_with fail
              have hbt2 : bt < wr.heap.size := by omega
              have hbv2 : bv < wr.heap.size := by omega
              have hS0 : (fun W : World => W.cell? ⟨bt, ot + k, none⟩ = some (.int .i64 x) ∧ W.cell? ⟨bv, ov + k, none⟩ = some (.int .i64 y)) wr.drew := ⟨hx, hy⟩
              refine wp_region_held_drew (S := fun W : World => W.cell? ⟨bt, ot + k, none⟩ = some (.int .i64 x) ∧ W.cell? ⟨bv, ov + k, none⟩ = some (.int .i64 y)) (by kernel_rfl) hS0 ?_
              intro _
              refine wpAnyH_take (i := 0) (v := u11) rfl (by kernel_rfl) (by kernel_rfl) (by kernel_rfl) (fun _ _ _ h => h) (Or.inl ⟨by kernel_rfl, ?t0⟩) (by assumption) ?_
              case t0 =>
                intro W hW
                clear hW
                go_simp
              refine wpAnyH_take (i := 1) (v := .slice (some ⟨bt, ot, none⟩) m ct) rfl (by kernel_rfl) (by kernel_rfl) (by kernel_rfl) (fun _ _ _ h => h) (Or.inl ⟨by kernel_rfl, ?t1⟩) (by assumption) ?_
              case t1 =>
                intro W hW
                clear hW
                go_simp
              refine wpAnyH_take (i := 2) (v := .int .i64 (k : Int)) rfl (by kernel_rfl) (by kernel_rfl) (by kernel_rfl) (fun _ _ _ h => h) (Or.inl ⟨by kernel_rfl, ?t2⟩) (by assumption) ?_
              case t2 =>
                intro W hW
                clear hW
                go_simp
              refine wpAnyH_take (i := 3) (v := .pointer (some ⟨bt, ot + k, none⟩)) rfl (by kernel_rfl) (by kernel_rfl) (by kernel_rfl) (fun _ _ _ h => h) (Or.inl ⟨by kernel_rfl, ?t3⟩) (by assumption) ?_
              case t3 =>
                intro W hW
                clear hW
                go_simp
              refine wpAnyH_take (i := 4) (v := .int .i64 x) rfl (by kernel_rfl) (by kernel_rfl) (by kernel_rfl) (fun _ _ _ h => h) (Or.inl ⟨by kernel_rfl, ?t4⟩) (by assumption) ?_
              case t4 =>
                intro W hW
                obtain ⟨z0, z1⟩ := hW
                go_simp
              refine wpAnyH_take (i := 5) (v := .slice (some ⟨bv, ov, none⟩) m cv) rfl (by kernel_rfl) (by kernel_rfl) (by kernel_rfl) (fun _ _ _ h => h) (Or.inl ⟨by kernel_rfl, ?t5⟩) (by assumption) ?_
              case t5 =>
                intro W hW
                clear hW
                go_simp
              refine wpAnyH_take (i := 6) (v := .int .i64 (k : Int)) rfl (by kernel_rfl) (by kernel_rfl) (by kernel_rfl) (fun _ _ _ h => h) (Or.inl ⟨by kernel_rfl, ?t6⟩) (by assumption) ?_
              case t6 =>
                intro W hW
                clear hW
                go_simp
              refine wpAnyH_take (i := 7) (v := .pointer (some ⟨bv, ov + k, none⟩)) rfl (by kernel_rfl) (by kernel_rfl) (by kernel_rfl) (fun _ _ _ h => h) (Or.inl ⟨by kernel_rfl, ?t7⟩) (by assumption) ?_
              case t7 =>
                intro W hW
                clear hW
                go_simp
              refine wpAnyH_take (i := 8) (v := .int .i64 y) rfl (by kernel_rfl) (by kernel_rfl) (by kernel_rfl) (fun _ _ _ h => h) (Or.inl ⟨by kernel_rfl, ?t8⟩) (by assumption) ?_
              case t8 =>
                intro W hW
                obtain ⟨z0, z1⟩ := hW
                go_simp
              refine wpAnyH_take (i := 9) (v := .agg #[.int .i64 x, .int .i64 y]) rfl (by kernel_rfl) (by kernel_rfl) (by kernel_rfl) (fun _ _ _ h => h) (Or.inl ⟨by kernel_rfl, ?t9⟩) (by assumption) ?_
              case t9 =>
                intro W hW
                clear hW
                go_simp
              refine wpAnyH_ready (rs := [10]) (by kernel_rfl) (by simp) ?_
              refine AllReadyH.cons rfl (fun K10 hK10 => ?_) AllReadyH.nil
              go_simp
              refine hK10.out _ _ (by exact ⟨(World.cell?_alloc_lt _ _ _ (by simpa using hbt2)).trans hx, (World.cell?_alloc_lt _ _ _ (by simpa using hbv2)).trans hy⟩) (fun _ => ?_)
              clear hK10 K10
              refine wpAnyH_ready (rs := [11]) (by kernel_rfl) (by simp) ?_
              refine AllReadyH.cons rfl (fun K11 hK11 => ?_) AllReadyH.nil
              refine step_append_ownQ _ rfl _ _ 24 rfl w4.heap.size 41 i0 (.agg #[.int .i64 0, .int .i64 0]) 2 16 Tryd.underlying24 hi hzz0 hzz1 hzz2 rfl (by decide) _ k (prs ((ts.zip vs).take k)) rfl ((show wr.drew.ownsRow w4.heap.size 41 2 u11 k (prs ((ts.zip vs).take k)) from HO.out).alloc _) ⟨wr.heap.size, 0, none⟩ 1 1 [.int .i64 x, .int .i64 y] rfl rfl (cells_pair wr.drew _ _ _) (by simp [Value.oneCell']) (by unfold maxLen; omega) (by omega) (by simp; omega) ?_
              intro v' w5 hown' hgrow _
              have hb5 : Below w4.heap.size w4 w5 := (Hb.out.drew.alloc (by simpa using hzb) _).grown hgrow (by simp; omega) (fun k hk => (HO.out.lt _ hk).1)
              have hown5 : w5.ownsRow w4.heap.size 41 2 v' (k + 1) (prs ((ts.zip vs).take (k + 1))) := by rw [HTk.out, prs_append]; exact hown'
              clear hown' hgrow
              have hS5 : w5.cell? ⟨bt, ot + k, none⟩ = some (.int .i64 x) ∧ w5.cell? ⟨bv, ov + k, none⟩ = some (.int .i64 y) := ⟨(hb5.cell (p := ⟨bt, ot + k, none⟩) hbt).trans ((Hb.out.cell (p := ⟨bt, ot + k, none⟩) hbt).symm.trans hx), (hb5.cell (p := ⟨bv, ov + k, none⟩) hbv).trans ((Hb.out.cell (p := ⟨bv, ov + k, none⟩) hbv).symm.trans hy)⟩
              refine hK11.out _ _ hS5 (fun _ => ?_)
              clear hK11 K11
              refine wpAnyH_ready (rs := [12]) (by kernel_rfl) (by simp) ?_
              refine AllReadyH.cons rfl (fun K12 hK12 => ?_) AllReadyH.nil
              go_simp
              refine hK12.out _ _ hS5 (fun _ => ?_)
              clear hK12 K12
              refine wpAnyH_done (by kernel_rfl) ?_ _
              have HB5 := Lib.hid hb5
              have HO5 := Lib.hid hown5
              clear hb5 hown5 hS5 hS0 hx hy
              go_wp2_with fail
              first
              | (go_roundw; (case rel => exact ⟨k + 1, by omega, by go_num, HO5.out, HB5.out⟩); (case measure => simp [intOf]; omega))
              | exact ⟨⟨k + 1, by omega, by go_num, HO5.out, HB5.out⟩, by simp [intOf]; omega⟩
            · obtain rfl : k = m := by omega
              have hzl : (ts.zip vs).length = k := by rw [HZl.out, HLt.out]
              rw [show (ts.zip vs).take k = ts.zip vs from by rw [← hzl, List.take_length]] at HO
              have HPL := Lib.hid (PL.of_own HO.out hzl.symm HRz.out (by omega))
              have HZL := Lib.hid hzl
              have KA := Lib.hid (K4.out.below hb K4.out.lt)
              have FA := Lib.hid (F4.out.trans (hb.mono F4.out.size))
              have zw : w.heap.size ≤ w4.heap.size := F4.out.size
              have HZd : Hid (ptsZ s (k : Int) (ts.zip vs) = if bkN (ts.zip vs) = (k : Int) ∧ bkD (ts.zip vs) = s then some (ts.zip vs) else none) := Lib.hid rfl
              have HBk := Lib.hid (HB.out _ (ts.zip vs) _ HPL.out)
              unfold BlkPost at HBk
              have HFB := Lib.hid (show bkB (ts.zip vs) = false → bkN (ts.zip vs) = 0 from fun h => by unfold bkN; rw [h]; rfl)
              clear hown hb hzl HCt HCv
              generalize ts.zip vs = xs at *
              generalize bkN xs = K at *
              generalize bkD xs = D at *
              generalize bkB xs = F at *
              go_wp2_with fail
              refine HBk.out.mono ?_
              rintro e w5 ⟨rfl, hb5⟩
              have KB5 := KA.out.below hb5 KA.out.lt
              have z5 := hb5.size
              have K6 := Lib.hid (KB5.below (below1 w5 (.cells #[.int .i64 K, .string D] 36)) KB5.lt)
              have B6 := Lib.hid (KB.new w5 K D)
              have F6 := Lib.hid (FA.out.trans ((hb5.trans ((below1 w5 (.cells #[.int .i64 K, .string D] 36)).mono z5)).mono FA.out.size))
              have O6 := Lib.hid (u_own_below HO.out (hb5.trans ((below1 w5 (.cells #[.int .i64 K, .string D] 36)).mono z5)))
              have x0 := K6.out.c0
              have x1 := K6.out.c1
              have y0 := B6.out.c0
              have y1 := B6.out.c1
              clear hb5 KB5
              cases F with
              | false =>
                have EZ := Lib.hid (show ptsZ s (k : Int) xs = none by rw [HZd.out, if_neg (fun h => by have := HFB.out rfl; omega)])
                clear HZd
                go_wp2_with fail
                go_ret2
                rw [E.out, EZ.out]
                exact ⟨_, rfl, World.ownsRow_nil _ _ _ _, F6.out⟩
              | true =>
                rcases blk_cases K (k : Int) D s with ⟨hN, hD⟩ | hN | ⟨hN, hD⟩
                · subst hN
                  subst hD
                  have EZ := Lib.hid (show ptsZ D (k : Int) xs = some xs by rw [HZd.out, if_pos ⟨rfl, rfl⟩])
                  clear HZd
                  go_wp2_with fail
                  go_ret2
                  rw [E.out, EZ.out]
                  exact ⟨_, rfl, by show World.ownsRow _ _ _ _ _ xs.length _; rw [HZL.out]; exact u_ownsRow_base O6.out zw, F6.out⟩
                · have EZ := Lib.hid (show ptsZ s (k : Int) xs = none by rw [HZd.out, if_neg (fun h => hN h.1)])
                  clear HZd
                  go_wp2_with fail
                  go_ret2
                  rw [E.out, EZ.out]
                  exact ⟨_, rfl, World.ownsRow_nil _ _ _ _, F6.out⟩
                · subst hN
                  have EZ := Lib.hid (show ptsZ s (k : Int) xs = none by rw [HZd.out, if_neg (fun h => hD (by rw [h.2]))])
                  clear HZd
                  go_wp2_with fail
                  go_ret2
                  rw [E.out, EZ.out]
                  exact ⟨_, rfl, World.ownsRow_nil _ _ _ _, F6.out⟩
    · have h25i : (2500 : Int) < s.size := by omega
      have E := Lib.hid (show ptsB s n = none by unfold ptsB; rw [if_neg (fun h => h25 h.2)])
      clear hn h25
      go_enter Tryd.func57, Tryd.ntmps57
      go_wp2_with fail
      refine (HI.out _).mono ?_
      rintro e w2 ⟨rfl, rfl⟩
      go_wp2_with fail
      go_ret2
      rw [E.out]
      exact ⟨_, rfl, World.ownsRow_nil _ _ _ _, hB0.out⟩
  · have E := Lib.hid (show ptsB s n = none by unfold ptsB; rw [if_neg (fun h => hn h.1)])
    have hJ := hI.out
    rw [inB_false hn] at hJ
    have HI := Lib.hid hJ
    clear hJ hI hn
    go_enter Tryd.func57, Tryd.ntmps57
    go_wp2_with fail
    refine (HI.out _).mono ?_
    rintro e w2 ⟨rfl, rfl⟩
    go_wp2_with fail
    go_ret2
    rw [E.out]
    exact ⟨_, rfl, World.ownsRow_nil _ _ _ _, hB0.out⟩
end Go.Proofs.YtanoohfhifhhaaaDoor

/- Walks: slices of blocks: the laws' own helpers. -/
set_option linter.unusedVariables false
set_option linter.unusedSimpArgs false
namespace Go.Proofs.YtanoohfhifhhaaaDoor
open Go.RowKit

theorem str_neB {a b : ByteArray} (h : ¬ a = b) : (a.toList == b.toList) = false := by
  rw [ByteArray.toList_eq, ByteArray.toList_eq, beq_eq_false_iff_ne]
  intro e
  apply h
  cases a; cases b
  congr
  exact Array.toList_inj.1 e
abbrev emB : ByteArray := ⟨#[]⟩
def bks (xs : List (Int × ByteArray)) : List Value := xs.flatMap fun p => [.int .i64 p.1, .string p.2]
theorem bks_cons (p : Int × ByteArray) (xs : List (Int × ByteArray)) : bks (p :: xs) = .int .i64 p.1 :: .string p.2 :: bks xs := rfl
theorem bks_length (xs : List (Int × ByteArray)) : (bks xs).length = xs.length * 2 := by
  induction xs with
  | nil => rfl
  | cons p xs ih => rw [bks_cons, List.length_cons, List.length_cons, List.length_cons, ih]; omega
theorem bks_append (xs ys : List (Int × ByteArray)) : bks (xs ++ ys) = bks xs ++ bks ys := by simp [bks]
theorem bks_get0 : ∀ (xs : List (Int × ByteArray)) (j : Nat), j < xs.length → (bks xs)[j * 2]? = some (.int .i64 (xs.getD j (0, emB)).1)
  | p :: xs, 0, _ => rfl
  | p :: xs, j + 1, h => by rw [bks_cons, show (j + 1) * 2 = j * 2 + 1 + 1 by omega, List.getElem?_cons_succ, List.getElem?_cons_succ, bks_get0 xs j (by simpa using h)]; rfl
theorem bks_get1 : ∀ (xs : List (Int × ByteArray)) (j : Nat), j < xs.length → (bks xs)[j * 2 + 1]? = some (.string (xs.getD j (0, emB)).2)
  | p :: xs, 0, _ => rfl
  | p :: xs, j + 1, h => by rw [bks_cons, show (j + 1) * 2 + 1 = j * 2 + 1 + 1 + 1 by omega, List.getElem?_cons_succ, List.getElem?_cons_succ, bks_get1 xs j (by simpa using h)]; rfl
theorem bks_set : ∀ (xs : List (Int × ByteArray)) (k : Nat) (a : Int) (b : ByteArray), k < xs.length → ((bks xs).set (k * 2) (.int .i64 a)).set (k * 2 + 1) (.string b) = bks (xs.set k (a, b))
  | p :: xs, 0, a, b, _ => rfl
  | p :: xs, k + 1, a, b, h => by
    rw [bks_cons, show (k + 1) * 2 = k * 2 + 1 + 1 by omega, List.set_cons_succ, List.set_cons_succ, List.set_cons_succ, List.set_cons_succ, bks_set xs k a b (by simpa using h)]; rfl
theorem made_bks (n : Nat) : (madeCells #[Value.int .i64 0, Value.string emB] (n * 2)).toList = bks (List.replicate n (0, emB)) := by
  apply List.ext_getElem?
  intro i
  by_cases hi : i < n * 2
  · have hlen : (List.replicate n ((0 : Int), emB)).length = n := by simp
    rcases Nat.mod_two_eq_zero_or_one i with h | h
    · obtain ⟨j, rfl⟩ : ∃ j, i = j * 2 := ⟨i / 2, by omega⟩
      rw [bks_get0 _ j (by rw [hlen]; omega)]
      have hj : j < n := by omega
      simp [madeCells, hi, List.getD_eq_getElem?_getD, hj]
    · obtain ⟨j, rfl⟩ : ∃ j, i = j * 2 + 1 := ⟨i / 2, by omega⟩
      rw [bks_get1 _ j (by rw [hlen]; omega)]
      have hj : j < n := by omega
      have hm : (j * 2 + 1) % 2 = 1 := by omega
      simp [madeCells, hi, List.getD_eq_getElem?_getD, hj, hm]
  · rw [List.getElem?_eq_none (l := bks _) (by rw [bks_length]; simp; omega), List.getElem?_eq_none (by simp [madeCells]; omega)]

theorem bl_below_drewN {B : Nat} {a w : World} (h : Below B a w) (n : Nat) : Below B a (w.drewN n) := ⟨h.os, h.tape, h.output, h.size, h.block⟩
/-- the slice v reads as the points xs in the blocks below B -/
def BL (w : World) (B : Nat) (v : Value) (xs : List (Int × ByteArray)) : Prop :=
  (∀ j, Rng (xs.getD j (0, emB)).1 ∧ (xs.getD j (0, emB)).2.size ≤ maxLen) ∧ xs.length ≤ 1048576 ∧ ∃ A c, v = .slice A xs.length c ∧
    (xs = [] ∨ ∃ b off, A = some ⟨b, off, none⟩ ∧ b < B ∧ ∀ j, j < xs.length → w.cell? ⟨b, off + j * 2, none⟩ = some (.int .i64 (xs.getD j (0, emB)).1) ∧ w.cell? ⟨b, off + j * 2 + 1, none⟩ = some (.string (xs.getD j (0, emB)).2))
theorem BL.below {w w' : World} {B : Nat} {v : Value} {xs : List (Int × ByteArray)} (h : BL w B v xs) (hb : Below B w w') : BL w' B v xs := by
  obtain ⟨h1, h2, A, c, rfl, h3⟩ := h
  refine ⟨h1, h2, A, c, rfl, ?_⟩
  rcases h3 with h3 | ⟨b, off, rfl, hlt, hc⟩
  · exact .inl h3
  · exact .inr ⟨b, off, rfl, hlt, fun j hj => ⟨(hb.cell (p := ⟨b, off + j * 2, none⟩) hlt).trans (hc j hj).1, (hb.cell (p := ⟨b, off + j * 2 + 1, none⟩) hlt).trans (hc j hj).2⟩⟩
theorem BL.up {w : World} {B B' : Nat} {v : Value} {xs : List (Int × ByteArray)} (h : BL w B v xs) (hB : B ≤ B') : BL w B' v xs := by
  obtain ⟨h1, h2, A, c, rfl, h3⟩ := h
  refine ⟨h1, h2, A, c, rfl, ?_⟩
  rcases h3 with h3 | ⟨b, off, rfl, hlt, hc⟩
  · exact .inl h3
  · exact .inr ⟨b, off, rfl, by omega, hc⟩
theorem BL.of_own {w : World} {base : Nat} {v : Value} {n : Nat} {xs : List (Int × ByteArray)} (h : w.ownsRow base 36 2 v n (bks xs)) (hn : n = xs.length) (hr : ∀ j, Rng (xs.getD j (0, emB)).1 ∧ (xs.getD j (0, emB)).2.size ≤ maxLen) (hl : xs.length ≤ 1048576) : BL w w.heap.size v xs := by
  subst hn
  refine ⟨hr, hl, ?_⟩
  rcases h.2 with ⟨rfl, h0⟩ | ⟨g, cap, cur, rfl, hb, hg, _⟩
  · exact ⟨none, 0, by rw [h0], .inl (List.eq_nil_of_length_eq_zero h0)⟩
  · refine ⟨_, cap, rfl, .inr ⟨g, 0, rfl, (Array.getElem?_eq_some_iff.1 hg).1, fun j hj => ⟨?_, ?_⟩⟩⟩
    · rw [Nat.zero_add, h.cellAt (j * 2) (by omega)]
      exact bks_get0 _ _ hj
    · rw [Nat.zero_add, h.cellAt (j * 2 + 1) (by omega)]
      exact bks_get1 _ _ hj
theorem bks_ext {xs ys : List (Int × ByteArray)} (hl : xs.length = ys.length) (h : ∀ j, j < xs.length → xs.getD j (0, emB) = ys.getD j (0, emB)) : xs = ys := by
  apply List.ext_getElem hl
  intro j h1 h2
  have := h j h1
  simpa [List.getD_eq_getElem?_getD, h1, h2] using this
theorem getD_set_bk (l : List (Int × ByteArray)) (k j : Nat) (x : Int × ByteArray) (hk : k < l.length) : (l.set k x).getD j (0, emB) = if j = k then x else l.getD j (0, emB) := by
  simp only [List.getD_eq_getElem?_getD, List.getElem?_set]
  by_cases e : k = j
  · subst e; simp [hk]
  · have e' : ¬ j = k := fun h => e h.symm
    simp [e, e']
def strOfB : Value → ByteArray
  | .string s => s
  | _ => emB
def BoolPostB (b : Bool) (w : World) (e : Ending) (w' : World) : Prop := e = .returned (.bool b) ∧ Below w.heap.size w w'
theorem bl_of (x : Addr) (n cap : Nat) (w : World) (V0 V1 : Nat → Value) (hn : n ≤ 1048576)
    (h : ∀ i, i < n → w.cell? (x.add (i * 2)) = some (V0 i) ∧ w.cell? (x.add (i * 2 + 1)) = some (V1 i) ∧ (∃ a : Int, V0 i = .int .i64 a ∧ Rng a) ∧ ∃ b : ByteArray, V1 i = .string b ∧ b.size ≤ maxLen) :
    ∃ xs : List (Int × ByteArray), xs.length = n ∧ BL w w.heap.size (.slice (some x) n cap) xs := by
  have hg : ∀ i, i < n → ((List.range n).map fun i => (intOf (V0 i), strOfB (V1 i))).getD i (0, emB) = (intOf (V0 i), strOfB (V1 i)) := by
    intro i hi; simp [List.getD_eq_getElem?_getD, hi]
  refine ⟨(List.range n).map fun i => (intOf (V0 i), strOfB (V1 i)), by simp, ?_, by simpa using hn, some x, cap, by simp, ?_⟩
  · intro j
    by_cases hj : j < n
    · rw [hg j hj]
      obtain ⟨_, _, ⟨a, ha, ra⟩, b, hb, rb⟩ := h j hj
      rw [ha, hb]; exact ⟨ra, rb⟩
    · rw [List.getD_eq_getElem?_getD, List.getElem?_eq_none (by simp; omega)]; exact ⟨rng_zero, Nat.zero_le _⟩
  · by_cases h0 : n = 0
    · subst h0; exact .inl rfl
    · right
      obtain ⟨b, off, spot⟩ := x
      obtain ⟨c0, _⟩ := h 0 (by omega)
      have hspot : spot = none := by simpa [Addr.add] using World.cell?_spot c0
      subst hspot
      have hadd : ∀ j, (⟨b, off, none⟩ : Addr).add j = ⟨b, off + j, none⟩ := fun j => by unfold Addr.add; split <;> simp_all
      refine ⟨b, off, rfl, ?_, fun j hj => ?_⟩
      · rw [hadd] at c0; exact World.block_lt_of_cell? w _ c0
      · have hj' : j < n := by simpa using hj
        obtain ⟨d0, d1, ⟨a, ha, ra⟩, e, he, re⟩ := h j hj'
        rw [hadd] at d0 d1
        rw [← Nat.add_assoc] at d1
        rw [hg j hj', d0, d1, ha, he]
        exact ⟨rfl, rfl⟩
theorem bl_nil (w : World) (c : Nat) (A : Option Addr) : BL w w.heap.size (.slice A 0 c) [] :=
  ⟨fun j => ⟨by simpa using rng_zero, by simp; exact Nat.zero_le _⟩, by simp, A, c, rfl, .inl rfl⟩
def BOwnPost (base : Nat) (xs : List (Int × ByteArray)) (w : World) (e : Ending) (w' : World) : Prop :=
  ∃ v, e = .returned v ∧ w'.ownsRow base 36 2 v xs.length (bks xs) ∧ Below w.heap.size w w'
theorem bne_of_len {xs ys : List (Int × ByteArray)} (h : ¬ xs.length = ys.length) : decide (xs = ys) = false := by
  rw [decide_eq_false_iff_not]; intro e; exact h (by rw [e])
theorem bne_of_get {xs ys : List (Int × ByteArray)} (k : Nat) (h : ¬ xs.getD k (0, emB) = ys.getD k (0, emB)) : decide (xs = ys) = false := by
  rw [decide_eq_false_iff_not]; intro e; exact h (by rw [e])
theorem info_bk : (Tryd.prog.info? 36).map (fun i => (i.zero, i.size, i.bytes)) = some (some (.agg #[.int .i64 0, .string emB]), 2, 24) := by kernel_rfl

set_option maxRecDepth 100000 in
set_option maxHeartbeats 1000000 in
theorem toBlockB_any (a : Int) (b : ByteArray) (w : World) :
    Calls Tryd.prog 67 #[.agg #[.int .i64 a, .string b]] w fun e w' => e = .returned (.agg #[.int .i64 a, .string b]) ∧ Below w.heap.size w w' := by
  go_enter Tryd.func67, Tryd.ntmps67
  go_wp2
  exact bodyPost_ret (v := .agg #[.int .i64 a, .string b]) (by simp [results, Tryd.results67, go_sem]) rfl ⟨rfl, by
    repeat (first | exact Below.refl _ _ | refine Below.alloc ?_ (by simp; try omega) _ | refine Below.setCell ?_ (by simp; try omega) _ | refine Below.drew ?_)⟩

set_option maxRecDepth 100000 in
set_option maxHeartbeats 1000000 in
theorem toBlockS_any (v : Value) (xs : List (Int × ByteArray)) (w : World) (h : BL w w.heap.size v xs) :
    Calls Tryd.prog 41 #[v] w (BOwnPost w.heap.size xs w) := by
  obtain ⟨hr, hlen, A, c, rfl, h3⟩ := h
  have Hr := Lib.hid hr
  clear hr
  obtain ⟨i0, hi, hz0, hz1, hz2⟩ := info_parts info_bk
  have hT := Lib.hid (fun a b W => toBlockB_any a b W)
  go_enter Tryd.func41, Tryd.ntmps41
  go_wp2_with (at_make; refine wpList_make_full _ rfl _ _ 27 rfl w.heap.size 36 i0 (.agg #[.int .i64 0, .string emB]) 2 Tryd.underlying27 hi hz0 hz1 _ _ _ _ xs.length rfl rfl rfl rfl ?b2 ?b3 ?b4 ?_)
  case b2 => rw [hz2]; omega
  case b3 => unfold maxLen; omega
  case b4 => exact Nat.le_refl _
  intro w1 hown hgrow
  rw [made_bks] at hown
  have hb1 : Below w.heap.size w w1 := (Below.refl _ _).grown hgrow (Nat.le_refl _) (fun k hk => by cases hk)
  clear hgrow
  go_wp2_with fail
  go_loopw [4] (fun i wr => ∃ (k : Nat) (l : List (Int × ByteArray)), k ≤ xs.length ∧ i = .int .i64 k ∧ l.length = xs.length ∧ (∀ j, j < k → l.getD j (0, emB) = xs.getD j (0, emB)) ∧
      wr.ownsRow w.heap.size 36 2 (.slice (some ⟨w.heap.size, 0, none⟩) xs.length xs.length) xs.length (bks l) ∧ Below w.heap.size w wr)
    (fun i _ => xs.length - (intOf i).toNat)
  case atStart => exact ⟨0, List.replicate xs.length (0, emB), Nat.zero_le _, rfl, by simp, fun j hj => by omega, hown, hb1⟩
  case round =>
    clear hown hb1
    obtain ⟨k, l, hk, rfl, hll, hag, hown, hb1⟩ := hrel
    have Hag := Lib.hid hag
    have Hll := Lib.hid hll
    clear hag hll
    by_cases hlt : k < xs.length
    · rcases h3 with h3 | ⟨b, off, rfl, hbl, hc⟩
      · subst h3; simp at hlt
      have hx0 : wr.cell? ⟨b, off + k * 2, none⟩ = some (.int .i64 (xs.getD k (0, emB)).1) := (hb1.cell (p := ⟨b, off + k * 2, none⟩) hbl).trans (hc k hlt).1
      have hx1 : wr.cell? ⟨b, off + k * 2 + 1, none⟩ = some (.string (xs.getD k (0, emB)).2) := (hb1.cell (p := ⟨b, off + k * 2 + 1, none⟩) hbl).trans (hc k hlt).2
      obtain ⟨x, y, hX⟩ : ∃ x y, xs.getD k (0, emB) = (x, y) := ⟨_, _, rfl⟩
      rw [hX] at hx0 hx1
      have HX := Lib.hid hX
      clear hX hc
      go_wp2_with fail
      refine (hT.out _ _ _).mono ?_
      rintro e w2 ⟨rfl, hb2⟩
      have hown2 := u_own_below hown hb2
      have hb3 := hb1.trans (hb2.mono hb1.size)
      clear hb2 hb1 hown hx0 hx1
      have c0 : w2.cell? ⟨w.heap.size, k * 2, none⟩ = some (.int .i64 (l.getD k (0, emB)).1) := by
        rw [hown2.cellAt _ (by omega)]; exact bks_get0 _ _ (by have := Hll.out; omega)
      have c1 : w2.cell? ⟨w.heap.size, k * 2 + 1, none⟩ = some (.string (l.getD k (0, emB)).2) := by
        rw [hown2.cellAt _ (by omega)]; exact bks_get1 _ _ (by have := Hll.out; omega)
      have f0 : w2.frozen? ⟨w.heap.size, k * 2, none⟩ = false := hown2.frozenAt _
      have f1 : w2.frozen? ⟨w.heap.size, k * 2 + 1, none⟩ = false := hown2.frozenAt _
      generalize (l.getD k (0, emB)).1 = o0 at c0
      generalize (l.getD k (0, emB)).2 = o1 at c1
      have hst := hown2.stored (k * 2) (.int .i64 x)
      have hst2 := hst.1.stored (k * 2 + 1) (.string y)
      have hown4 := hst2.1
      rw [bks_set l k x y (by have := Hll.out; omega)] at hown4
      have hb4 := (hb3.setCell (show w.heap.size ≤ (⟨w.heap.size, k * 2, none⟩ : Addr).block by simp) (.int .i64 x)).setCell (show w.heap.size ≤ (⟨w.heap.size, k * 2 + 1, none⟩ : Addr).block by simp) (.string y)
      have HO := Lib.hid hown4
      have HB := Lib.hid hb4
      clear hst hst2 hown4 hb4 hown2 hb3
      go_wp2_with fail
      go_roundw
      case rel =>
        refine ⟨k + 1, l.set k (x, y), by omega, by go_num, by simpa using Hll.out, fun j hj => ?_, HO.out, HB.out⟩
        rw [getD_set_bk _ _ _ _ (by have := Hll.out; omega)]
        by_cases e : j = k
        · subst e; rw [if_pos rfl]; exact HX.out.symm
        · rw [if_neg e]; exact Hag.out j (by omega)
      case measure => simp [intOf]; omega
    · obtain rfl : k = xs.length := by omega
      have e : l = xs := bks_ext Hll.out (fun j hj => Hag.out j (by have := Hll.out; omega))
      subst e
      go_wp2_with fail
      go_ret
      exact ⟨_, rfl, hown, hb1⟩

set_option maxRecDepth 100000 in
set_option maxHeartbeats 400000 in
theorem eqBlock_any (a : Int) (b : ByteArray) (c : Int) (d : ByteArray) (w : World) :
    Calls Tryd.prog 63 #[.agg #[.int .i64 a, .string b], .agg #[.int .i64 c, .string d]] w (BoolPostB (decide ((a, b) = (c, d))) w) := by
  by_cases h1 : a = c
  · by_cases h2 : b = d
    · subst h1 h2
      rw [show decide ((a, b) = (a, b)) = true by simp]
      go_enter Tryd.func63, Tryd.ntmps63
      go_wp2
      go_ret
      exact ⟨rfl, by
      repeat (first | exact Below.refl _ _ | refine Below.alloc ?_ (by simp; try omega) _ | refine Below.setCell ?_ (by simp; try omega) _ | refine Below.drew ?_)⟩
    · have hn : decide ((a, b) = (c, d)) = false := by simp [h2]
      rw [hn]
      have hbne := str_neB h2
      subst h1
      clear hn
      go_enter Tryd.func63, Tryd.ntmps63
      go_wp2
      go_ret
      exact ⟨rfl, by
      repeat (first | exact Below.refl _ _ | refine Below.alloc ?_ (by simp; try omega) _ | refine Below.setCell ?_ (by simp; try omega) _ | refine Below.drew ?_)⟩
  · have hn : decide ((a, b) = (c, d)) = false := by simp [h1]
    rw [hn]
    have hbne : (a == c) = false := by simpa using h1
    clear hn
    go_enter Tryd.func63, Tryd.ntmps63
    go_wp2
    go_ret
    exact ⟨rfl, by
      repeat (first | exact Below.refl _ _ | refine Below.alloc ?_ (by simp; try omega) _ | refine Below.setCell ?_ (by simp; try omega) _ | refine Below.drew ?_)⟩

set_option maxRecDepth 100000 in
set_option maxHeartbeats 1000000 in
theorem eqBlockS_any (v u : Value) (xs ys : List (Int × ByteArray)) (w : World) (h : BL w w.heap.size v xs) (h' : BL w w.heap.size u ys) :
    Calls Tryd.prog 35 #[v, u] w (BoolPostB (decide (xs = ys)) w) := by
  obtain ⟨hr, hlen, A, c, rfl, h3⟩ := h
  obtain ⟨hr', hlen', A', c', rfl, h3'⟩ := h'
  have Hr := Lib.hid hr
  have Hr' := Lib.hid hr'
  clear hr hr'
  have hE := Lib.hid (fun a b c d W => eqBlock_any a b c d W)
  by_cases hl : xs.length = ys.length
  · have Hl := Lib.hid hl
    have hne : decide ((xs.length : Int) = (ys.length : Int)) = true := by simp; omega
    have hbne : ((xs.length : Int) != (ys.length : Int)) = false := by simp; omega
    clear hl
    go_enter Tryd.func35, Tryd.ntmps35
    go_wp2_with fail
    go_loopw [5] (fun i wr => ∃ k : Nat, k ≤ xs.length ∧ i = .int .i64 k ∧ (∀ j, j < k → xs.getD j (0, emB) = ys.getD j (0, emB)) ∧ Below w.heap.size w wr) (fun i _ => xs.length - (intOf i).toNat)
    case atStart => exact ⟨0, Nat.zero_le _, rfl, fun j hj => by omega, Below.refl _ _⟩
    case round =>
      obtain ⟨k, hk, rfl, hag, hb⟩ := hrel
      have Hag := Lib.hid hag
      clear hag
      by_cases hlt : k < xs.length
      · have hlt' : k < ys.length := by have := Hl.out; omega
        rcases h3 with h3 | ⟨b, off, rfl, hbl, hc⟩
        · subst h3; simp at hlt
        rcases h3' with h3' | ⟨b', off', rfl, hbl', hc'⟩
        · subst h3'; simp at hlt'
        have hx0 : wr.cell? ⟨b, off + k * 2, none⟩ = some (.int .i64 (xs.getD k (0, emB)).1) := (hb.cell (p := ⟨b, off + k * 2, none⟩) hbl).trans (hc k hlt).1
        have hx1 : wr.cell? ⟨b, off + k * 2 + 1, none⟩ = some (.string (xs.getD k (0, emB)).2) := (hb.cell (p := ⟨b, off + k * 2 + 1, none⟩) hbl).trans (hc k hlt).2
        have hy0 : wr.cell? ⟨b', off' + k * 2, none⟩ = some (.int .i64 (ys.getD k (0, emB)).1) := (hb.cell (p := ⟨b', off' + k * 2, none⟩) hbl').trans (hc' k hlt').1
        have hy1 : wr.cell? ⟨b', off' + k * 2 + 1, none⟩ = some (.string (ys.getD k (0, emB)).2) := (hb.cell (p := ⟨b', off' + k * 2 + 1, none⟩) hbl').trans (hc' k hlt').2
        obtain ⟨x, y, hX⟩ : ∃ x y, xs.getD k (0, emB) = (x, y) := ⟨_, _, rfl⟩
        obtain ⟨z, t, hZ⟩ : ∃ x y, ys.getD k (0, emB) = (x, y) := ⟨_, _, rfl⟩
        rw [hX] at hx0 hx1
        rw [hZ] at hy0 hy1
        have HX := Lib.hid hX
        have HZ := Lib.hid hZ
        clear hX hZ hc hc'
        have HB := Lib.hid hb
        have hsz := hb.size
        by_cases e : (x, y) = (z, t)
        · have E := Lib.hid e
          have hE2 := Lib.hid (fun W => hE.out x y z t W)
          rw [decide_eq_true e] at hE2
          clear e
          go_wp2_with fail
          go_region_law (go_simp; go_at_call 63; (refine (hE2.out _).mono ?_); rintro e w5 ⟨rfl, hb5⟩; have hb6 := HB.out.drew.trans (hb5.mono hsz); have HB6 := Lib.hid hb6; clear hb5 hb6)
          all_goals
           go_simp
           go_wp2_with fail
           go_roundw
           case rel =>
             refine ⟨k + 1, by omega, by go_num, fun j hj => ?_, HB6.out⟩
             by_cases e : j = k
             · subst e; rw [HX.out, HZ.out, E.out]
             · exact Hag.out j (by omega)
           case measure => simp [intOf]; omega
        · have E := Lib.hid (bne_of_get (xs := xs) (ys := ys) k (by rw [HX.out, HZ.out]; exact e))
          have hE2 := Lib.hid (fun W => hE.out x y z t W)
          rw [decide_eq_false e] at hE2
          clear e
          go_wp2_with fail
          go_region_law (go_simp; go_at_call 63; (refine (hE2.out _).mono ?_); rintro e w5 ⟨rfl, hb5⟩; have hb6 := HB.out.drew.trans (hb5.mono hsz); have HB6 := Lib.hid hb6; clear hb5 hb6)
          all_goals
           go_simp
           go_wp2_with fail
           go_ret
           exact ⟨by rw [E.out]; rfl, HB6.out⟩
      · obtain rfl : k = xs.length := by omega
        have e : xs = ys := bks_ext Hl.out (fun j hj => Hag.out j hj)
        have E := Lib.hid (show decide (xs = ys) = true from by simp [e])
        clear e
        go_wp2_with fail
        go_ret
        exact ⟨by rw [E.out]; rfl, hb⟩
  · have E := Lib.hid (bne_of_len hl)
    have hbne : ((xs.length : Int) != (ys.length : Int)) = true := by simp; omega
    have hbne2 : decide ((xs.length : Int) = (ys.length : Int)) = false := by simp; omega
    clear hl
    go_enter Tryd.func35, Tryd.ntmps35
    go_wp2_with fail
    go_ret
    exact ⟨by rw [E.out]; rfl, Below.refl _ _⟩
end Go.Proofs.YtanoohfhifhhaaaDoor
