/- Walks: the document's PointsOf. -/
import Derived.Test.YtldjeacpkndcbaaDoorDi
import Derived.Test.YtldjeacpkndcbaaDoorQt
import Derived.Test.YtldjeacpkndcbaaDoorSe
set_option linter.unusedVariables false
set_option linter.unusedSimpArgs false
namespace Go.Proofs.YtldjeacpkndcbaaDoor
open Go.RowKit

theorem back3_any (s : ByteArray) (m : Nat) (w : World) (hs : s.size ≤ 2500) (hm : m ≤ 120) (L : List Bool) (hL : allL s = L) :
    Calls Tryd.prog 75 #[.agg #[.string s, .int .i64 ((8 * s.size : Nat) : Int)], .int .i64 0, .int .i64 (m : Int)] w fun e w' =>
      ∃ (v : Value) (q : Nat) (f : Bool), e = .returned (.tuple #[v, .int .i64 (q : Int), .bool f]) ∧ q ≤ 8 * s.size ∧ (f = false → timesB L m 0 = none) ∧ (f = true → ∃ ts, timesB L m 0 = some (ts, q) ∧ ts.length = m ∧ (∀ j, Rng (ts.getD j 0)) ∧ w'.ownsRow w.heap.size 2 1 v ts.length (ints ts)) ∧ Below w.heap.size w w' := by
  have hlen : L.length = 8 * s.size := by rw [← hL]; exact allL_len s
  refine (show Calls _ _ _ _ _ from l3Back_any s (8 * s.size) 0 m w (by unfold maxLen; omega) (by omega) (Nat.le_refl _) (Nat.zero_le _) hm L hL).mono ?_
  rintro e w' ⟨ho, hb⟩
  cases hr : timesG (fL L) (getL L) m 0 with
  | none =>
    rw [hr] at ho
    exact ⟨_, 0, false, ho, by omega, fun _ => by unfold timesB timesFin; rw [hr], (fun h => by cases h), hb⟩
  | some a =>
    obtain ⟨ts, q⟩ := a
    rw [hr] at ho
    obtain ⟨v, he, hown⟩ := ho
    have T := timesG_ok (rdOk_L L) (p := 0) (Nat.zero_le _) m ts q hm hr
    refine ⟨v, q, timesOkB ts, he, by have := T.qN; omega, fun h => by unfold timesB timesFin; rw [hr]; simp only; rw [if_neg (by rw [h]; simp)], fun h => ⟨ts, by unfold timesB timesFin; rw [hr]; simp only; rw [if_pos h], T.len, T.rng, hown⟩, hb⟩
theorem back4_any (s : ByteArray) (m q : Nat) (w : World) (hs : s.size ≤ 2500) (hq : q ≤ 8 * s.size) (hm : m ≤ 120) (L : List Bool) (hL : allL s = L) :
    Calls Tryd.prog 60 #[.agg #[.string s, .int .i64 ((8 * s.size : Nat) : Int)], .int .i64 (q : Int), .int .i64 (m : Int)] w fun e w' =>
      ∃ (v : Value) (p : Int) (f : Bool), e = .returned (.tuple #[v, .int .i64 p, .bool f]) ∧ (f = false → valG L m q = none) ∧ (f = true → ∃ vs q2 l t, valG L m q = some (vs, q2, l, t) ∧ vs.length = m ∧ (∀ j, Rng (vs.getD j 0)) ∧ w'.ownsRow w.heap.size 2 1 v vs.length (ints vs)) ∧ Below w.heap.size w w' := by
  have hlen : L.length = 8 * s.size := by rw [← hL]; exact allL_len s
  refine (l4Back_any s (8 * s.size) q m w (by unfold maxLen; omega) (by omega) (Nat.le_refl _) hq hm L hL).mono ?_
  rintro e w' ⟨ho, hb⟩
  cases hr : valG L m q with
  | none =>
    rw [hr] at ho
    exact ⟨_, 0, false, ho, fun _ => rfl, (fun h => by cases h), hb⟩
  | some a =>
    obtain ⟨vs, q2, l, t⟩ := a
    rw [hr] at ho
    obtain ⟨v, he, hown⟩ := ho
    have T := valG_ok (by omega) hr
    exact ⟨v, _, true, he, (fun h => by cases h), fun _ => ⟨vs, q2, l, t, rfl, T.1, T.2.1, hown⟩, hb⟩
theorem zip_take (xs : List (Int × Int)) (k : Nat) (x y : Int) (hk : k < xs.length) (h : xs.getD k (0, 0) = (x, y)) : xs.take (k + 1) = xs.take k ++ [(x, y)] := by
  rw [List.take_add_one, List.getElem?_eq_getElem hk]
  rw [List.getD_eq_getElem?_getD, List.getElem?_eq_getElem hk] at h
  simp only [Option.getD_some] at h
  simp [h]
theorem cells_pair (w : World) (a b : Value) (t : TypeId) : ∀ j u, ([a, b] : List Value)[j]? = some u → (w.alloc (.cells #[a, b] t)).cell? ((⟨w.heap.size, 0, none⟩ : Addr).add j) = some u := by
  intro j u hj
  rw [Addr.add_lit]
  rcases j with _ | _ | j
  · simp at hj; subst hj; go_simp
  · simp at hj; subst hj; go_simp
  · simp at hj
theorem prs_one (a b : Int) : prs [(a, b)] = [.int .i64 a, .int .i64 b] := rfl
theorem bits_box {w : World} {B : Nat} {s : ByteArray} {N : Int} (h : RB w B s N) : w.cell? ⟨B, 0, none⟩ = some (.string s) ∧ w.cell? ⟨B, 1, none⟩ = some (.int .i64 N) := ⟨h.c0, h.c1⟩

set_option maxRecDepth 100000 in
set_option maxHeartbeats 4000000 in
theorem specPointsOf_any (n : Int) (s : ByteArray) (w : World) (hs : s.size ≤ maxLen) :
    Calls Tryd.prog 23 #[.agg #[.int .i64 n, .string s]] w (POutF (ptsX (ptsB s n)) (ptsF (ptsB s n)) w) := by
  have hB0 := Lib.hid (below1 w (.cells #[.int .i64 n, .string s] 38))
  have hI := Lib.hid (fun W => l1In_any n 1 120 W)
  by_cases hn : 1 ≤ n ∧ n ≤ 120
  · have hJ := hI.out
    rw [inB_true hn.1 hn.2] at hJ
    have HI := Lib.hid hJ
    clear hJ hI
    by_cases h25 : s.size ≤ 2500
    · have h25i : ¬ (2500 : Int) < s.size := by omega
      obtain ⟨h0, h1⟩ := hn
      obtain ⟨m, rfl⟩ : ∃ m : Nat, n = (m : Int) := ⟨n.toNat, by omega⟩
      obtain ⟨L, hL⟩ : ∃ L, allL s = L := ⟨_, rfl⟩
      have hE : ptsB s (m : Int) = ptsL L s m := by unfold ptsB; rw [if_pos ⟨⟨h0, h1⟩, h25⟩, hL, Int.toNat_natCast]
      rw [hE]
      have H3 := Lib.hid (fun W => back3_any s m W h25 (by omega) L hL)
      have H4 := Lib.hid (fun q W hq => back4_any s m q W h25 hq (by omega) L hL)
      have HB := Lib.hid (fun v xs W h => specBlockOf_any v xs W h)
      have P0 := Lib.hid (show timesB L m 0 = none → ptsL L s m = none from fun h => by unfold ptsL; rw [h])
      have P1 := Lib.hid (show ∀ ts q, timesB L m 0 = some (ts, q) → valG L m q = none → ptsL L s m = none from fun ts q h h2 => by unfold ptsL; rw [h]; simp only; rw [h2])
      have P2 := Lib.hid (show ∀ ts q vs q2 l t, timesB L m 0 = some (ts, q) → valG L m q = some (vs, q2, l, t) → ptsL L s m = ptsZ s (m : Int) (ts.zip vs) from fun ts q vs q2 l t h h2 => by unfold ptsL; rw [h]; simp only; rw [h2])
      have e9 : wrap64 (8 * (s.size : Int)) = ((8 * s.size : Nat) : Int) := by unfold wrap64; omega
      have HK0 := Lib.hid ((KB.new w (m : Int) s).below (below1 _ (.cells #[.string s, .int .i64 ((8 * s.size : Nat) : Int)] 27)) (by simp))
      have HR0 := Lib.hid (gd_RB_new (w.alloc (.cells #[.int .i64 (m : Int), .string s] 38)) s ((8 * s.size : Nat) : Int))
      have HB2 := Lib.hid (below2 w (.cells #[.int .i64 (m : Int), .string s] 38) (.cells #[.string s, .int .i64 ((8 * s.size : Nat) : Int)] 27))
      have hz0 : (w.alloc (.cells #[.int .i64 (m : Int), .string s] 38)).heap.size = w.heap.size + 1 := by simp
      rw [hz0] at HR0
      obtain ⟨i0, hi, hzz0, hzz1, hzz2⟩ := info_parts info_pt
      clear hL hE h25 hz0
      go_enter Tryd.func23, Tryd.ntmps23
      go_wp2_with fail
      refine (HI.out _).mono ?_
      rintro e w2 ⟨rfl, rfl⟩
      go_wp2_with fail
      refine (H3.out _).mono ?_
      rintro e w3 ⟨v1, q, f1, rfl, hq, hf0, hf1, hb3⟩
      have K3 := Lib.hid (HK0.out.below hb3 (by simp; omega))
      have R3 := Lib.hid (HR0.out.below hb3)
      have F3 := Lib.hid (HB2.out.trans (hb3.mono (by simp; omega)))
      have x0 := K3.out.c0
      have r0 := R3.out.c0
      have r1 := R3.out.c1
      clear hb3
      go_wp2_with fail
      refine (H4.out q _ hq).mono ?_
      rintro e w4 ⟨v2, p2, f2, rfl, hg0, hg1, hb4⟩
      have K4 := Lib.hid (K3.out.below hb4 K3.out.lt)
      have F4 := Lib.hid (F3.out.trans (hb4.mono F3.out.size))
      have HB4 := Lib.hid hb4
      clear hb4 x0 r0 r1 R3
      cases f1 with
      | false =>
        have E := Lib.hid (P0.out (hf0 rfl))
        clear hf0 hf1 hg0 hg1
        go_wp2_with fail
        go_ret2
        rw [E.out]
        exact ⟨_, rfl, World.ownsRow_nil _ _ _ _, F4.out⟩
      | true =>
        obtain ⟨ts, hts, hlt, hrt, ho1⟩ := hf1 rfl
        cases f2 with
        | false =>
          have E := Lib.hid (P1.out ts q hts (hg0 rfl))
          clear hf0 hf1 hg0 hg1 hts ho1 hlt hrt
          go_wp2_with fail
          go_ret2
          rw [E.out]
          exact ⟨_, rfl, World.ownsRow_nil _ _ _ _, F4.out⟩
        | true =>
          obtain ⟨vs, q2, l, t, hvs, hlv, hrv, ho2⟩ := hg1 rfl
          have E := Lib.hid (P2.out ts q vs q2 l t hts hvs)
          have I1 := (IL.of_own ho1 rfl hrt (by omega)).below HB4.out
          have I2 := IL.of_own ho2 rfl hrv (by omega)
          have HRz := Lib.hid (zip_rng (show ts.length = vs.length by omega) hrt hrv)
          have HZl := Lib.hid (zip_len ts vs (by omega))
          obtain ⟨_, _, At, ct, rfl, ht3⟩ := I1
          obtain ⟨_, _, Av, cv, rfl, hv3⟩ := I2
          obtain ⟨bt, ot, rfl, hbt, hct⟩ : ∃ b off, At = some ⟨b, off, none⟩ ∧ b < w4.heap.size ∧ ∀ j, j < ts.length → w4.cell? ⟨b, off + j, none⟩ = some (.int .i64 (ts.getD j 0)) := by
            rcases ht3 with h9 | ⟨b, off, h9, h8, h7⟩
            · rw [h9] at hlt; simp at hlt; omega
            · exact ⟨b, off, h9, Nat.lt_of_lt_of_le h8 HB4.out.size, h7⟩
          obtain ⟨bv, ov, rfl, hbv, hcv⟩ : ∃ b off, Av = some ⟨b, off, none⟩ ∧ b < w4.heap.size ∧ ∀ j, j < vs.length → w4.cell? ⟨b, off + j, none⟩ = some (.int .i64 (vs.getD j 0)) := by
            rcases hv3 with h9 | h9
            · rw [h9] at hlv; simp at hlv; omega
            · exact h9
          rw [hlt] at hct
          rw [hlv] at hcv
          have HCt := Lib.hid hct
          have HCv := Lib.hid hcv
          have HLt := Lib.hid hlt
          have HLv := Lib.hid hlv
          rw [hlt, hlv]
          have hown0 : (w4.alloc (.cells #[] 89)).ownsRow w4.heap.size 89 2 (.slice (some ⟨w4.heap.size, 0, none⟩) 0 0) 0 (prs ((ts.zip vs).take 0)) := by
            have h9 := World.ownsRow_made w4 (base := w4.heap.size) (e := 89) (size := 2) #[] 0 (Nat.le_refl _) (by simp [maxLen]) rfl
            simpa [prs] using h9
          have H0 := Lib.hid hown0
          have HBa := Lib.hid (below1 w4 (.cells #[] 89))
          clear hown0 hf0 hf1 hg0 hg1 hts hvs ho1 ho2 hct hcv ht3 hv3 hlt hlv hrt hrv
          go_wp2_with fail
          go_loopw [11, 12] (fun u i wr => ∃ k : Nat, k ≤ m ∧ i = .int .i64 (k : Int) ∧ wr.ownsRow w4.heap.size 89 2 u k (prs ((ts.zip vs).take k)) ∧ Below w4.heap.size w4 wr)
            (fun _ i _ => m - (intOf i).toNat)
          case atStart => exact ⟨0, Nat.zero_le _, by simp, H0.out, HBa.out⟩
          case round =>
            clear H0 HBa
            obtain ⟨k, hk, rfl, hown, hb⟩ := hrel
            have Hb := Lib.hid hb
            have hzb := hb.size
            have HO := Lib.hid hown
            by_cases hkm : k < m
            · have hx : wr.cell? ⟨bt, ot + k, none⟩ = some (.int .i64 (ts.getD k 0)) := (hb.cell (p := ⟨bt, ot + k, none⟩) hbt).trans (HCt.out k hkm)
              have hy : wr.cell? ⟨bv, ov + k, none⟩ = some (.int .i64 (vs.getD k 0)) := (hb.cell (p := ⟨bv, ov + k, none⟩) hbv).trans (HCv.out k hkm)
              obtain ⟨x, hX⟩ : ∃ x, ts.getD k 0 = x := ⟨_, rfl⟩
              obtain ⟨y, hY⟩ : ∃ y, vs.getD k 0 = y := ⟨_, rfl⟩
              have HTk := Lib.hid (zip_take (ts.zip vs) k x y (by have h1 := HZl.out; have h2 := HLt.out; omega) (by rw [zip_getD ts vs k (by have h2 := HLt.out; omega) (by have h2 := HLv.out; omega), hX, hY]))
              rw [hX] at hx
              rw [hY] at hy
              clear hX hY hown hb
              go_wp2_with fail
              have hbt2 : bt < wr.heap.size := by omega
              have hbv2 : bv < wr.heap.size := by omega
              have hS0 : (fun W : World => W.cell? ⟨bt, ot + k, none⟩ = some (.int .i64 x) ∧ W.cell? ⟨bv, ov + k, none⟩ = some (.int .i64 y)) wr.drew := ⟨hx, hy⟩
              refine wp_region_held_drew (S := fun W : World => W.cell? ⟨bt, ot + k, none⟩ = some (.int .i64 x) ∧ W.cell? ⟨bv, ov + k, none⟩ = some (.int .i64 y)) (by kernel_rfl) hS0 ?_
              intro _
              refine wpAnyH_take (i := 0) (v := u11) rfl (by kernel_rfl) (by kernel_rfl) (by kernel_rfl) (fun _ _ _ h => h) (Or.inl ⟨by kernel_rfl, ?t0⟩) (by assumption) ?_
              case t0 =>
                intro W hW
                clear hW
                go_simp
              refine wpAnyH_take (i := 1) (v := .slice (some ⟨bt, ot, none⟩) m ct) rfl (by kernel_rfl) (by kernel_rfl) (by kernel_rfl) (fun _ _ _ h => h) (Or.inl ⟨by kernel_rfl, ?t1⟩) (by assumption) ?_
              case t1 =>
                intro W hW
                clear hW
                go_simp
              refine wpAnyH_take (i := 2) (v := .int .i64 (k : Int)) rfl (by kernel_rfl) (by kernel_rfl) (by kernel_rfl) (fun _ _ _ h => h) (Or.inl ⟨by kernel_rfl, ?t2⟩) (by assumption) ?_
              case t2 =>
                intro W hW
                clear hW
                go_simp
              refine wpAnyH_take (i := 3) (v := .pointer (some ⟨bt, ot + k, none⟩)) rfl (by kernel_rfl) (by kernel_rfl) (by kernel_rfl) (fun _ _ _ h => h) (Or.inl ⟨by kernel_rfl, ?t3⟩) (by assumption) ?_
              case t3 =>
                intro W hW
                clear hW
                go_simp
              refine wpAnyH_take (i := 4) (v := .int .i64 x) rfl (by kernel_rfl) (by kernel_rfl) (by kernel_rfl) (fun _ _ _ h => h) (Or.inl ⟨by kernel_rfl, ?t4⟩) (by assumption) ?_
              case t4 =>
                intro W hW
                obtain ⟨z0, z1⟩ := hW
                go_simp
              refine wpAnyH_take (i := 5) (v := .slice (some ⟨bv, ov, none⟩) m cv) rfl (by kernel_rfl) (by kernel_rfl) (by kernel_rfl) (fun _ _ _ h => h) (Or.inl ⟨by kernel_rfl, ?t5⟩) (by assumption) ?_
              case t5 =>
                intro W hW
                clear hW
                go_simp
              refine wpAnyH_take (i := 6) (v := .int .i64 (k : Int)) rfl (by kernel_rfl) (by kernel_rfl) (by kernel_rfl) (fun _ _ _ h => h) (Or.inl ⟨by kernel_rfl, ?t6⟩) (by assumption) ?_
              case t6 =>
                intro W hW
                clear hW
                go_simp
              refine wpAnyH_take (i := 7) (v := .pointer (some ⟨bv, ov + k, none⟩)) rfl (by kernel_rfl) (by kernel_rfl) (by kernel_rfl) (fun _ _ _ h => h) (Or.inl ⟨by kernel_rfl, ?t7⟩) (by assumption) ?_
              case t7 =>
                intro W hW
                clear hW
                go_simp
              refine wpAnyH_take (i := 8) (v := .int .i64 y) rfl (by kernel_rfl) (by kernel_rfl) (by kernel_rfl) (fun _ _ _ h => h) (Or.inl ⟨by kernel_rfl, ?t8⟩) (by assumption) ?_
              case t8 =>
                intro W hW
                obtain ⟨z0, z1⟩ := hW
                go_simp
              refine wpAnyH_take (i := 9) (v := .agg #[.int .i64 x, .int .i64 y]) rfl (by kernel_rfl) (by kernel_rfl) (by kernel_rfl) (fun _ _ _ h => h) (Or.inl ⟨by kernel_rfl, ?t9⟩) (by assumption) ?_
              case t9 =>
                intro W hW
                clear hW
                go_simp
              refine wpAnyH_ready (rs := [10]) (by kernel_rfl) (by simp) ?_
              refine AllReadyH.cons rfl (fun K10 hK10 => ?_) AllReadyH.nil
              go_simp
              refine hK10.out _ _ (by exact ⟨(World.cell?_alloc_lt _ _ _ (by simpa using hbt2)).trans hx, (World.cell?_alloc_lt _ _ _ (by simpa using hbv2)).trans hy⟩) (fun _ => ?_)
              clear hK10 K10
              refine wpAnyH_ready (rs := [11]) (by kernel_rfl) (by simp) ?_
              refine AllReadyH.cons rfl (fun K11 hK11 => ?_) AllReadyH.nil
              refine step_append_ownQ _ rfl _ _ 35 rfl w4.heap.size 89 i0 (.agg #[.int .i64 0, .int .i64 0]) 2 16 Tryd.underlying35 hi hzz0 hzz1 hzz2 rfl (by decide) _ k (prs ((ts.zip vs).take k)) rfl ((show wr.drew.ownsRow w4.heap.size 89 2 u11 k (prs ((ts.zip vs).take k)) from HO.out).alloc _) ⟨wr.heap.size, 0, none⟩ 1 1 [.int .i64 x, .int .i64 y] rfl rfl (cells_pair wr.drew _ _ _) (by simp [Value.oneCell']) (by unfold maxLen; omega) (by omega) (by simp; omega) ?_
              intro v' w5 hown' hgrow _
              have hb5 : Below w4.heap.size w4 w5 := (Hb.out.drew.alloc (by simpa using hzb) _).grown hgrow (by simp; omega) (fun k hk => (HO.out.lt _ hk).1)
              have hown5 : w5.ownsRow w4.heap.size 89 2 v' (k + 1) (prs ((ts.zip vs).take (k + 1))) := by rw [HTk.out, prs_append]; exact hown'
              clear hown' hgrow
              have hS5 : w5.cell? ⟨bt, ot + k, none⟩ = some (.int .i64 x) ∧ w5.cell? ⟨bv, ov + k, none⟩ = some (.int .i64 y) := ⟨(hb5.cell (p := ⟨bt, ot + k, none⟩) hbt).trans ((Hb.out.cell (p := ⟨bt, ot + k, none⟩) hbt).symm.trans hx), (hb5.cell (p := ⟨bv, ov + k, none⟩) hbv).trans ((Hb.out.cell (p := ⟨bv, ov + k, none⟩) hbv).symm.trans hy)⟩
              refine hK11.out _ _ hS5 (fun _ => ?_)
              clear hK11 K11
              refine wpAnyH_ready (rs := [12]) (by kernel_rfl) (by simp) ?_
              refine AllReadyH.cons rfl (fun K12 hK12 => ?_) AllReadyH.nil
              go_simp
              refine hK12.out _ _ hS5 (fun _ => ?_)
              clear hK12 K12
              refine wpAnyH_done (by kernel_rfl) ?_ _
              have HB5 := Lib.hid hb5
              have HO5 := Lib.hid hown5
              clear hb5 hown5 hS5 hS0 hx hy
              go_wp2_with fail
              first
              | (go_roundw; (case rel => exact ⟨k + 1, by omega, by go_num, HO5.out, HB5.out⟩); (case measure => simp [intOf]; omega))
              | exact ⟨⟨k + 1, by omega, by go_num, HO5.out, HB5.out⟩, by simp [intOf]; omega⟩
            · obtain rfl : k = m := by omega
              have hzl : (ts.zip vs).length = k := by rw [HZl.out, HLt.out]
              rw [show (ts.zip vs).take k = ts.zip vs from by rw [← hzl, List.take_length]] at HO
              have HPL := Lib.hid (PL.of_own HO.out hzl.symm HRz.out (by omega))
              have HZL := Lib.hid hzl
              have KA := Lib.hid (K4.out.below hb K4.out.lt)
              have FA := Lib.hid (F4.out.trans (hb.mono F4.out.size))
              have zw : w.heap.size ≤ w4.heap.size := F4.out.size
              have HZd : Hid (ptsZ s (k : Int) (ts.zip vs) = if bkN (ts.zip vs) = (k : Int) ∧ bkD (ts.zip vs) = s then some (ts.zip vs) else none) := Lib.hid rfl
              have HBk := Lib.hid (HB.out _ (ts.zip vs) _ HPL.out)
              unfold BlkPost at HBk
              have HFB := Lib.hid (show bkB (ts.zip vs) = false → bkN (ts.zip vs) = 0 from fun h => by unfold bkN; rw [h]; rfl)
              clear hown hb hzl HCt HCv
              generalize ts.zip vs = xs at *
              generalize bkN xs = K at *
              generalize bkD xs = D at *
              generalize bkB xs = F at *
              go_wp2_with fail
              refine HBk.out.mono ?_
              rintro e w5 ⟨rfl, hb5⟩
              have KB5 := KA.out.below hb5 KA.out.lt
              have z5 := hb5.size
              have K6 := Lib.hid (KB5.below (below1 w5 (.cells #[.int .i64 K, .string D] 38)) KB5.lt)
              have B6 := Lib.hid (KB.new w5 K D)
              have F6 := Lib.hid (FA.out.trans ((hb5.trans ((below1 w5 (.cells #[.int .i64 K, .string D] 38)).mono z5)).mono FA.out.size))
              have O6 := Lib.hid (u_own_below HO.out (hb5.trans ((below1 w5 (.cells #[.int .i64 K, .string D] 38)).mono z5)))
              have x0 := K6.out.c0
              have x1 := K6.out.c1
              have y0 := B6.out.c0
              have y1 := B6.out.c1
              clear hb5 KB5
              cases F with
              | false =>
                have EZ := Lib.hid (show ptsZ s (k : Int) xs = none by rw [HZd.out, if_neg (fun h => by have := HFB.out rfl; omega)])
                clear HZd
                go_wp2_with fail
                go_ret2
                rw [E.out, EZ.out]
                exact ⟨_, rfl, World.ownsRow_nil _ _ _ _, F6.out⟩
              | true =>
                rcases blk_cases K (k : Int) D s with ⟨hN, hD⟩ | hN | ⟨hN, hD⟩
                · subst hN
                  subst hD
                  have EZ := Lib.hid (show ptsZ D (k : Int) xs = some xs by rw [HZd.out, if_pos ⟨rfl, rfl⟩])
                  clear HZd
                  go_wp2_with fail
                  go_ret2
                  rw [E.out, EZ.out]
                  exact ⟨_, rfl, by show World.ownsRow _ _ _ _ _ xs.length _; rw [HZL.out]; exact u_ownsRow_base O6.out zw, F6.out⟩
                · have EZ := Lib.hid (show ptsZ s (k : Int) xs = none by rw [HZd.out, if_neg (fun h => hN h.1)])
                  clear HZd
                  go_wp2_with fail
                  go_ret2
                  rw [E.out, EZ.out]
                  exact ⟨_, rfl, World.ownsRow_nil _ _ _ _, F6.out⟩
                · subst hN
                  have EZ := Lib.hid (show ptsZ s (k : Int) xs = none by rw [HZd.out, if_neg (fun h => hD (by rw [h.2]))])
                  clear HZd
                  go_wp2_with fail
                  go_ret2
                  rw [E.out, EZ.out]
                  exact ⟨_, rfl, World.ownsRow_nil _ _ _ _, F6.out⟩
    · have h25i : (2500 : Int) < s.size := by omega
      have E := Lib.hid (show ptsB s n = none by unfold ptsB; rw [if_neg (fun h => h25 h.2)])
      clear hn h25
      go_enter Tryd.func23, Tryd.ntmps23
      go_wp2_with fail
      refine (HI.out _).mono ?_
      rintro e w2 ⟨rfl, rfl⟩
      go_wp2_with fail
      go_ret2
      rw [E.out]
      exact ⟨_, rfl, World.ownsRow_nil _ _ _ _, hB0.out⟩
  · have E := Lib.hid (show ptsB s n = none by unfold ptsB; rw [if_neg (fun h => hn h.1)])
    have hJ := hI.out
    rw [inB_false hn] at hJ
    have HI := Lib.hid hJ
    clear hJ hI hn
    go_enter Tryd.func23, Tryd.ntmps23
    go_wp2_with fail
    refine (HI.out _).mono ?_
    rintro e w2 ⟨rfl, rfl⟩
    go_wp2_with fail
    go_ret2
    rw [E.out]
    exact ⟨_, rfl, World.ownsRow_nil _ _ _ _, hB0.out⟩
end Go.Proofs.YtldjeacpkndcbaaDoor
