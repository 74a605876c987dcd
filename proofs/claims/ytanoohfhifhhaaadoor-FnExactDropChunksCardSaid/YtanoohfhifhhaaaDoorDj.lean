/- Walks: the program's reader of points. -/
import Derived.Test.YtanoohfhifhhaaaDoorDg
import Derived.Test.YtanoohfhifhhaaaDoorQr
import Derived.Test.YtanoohfhifhhaaaDoorSd
import Derived.Test.YtanoohfhifhhaaaDoorQs
import Derived.Test.YtanoohfhifhhaaaDoorQt
import Derived.Test.YtanoohfhifhhaaaDoorSe
set_option linter.unusedVariables false
set_option linter.unusedSimpArgs false
namespace Go.Proofs.YtanoohfhifhhaaaDoor
open Go.RowKit

/-- how the reader of points ends: with a row of its own, or with a panic of the text's own -/
def PtsOut (g : Nat) (ws : List Nat) (N : Nat) (r : Option (List (Int × Int))) (w : World) (e : Ending) (w' : World) : Prop :=
  w.grownBy w' (some g) ∧ match r with
    | some xs => ∃ v, e = .returned v ∧ w'.ownsRow w.heap.size 41 2 v xs.length (prs xs) ∧ (∃ q : Nat, RK w' g ws (N : Int) (q : Int)) ∧ (∀ j, Rng (xs.getD j (0, 0)).1 ∧ Rng (xs.getD j (0, 0)).2) ∧ xs.length ≤ 120
    | none => Cry e
theorem KB.grown {w w' : World} {b g : Nat} {N : Int} {D : ByteArray} (h : KB w b N D) (k : w.grownBy w' (some g)) (hne : b ≠ g) : KB w' b N D :=
  (k.block b (Array.getElem?_eq_some_iff.1 h).1 (by intro he; injection he with he; exact hne he)).trans h
theorem KB.lt {w : World} {b : Nat} {N : Int} {D : ByteArray} (h : KB w b N D) : b < w.heap.size := (Array.getElem?_eq_some_iff.1 h).1
theorem ptsI_0 {L : List Bool} {s : ByteArray} {n : Nat} (h : timesB L n 0 = none) : ptsI L s n = none := by unfold ptsI; rw [h]
theorem ptsI_1 (L : List Bool) (s : ByteArray) (n q : Nat) (ts : List Int) (h : timesB L n 0 = some (ts, q)) (h2 : valsB L n q = none) : ptsI L s n = none := by unfold ptsI; rw [h]; simp only; rw [h2]
theorem ptsI_2 (L : List Bool) (s : ByteArray) (n q q2 : Nat) (ts vs : List Int) (h : timesB L n 0 = some (ts, q)) (h2 : valsB L n q = some (vs, q2)) : ptsI L s n = ptsZ s (n : Int) (ts.zip vs) := by unfold ptsI; rw [h]; simp only; rw [h2]
theorem valsB_ok {L : List Bool} {n p q : Nat} {vs : List Int} (hp : p ≤ L.length) (h : valsB L n p = some (vs, q)) : vs.length = n ∧ (∀ j, Rng (vs.getD j 0)) := by
  unfold valsB at h
  cases hv : valG L n p with
  | none => rw [hv] at h; cases h
  | some a =>
    obtain ⟨xs, q', l, t⟩ := a
    rw [hv] at h
    unfold fitB at h
    simp only at h
    split at h
    · simp only [Option.some.injEq, Prod.mk.injEq] at h
      obtain ⟨rfl, rfl⟩ := h
      have T := valG_ok hp hv
      exact ⟨T.1, T.2.1⟩
    · cases h
theorem zip_getD (ts vs : List Int) (j : Nat) (h : j < ts.length) (h2 : j < vs.length) : (ts.zip vs).getD j (0, 0) = (ts.getD j 0, vs.getD j 0) := by
  have e : (ts.zip vs)[j]? = some (ts[j], vs[j]) := by rw [List.getElem?_eq_getElem (by simp; omega), List.getElem_zip]
  simp [List.getD_eq_getElem?_getD, h, h2, e]
theorem zip_len (ts vs : List Int) (h : ts.length = vs.length) : (ts.zip vs).length = ts.length := by simp [h]
theorem zip_rng {ts vs : List Int} (h : ts.length = vs.length) (ht : ∀ j, Rng (ts.getD j 0)) (hv : ∀ j, Rng (vs.getD j 0)) (j : Nat) : Rng ((ts.zip vs).getD j (0, 0)).1 ∧ Rng ((ts.zip vs).getD j (0, 0)).2 := by
  rw [← tsOf_getD, ← vsOf_getD, zip_fst ts vs h, zip_snd ts vs h]
  exact ⟨ht j, hv j⟩
theorem zip_of {ts vs : List Int} {l : List (Int × Int)} (h : ts.length = vs.length) (hl : l.length = ts.length) (ha : ∀ j, j < ts.length → l.getD j (0, 0) = (ts.getD j 0, vs.getD j 0)) : l = ts.zip vs :=
  prs_ext (by rw [hl, zip_len ts vs h]) (fun j hj => by rw [ha j (by omega), zip_getD ts vs j (by omega) (by omega)])
/-- two blocks: the same, or not the same number, or not the same bytes -/
theorem blk_cases (K n : Int) (D s : ByteArray) : (K = n ∧ D = s) ∨ (¬ K = n) ∨ (K = n ∧ ¬ D.toList = s.toList) := by
  by_cases h : K = n
  · by_cases h2 : D = s
    · exact .inl ⟨h, h2⟩
    · exact .inr (.inr ⟨h, fun hl => h2 (by rw [ByteArray.toList_eq, ByteArray.toList_eq] at hl; apply ByteArray.ext; apply Array.ext'; exact hl)⟩)
  · exact .inr (.inl h)

set_option maxRecDepth 100000 in
set_option maxHeartbeats 4000000 in
theorem points_any (g : Nat) (ws : List Nat) (N p n : Nat) (s : ByteArray) (w : World) (h : RK w g ws (N : Int) (p : Int)) (hp0 : p = 0) (hw : RdW ws N) (h1 : 1 ≤ n) (hn : n ≤ 120) (hT : ∀ W, w.grownBy W (some g) → Tab W) (L : List Bool) (hL : BM.Words ws L) (hLN : L.length = N) :
    Calls Tryd.prog 60 #[.pointer (some ⟨g, 0, none⟩), .agg #[.int .i64 (n : Int), .string s]] w (PtsOut g ws N (ptsI L s n) w) := by
  have T := Lib.hid (fun W (hk : RK W g ws (N : Int) (p : Int)) => (show Calls Tryd.prog 91 #[.pointer (some ⟨g, 0, none⟩), .int .i64 (n : Int)] W (ListOut g ws N (timesB L n 0) W) from by
    have t := times_any g ws N p n W hk hw (by omega) hn
    have e1 := timesW_L hL n p
    rw [hLN] at e1
    rw [e1, hp0] at t
    exact t))
  have V := Lib.hid (fun W (q : Nat) (hk : RK W g ws (N : Int) (q : Int)) (hq : q ≤ N) (hT : ∀ W', W.grownBy W' (some g) → Tab W') => (show Calls Tryd.prog 92 #[.pointer (some ⟨g, 0, none⟩), .int .i64 (n : Int)] W (ListOut g ws N (valsB L n q) W) from by
    have t := values_any g ws N q n W hk hw hq hn hT L hL hLN
    have e1 : valI (BM.getW ws) N n q = valI (numB L) N n q := valI_congr hq (fun q k hk => BM.words_get hL q k hk) n
    rw [e1, ← hLN, fit_eq (by omega)] at t
    rw [hLN] at t
    exact t))
  have HTab := Lib.hid hT
  have HB := Lib.hid (fun v xs W h hT => implBlockOf_any v xs W h hT)
  have HF := Lib.hid (fun W => fail_any g W)
  have hg := h.lt
  have P0 := Lib.hid (@ptsI_0 L s n)
  have P1 := Lib.hid (fun q ts => ptsI_1 L s n q ts)
  have P2 := Lib.hid (fun q q2 ts vs => ptsI_2 L s n q q2 ts vs)
  have HTL := Lib.hid (fun ts q (h : timesB L n 0 = some (ts, q)) => timesB_len (Nat.zero_le _) hn h)
  have HVL := Lib.hid (fun p vs q (hp : p ≤ N) (h : valsB L n p = some (vs, q)) => valsB_ok (by rw [hLN]; exact hp) h)
  rw [hLN] at HTL
  obtain ⟨i0, hi, hz0, hz1, hz2⟩ := info_parts info_pt
  have K0 := Lib.hid (KB.new w (n : Int) s)
  have R0 : Hid (RK (w.alloc (.cells #[.int .i64 (n : Int), .string s] 36)) g ws (N : Int) (p : Int)) := Lib.hid (h.alloc _)
  have z1 : w.heap.size < (w.alloc (.cells #[.int .i64 (n : Int), .string s] 36)).heap.size := by simp
  have G0 : Hid (w.grownBy (w.alloc (.cells #[.int .i64 (n : Int), .string s] 36)) (some g)) := Lib.hid (World.grownBy_alloc _ _ _)
  clear h hw hT hL hLN
  go_enter Tryd.func60, Tryd.ntmps60
  go_wp2_with fail
  generalize w.alloc (.cells #[.int .i64 (n : Int), .string s] 36) = w1 at *
  refine (T.out _ R0.out).mono ?_
  rintro e w2 h2
  cases ht : timesB L n 0 with
  | none =>
    obtain ⟨⟨u, pv, rfl⟩, hg2⟩ := h2.none' ht
    have E := Lib.hid (P0.out ht)
    have HG := Lib.hid (eb_trans G0.out hg2)
    clear h2 hg2 ht
    go_wp2_with fail
    rw [E.out]
    exact ⟨rfl, HG.out, ⟨_, _, rfl⟩⟩
  | some a =>
    obtain ⟨ts, q⟩ := a
    obtain ⟨⟨vt, rfl, ho2⟩, hk2, hg2, hr2, hl2⟩ := h2.some' ht
    have hTG := HTL.out ts q ht
    have hlt := hTG.len
    have hqN := hTG.qN
    have HRt := Lib.hid hr2
    have HTS := Lib.hid ht
    have G2 := Lib.hid (eb_trans G0.out hg2)
    have K2 := Lib.hid (K0.out.grown hg2 (by omega))
    have R2 := Lib.hid hk2
    have O2 := Lib.hid ho2
    have x0 := K2.out.c0
    clear h2 ho2 hk2 hg2 hr2 ht hTG R0 K0 G0
    go_wp2_with fail
    refine (V.out _ q R2.out hqN (fun W k => HTab.out W (eb_trans G2.out k))).mono ?_
    rintro e w3 h3
    cases hv : valsB L n q with
    | none =>
      obtain ⟨⟨u, pv, rfl⟩, hg3⟩ := h3.none' hv
      have E := Lib.hid (P1.out _ _ HTS.out hv)
      have HG := Lib.hid (eb_trans G2.out hg3)
      clear h3 hg3 hv x0
      go_wp2_with fail
      rw [E.out]
      exact ⟨rfl, HG.out, ⟨_, _, rfl⟩⟩
    | some b =>
      obtain ⟨vs, q2⟩ := b
      obtain ⟨⟨vv, rfl, ho3⟩, hk3, hg3, hr3, hl3⟩ := h3.some' hv
      obtain ⟨hlv, _⟩ := HVL.out q vs q2 hqN hv
      have HRv := Lib.hid hr3
      have E := Lib.hid (P2.out _ _ _ _ HTS.out hv)
      have G3 := Lib.hid (eb_trans G2.out hg3)
      have K3 := Lib.hid (K2.out.grown hg3 (by omega))
      have R3 := Lib.hid hk3
      have I3t := IL.of_own (own_grown O2.out hg3 (show g < w1.heap.size by omega)) rfl HRt.out (by omega)
      have I3v := IL.of_own ho3 rfl hr3 (by omega)
      obtain ⟨_, _, At, ct, rfl, ht3⟩ := I3t
      obtain ⟨_, _, Av, cv, rfl, hv3⟩ := I3v
      obtain ⟨bt, ot, rfl, hbt, hct⟩ : ∃ b off, At = some ⟨b, off, none⟩ ∧ b < w3.heap.size ∧ ∀ j, j < ts.length → w3.cell? ⟨b, off + j, none⟩ = some (.int .i64 (ts.getD j 0)) := by
        rcases ht3 with h9 | h9
        · rw [h9] at hlt; simp at hlt; omega
        · exact h9
      obtain ⟨bv, ov, rfl, hbv, hcv⟩ : ∃ b off, Av = some ⟨b, off, none⟩ ∧ b < w3.heap.size ∧ ∀ j, j < vs.length → w3.cell? ⟨b, off + j, none⟩ = some (.int .i64 (vs.getD j 0)) := by
        rcases hv3 with h9 | h9
        · rw [h9] at hlv; simp at hlv; omega
        · exact h9
      rw [hlt] at hct
      rw [hlv] at hcv
      have HCt := Lib.hid hct
      have HCv := Lib.hid hcv
      have HLt := Lib.hid hlt
      have HLv := Lib.hid hlv
      rw [hlt, hlv]
      have x0 := K3.out.c0
      have zg : g < w3.heap.size := R3.out.lt
      clear h3 ho3 hk3 hg3 hr3 hv hct hcv ht3 hv3 K2 R2 G2 O2 hl2 hl3 hlt hlv hqN
      go_wp2_with (at_make; refine wpList_make_full _ rfl _ _ 24 rfl w3.heap.size 41 i0 (.agg #[.int .i64 0, .int .i64 0]) 2 Tryd.underlying24 hi hz0 hz1 _ _ _ _ n rfl rfl rfl rfl ?b2 ?b3 ?b4 ?_)
      case b2 => rw [hz2]; omega
      case b3 => unfold maxLen; omega
      case b4 => exact Nat.le_refl _
      intro w4 hown hgrow
      rw [made_prs] at hown
      have hb4 : Below w3.heap.size w3 w4 := (Below.refl _ _).grown hgrow (Nat.le_refl _) (fun k hk => by cases hk)
      clear hgrow x0
      go_wp2_with fail
      go_loopw [24] (fun i wr => ∃ (k : Nat) (l : List (Int × Int)), k ≤ n ∧ i = .int .i64 k ∧ l.length = n ∧ (∀ j, j < k → l.getD j (0, 0) = (ts.getD j 0, vs.getD j 0)) ∧
          wr.ownsRow w3.heap.size 41 2 (.slice (some ⟨w3.heap.size, 0, none⟩) n n) n (prs l) ∧ Below w3.heap.size w3 wr)
        (fun i _ => n - (intOf i).toNat)
      case atStart => exact ⟨0, List.replicate n (0, 0), Nat.zero_le _, rfl, by simp, fun j hj => by omega, hown, hb4⟩
      case round =>
        clear hown hb4
        obtain ⟨k, l, hk, rfl, hll, hag, hown, hb⟩ := hrel
        have Hag := Lib.hid hag
        have Hll := Lib.hid hll
        clear hag hll
        by_cases hlt : k < n
        · have hx : wr.cell? ⟨bt, ot + k, none⟩ = some (.int .i64 (ts.getD k 0)) := (hb.cell (p := ⟨bt, ot + k, none⟩) hbt).trans (HCt.out k hlt)
          have hy : wr.cell? ⟨bv, ov + k, none⟩ = some (.int .i64 (vs.getD k 0)) := (hb.cell (p := ⟨bv, ov + k, none⟩) hbv).trans (HCv.out k hlt)
          obtain ⟨x, hX⟩ : ∃ x, ts.getD k 0 = x := ⟨_, rfl⟩
          obtain ⟨y, hY⟩ : ∃ y, vs.getD k 0 = y := ⟨_, rfl⟩
          rw [hX] at hx
          rw [hY] at hy
          have HX := Lib.hid hX
          have HY := Lib.hid hY
          clear hX hY
          have hlk : k < l.length := by have := Hll.out; omega
          have c0 : wr.cell? ⟨w3.heap.size, k * 2, none⟩ = some (.int .i64 (l.getD k (0, 0)).1) := by
            rw [hown.cellAt _ (by omega)]; exact prs_get0 _ _ hlk
          have c1 : wr.cell? ⟨w3.heap.size, k * 2 + 1, none⟩ = some (.int .i64 (l.getD k (0, 0)).2) := by
            rw [hown.cellAt _ (by omega)]; exact prs_get1 _ _ hlk
          have f0 : wr.frozen? ⟨w3.heap.size, k * 2, none⟩ = false := hown.frozenAt _
          have f1 : wr.frozen? ⟨w3.heap.size, k * 2 + 1, none⟩ = false := hown.frozenAt _
          have HO : Hid (((wr.setCell ⟨w3.heap.size, k * 2, none⟩ (.int .i64 x)).setCell ⟨w3.heap.size, k * 2 + 1, none⟩ (.int .i64 y)).drew.ownsRow w3.heap.size 41 2 (.slice (some ⟨w3.heap.size, 0, none⟩) n n) n (prs (l.set k (x, y)))) := Lib.hid (by
            have h4 := ((hown.stored (k * 2) (.int .i64 x)).1.stored (k * 2 + 1) (.int .i64 y)).1
            rw [prs_set _ _ _ _ hlk] at h4
            exact h4)
          have HBn : Hid (Below w3.heap.size w3 ((wr.setCell ⟨w3.heap.size, k * 2, none⟩ (.int .i64 x)).setCell ⟨w3.heap.size, k * 2 + 1, none⟩ (.int .i64 y)).drew) := Lib.hid (((hb.setCell (show w3.heap.size ≤ (⟨w3.heap.size, k * 2, none⟩ : Addr).block by simp) _).setCell (show w3.heap.size ≤ (⟨w3.heap.size, k * 2 + 1, none⟩ : Addr).block by simp) _).drew)
          generalize (l.getD k (0, 0)).1 = o0 at c0
          generalize (l.getD k (0, 0)).2 = o1 at c1
          have HL2 : Hid (∀ j, j < k + 1 → (l.set k (x, y)).getD j (0, 0) = (ts.getD j 0, vs.getD j 0)) := Lib.hid (fun j hj => by
            rw [getD_set_pr _ _ _ _ hlk]
            by_cases e : j = k
            · subst e; rw [if_pos rfl, HX.out, HY.out]
            · rw [if_neg e]; exact Hag.out j (by omega))
          clear hown hb
          go_wp2_with fail
          go_region
          go_wp2_with fail
          first
          | (go_roundw; (case rel => exact ⟨k + 1, l.set k (x, y), by omega, by go_num, by simpa using Hll.out, HL2.out, HO.out, HBn.out⟩); (case measure => simp [intOf]; omega))
          | exact ⟨⟨k + 1, l.set k (x, y), by omega, by go_num, by simpa using Hll.out, HL2.out, HO.out, HBn.out⟩, by simp [intOf]; omega⟩
        · obtain rfl : k = n := by omega
          have hlz : l = ts.zip vs := zip_of (by rw [HLt.out, HLv.out]) (by rw [Hll.out, HLt.out]) (fun j hj => Hag.out j (by have := HLt.out; omega))
          subst hlz
          have hzz : ts.length = vs.length := by rw [HLt.out, HLv.out]
          have hzl : (ts.zip vs).length = k := by rw [zip_len _ _ hzz, HLt.out]
          have hrz := zip_rng hzz HRt.out HRv.out
          have HPL := Lib.hid (PL.of_own hown hzl.symm hrz (by omega))
          have HRz := Lib.hid hrz
          have HZL := Lib.hid hzl
          have HO4 := Lib.hid hown
          have hb43 := hb.size
          have G4 := Lib.hid (grown_below2 G3.out hb)
          have K4 := Lib.hid (K3.out.below hb K3.out.lt)
          have R4 : Hid (RK wr g ws (N : Int) (q2 : Int)) := Lib.hid ((hb.block g zg).trans R3.out)
          have zw : w.heap.size < w3.heap.size := K3.out.lt
          have HZd : Hid (ptsZ s (k : Int) (ts.zip vs) = if bkN (ts.zip vs) = (k : Int) ∧ bkD (ts.zip vs) = s then some (ts.zip vs) else none) := Lib.hid rfl
          clear hown hb hrz hzz hzl Hag Hll HCt HCv
          have HBk := Lib.hid (HB.out _ (ts.zip vs) _ HPL.out (HTab.out _ G4.out))
          unfold BlkPost at HBk
          generalize ts.zip vs = xs at *
          generalize bkN xs = K at *
          generalize bkD xs = D at *
          generalize bkB xs = F at *
          go_wp2_with fail
          refine HBk.out.mono ?_
          rintro e w5 ⟨rfl, hb5⟩
          have K5 := K4.out.below hb5 K4.out.lt
          have z5 := hb5.size
          have zb : w.heap.size < w5.heap.size := K5.lt
          have K6 := Lib.hid (K5.below (below1 w5 (.cells #[.int .i64 K, .string D] 36)) zb)
          have B6 := Lib.hid (KB.new w5 K D)
          have hb6 : Below wr.heap.size wr (w5.alloc (.cells #[.int .i64 K, .string D] 36)) := hb5.trans ((below1 w5 _).mono z5)
          have G6 := Lib.hid (grown_below2 G4.out hb6)
          have O6 := Lib.hid (u_own_below HO4.out hb6)
          have R6 : Hid (RK (w5.alloc (.cells #[.int .i64 K, .string D] 36)) g ws (N : Int) (q2 : Int)) := Lib.hid ((hb6.block g R4.out.lt).trans R4.out)
          have x0 := K6.out.c0
          have x1 := K6.out.c1
          have y0 := B6.out.c0
          have y1 := B6.out.c1
          clear hb5 hb6 K5
          rcases blk_cases K (k : Int) D s with ⟨hN, hD⟩ | hN | ⟨hN, hD⟩
          · subst hN
            subst hD
            have EZ := Lib.hid (show ptsZ D (k : Int) xs = some xs by rw [HZd.out, if_pos ⟨rfl, rfl⟩])
            go_wp2_with fail
            go_ret
            rw [E.out, EZ.out]
            exact ⟨G6.out, _, rfl, by rw [HZL.out]; exact u_ownsRow_base O6.out (by omega), ⟨q2, R6.out⟩, HRz.out, by have := HZL.out; omega⟩
          · have EZ := Lib.hid (show ptsZ s (k : Int) xs = none by rw [HZd.out, if_neg (fun h => hN h.1)])
            clear HZd
            go_wp2_with fail
            refine (HF.out _).mono ?_
            rintro e w8 ⟨⟨u, pv, rfl⟩, rfl⟩
            go_wp2_with fail
            rw [E.out, EZ.out]
            exact ⟨rfl, G6.out, ⟨_, _, rfl⟩⟩
          · subst hN
            have EZ := Lib.hid (show ptsZ s (k : Int) xs = none by rw [HZd.out, if_neg (fun h => hD (by rw [h.2]))])
            clear HZd
            go_wp2_with fail
            refine (HF.out _).mono ?_
            rintro e w8 ⟨⟨u, pv, rfl⟩, rfl⟩
            go_wp2_with fail
            rw [E.out, EZ.out]
            exact ⟨rfl, G6.out, ⟨_, _, rfl⟩⟩
end Go.Proofs.YtanoohfhifhhaaaDoor

/- Walks: the program's PointsOf. -/
set_option linter.unusedVariables false
set_option linter.unusedSimpArgs false
namespace Go.Proofs.YtanoohfhifhhaaaDoor
open Go.RowKit

/-- what a read of points returns -/
def PReadOut (r : Option (List (Int × Int))) (w : World) (e : Ending) (w' : World) : Prop := match r with
  | some xs => ∃ v q, e = .returned (.tuple #[v, .int .i64 q, .bool true]) ∧ w'.ownsRow w.heap.size 41 2 v xs.length (prs xs) ∧ (∀ j, Rng (xs.getD j (0, 0)).1 ∧ Rng (xs.getD j (0, 0)).2) ∧ xs.length ≤ 120
  | none => e = .returned (.tuple #[.slice none 0 0, .int .i64 0, .bool false])
theorem catch4_panicking (p : Addr) (x : Bool) (u : TypeId) (pv : Value) (older : List PanicEntry) (w : World) (hc : w.cell? p = some (.bool x)) (hz : w.frozen? p = false) :
    CallsD Tryd.prog 89 #[.pointer (some p)] (.panicking ({ v := .iface u pv, recovered := false } :: older)) w fun e u' w' =>
      e = .returned (.tuple #[]) ∧ u' = .panicking ({ v := .iface u pv, recovered := true } :: older) ∧ w' = w.setCell p (.bool false) := by
  refine callsD_of_wpS Tryd.func89 rfl fun c₀ cs hu => ?_
  apply wpS_seq
  apply wpS_region
  simp [wpOpsS, go_sem, recoverD, hu, Tryd.ntmps89, Exit.thenS]
  refine wpS_cond (t := true) (by simp [Act.eval, Array.replicate]) ?_
  simp only [if_true]
  apply wpS_region
  simp [wpOpsS, go_sem, hc, hz, bodyPostS, results, Tryd.results89]

theorem catch4_idle (p : Addr) (w : World) :
    CallsD Tryd.prog 89 #[.pointer (some p)] .returning w fun e u' w' => e = .returned (.tuple #[]) ∧ u' = .returning ∧ w' = w := by
  refine callsD_of_wpS Tryd.func89 rfl fun c₀ cs hu => ?_
  apply wpS_seq
  apply wpS_region
  simp [wpOpsS, go_sem, recoverD, hu, Tryd.ntmps89, Exit.thenS]
  refine wpS_cond (t := false) (by simp [Act.eval, Array.replicate]) ?_
  simp only [Bool.false_eq_true, if_false]
  refine wpS_of_wp (wp_skip ?_)
  cases c₀
  simp_all [bodyPostS, results, Tryd.results89]
set_option maxRecDepth 100000 in
set_option maxHeartbeats 1000000 in
theorem readFrom4_bad (s : ByteArray) (N a : Int) (rv : Value) (w : World) (hs : s.size ≤ maxLen) (h : hasB s N a 0 = false) (hrv : rv.oneCell' = true) :
    Calls Tryd.prog 58 #[.agg #[.string s, .int .i64 N], .int .i64 a, rv] w (RetBelow (.tuple #[.slice none 0 0, .int .i64 0, .bool false]) w) := by
  have H := Lib.hid (fun W => hasBits_any s N a 0 W hs (by omega))
  rw [h] at H
  clear h
  go_enter_defers Tryd.func58, Tryd.ntmps58
  go_wp2_with fail
  refine (H.out _).mono ?_
  rintro e w1 ⟨rfl, hb⟩
  have ok0 : OkB ((w.alloc (.cells #[.string s, .int .i64 N] 77)).alloc (.cells #[.bool false] 4)) (w.heap.size + 1) false := heap_alloc2_new _ _ _
  have ok1 := ok0.below hb
  have c1 := ok1.c
  have f1 := ok1.f
  have HF := Lib.hid ((below2 w (.cells #[.string s, .int .i64 N] 77) (.cells #[.bool false] 4)).trans (hb.mono (by simp; omega)))
  clear ok0 ok1 hb
  go_wp2_with fail
  have c2 : (w1.setCell ⟨w.heap.size + 1, 0, none⟩ (.bool false)).cell? ⟨w.heap.size + 1, 0, none⟩ = some (.bool false) := World.cell?_setCell_same' _ _ _ (by rw [c1]; rfl)
  have HF2 := Below.setCell HF.out (show w.heap.size ≤ (⟨w.heap.size + 1, 0, none⟩ : Addr).block by simp) (.bool false)
  simp [bodyPostD, Leaves, results, Tryd.results58, go_sem, c2]
  exact ⟨rfl, HF2⟩

set_option maxRecDepth 100000 in
set_option maxHeartbeats 1000000 in
theorem readFrom4_go (s : ByteArray) (n p b : Nat) (R : List Nat → Option (List (Int × Int))) (w : World) (hs : s.size ≤ maxLen) (h : hasB s (n : Int) (p : Int) 0 = true) (hpn : p ≤ n) (hs2 : s.size ≤ 2500) (hok : okB s (n : Int) = true) (hN : n ≤ 20000)
    (hread : ∀ (ws : List Nat) (g : Nat) (W : World), Below w.heap.size w W → w.heap.size ≤ g → BM.WordsF ws (fun j => decide (j < 8 * s.size) && BM.bitAt s.data.toList j) → RK W g ws (n : Int) (p : Int) → RdW ws n → Calls Tryd.prog 59 #[.pointer (some ⟨g, 0, none⟩), .pointer (some ⟨b, 0, none⟩)] W (PtsOut g ws n (R ws) W)) :
    Calls Tryd.prog 58 #[.agg #[.string s, .int .i64 (n : Int)], .int .i64 (p : Int), .func (.func 59) #[] #[.pointer (some ⟨b, 0, none⟩)]] w fun e w' => (∃ ws, BM.WordsF ws (fun j => decide (j < 8 * s.size) && BM.bitAt s.data.toList j) ∧ RdW ws n ∧ PReadOut (R ws) w e w') ∧ Below w.heap.size w w' := by
  have Hok := Lib.hid hok
  clear hok
  have H := Lib.hid (fun W => hasBits_any s (n : Int) (p : Int) 0 W hs (by omega))
  rw [h] at H
  clear h
  have HRd := Lib.hid hread
  have hU := Lib.hid (fun W => unpacked_any s (n : Int) W hs2)
  go_enter_defers Tryd.func58, Tryd.ntmps58
  go_wp2_with fail
  refine (H.out _).mono ?_
  rintro e w1 ⟨rfl, hb⟩
  have ok0 : OkB ((w.alloc (.cells #[.string s, .int .i64 (n : Int)] 77)).alloc (.cells #[.bool false] 4)) (w.heap.size + 1) false := heap_alloc2_new _ _ _
  have rs0 : ((w.alloc (.cells #[.string s, .int .i64 (n : Int)] 77)).alloc (.cells #[.bool false] 4)).heap[w.heap.size]? = some (.cells #[.string s, .int .i64 (n : Int)] 77 (0, 0)) := heap_alloc2_old _ _ _
  have rs1 : w1.heap[w.heap.size]? = some (.cells #[.string s, .int .i64 (n : Int)] 77 (0, 0)) := (hb.block _ (by simp; omega)).trans rs0
  have b0 : w1.cell? ⟨w.heap.size, 0, none⟩ = some (.string s) := by rw [cell_of_row w1 _ 0 _ _ _ rs1]; rfl
  have b1 : w1.cell? ⟨w.heap.size, 1, none⟩ = some (.int .i64 (n : Int)) := by rw [cell_of_row w1 _ 1 _ _ _ rs1]; rfl
  have OK := Lib.hid (ok0.below hb)
  have HF := Lib.hid ((below2 w (.cells #[.string s, .int .i64 (n : Int)] 77) (.cells #[.bool false] 4)).trans (hb.mono (by simp; omega)))
  have hsz : w.heap.size + 2 ≤ w1.heap.size := by have := hb.size; simpa using this
  clear ok0 hb rs0 rs1 hread
  go_wp2_with fail
  refine (hU.out _).mono ?_
  rintro e w2 ⟨ws, rfl, hws, hb2⟩
  have HF2 := Lib.hid (HF.out.trans (hb2.mono (by omega)))
  have OK2 := Lib.hid (OK.out.below hb2)
  have HW := Lib.hid (rdW_of Hok.out hws hN)
  have hl := hws.1
  have HWS := Lib.hid hws
  have hsz2 : w1.heap.size ≤ w2.heap.size := hb2.size
  have ra : (w2.alloc (.cells (rdCells zeroWs 0 0) 116)).heap[w2.heap.size]? = some (.cells (rdCells zeroWs 0 0) 116 (0, 0)) := heap_alloc_new w2 _
  have RA := Lib.hid ra
  clear hb2 hws b0 b1 ra
  go_wp2_with (first
    | (with_reducible refine wl_alloc_rd ?_)
    | (with_reducible refine wl_build_rd _ _ ws (n : Int) (p : Int) hl ?b1 ?b2 ?_)
    | (with_reducible refine wl_store_rd _ _ ?gg w2.heap.size ws (n : Int) (p : Int) (rdCells zeroWs 0 0) ?hb ?ho hl ?hx ?hg ?hy ?_))
  case b1 => rfl
  case b2 => rfl
  case hb => exact RA.out
  case ho => exact rdCells_size zeroWs_len
  case hx => rfl
  case hg => rfl
  case hy => rfl
  have hk : RK ((w2.alloc (.cells (rdCells zeroWs 0 0) 116)).setRow w2.heap.size (rdCells ws (n : Int) (p : Int))) w2.heap.size ws (n : Int) (p : Int) := setRow_heap _ _ _ _ _ _ RA.out
  have hb3 : Below w2.heap.size w2 ((w2.alloc (.cells (rdCells zeroWs 0 0) 116)).setRow w2.heap.size (rdCells ws (n : Int) (p : Int))) := ((Below.refl w2.heap.size w2).alloc (Nat.le_refl _) _).trans ⟨rfl, rfl, rfl, by simp, fun k hk => setRow_other _ _ _ _ (by omega)⟩
  generalize ((w2.alloc (.cells (rdCells zeroWs 0 0) 116)).setRow w2.heap.size (rdCells ws (n : Int) (p : Int))) = wa at *
  have hba : Below w.heap.size w wa := HF2.out.trans (hb3.mono (by omega))
  have hza := hb3.size
  refine (HRd.out ws w2.heap.size wa hba (by omega) HWS.out hk HW.out).mono ?_
  intro e w3 h3
  have OKa := OK2.out.below hb3
  cases hr : R ws with
  | none =>
    rw [hr] at h3
    obtain ⟨hg3, u, pv, rfl⟩ := h3
    have ok3 := OKa.grown hg3 (by omega)
    have c3 := ok3.c
    have f3 := ok3.f
    have HB := Lib.hid (grown_below (m := w.heap.size) hba hg3 (by omega) (by omega))
    have hre := Lib.hid hr
    clear ok3 hg3 hba hb3 OKa hk
    refine leaves_cons (f := 89) (args := #[.pointer (some ⟨w.heap.size + 1, 0, none⟩)]) (by simp) (by simp [go_sem]) ?_
    refine (catch4_panicking ⟨w.heap.size + 1, 0, none⟩ false u pv [] _ c3 f3).mono ?_
    rintro e u' w'' ⟨rfl, rfl, rfl⟩
    have c4 : (w3.setCell ⟨w.heap.size + 1, 0, none⟩ (.bool false)).cell? ⟨w.heap.size + 1, 0, none⟩ = some (.bool false) := World.cell?_setCell_same' _ _ _ (by rw [c3]; rfl)
    have HB2 := Below.setCell HB.out (show w.heap.size ≤ (⟨w.heap.size + 1, 0, none⟩ : Addr).block by simp) (.bool false)
    simp only [Leaves, settle, List.all_cons, List.all_nil]
    simp [Leaves, results, Tryd.results58, go_sem, c4]
    exact ⟨⟨ws, HWS.out, HW.out, by rw [hre.out]; rfl⟩, HB2⟩
  | some xs =>
    rw [hr] at h3
    obtain ⟨hg3, v3, rfl, hown3, ⟨q, hk3⟩, hrng, hl3⟩ := h3
    have ok3 := OKa.grown hg3 (by omega)
    have c3 := ok3.c
    have f3 := ok3.f
    have ca := hk3.at' hl
    have HB := Lib.hid (grown_below (m := w.heap.size) hba hg3 (by omega) (by omega))
    have HR := Lib.hid hr
    have HRn := Lib.hid hrng
    have HO3 := Lib.hid (u_ownsRow_base hown3 (Nat.le_refl _))
    have hwa : w2.heap.size < wa.heap.size := hk.lt
    clear ok3 hg3 hba hb3 OKa hk hk3 hr hrng hown3
    go_wp2_with fail
    go_still_tail 5, (by kernel_rfl)
    change wpList _ _ _ _ _ w3.drew
    have c4 : w3.drew.cell? ⟨w.heap.size + 1, 0, none⟩ = some (.bool false) := c3
    have f4 : w3.drew.frozen? ⟨w.heap.size + 1, 0, none⟩ = false := f3
    have HO4 : Hid (w3.drew.ownsRow wa.heap.size 41 2 v3 xs.length (prs xs)) := Lib.hid HO3.out
    have HB4 : Hid (Below w.heap.size w w3.drew) := Lib.hid (by obtain ⟨h1, h2, h3, h4, h5⟩ := HB.out; exact ⟨h1, h2, h3, h4, h5⟩)
    generalize w3.drew = w4 at *
    go_wp2_with fail
    have c5 : (w4.setCell ⟨w.heap.size + 1, 0, none⟩ (.bool true)).cell? ⟨w.heap.size + 1, 0, none⟩ = some (.bool true) := World.cell?_setCell_same' _ _ _ (by rw [c4]; rfl)
    have HO5 := Lib.hid (own_setCell HO4.out (i := 0) (u := .bool true) (show w.heap.size + 1 < wa.heap.size by omega))
    have HB5 := Below.setCell HB4.out (show w.heap.size ≤ (⟨w.heap.size + 1, 0, none⟩ : Addr).block by simp) (.bool true)
    generalize (w4.setCell ⟨w.heap.size + 1, 0, none⟩ (.bool true)) = w5 at *
    refine leaves_cons (f := 89) (args := #[.pointer (some ⟨w.heap.size + 1, 0, none⟩)]) (by simp) (by simp [go_sem]) ?_
    refine (catch4_idle ⟨w.heap.size + 1, 0, none⟩ _).mono ?_
    rintro e u' w'' ⟨rfl, rfl, rfl⟩
    simp only [Leaves, settle]
    simp [Leaves, results, Tryd.results58, go_sem, c5]
    exact ⟨⟨ws, HWS.out, HW.out, by rw [HR.out]; exact ⟨_, _, rfl, u_ownsRow_base HO5.out (by omega), HRn.out, hl3⟩⟩, HB5⟩
set_option maxRecDepth 100000 in
set_option maxHeartbeats 1000000 in
theorem points1_any (g b : Nat) (ws : List Nat) (N p n : Nat) (s : ByteArray) (w : World) (hb : KB w b (n : Int) s) (h : RK w g ws (N : Int) (p : Int)) (hp0 : p = 0) (hw : RdW ws N) (h1 : 1 ≤ n) (hn : n ≤ 120) (hT : ∀ W, w.grownBy W (some g) → Tab W) (L : List Bool) (hL : BM.Words ws L) (hLN : L.length = N) :
    Calls Tryd.prog 59 #[.pointer (some ⟨g, 0, none⟩), .pointer (some ⟨b, 0, none⟩)] w (PtsOut g ws N (ptsI L s n) w) := by
  have T := Lib.hid (points_any g ws N p n s w h hp0 hw h1 hn hT L hL hLN)
  have b0 := hb.c0
  have b1 := hb.c1
  clear h hw hT hb
  generalize ptsI L s n = r at *
  go_enter Tryd.func59, Tryd.ntmps59
  go_wp2_with fail
  refine T.out.mono ?_
  rintro e w' h
  cases r with
  | none =>
    obtain ⟨hg, u, pv, rfl⟩ := h
    go_wp2_with fail
    exact ⟨rfl, hg, ⟨_, _, rfl⟩⟩
  | some xs =>
    obtain ⟨hg, v, rfl, hr⟩ := h
    clear b0 b1
    go_wp2_with fail
    go_ret
    exact ⟨hg, v, rfl, hr⟩
/-- readFrom with the reader of points -/
theorem readFrom4_any (s : ByteArray) (n b : Nat) (w : World) (hs : s.size ≤ maxLen) (h1 : 1 ≤ n) (hn : n ≤ 120) (hb : KB w b (n : Int) s) (hT : Tab w) :
    Calls Tryd.prog 58 #[.agg #[.string s, .int .i64 ((8 * s.size : Nat) : Int)], .int .i64 0, .func (.func 59) #[] #[.pointer (some ⟨b, 0, none⟩)]] w fun e w' => PReadOut (ptsB s (n : Int)) w e w' ∧ Below w.heap.size w w' := by
  have hsm := hs
  unfold ptsB
  by_cases h : s.size ≤ 2500
  · rw [if_pos ⟨by omega, h⟩]
    have hok := allL_ok h
    have hB : hasB s ((8 * s.size : Nat) : Int) ((0 : Nat) : Int) 0 = true := by
      unfold hasB; rw [hok, Bool.true_and]; apply decide_eq_true; omega
    obtain ⟨L, hL⟩ : ∃ L, L = allL s := ⟨_, rfl⟩
    have hLl : L.length = 8 * s.size := by rw [hL]; exact allL_len s
    refine (readFrom4_go s (8 * s.size) 0 b (fun ws => ptsI L s n) w hsm hB (by omega) (by omega) hok (by omega) (fun ws g W hBw hgg hws hK hw =>
      points1_any g b ws (8 * s.size) 0 n s W (hb.below hBw hb.lt) hK rfl hw h1 hn (fun W' k => tab_rd hT hBw hgg k) L (by rw [hL]; exact ok_words hok hws) hLl)).mono ?_
    rintro e w' ⟨⟨ws, hws, hrw, ho⟩, hb⟩
    rw [Int.toNat_natCast, ← hL]
    have e1 : ptsI L s n = ptsL L s n := by rw [hL]; exact ptsI_eq h1 hn
    rw [e1] at ho
    exact ⟨ho, hb⟩
  · rw [if_neg (fun hh => h hh.2)]
    have hB : hasB s ((8 * s.size : Nat) : Int) 0 0 = false := by
      unfold hasB okB
      rw [decide_eq_false (by omega), Bool.false_and]
    exact (readFrom4_bad s _ 0 _ w hsm hB rfl).mono fun e w' h => ⟨h.1, h.2⟩
/-- points and a flag -/
def POutF (xs : List (Int × Int)) (b : Bool) (w : World) (e : Ending) (w' : World) : Prop :=
  ∃ v, e = .returned (.tuple #[v, .bool b]) ∧ w'.ownsRow w.heap.size 41 2 v xs.length (prs xs) ∧ Below w.heap.size w w'
def ptsX (r : Option (List (Int × Int))) : List (Int × Int) := match r with | some xs => xs | none => []
def ptsF (r : Option (List (Int × Int))) : Bool := match r with | some _ => true | none => false
theorem pts_ok (s : ByteArray) (n : Int) : (∀ j, Rng ((ptsX (ptsB s n)).getD j (0, 0)).1 ∧ Rng ((ptsX (ptsB s n)).getD j (0, 0)).2) ∧ (ptsX (ptsB s n)).length ≤ 120 := by
  cases h : ptsB s n with
  | none => exact ⟨fun j => ⟨by simpa [ptsX] using rng_zero, by simpa [ptsX] using rng_zero⟩, by simp [ptsX]⟩
  | some xs =>
    obtain ⟨_, _, _, _, h5, h6⟩ := ptsB_some h
    exact ⟨h6, h5⟩
set_option maxRecDepth 100000 in
set_option maxHeartbeats 1000000 in
theorem implPointsOf_any (n : Int) (s : ByteArray) (w : World) (hs : s.size ≤ 1000000000000) (hT : Tab w) :
    Calls Tryd.prog 25 #[.agg #[.int .i64 n, .string s]] w (POutF (ptsX (ptsB s n)) (ptsF (ptsB s n)) w) := by
  have hB0 := Lib.hid (below1 w (.cells #[.int .i64 n, .string s] 36))
  by_cases hn : 1 ≤ n ∧ n ≤ 120
  · obtain ⟨h0, h1⟩ := hn
    obtain ⟨m, rfl⟩ : ∃ m : Nat, n = (m : Int) := ⟨n.toNat, by omega⟩
    have hK : KB ((w.alloc (.cells #[.int .i64 (m : Int), .string s] 36)).alloc (.cells #[.string s, .int .i64 ((8 * s.size : Nat) : Int)] 77)) w.heap.size (m : Int) s :=
      (KB.new w (m : Int) s).below (below1 _ _) (by simp)
    have hB2 := below2 w (.cells #[.int .i64 (m : Int), .string s] 36) (.cells #[.string s, .int .i64 ((8 * s.size : Nat) : Int)] 77)
    have R1 := Lib.hid (readFrom4_any s m w.heap.size _ (by unfold maxLen; omega) (by omega) (by omega) hK (hT.below hB2))
    have HB2 := Lib.hid hB2
    have e8 : (8 * (s.size : Int)) = ((8 * s.size : Nat) : Int) := by omega
    have e9 : wrap64 (8 * (s.size : Int)) = ((8 * s.size : Nat) : Int) := by unfold wrap64; omega
    generalize ptsB s (m : Int) = r at *
    have E8 := Lib.hid e8
    clear hK hB2 e8
    go_enter Tryd.func25, Tryd.ntmps25
    go_wp2_with fail
    refine R1.out.mono ?_
    rintro e w2 ⟨ho, hb⟩
    have hb2 := HB2.out.trans (hb.mono (by simp; omega))
    have hz : w.heap.size ≤ ((w.alloc (.cells #[.int .i64 (m : Int), .string s] 36)).alloc (.cells #[.string s, .int .i64 ((8 * s.size : Nat) : Int)] 77)).heap.size := by simp; omega
    clear hb
    cases r with
    | none =>
      unfold PReadOut at ho
      subst ho
      go_wp2_with fail
      go_ret2
      exact ⟨_, rfl, World.ownsRow_nil _ _ _ _, hb2⟩
    | some xs =>
      obtain ⟨v, q, rfl, ho3, _⟩ := ho
      have HO := Lib.hid (u_ownsRow_base ho3 hz)
      clear ho3 hz
      go_wp2_with fail
      go_ret2
      exact ⟨_, rfl, HO.out, hb2⟩
  · have e : ptsB s n = none := by unfold ptsB; rw [if_neg (fun h => hn h.1)]
    rw [e]
    by_cases h0 : n < 1
    · go_enter Tryd.func25, Tryd.ntmps25
      go_wp2_with fail
      go_ret2
      exact ⟨_, rfl, World.ownsRow_nil _ _ _ _, hB0.out⟩
    · have h1 : (120 : Int) < n := by omega
      go_enter Tryd.func25, Tryd.ntmps25
      go_wp2_with fail
      go_ret2
      exact ⟨_, rfl, World.ownsRow_nil _ _ _ _, hB0.out⟩
end Go.Proofs.YtanoohfhifhhaaaDoor

/- Walks: the document's PointsOf. -/
set_option linter.unusedVariables false
set_option linter.unusedSimpArgs false
namespace Go.Proofs.YtanoohfhifhhaaaDoor
open Go.RowKit

theorem back3_any (s : ByteArray) (m : Nat) (w : World) (hs : s.size ≤ 2500) (hm : m ≤ 120) (L : List Bool) (hL : allL s = L) :
    Calls Tryd.prog 86 #[.agg #[.string s, .int .i64 ((8 * s.size : Nat) : Int)], .int .i64 0, .int .i64 (m : Int)] w fun e w' =>
      ∃ (v : Value) (q : Nat) (f : Bool), e = .returned (.tuple #[v, .int .i64 (q : Int), .bool f]) ∧ q ≤ 8 * s.size ∧ (f = false → timesB L m 0 = none) ∧ (f = true → ∃ ts, timesB L m 0 = some (ts, q) ∧ ts.length = m ∧ (∀ j, Rng (ts.getD j 0)) ∧ w'.ownsRow w.heap.size 2 1 v ts.length (ints ts)) ∧ Below w.heap.size w w' := by
  have hlen : L.length = 8 * s.size := by rw [← hL]; exact allL_len s
  refine (show Calls _ _ _ _ _ from l3Back_any s (8 * s.size) 0 m w (by unfold maxLen; omega) (by omega) (Nat.le_refl _) (Nat.zero_le _) hm L hL).mono ?_
  rintro e w' ⟨ho, hb⟩
  cases hr : timesG (fL L) (getL L) m 0 with
  | none =>
    rw [hr] at ho
    exact ⟨_, 0, false, ho, by omega, fun _ => by unfold timesB timesFin; rw [hr], (fun h => by cases h), hb⟩
  | some a =>
    obtain ⟨ts, q⟩ := a
    rw [hr] at ho
    obtain ⟨v, he, hown⟩ := ho
    have T := timesG_ok (rdOk_L L) (p := 0) (Nat.zero_le _) m ts q hm hr
    refine ⟨v, q, timesOkB ts, he, by have := T.qN; omega, fun h => by unfold timesB timesFin; rw [hr]; simp only; rw [if_neg (by rw [h]; simp)], fun h => ⟨ts, by unfold timesB timesFin; rw [hr]; simp only; rw [if_pos h], T.len, T.rng, hown⟩, hb⟩
theorem back4_any (s : ByteArray) (m q : Nat) (w : World) (hs : s.size ≤ 2500) (hq : q ≤ 8 * s.size) (hm : m ≤ 120) (L : List Bool) (hL : allL s = L) :
    Calls Tryd.prog 87 #[.agg #[.string s, .int .i64 ((8 * s.size : Nat) : Int)], .int .i64 (q : Int), .int .i64 (m : Int)] w fun e w' =>
      ∃ (v : Value) (p : Int) (f : Bool), e = .returned (.tuple #[v, .int .i64 p, .bool f]) ∧ (f = false → valG L m q = none) ∧ (f = true → ∃ vs q2 l t, valG L m q = some (vs, q2, l, t) ∧ vs.length = m ∧ (∀ j, Rng (vs.getD j 0)) ∧ w'.ownsRow w.heap.size 2 1 v vs.length (ints vs)) ∧ Below w.heap.size w w' := by
  have hlen : L.length = 8 * s.size := by rw [← hL]; exact allL_len s
  refine (l4Back_any s (8 * s.size) q m w (by unfold maxLen; omega) (by omega) (Nat.le_refl _) hq hm L hL).mono ?_
  rintro e w' ⟨ho, hb⟩
  cases hr : valG L m q with
  | none =>
    rw [hr] at ho
    exact ⟨_, 0, false, ho, fun _ => rfl, (fun h => by cases h), hb⟩
  | some a =>
    obtain ⟨vs, q2, l, t⟩ := a
    rw [hr] at ho
    obtain ⟨v, he, hown⟩ := ho
    have T := valG_ok (by omega) hr
    exact ⟨v, _, true, he, (fun h => by cases h), fun _ => ⟨vs, q2, l, t, rfl, T.1, T.2.1, hown⟩, hb⟩
theorem zip_take (xs : List (Int × Int)) (k : Nat) (x y : Int) (hk : k < xs.length) (h : xs.getD k (0, 0) = (x, y)) : xs.take (k + 1) = xs.take k ++ [(x, y)] := by
  rw [List.take_add_one, List.getElem?_eq_getElem hk]
  rw [List.getD_eq_getElem?_getD, List.getElem?_eq_getElem hk] at h
  simp only [Option.getD_some] at h
  simp [h]
theorem cells_pair (w : World) (a b : Value) (t : TypeId) : ∀ j u, ([a, b] : List Value)[j]? = some u → (w.alloc (.cells #[a, b] t)).cell? ((⟨w.heap.size, 0, none⟩ : Addr).add j) = some u := by
  intro j u hj
  rw [Addr.add_lit]
  rcases j with _ | _ | j
  · simp at hj; subst hj; go_simp
  · simp at hj; subst hj; go_simp
  · simp at hj
theorem prs_one (a b : Int) : prs [(a, b)] = [.int .i64 a, .int .i64 b] := rfl
theorem bits_box {w : World} {B : Nat} {s : ByteArray} {N : Int} (h : RB w B s N) : w.cell? ⟨B, 0, none⟩ = some (.string s) ∧ w.cell? ⟨B, 1, none⟩ = some (.int .i64 N) := ⟨h.c0, h.c1⟩

set_option maxRecDepth 100000 in
set_option maxHeartbeats 4000000 in
theorem specPointsOf_any (n : Int) (s : ByteArray) (w : World) (hs : s.size ≤ maxLen) :
    Calls Tryd.prog 57 #[.agg #[.int .i64 n, .string s]] w (POutF (ptsX (ptsB s n)) (ptsF (ptsB s n)) w) := by
  have hB0 := Lib.hid (below1 w (.cells #[.int .i64 n, .string s] 36))
  have hI := Lib.hid (fun W => l1In_any n 1 120 W)
  by_cases hn : 1 ≤ n ∧ n ≤ 120
  · have hJ := hI.out
    rw [inB_true hn.1 hn.2] at hJ
    have HI := Lib.hid hJ
    clear hJ hI
    by_cases h25 : s.size ≤ 2500
    · have h25i : ¬ (2500 : Int) < s.size := by omega
      obtain ⟨h0, h1⟩ := hn
      obtain ⟨m, rfl⟩ : ∃ m : Nat, n = (m : Int) := ⟨n.toNat, by omega⟩
      obtain ⟨L, hL⟩ : ∃ L, allL s = L := ⟨_, rfl⟩
      have hE : ptsB s (m : Int) = ptsL L s m := by unfold ptsB; rw [if_pos ⟨⟨h0, h1⟩, h25⟩, hL, Int.toNat_natCast]
      rw [hE]
      have H3 := Lib.hid (fun W => back3_any s m W h25 (by omega) L hL)
      have H4 := Lib.hid (fun q W hq => back4_any s m q W h25 hq (by omega) L hL)
      have HB := Lib.hid (fun v xs W h => specBlockOf_any v xs W h)
      have P0 := Lib.hid (show timesB L m 0 = none → ptsL L s m = none from fun h => by unfold ptsL; rw [h])
      have P1 := Lib.hid (show ∀ ts q, timesB L m 0 = some (ts, q) → valG L m q = none → ptsL L s m = none from fun ts q h h2 => by unfold ptsL; rw [h]; simp only; rw [h2])
      have P2 := Lib.hid (show ∀ ts q vs q2 l t, timesB L m 0 = some (ts, q) → valG L m q = some (vs, q2, l, t) → ptsL L s m = ptsZ s (m : Int) (ts.zip vs) from fun ts q vs q2 l t h h2 => by unfold ptsL; rw [h]; simp only; rw [h2])
      have e9 : wrap64 (8 * (s.size : Int)) = ((8 * s.size : Nat) : Int) := by unfold wrap64; omega
      have HK0 := Lib.hid ((KB.new w (m : Int) s).below (below1 _ (.cells #[.string s, .int .i64 ((8 * s.size : Nat) : Int)] 77)) (by simp))
      have HR0 := Lib.hid (gd_RB_new (w.alloc (.cells #[.int .i64 (m : Int), .string s] 36)) s ((8 * s.size : Nat) : Int))
      have HB2 := Lib.hid (below2 w (.cells #[.int .i64 (m : Int), .string s] 36) (.cells #[.string s, .int .i64 ((8 * s.size : Nat) : Int)] 77))
      have hz0 : (w.alloc (.cells #[.int .i64 (m : Int), .string s] 36)).heap.size = w.heap.size + 1 := by simp
      rw [hz0] at HR0
      obtain ⟨i0, hi, hzz0, hzz1, hzz2⟩ := info_parts info_pt
      clear hL hE h25 hz0
      go_enter Tryd.func57, Tryd.ntmps57
      go_wp2_with fail
      refine (HI.out _).mono ?_
      rintro e w2 ⟨rfl, rfl⟩
      go_wp2_with fail
      refine (H3.out _).mono ?_
      rintro e w3 ⟨v1, q, f1, rfl, hq, hf0, hf1, hb3⟩
      have K3 := Lib.hid (HK0.out.below hb3 (by simp; omega))
      have R3 := Lib.hid (HR0.out.below hb3)
      have F3 := Lib.hid (HB2.out.trans (hb3.mono (by simp; omega)))
      have x0 := K3.out.c0
      have r0 := R3.out.c0
      have r1 := R3.out.c1
      clear hb3
      go_wp2_with fail
      refine (H4.out q _ hq).mono ?_
      rintro e w4 ⟨v2, p2, f2, rfl, hg0, hg1, hb4⟩
      have K4 := Lib.hid (K3.out.below hb4 K3.out.lt)
      have F4 := Lib.hid (F3.out.trans (hb4.mono F3.out.size))
      have HB4 := Lib.hid hb4
      clear hb4 x0 r0 r1 R3
      cases f1 with
      | false =>
        have E := Lib.hid (P0.out (hf0 rfl))
        clear hf0 hf1 hg0 hg1
        go_wp2_with fail
        go_ret2
        rw [E.out]
        exact ⟨_, rfl, World.ownsRow_nil _ _ _ _, F4.out⟩
      | true =>
        obtain ⟨ts, hts, hlt, hrt, ho1⟩ := hf1 rfl
        cases f2 with
        | false =>
          have E := Lib.hid (P1.out ts q hts (hg0 rfl))
          clear hf0 hf1 hg0 hg1 hts ho1 hlt hrt
          go_wp2_with fail
          go_ret2
          rw [E.out]
          exact ⟨_, rfl, World.ownsRow_nil _ _ _ _, F4.out⟩
        | true =>
          obtain ⟨vs, q2, l, t, hvs, hlv, hrv, ho2⟩ := hg1 rfl
          have E := Lib.hid (P2.out ts q vs q2 l t hts hvs)
          have I1 := (IL.of_own ho1 rfl hrt (by omega)).below HB4.out
          have I2 := IL.of_own ho2 rfl hrv (by omega)
          have HRz := Lib.hid (zip_rng (show ts.length = vs.length by omega) hrt hrv)
          have HZl := Lib.hid (zip_len ts vs (by omega))
          obtain ⟨_, _, At, ct, rfl, ht3⟩ := I1
          obtain ⟨_, _, Av, cv, rfl, hv3⟩ := I2
          obtain ⟨bt, ot, rfl, hbt, hct⟩ : ∃ b off, At = some ⟨b, off, none⟩ ∧ b < w4.heap.size ∧ ∀ j, j < ts.length → w4.cell? ⟨b, off + j, none⟩ = some (.int .i64 (ts.getD j 0)) := by
            rcases ht3 with h9 | ⟨b, off, h9, h8, h7⟩
            · rw [h9] at hlt; simp at hlt; omega
            · exact ⟨b, off, h9, Nat.lt_of_lt_of_le h8 HB4.out.size, h7⟩
          obtain ⟨bv, ov, rfl, hbv, hcv⟩ : ∃ b off, Av = some ⟨b, off, none⟩ ∧ b < w4.heap.size ∧ ∀ j, j < vs.length → w4.cell? ⟨b, off + j, none⟩ = some (.int .i64 (vs.getD j 0)) := by
            rcases hv3 with h9 | h9
            · rw [h9] at hlv; simp at hlv; omega
            · exact h9
          rw [hlt] at hct
          rw [hlv] at hcv
          have HCt := Lib.hid hct
          have HCv := Lib.hid hcv
          have HLt := Lib.hid hlt
          have HLv := Lib.hid hlv
          rw [hlt, hlv]
          have hown0 : (w4.alloc (.cells #[] 41)).ownsRow w4.heap.size 41 2 (.slice (some ⟨w4.heap.size, 0, none⟩) 0 0) 0 (prs ((ts.zip vs).take 0)) := by
            have h9 := World.ownsRow_made w4 (base := w4.heap.size) (e := 41) (size := 2) #[] 0 (Nat.le_refl _) (by simp [maxLen]) rfl
            simpa [prs] using h9
          have H0 := Lib.hid hown0
          have HBa := Lib.hid (below1 w4 (.cells #[] 41))
          clear hown0 hf0 hf1 hg0 hg1 hts hvs ho1 ho2 hct hcv ht3 hv3 hlt hlv hrt hrv
          go_wp2_with fail
          go_loopw [11, 12] (fun u i wr => ∃ k : Nat, k ≤ m ∧ i = .int .i64 (k : Int) ∧ wr.ownsRow w4.heap.size 41 2 u k (prs ((ts.zip vs).take k)) ∧ Below w4.heap.size w4 wr)
            (fun _ i _ => m - (intOf i).toNat)
          case atStart => exact ⟨0, Nat.zero_le _, by simp, H0.out, HBa.out⟩
          case round =>
            clear H0 HBa
            obtain ⟨k, hk, rfl, hown, hb⟩ := hrel
            have Hb := Lib.hid hb
            have hzb := hb.size
            have HO := Lib.hid hown
            by_cases hkm : k < m
            · have hx : wr.cell? ⟨bt, ot + k, none⟩ = some (.int .i64 (ts.getD k 0)) := (hb.cell (p := ⟨bt, ot + k, none⟩) hbt).trans (HCt.out k hkm)
              have hy : wr.cell? ⟨bv, ov + k, none⟩ = some (.int .i64 (vs.getD k 0)) := (hb.cell (p := ⟨bv, ov + k, none⟩) hbv).trans (HCv.out k hkm)
              obtain ⟨x, hX⟩ : ∃ x, ts.getD k 0 = x := ⟨_, rfl⟩
              obtain ⟨y, hY⟩ : ∃ y, vs.getD k 0 = y := ⟨_, rfl⟩
              have HTk := Lib.hid (zip_take (ts.zip vs) k x y (by have h1 := HZl.out; have h2 := HLt.out; omega) (by rw [zip_getD ts vs k (by have h2 := HLt.out; omega) (by have h2 := HLv.out; omega), hX, hY]))
              rw [hX] at hx
              rw [hY] at hy
              clear hX hY hown hb
              go_wp2_with fail
              have hbt2 : bt < wr.heap.size := by omega
              have hbv2 : bv < wr.heap.size := by omega
              have hS0 : (fun W : World => W.cell? ⟨bt, ot + k, none⟩ = some (.int .i64 x) ∧ W.cell? ⟨bv, ov + k, none⟩ = some (.int .i64 y)) wr.drew := ⟨hx, hy⟩
              refine wp_region_held_drew (S := fun W : World => W.cell? ⟨bt, ot + k, none⟩ = some (.int .i64 x) ∧ W.cell? ⟨bv, ov + k, none⟩ = some (.int .i64 y)) (by kernel_rfl) hS0 ?_
              intro _
              refine wpAnyH_take (i := 0) (v := u11) rfl (by kernel_rfl) (by kernel_rfl) (by kernel_rfl) (fun _ _ _ h => h) (Or.inl ⟨by kernel_rfl, ?t0⟩) (by assumption) ?_
              case t0 =>
                intro W hW
                clear hW
                go_simp
              refine wpAnyH_take (i := 1) (v := .slice (some ⟨bt, ot, none⟩) m ct) rfl (by kernel_rfl) (by kernel_rfl) (by kernel_rfl) (fun _ _ _ h => h) (Or.inl ⟨by kernel_rfl, ?t1⟩) (by assumption) ?_
              case t1 =>
                intro W hW
                clear hW
                go_simp
              refine wpAnyH_take (i := 2) (v := .int .i64 (k : Int)) rfl (by kernel_rfl) (by kernel_rfl) (by kernel_rfl) (fun _ _ _ h => h) (Or.inl ⟨by kernel_rfl, ?t2⟩) (by assumption) ?_
              case t2 =>
                intro W hW
                clear hW
                go_simp
              refine wpAnyH_take (i := 3) (v := .pointer (some ⟨bt, ot + k, none⟩)) rfl (by kernel_rfl) (by kernel_rfl) (by kernel_rfl) (fun _ _ _ h => h) (Or.inl ⟨by kernel_rfl, ?t3⟩) (by assumption) ?_
              case t3 =>
                intro W hW
                clear hW
                go_simp
              refine wpAnyH_take (i := 4) (v := .int .i64 x) rfl (by kernel_rfl) (by kernel_rfl) (by kernel_rfl) (fun _ _ _ h => h) (Or.inl ⟨by kernel_rfl, ?t4⟩) (by assumption) ?_
              case t4 =>
                intro W hW
                obtain ⟨z0, z1⟩ := hW
                go_simp
              refine wpAnyH_take (i := 5) (v := .slice (some ⟨bv, ov, none⟩) m cv) rfl (by kernel_rfl) (by kernel_rfl) (by kernel_rfl) (fun _ _ _ h => h) (Or.inl ⟨by kernel_rfl, ?t5⟩) (by assumption) ?_
              case t5 =>
                intro W hW
                clear hW
                go_simp
              refine wpAnyH_take (i := 6) (v := .int .i64 (k : Int)) rfl (by kernel_rfl) (by kernel_rfl) (by kernel_rfl) (fun _ _ _ h => h) (Or.inl ⟨by kernel_rfl, ?t6⟩) (by assumption) ?_
              case t6 =>
                intro W hW
                clear hW
                go_simp
              refine wpAnyH_take (i := 7) (v := .pointer (some ⟨bv, ov + k, none⟩)) rfl (by kernel_rfl) (by kernel_rfl) (by kernel_rfl) (fun _ _ _ h => h) (Or.inl ⟨by kernel_rfl, ?t7⟩) (by assumption) ?_
              case t7 =>
                intro W hW
                clear hW
                go_simp
              refine wpAnyH_take (i := 8) (v := .int .i64 y) rfl (by kernel_rfl) (by kernel_rfl) (by kernel_rfl) (fun _ _ _ h => h) (Or.inl ⟨by kernel_rfl, ?t8⟩) (by assumption) ?_
              case t8 =>
                intro W hW
                obtain ⟨z0, z1⟩ := hW
                go_simp
              refine wpAnyH_take (i := 9) (v := .agg #[.int .i64 x, .int .i64 y]) rfl (by kernel_rfl) (by kernel_rfl) (by kernel_rfl) (fun _ _ _ h => h) (Or.inl ⟨by kernel_rfl, ?t9⟩) (by assumption) ?_
              case t9 =>
                intro W hW
                clear hW
                go_simp
              refine wpAnyH_ready (rs := [10]) (by kernel_rfl) (by simp) ?_
              refine AllReadyH.cons rfl (fun K10 hK10 => ?_) AllReadyH.nil
              go_simp
              refine hK10.out _ _ (by exact ⟨(World.cell?_alloc_lt _ _ _ (by simpa using hbt2)).trans hx, (World.cell?_alloc_lt _ _ _ (by simpa using hbv2)).trans hy⟩) (fun _ => ?_)
              clear hK10 K10
              refine wpAnyH_ready (rs := [11]) (by kernel_rfl) (by simp) ?_
              refine AllReadyH.cons rfl (fun K11 hK11 => ?_) AllReadyH.nil
              refine step_append_ownQ _ rfl _ _ 24 rfl w4.heap.size 41 i0 (.agg #[.int .i64 0, .int .i64 0]) 2 16 Tryd.underlying24 hi hzz0 hzz1 hzz2 rfl (by decide) _ k (prs ((ts.zip vs).take k)) rfl ((show wr.drew.ownsRow w4.heap.size 41 2 u11 k (prs ((ts.zip vs).take k)) from HO.out).alloc _) ⟨wr.heap.size, 0, none⟩ 1 1 [.int .i64 x, .int .i64 y] rfl rfl (cells_pair wr.drew _ _ _) (by simp [Value.oneCell']) (by unfold maxLen; omega) (by omega) (by simp; omega) ?_
              intro v' w5 hown' hgrow _
              have hb5 : Below w4.heap.size w4 w5 := (Hb.out.drew.alloc (by simpa using hzb) _).grown hgrow (by simp; omega) (fun k hk => (HO.out.lt _ hk).1)
              have hown5 : w5.ownsRow w4.heap.size 41 2 v' (k + 1) (prs ((ts.zip vs).take (k + 1))) := by rw [HTk.out, prs_append]; exact hown'
              clear hown' hgrow
              have hS5 : w5.cell? ⟨bt, ot + k, none⟩ = some (.int .i64 x) ∧ w5.cell? ⟨bv, ov + k, none⟩ = some (.int .i64 y) := ⟨(hb5.cell (p := ⟨bt, ot + k, none⟩) hbt).trans ((Hb.out.cell (p := ⟨bt, ot + k, none⟩) hbt).symm.trans hx), (hb5.cell (p := ⟨bv, ov + k, none⟩) hbv).trans ((Hb.out.cell (p := ⟨bv, ov + k, none⟩) hbv).symm.trans hy)⟩
              refine hK11.out _ _ hS5 (fun _ => ?_)
              clear hK11 K11
              refine wpAnyH_ready (rs := [12]) (by kernel_rfl) (by simp) ?_
              refine AllReadyH.cons rfl (fun K12 hK12 => ?_) AllReadyH.nil
              go_simp
              refine hK12.out _ _ hS5 (fun _ => ?_)
              clear hK12 K12
              refine wpAnyH_done (by kernel_rfl) ?_ _
              have HB5 := Lib.hid hb5
              have HO5 := Lib.hid hown5
              clear hb5 hown5 hS5 hS0 hx hy
              go_wp2_with fail
              first
              | (go_roundw; (case rel => exact ⟨k + 1, by omega, by go_num, HO5.out, HB5.out⟩); (case measure => simp [intOf]; omega))
              | exact ⟨⟨k + 1, by omega, by go_num, HO5.out, HB5.out⟩, by simp [intOf]; omega⟩
            · obtain rfl : k = m := by omega
              have hzl : (ts.zip vs).length = k := by rw [HZl.out, HLt.out]
              rw [show (ts.zip vs).take k = ts.zip vs from by rw [← hzl, List.take_length]] at HO
              have HPL := Lib.hid (PL.of_own HO.out hzl.symm HRz.out (by omega))
              have HZL := Lib.hid hzl
              have KA := Lib.hid (K4.out.below hb K4.out.lt)
              have FA := Lib.hid (F4.out.trans (hb.mono F4.out.size))
              have zw : w.heap.size ≤ w4.heap.size := F4.out.size
              have HZd : Hid (ptsZ s (k : Int) (ts.zip vs) = if bkN (ts.zip vs) = (k : Int) ∧ bkD (ts.zip vs) = s then some (ts.zip vs) else none) := Lib.hid rfl
              have HBk := Lib.hid (HB.out _ (ts.zip vs) _ HPL.out)
              unfold BlkPost at HBk
              have HFB := Lib.hid (show bkB (ts.zip vs) = false → bkN (ts.zip vs) = 0 from fun h => by unfold bkN; rw [h]; rfl)
              clear hown hb hzl HCt HCv
              generalize ts.zip vs = xs at *
              generalize bkN xs = K at *
              generalize bkD xs = D at *
              generalize bkB xs = F at *
              go_wp2_with fail
              refine HBk.out.mono ?_
              rintro e w5 ⟨rfl, hb5⟩
              have KB5 := KA.out.below hb5 KA.out.lt
              have z5 := hb5.size
              have K6 := Lib.hid (KB5.below (below1 w5 (.cells #[.int .i64 K, .string D] 36)) KB5.lt)
              have B6 := Lib.hid (KB.new w5 K D)
              have F6 := Lib.hid (FA.out.trans ((hb5.trans ((below1 w5 (.cells #[.int .i64 K, .string D] 36)).mono z5)).mono FA.out.size))
              have O6 := Lib.hid (u_own_below HO.out (hb5.trans ((below1 w5 (.cells #[.int .i64 K, .string D] 36)).mono z5)))
              have x0 := K6.out.c0
              have x1 := K6.out.c1
              have y0 := B6.out.c0
              have y1 := B6.out.c1
              clear hb5 KB5
              cases F with
              | false =>
                have EZ := Lib.hid (show ptsZ s (k : Int) xs = none by rw [HZd.out, if_neg (fun h => by have := HFB.out rfl; omega)])
                clear HZd
                go_wp2_with fail
                go_ret2
                rw [E.out, EZ.out]
                exact ⟨_, rfl, World.ownsRow_nil _ _ _ _, F6.out⟩
              | true =>
                rcases blk_cases K (k : Int) D s with ⟨hN, hD⟩ | hN | ⟨hN, hD⟩
                · subst hN
                  subst hD
                  have EZ := Lib.hid (show ptsZ D (k : Int) xs = some xs by rw [HZd.out, if_pos ⟨rfl, rfl⟩])
                  clear HZd
                  go_wp2_with fail
                  go_ret2
                  rw [E.out, EZ.out]
                  exact ⟨_, rfl, by show World.ownsRow _ _ _ _ _ xs.length _; rw [HZL.out]; exact u_ownsRow_base O6.out zw, F6.out⟩
                · have EZ := Lib.hid (show ptsZ s (k : Int) xs = none by rw [HZd.out, if_neg (fun h => hN h.1)])
                  clear HZd
                  go_wp2_with fail
                  go_ret2
                  rw [E.out, EZ.out]
                  exact ⟨_, rfl, World.ownsRow_nil _ _ _ _, F6.out⟩
                · subst hN
                  have EZ := Lib.hid (show ptsZ s (k : Int) xs = none by rw [HZd.out, if_neg (fun h => hD (by rw [h.2]))])
                  clear HZd
                  go_wp2_with fail
                  go_ret2
                  rw [E.out, EZ.out]
                  exact ⟨_, rfl, World.ownsRow_nil _ _ _ _, F6.out⟩
    · have h25i : (2500 : Int) < s.size := by omega
      have E := Lib.hid (show ptsB s n = none by unfold ptsB; rw [if_neg (fun h => h25 h.2)])
      clear hn h25
      go_enter Tryd.func57, Tryd.ntmps57
      go_wp2_with fail
      refine (HI.out _).mono ?_
      rintro e w2 ⟨rfl, rfl⟩
      go_wp2_with fail
      go_ret2
      rw [E.out]
      exact ⟨_, rfl, World.ownsRow_nil _ _ _ _, hB0.out⟩
  · have E := Lib.hid (show ptsB s n = none by unfold ptsB; rw [if_neg (fun h => hn h.1)])
    have hJ := hI.out
    rw [inB_false hn] at hJ
    have HI := Lib.hid hJ
    clear hJ hI hn
    go_enter Tryd.func57, Tryd.ntmps57
    go_wp2_with fail
    refine (HI.out _).mono ?_
    rintro e w2 ⟨rfl, rfl⟩
    go_wp2_with fail
    go_ret2
    rw [E.out]
    exact ⟨_, rfl, World.ownsRow_nil _ _ _ _, hB0.out⟩
end Go.Proofs.YtanoohfhifhhaaaDoor
