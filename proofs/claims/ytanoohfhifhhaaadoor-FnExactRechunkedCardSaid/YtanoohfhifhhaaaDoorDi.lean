/- Walks: the program's reader of points. -/
import Derived.Test.YtanoohfhifhhaaaDoorDg
import Derived.Test.YtanoohfhifhhaaaDoorQr
import Derived.Test.YtanoohfhifhhaaaDoorSd
import Derived.Test.YtanoohfhifhhaaaDoorQs
set_option linter.unusedVariables false
set_option linter.unusedSimpArgs false
namespace Go.Proofs.YtanoohfhifhhaaaDoor
open Go.RowKit

/-- how the reader of points ends: with a row of its own, or with a panic of the text's own -/
def PtsOut (g : Nat) (ws : List Nat) (N : Nat) (r : Option (List (Int × Int))) (w : World) (e : Ending) (w' : World) : Prop :=
  w.grownBy w' (some g) ∧ match r with
    | some xs => ∃ v, e = .returned v ∧ w'.ownsRow w.heap.size 41 2 v xs.length (prs xs) ∧ (∃ q : Nat, RK w' g ws (N : Int) (q : Int)) ∧ (∀ j, Rng (xs.getD j (0, 0)).1 ∧ Rng (xs.getD j (0, 0)).2) ∧ xs.length ≤ 120
    | none => Cry e
theorem KB.grown {w w' : World} {b g : Nat} {N : Int} {D : ByteArray} (h : KB w b N D) (k : w.grownBy w' (some g)) (hne : b ≠ g) : KB w' b N D :=
  (k.block b (Array.getElem?_eq_some_iff.1 h).1 (by intro he; injection he with he; exact hne he)).trans h
theorem KB.lt {w : World} {b : Nat} {N : Int} {D : ByteArray} (h : KB w b N D) : b < w.heap.size := (Array.getElem?_eq_some_iff.1 h).1
theorem ptsI_0 {L : List Bool} {s : ByteArray} {n : Nat} (h : timesB L n 0 = none) : ptsI L s n = none := by unfold ptsI; rw [h]
theorem ptsI_1 (L : List Bool) (s : ByteArray) (n q : Nat) (ts : List Int) (h : timesB L n 0 = some (ts, q)) (h2 : valsB L n q = none) : ptsI L s n = none := by unfold ptsI; rw [h]; simp only; rw [h2]
theorem ptsI_2 (L : List Bool) (s : ByteArray) (n q q2 : Nat) (ts vs : List Int) (h : timesB L n 0 = some (ts, q)) (h2 : valsB L n q = some (vs, q2)) : ptsI L s n = ptsZ s (n : Int) (ts.zip vs) := by unfold ptsI; rw [h]; simp only; rw [h2]
theorem valsB_ok {L : List Bool} {n p q : Nat} {vs : List Int} (hp : p ≤ L.length) (h : valsB L n p = some (vs, q)) : vs.length = n ∧ (∀ j, Rng (vs.getD j 0)) := by
  unfold valsB at h
  cases hv : valG L n p with
  | none => rw [hv] at h; cases h
  | some a =>
    obtain ⟨xs, q', l, t⟩ := a
    rw [hv] at h
    unfold fitB at h
    simp only at h
    split at h
    · simp only [Option.some.injEq, Prod.mk.injEq] at h
      obtain ⟨rfl, rfl⟩ := h
      have T := valG_ok hp hv
      exact ⟨T.1, T.2.1⟩
    · cases h
theorem zip_getD (ts vs : List Int) (j : Nat) (h : j < ts.length) (h2 : j < vs.length) : (ts.zip vs).getD j (0, 0) = (ts.getD j 0, vs.getD j 0) := by
  have e : (ts.zip vs)[j]? = some (ts[j], vs[j]) := by rw [List.getElem?_eq_getElem (by simp; omega), List.getElem_zip]
  simp [List.getD_eq_getElem?_getD, h, h2, e]
theorem zip_len (ts vs : List Int) (h : ts.length = vs.length) : (ts.zip vs).length = ts.length := by simp [h]
theorem zip_rng {ts vs : List Int} (h : ts.length = vs.length) (ht : ∀ j, Rng (ts.getD j 0)) (hv : ∀ j, Rng (vs.getD j 0)) (j : Nat) : Rng ((ts.zip vs).getD j (0, 0)).1 ∧ Rng ((ts.zip vs).getD j (0, 0)).2 := by
  rw [← tsOf_getD, ← vsOf_getD, zip_fst ts vs h, zip_snd ts vs h]
  exact ⟨ht j, hv j⟩
theorem zip_of {ts vs : List Int} {l : List (Int × Int)} (h : ts.length = vs.length) (hl : l.length = ts.length) (ha : ∀ j, j < ts.length → l.getD j (0, 0) = (ts.getD j 0, vs.getD j 0)) : l = ts.zip vs :=
  prs_ext (by rw [hl, zip_len ts vs h]) (fun j hj => by rw [ha j (by omega), zip_getD ts vs j (by omega) (by omega)])
/-- two blocks: the same, or not the same number, or not the same bytes -/
theorem blk_cases (K n : Int) (D s : ByteArray) : (K = n ∧ D = s) ∨ (¬ K = n) ∨ (K = n ∧ ¬ D.toList = s.toList) := by
  by_cases h : K = n
  · by_cases h2 : D = s
    · exact .inl ⟨h, h2⟩
    · exact .inr (.inr ⟨h, fun hl => h2 (by rw [ByteArray.toList_eq, ByteArray.toList_eq] at hl; apply ByteArray.ext; apply Array.ext'; exact hl)⟩)
  · exact .inr (.inl h)

set_option maxRecDepth 100000 in
set_option maxHeartbeats 4000000 in
theorem points_any (g : Nat) (ws : List Nat) (N p n : Nat) (s : ByteArray) (w : World) (h : RK w g ws (N : Int) (p : Int)) (hp0 : p = 0) (hw : RdW ws N) (h1 : 1 ≤ n) (hn : n ≤ 120) (hT : ∀ W, w.grownBy W (some g) → Tab W) (L : List Bool) (hL : BM.Words ws L) (hLN : L.length = N) :
    Calls Tryd.prog 60 #[.pointer (some ⟨g, 0, none⟩), .agg #[.int .i64 (n : Int), .string s]] w (PtsOut g ws N (ptsI L s n) w) := by
  have T := Lib.hid (fun W (hk : RK W g ws (N : Int) (p : Int)) => (show Calls Tryd.prog 91 #[.pointer (some ⟨g, 0, none⟩), .int .i64 (n : Int)] W (ListOut g ws N (timesB L n 0) W) from by
    have t := times_any g ws N p n W hk hw (by omega) hn
    have e1 := timesW_L hL n p
    rw [hLN] at e1
    rw [e1, hp0] at t
    exact t))
  have V := Lib.hid (fun W (q : Nat) (hk : RK W g ws (N : Int) (q : Int)) (hq : q ≤ N) (hT : ∀ W', W.grownBy W' (some g) → Tab W') => (show Calls Tryd.prog 92 #[.pointer (some ⟨g, 0, none⟩), .int .i64 (n : Int)] W (ListOut g ws N (valsB L n q) W) from by
    have t := values_any g ws N q n W hk hw hq hn hT L hL hLN
    have e1 : valI (BM.getW ws) N n q = valI (numB L) N n q := valI_congr hq (fun q k hk => BM.words_get hL q k hk) n
    rw [e1, ← hLN, fit_eq (by omega)] at t
    rw [hLN] at t
    exact t))
  have HTab := Lib.hid hT
  have HB := Lib.hid (fun v xs W h hT => implBlockOf_any v xs W h hT)
  have HF := Lib.hid (fun W => fail_any g W)
  have hg := h.lt
  have P0 := Lib.hid (@ptsI_0 L s n)
  have P1 := Lib.hid (fun q ts => ptsI_1 L s n q ts)
  have P2 := Lib.hid (fun q q2 ts vs => ptsI_2 L s n q q2 ts vs)
  have HTL := Lib.hid (fun ts q (h : timesB L n 0 = some (ts, q)) => timesB_len (Nat.zero_le _) hn h)
  have HVL := Lib.hid (fun p vs q (hp : p ≤ N) (h : valsB L n p = some (vs, q)) => valsB_ok (by rw [hLN]; exact hp) h)
  rw [hLN] at HTL
  obtain ⟨i0, hi, hz0, hz1, hz2⟩ := info_parts info_pt
  have K0 := Lib.hid (KB.new w (n : Int) s)
  have R0 : Hid (RK (w.alloc (.cells #[.int .i64 (n : Int), .string s] 36)) g ws (N : Int) (p : Int)) := Lib.hid (h.alloc _)
  have z1 : w.heap.size < (w.alloc (.cells #[.int .i64 (n : Int), .string s] 36)).heap.size := by simp
  have G0 : Hid (w.grownBy (w.alloc (.cells #[.int .i64 (n : Int), .string s] 36)) (some g)) := Lib.hid (World.grownBy_alloc _ _ _)
  clear h hw hT hL hLN
  go_enter Tryd.func60, Tryd.ntmps60
  go_wp2_with fail
  generalize w.alloc (.cells #[.int .i64 (n : Int), .string s] 36) = w1 at *
  refine (T.out _ R0.out).mono ?_
  rintro e w2 h2
  cases ht : timesB L n 0 with
  | none =>
    obtain ⟨⟨u, pv, rfl⟩, hg2⟩ := h2.none' ht
    have E := Lib.hid (P0.out ht)
    have HG := Lib.hid (eb_trans G0.out hg2)
    clear h2 hg2 ht
    go_wp2_with fail
    rw [E.out]
    exact ⟨rfl, HG.out, ⟨_, _, rfl⟩⟩
  | some a =>
    obtain ⟨ts, q⟩ := a
    obtain ⟨⟨vt, rfl, ho2⟩, hk2, hg2, hr2, hl2⟩ := h2.some' ht
    have hTG := HTL.out ts q ht
    have hlt := hTG.len
    have hqN := hTG.qN
    have HRt := Lib.hid hr2
    have HTS := Lib.hid ht
    have G2 := Lib.hid (eb_trans G0.out hg2)
    have K2 := Lib.hid (K0.out.grown hg2 (by omega))
    have R2 := Lib.hid hk2
    have O2 := Lib.hid ho2
    have x0 := K2.out.c0
    clear h2 ho2 hk2 hg2 hr2 ht hTG R0 K0 G0
    go_wp2_with fail
    refine (V.out _ q R2.out hqN (fun W k => HTab.out W (eb_trans G2.out k))).mono ?_
    rintro e w3 h3
    cases hv : valsB L n q with
    | none =>
      obtain ⟨⟨u, pv, rfl⟩, hg3⟩ := h3.none' hv
      have E := Lib.hid (P1.out _ _ HTS.out hv)
      have HG := Lib.hid (eb_trans G2.out hg3)
      clear h3 hg3 hv x0
      go_wp2_with fail
      rw [E.out]
      exact ⟨rfl, HG.out, ⟨_, _, rfl⟩⟩
    | some b =>
      obtain ⟨vs, q2⟩ := b
      obtain ⟨⟨vv, rfl, ho3⟩, hk3, hg3, hr3, hl3⟩ := h3.some' hv
      obtain ⟨hlv, _⟩ := HVL.out q vs q2 hqN hv
      have HRv := Lib.hid hr3
      have E := Lib.hid (P2.out _ _ _ _ HTS.out hv)
      have G3 := Lib.hid (eb_trans G2.out hg3)
      have K3 := Lib.hid (K2.out.grown hg3 (by omega))
      have R3 := Lib.hid hk3
      have I3t := IL.of_own (own_grown O2.out hg3 (show g < w1.heap.size by omega)) rfl HRt.out (by omega)
      have I3v := IL.of_own ho3 rfl hr3 (by omega)
      obtain ⟨_, _, At, ct, rfl, ht3⟩ := I3t
      obtain ⟨_, _, Av, cv, rfl, hv3⟩ := I3v
      obtain ⟨bt, ot, rfl, hbt, hct⟩ : ∃ b off, At = some ⟨b, off, none⟩ ∧ b < w3.heap.size ∧ ∀ j, j < ts.length → w3.cell? ⟨b, off + j, none⟩ = some (.int .i64 (ts.getD j 0)) := by
        rcases ht3 with h9 | h9
        · rw [h9] at hlt; simp at hlt; omega
        · exact h9
      obtain ⟨bv, ov, rfl, hbv, hcv⟩ : ∃ b off, Av = some ⟨b, off, none⟩ ∧ b < w3.heap.size ∧ ∀ j, j < vs.length → w3.cell? ⟨b, off + j, none⟩ = some (.int .i64 (vs.getD j 0)) := by
        rcases hv3 with h9 | h9
        · rw [h9] at hlv; simp at hlv; omega
        · exact h9
      rw [hlt] at hct
      rw [hlv] at hcv
      have HCt := Lib.hid hct
      have HCv := Lib.hid hcv
      have HLt := Lib.hid hlt
      have HLv := Lib.hid hlv
      rw [hlt, hlv]
      have x0 := K3.out.c0
      have zg : g < w3.heap.size := R3.out.lt
      clear h3 ho3 hk3 hg3 hr3 hv hct hcv ht3 hv3 K2 R2 G2 O2 hl2 hl3 hlt hlv hqN
      go_wp2_with (at_make; refine wpList_make_full _ rfl _ _ 24 rfl w3.heap.size 41 i0 (.agg #[.int .i64 0, .int .i64 0]) 2 Tryd.underlying24 hi hz0 hz1 _ _ _ _ n rfl rfl rfl rfl ?b2 ?b3 ?b4 ?_)
      case b2 => rw [hz2]; omega
      case b3 => unfold maxLen; omega
      case b4 => exact Nat.le_refl _
      intro w4 hown hgrow
      rw [made_prs] at hown
      have hb4 : Below w3.heap.size w3 w4 := (Below.refl _ _).grown hgrow (Nat.le_refl _) (fun k hk => by cases hk)
      clear hgrow x0
      go_wp2_with fail
      go_loopw [24] (fun i wr => ∃ (k : Nat) (l : List (Int × Int)), k ≤ n ∧ i = .int .i64 k ∧ l.length = n ∧ (∀ j, j < k → l.getD j (0, 0) = (ts.getD j 0, vs.getD j 0)) ∧
          wr.ownsRow w3.heap.size 41 2 (.slice (some ⟨w3.heap.size, 0, none⟩) n n) n (prs l) ∧ Below w3.heap.size w3 wr)
        (fun i _ => n - (intOf i).toNat)
      case atStart => exact ⟨0, List.replicate n (0, 0), Nat.zero_le _, rfl, by simp, fun j hj => by omega, hown, hb4⟩
      case round =>
        clear hown hb4
        obtain ⟨k, l, hk, rfl, hll, hag, hown, hb⟩ := hrel
        have Hag := Lib.hid hag
        have Hll := Lib.hid hll
        clear hag hll
        by_cases hlt : k < n
        · have hx : wr.cell? ⟨bt, ot + k, none⟩ = some (.int .i64 (ts.getD k 0)) := (hb.cell (p := ⟨bt, ot + k, none⟩) hbt).trans (HCt.out k hlt)
          have hy : wr.cell? ⟨bv, ov + k, none⟩ = some (.int .i64 (vs.getD k 0)) := (hb.cell (p := ⟨bv, ov + k, none⟩) hbv).trans (HCv.out k hlt)
          obtain ⟨x, hX⟩ : ∃ x, ts.getD k 0 = x := ⟨_, rfl⟩
          obtain ⟨y, hY⟩ : ∃ y, vs.getD k 0 = y := ⟨_, rfl⟩
          rw [hX] at hx
          rw [hY] at hy
          have HX := Lib.hid hX
          have HY := Lib.hid hY
          clear hX hY
          have hlk : k < l.length := by have := Hll.out; omega
          have c0 : wr.cell? ⟨w3.heap.size, k * 2, none⟩ = some (.int .i64 (l.getD k (0, 0)).1) := by
            rw [hown.cellAt _ (by omega)]; exact prs_get0 _ _ hlk
          have c1 : wr.cell? ⟨w3.heap.size, k * 2 + 1, none⟩ = some (.int .i64 (l.getD k (0, 0)).2) := by
            rw [hown.cellAt _ (by omega)]; exact prs_get1 _ _ hlk
          have f0 : wr.frozen? ⟨w3.heap.size, k * 2, none⟩ = false := hown.frozenAt _
          have f1 : wr.frozen? ⟨w3.heap.size, k * 2 + 1, none⟩ = false := hown.frozenAt _
          have HO : Hid (((wr.setCell ⟨w3.heap.size, k * 2, none⟩ (.int .i64 x)).setCell ⟨w3.heap.size, k * 2 + 1, none⟩ (.int .i64 y)).drew.ownsRow w3.heap.size 41 2 (.slice (some ⟨w3.heap.size, 0, none⟩) n n) n (prs (l.set k (x, y)))) := Lib.hid (by
            have h4 := ((hown.stored (k * 2) (.int .i64 x)).1.stored (k * 2 + 1) (.int .i64 y)).1
            rw [prs_set _ _ _ _ hlk] at h4
            exact h4)
          have HBn : Hid (Below w3.heap.size w3 ((wr.setCell ⟨w3.heap.size, k * 2, none⟩ (.int .i64 x)).setCell ⟨w3.heap.size, k * 2 + 1, none⟩ (.int .i64 y)).drew) := Lib.hid (((hb.setCell (show w3.heap.size ≤ (⟨w3.heap.size, k * 2, none⟩ : Addr).block by simp) _).setCell (show w3.heap.size ≤ (⟨w3.heap.size, k * 2 + 1, none⟩ : Addr).block by simp) _).drew)
          generalize (l.getD k (0, 0)).1 = o0 at c0
          generalize (l.getD k (0, 0)).2 = o1 at c1
          have HL2 : Hid (∀ j, j < k + 1 → (l.set k (x, y)).getD j (0, 0) = (ts.getD j 0, vs.getD j 0)) := Lib.hid (fun j hj => by
            rw [getD_set_pr _ _ _ _ hlk]
            by_cases e : j = k
            · subst e; rw [if_pos rfl, HX.out, HY.out]
            · rw [if_neg e]; exact Hag.out j (by omega))
          clear hown hb
          go_wp2_with fail
          go_region
          go_wp2_with fail
          first
          | (go_roundw; (case rel => exact ⟨k + 1, l.set k (x, y), by omega, by go_num, by simpa using Hll.out, HL2.out, HO.out, HBn.out⟩); (case measure => simp [intOf]; omega))
          | exact ⟨⟨k + 1, l.set k (x, y), by omega, by go_num, by simpa using Hll.out, HL2.out, HO.out, HBn.out⟩, by simp [intOf]; omega⟩
        · obtain rfl : k = n := by omega
          have hlz : l = ts.zip vs := zip_of (by rw [HLt.out, HLv.out]) (by rw [Hll.out, HLt.out]) (fun j hj => Hag.out j (by have := HLt.out; omega))
          subst hlz
          have hzz : ts.length = vs.length := by rw [HLt.out, HLv.out]
          have hzl : (ts.zip vs).length = k := by rw [zip_len _ _ hzz, HLt.out]
          have hrz := zip_rng hzz HRt.out HRv.out
          have HPL := Lib.hid (PL.of_own hown hzl.symm hrz (by omega))
          have HRz := Lib.hid hrz
          have HZL := Lib.hid hzl
          have HO4 := Lib.hid hown
          have hb43 := hb.size
          have G4 := Lib.hid (grown_below2 G3.out hb)
          have K4 := Lib.hid (K3.out.below hb K3.out.lt)
          have R4 : Hid (RK wr g ws (N : Int) (q2 : Int)) := Lib.hid ((hb.block g zg).trans R3.out)
          have zw : w.heap.size < w3.heap.size := K3.out.lt
          have HZd : Hid (ptsZ s (k : Int) (ts.zip vs) = if bkN (ts.zip vs) = (k : Int) ∧ bkD (ts.zip vs) = s then some (ts.zip vs) else none) := Lib.hid rfl
          clear hown hb hrz hzz hzl Hag Hll HCt HCv
          have HBk := Lib.hid (HB.out _ (ts.zip vs) _ HPL.out (HTab.out _ G4.out))
          unfold BlkPost at HBk
          generalize ts.zip vs = xs at *
          generalize bkN xs = K at *
          generalize bkD xs = D at *
          generalize bkB xs = F at *
          go_wp2_with fail
          refine HBk.out.mono ?_
          rintro e w5 ⟨rfl, hb5⟩
          have K5 := K4.out.below hb5 K4.out.lt
          have z5 := hb5.size
          have zb : w.heap.size < w5.heap.size := K5.lt
          have K6 := Lib.hid (K5.below (below1 w5 (.cells #[.int .i64 K, .string D] 36)) zb)
          have B6 := Lib.hid (KB.new w5 K D)
          have hb6 : Below wr.heap.size wr (w5.alloc (.cells #[.int .i64 K, .string D] 36)) := hb5.trans ((below1 w5 _).mono z5)
          have G6 := Lib.hid (grown_below2 G4.out hb6)
          have O6 := Lib.hid (u_own_below HO4.out hb6)
          have R6 : Hid (RK (w5.alloc (.cells #[.int .i64 K, .string D] 36)) g ws (N : Int) (q2 : Int)) := Lib.hid ((hb6.block g R4.out.lt).trans R4.out)
          have x0 := K6.out.c0
          have x1 := K6.out.c1
          have y0 := B6.out.c0
          have y1 := B6.out.c1
          clear hb5 hb6 K5
          rcases blk_cases K (k : Int) D s with ⟨hN, hD⟩ | hN | ⟨hN, hD⟩
          · subst hN
            subst hD
            have EZ := Lib.hid (show ptsZ D (k : Int) xs = some xs by rw [HZd.out, if_pos ⟨rfl, rfl⟩])
            go_wp2_with fail
            go_ret
            rw [E.out, EZ.out]
            exact ⟨G6.out, _, rfl, by rw [HZL.out]; exact u_ownsRow_base O6.out (by omega), ⟨q2, R6.out⟩, HRz.out, by have := HZL.out; omega⟩
          · have EZ := Lib.hid (show ptsZ s (k : Int) xs = none by rw [HZd.out, if_neg (fun h => hN h.1)])
            clear HZd
            go_wp2_with fail
            refine (HF.out _).mono ?_
            rintro e w8 ⟨⟨u, pv, rfl⟩, rfl⟩
            go_wp2_with fail
            rw [E.out, EZ.out]
            exact ⟨rfl, G6.out, ⟨_, _, rfl⟩⟩
          · subst hN
            have EZ := Lib.hid (show ptsZ s (k : Int) xs = none by rw [HZd.out, if_neg (fun h => hD (by rw [h.2]))])
            clear HZd
            go_wp2_with fail
            refine (HF.out _).mono ?_
            rintro e w8 ⟨⟨u, pv, rfl⟩, rfl⟩
            go_wp2_with fail
            rw [E.out, EZ.out]
            exact ⟨rfl, G6.out, ⟨_, _, rfl⟩⟩
end Go.Proofs.YtanoohfhifhhaaaDoor

/- Walks: the program's PointsOf. -/
set_option linter.unusedVariables false
set_option linter.unusedSimpArgs false
namespace Go.Proofs.YtanoohfhifhhaaaDoor
open Go.RowKit

/-- what a read of points returns -/
def PReadOut (r : Option (List (Int × Int))) (w : World) (e : Ending) (w' : World) : Prop := match r with
  | some xs => ∃ v q, e = .returned (.tuple #[v, .int .i64 q, .bool true]) ∧ w'.ownsRow w.heap.size 41 2 v xs.length (prs xs) ∧ (∀ j, Rng (xs.getD j (0, 0)).1 ∧ Rng (xs.getD j (0, 0)).2) ∧ xs.length ≤ 120
  | none => e = .returned (.tuple #[.slice none 0 0, .int .i64 0, .bool false])
theorem catch4_panicking (p : Addr) (x : Bool) (u : TypeId) (pv : Value) (older : List PanicEntry) (w : World) (hc : w.cell? p = some (.bool x)) (hz : w.frozen? p = false) :
    CallsD Tryd.prog 89 #[.pointer (some p)] (.panicking ({ v := .iface u pv, recovered := false } :: older)) w fun e u' w' =>
      e = .returned (.tuple #[]) ∧ u' = .panicking ({ v := .iface u pv, recovered := true } :: older) ∧ w' = w.setCell p (.bool false) := by
  refine callsD_of_wpS Tryd.func89 rfl fun c₀ cs hu => ?_
  apply wpS_seq
  apply wpS_region
  simp [wpOpsS, go_sem, recoverD, hu, Tryd.ntmps89, Exit.thenS]
  refine wpS_cond (t := true) (by simp [Act.eval, Array.replicate]) ?_
  simp only [if_true]
  apply wpS_region
  simp [wpOpsS, go_sem, hc, hz, bodyPostS, results, Tryd.results89]

theorem catch4_idle (p : Addr) (w : World) :
    CallsD Tryd.prog 89 #[.pointer (some p)] .returning w fun e u' w' => e = .returned (.tuple #[]) ∧ u' = .returning ∧ w' = w := by
  refine callsD_of_wpS Tryd.func89 rfl fun c₀ cs hu => ?_
  apply wpS_seq
  apply wpS_region
  simp [wpOpsS, go_sem, recoverD, hu, Tryd.ntmps89, Exit.thenS]
  refine wpS_cond (t := false) (by simp [Act.eval, Array.replicate]) ?_
  simp only [Bool.false_eq_true, if_false]
  refine wpS_of_wp (wp_skip ?_)
  cases c₀
  simp_all [bodyPostS, results, Tryd.results89]
set_option maxRecDepth 100000 in
set_option maxHeartbeats 1000000 in
theorem readFrom4_bad (s : ByteArray) (N a : Int) (rv : Value) (w : World) (hs : s.size ≤ maxLen) (h : hasB s N a 0 = false) (hrv : rv.oneCell' = true) :
    Calls Tryd.prog 58 #[.agg #[.string s, .int .i64 N], .int .i64 a, rv] w (RetBelow (.tuple #[.slice none 0 0, .int .i64 0, .bool false]) w) := by
  have H := Lib.hid (fun W => hasBits_any s N a 0 W hs (by omega))
  rw [h] at H
  clear h
  go_enter_defers Tryd.func58, Tryd.ntmps58
  go_wp2_with fail
  refine (H.out _).mono ?_
  rintro e w1 ⟨rfl, hb⟩
  have ok0 : OkB ((w.alloc (.cells #[.string s, .int .i64 N] 77)).alloc (.cells #[.bool false] 4)) (w.heap.size + 1) false := heap_alloc2_new _ _ _
  have ok1 := ok0.below hb
  have c1 := ok1.c
  have f1 := ok1.f
  have HF := Lib.hid ((below2 w (.cells #[.string s, .int .i64 N] 77) (.cells #[.bool false] 4)).trans (hb.mono (by simp; omega)))
  clear ok0 ok1 hb
  go_wp2_with fail
  have c2 : (w1.setCell ⟨w.heap.size + 1, 0, none⟩ (.bool false)).cell? ⟨w.heap.size + 1, 0, none⟩ = some (.bool false) := World.cell?_setCell_same' _ _ _ (by rw [c1]; rfl)
  have HF2 := Below.setCell HF.out (show w.heap.size ≤ (⟨w.heap.size + 1, 0, none⟩ : Addr).block by simp) (.bool false)
  simp [bodyPostD, Leaves, results, Tryd.results58, go_sem, c2]
  exact ⟨rfl, HF2⟩

set_option maxRecDepth 100000 in
set_option maxHeartbeats 1000000 in
theorem readFrom4_go (s : ByteArray) (n p b : Nat) (R : List Nat → Option (List (Int × Int))) (w : World) (hs : s.size ≤ maxLen) (h : hasB s (n : Int) (p : Int) 0 = true) (hpn : p ≤ n) (hs2 : s.size ≤ 2500) (hok : okB s (n : Int) = true) (hN : n ≤ 20000)
    (hread : ∀ (ws : List Nat) (g : Nat) (W : World), Below w.heap.size w W → w.heap.size ≤ g → BM.WordsF ws (fun j => decide (j < 8 * s.size) && BM.bitAt s.data.toList j) → RK W g ws (n : Int) (p : Int) → RdW ws n → Calls Tryd.prog 59 #[.pointer (some ⟨g, 0, none⟩), .pointer (some ⟨b, 0, none⟩)] W (PtsOut g ws n (R ws) W)) :
    Calls Tryd.prog 58 #[.agg #[.string s, .int .i64 (n : Int)], .int .i64 (p : Int), .func (.func 59) #[] #[.pointer (some ⟨b, 0, none⟩)]] w fun e w' => (∃ ws, BM.WordsF ws (fun j => decide (j < 8 * s.size) && BM.bitAt s.data.toList j) ∧ RdW ws n ∧ PReadOut (R ws) w e w') ∧ Below w.heap.size w w' := by
  have Hok := Lib.hid hok
  clear hok
  have H := Lib.hid (fun W => hasBits_any s (n : Int) (p : Int) 0 W hs (by omega))
  rw [h] at H
  clear h
  have HRd := Lib.hid hread
  have hU := Lib.hid (fun W => unpacked_any s (n : Int) W hs2)
  go_enter_defers Tryd.func58, Tryd.ntmps58
  go_wp2_with fail
  refine (H.out _).mono ?_
  rintro e w1 ⟨rfl, hb⟩
  have ok0 : OkB ((w.alloc (.cells #[.string s, .int .i64 (n : Int)] 77)).alloc (.cells #[.bool false] 4)) (w.heap.size + 1) false := heap_alloc2_new _ _ _
  have rs0 : ((w.alloc (.cells #[.string s, .int .i64 (n : Int)] 77)).alloc (.cells #[.bool false] 4)).heap[w.heap.size]? = some (.cells #[.string s, .int .i64 (n : Int)] 77 (0, 0)) := heap_alloc2_old _ _ _
  have rs1 : w1.heap[w.heap.size]? = some (.cells #[.string s, .int .i64 (n : Int)] 77 (0, 0)) := (hb.block _ (by simp; omega)).trans rs0
  have b0 : w1.cell? ⟨w.heap.size, 0, none⟩ = some (.string s) := by rw [cell_of_row w1 _ 0 _ _ _ rs1]; rfl
  have b1 : w1.cell? ⟨w.heap.size, 1, none⟩ = some (.int .i64 (n : Int)) := by rw [cell_of_row w1 _ 1 _ _ _ rs1]; rfl
  have OK := Lib.hid (ok0.below hb)
  have HF := Lib.hid ((below2 w (.cells #[.string s, .int .i64 (n : Int)] 77) (.cells #[.bool false] 4)).trans (hb.mono (by simp; omega)))
  have hsz : w.heap.size + 2 ≤ w1.heap.size := by have := hb.size; simpa using this
  clear ok0 hb rs0 rs1 hread
  go_wp2_with fail
  refine (hU.out _).mono ?_
  rintro e w2 ⟨ws, rfl, hws, hb2⟩
  have HF2 := Lib.hid (HF.out.trans (hb2.mono (by omega)))
  have OK2 := Lib.hid (OK.out.below hb2)
  have HW := Lib.hid (rdW_of Hok.out hws hN)
  have hl := hws.1
  have HWS := Lib.hid hws
  have hsz2 : w1.heap.size ≤ w2.heap.size := hb2.size
  have ra : (w2.alloc (.cells (rdCells zeroWs 0 0) 116)).heap[w2.heap.size]? = some (.cells (rdCells zeroWs 0 0) 116 (0, 0)) := heap_alloc_new w2 _
  have RA := Lib.hid ra
  clear hb2 hws b0 b1 ra
  go_wp2_with (first
    | (with_reducible refine wl_alloc_rd ?_)
    | (with_reducible refine wl_build_rd _ _ ws (n : Int) (p : Int) hl ?b1 ?b2 ?_)
    | (with_reducible refine wl_store_rd _ _ ?gg w2.heap.size ws (n : Int) (p : Int) (rdCells zeroWs 0 0) ?hb ?ho hl ?hx ?hg ?hy ?_))
  case b1 => rfl
  case b2 => rfl
  case hb => exact RA.out
  case ho => exact rdCells_size zeroWs_len
  case hx => rfl
  case hg => rfl
  case hy => rfl
  have hk : RK ((w2.alloc (.cells (rdCells zeroWs 0 0) 116)).setRow w2.heap.size (rdCells ws (n : Int) (p : Int))) w2.heap.size ws (n : Int) (p : Int) := setRow_heap _ _ _ _ _ _ RA.out
  have hb3 : Below w2.heap.size w2 ((w2.alloc (.cells (rdCells zeroWs 0 0) 116)).setRow w2.heap.size (rdCells ws (n : Int) (p : Int))) := ((Below.refl w2.heap.size w2).alloc (Nat.le_refl _) _).trans ⟨rfl, rfl, rfl, by simp, fun k hk => setRow_other _ _ _ _ (by omega)⟩
  generalize ((w2.alloc (.cells (rdCells zeroWs 0 0) 116)).setRow w2.heap.size (rdCells ws (n : Int) (p : Int))) = wa at *
  have hba : Below w.heap.size w wa := HF2.out.trans (hb3.mono (by omega))
  have hza := hb3.size
  refine (HRd.out ws w2.heap.size wa hba (by omega) HWS.out hk HW.out).mono ?_
  intro e w3 h3
  have OKa := OK2.out.below hb3
  cases hr : R ws with
  | none =>
    rw [hr] at h3
    obtain ⟨hg3, u, pv, rfl⟩ := h3
    have ok3 := OKa.grown hg3 (by omega)
    have c3 := ok3.c
    have f3 := ok3.f
    have HB := Lib.hid (grown_below (m := w.heap.size) hba hg3 (by omega) (by omega))
    have hre := Lib.hid hr
    clear ok3 hg3 hba hb3 OKa hk
    refine leaves_cons (f := 89) (args := #[.pointer (some ⟨w.heap.size + 1, 0, none⟩)]) (by simp) (by simp [go_sem]) ?_
    refine (catch4_panicking ⟨w.heap.size + 1, 0, none⟩ false u pv [] _ c3 f3).mono ?_
    rintro e u' w'' ⟨rfl, rfl, rfl⟩
    have c4 : (w3.setCell ⟨w.heap.size + 1, 0, none⟩ (.bool false)).cell? ⟨w.heap.size + 1, 0, none⟩ = some (.bool false) := World.cell?_setCell_same' _ _ _ (by rw [c3]; rfl)
    have HB2 := Below.setCell HB.out (show w.heap.size ≤ (⟨w.heap.size + 1, 0, none⟩ : Addr).block by simp) (.bool false)
    simp only [Leaves, settle, List.all_cons, List.all_nil]
    simp [Leaves, results, Tryd.results58, go_sem, c4]
    exact ⟨⟨ws, HWS.out, HW.out, by rw [hre.out]; rfl⟩, HB2⟩
  | some xs =>
    rw [hr] at h3
    obtain ⟨hg3, v3, rfl, hown3, ⟨q, hk3⟩, hrng, hl3⟩ := h3
    have ok3 := OKa.grown hg3 (by omega)
    have c3 := ok3.c
    have f3 := ok3.f
    have ca := hk3.at' hl
    have HB := Lib.hid (grown_below (m := w.heap.size) hba hg3 (by omega) (by omega))
    have HR := Lib.hid hr
    have HRn := Lib.hid hrng
    have HO3 := Lib.hid (u_ownsRow_base hown3 (Nat.le_refl _))
    have hwa : w2.heap.size < wa.heap.size := hk.lt
    clear ok3 hg3 hba hb3 OKa hk hk3 hr hrng hown3
    go_wp2_with fail
    go_still_tail 5, (by kernel_rfl)
    change wpList _ _ _ _ _ w3.drew
    have c4 : w3.drew.cell? ⟨w.heap.size + 1, 0, none⟩ = some (.bool false) := c3
    have f4 : w3.drew.frozen? ⟨w.heap.size + 1, 0, none⟩ = false := f3
    have HO4 : Hid (w3.drew.ownsRow wa.heap.size 41 2 v3 xs.length (prs xs)) := Lib.hid HO3.out
    have HB4 : Hid (Below w.heap.size w w3.drew) := Lib.hid (by obtain ⟨h1, h2, h3, h4, h5⟩ := HB.out; exact ⟨h1, h2, h3, h4, h5⟩)
    generalize w3.drew = w4 at *
    go_wp2_with fail
    have c5 : (w4.setCell ⟨w.heap.size + 1, 0, none⟩ (.bool true)).cell? ⟨w.heap.size + 1, 0, none⟩ = some (.bool true) := World.cell?_setCell_same' _ _ _ (by rw [c4]; rfl)
    have HO5 := Lib.hid (own_setCell HO4.out (i := 0) (u := .bool true) (show w.heap.size + 1 < wa.heap.size by omega))
    have HB5 := Below.setCell HB4.out (show w.heap.size ≤ (⟨w.heap.size + 1, 0, none⟩ : Addr).block by simp) (.bool true)
    generalize (w4.setCell ⟨w.heap.size + 1, 0, none⟩ (.bool true)) = w5 at *
    refine leaves_cons (f := 89) (args := #[.pointer (some ⟨w.heap.size + 1, 0, none⟩)]) (by simp) (by simp [go_sem]) ?_
    refine (catch4_idle ⟨w.heap.size + 1, 0, none⟩ _).mono ?_
    rintro e u' w'' ⟨rfl, rfl, rfl⟩
    simp only [Leaves, settle]
    simp [Leaves, results, Tryd.results58, go_sem, c5]
    exact ⟨⟨ws, HWS.out, HW.out, by rw [HR.out]; exact ⟨_, _, rfl, u_ownsRow_base HO5.out (by omega), HRn.out, hl3⟩⟩, HB5⟩
set_option maxRecDepth 100000 in
set_option maxHeartbeats 1000000 in
theorem points1_any (g b : Nat) (ws : List Nat) (N p n : Nat) (s : ByteArray) (w : World) (hb : KB w b (n : Int) s) (h : RK w g ws (N : Int) (p : Int)) (hp0 : p = 0) (hw : RdW ws N) (h1 : 1 ≤ n) (hn : n ≤ 120) (hT : ∀ W, w.grownBy W (some g) → Tab W) (L : List Bool) (hL : BM.Words ws L) (hLN : L.length = N) :
    Calls Tryd.prog 59 #[.pointer (some ⟨g, 0, none⟩), .pointer (some ⟨b, 0, none⟩)] w (PtsOut g ws N (ptsI L s n) w) := by
  have T := Lib.hid (points_any g ws N p n s w h hp0 hw h1 hn hT L hL hLN)
  have b0 := hb.c0
  have b1 := hb.c1
  clear h hw hT hb
  generalize ptsI L s n = r at *
  go_enter Tryd.func59, Tryd.ntmps59
  go_wp2_with fail
  refine T.out.mono ?_
  rintro e w' h
  cases r with
  | none =>
    obtain ⟨hg, u, pv, rfl⟩ := h
    go_wp2_with fail
    exact ⟨rfl, hg, ⟨_, _, rfl⟩⟩
  | some xs =>
    obtain ⟨hg, v, rfl, hr⟩ := h
    clear b0 b1
    go_wp2_with fail
    go_ret
    exact ⟨hg, v, rfl, hr⟩
/-- readFrom with the reader of points -/
theorem readFrom4_any (s : ByteArray) (n b : Nat) (w : World) (hs : s.size ≤ maxLen) (h1 : 1 ≤ n) (hn : n ≤ 120) (hb : KB w b (n : Int) s) (hT : Tab w) :
    Calls Tryd.prog 58 #[.agg #[.string s, .int .i64 ((8 * s.size : Nat) : Int)], .int .i64 0, .func (.func 59) #[] #[.pointer (some ⟨b, 0, none⟩)]] w fun e w' => PReadOut (ptsB s (n : Int)) w e w' ∧ Below w.heap.size w w' := by
  have hsm := hs
  unfold ptsB
  by_cases h : s.size ≤ 2500
  · rw [if_pos ⟨by omega, h⟩]
    have hok := allL_ok h
    have hB : hasB s ((8 * s.size : Nat) : Int) ((0 : Nat) : Int) 0 = true := by
      unfold hasB; rw [hok, Bool.true_and]; apply decide_eq_true; omega
    obtain ⟨L, hL⟩ : ∃ L, L = allL s := ⟨_, rfl⟩
    have hLl : L.length = 8 * s.size := by rw [hL]; exact allL_len s
    refine (readFrom4_go s (8 * s.size) 0 b (fun ws => ptsI L s n) w hsm hB (by omega) (by omega) hok (by omega) (fun ws g W hBw hgg hws hK hw =>
      points1_any g b ws (8 * s.size) 0 n s W (hb.below hBw hb.lt) hK rfl hw h1 hn (fun W' k => tab_rd hT hBw hgg k) L (by rw [hL]; exact ok_words hok hws) hLl)).mono ?_
    rintro e w' ⟨⟨ws, hws, hrw, ho⟩, hb⟩
    rw [Int.toNat_natCast, ← hL]
    have e1 : ptsI L s n = ptsL L s n := by rw [hL]; exact ptsI_eq h1 hn
    rw [e1] at ho
    exact ⟨ho, hb⟩
  · rw [if_neg (fun hh => h hh.2)]
    have hB : hasB s ((8 * s.size : Nat) : Int) 0 0 = false := by
      unfold hasB okB
      rw [decide_eq_false (by omega), Bool.false_and]
    exact (readFrom4_bad s _ 0 _ w hsm hB rfl).mono fun e w' h => ⟨h.1, h.2⟩
/-- points and a flag -/
def POutF (xs : List (Int × Int)) (b : Bool) (w : World) (e : Ending) (w' : World) : Prop :=
  ∃ v, e = .returned (.tuple #[v, .bool b]) ∧ w'.ownsRow w.heap.size 41 2 v xs.length (prs xs) ∧ Below w.heap.size w w'
def ptsX (r : Option (List (Int × Int))) : List (Int × Int) := match r with | some xs => xs | none => []
def ptsF (r : Option (List (Int × Int))) : Bool := match r with | some _ => true | none => false
theorem pts_ok (s : ByteArray) (n : Int) : (∀ j, Rng ((ptsX (ptsB s n)).getD j (0, 0)).1 ∧ Rng ((ptsX (ptsB s n)).getD j (0, 0)).2) ∧ (ptsX (ptsB s n)).length ≤ 120 := by
  cases h : ptsB s n with
  | none => exact ⟨fun j => ⟨by simpa [ptsX] using rng_zero, by simpa [ptsX] using rng_zero⟩, by simp [ptsX]⟩
  | some xs =>
    obtain ⟨_, _, _, _, h5, h6⟩ := ptsB_some h
    exact ⟨h6, h5⟩
set_option maxRecDepth 100000 in
set_option maxHeartbeats 1000000 in
theorem implPointsOf_any (n : Int) (s : ByteArray) (w : World) (hs : s.size ≤ 1000000000000) (hT : Tab w) :
    Calls Tryd.prog 25 #[.agg #[.int .i64 n, .string s]] w (POutF (ptsX (ptsB s n)) (ptsF (ptsB s n)) w) := by
  have hB0 := Lib.hid (below1 w (.cells #[.int .i64 n, .string s] 36))
  by_cases hn : 1 ≤ n ∧ n ≤ 120
  · obtain ⟨h0, h1⟩ := hn
    obtain ⟨m, rfl⟩ : ∃ m : Nat, n = (m : Int) := ⟨n.toNat, by omega⟩
    have hK : KB ((w.alloc (.cells #[.int .i64 (m : Int), .string s] 36)).alloc (.cells #[.string s, .int .i64 ((8 * s.size : Nat) : Int)] 77)) w.heap.size (m : Int) s :=
      (KB.new w (m : Int) s).below (below1 _ _) (by simp)
    have hB2 := below2 w (.cells #[.int .i64 (m : Int), .string s] 36) (.cells #[.string s, .int .i64 ((8 * s.size : Nat) : Int)] 77)
    have R1 := Lib.hid (readFrom4_any s m w.heap.size _ (by unfold maxLen; omega) (by omega) (by omega) hK (hT.below hB2))
    have HB2 := Lib.hid hB2
    have e8 : (8 * (s.size : Int)) = ((8 * s.size : Nat) : Int) := by omega
    have e9 : wrap64 (8 * (s.size : Int)) = ((8 * s.size : Nat) : Int) := by unfold wrap64; omega
    generalize ptsB s (m : Int) = r at *
    have E8 := Lib.hid e8
    clear hK hB2 e8
    go_enter Tryd.func25, Tryd.ntmps25
    go_wp2_with fail
    refine R1.out.mono ?_
    rintro e w2 ⟨ho, hb⟩
    have hb2 := HB2.out.trans (hb.mono (by simp; omega))
    have hz : w.heap.size ≤ ((w.alloc (.cells #[.int .i64 (m : Int), .string s] 36)).alloc (.cells #[.string s, .int .i64 ((8 * s.size : Nat) : Int)] 77)).heap.size := by simp; omega
    clear hb
    cases r with
    | none =>
      unfold PReadOut at ho
      subst ho
      go_wp2_with fail
      go_ret2
      exact ⟨_, rfl, World.ownsRow_nil _ _ _ _, hb2⟩
    | some xs =>
      obtain ⟨v, q, rfl, ho3, _⟩ := ho
      have HO := Lib.hid (u_ownsRow_base ho3 hz)
      clear ho3 hz
      go_wp2_with fail
      go_ret2
      exact ⟨_, rfl, HO.out, hb2⟩
  · have e : ptsB s n = none := by unfold ptsB; rw [if_neg (fun h => hn h.1)]
    rw [e]
    by_cases h0 : n < 1
    · go_enter Tryd.func25, Tryd.ntmps25
      go_wp2_with fail
      go_ret2
      exact ⟨_, rfl, World.ownsRow_nil _ _ _ _, hB0.out⟩
    · have h1 : (120 : Int) < n := by omega
      go_enter Tryd.func25, Tryd.ntmps25
      go_wp2_with fail
      go_ret2
      exact ⟨_, rfl, World.ownsRow_nil _ _ _ _, hB0.out⟩
end Go.Proofs.YtanoohfhifhhaaaDoor
