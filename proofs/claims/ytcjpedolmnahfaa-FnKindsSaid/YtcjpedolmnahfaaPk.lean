/- Walks: cascades: equal ones; the law FnExactCascadeOk. -/
import Derived.Test.YtcjpedolmnahfaaOk
set_option linter.unusedVariables false
set_option linter.unusedSimpArgs false
namespace Go.Proofs.Ytcjpedolmnahfaa
open Go.RowKit

set_option maxRecDepth 100000 in
set_option maxHeartbeats 1000000 in
theorem eqLevel_same (W K : Int) (rv ru : Value) (rs : List R6) (w : World) (h : RL w w.heap.size rv rs) (h' : RL w w.heap.size ru rs) :
    Calls Try.prog 124 #[.agg #[.int .i64 W, .int .i64 K, rv], .agg #[.int .i64 W, .int .i64 K, ru]] w fun e w' => e = .returned (.bool true) ∧ Below w.heap.size w w' := by
  have hE := Lib.hid (fun W h h' => eqRollS_any rv ru rs rs W h h')
  rw [decide_eq_true rfl] at hE
  have H1 := Lib.hid h
  have H2 := Lib.hid h'
  obtain ⟨_, _, A, c, rfl, _⟩ := h
  obtain ⟨_, _, A', c', rfl, _⟩ := h'
  have B1 := Lib.hid (((Below.refl w.heap.size w).alloc (Nat.le_refl _) (.cells #[.int .i64 W, .int .i64 K, .slice A rs.length c] 51)).alloc (by simp) (.cells #[.int .i64 W, .int .i64 K, .slice A' rs.length c'] 51))
  go_enter Try.func124, Try.ntmps124
  go_wp2_with fail
  refine (hE.out _ (by first | exact H1.out | exact (H1.out.below B1.out).up B1.out.size) (by first | exact H2.out | exact (H2.out.below B1.out).up B1.out.size)).mono ?_
  rintro e w2 ⟨rfl, hb2⟩
  have hb3 : Below w.heap.size w w2 := by first | exact hb2 | exact B1.out.trans (hb2.mono B1.out.size)
  go_wp2_with fail
  go_ret
  exact ⟨rfl, hb3⟩

set_option maxRecDepth 100000 in
set_option maxHeartbeats 2000000 in
theorem eqLevelS_same (v u : Value) (ls : List Lv) (w : World) (h : LS w w.heap.size v ls) (h' : LS w w.heap.size u ls) :
    Calls Try.prog 92 #[v, u] w (BoolPost true w) := by
  obtain ⟨_, hlen, A, c, rfl, h3⟩ := h
  obtain ⟨_, _, A', c', rfl, h3'⟩ := h'
  have hE := Lib.hid (fun W K rv ru rs w h h' => eqLevel_same W K rv ru rs w h h')
  have hne : decide ((ls.length : Int) = (ls.length : Int)) = true := by simp
  have hbne : ((ls.length : Int) != (ls.length : Int)) = false := by simp
  go_enter Try.func92, Try.ntmps92
  go_wp2_with fail
  go_loopw [5] (fun i wr => ∃ k : Nat, k ≤ ls.length ∧ i = .int .i64 k ∧ Below w.heap.size w wr) (fun i _ => ls.length - (intOf i).toNat)
  case atStart => exact ⟨0, Nat.zero_le _, rfl, Below.refl _ _⟩
  case round =>
    obtain ⟨k, hk, rfl, hb⟩ := hrel
    have hsz := hb.size
    by_cases hlt : k < ls.length
    · rcases h3 with h3 | ⟨b, off, rfl, hbl, hc⟩
      · subst h3; simp at hlt
      rcases h3' with h3' | ⟨b', off', rfl, hbl', hc'⟩
      · subst h3'; simp at hlt
      obtain ⟨q0, q1, rv, q2, hr⟩ := hc k hlt
      obtain ⟨p0, p1, ru, p2, hr'⟩ := hc' k hlt
      have x0 := (hb.cell (p := ⟨b, off + k * 3, none⟩) hbl).trans q0
      have x1 := (hb.cell (p := ⟨b, off + k * 3 + 1, none⟩) hbl).trans q1
      have x2 := (hb.cell (p := ⟨b, off + k * 3 + 2, none⟩) hbl).trans q2
      have y0 := (hb.cell (p := ⟨b', off' + k * 3, none⟩) hbl').trans p0
      have y1 := (hb.cell (p := ⟨b', off' + k * 3 + 1, none⟩) hbl').trans p1
      have y2 := (hb.cell (p := ⟨b', off' + k * 3 + 2, none⟩) hbl').trans p2
      have HR := Lib.hid ((hr.below hb).up hsz)
      have HR' := Lib.hid ((hr'.below hb).up hsz)
      obtain ⟨_, _, Ar, cr, hrv, _⟩ := id hr
      obtain ⟨_, _, Ar', cr', hru, _⟩ := id hr'
      obtain ⟨nr, hnr⟩ : ∃ nr, nr = (ls.getD k zLv).2.2.length := ⟨_, rfl⟩
      rw [← hnr] at hrv hru
      subst hrv hru
      clear hc hc' q0 q1 q2 p0 p1 p2 hr hr' hnr
      have HC := Lib.hid (fun W (hW : W = wr ∨ W = wr.drew) => hE.out (ls.getD k zLv).1 (ls.getD k zLv).2.1 (.slice Ar nr cr) (.slice Ar' nr cr') (ls.getD k zLv).2.2 W (by rcases hW with rfl | rfl; exact HR.out; exact HR.out) (by rcases hW with rfl | rfl; exact HR'.out; exact HR'.out))
      generalize (ls.getD k zLv).1 = W at *
      generalize (ls.getD k zLv).2.1 = K at *
      have HB := Lib.hid hb
      clear hb
      go_wp2_with fail
      go_region_law (go_simp; go_at_call 124; (refine (HC.out _ (by first | exact .inl rfl | exact .inr rfl)).mono ?_); rintro e w5 ⟨rfl, hb5⟩; have hb6 := HB.out.drew.trans (hb5.mono hsz); have HB6 := Lib.hid hb6; clear hb5 hb6)
      all_goals
       go_simp
       go_wp2_with fail
       go_roundw
       case rel => exact ⟨k + 1, by omega, by go_num, HB6.out⟩
       case measure => simp [intOf]; omega
    · obtain rfl : k = ls.length := by omega
      go_wp2_with fail
      go_ret
      exact ⟨rfl, hb⟩

set_option maxRecDepth 100000 in
set_option maxHeartbeats 2000000 in
theorem eqCascade_same (v u : Value) (c : Cs) (w : World) (h : CV w w.heap.size v c) (h' : CV w w.heap.size u c) :
    Calls Try.prog 44 #[v, u] w (BoolPost true w) := by
  obtain ⟨Ap, cp, Al, cl, rfl, hP, hL⟩ := h.cell2
  obtain ⟨Ap', cp', Al', cl', rfl, hP', hL'⟩ := h'.cell2
  obtain ⟨nw, kp, rp, ls⟩ := c
  simp only at hP hL hP' hL' ⊢
  have hE := Lib.hid (fun W h h' => eqPointS_any (.slice Ap rp.length cp) (.slice Ap' rp.length cp') rp rp W h h')
  rw [decide_eq_true rfl] at hE
  have hS := Lib.hid (fun W h h' => eqLevelS_same (.slice Al ls.length cl) (.slice Al' ls.length cl') ls W h h')
  have HP := Lib.hid hP
  have HL := Lib.hid hL
  have HP' := Lib.hid hP'
  have HL' := Lib.hid hL'
  clear hP hL hP' hL' h h'
  have B1 := Lib.hid (((Below.refl w.heap.size w).alloc (Nat.le_refl _) (.cells #[.int .i64 nw, .int .i64 kp, .slice Ap rp.length cp, .slice Al ls.length cl] 30)).alloc (by simp) (.cells #[.int .i64 nw, .int .i64 kp, .slice Ap' rp.length cp', .slice Al' ls.length cl'] 30))
  go_enter Try.func44, Try.ntmps44
  go_wp2_with fail
  refine (hE.out _ ((HP.out.below B1.out).up B1.out.size) ((HP'.out.below B1.out).up B1.out.size)).mono ?_
  rintro e w2 ⟨rfl, hb2⟩
  have q3 : w2.cell? ⟨w.heap.size, 3, none⟩ = some (.slice Al ls.length cl) := (hb2.cell (p := ⟨w.heap.size, 3, none⟩) (by first | (simp; done) | (simp; omega))).trans (by go_simp)
  have p3 : w2.cell? ⟨w.heap.size + 1, 3, none⟩ = some (.slice Al' ls.length cl') := (hb2.cell (p := ⟨w.heap.size + 1, 3, none⟩) (by first | (simp; done) | (simp; omega))).trans (by go_simp)
  have HB2 := Lib.hid (B1.out.trans (hb2.mono B1.out.size))
  clear hb2
  go_wp2_with fail
  refine (hS.out _ ((HL.out.below HB2.out).up HB2.out.size) ((HL'.out.below HB2.out).up HB2.out.size)).mono ?_
  rintro e w3 ⟨rfl, hb3⟩
  have hb4 := HB2.out.trans (hb3.mono HB2.out.size)
  go_wp2_with fail
  go_ret
  exact ⟨rfl, hb4⟩

theorem LI.below {w w' : World} {B : Nat} {v : Value} {ks : List Nat} (h : LI w B v ks) (hb : Below B w w') : LI w' B v ks := by
  obtain ⟨h1, h2, A, c, rfl, h3⟩ := h
  refine ⟨h1, h2, A, c, rfl, h3.imp id ?_⟩
  rintro ⟨b, off, rfl, hlt, hc⟩
  refine ⟨b, off, rfl, hlt, fun j hj => ?_⟩
  obtain ⟨W, K, Aj, cj, c0, c1, c2, hW, hK, hr⟩ := hc j hj
  exact ⟨W, K, Aj, cj, (hb.cell (p := ⟨b, off + j * 3, none⟩) hlt).trans c0, (hb.cell (p := ⟨b, off + j * 3 + 1, none⟩) hlt).trans c1, (hb.cell (p := ⟨b, off + j * 3 + 2, none⟩) hlt).trans c2, hW, hK, fun hk => by
    obtain ⟨rs, h1, h2⟩ := hr hk
    exact ⟨rs, h1, h2.below hb⟩⟩
theorem LI.up {w : World} {B B' : Nat} {v : Value} {ks : List Nat} (h : LI w B v ks) (hB : B ≤ B') : LI w B' v ks := by
  obtain ⟨h1, h2, A, c, rfl, h3⟩ := h
  refine ⟨h1, h2, A, c, rfl, h3.imp id ?_⟩
  rintro ⟨b, off, rfl, hlt, hc⟩
  refine ⟨b, off, rfl, by omega, fun j hj => ?_⟩
  obtain ⟨W, K, Aj, cj, c0, c1, c2, hW, hK, hr⟩ := hc j hj
  exact ⟨W, K, Aj, cj, c0, c1, c2, hW, hK, fun hk => by
    obtain ⟨rs, h1, h2⟩ := hr hk
    exact ⟨rs, h1, h2.up hB⟩⟩
/-- a cascade as it comes in -/
def CI (w : World) (B : Nat) (v : Value) (nw kp : Int) (A : Option Addr) (n c : Nat) (ks : List Nat) (lv : Value) : Prop :=
  v = .agg #[.int .i64 nw, .int .i64 kp, .slice A n c, lv] ∧ Rng nw ∧ Rng kp ∧ n ≤ maxLen ∧ (n ≤ 1048576 → ∃ xs : List (Int × Int), xs.length = n ∧ PL w B (.slice A n c) xs) ∧ LI w B lv ks
theorem CI.read {w : World} {B : Nat} {v : Value} {nw kp : Int} {A : Option Addr} {n c : Nat} {ks : List Nat} {lv : Value} (h : CI w B v nw kp A n c ks lv) (hn : n ≤ 1048576) (hl : ks.length ≤ 1048576) (hk : ∀ k ∈ ks, k ≤ 1048576) : ∃ cs : Cs, cs.2.2.1.length = n ∧ CV w B v cs := by
  obtain ⟨rfl, h1, h2, _, h3, h4⟩ := h
  obtain ⟨xs, hx, hp⟩ := h3 hn
  obtain ⟨ls, _, hls⟩ := h4.read hl hk
  exact ⟨(nw, kp, xs, ls), hx, .slice A n c, lv, rfl, hp, hls, h1, h2⟩
/-- what is left of 2 to the 20 behind a cascade -/
def szC (n : Nat) (ks : List Nat) : Int := if (1048576 : Int) - n < 0 then -1 else if (1048576 : Int) - n - ks.length < 0 then -1 else szF (1048576 - n - ks.length) ks

set_option maxRecDepth 100000 in
set_option maxHeartbeats 2000000 in
theorem szCascade_any (v : Value) (nw kp : Int) (A : Option Addr) (n c : Nat) (ks : List Nat) (lv : Value) (w : World) (h : CI w w.heap.size v nw kp A n c ks lv) :
    Calls Try.prog 41 #[v, .int .i64 1048576] w fun e w' => e = .returned (.int .i64 (szC n ks)) ∧ Below w.heap.size w w' := by
  obtain ⟨rfl, _, _, hn, _, hL⟩ := h
  unfold maxLen at hn
  have e1 : wrap64 (1048576 - (n : Int)) = 1048576 - (n : Int) := by unfold wrap64; omega
  have e2 : IntKind.i64.wrap (1048576 - (n : Int)) = 1048576 - (n : Int) := IntWalk.i64_in _ (by omega)
  have HL := Lib.hid hL
  obtain ⟨_, _, A', c', rfl, _⟩ := hL
  unfold szC
  by_cases h1 : (1048576 : Int) - n < 0
  · rw [if_pos h1]
    go_enter Try.func41, Try.ntmps41
    go_wp2_with (first | (go_at_call 88; go_in) | fail)
    go_ret
    exact ⟨rfl, by repeat (first | exact Below.refl _ _ | refine Below.alloc ?_ (by simp; try omega) _ | refine Below.drew ?_)⟩
  · rw [if_neg h1]
    have B1 := Lib.hid ((Below.refl w.heap.size w).alloc (Nat.le_refl _) (.cells #[.int .i64 nw, .int .i64 kp, .slice A n c, .slice A' ks.length c'] 66))
    have HLi : Hid (LI (w.alloc (.cells #[.int .i64 nw, .int .i64 kp, .slice A n c, .slice A' ks.length c'] 66)) (w.alloc (.cells #[.int .i64 nw, .int .i64 kp, .slice A n c, .slice A' ks.length c'] 66)).heap.size (.slice A' ks.length c') ks) := Lib.hid ((HL.out.below B1.out).up B1.out.size)
    have HS := Lib.hid (szLevelS_any _ ks (1048576 - (n : Int)) _ HLi.out (by omega) (by omega))
    obtain ⟨r, hr⟩ : ∃ r, r = (if (1048576 : Int) - n - ks.length < 0 then -1 else szF (1048576 - n - ks.length) ks) := ⟨_, rfl⟩
    rw [← hr] at HS ⊢
    have hrb : -1 ≤ r ∧ r ≤ 1048576 := by
      rw [hr]; split
      · omega
      · exact szF_bd _ _ (by omega) (by omega)
    have hrn : r < 0 → r = -1 := by omega
    clear hr
    by_cases hneg : r < 0
    · have hr1 := hrn hneg
      subst hr1
      go_enter Try.func41, Try.ntmps41
      go_wp2_with (first | (go_at_call 88; go_in) | fail)
      refine HS.out.mono ?_
      rintro e w2 ⟨rfl, hb2⟩
      have hb3 := B1.out.trans (hb2.mono B1.out.size)
      go_wp2_with fail
      go_ret
      exact ⟨rfl, hb3⟩
    · go_enter Try.func41, Try.ntmps41
      go_wp2_with (first | (go_at_call 88; go_in) | fail)
      refine HS.out.mono ?_
      rintro e w2 ⟨rfl, hb2⟩
      have hb3 := B1.out.trans (hb2.mono B1.out.size)
      go_wp2_with fail
      go_ret
      exact ⟨rfl, hb3⟩
end Go.Proofs.Ytcjpedolmnahfaa

/- Walks: Pick: which data of a cascade a question is answered from. -/
set_option linter.unusedVariables false
set_option linter.unusedSimpArgs false
namespace Go.Proofs.Ytcjpedolmnahfaa
open Go.RowKit

/-- the first level, from number i on, that keeps for so long; -2: none -/
def pickF (nw q : Int) : Int → List Lv → Int
  | _, [] => -2
  | i, x :: ls => if nw - x.2.1 < q then i else pickF nw q (i + 1) ls
def pickL (nw kp q : Int) (ls : List Lv) : Int := if nw - kp < q then -1 else pickF nw q 0 ls
def pickM (c : Cs) (q : Int) : Int := if (cascB c && vIn q 0 1000000000000) = true then pickL c.1 c.2.1 q c.2.2.2 else -3
theorem pickF_hit (nw q : Int) : ∀ (ls : List Lv) (i : Int) (j : Nat), j < ls.length → (∀ k, k < j → ¬ nw - (ls.getD k zLv).2.1 < q) → nw - (ls.getD j zLv).2.1 < q → pickF nw q i ls = i + j
  | [], i, j, hj, _, _ => by simp at hj
  | x :: ls, i, 0, _, _, h => by
    have h' : nw - x.2.1 < q := h
    unfold pickF; rw [if_pos h']; simp
  | x :: ls, i, j + 1, hj, hk, h => by
    have h0 : ¬ nw - x.2.1 < q := hk 0 (by omega)
    have hj' : j < ls.length := by simpa using hj
    unfold pickF
    rw [if_neg h0, pickF_hit nw q ls (i + 1) j hj' (fun k hk' => hk (k + 1) (by omega)) h]
    omega
theorem pickF_none (nw q : Int) : ∀ (ls : List Lv) (i : Int), (∀ k, k < ls.length → ¬ nw - (ls.getD k zLv).2.1 < q) → pickF nw q i ls = -2
  | [], i, _ => rfl
  | x :: ls, i, hk => by
    have h0 : ¬ nw - x.2.1 < q := hk 0 (by simp)
    unfold pickF
    rw [if_neg h0, pickF_none nw q ls (i + 1) (fun k hk' => hk (k + 1) (by simpa using hk'))]
theorem pickL_hit {nw kp q : Int} {ls : List Lv} {j : Nat} (h0 : ¬ nw - kp < q) (hj : j < ls.length) (hk : ∀ k, k < j → ¬ nw - (ls.getD k zLv).2.1 < q) (h : nw - (ls.getD j zLv).2.1 < q) : pickL nw kp q ls = j := by
  unfold pickL; rw [if_neg h0, pickF_hit nw q ls 0 j hj hk h]; omega
theorem pickL_none {nw kp q : Int} {ls : List Lv} (h0 : ¬ nw - kp < q) (hk : ∀ k, k < ls.length → ¬ nw - (ls.getD k zLv).2.1 < q) : pickL nw kp q ls = -2 := by
  unfold pickL; rw [if_neg h0, pickF_none nw q ls 0 hk]
theorem pickL_raw {nw kp q : Int} {ls : List Lv} (h0 : nw - kp < q) : pickL nw kp q ls = -1 := by
  unfold pickL; rw [if_pos h0]
theorem lvsB_keep (now : Int) : ∀ (ls : List Lv) (w k : Int), 1 ≤ k → lvsB now w k ls = true → ∀ x ∈ ls, 1 ≤ x.2.1 ∧ x.2.1 ≤ 1000000000
  | [], w, k, _, _ => fun x hx => by cases hx
  | y :: ls, w, k, hk, h => by
    have h3 : (lvB now w k y && lvsB now y.1 y.2.1 ls) = true := h
    rw [Bool.and_eq_true] at h3
    have h4 : (shpB w k y && (rollsOkB y.2.2 y.1 && y.2.2.all (rolAt now y))) = true := h3.1
    rw [Bool.and_eq_true] at h4
    have h5 := (shpB_in h4.1).2.2.2.1
    intro x hx
    rcases List.mem_cons.1 hx with rfl | hx
    · exact ⟨by omega, h5.2⟩
    · exact lvsB_keep now ls y.1 y.2.1 (by omega) h3.2 x hx
theorem cascB_keep {c : Cs} (h : cascB c = true) : (0 ≤ c.1 ∧ c.1 ≤ 1000000000000) ∧ (1 ≤ c.2.1 ∧ c.2.1 ≤ 1000000000) ∧ ∀ j, j < c.2.2.2.length → 1 ≤ (c.2.2.2.getD j zLv).2.1 ∧ (c.2.2.2.getD j zLv).2.1 ≤ 1000000000 := by
  unfold cascB at h
  rw [Bool.and_eq_true, Bool.and_eq_true] at h
  obtain ⟨h1, h2, _⟩ := headB_in h.1
  refine ⟨h1, h2, fun j hj => ?_⟩
  have hm : c.2.2.2.getD j zLv ∈ c.2.2.2 := by
    rw [List.getD_eq_getElem?_getD, List.getElem?_eq_getElem hj]
    exact List.getElem_mem hj
  exact lvsB_keep _ _ _ _ h2.1 h.2.2 _ hm

set_option maxRecDepth 100000 in
set_option maxHeartbeats 4000000 in
theorem l9Pick_any (nw kp q : Int) (Ap Al : Option Addr) (n cp cl : Nat) (ls : List Lv) (w : World) (hll : ls.length ≤ 1048576) (hcl : ls = [] ∨ ∃ b off, Al = some ⟨b, off, none⟩ ∧ b < w.heap.size ∧ ∀ j, j < ls.length → w.cell? ⟨b, off + j * 3, none⟩ = some (.int .i64 (ls.getD j zLv).1) ∧ w.cell? ⟨b, off + j * 3 + 1, none⟩ = some (.int .i64 (ls.getD j zLv).2.1) ∧ ∃ r, w.cell? ⟨b, off + j * 3 + 2, none⟩ = some r ∧ RL w w.heap.size r (ls.getD j zLv).2.2) (hn : 0 ≤ nw ∧ nw ≤ 1000000000000) (hk : 1 ≤ kp ∧ kp ≤ 1000000000) (hK : ∀ j, j < ls.length → 1 ≤ (ls.getD j zLv).2.1 ∧ (ls.getD j zLv).2.1 ≤ 1000000000) :
    Calls Try.prog 82 #[.agg #[.int .i64 nw, .int .i64 kp, .slice Ap n cp, .slice Al ls.length cl], .int .i64 q] w fun e w' => e = .returned (.int .i64 (pickL nw kp q ls)) ∧ Below w.heap.size w w' := by
  have hbx : Below w.heap.size w (w.alloc (.cells #[.int .i64 nw, .int .i64 kp, .slice Ap n cp, .slice Al ls.length cl] 30)) := (Below.refl _ _).alloc (Nat.le_refl _) _
  have HBX := Lib.hid hbx
  clear hbx
  have eNK : IntKind.i64.wrap (nw - kp) = nw - kp := IntWalk.i64_in _ (by omega)
  have HKs := Lib.hid hK
  clear hK
  obtain ⟨wb, hwb⟩ : ∃ wb, w.alloc (.cells #[.int .i64 nw, .int .i64 kp, .slice Ap n cp, .slice Al ls.length cl] 30) = wb := ⟨_, rfl⟩
  have BX : BoxN wb w.heap.size #[.int .i64 nw, .int .i64 kp, .slice Ap n cp, .slice Al ls.length cl] 30 := by rw [← hwb]; exact World.alloc_heap_new w _
  rw [hwb] at HBX
  have HW := Lib.hid hwb
  clear hwb
  have Q := Lib.hid BX
  have hlt1 : w.heap.size < wb.heap.size := BX.lt
  have x0 := BX.cell (i := 0) rfl
  have x1 := BX.cell (i := 1) rfl
  have x2 := BX.cell (i := 2) rfl
  have x3 := BX.cell (i := 3) rfl
  clear BX
  by_cases h0 : nw - kp < q
  · have E := Lib.hid (pickL_raw (ls := ls) h0)
    have d0 : decide (nw - kp < q) = true := decide_eq_true h0
    go_enter Try.func82, Try.ntmps82
    go_wp2_with fail
    rw [HW.out]
    go_wp2_with fail
    go_ret
    exact ⟨by rw [E.out]; try rfl, HBX.out⟩
  have H0 := Lib.hid h0
  have d0 : decide (nw - kp < q) = false := decide_eq_false h0
  go_enter Try.func82, Try.ntmps82
  go_wp2_with fail
  rw [HW.out]
  go_wp2_with fail
  clear x0 x1 x2 x3
  go_loopw [5] (fun i wr => ∃ j : Nat, j ≤ ls.length ∧ i = .int .i64 j ∧ Hid (Below wb.heap.size wb wr) ∧ Hid (∀ k, k < j → ¬ nw - (ls.getD k zLv).2.1 < q)) (fun i _ => ls.length - (intOf i).toNat)
  case atStart => exact ⟨0, Nat.zero_le _, rfl, Lib.hid (Below.refl _ _), Lib.hid (fun k hk => by omega)⟩
  case round =>
    obtain ⟨j, hj, rfl, HD, HG⟩ := hrel
    have hszD := HD.out.size
    have Qr : BoxN wr w.heap.size #[.int .i64 nw, .int .i64 kp, .slice Ap n cp, .slice Al ls.length cl] 30 := (HD.out.block _ hlt1).trans Q.out
    have x0 := Qr.cell (i := 0) rfl
    have x1 := Qr.cell (i := 1) rfl
    have x3 := Qr.cell (i := 3) rfl
    clear Qr
    have hbs := HBX.out.size
    have HBr := Lib.hid (HBX.out.trans (HD.out.mono hbs))
    by_cases hlt : j < ls.length
    · rcases hcl with hcl | ⟨b, off, rfl, hbl, hcl⟩
      · subst hcl; simp at hlt
      have k1 : wr.cell? ⟨b, off + j * 3 + 1, none⟩ = some (.int .i64 (ls.getD j zLv).2.1) := (HBr.out.cell (p := ⟨b, off + j * 3 + 1, none⟩) hbl).trans (hcl j hlt).2.1
      clear hcl
      have hKj := HKs.out j hlt
      have HH := Lib.hid (fun h => pickL_hit (kp := kp) (show ¬ nw - kp < q from by have := H0.out; omega) hlt HG.out h)
      have HN := Lib.hid (fun (h : ¬ nw - (ls.getD j zLv).2.1 < q) k (hk : k < j + 1) => show ¬ nw - (ls.getD k zLv).2.1 < q from by
        by_cases e : k = j
        · rw [e]; exact h
        · exact HG.out k (by omega))
      generalize (ls.getD j zLv).2.1 = x at k1 hKj HH HN
      have eX : IntKind.i64.wrap (nw - x) = nw - x := IntWalk.i64_in _ (by omega)
      by_cases g : nw - x < q
      · have d1 : decide (nw - x < q) = true := decide_eq_true g
        have E := Lib.hid (HH.out g)
        go_wp2_with fail
        go_quiet (fail)
        go_wp2_with fail
        go_ret
        exact ⟨by rw [E.out]; try rfl, below_drewN_u HBr.out _⟩
      · have d1 : decide (nw - x < q) = false := decide_eq_false g
        go_wp2_with fail
        go_quiet (fail)
        go_wp2_with fail
        go_roundw
        case rel => exact ⟨j + 1, by omega, by go_num, Lib.hid (below_drewN_u HD.out _), Lib.hid (fun k hk => by have h1 := HN.out (by omega) k hk; omega)⟩
        case measure => simp [intOf]; omega
    · obtain rfl : j = ls.length := by omega
      have E := Lib.hid (pickL_none (kp := kp) (show ¬ nw - kp < q from by have := H0.out; omega) HG.out)
      go_wp2_with fail
      go_ret
      exact ⟨by rw [E.out]; try rfl, HBr.out⟩

set_option maxRecDepth 100000 in
set_option maxHeartbeats 4000000 in
theorem specPick_any (v : Value) (c : Cs) (q : Int) (w : World) (h : CV w w.heap.size v c) :
    Calls Try.prog 37 #[v, .int .i64 q] w fun e w' => e = .returned (.int .i64 (pickM c q)) ∧ Below w.heap.size w w' := by
  have HC := Lib.hid h
  obtain ⟨nw, kp, rp, ls⟩ := c
  obtain ⟨rv, lv, rfl, hP, hL, hrn, hrk⟩ := h
  simp only at hP hL hrn hrk HC ⊢
  obtain ⟨_, hpl, Ap, cp, rfl, _⟩ := hP
  have HL := Lib.hid hL
  obtain ⟨_, hll, Al, cl, rfl, _⟩ := hL
  have hbx : Below w.heap.size w (w.alloc (.cells #[.int .i64 nw, .int .i64 kp, .slice Ap rp.length cp, .slice Al ls.length cl] 30)) := (Below.refl _ _).alloc (Nat.le_refl _) _
  have HBX := Lib.hid hbx
  clear hbx
  obtain ⟨wb, hwb⟩ : ∃ wb, w.alloc (.cells #[.int .i64 nw, .int .i64 kp, .slice Ap rp.length cp, .slice Al ls.length cl] 30) = wb := ⟨_, rfl⟩
  have BX : BoxN wb w.heap.size #[.int .i64 nw, .int .i64 kp, .slice Ap rp.length cp, .slice Al ls.length cl] 30 := by rw [← hwb]; exact World.alloc_heap_new w _
  rw [hwb] at HBX
  have HW := Lib.hid hwb
  clear hwb
  have Q := Lib.hid BX
  have hlt1 : w.heap.size < wb.heap.size := BX.lt
  have x0 := BX.cell (i := 0) rfl
  have x1 := BX.cell (i := 1) rfl
  have x2 := BX.cell (i := 2) rfl
  have x3 := BX.cell (i := 3) rfl
  clear BX
  have HS := Lib.hid (specCascadeOk_any _ (nw, kp, rp, ls) wb ((HC.out.below HBX.out).up (by omega)))
  have HIn := Lib.hid (fun w => v_l1In_any q 0 1000000000000 w)
  have HM := Lib.hid (show pickM (nw, kp, rp, ls) q = if (cascB (nw, kp, rp, ls) && vIn q 0 1000000000000) = true then pickL nw kp q ls else -3 from rfl)
  have HK := Lib.hid (fun h => cascB_keep (c := (nw, kp, rp, ls)) h)
  generalize cascB (nw, kp, rp, ls) = bb at HS HM HK
  cases bb with
  | false =>
    go_enter Try.func37, Try.ntmps37
    go_wp2_with fail
    rw [HW.out]
    go_wp2_with fail
    refine HS.out.mono ?_
    rintro e w2 ⟨rfl, hb2⟩
    go_wp2_with fail
    go_ret
    exact ⟨by rw [HM.out]; rfl, HBX.out.trans (hb2.mono (by omega))⟩
  | true =>
    obtain ⟨hn, hk, hK⟩ := HK.out rfl
    have HK := Lib.hid hK
    clear hK
    simp only at hn hk HK
    generalize vIn q 0 1000000000000 = vb at HIn HM
    cases vb with
    | false =>
      go_enter Try.func37, Try.ntmps37
      go_wp2_with fail
      rw [HW.out]
      go_wp2_with fail
      refine HS.out.mono ?_
      rintro e w2 ⟨rfl, hb2⟩
      go_wp2_with (go_at_call 61; refine (HIn.out _).mono ?_; rintro e w' ⟨rfl, rfl⟩)
      go_ret
      exact ⟨by rw [HM.out]; rfl, HBX.out.trans (hb2.mono (by omega))⟩
    | true =>
      have h9 := Lib.hid (fun W a b => l9Pick_any nw kp q Ap Al rp.length cp cl ls W hll a hn hk b)
      go_enter Try.func37, Try.ntmps37
      go_wp2_with fail
      rw [HW.out]
      go_wp2_with fail
      refine HS.out.mono ?_
      rintro e w2 ⟨rfl, hb2⟩
      have S2 := hb2.size
      have HB2 := Lib.hid (HBX.out.trans (hb2.mono (by omega)))
      have Q2 : BoxN w2 w.heap.size #[.int .i64 nw, .int .i64 kp, .slice Ap rp.length cp, .slice Al ls.length cl] 30 := (hb2.block _ hlt1).trans Q.out
      have L2 := Lib.hid ((HL.out.below HB2.out).up (show w.heap.size ≤ w2.heap.size by omega))
      clear hb2 x0 x1 x2 x3
      have x0 := Q2.cell (i := 0) rfl
      have x1 := Q2.cell (i := 1) rfl
      have x2 := Q2.cell (i := 2) rfl
      have x3 := Q2.cell (i := 3) rfl
      clear Q2
      have hcl : Hid (ls = [] ∨ ∃ b off, Al = some ⟨b, off, none⟩ ∧ b < w2.heap.size ∧ ∀ j, j < ls.length → w2.cell? ⟨b, off + j * 3, none⟩ = some (.int .i64 (ls.getD j zLv).1) ∧ w2.cell? ⟨b, off + j * 3 + 1, none⟩ = some (.int .i64 (ls.getD j zLv).2.1) ∧ ∃ r, w2.cell? ⟨b, off + j * 3 + 2, none⟩ = some r ∧ RL w2 w2.heap.size r (ls.getD j zLv).2.2) := by
        obtain ⟨_, _, A', c', e', hcl⟩ := L2.out
        injection e' with e1 e2 e3
        subst e1
        exact Lib.hid hcl
      have H9 := Lib.hid (h9.out w2 hcl.out (by first | exact HK.out | exact (HK.out trivial).2.2))
      go_wp2_with (go_at_call 61; refine (HIn.out _).mono ?_; rintro e w' ⟨rfl, rfl⟩)
      refine H9.out.mono ?_
      rintro e w3 ⟨rfl, hb3⟩
      go_wp2_with fail
      go_ret
      exact ⟨by rw [HM.out]; rfl, HB2.out.trans (hb3.mono (by omega))⟩

set_option maxRecDepth 100000 in
set_option maxHeartbeats 4000000 in
theorem implPick_any (v : Value) (c : Cs) (q : Int) (w : World) (h : CV w w.heap.size v c) :
    Calls Try.prog 36 #[v, .int .i64 q] w fun e w' => e = .returned (.int .i64 (pickM c q)) ∧ Below w.heap.size w w' := by
  have HC := Lib.hid h
  obtain ⟨nw, kp, rp, ls⟩ := c
  obtain ⟨rv, lv, rfl, hP, hL, hrn, hrk⟩ := h
  simp only at hP hL hrn hrk HC ⊢
  obtain ⟨_, hpl, Ap, cp, rfl, _⟩ := hP
  obtain ⟨_, hll, Al, cl, rfl, hcl⟩ := hL
  have HCL := Lib.hid hcl
  clear hcl
  have hbx : Below w.heap.size w (w.alloc (.cells #[.int .i64 nw, .int .i64 kp, .slice Ap rp.length cp, .slice Al ls.length cl] 30)) := (Below.refl _ _).alloc (Nat.le_refl _) _
  have HBX := Lib.hid hbx
  clear hbx
  obtain ⟨wb, hwb⟩ : ∃ wb, w.alloc (.cells #[.int .i64 nw, .int .i64 kp, .slice Ap rp.length cp, .slice Al ls.length cl] 30) = wb := ⟨_, rfl⟩
  have BX : BoxN wb w.heap.size #[.int .i64 nw, .int .i64 kp, .slice Ap rp.length cp, .slice Al ls.length cl] 30 := by rw [← hwb]; exact World.alloc_heap_new w _
  rw [hwb] at HBX
  have HW := Lib.hid hwb
  clear hwb
  have Q := Lib.hid BX
  have hlt1 : w.heap.size < wb.heap.size := BX.lt
  have x0 := BX.cell (i := 0) rfl
  have x1 := BX.cell (i := 1) rfl
  have x2 := BX.cell (i := 2) rfl
  have x3 := BX.cell (i := 3) rfl
  clear BX
  have HS := Lib.hid (implCascadeOk_any _ (nw, kp, rp, ls) wb ((HC.out.below HBX.out).up (by omega)))
  have HIn := Lib.hid (fun w => timeOk_any q w)
  have HM := Lib.hid (show pickM (nw, kp, rp, ls) q = if (cascB (nw, kp, rp, ls) && vIn q 0 1000000000000) = true then pickL nw kp q ls else -3 from rfl)
  have HK := Lib.hid (fun h => cascB_keep (c := (nw, kp, rp, ls)) h)
  generalize cascB (nw, kp, rp, ls) = bb at HS HM HK
  cases bb with
  | false =>
    go_enter Try.func36, Try.ntmps36
    go_wp2_with fail
    rw [HW.out]
    go_wp2_with fail
    refine HS.out.mono ?_
    rintro e w2 ⟨rfl, hb2⟩
    go_wp2_with fail
    go_ret
    exact ⟨by rw [HM.out]; rfl, HBX.out.trans (hb2.mono (by omega))⟩
  | true =>
    obtain ⟨hn, hk, hK⟩ := HK.out rfl
    have HKs := Lib.hid hK
    clear hK HK
    simp only at hn hk HKs
    generalize vIn q 0 1000000000000 = vb at HIn HM
    cases vb with
    | false =>
      go_enter Try.func36, Try.ntmps36
      go_wp2_with fail
      rw [HW.out]
      go_wp2_with fail
      refine HS.out.mono ?_
      rintro e w2 ⟨rfl, hb2⟩
      go_wp2_with (go_at_call 80; refine (HIn.out _).mono ?_; rintro e w' ⟨rfl, rfl⟩)
      go_ret
      exact ⟨by rw [HM.out]; rfl, HBX.out.trans (hb2.mono (by omega))⟩
    | true =>
      have eNK : IntKind.i64.wrap (nw - kp) = nw - kp := IntWalk.i64_in _ (by omega)
      have HM : Hid (pickM (nw, kp, rp, ls) q = pickL nw kp q ls) := Lib.hid (HM.out.trans rfl)
      have HR := Lib.hid (fun w => recent_any q nw kp w eNK)
      clear eNK
      by_cases h0 : nw - kp < q
      · have E := Lib.hid (pickL_raw (ls := ls) h0)
        rw [decide_eq_true h0] at HR
        go_enter Try.func36, Try.ntmps36
        go_wp2_with fail
        rw [HW.out]
        go_wp2_with fail
        refine HS.out.mono ?_
        rintro e w2 ⟨rfl, hb2⟩
        have Q2 : BoxN w2 w.heap.size #[.int .i64 nw, .int .i64 kp, .slice Ap rp.length cp, .slice Al ls.length cl] 30 := (hb2.block _ hlt1).trans Q.out
        clear x0 x1 x2 x3
        have x0 := Q2.cell (i := 0) rfl
        have x1 := Q2.cell (i := 1) rfl
        clear Q2
        go_wp2_with (first | (go_at_call 80; refine (HIn.out _).mono ?_; rintro e w' ⟨rfl, rfl⟩) | (go_at_call 81; refine (HR.out _).mono ?_; rintro e w' ⟨rfl, rfl⟩))
        go_ret
        exact ⟨by rw [HM.out, E.out]; try rfl, HBX.out.trans (hb2.mono (by omega))⟩
      have H0 := Lib.hid h0
      rw [decide_eq_false h0] at HR
      go_enter Try.func36, Try.ntmps36
      go_wp2_with fail
      rw [HW.out]
      go_wp2_with fail
      refine HS.out.mono ?_
      rintro e w2 ⟨rfl, hb2⟩
      have S2 := hb2.size
      have HB2 := Lib.hid (HBX.out.trans (hb2.mono (by omega)))
      have Q2 : BoxN w2 w.heap.size #[.int .i64 nw, .int .i64 kp, .slice Ap rp.length cp, .slice Al ls.length cl] 30 := (hb2.block _ hlt1).trans Q.out
      clear hb2 x0 x1 x2 x3 Q
      have Q := Lib.hid Q2
      have x0 := Q2.cell (i := 0) rfl
      have x1 := Q2.cell (i := 1) rfl
      have x2 := Q2.cell (i := 2) rfl
      have x3 := Q2.cell (i := 3) rfl
      clear Q2
      have hlt2 : w.heap.size < w2.heap.size := by omega
      go_wp2_with (first | (go_at_call 80; refine (HIn.out _).mono ?_; rintro e w' ⟨rfl, hw'⟩; obtain rfl := hw'.symm) | (go_at_call 81; refine (HR.out _).mono ?_; rintro e w' ⟨rfl, hw'⟩; obtain rfl := hw'.symm))
      clear x0 x1 x2 x3
      go_loopw [24] (fun i wr => ∃ j : Nat, j ≤ ls.length ∧ i = .int .i64 j ∧ Hid (Below w'.heap.size w' wr) ∧ Hid (∀ k, k < j → ¬ nw - (ls.getD k zLv).2.1 < q)) (fun i _ => ls.length - (intOf i).toNat)
      case atStart => exact ⟨0, Nat.zero_le _, rfl, Lib.hid (Below.refl _ _), Lib.hid (fun k hk => by omega)⟩
      case round =>
        obtain ⟨j, hj, rfl, HD, HG⟩ := hrel
        have hszD := HD.out.size
        have Qr : BoxN wr w.heap.size #[.int .i64 nw, .int .i64 kp, .slice Ap rp.length cp, .slice Al ls.length cl] 30 := (HD.out.block _ hlt2).trans Q.out
        have x0 := Qr.cell (i := 0) rfl
        have x1 := Qr.cell (i := 1) rfl
        clear Qr
        have hltr : w.heap.size < wr.heap.size := by omega
        have HBr := Lib.hid (HB2.out.trans (HD.out.mono (by omega)))
        by_cases hlt : j < ls.length
        · rcases HCL.out with hcl | ⟨b, off, rfl, hbl, hcl⟩
          · subst hcl; simp at hlt
          obtain ⟨c0, c1, r, c2, hrl⟩ := hcl j hlt
          obtain ⟨z1, z2, ra, rc, hrv, z3⟩ := hrl
          subst hrv
          clear z1 z2 z3
          have k0 : wr.cell? ⟨b, off + j * 3, none⟩ = some (.int .i64 (ls.getD j zLv).1) := (HBr.out.cell (p := ⟨b, off + j * 3, none⟩) hbl).trans c0
          have k1 : wr.cell? ⟨b, off + j * 3 + 1, none⟩ = some (.int .i64 (ls.getD j zLv).2.1) := (HBr.out.cell (p := ⟨b, off + j * 3 + 1, none⟩) hbl).trans c1
          have k2 : wr.cell? ⟨b, off + j * 3 + 2, none⟩ = some (.slice ra (ls.getD j zLv).2.2.length rc) := (HBr.out.cell (p := ⟨b, off + j * 3 + 2, none⟩) hbl).trans c2
          clear hcl c0 c1 c2
          have hKj := HKs.out j hlt
          have HH := Lib.hid (fun h => pickL_hit (kp := kp) (show ¬ nw - kp < q from by have := H0.out; omega) hlt HG.out h)
          have HN := Lib.hid (fun (h : ¬ nw - (ls.getD j zLv).2.1 < q) k (hk : k < j + 1) => show ¬ nw - (ls.getD k zLv).2.1 < q from by
            by_cases e : k = j
            · rw [e]; exact h
            · exact HG.out k (by omega))
          generalize (ls.getD j zLv).2.1 = x at k1 hKj HH HN
          generalize (ls.getD j zLv).1 = y at k0
          generalize (ls.getD j zLv).2.2.length = rn at k2
          have eX : IntKind.i64.wrap (nw - x) = nw - x := IntWalk.i64_in _ (by omega)
          have HRx := Lib.hid (fun w => recent_any q nw x w eX)
          clear eX
          by_cases g : nw - x < q
          · have E := Lib.hid (HH.out g)
            rw [decide_eq_true g] at HRx
            go_wp2_with (go_at_call 81; refine (HRx.out _).mono ?_; rintro e w' ⟨rfl, rfl⟩)
            go_ret
            exact ⟨by rw [HM.out, E.out]; try rfl, HBr.out.alloc (by omega) _⟩
          · rw [decide_eq_false g] at HRx
            go_wp2_with (go_at_call 81; refine (HRx.out _).mono ?_; rintro e w' ⟨rfl, rfl⟩)
            go_roundw
            case rel => exact ⟨j + 1, by omega, by go_num, Lib.hid (HD.out.alloc hszD _), Lib.hid (fun k hk => by have h1 := HN.out (by omega) k hk; omega)⟩
            case measure => simp [intOf]; omega
        · obtain rfl : j = ls.length := by omega
          have E := Lib.hid (pickL_none (kp := kp) (show ¬ nw - kp < q from by have := H0.out; omega) HG.out)
          go_wp2_with fail
          go_ret
          exact ⟨by rw [HM.out, E.out]; try rfl, HBr.out⟩
end Go.Proofs.Ytcjpedolmnahfaa
