/- Walks: cascades: equal ones; the law FnExactCascadeOk. -/
import Derived.Test.YtkekpkfhljankaaOk
set_option linter.unusedVariables false
set_option linter.unusedSimpArgs false
namespace Go.Proofs.Ytkekpkfhljankaa
open Go.RowKit

set_option maxRecDepth 100000 in
set_option maxHeartbeats 1000000 in
theorem eqLevel_same (W K : Int) (rv ru : Value) (rs : List R6) (w : World) (h : RL w w.heap.size rv rs) (h' : RL w w.heap.size ru rs) :
    Calls Try.prog 124 #[.agg #[.int .i64 W, .int .i64 K, rv], .agg #[.int .i64 W, .int .i64 K, ru]] w fun e w' => e = .returned (.bool true) ∧ Below w.heap.size w w' := by
  have hE := Lib.hid (fun W h h' => eqRollS_any rv ru rs rs W h h')
  rw [decide_eq_true rfl] at hE
  have H1 := Lib.hid h
  have H2 := Lib.hid h'
  obtain ⟨_, _, A, c, rfl, _⟩ := h
  obtain ⟨_, _, A', c', rfl, _⟩ := h'
  have B1 := Lib.hid (((Below.refl w.heap.size w).alloc (Nat.le_refl _) (.cells #[.int .i64 W, .int .i64 K, .slice A rs.length c] 58)).alloc (by simp) (.cells #[.int .i64 W, .int .i64 K, .slice A' rs.length c'] 58))
  go_enter Try.func124, Try.ntmps124
  go_wp2_with fail
  refine (hE.out _ (by first | exact H1.out | exact (H1.out.below B1.out).up B1.out.size) (by first | exact H2.out | exact (H2.out.below B1.out).up B1.out.size)).mono ?_
  rintro e w2 ⟨rfl, hb2⟩
  have hb3 : Below w.heap.size w w2 := by first | exact hb2 | exact B1.out.trans (hb2.mono B1.out.size)
  go_wp2_with fail
  go_ret
  exact ⟨rfl, hb3⟩

set_option maxRecDepth 100000 in
set_option maxHeartbeats 2000000 in
theorem eqLevelS_same (v u : Value) (ls : List Lv) (w : World) (h : LS w w.heap.size v ls) (h' : LS w w.heap.size u ls) :
    Calls Try.prog 67 #[v, u] w (BoolPost true w) := by
  obtain ⟨_, hlen, A, c, rfl, h3⟩ := h
  obtain ⟨_, _, A', c', rfl, h3'⟩ := h'
  have hE := Lib.hid (fun W K rv ru rs w h h' => eqLevel_same W K rv ru rs w h h')
  have hne : decide ((ls.length : Int) = (ls.length : Int)) = true := by simp
  have hbne : ((ls.length : Int) != (ls.length : Int)) = false := by simp
  go_enter Try.func67, Try.ntmps67
  go_wp2_with fail
  go_loopw [5] (fun i wr => ∃ k : Nat, k ≤ ls.length ∧ i = .int .i64 k ∧ Below w.heap.size w wr) (fun i _ => ls.length - (intOf i).toNat)
  case atStart => exact ⟨0, Nat.zero_le _, rfl, Below.refl _ _⟩
  case round =>
    obtain ⟨k, hk, rfl, hb⟩ := hrel
    have hsz := hb.size
    by_cases hlt : k < ls.length
    · rcases h3 with h3 | ⟨b, off, rfl, hbl, hc⟩
      · subst h3; simp at hlt
      rcases h3' with h3' | ⟨b', off', rfl, hbl', hc'⟩
      · subst h3'; simp at hlt
      obtain ⟨q0, q1, rv, q2, hr⟩ := hc k hlt
      obtain ⟨p0, p1, ru, p2, hr'⟩ := hc' k hlt
      have x0 := (hb.cell (p := ⟨b, off + k * 3, none⟩) hbl).trans q0
      have x1 := (hb.cell (p := ⟨b, off + k * 3 + 1, none⟩) hbl).trans q1
      have x2 := (hb.cell (p := ⟨b, off + k * 3 + 2, none⟩) hbl).trans q2
      have y0 := (hb.cell (p := ⟨b', off' + k * 3, none⟩) hbl').trans p0
      have y1 := (hb.cell (p := ⟨b', off' + k * 3 + 1, none⟩) hbl').trans p1
      have y2 := (hb.cell (p := ⟨b', off' + k * 3 + 2, none⟩) hbl').trans p2
      have HR := Lib.hid ((hr.below hb).up hsz)
      have HR' := Lib.hid ((hr'.below hb).up hsz)
      obtain ⟨_, _, Ar, cr, hrv, _⟩ := id hr
      obtain ⟨_, _, Ar', cr', hru, _⟩ := id hr'
      obtain ⟨nr, hnr⟩ : ∃ nr, nr = (ls.getD k zLv).2.2.length := ⟨_, rfl⟩
      rw [← hnr] at hrv hru
      subst hrv hru
      clear hc hc' q0 q1 q2 p0 p1 p2 hr hr' hnr
      have HC := Lib.hid (fun W (hW : W = wr ∨ W = wr.drew) => hE.out (ls.getD k zLv).1 (ls.getD k zLv).2.1 (.slice Ar nr cr) (.slice Ar' nr cr') (ls.getD k zLv).2.2 W (by rcases hW with rfl | rfl; exact HR.out; exact HR.out) (by rcases hW with rfl | rfl; exact HR'.out; exact HR'.out))
      generalize (ls.getD k zLv).1 = W at *
      generalize (ls.getD k zLv).2.1 = K at *
      have HB := Lib.hid hb
      clear hb
      go_wp2_with fail
      go_region_law (go_simp; go_at_call 124; (refine (HC.out _ (by first | exact .inl rfl | exact .inr rfl)).mono ?_); rintro e w5 ⟨rfl, hb5⟩; have hb6 := HB.out.drew.trans (hb5.mono hsz); have HB6 := Lib.hid hb6; clear hb5 hb6)
      all_goals
       go_simp
       go_wp2_with fail
       go_roundw
       case rel => exact ⟨k + 1, by omega, by go_num, HB6.out⟩
       case measure => simp [intOf]; omega
    · obtain rfl : k = ls.length := by omega
      go_wp2_with fail
      go_ret
      exact ⟨rfl, hb⟩

set_option maxRecDepth 100000 in
set_option maxHeartbeats 2000000 in
theorem eqCascade_same (v u : Value) (c : Cs) (w : World) (h : CV w w.heap.size v c) (h' : CV w w.heap.size u c) :
    Calls Try.prog 20 #[v, u] w (BoolPost true w) := by
  obtain ⟨Ap, cp, Al, cl, rfl, hP, hL⟩ := h.cell2
  obtain ⟨Ap', cp', Al', cl', rfl, hP', hL'⟩ := h'.cell2
  obtain ⟨nw, kp, rp, ls⟩ := c
  simp only at hP hL hP' hL' ⊢
  have hE := Lib.hid (fun W h h' => eqPointS_any (.slice Ap rp.length cp) (.slice Ap' rp.length cp') rp rp W h h')
  rw [decide_eq_true rfl] at hE
  have hS := Lib.hid (fun W h h' => eqLevelS_same (.slice Al ls.length cl) (.slice Al' ls.length cl') ls W h h')
  have HP := Lib.hid hP
  have HL := Lib.hid hL
  have HP' := Lib.hid hP'
  have HL' := Lib.hid hL'
  clear hP hL hP' hL' h h'
  have B1 := Lib.hid (((Below.refl w.heap.size w).alloc (Nat.le_refl _) (.cells #[.int .i64 nw, .int .i64 kp, .slice Ap rp.length cp, .slice Al ls.length cl] 32)).alloc (by simp) (.cells #[.int .i64 nw, .int .i64 kp, .slice Ap' rp.length cp', .slice Al' ls.length cl'] 32))
  go_enter Try.func20, Try.ntmps20
  go_wp2_with fail
  refine (hE.out _ ((HP.out.below B1.out).up B1.out.size) ((HP'.out.below B1.out).up B1.out.size)).mono ?_
  rintro e w2 ⟨rfl, hb2⟩
  have q3 : w2.cell? ⟨w.heap.size, 3, none⟩ = some (.slice Al ls.length cl) := (hb2.cell (p := ⟨w.heap.size, 3, none⟩) (by first | (simp; done) | (simp; omega))).trans (by go_simp)
  have p3 : w2.cell? ⟨w.heap.size + 1, 3, none⟩ = some (.slice Al' ls.length cl') := (hb2.cell (p := ⟨w.heap.size + 1, 3, none⟩) (by first | (simp; done) | (simp; omega))).trans (by go_simp)
  have HB2 := Lib.hid (B1.out.trans (hb2.mono B1.out.size))
  clear hb2
  go_wp2_with fail
  refine (hS.out _ ((HL.out.below HB2.out).up HB2.out.size) ((HL'.out.below HB2.out).up HB2.out.size)).mono ?_
  rintro e w3 ⟨rfl, hb3⟩
  have hb4 := HB2.out.trans (hb3.mono HB2.out.size)
  go_wp2_with fail
  go_ret
  exact ⟨rfl, hb4⟩

theorem LI.below {w w' : World} {B : Nat} {v : Value} {ks : List Nat} (h : LI w B v ks) (hb : Below B w w') : LI w' B v ks := by
  obtain ⟨h1, h2, A, c, rfl, h3⟩ := h
  refine ⟨h1, h2, A, c, rfl, h3.imp id ?_⟩
  rintro ⟨b, off, rfl, hlt, hc⟩
  refine ⟨b, off, rfl, hlt, fun j hj => ?_⟩
  obtain ⟨W, K, Aj, cj, c0, c1, c2, hW, hK, hr⟩ := hc j hj
  exact ⟨W, K, Aj, cj, (hb.cell (p := ⟨b, off + j * 3, none⟩) hlt).trans c0, (hb.cell (p := ⟨b, off + j * 3 + 1, none⟩) hlt).trans c1, (hb.cell (p := ⟨b, off + j * 3 + 2, none⟩) hlt).trans c2, hW, hK, fun hk => by
    obtain ⟨rs, h1, h2⟩ := hr hk
    exact ⟨rs, h1, h2.below hb⟩⟩
theorem LI.up {w : World} {B B' : Nat} {v : Value} {ks : List Nat} (h : LI w B v ks) (hB : B ≤ B') : LI w B' v ks := by
  obtain ⟨h1, h2, A, c, rfl, h3⟩ := h
  refine ⟨h1, h2, A, c, rfl, h3.imp id ?_⟩
  rintro ⟨b, off, rfl, hlt, hc⟩
  refine ⟨b, off, rfl, by omega, fun j hj => ?_⟩
  obtain ⟨W, K, Aj, cj, c0, c1, c2, hW, hK, hr⟩ := hc j hj
  exact ⟨W, K, Aj, cj, c0, c1, c2, hW, hK, fun hk => by
    obtain ⟨rs, h1, h2⟩ := hr hk
    exact ⟨rs, h1, h2.up hB⟩⟩
/-- a cascade as it comes in -/
def CI (w : World) (B : Nat) (v : Value) (nw kp : Int) (A : Option Addr) (n c : Nat) (ks : List Nat) (lv : Value) : Prop :=
  v = .agg #[.int .i64 nw, .int .i64 kp, .slice A n c, lv] ∧ Rng nw ∧ Rng kp ∧ n ≤ maxLen ∧ (n ≤ 1048576 → ∃ xs : List (Int × Int), xs.length = n ∧ PL w B (.slice A n c) xs) ∧ LI w B lv ks
theorem CI.read {w : World} {B : Nat} {v : Value} {nw kp : Int} {A : Option Addr} {n c : Nat} {ks : List Nat} {lv : Value} (h : CI w B v nw kp A n c ks lv) (hn : n ≤ 1048576) (hl : ks.length ≤ 1048576) (hk : ∀ k ∈ ks, k ≤ 1048576) : ∃ cs : Cs, cs.2.2.1.length = n ∧ CV w B v cs := by
  obtain ⟨rfl, h1, h2, _, h3, h4⟩ := h
  obtain ⟨xs, hx, hp⟩ := h3 hn
  obtain ⟨ls, _, hls⟩ := h4.read hl hk
  exact ⟨(nw, kp, xs, ls), hx, .slice A n c, lv, rfl, hp, hls, h1, h2⟩
/-- what is left of 2 to the 20 behind a cascade -/
def szC (n : Nat) (ks : List Nat) : Int := if (1048576 : Int) - n < 0 then -1 else if (1048576 : Int) - n - ks.length < 0 then -1 else szF (1048576 - n - ks.length) ks

set_option maxRecDepth 100000 in
set_option maxHeartbeats 2000000 in
theorem szCascade_any (v : Value) (nw kp : Int) (A : Option Addr) (n c : Nat) (ks : List Nat) (lv : Value) (w : World) (h : CI w w.heap.size v nw kp A n c ks lv) :
    Calls Try.prog 15 #[v, .int .i64 1048576] w fun e w' => e = .returned (.int .i64 (szC n ks)) ∧ Below w.heap.size w w' := by
  obtain ⟨rfl, _, _, hn, _, hL⟩ := h
  unfold maxLen at hn
  have e1 : wrap64 (1048576 - (n : Int)) = 1048576 - (n : Int) := by unfold wrap64; omega
  have e2 : IntKind.i64.wrap (1048576 - (n : Int)) = 1048576 - (n : Int) := IntWalk.i64_in _ (by omega)
  have HL := Lib.hid hL
  obtain ⟨_, _, A', c', rfl, _⟩ := hL
  unfold szC
  by_cases h1 : (1048576 : Int) - n < 0
  · rw [if_pos h1]
    go_enter Try.func15, Try.ntmps15
    go_wp2_with (first | (go_at_call 23; go_in) | fail)
    go_ret
    exact ⟨rfl, by repeat (first | exact Below.refl _ _ | refine Below.alloc ?_ (by simp; try omega) _ | refine Below.drew ?_)⟩
  · rw [if_neg h1]
    have B1 := Lib.hid ((Below.refl w.heap.size w).alloc (Nat.le_refl _) (.cells #[.int .i64 nw, .int .i64 kp, .slice A n c, .slice A' ks.length c'] 25))
    have HLi : Hid (LI (w.alloc (.cells #[.int .i64 nw, .int .i64 kp, .slice A n c, .slice A' ks.length c'] 25)) (w.alloc (.cells #[.int .i64 nw, .int .i64 kp, .slice A n c, .slice A' ks.length c'] 25)).heap.size (.slice A' ks.length c') ks) := Lib.hid ((HL.out.below B1.out).up B1.out.size)
    have HS := Lib.hid (szLevelS_any _ ks (1048576 - (n : Int)) _ HLi.out (by omega) (by omega))
    obtain ⟨r, hr⟩ : ∃ r, r = (if (1048576 : Int) - n - ks.length < 0 then -1 else szF (1048576 - n - ks.length) ks) := ⟨_, rfl⟩
    rw [← hr] at HS ⊢
    have hrb : -1 ≤ r ∧ r ≤ 1048576 := by
      rw [hr]; split
      · omega
      · exact szF_bd _ _ (by omega) (by omega)
    have hrn : r < 0 → r = -1 := by omega
    clear hr
    by_cases hneg : r < 0
    · have hr1 := hrn hneg
      subst hr1
      go_enter Try.func15, Try.ntmps15
      go_wp2_with (first | (go_at_call 23; go_in) | fail)
      refine HS.out.mono ?_
      rintro e w2 ⟨rfl, hb2⟩
      have hb3 := B1.out.trans (hb2.mono B1.out.size)
      go_wp2_with fail
      go_ret
      exact ⟨rfl, hb3⟩
    · go_enter Try.func15, Try.ntmps15
      go_wp2_with (first | (go_at_call 23; go_in) | fail)
      refine HS.out.mono ?_
      rintro e w2 ⟨rfl, hb2⟩
      have hb3 := B1.out.trans (hb2.mono B1.out.size)
      go_wp2_with fail
      go_ret
      exact ⟨rfl, hb3⟩
end Go.Proofs.Ytkekpkfhljankaa
