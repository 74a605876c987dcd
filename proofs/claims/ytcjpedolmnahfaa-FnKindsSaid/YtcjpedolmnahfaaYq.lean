/- Walks: rolls, added one by one: the model's walks (3). -/
import Derived.Test.YtcjpedolmnahfaaYk
import Derived.Test.YtcjpedolmnahfaaYl
set_option linter.unusedVariables false
set_option linter.unusedSimpArgs false
namespace Go.Proofs.Ytcjpedolmnahfaa
open Go.RowKit

set_option maxRecDepth 100000 in
set_option maxHeartbeats 4000000 in
theorem l7Add_in (b off c : Nat) (xs : List R6) (a0 a1 a2 a3 a4 a5 : Int) (w : World) (h : RS w w.heap.size ⟨b, off, none⟩ xs) (hl : xs.length + 1 ≤ 1048576) (hd : ¬ xs.length = 0) (hd2 : (lastR xs).1 = a0) :
    Calls Try.prog 115 #[.slice (some ⟨b, off, none⟩) xs.length c, .agg #[.int .i64 a0, .int .i64 a1, .int .i64 a2, .int .i64 a3, .int .i64 a4, .int .i64 a5]] w (AddPost (addS xs (a0, a1, a2, a3, a4, a5)) w) := by
  rw [addS_in hd hd2]
  obtain ⟨i0, hi, hz0, hz1, hz2⟩ := info_parts info_rl
  have hbx : Below w.heap.size w (w.alloc (.cells #[.int .i64 a0, .int .i64 a1, .int .i64 a2, .int .i64 a3, .int .i64 a4, .int .i64 a5] 48)) := (Below.refl _ _).alloc (Nat.le_refl _) _
  have hbl : b < w.heap.size := h.2.1
  have hL0 := (hbx.cell (p := ⟨b, off + (xs.length - 1) * 6, none⟩) hbl).trans (h.last (by omega)).1
  have HRS := Lib.hid (fun W (hW : Below w.heap.size w W) => (h.below hW).2.2)
  have H63 := Lib.hid (show 0 + xs.length ≤ maxLen by unfold maxLen; omega)
  have HLR := Lib.hid (rfl : lastR xs = lastR xs)
  have Hd2 := Lib.hid hd2
  rw [hd2] at hL0
  have hne : (a0 != a0) = false := by simp
  have e1 : IntKind.i64.wrap ((xs.length : Int) - 1) = (xs.length : Int) - 1 := IntWalk.i64_in _ (by omega)
  have e2 : (0 : Int) ≤ (xs.length : Int) - 1 := by omega
  have e2' : (1 : Int) ≤ (xs.length : Int) := by omega
  have e3 : ((xs.length : Int) - 1).toNat = xs.length - 1 := by omega
  have e4 : (xs.length : Int) - 1 < (xs.length : Int) := by omega
  have hn1 : decide ((xs.length : Int) - 1 < 0) = false := by simp; omega
  clear hd2 h
  go_enter Try.func115, Try.ntmps115
  go_wp2_with fail
  go_quiet (fail)
  obtain ⟨W0, hW0⟩ : ∃ W0, W0 = (w.alloc (.cells #[.int .i64 a0, .int .i64 a1, .int .i64 a2, .int .i64 a3, .int .i64 a4, .int .i64 a5] 48)).drewN nq := ⟨_, rfl⟩
  have HB0 := Lib.hid (show Below w.heap.size w W0 from by rw [hW0]; exact below_drewN_u hbx nq)
  have HS0 := Lib.hid (show W0.heap.size = w.heap.size + 1 from by rw [hW0]; simp)
  have hlt0 : w.heap.size < W0.heap.size := by have := HS0.out; omega
  have HM := Lib.hid (made0 W0 (base := w.heap.size) (by omega))
  have q0 : W0.cell? ⟨w.heap.size, 0, none⟩ = some (.int .i64 a0) := by rw [hW0]; go_simp
  have q1 : W0.cell? ⟨w.heap.size, 1, none⟩ = some (.int .i64 a1) := by rw [hW0]; go_simp
  have q2 : W0.cell? ⟨w.heap.size, 2, none⟩ = some (.int .i64 a2) := by rw [hW0]; go_simp
  have q3 : W0.cell? ⟨w.heap.size, 3, none⟩ = some (.int .i64 a3) := by rw [hW0]; go_simp
  have q4 : W0.cell? ⟨w.heap.size, 4, none⟩ = some (.int .i64 a4) := by rw [hW0]; go_simp
  have q5 : W0.cell? ⟨w.heap.size, 5, none⟩ = some (.int .i64 a5) := by rw [hW0]; go_simp
  rw [← hW0]
  clear hW0 hbx
  go_wp2_with (at_builtin; refine wpList_append_own _ rfl _ _ 44 rfl w.heap.size 48 i0 (.agg #[.int .i64 0, .int .i64 0, .int .i64 0, .int .i64 0, .int .i64 0, .int .i64 0]) 6 48 Try.underlying44 hi hz0 hz1 hz2 rfl (by decide) _ 0 (rls []) rfl HM.out ⟨b, off, none⟩ xs.length c (rls xs) rfl (rls_length xs) ?c1 (rls_one xs) H63.out ?c4 ?c5 ?_)
  case c1 => exact HRS.out _ (HB0.out.alloc (by omega) _)
  case c4 => omega
  case c5 => first | omega | (simp; omega)
  intro v4 w4 hown4 hgrow4 _
  have hB4 := (HB0.out.alloc (by omega) (.cells #[] 48)).grown hgrow4 (by simp; omega) (fun j hj => by simp [Value.ownBlock] at hj; omega)
  have hown4 : w4.ownsRow w.heap.size 48 6 v4 xs.length (rls xs) := by simpa [rls] using hown4
  have p0 : w4.cell? ⟨w.heap.size, 0, none⟩ = some (.int .i64 a0) := hgrow4.cell (a := ⟨w.heap.size, 0, none⟩) (v := .int .i64 a0) ((((Below.refl W0.heap.size W0).alloc (Nat.le_refl _) _).cell (p := ⟨w.heap.size, 0, none⟩) (by simp; omega)).trans q0) (by simp [Value.ownBlock]; omega)
  have p1 : w4.cell? ⟨w.heap.size, 1, none⟩ = some (.int .i64 a1) := hgrow4.cell (a := ⟨w.heap.size, 1, none⟩) (v := .int .i64 a1) ((((Below.refl W0.heap.size W0).alloc (Nat.le_refl _) _).cell (p := ⟨w.heap.size, 1, none⟩) (by simp; omega)).trans q1) (by simp [Value.ownBlock]; omega)
  have p2 : w4.cell? ⟨w.heap.size, 2, none⟩ = some (.int .i64 a2) := hgrow4.cell (a := ⟨w.heap.size, 2, none⟩) (v := .int .i64 a2) ((((Below.refl W0.heap.size W0).alloc (Nat.le_refl _) _).cell (p := ⟨w.heap.size, 2, none⟩) (by simp; omega)).trans q2) (by simp [Value.ownBlock]; omega)
  have p3 : w4.cell? ⟨w.heap.size, 3, none⟩ = some (.int .i64 a3) := hgrow4.cell (a := ⟨w.heap.size, 3, none⟩) (v := .int .i64 a3) ((((Below.refl W0.heap.size W0).alloc (Nat.le_refl _) _).cell (p := ⟨w.heap.size, 3, none⟩) (by simp; omega)).trans q3) (by simp [Value.ownBlock]; omega)
  have p4 : w4.cell? ⟨w.heap.size, 4, none⟩ = some (.int .i64 a4) := hgrow4.cell (a := ⟨w.heap.size, 4, none⟩) (v := .int .i64 a4) ((((Below.refl W0.heap.size W0).alloc (Nat.le_refl _) _).cell (p := ⟨w.heap.size, 4, none⟩) (by simp; omega)).trans q4) (by simp [Value.ownBlock]; omega)
  have p5 : w4.cell? ⟨w.heap.size, 5, none⟩ = some (.int .i64 a5) := hgrow4.cell (a := ⟨w.heap.size, 5, none⟩) (v := .int .i64 a5) ((((Below.refl W0.heap.size W0).alloc (Nat.le_refl _) _).cell (p := ⟨w.heap.size, 5, none⟩) (by simp; omega)).trans q5) (by simp [Value.ownBlock]; omega)
  rcases hown4.2 with ⟨rfl, hz⟩ | ⟨g, cap, cur, rfl, hgb, hg, _⟩
  · omega
  have hgl : g < w4.heap.size := (Array.getElem?_eq_some_iff.1 hg).1
  have hlt4 : w.heap.size < w4.heap.size := by have := hgrow4.size; simp at this; omega
  clear hg hgrow4
  have HC := Lib.hid hown4.cellAt
  have HO4 := Lib.hid hown4
  have HB4 := Lib.hid hB4
  have c0 : w4.cell? ⟨g, (xs.length - 1) * 6, none⟩ = some (.int .i64 (lastR xs).1) := by
    rw [HC.out _ (by omega)]; exact rls_get0 _ _ (by omega)
  have f0 : w4.frozen? ⟨g, (xs.length - 1) * 6, none⟩ = false := hown4.frozenAt _
  have c1 : w4.cell? ⟨g, (xs.length - 1) * 6 + 1, none⟩ = some (.int .i64 (lastR xs).2.1) := by
    rw [HC.out _ (by omega)]; exact rls_get1 _ _ (by omega)
  have f1 : w4.frozen? ⟨g, (xs.length - 1) * 6 + 1, none⟩ = false := hown4.frozenAt _
  have c2 : w4.cell? ⟨g, (xs.length - 1) * 6 + 2, none⟩ = some (.int .i64 (lastR xs).2.2.1) := by
    rw [HC.out _ (by omega)]; exact rls_get2 _ _ (by omega)
  have f2 : w4.frozen? ⟨g, (xs.length - 1) * 6 + 2, none⟩ = false := hown4.frozenAt _
  have c3 : w4.cell? ⟨g, (xs.length - 1) * 6 + 3, none⟩ = some (.int .i64 (lastR xs).2.2.2.1) := by
    rw [HC.out _ (by omega)]; exact rls_get3 _ _ (by omega)
  have f3 : w4.frozen? ⟨g, (xs.length - 1) * 6 + 3, none⟩ = false := hown4.frozenAt _
  have c4 : w4.cell? ⟨g, (xs.length - 1) * 6 + 4, none⟩ = some (.int .i64 (lastR xs).2.2.2.2.1) := by
    rw [HC.out _ (by omega)]; exact rls_get4 _ _ (by omega)
  have f4 : w4.frozen? ⟨g, (xs.length - 1) * 6 + 4, none⟩ = false := hown4.frozenAt _
  have c5 : w4.cell? ⟨g, (xs.length - 1) * 6 + 5, none⟩ = some (.int .i64 (lastR xs).2.2.2.2.2) := by
    rw [HC.out _ (by omega)]; exact rls_get5 _ _ (by omega)
  have f5 : w4.frozen? ⟨g, (xs.length - 1) * 6 + 5, none⟩ = false := hown4.frozenAt _
  clear hown4 hB4 HRS HM HC
  have HXL := Lib.hid (rls_set xs (xs.length - 1) (lastR xs).1 (wrap64 ((lastR xs).2.1 + a1)) (wrap64 ((lastR xs).2.2.1 + a2)) (min (lastR xs).2.2.2.1 a3) (max (lastR xs).2.2.2.2.1 a4) a5 (by omega))
  have HXW : Hid (withR (lastR xs) (a0, a1, a2, a3, a4, a5) = ((lastR xs).1, wrap64 ((lastR xs).2.1 + a1), wrap64 ((lastR xs).2.2.1 + a2), min (lastR xs).2.2.2.1 a3, max (lastR xs).2.2.2.2.1 a4, a5)) := Lib.hid rfl
  generalize (lastR xs).2.2.2.2.2 = y5 at *
  generalize (lastR xs).2.2.2.2.1 = y4 at *
  generalize (lastR xs).2.2.2.1 = y3 at *
  generalize (lastR xs).2.2.1 = y2 at *
  generalize (lastR xs).2.1 = y1 at *
  generalize (lastR xs).1 = y0 at *
  by_cases hmn : a3 < y3
  · by_cases hmx : y4 < a4
    · rw [show min y3 a3 = a3 by omega, show max y4 a4 = a4 by omega] at HXL HXW
      go_wp2_with fail
      go_ret
      have s0 := HO4.out.stored ((xs.length - 1) * 6) (.int .i64 y0)
      have s1 := s0.1.stored ((xs.length - 1) * 6 + 1) (.int .i64 (wrap64 (y1 + a1)))
      have s2 := s1.1.stored ((xs.length - 1) * 6 + 2) (.int .i64 (wrap64 (y2 + a2)))
      have s3 := s2.1.stored ((xs.length - 1) * 6 + 3) (.int .i64 a3)
      have s4 := s3.1.stored ((xs.length - 1) * 6 + 4) (.int .i64 a4)
      have s5 := s4.1.stored ((xs.length - 1) * 6 + 5) (.int .i64 a5)
      have hown6 := s5.1
      rw [HXL.out] at hown6
      have hg6 := ((((s0.2.trans s1.2).trans s2.2).trans s3.2).trans s4.2).trans s5.2
      exact ⟨_, rfl, by rw [HXW.out, List.length_set]; exact hown6.alloc _, (HB4.out.grown hg6 HB4.out.size (fun k e => by cases e; exact hgb)).alloc (by have := hg6.size; have := HB4.out.size; omega) _⟩
    · have hmx' : a4 ≤ y4 := by omega
      rw [show min y3 a3 = a3 by omega, show max y4 a4 = y4 by omega] at HXL HXW
      go_wp2_with fail
      go_ret
      have s0 := HO4.out.stored ((xs.length - 1) * 6) (.int .i64 y0)
      have s1 := s0.1.stored ((xs.length - 1) * 6 + 1) (.int .i64 (wrap64 (y1 + a1)))
      have s2 := s1.1.stored ((xs.length - 1) * 6 + 2) (.int .i64 (wrap64 (y2 + a2)))
      have s3 := s2.1.stored ((xs.length - 1) * 6 + 3) (.int .i64 a3)
      have s4 := s3.1.stored ((xs.length - 1) * 6 + 4) (.int .i64 y4)
      have s5 := s4.1.stored ((xs.length - 1) * 6 + 5) (.int .i64 a5)
      have hown6 := s5.1
      rw [HXL.out] at hown6
      have hg6 := ((((s0.2.trans s1.2).trans s2.2).trans s3.2).trans s4.2).trans s5.2
      exact ⟨_, rfl, by rw [HXW.out, List.length_set]; exact hown6.alloc _, (HB4.out.grown hg6 HB4.out.size (fun k e => by cases e; exact hgb)).alloc (by have := hg6.size; have := HB4.out.size; omega) _⟩
  · have hmn' : y3 ≤ a3 := by omega
    by_cases hmx : y4 < a4
    · rw [show min y3 a3 = y3 by omega, show max y4 a4 = a4 by omega] at HXL HXW
      go_wp2_with fail
      go_ret
      have s0 := HO4.out.stored ((xs.length - 1) * 6) (.int .i64 y0)
      have s1 := s0.1.stored ((xs.length - 1) * 6 + 1) (.int .i64 (wrap64 (y1 + a1)))
      have s2 := s1.1.stored ((xs.length - 1) * 6 + 2) (.int .i64 (wrap64 (y2 + a2)))
      have s3 := s2.1.stored ((xs.length - 1) * 6 + 3) (.int .i64 y3)
      have s4 := s3.1.stored ((xs.length - 1) * 6 + 4) (.int .i64 a4)
      have s5 := s4.1.stored ((xs.length - 1) * 6 + 5) (.int .i64 a5)
      have hown6 := s5.1
      rw [HXL.out] at hown6
      have hg6 := ((((s0.2.trans s1.2).trans s2.2).trans s3.2).trans s4.2).trans s5.2
      exact ⟨_, rfl, by rw [HXW.out, List.length_set]; exact hown6.alloc _, (HB4.out.grown hg6 HB4.out.size (fun k e => by cases e; exact hgb)).alloc (by have := hg6.size; have := HB4.out.size; omega) _⟩
    · have hmx' : a4 ≤ y4 := by omega
      rw [show min y3 a3 = y3 by omega, show max y4 a4 = y4 by omega] at HXL HXW
      go_wp2_with fail
      go_ret
      have s0 := HO4.out.stored ((xs.length - 1) * 6) (.int .i64 y0)
      have s1 := s0.1.stored ((xs.length - 1) * 6 + 1) (.int .i64 (wrap64 (y1 + a1)))
      have s2 := s1.1.stored ((xs.length - 1) * 6 + 2) (.int .i64 (wrap64 (y2 + a2)))
      have s3 := s2.1.stored ((xs.length - 1) * 6 + 3) (.int .i64 y3)
      have s4 := s3.1.stored ((xs.length - 1) * 6 + 4) (.int .i64 y4)
      have s5 := s4.1.stored ((xs.length - 1) * 6 + 5) (.int .i64 a5)
      have hown6 := s5.1
      rw [HXL.out] at hown6
      have hg6 := ((((s0.2.trans s1.2).trans s2.2).trans s3.2).trans s4.2).trans s5.2
      exact ⟨_, rfl, by rw [HXW.out, List.length_set]; exact hown6.alloc _, (HB4.out.grown hg6 HB4.out.size (fun k e => by cases e; exact hgb)).alloc (by have := hg6.size; have := HB4.out.size; omega) _⟩
end Go.Proofs.Ytcjpedolmnahfaa

/- Walks: the rolls of points: the model. -/
set_option linter.unusedVariables false
set_option linter.unusedSimpArgs false
namespace Go.Proofs.Ytcjpedolmnahfaa
open Go.RowKit

theorem l7Add_any (b off c : Nat) (xs : List R6) (a0 a1 a2 a3 a4 a5 : Int) (w : World) (h : RS w w.heap.size ⟨b, off, none⟩ xs) (hl : xs.length + 1 ≤ 1048576) :
    Calls Try.prog 115 #[.slice (some ⟨b, off, none⟩) xs.length c, .agg #[.int .i64 a0, .int .i64 a1, .int .i64 a2, .int .i64 a3, .int .i64 a4, .int .i64 a5]] w (AddPost (addS xs (a0, a1, a2, a3, a4, a5)) w) := by
  by_cases hd : xs.length = 0
  · exact l7Add_new b off c xs a0 a1 a2 a3 a4 a5 w h hl hd
  · by_cases hd2 : (lastR xs).1 = a0
    · exact l7Add_in b off c xs a0 a1 a2 a3 a4 a5 w h hl hd hd2
    · exact l7Add_app b off c xs a0 a1 a2 a3 a4 a5 w h hl hd hd2
/-- a result of the model: a row of its own, not nil -/
def GRow (w : World) (base : Nat) (v : Value) (xs : List R6) : Prop := ∃ g c, v = .slice (some ⟨g, 0, none⟩) xs.length c ∧ RS w w.heap.size ⟨g, 0, none⟩ xs ∧ w.ownsRow base 48 6 v xs.length (rls xs)
theorem GRow.of_own {w : World} {base : Nat} {v : Value} {xs : List R6} (h : w.ownsRow base 48 6 v xs.length (rls xs)) (hp : 0 < xs.length) (hl : xs.length ≤ 1048576) : GRow w base v xs := by
  obtain ⟨g, c, rfl, h1⟩ := RS.of_own h hp hl
  exact ⟨g, c, rfl, h1, h⟩
theorem GRow.made (W : World) {base : Nat} (hb : base ≤ W.heap.size) : GRow (W.alloc (.cells #[] 48)) base (.slice (some ⟨W.heap.size, 0, none⟩) 0 0) [] :=
  ⟨_, _, rfl, ⟨by simp, by simp, fun j u hj => by simp [rls] at hj⟩, made0 W hb⟩
theorem ptsOkB_all {xs : List (Int × Int)} (h : ptsOkB xs = true) (k : Nat) (hk : k < xs.length) : 0 ≤ (xs.getD k (0, 0)).1 ∧ (xs.getD k (0, 0)).1 ≤ 1000000000000 := (ptsOkB_at h hk).1
theorem ptsOkB_len {xs : List (Int × Int)} (h : ptsOkB xs = true) : xs.length ≤ 120 := by
  unfold ptsOkB timesOkB at h
  rw [Bool.and_eq_true, decide_eq_true_iff, List.length_map] at h
  exact h.1

set_option maxRecDepth 100000 in
set_option maxHeartbeats 2000000 in
theorem specL7Rolls_any (v : Value) (xs : List (Int × Int)) (W : Int) (w : World) (h : PL w w.heap.size v xs) (hp : ptsOkB xs = true) (hW : 1 ≤ W) (hW2 : W ≤ 1000000) :
    Calls Try.prog 120 #[v, .int .i64 W] w (ROwnPost w.heap.size (rollsL xs W) w) := by
  have hlen := ptsOkB_len hp
  have HP := Lib.hid (ptsOkB_all hp)
  obtain ⟨hr, _, A, c, rfl, h3⟩ := h
  clear hr hp
  have HA := Lib.hid (fun b off c xs a0 a1 a2 a3 a4 a5 W h hl => l7Add_any b off c xs a0 a1 a2 a3 a4 a5 W h hl)
  have HL := Lib.hid (fun k => rollsL_len (xs.take k) W)
  have hwz : (W == 0) = false := by simpa using (show ¬ W = 0 by omega)
  have hw0 : ¬ W = 0 := by omega
  go_enter Try.func120, Try.ntmps120
  go_wp2_with fail
  go_loopw [5, 6] (fun v i wr => ∃ k : Nat, k ≤ xs.length ∧ i = .int .i64 k ∧ Hid (GRow wr w.heap.size v (rollsL (xs.take k) W)) ∧ Below w.heap.size w wr)
    (fun _ i _ => xs.length - (intOf i).toNat)
  case atStart => exact ⟨0, Nat.zero_le _, rfl, Lib.hid (GRow.made w (Nat.le_refl _)), (Below.refl _ _).alloc (Nat.le_refl _) _⟩
  case round =>
    obtain ⟨k, hk, rfl, HG, hb⟩ := hrel
    have hsz := hb.size
    by_cases hlt : k < xs.length
    · rcases h3 with h3 | ⟨b, off, rfl, hbl, hc⟩
      · subst h3; simp at hlt
      have hx0 : wr.cell? ⟨b, off + k * 2, none⟩ = some (.int .i64 (xs.getD k (0, 0)).1) := (hb.cell (p := ⟨b, off + k * 2, none⟩) hbl).trans (hc k hlt).1
      have hx1 : wr.cell? ⟨b, off + k * 2 + 1, none⟩ = some (.int .i64 (xs.getD k (0, 0)).2) := (hb.cell (p := ⟨b, off + k * 2 + 1, none⟩) hbl).trans (hc k hlt).2
      clear hc
      have HS := rollsL_succ W hlt
      have ht := HP.out k hlt
      have hlk : (rollsL (xs.take k) W).length ≤ 120 := by
        have h1 := HL.out k
        rw [List.length_take] at h1
        omega
      have hpos : 0 < (rollsL (xs.take (k + 1)) W).length := by rw [HS]; exact addS_pos _ _
      have hlk1 : (rollsL (xs.take (k + 1)) W).length ≤ 1048576 := by
        have h1 := HL.out (k + 1)
        rw [List.length_take] at h1
        omega
      generalize xs.getD k (0, 0) = p at *
      obtain ⟨x, y⟩ := p
      simp only at hx0 hx1 ht
      obtain ⟨zs, hzs⟩ : ∃ zs, zs = rollsL (xs.take (k + 1)) W := ⟨_, rfl⟩
      rw [← hzs] at HS hpos hlk1
      have HZ := Lib.hid hzs
      clear hzs
      have HS := Lib.hid HS
      obtain ⟨g, cc, rfl, hRS, hown⟩ := HG.out
      have HO := Lib.hid hown
      have HR := Lib.hid hRS
      have HB := Lib.hid hb
      have Hl := Lib.hid hlk
      have Hp := Lib.hid hpos
      have Hl1 := Lib.hid hlk1
      clear HG hown hRS hb hlk hpos hlk1
      have hd := div_small (W := W) ht.1 hW
      have e1 : wrap64 (x / W * W) = x / W * W := by unfold wrap64; omega
      have e2 : IntKind.i64.wrap (x / W * W) = x / W * W := IntWalk.i64_in _ (by omega)
      have e3 : x.tdiv W = x / W := Int.tdiv_eq_ediv_of_nonneg ht.1
      have e4 : IntKind.i64.wrap (x / W) = x / W := IntWalk.i64_in _ (by have h0 := Int.ediv_nonneg ht.1 (b := W) (by omega); have h2 := Int.ediv_le_self W ht.1; omega)
      have hx0' := ht.1
      clear ht hd
      go_wp2_with fail
      refine (HA.out g 0 cc _ (x / W * W) 1 y y y y _ HR.out (by have := Hl.out; omega)).mono ?_
      rintro e w4 ⟨v4, rfl, hown4, hb4⟩
      have HO4 := Lib.hid (own_mono hown4 hsz)
      have HB4 := Lib.hid (HB.out.trans (hb4.mono hsz))
      clear hown4 hb4
      go_wp2_with fail
      go_roundw
      case rel => exact ⟨k + 1, by omega, by go_num, Lib.hid (by rw [← HZ.out]; exact GRow.of_own (by rw [HS.out]; exact HO4.out) Hp.out Hl1.out), HB4.out⟩
      case measure => simp [intOf]; omega
    · obtain rfl : k = xs.length := by omega
      rw [List.take_length] at HG
      obtain ⟨g, cc, rfl, hRS, hown⟩ := HG.out
      have HO := Lib.hid hown
      clear HG hRS hown
      go_wp2_with fail
      go_ret
      exact ⟨_, rfl, HO.out, hb⟩

/-- a result: a row, and a flag -/
def RFlagPost (base : Nat) (xs : List R6) (b : Bool) (w : World) (e : Ending) (w' : World) : Prop :=
  ∃ v, e = .returned (.tuple #[v, .bool b]) ∧ w'.ownsRow base 48 6 v xs.length (rls xs) ∧ Below w.heap.size w w'
theorem wdB_in {W : Int} (h : wdB W = true) : 1 ≤ W ∧ W ≤ 1000000 := by
  unfold wdB vIn at h
  simpa using h

end Go.Proofs.Ytcjpedolmnahfaa
