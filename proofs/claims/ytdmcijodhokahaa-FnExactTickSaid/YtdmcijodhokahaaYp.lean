/- Walks: rolls, added one by one: the model's walks (3). -/
import Derived.Test.YtdmcijodhokahaaYk
set_option linter.unusedVariables false
set_option linter.unusedSimpArgs false
namespace Go.Proofs.Ytdmcijodhokahaa
open Go.RowKit

set_option maxRecDepth 100000 in
set_option maxHeartbeats 4000000 in
theorem l7Add_in (b off c : Nat) (xs : List R6) (a0 a1 a2 a3 a4 a5 : Int) (w : World) (h : RS w w.heap.size ⟨b, off, none⟩ xs) (hl : xs.length + 1 ≤ 1048576) (hd : ¬ xs.length = 0) (hd2 : (lastR xs).1 = a0) :
    Calls Try.prog 115 #[.slice (some ⟨b, off, none⟩) xs.length c, .agg #[.int .i64 a0, .int .i64 a1, .int .i64 a2, .int .i64 a3, .int .i64 a4, .int .i64 a5]] w (AddPost (addS xs (a0, a1, a2, a3, a4, a5)) w) := by
  rw [addS_in hd hd2]
  obtain ⟨i0, hi, hz0, hz1, hz2⟩ := info_parts info_rl
  have hbx : Below w.heap.size w (w.alloc (.cells #[.int .i64 a0, .int .i64 a1, .int .i64 a2, .int .i64 a3, .int .i64 a4, .int .i64 a5] 56)) := (Below.refl _ _).alloc (Nat.le_refl _) _
  have hbl : b < w.heap.size := h.2.1
  have hL0 := (hbx.cell (p := ⟨b, off + (xs.length - 1) * 6, none⟩) hbl).trans (h.last (by omega)).1
  have HRS := Lib.hid (fun W (hW : Below w.heap.size w W) => (h.below hW).2.2)
  have H63 := Lib.hid (show 0 + xs.length ≤ maxLen by unfold maxLen; omega)
  have HLR := Lib.hid (rfl : lastR xs = lastR xs)
  have Hd2 := Lib.hid hd2
  rw [hd2] at hL0
  have hne : (a0 != a0) = false := by simp
  have e1 : IntKind.i64.wrap ((xs.length : Int) - 1) = (xs.length : Int) - 1 := IntWalk.i64_in _ (by omega)
  have e2 : (0 : Int) ≤ (xs.length : Int) - 1 := by omega
  have e2' : (1 : Int) ≤ (xs.length : Int) := by omega
  have e3 : ((xs.length : Int) - 1).toNat = xs.length - 1 := by omega
  have e4 : (xs.length : Int) - 1 < (xs.length : Int) := by omega
  have hn1 : decide ((xs.length : Int) - 1 < 0) = false := by simp; omega
  clear hd2 h
  go_enter Try.func115, Try.ntmps115
  go_wp2_with fail
  go_quiet (fail)
  obtain ⟨W0, hW0⟩ : ∃ W0, W0 = (w.alloc (.cells #[.int .i64 a0, .int .i64 a1, .int .i64 a2, .int .i64 a3, .int .i64 a4, .int .i64 a5] 56)).drewN nq := ⟨_, rfl⟩
  have HB0 := Lib.hid (show Below w.heap.size w W0 from by rw [hW0]; exact below_drewN_u hbx nq)
  have HS0 := Lib.hid (show W0.heap.size = w.heap.size + 1 from by rw [hW0]; simp)
  have hlt0 : w.heap.size < W0.heap.size := by have := HS0.out; omega
  have HM := Lib.hid (made0 W0 (base := w.heap.size) (by omega))
  have q0 : W0.cell? ⟨w.heap.size, 0, none⟩ = some (.int .i64 a0) := by rw [hW0]; go_simp
  have q1 : W0.cell? ⟨w.heap.size, 1, none⟩ = some (.int .i64 a1) := by rw [hW0]; go_simp
  have q2 : W0.cell? ⟨w.heap.size, 2, none⟩ = some (.int .i64 a2) := by rw [hW0]; go_simp
  have q3 : W0.cell? ⟨w.heap.size, 3, none⟩ = some (.int .i64 a3) := by rw [hW0]; go_simp
  have q4 : W0.cell? ⟨w.heap.size, 4, none⟩ = some (.int .i64 a4) := by rw [hW0]; go_simp
  have q5 : W0.cell? ⟨w.heap.size, 5, none⟩ = some (.int .i64 a5) := by rw [hW0]; go_simp
  rw [← hW0]
  clear hW0 hbx
  go_wp2_with (at_builtin; refine wpList_append_own _ rfl _ _ 52 rfl w.heap.size 56 i0 (.agg #[.int .i64 0, .int .i64 0, .int .i64 0, .int .i64 0, .int .i64 0, .int .i64 0]) 6 48 Try.underlying52 hi hz0 hz1 hz2 rfl (by decide) _ 0 (rls []) rfl HM.out ⟨b, off, none⟩ xs.length c (rls xs) rfl (rls_length xs) ?c1 (rls_one xs) H63.out ?c4 ?c5 ?_)
  case c1 => exact HRS.out _ (HB0.out.alloc (by omega) _)
  case c4 => omega
  case c5 => first | omega | (simp; omega)
  intro v4 w4 hown4 hgrow4 _
  have hB4 := (HB0.out.alloc (by omega) (.cells #[] 56)).grown hgrow4 (by simp; omega) (fun j hj => by simp [Value.ownBlock] at hj; omega)
  have hown4 : w4.ownsRow w.heap.size 56 6 v4 xs.length (rls xs) := by simpa [rls] using hown4
  have p0 : w4.cell? ⟨w.heap.size, 0, none⟩ = some (.int .i64 a0) := hgrow4.cell (a := ⟨w.heap.size, 0, none⟩) (v := .int .i64 a0) ((((Below.refl W0.heap.size W0).alloc (Nat.le_refl _) _).cell (p := ⟨w.heap.size, 0, none⟩) (by simp; omega)).trans q0) (by simp [Value.ownBlock]; omega)
  have p1 : w4.cell? ⟨w.heap.size, 1, none⟩ = some (.int .i64 a1) := hgrow4.cell (a := ⟨w.heap.size, 1, none⟩) (v := .int .i64 a1) ((((Below.refl W0.heap.size W0).alloc (Nat.le_refl _) _).cell (p := ⟨w.heap.size, 1, none⟩) (by simp; omega)).trans q1) (by simp [Value.ownBlock]; omega)
  have p2 : w4.cell? ⟨w.heap.size, 2, none⟩ = some (.int .i64 a2) := hgrow4.cell (a := ⟨w.heap.size, 2, none⟩) (v := .int .i64 a2) ((((Below.refl W0.heap.size W0).alloc (Nat.le_refl _) _).cell (p := ⟨w.heap.size, 2, none⟩) (by simp; omega)).trans q2) (by simp [Value.ownBlock]; omega)
  have p3 : w4.cell? ⟨w.heap.size, 3, none⟩ = some (.int .i64 a3) := hgrow4.cell (a := ⟨w.heap.size, 3, none⟩) (v := .int .i64 a3) ((((Below.refl W0.heap.size W0).alloc (Nat.le_refl _) _).cell (p := ⟨w.heap.size, 3, none⟩) (by simp; omega)).trans q3) (by simp [Value.ownBlock]; omega)
  have p4 : w4.cell? ⟨w.heap.size, 4, none⟩ = some (.int .i64 a4) := hgrow4.cell (a := ⟨w.heap.size, 4, none⟩) (v := .int .i64 a4) ((((Below.refl W0.heap.size W0).alloc (Nat.le_refl _) _).cell (p := ⟨w.heap.size, 4, none⟩) (by simp; omega)).trans q4) (by simp [Value.ownBlock]; omega)
  have p5 : w4.cell? ⟨w.heap.size, 5, none⟩ = some (.int .i64 a5) := hgrow4.cell (a := ⟨w.heap.size, 5, none⟩) (v := .int .i64 a5) ((((Below.refl W0.heap.size W0).alloc (Nat.le_refl _) _).cell (p := ⟨w.heap.size, 5, none⟩) (by simp; omega)).trans q5) (by simp [Value.ownBlock]; omega)
  rcases hown4.2 with ⟨rfl, hz⟩ | ⟨g, cap, cur, rfl, hgb, hg, _⟩
  · omega
  have hgl : g < w4.heap.size := (Array.getElem?_eq_some_iff.1 hg).1
  have hlt4 : w.heap.size < w4.heap.size := by have := hgrow4.size; simp at this; omega
  clear hg hgrow4
  have HC := Lib.hid hown4.cellAt
  have HO4 := Lib.hid hown4
  have HB4 := Lib.hid hB4
  have c0 : w4.cell? ⟨g, (xs.length - 1) * 6, none⟩ = some (.int .i64 (lastR xs).1) := by
    rw [HC.out _ (by omega)]; exact rls_get0 _ _ (by omega)
  have f0 : w4.frozen? ⟨g, (xs.length - 1) * 6, none⟩ = false := hown4.frozenAt _
  have c1 : w4.cell? ⟨g, (xs.length - 1) * 6 + 1, none⟩ = some (.int .i64 (lastR xs).2.1) := by
    rw [HC.out _ (by omega)]; exact rls_get1 _ _ (by omega)
  have f1 : w4.frozen? ⟨g, (xs.length - 1) * 6 + 1, none⟩ = false := hown4.frozenAt _
  have c2 : w4.cell? ⟨g, (xs.length - 1) * 6 + 2, none⟩ = some (.int .i64 (lastR xs).2.2.1) := by
    rw [HC.out _ (by omega)]; exact rls_get2 _ _ (by omega)
  have f2 : w4.frozen? ⟨g, (xs.length - 1) * 6 + 2, none⟩ = false := hown4.frozenAt _
  have c3 : w4.cell? ⟨g, (xs.length - 1) * 6 + 3, none⟩ = some (.int .i64 (lastR xs).2.2.2.1) := by
    rw [HC.out _ (by omega)]; exact rls_get3 _ _ (by omega)
  have f3 : w4.frozen? ⟨g, (xs.length - 1) * 6 + 3, none⟩ = false := hown4.frozenAt _
  have c4 : w4.cell? ⟨g, (xs.length - 1) * 6 + 4, none⟩ = some (.int .i64 (lastR xs).2.2.2.2.1) := by
    rw [HC.out _ (by omega)]; exact rls_get4 _ _ (by omega)
  have f4 : w4.frozen? ⟨g, (xs.length - 1) * 6 + 4, none⟩ = false := hown4.frozenAt _
  have c5 : w4.cell? ⟨g, (xs.length - 1) * 6 + 5, none⟩ = some (.int .i64 (lastR xs).2.2.2.2.2) := by
    rw [HC.out _ (by omega)]; exact rls_get5 _ _ (by omega)
  have f5 : w4.frozen? ⟨g, (xs.length - 1) * 6 + 5, none⟩ = false := hown4.frozenAt _
  clear hown4 hB4 HRS HM HC
  have HXL := Lib.hid (rls_set xs (xs.length - 1) (lastR xs).1 (wrap64 ((lastR xs).2.1 + a1)) (wrap64 ((lastR xs).2.2.1 + a2)) (min (lastR xs).2.2.2.1 a3) (max (lastR xs).2.2.2.2.1 a4) a5 (by omega))
  have HXW : Hid (withR (lastR xs) (a0, a1, a2, a3, a4, a5) = ((lastR xs).1, wrap64 ((lastR xs).2.1 + a1), wrap64 ((lastR xs).2.2.1 + a2), min (lastR xs).2.2.2.1 a3, max (lastR xs).2.2.2.2.1 a4, a5)) := Lib.hid rfl
  generalize (lastR xs).2.2.2.2.2 = y5 at *
  generalize (lastR xs).2.2.2.2.1 = y4 at *
  generalize (lastR xs).2.2.2.1 = y3 at *
  generalize (lastR xs).2.2.1 = y2 at *
  generalize (lastR xs).2.1 = y1 at *
  generalize (lastR xs).1 = y0 at *
  by_cases hmn : a3 < y3
  · by_cases hmx : y4 < a4
    · rw [show min y3 a3 = a3 by omega, show max y4 a4 = a4 by omega] at HXL HXW
      go_wp2_with fail
      go_ret
      have s0 := HO4.out.stored ((xs.length - 1) * 6) (.int .i64 y0)
      have s1 := s0.1.stored ((xs.length - 1) * 6 + 1) (.int .i64 (wrap64 (y1 + a1)))
      have s2 := s1.1.stored ((xs.length - 1) * 6 + 2) (.int .i64 (wrap64 (y2 + a2)))
      have s3 := s2.1.stored ((xs.length - 1) * 6 + 3) (.int .i64 a3)
      have s4 := s3.1.stored ((xs.length - 1) * 6 + 4) (.int .i64 a4)
      have s5 := s4.1.stored ((xs.length - 1) * 6 + 5) (.int .i64 a5)
      have hown6 := s5.1
      rw [HXL.out] at hown6
      have hg6 := ((((s0.2.trans s1.2).trans s2.2).trans s3.2).trans s4.2).trans s5.2
      exact ⟨_, rfl, by rw [HXW.out, List.length_set]; exact hown6.alloc _, (HB4.out.grown hg6 HB4.out.size (fun k e => by cases e; exact hgb)).alloc (by have := hg6.size; have := HB4.out.size; omega) _⟩
    · have hmx' : a4 ≤ y4 := by omega
      rw [show min y3 a3 = a3 by omega, show max y4 a4 = y4 by omega] at HXL HXW
      go_wp2_with fail
      go_ret
      have s0 := HO4.out.stored ((xs.length - 1) * 6) (.int .i64 y0)
      have s1 := s0.1.stored ((xs.length - 1) * 6 + 1) (.int .i64 (wrap64 (y1 + a1)))
      have s2 := s1.1.stored ((xs.length - 1) * 6 + 2) (.int .i64 (wrap64 (y2 + a2)))
      have s3 := s2.1.stored ((xs.length - 1) * 6 + 3) (.int .i64 a3)
      have s4 := s3.1.stored ((xs.length - 1) * 6 + 4) (.int .i64 y4)
      have s5 := s4.1.stored ((xs.length - 1) * 6 + 5) (.int .i64 a5)
      have hown6 := s5.1
      rw [HXL.out] at hown6
      have hg6 := ((((s0.2.trans s1.2).trans s2.2).trans s3.2).trans s4.2).trans s5.2
      exact ⟨_, rfl, by rw [HXW.out, List.length_set]; exact hown6.alloc _, (HB4.out.grown hg6 HB4.out.size (fun k e => by cases e; exact hgb)).alloc (by have := hg6.size; have := HB4.out.size; omega) _⟩
  · have hmn' : y3 ≤ a3 := by omega
    by_cases hmx : y4 < a4
    · rw [show min y3 a3 = y3 by omega, show max y4 a4 = a4 by omega] at HXL HXW
      go_wp2_with fail
      go_ret
      have s0 := HO4.out.stored ((xs.length - 1) * 6) (.int .i64 y0)
      have s1 := s0.1.stored ((xs.length - 1) * 6 + 1) (.int .i64 (wrap64 (y1 + a1)))
      have s2 := s1.1.stored ((xs.length - 1) * 6 + 2) (.int .i64 (wrap64 (y2 + a2)))
      have s3 := s2.1.stored ((xs.length - 1) * 6 + 3) (.int .i64 y3)
      have s4 := s3.1.stored ((xs.length - 1) * 6 + 4) (.int .i64 a4)
      have s5 := s4.1.stored ((xs.length - 1) * 6 + 5) (.int .i64 a5)
      have hown6 := s5.1
      rw [HXL.out] at hown6
      have hg6 := ((((s0.2.trans s1.2).trans s2.2).trans s3.2).trans s4.2).trans s5.2
      exact ⟨_, rfl, by rw [HXW.out, List.length_set]; exact hown6.alloc _, (HB4.out.grown hg6 HB4.out.size (fun k e => by cases e; exact hgb)).alloc (by have := hg6.size; have := HB4.out.size; omega) _⟩
    · have hmx' : a4 ≤ y4 := by omega
      rw [show min y3 a3 = y3 by omega, show max y4 a4 = y4 by omega] at HXL HXW
      go_wp2_with fail
      go_ret
      have s0 := HO4.out.stored ((xs.length - 1) * 6) (.int .i64 y0)
      have s1 := s0.1.stored ((xs.length - 1) * 6 + 1) (.int .i64 (wrap64 (y1 + a1)))
      have s2 := s1.1.stored ((xs.length - 1) * 6 + 2) (.int .i64 (wrap64 (y2 + a2)))
      have s3 := s2.1.stored ((xs.length - 1) * 6 + 3) (.int .i64 y3)
      have s4 := s3.1.stored ((xs.length - 1) * 6 + 4) (.int .i64 y4)
      have s5 := s4.1.stored ((xs.length - 1) * 6 + 5) (.int .i64 a5)
      have hown6 := s5.1
      rw [HXL.out] at hown6
      have hg6 := ((((s0.2.trans s1.2).trans s2.2).trans s3.2).trans s4.2).trans s5.2
      exact ⟨_, rfl, by rw [HXW.out, List.length_set]; exact hown6.alloc _, (HB4.out.grown hg6 HB4.out.size (fun k e => by cases e; exact hgb)).alloc (by have := hg6.size; have := HB4.out.size; omega) _⟩
end Go.Proofs.Ytdmcijodhokahaa
