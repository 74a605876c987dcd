/- Walks: the program's spans. -/
import Derived.Test.YtpmankbokbcmbaaTc
set_option linter.unusedVariables false
set_option linter.unusedSimpArgs false
namespace Go.Proofs.Ytpmankbokbcmbaa
open Go.RowKit

/-- what the closure captures: the boxes of the points, of the limit and of itself -/
structure EndF (xs : List (Int × Int)) (lim : Int) (A : Option Addr) (c bl bm bf B : Nat) (W : World) : Prop where
  sl : W.cell? ⟨bl, 0, none⟩ = some (.slice A xs.length c)
  li : W.cell? ⟨bm, 0, none⟩ = some (.int .i64 lim)
  fn : W.cell? ⟨bf, 0, none⟩ = some (.func (.func 64) #[] #[.pointer (some ⟨bl, 0, none⟩), .pointer (some ⟨bm, 0, none⟩), .pointer (some ⟨bf, 0, none⟩)])
  pts : PL W B (.slice A xs.length c) xs
  up : B ≤ W.heap.size
theorem EndF.below {xs : List (Int × Int)} {lim : Int} {A : Option Addr} {c bl bm bf B : Nat} {W W' : World} (h : EndF xs lim A c bl bm bf B W) (hb : Below W.heap.size W W') : EndF xs lim A c bl bm bf B W' :=
  ⟨(hb.cell (World.block_lt_of_cell? W _ h.sl)).trans h.sl, (hb.cell (World.block_lt_of_cell? W _ h.li)).trans h.li, (hb.cell (World.block_lt_of_cell? W _ h.fn)).trans h.fn, h.pts.below (hb.mono h.up), Nat.le_trans h.up hb.size⟩
def EndPost (xs : List (Int × Int)) (lim : Int) (i : Nat) (w : World) (e : Ending) (w' : World) : Prop :=
  ∃ j : Nat, e = .returned (.int .i64 (j : Int)) ∧ isEnd xs lim i j ∧ Below w.heap.size w w'

set_option maxRecDepth 100000 in
set_option maxHeartbeats 4000000 in
theorem endOf_any (xs : List (Int × Int)) (lim : Int) (A : Option Addr) (c bl bm bf B : Nat) : ∀ (d i : Nat) (w : World), xs.length - i = d → i ≤ xs.length → EndF xs lim A c bl bm bf B w →
    Calls Try.prog 64 #[.int .i64 (i : Int), .pointer (some ⟨bl, 0, none⟩), .pointer (some ⟨bm, 0, none⟩), .pointer (some ⟨bf, 0, none⟩)] w (EndPost xs lim i w) := by
  intro d
  induction d with
  | zero =>
    intro i w hd hi hF
    obtain rfl : i = xs.length := by omega
    have h0 := hF.sl
    have h1 := hF.li
    clear hF hd
    go_enter Try.func64, Try.ntmps64
    go_wp2_with fail
    go_quiet (fail)
    go_wp2_with fail
    go_ret
    exact ⟨xs.length, rfl, ⟨Nat.le_refl _, Nat.le_refl _, fun m h1 h2 => by omega, fun h2 => by omega⟩, by first | exact Below.refl _ _ | exact below_drewN_u (Below.refl _ _) _⟩
  | succ d ih =>
    intro i w hd hi hF
    have hlt : i < xs.length := by omega
    have h0 := hF.sl
    have h1 := hF.li
    have h2 := hF.fn
    have hlen := hF.pts.2.1
    have hne : ¬ (i : Int) = (xs.length : Int) := by omega
    have hdf : decide ((i : Int) = (xs.length : Int)) = false := by simpa using hne
    have hltI : (i : Int) < (xs.length : Int) := by omega
    have hbe : ((i : Int) == (xs.length : Int)) = false := by simpa using hne
    obtain ⟨_, _, A', c', hv, h3⟩ := hF.pts
    injection hv with e1 e2 e3
    subst e1
    clear e2 e3
    rcases h3 with h3 | ⟨b, off, rfl, hbl, hc⟩
    · subst h3; simp at hlt
    have hx := (hc i hlt).2
    have HF := Lib.hid hF
    clear hF hc
    by_cases hhi : lim < (xs.getD i (0, 0)).2
    · have HI := Lib.hid hhi
      have hih := Lib.hid (fun W (h : EndF xs lim (some ⟨b, off, none⟩) c bl bm bf B W) => show Calls Try.prog 64 #[.int .i64 ((i : Int) + 1), .pointer (some ⟨bl, 0, none⟩), .pointer (some ⟨bm, 0, none⟩), .pointer (some ⟨bf, 0, none⟩)] W (EndPost xs lim (i + 1) W) from ih (i + 1) W (by omega) (by omega) h)
      have e5 : wrap64 ((i : Int) + 1) = ((i + 1 : Nat) : Int) := by unfold wrap64; omega
      obtain ⟨y, hy⟩ : ∃ y, (xs.getD i (0, 0)).2 = y := ⟨_, rfl⟩
      rw [hy] at hx hhi HI
      have HY := Lib.hid hy
      clear hy
      clear ih
      go_enter Try.func64, Try.ntmps64
      go_wp2_with fail
      go_quiet (fail)
      go_wp2_with fail
      refine (hih.out _ (HF.out.below (below_drewN_u (Below.refl _ _) _))).mono ?_
      rintro e w2 ⟨j, rfl, hj, hb2⟩
      have HJ := Lib.hid hj
      have HB2 := Lib.hid ((below_drewN_u (Below.refl w.heap.size w) _).trans hb2)
      clear hj hb2
      go_wp2_with fail
      go_ret
      refine ⟨j, rfl, ⟨by have := HJ.out.1; omega, HJ.out.2.1, fun m m1 m2 => ?_, HJ.out.2.2.2⟩, HB2.out⟩
      by_cases e : m = i
      · subst e; rw [HY.out]; exact HI.out
      · exact HJ.out.2.2.1 m (by omega) m2
    · have HI := Lib.hid hhi
      obtain ⟨y, hy⟩ : ∃ y, (xs.getD i (0, 0)).2 = y := ⟨_, rfl⟩
      rw [hy] at hx hhi HI
      have HY := Lib.hid hy
      clear hy
      go_enter Try.func64, Try.ntmps64
      go_wp2_with fail
      go_quiet (fail)
      go_wp2_with fail
      go_ret
      exact ⟨i, rfl, ⟨Nat.le_refl _, by omega, fun m h1 h2 => by omega, fun _ => by rw [HY.out]; have := HI.out; omega⟩, by first | exact Below.refl _ _ | exact below_drewN_u (Below.refl _ _) _⟩

set_option maxRecDepth 100000 in
set_option maxHeartbeats 4000000 in
theorem spansAbove_any (v : Value) (xs : List (Int × Int)) (lim : Int) (w : World) (h : PL w w.heap.size v xs) :
    Calls Try.prog 37 #[v, .int .i64 lim] w (SOwnPost w.heap.size (spL lim none xs) w) := by
  have HP := Lib.hid h
  obtain ⟨hr, hlen, A, c, rfl, h3⟩ := h
  obtain ⟨i0, hi, hz0, hz1, hz2⟩ := info_parts info_sp
  have hmf : ∀ (fn : Fn) (first cap : Array Value) (w : World), (Instr.makeFunc fn first cap).run Try.prog w = .ok (.func fn first cap) w := fun _ _ _ _ => rfl
  have hs1 := fun (a : Addr) (c : Array Value) (w : World) => run_store Try.prog w a (.func (.func 64) #[] c) .plain rfl
  have hRl : (spL lim none xs).length ≤ xs.length := by have := spL_len lim xs none; simpa using this
  obtain ⟨R, hR⟩ : ∃ R, spL lim none xs = R := ⟨_, rfl⟩
  rw [hR] at hRl ⊢
  have HR := Lib.hid hR
  clear hR hr
  have k0 : (((w.alloc (.cells #[.slice A xs.length c] 26)).alloc (.cells #[.int .i64 lim] 2)).alloc (.cells #[(.func (.func 64) #[] #[.pointer (some ⟨w.heap.size, 0, none⟩), .pointer (some ⟨w.heap.size + 1, 0, none⟩), .pointer (some ⟨w.heap.size + 1 + 1, 0, none⟩)])] 79)).cell? ⟨w.heap.size, 0, none⟩ = some (.slice A xs.length c) := by go_simp
  have k1 : (((w.alloc (.cells #[.slice A xs.length c] 26)).alloc (.cells #[.int .i64 lim] 2)).alloc (.cells #[(.func (.func 64) #[] #[.pointer (some ⟨w.heap.size, 0, none⟩), .pointer (some ⟨w.heap.size + 1, 0, none⟩), .pointer (some ⟨w.heap.size + 1 + 1, 0, none⟩)])] 79)).cell? ⟨w.heap.size + 1, 0, none⟩ = some (.int .i64 lim) := by go_simp
  have k2 : (((w.alloc (.cells #[.slice A xs.length c] 26)).alloc (.cells #[.int .i64 lim] 2)).alloc (.cells #[(.func (.func 64) #[] #[.pointer (some ⟨w.heap.size, 0, none⟩), .pointer (some ⟨w.heap.size + 1, 0, none⟩), .pointer (some ⟨w.heap.size + 1 + 1, 0, none⟩)])] 79)).cell? ⟨w.heap.size + 1 + 1, 0, none⟩ = some (.func (.func 64) #[] #[.pointer (some ⟨w.heap.size, 0, none⟩), .pointer (some ⟨w.heap.size + 1, 0, none⟩), .pointer (some ⟨w.heap.size + 1 + 1, 0, none⟩)]) := by go_simp
  obtain ⟨W0, hW0⟩ : ∃ W0, ((w.alloc (.cells #[.slice A xs.length c] 26)).alloc (.cells #[.int .i64 lim] 2)).alloc (.cells #[(.func (.func 64) #[] #[.pointer (some ⟨w.heap.size, 0, none⟩), .pointer (some ⟨w.heap.size + 1, 0, none⟩), .pointer (some ⟨w.heap.size + 1 + 1, 0, none⟩)])] 79) = W0 := ⟨_, rfl⟩
  rw [hW0] at k0 k1 k2
  have B0 := Lib.hid (show Below w.heap.size w W0 from by rw [← hW0]; exact (((Below.refl _ w).alloc (Nat.le_refl _) _).alloc (by simp) _).alloc (by simp; omega) _)
  have S0 : W0.heap.size = w.heap.size + 3 := by rw [← hW0]; simp
  have F0 := Lib.hid (show EndF xs lim A c w.heap.size (w.heap.size + 1) (w.heap.size + 1 + 1) w.heap.size W0 from
    ⟨k0, k1, k2, HP.out.below B0.out, B0.out.size⟩)
  have HW0 := Lib.hid hW0
  clear hW0 k0 k1 k2
  go_enter Try.func37, Try.ntmps37
  go_wp2_with fail
  rw [HW0.out]
  go_loopw [6, 7] (fun v i wr => ∃ (k : Nat) (ys : List (Int × Int)), k ≤ xs.length + 1 ∧ i = .int .i64 (k : Int) ∧ Hid (ys ++ spL lim none (xs.drop k) = R) ∧ Hid (wr.ownsRow W0.heap.size 40 2 v ys.length (prs ys)) ∧ Hid (Below W0.heap.size W0 wr))
    (fun _ i _ => xs.length + 1 - (intOf i).toNat)
  case atStart =>
    exact ⟨0, [], Nat.zero_le _, rfl, Lib.hid (by simpa using HR.out), Lib.hid (World.ownsRow_nil _ _ _ _), Lib.hid (Below.refl _ _)⟩
  case round =>
    obtain ⟨k, ys, hk, rfl, HL, HO, HB⟩ := hrel
    by_cases hlt : k < xs.length
    · have HF := Lib.hid (F0.out.below HB.out)
      have hsz := HB.out.size
      have h0 := HF.out.sl
      have h2 := HF.out.fn
      have hltI : (k : Int) < (xs.length : Int) := by omega
      rcases h3 with h3 | ⟨b, off, rfl, hbl, hc⟩
      · subst h3; simp at hlt
      have HC := Lib.hid (fun j hj => ((B0.out.trans (HB.out.mono (by omega))).cell (p := ⟨b, off + j * 2, none⟩) hbl).trans (hc j hj).1)
      have HE := Lib.hid (endOf_any xs lim (some ⟨b, off, none⟩) c w.heap.size (w.heap.size + 1) (w.heap.size + 1 + 1) w.heap.size _ k wr rfl (by omega) HF.out)
      clear hc
      go_wp2_with fail
      refine HE.out.mono ?_
      rintro e w2 ⟨j, rfl, hj, hb2⟩
      have HJ := Lib.hid hj
      have hjl := hj.2.1
      have hjk := hj.1
      have HB2 := Lib.hid (HB.out.trans (hb2.mono hsz))
      have HO2 := Lib.hid (u_own_below HO.out hb2)
      have hsz2 := HB2.out.size
      have HF2 := Lib.hid (HF.out.below hb2)
      have HC2 := Lib.hid (fun j hj => (hb2.cell (p := ⟨b, off + j * 2, none⟩) (show b < wr.heap.size by omega)).trans (HC.out j hj))
      clear hj hb2 HE HC HO HB HF h0 h2
      by_cases hgt : k < j
      · have hgtI : (k : Int) < (j : Int) := by omega
        have h0 := HF2.out.sl
        have d0 := HC2.out k hlt
        have d1 := HC2.out (j - 1) (by omega)
        have e1 : IntKind.i64.wrap ((j : Int) - 1) = (j : Int) - 1 := IntWalk.i64_in _ (by omega)
        have e2 : (0 : Int) ≤ (j : Int) - 1 := by omega
        have e2' : (1 : Int) ≤ (j : Int) := by omega
        have e3 : ((j : Int) - 1).toNat = j - 1 := by omega
        have e4 : (j : Int) - 1 < (xs.length : Int) := by omega
        have hE := HL.out
        rw [spL_isEnd HJ.out hgt] at hE
        have hyl : ys.length < 1048576 := by
          have := congrArg List.length hE
          rw [List.length_append, List.length_cons] at this
          omega
        have E := Lib.hid (show (ys ++ [((xs.getD k (0, 0)).1, (xs.getD (j - 1) (0, 0)).1)]) ++ spL lim none (xs.drop (j + 1)) = R from by rw [List.append_assoc]; exact hE)
        generalize (xs.getD (j - 1) (0, 0)).1 = y at *
        generalize (xs.getD k (0, 0)).1 = x at *
        clear HL hE HC2
        go_wp2_with fail
        go_region_law (refine step_append_ownT _ rfl _ _ 24 rfl W0.heap.size 40 i0 (.agg #[.int .i64 0, .int .i64 0]) 2 16 Try.underlying24 hi hz0 hz1 hz2 rfl (by decide) u6 ys.length (prs ys) rfl ((HO2.out.alloc _).drew) ⟨w2.heap.size, 0, none⟩ 1 1 [.int .i64 x, .int .i64 y] rfl rfl (two_cells (by go_simp) (by go_simp)) (fun u hu => by simp at hu; rcases hu with rfl | rfl <;> rfl) (by unfold maxLen; omega) (by omega) (by first | omega | (simp; omega)) ?_; intro v4 w4 hown4 hgrow4; have hb4 := ((HB2.out.alloc hsz2 _).drew).grown hgrow4 (by first | omega | (simp; omega)) (fun j hj => (HO2.out.lt j hj).1))
        all_goals
          clear e1 e2 e2' e3 e4 d0 d1 h0
          have HO4 := Lib.hid (show w4.ownsRow W0.heap.size 40 2 v4 (ys ++ [(x, y)]).length (prs (ys ++ [(x, y)])) from by rw [prs_append, List.length_append]; exact hown4)
          have HB4 := Lib.hid hb4
          clear hown4 hgrow4 hb4
          try go_simp
          go_wp2_with fail
          go_roundw
          case rel => exact ⟨j + 1, ys ++ [(x, y)], by omega, by go_num, E, HO4, HB4⟩
          case measure => simp [intOf]; omega
      · obtain rfl : k = j := by omega
        have E := Lib.hid (show ys ++ spL lim none (xs.drop (k + 1)) = R from by rw [← HL.out, spL_isEnd0 hlt HJ.out])
        clear HL
        go_wp2_with fail
        go_roundw
        case rel => exact ⟨k + 1, ys, by omega, by go_num, E, HO2, HB2⟩
        case measure => simp [intOf]; omega
    · have hltI : ¬ (k : Int) < (xs.length : Int) := by omega
      have h0 := (F0.out.below HB.out).sl
      have e : ys = R := by have := HL.out; rw [List.drop_eq_nil_of_le (by omega)] at this; simpa [spL] using this
      subst e
      go_wp2_with fail
      go_ret
      exact ⟨_, rfl, own_mono HO.out (by omega), B0.out.trans (HB.out.mono (by omega))⟩
end Go.Proofs.Ytpmankbokbcmbaa
