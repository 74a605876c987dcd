/- Walks: drawn points, limits and times. -/
import Derived.Deep.DeepCutAuto
import Derived.Test.YtpmankbokbcmbaaTk
set_option linter.unusedVariables false
set_option linter.unusedSimpArgs false
namespace Go.Proofs.Ytpmankbokbcmbaa
open Go.RowKit

/-- drawn points beside the reader -/
structure TDF (base g : Nat) (w : World) (v : Value) (xs : List (Int × Int)) (W : World) : Prop where
  own : W.ownsRow base 42 2 v xs.length (prs xs)
  rd : Rd W g g
  bl : Below g w W
  lt : g < base
theorem TDF.read {base g : Nat} {w W W' : World} {v : Value} {xs : List (Int × Int)} (h : TDF base g w v xs W) (hw : w.heap.size = g) (hr : Rd W' g g) (hg : W.grownBy W' (some g)) : TDF base g w v xs W' :=
  ⟨h.own.kept hg (by
    by_cases hx : v.ownBlock = none
    · exact .inl hx
    · right; intro he; have := (h.own.lt g he).1; have := h.lt; omega), hr, h.bl.grown hg (by have := h.bl.size; omega) (fun k hk => by injection hk with hk; omega), h.lt⟩
theorem rng_wrap64 (x : Int) : Rng (IntKind.i64.wrap x) := by
  rw [IntWalk.i64_left]
  unfold Rng wrap64
  omega
theorem results_tmp4 {fn : Func} {t u v s : Tmp} (h : fn.results = #[.tmp t, .tmp u, .tmp v, .tmp s]) (tmps : Array Value) (P : Program) (w : World) :
    (results fn tmps).run P w = .ok (.tuple #[tmps.getD t undef, tmps.getD u undef, tmps.getD v undef, tmps.getD s undef]) w := by
  simp [results, h]

set_option maxRecDepth 100000 in
set_option maxHeartbeats 2000000 in
theorem DrawFiring_any (A : Option Addr) (n c : Nat) (w : World) (h : CodeAt w A n c) :
    Calls Try.prog 23 #[.slice A n c] w fun e w' => ∃ v xs a b t, e = .returned (.tuple #[v, .int .i64 a, .int .i64 b, .int .i64 t]) ∧ w'.ownsRow w.heap.size 42 2 v xs.length (prs xs) ∧ xs.length ≤ 10 ∧ (∀ p ∈ xs, Rng p.1 ∧ Rng p.2) ∧ Rng a ∧ Rng b ∧ Rng t ∧ Below w.heap.size w w' := by
  have H := Lib.hid h
  clear h
  go_enter Try.func23, Try.ntmps23
  go_wp2_with fail
  refine (open_any A n c _ H.out).mono ?_
  rintro e w1 ⟨rfl, hrd1, hb1⟩
  have Hrd1 := Lib.hid hrd1
  have Hb1 := Lib.hid hb1
  have hg1 := hrd1.lt
  clear hrd1 hb1
  go_wp2_with fail
  refine (DrawAbove_any A n c _ (H.out.below Hb1.out)).mono ?_
  rintro e w2 ⟨v, xs, a, b, rfl, hown, hxl, hxr, hra, hrb, hb2⟩
  have T2 := Lib.hid (show TDF w1.heap.size w.heap.size w v xs w2 from ⟨hown, Hrd1.out.below hb2, Hb1.out.trans (hb2.mono (by omega)), hg1⟩)
  have Hxr := Lib.hid hxr
  clear hown hxr hb2 Hrd1 Hb1 H
  go_wp2_with fail
  refine (below_any _ _ 200 _ T2.out.rd (by omega) (by omega)).mono ?_
  rintro e w3 ⟨_, rfl, ⟨y0, rfl, hy0, hy1⟩, hrd, hgr⟩
  have T3 := Lib.hid (T2.out.read rfl hrd hgr)
  clear hrd hgr T2
  obtain ⟨A2, c2, rfl, hcell⟩ : ∃ A2 c2, v = .slice A2 xs.length c2 ∧ (0 < xs.length → ∃ bb, A2 = some ⟨bb, 0, none⟩ ∧ w3.cell? ⟨bb, (xs.length - 1) * 2, none⟩ = some (.int .i64 (xs.getD (xs.length - 1) (0, 0)).1) ∧ w.heap.size < bb ∧ bb < w3.heap.size) := by
    have ho := T3.out.own
    rcases ho.2 with ⟨rfl, h0⟩ | ⟨gb, cap, cur, rfl, hb, hg, _⟩
    · exact ⟨none, 0, by rw [h0], fun h => by omega⟩
    · exact ⟨_, cap, rfl, fun h => ⟨gb, rfl, by rw [ho.cellAt _ (by omega)]; exact prs_get0 _ _ (by omega), by omega, (Array.getElem?_eq_some_iff.1 hg).1⟩⟩
  have Hcell := Lib.hid hcell
  clear hcell
  go_upto_if 23 with fail
  go_cut [10] (fun cv wx => ∃ z, cv = .int .i64 z ∧ Rng z ∧ TDF w1.heap.size w.heap.size w (.slice A2 xs.length c2) xs wx)
  case first =>
    by_cases h0 : 0 < xs.length
    · obtain ⟨bb, rfl, hc0, hb1, hb2⟩ := Hcell.out h0
      have hd0 : decide (0 < xs.length) = true := decide_eq_true h0
      have e1 : IntKind.i64.wrap ((xs.length : Int) - 1) = (xs.length : Int) - 1 := IntWalk.i64_in _ (by omega)
      have e2 : (0 : Int) ≤ (xs.length : Int) - 1 := by omega
      have e2' : (1 : Int) ≤ (xs.length : Int) := by omega
      have e3 : ((xs.length : Int) - 1).toNat = xs.length - 1 := by omega
      have e4 : (xs.length : Int) - 1 < (xs.length : Int) := by omega
      generalize (xs.getD (xs.length - 1) (0, 0)).1 = y at *
      have T3d := Lib.hid (Rd.drew T3.out.rd)
      go_wp2_with fail
      go_region_law (go_simp; go_at_call 45; refine (below_any _ _ 20 _ (by first | exact T3.out.rd | exact T3d.out) (by omega) (by omega)).mono ?_; rintro e w4 ⟨_, rfl, ⟨y4, rfl, hy4, hy5⟩, hrd4, hgr4⟩; have hc4 := hgr4.cell (a := ⟨bb, (xs.length - 1) * 2, none⟩) (v := .int .i64 y) (by exact hc0) (fun e => by injection e with e; have e' : bb = w.heap.size := e; omega); have T4 := Lib.hid (show TDF w1.heap.size w.heap.size w (.slice (some ⟨bb, 0, none⟩) xs.length c2) xs w4 from T3.out.read rfl hrd4 (by first | exact hgr4 | exact ⟨hgr4.os, hgr4.tape, hgr4.output, hgr4.size, hgr4.block⟩)); clear hrd4 hgr4)
      all_goals
        clear e1 e2 e2' e3 e4
        go_simp
        go_wp2_with fail
        go_meet
        case rel => exact ⟨_, rfl, rng_wrap64 _, T4.out⟩
    · have hd0 : decide (0 < xs.length) = false := decide_eq_false h0
      have H0 := Lib.hid h0
      clear h0
      go_wp2_with fail
      go_meet
      case rel => exact ⟨y0, rfl, ⟨by omega, by omega⟩, T3.out⟩
  case rest =>
    obtain ⟨z, rfl, hz, ht4⟩ := hcut
    have T4 := Lib.hid ht4
    have HZ := Lib.hid hz
    clear ht4 hz
    go_wp2_with fail
    refine (once_any _ _ 12 _ T4.out.rd (by omega) (by omega)).mono ?_
    rintro e w5 ⟨_, rfl, ⟨bo, rfl⟩, hrd, hgr⟩
    have T5 := Lib.hid (T4.out.read rfl hrd hgr)
    clear hrd hgr
    cases bo
    · go_wp2_with fail
      (try simp only [Exit.inBlock, Exit.then]); refine bodyPost_ret (results_tmp4 rfl _ _ _) rfl ?_
      exact ⟨_, xs, a, b, z, rfl, p_baseT T5.out.own (by omega), hxl, Hxr.out, hra, hrb, HZ.out, T5.out.bl⟩
    · go_wp2_with fail
      refine (off_any _ _ 0 100 _ T5.out.rd (by omega) (by omega) (by omega) (by omega)).mono ?_
      rintro e w6 ⟨_, rfl, ⟨y6, rfl, hyl6, hyh6⟩, hrd, hgr⟩
      have T6 := Lib.hid (T5.out.read rfl hrd hgr)
      clear hrd hgr
      go_wp2_with fail
      (try simp only [Exit.inBlock, Exit.then]); refine bodyPost_ret (results_tmp4 rfl _ _ _) rfl ?_
      exact ⟨_, xs, a, b, y6, rfl, p_baseT T6.out.own (by omega), hxl, Hxr.out, hra, hrb, ⟨hyl6, hyh6⟩, T6.out.bl⟩
end Go.Proofs.Ytpmankbokbcmbaa
