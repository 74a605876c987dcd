/- Walks: the program's HistAdd; the law FnExactHistAdd. -/
import Derived.Test.YtljmiodkmddllaaBc
import Derived.Test.YtljmiodkmddllaaAf
set_option linter.unusedVariables false
set_option linter.unusedSimpArgs false
namespace Go.Proofs.Ytljmiodkmddllaa
open Go.RowKit

set_option maxRecDepth 100000 in
set_option maxHeartbeats 4000000 in
theorem implHistAdd_any (v u : Value) (a b : List Int) (w : World) (h : IL w w.heap.size v a) (h' : IL w w.heap.size u b) :
    Calls Try.prog 18 #[v, u] w (OwnPost w.heap.size (haM a b) w) := by
  have hA := Lib.hid (slotsOk_any v a _ h)
  have hB := Lib.hid (slotsOk_any u b _ h')
  have Q1 := Lib.hid h
  obtain ⟨-, hlen, A, c, rfl, h3⟩ := h
  obtain ⟨-, hlen', A', c', rfl, h3'⟩ := h'
  cases ea : histB a with
  | false =>
    have E := Lib.hid (haM_no (a := a) (b := b) (by unfold haB; rw [ea]; rfl))
    rw [ea] at hA
    clear h3 h3' hB Q1
    go_enter Try.func18, Try.ntmps18
    go_wp2_with fail
    refine hA.out.mono ?_
    rintro e w' ⟨rfl, rfl⟩
    go_wp2_with fail
    go_ret
    rw [E.out]
    exact ⟨_, rfl, World.ownsRow_nil _ _ _ _, Below.refl _ _⟩
  | true =>
  cases eb : histB b with
  | false =>
    have E := Lib.hid (haM_no (a := a) (b := b) (by unfold haB; rw [ea, eb]; rfl))
    rw [ea] at hA
    rw [eb] at hB
    clear h3 h3' Q1
    go_enter Try.func18, Try.ntmps18
    go_wp2_with fail
    refine hA.out.mono ?_
    rintro e w' ⟨rfl, rfl⟩
    go_wp2_with fail
    refine hB.out.mono ?_
    rintro e w' ⟨rfl, rfl⟩
    go_wp2_with fail
    go_ret
    rw [E.out]
    exact ⟨_, rfl, World.ownsRow_nil _ _ _ _, Below.refl _ _⟩
  | true =>
  by_cases hl : a.length = b.length
  · have HH := Lib.hid (show Hid (∀ j, Rng ((hAdd a b).getD j 0)) from Lib.hid (hAdd_rng ea eb))
    have HIN := Lib.hid (fun j => (⟨histB_in ea j, histB_in eb j⟩ : (0 ≤ a.getD j 0 ∧ a.getD j 0 ≤ 1000000000) ∧ (0 ≤ b.getD j 0 ∧ b.getD j 0 ≤ 1000000000)))
    have HL := Lib.hid (histB_len ea)
    have HM := Lib.hid (show haM a b = if histB (hAdd a b) = true then hAdd a b else [] from by
      unfold haM haB; rw [ea, eb, decide_eq_true hl]; rfl)
    have hHO := Lib.hid (fun v W h => slotsOk_any v (hAdd a b) W h)
    have hCL := Lib.hid (clone64_any _ a w Q1.out HL.out.1)
    rw [ea] at hA
    rw [eb] at hB
    have hle : ((a.length : Int) != (b.length : Int)) = false := by simp; omega
    have hle2 : decide ((a.length : Int) = (b.length : Int)) = true := by simp; omega
    have HLE := Lib.hid hl
    have HAL := Lib.hid (hAdd_length a b)
    have HAG := Lib.hid (hAdd_getD a b)
    clear ea eb hl h3
    generalize hAdd a b = Y at *
    go_enter Try.func18, Try.ntmps18
    go_wp2_with fail
    refine hA.out.mono ?_
    rintro e w' ⟨rfl, rfl⟩
    go_wp2_with fail
    refine hB.out.mono ?_
    rintro e w' ⟨rfl, rfl⟩
    go_wp2_with fail
    clear hle hle2
    refine hCL.out.mono ?_
    rintro e w1 ⟨vo, rfl, hown, hb⟩
    have hpos := HL.out.1
    rcases hown.2 with ⟨rfl, h0⟩ | ⟨g, cap, cur, rfl, hbg, hg, _⟩
    · omega
    clear hg hA hB hCL Q1
    have HO1 := Lib.hid hown
    have HB1 := Lib.hid hb
    clear hown hb
    go_wp2_with fail
    go_loopw [27] (fun i wr => ∃ (k : Nat) (l : List Int), k ≤ b.length ∧ i = .int .i64 (k : Int) ∧ Hid (l.length = a.length ∧ (∀ j, j < a.length → l.getD j 0 = if j < k then Y.getD j 0 else a.getD j 0)) ∧
      wr.ownsRow w.heap.size 2 1 (.slice (some ⟨g, 0, none⟩) a.length cap) a.length (ints l) ∧ Below w.heap.size w wr)
      (fun i _ => b.length - (Go.RowKit.intOf i).toNat)
    case atStart => exact ⟨0, a, Nat.zero_le _, rfl, Lib.hid ⟨rfl, fun j hj => by simp⟩, HO1.out, HB1.out⟩
    case round =>
      clear HO1 HB1
      obtain ⟨k, l, hk, rfl, Hag, hown, hb⟩ := hrel
      by_cases hlt : k < b.length
      · have hlt' : k < a.length := by have := HLE.out; omega
        rcases h3' with h3' | ⟨b2, o2, rfl, hbl2, hc2⟩
        · subst h3'; simp at hlt
        have hx0 : wr.cell? ⟨b2, o2 + k, none⟩ = some (.int .i64 (b.getD k 0)) := (hb.cell (p := ⟨b2, o2 + k, none⟩) hbl2).trans (hc2 k hlt)
        have hlk : l.getD k 0 = a.getD k 0 := by have := Hag.out.2 k hlt'; rwa [if_neg (by omega)] at this
        have hx : wr.cell? ⟨g, k, none⟩ = some (.int .i64 (a.getD k 0)) := by
          rw [hown.cellAt _ (by omega), ints_get _ _ (by rw [Hag.out.1]; exact hlt'), hlk]
        have hfro : wr.frozen? ⟨g, k, none⟩ = false := hown.frozenAt _
        have hyk := HAG.out k hlt'
        have hin := HIN.out k
        have HYK := Lib.hid hyk
        clear hyk hlk
        generalize a.getD k 0 = x at *
        generalize b.getD k 0 = z at *
        have hY : IntKind.i64.wrap (x + z) = x + z := IntWalk.i64_in _ (by omega)
        clear hc2 hin
        generalize hYY : x + z = y at HYK hY
        have hst := hown.stored k (.int .i64 y)
        have hown2 := hst.1
        rw [ints_set] at hown2
        have hb2 : Below w.heap.size w (wr.setCell ⟨g, k, none⟩ (.int .i64 y)) := hb.setCell (by exact hbg) _
        have Hown2 := Lib.hid hown2
        have Hb2 := Lib.hid hb2
        clear hst hown hb hown2 hb2
        go_wp2_with fail
        go_roundw
        case rel =>
          refine ⟨k + 1, l.set k y, by omega, by go_num, Lib.hid ⟨by simpa using Hag.out.1, fun j hj => ?_⟩, Hown2.out, Hb2.out⟩
          rw [getD_set_int _ _ _ _ (by rw [Hag.out.1]; exact hlt')]
          by_cases e : j = k
          · subst e; rw [if_pos rfl, if_pos (by omega), HYK.out]
          · rw [if_neg e, Hag.out.2 j hj]
            by_cases e2 : j < k
            · rw [if_pos e2, if_pos (by omega)]
            · rw [if_neg e2, if_neg (by omega)]
        case measure => simp [Go.RowKit.intOf]; omega
      · obtain rfl : k = b.length := by omega
        have hlY : l = Y := ints_ext (by rw [Hag.out.1, HAL.out]) (fun j hj => by
          rw [Hag.out.2 j (by rw [← Hag.out.1]; exact hj), if_pos (by rw [← HLE.out, ← Hag.out.1]; exact hj)])
        rw [hlY] at hown
        have I5 := Lib.hid (IL.of_own hown HAL.out.symm HH.out (by rw [HAL.out]; exact hlen))
        have HO := Lib.hid hown
        have HB := Lib.hid hb
        have hHO' := Lib.hid (hHO.out _ _ I5.out)
        have HAL2 := Lib.hid (show a.length = Y.length from HAL.out.symm)
        clear hown hb hHO hlY
        cases ey : histB Y with
        | true =>
          rw [ey] at hHO'
          have E : Hid (haM a b = Y) := Lib.hid (by rw [HM.out, ey]; rfl)
          clear ey
          go_wp2_with fail
          refine hHO'.out.mono ?_
          rintro e w' ⟨rfl, rfl⟩
          go_wp2_with fail
          go_ret
          rw [E.out]
          exact ⟨_, rfl, HAL2.out ▸ HO.out, HB.out⟩
        | false =>
          rw [ey] at hHO'
          have E : Hid (haM a b = []) := Lib.hid (by rw [HM.out, ey]; rfl)
          clear ey
          go_wp2_with fail
          refine hHO'.out.mono ?_
          rintro e w' ⟨rfl, rfl⟩
          go_wp2_with fail
          go_ret
          rw [E.out]
          exact ⟨_, rfl, World.ownsRow_nil _ _ _ _, HB.out⟩
  · have E := Lib.hid (haM_no (a := a) (b := b) (by unfold haB; rw [decide_eq_false hl]; simp))
    rw [ea] at hA
    rw [eb] at hB
    have hle : ((a.length : Int) != (b.length : Int)) = true := by simp; omega
    have hle2 : decide ((a.length : Int) = (b.length : Int)) = false := by simp; omega
    clear h3 h3' Q1
    go_enter Try.func18, Try.ntmps18
    go_wp2_with fail
    refine hA.out.mono ?_
    rintro e w' ⟨rfl, rfl⟩
    go_wp2_with fail
    refine hB.out.mono ?_
    rintro e w' ⟨rfl, rfl⟩
    go_wp2_with fail
    go_ret
    rw [E.out]
    exact ⟨_, rfl, World.ownsRow_nil _ _ _ _, Below.refl _ _⟩
end Go.Proofs.Ytljmiodkmddllaa
