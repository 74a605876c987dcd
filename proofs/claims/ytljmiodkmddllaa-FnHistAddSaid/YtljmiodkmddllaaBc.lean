/- Walks: slices.Clone of numbers; HistAdd of the model and of the program. -/
import Derived.Test.YtljmiodkmddllaaBb
set_option linter.unusedVariables false
set_option linter.unusedSimpArgs false
namespace Go.Proofs.Ytljmiodkmddllaa
open Go.RowKit

theorem ints_one (xs : List Int) : ∀ u ∈ ints xs, u.oneCell' = true := by
  intro u hu
  unfold ints at hu
  obtain ⟨p, _, rfl⟩ := List.mem_map.1 hu
  rfl
theorem h_ints_take (l : List Int) (k : Nat) (hk : k < l.length) : ints (l.take (k + 1)) = ints (l.take k) ++ [.int .i64 (l.getD k 0)] := by
  rw [take_snoc_int hk, ints_append]; rfl

set_option maxRecDepth 100000 in
set_option maxHeartbeats 2000000 in
theorem clone64_any (v : Value) (xs : List Int) (w : World) (h : IL w w.heap.size v xs) (hpos : 1 ≤ xs.length) :
    Calls Try.prog 41 #[v] w (OwnPost w.heap.size xs w) := by
  have qT : ∀ (w : World) (a : Option Addr) (n c n' c' : Nat), (binOp .eql 22 (.slice a n c) (.slice none n' c')).run Try.prog w = .ok (.bool a.isNone) w := fun w a n c n' c' => Lib.run_eql_slice_nil w _ _ a n c n' c' Try.underlying22
  have HP := Lib.hid h
  obtain ⟨i0, hi, hz0, hz1, hz2⟩ := info_parts u_info_i64
  obtain ⟨z1, hlen, A, c, rfl, h3⟩ := h
  clear z1
  rcases h3 with h3 | ⟨b, off, rfl, hbl, hc⟩
  · subst h3; simp at hpos
  have HC := Lib.hid (show ∀ j u, (ints xs)[j]? = some u → (w.alloc (.cells #[] 2)).cell? ((⟨b, off, none⟩ : Addr).add j) = some u from by
    intro j u hu
    have hj : j < xs.length := by
      have := (List.getElem?_eq_some_iff.1 hu).1
      rwa [ints_length] at this
    rw [ints_get _ _ hj] at hu
    injection hu with hu
    rw [← hu, Addr.add_lit]
    exact (((Below.refl w.heap.size w).alloc (Nat.le_refl _) _).cell (p := ⟨b, off + j, none⟩) hbl).trans (hc j hj))
  have HO := Lib.hid (World.ownsRow_made w (base := w.heap.size) (e := 2) (size := 1) #[] 0 (Nat.le_refl _) (by simp [maxLen]) rfl)
  clear hc
  go_enter Try.func41, Try.ntmps41
  go_wp2_with (at_builtin; refine wpList_append_own _ rfl _ _ 22 rfl w.heap.size 2 i0 (.int .i64 0) 1 8 Try.underlying22 hi hz0 hz1 hz2 rfl (by decide) (.slice (some ⟨w.heap.size, 0, none⟩) 0 0) 0 [] rfl HO.out ⟨b, off, none⟩ xs.length c (ints xs) rfl (by rw [ints_length, Nat.mul_one]) HC.out (ints_one xs) ?c3 ?c4 ?c5 ?_)
  case c3 => unfold maxLen; omega
  case c4 => omega
  case c5 => first | omega | (simp; omega) | simp
  intro v4 w4 hown4 hgrow4 _
  have HB4 := Lib.hid (((Below.refl w.heap.size w).alloc (Nat.le_refl _) (.cells #[] 2)).grown hgrow4 (by simp) (fun k hk => by simp [Value.ownBlock] at hk; omega))
  have HO4 := Lib.hid (show w4.ownsRow w.heap.size 2 1 v4 xs.length (ints xs) from by simpa using hown4)
  clear hown4 hgrow4
  go_wp2_with fail
  go_ret
  exact ⟨_, rfl, HO4.out, HB4.out⟩

set_option maxRecDepth 100000 in
set_option maxHeartbeats 4000000 in
theorem specHistAdd_any (v u : Value) (a b : List Int) (w : World) (h : IL w w.heap.size v a) (h' : IL w w.heap.size u b) :
    Calls Try.prog 17 #[v, u] w (OwnPost w.heap.size (haM a b) w) := by
  have hT1 : Below w.heap.size w (w.alloc (.cells #[] 2)) := (Below.refl _ _).alloc (Nat.le_refl _) _
  have hown1 : (w.alloc (.cells #[] 2)).ownsRow w.heap.size 2 1 (.slice (some ⟨w.heap.size, 0, none⟩) 0 0) 0 (ints []) := by
    have := World.ownsRow_made w (base := w.heap.size) (e := 2) (size := 1) #[] 0 (Nat.le_refl _) (by simp [maxLen]) rfl
    simpa [ints] using this
  have H1 := Lib.hid (show Below w.heap.size w (w.alloc (.cells #[] 2)) ∧ (w.alloc (.cells #[] 2)).ownsRow w.heap.size 2 1 (.slice (some ⟨w.heap.size, 0, none⟩) 0 0) 0 (ints []) from ⟨hT1, hown1⟩)
  have hA := Lib.hid (l16Hist_any v a _ ((h.below hT1).up (by simp)))
  have hB := Lib.hid (l16Hist_any u b _ ((h'.below hT1).up (by simp)))
  have Q1 := Lib.hid h
  have Q2 := Lib.hid h'
  clear hT1 hown1
  obtain ⟨i0, hi, hz0, hz1, hz2⟩ := info_parts u_info_i64
  obtain ⟨-, hlen, A, c, rfl, h3⟩ := h
  obtain ⟨-, hlen', A', c', rfl, h3'⟩ := h'
  cases ea : histB a with
  | false =>
    have E := Lib.hid (haM_no (a := a) (b := b) (by unfold haB; rw [ea]; rfl))
    rw [ea] at hA
    clear h3 h3'
    go_enter Try.func17, Try.ntmps17
    go_wp2_with (go_at_call 39; refine hA.out.mono ?_; rintro e w' ⟨rfl, rfl⟩)
    go_ret
    rw [E.out]
    exact ⟨_, rfl, H1.out.2, H1.out.1⟩
  | true =>
  cases eb : histB b with
  | false =>
    have E := Lib.hid (haM_no (a := a) (b := b) (by unfold haB; rw [ea, eb]; rfl))
    rw [ea] at hA
    rw [eb] at hB
    clear h3 h3'
    go_enter Try.func17, Try.ntmps17
    go_wp2_with fail
    refine hA.out.mono ?_
    rintro e w' ⟨rfl, rfl⟩
    go_wp2_with fail
    refine hB.out.mono ?_
    rintro e w' ⟨rfl, rfl⟩
    go_wp2_with fail
    go_ret
    rw [E.out]
    exact ⟨_, rfl, H1.out.2, H1.out.1⟩
  | true =>
  by_cases hl : a.length = b.length
  · have HH := Lib.hid (show Hid (∀ j, Rng ((hAdd a b).getD j 0)) from Lib.hid (hAdd_rng ea eb))
    have HIN := Lib.hid (fun j => (⟨histB_in ea j, histB_in eb j⟩ : (0 ≤ a.getD j 0 ∧ a.getD j 0 ≤ 1000000000) ∧ (0 ≤ b.getD j 0 ∧ b.getD j 0 ≤ 1000000000)))
    have HL := Lib.hid (histB_len ea)
    have HM := Lib.hid (show haM a b = if histB (hAdd a b) = true then hAdd a b else [] from by
      unfold haM haB; rw [ea, eb, decide_eq_true hl]; rfl)
    have hHO := Lib.hid (fun v W h => l16Hist_any v (hAdd a b) W h)
    rw [ea] at hA
    rw [eb] at hB
    have hle : ((a.length : Int) != (b.length : Int)) = false := by simp; omega
    have hle2 : decide ((a.length : Int) = (b.length : Int)) = true := by simp; omega
    have HLE := Lib.hid hl
    have HAL := Lib.hid (hAdd_length a b)
    have HAG := Lib.hid (hAdd_getD a b)
    clear ea eb hl
    generalize hAdd a b = Y at *
    go_enter Try.func17, Try.ntmps17
    go_wp2_with fail
    refine hA.out.mono ?_
    rintro e w' ⟨rfl, rfl⟩
    go_wp2_with fail
    refine hB.out.mono ?_
    rintro e w' ⟨rfl, rfl⟩
    go_wp2_with fail
    clear hle hle2
    go_loopw [5, 6] (fun u i wr => ∃ k : Nat, k ≤ a.length ∧ i = .int .i64 (k : Int) ∧ wr.ownsRow w.heap.size 2 1 u k (ints (Y.take k)) ∧ Below w.heap.size w wr)
        (fun _ i _ => a.length - (Go.RowKit.intOf i).toNat)
    case atStart => exact ⟨0, Nat.zero_le _, by simp, by simpa using H1.out.2, H1.out.1⟩
    case round =>
      clear H1 hA hB
      obtain ⟨k, hk, rfl, hown, hb⟩ := hrel
      by_cases hlt : k < a.length
      · have hlt' : k < b.length := by have := HLE.out; omega
        rcases h3 with h3 | ⟨b1, o1, rfl, hbl1, hc1⟩
        · subst h3; simp at hlt
        rcases h3' with h3' | ⟨b2, o2, rfl, hbl2, hc2⟩
        · subst h3'; simp at hlt'
        have hx : wr.cell? ⟨b1, o1 + k, none⟩ = some (.int .i64 (a.getD k 0)) := (hb.cell (p := ⟨b1, o1 + k, none⟩) hbl1).trans (hc1 k hlt)
        have hx0 : wr.cell? ⟨b2, o2 + k, none⟩ = some (.int .i64 (b.getD k 0)) := (hb.cell (p := ⟨b2, o2 + k, none⟩) hbl2).trans (hc2 k hlt')
        have hTk := Lib.hid (h_ints_take Y k (by rw [HAL.out]; exact hlt))
        rw [HAG.out k hlt] at hTk
        have hin := HIN.out k
        generalize a.getD k 0 = x at *
        generalize b.getD k 0 = z at *
        have hY : IntKind.i64.wrap (x + z) = x + z := IntWalk.i64_in _ (by omega)
        have hzz := hb.size
        have HL21 := HL.out
        have Hb := Lib.hid hb
        clear hc1 hc2 hb hin
        generalize hYY : x + z = y at hTk hY
        have hownD : (wr.drew.alloc (.cells #[.int .i64 y] 2)).ownsRow w.heap.size 2 1 u5 k (ints (Y.take k)) := World.ownsRow.alloc (w := wr.drew) hown _
        have hltb : (k : Int) < (b.length : Int) := by omega
        go_wp2_with fail
        go_region_law (first
          | (refine h_step_append_own _ rfl _ _ 22 rfl w.heap.size 2 i0 (.int .i64 0) 1 8 Try.underlying22 hi hz0 hz1 hz2 rfl (by decide) u5 k (ints (Y.take k)) rfl hownD ⟨wr.heap.size, 0, none⟩ 1 1 [.int .i64 y] rfl rfl (cell_one_new wr.drew _ _) (by intro q hq; simp at hq; subst hq; rfl) (by unfold maxLen; omega) (by omega) (by simp; omega) ?_; intro v' w5 hown3 hgrow))
        all_goals
          rw [← hTk.out] at hown3
          have hb5 : Below w.heap.size w w5 := ((Hb.out.drew).alloc (show w.heap.size ≤ wr.heap.size by omega) _).grown hgrow (by simp; omega) (fun k hk => (hownD.lt _ hk).1)
          clear hgrow hownD hown
          go_simp
          go_wp2_with fail
          first
          | (go_roundw; (case rel => exact ⟨k + 1, by omega, by go_num, hown3, hb5⟩); (case measure => simp [Go.RowKit.intOf]; omega))
          | exact ⟨⟨k + 1, by omega, by go_num, hown3, hb5⟩, by simp [Go.RowKit.intOf]; omega⟩
      · obtain rfl : k = a.length := by omega
        rw [List.take_of_length_le (by rw [HAL.out]; exact Nat.le_refl _)] at hown
        have I5 := Lib.hid (IL.of_own hown HAL.out.symm HH.out (by rw [HAL.out]; exact hlen))
        have HO := Lib.hid hown
        have HB := Lib.hid hb
        have hHO' := Lib.hid (hHO.out _ _ I5.out)
        have HAL2 := Lib.hid (show a.length = Y.length from HAL.out.symm)
        clear hown hb hHO
        cases ey : histB Y with
        | true =>
          rw [ey] at hHO'
          have E : Hid (haM a b = Y) := Lib.hid (by rw [HM.out, ey]; rfl)
          clear ey
          go_wp2_with (go_at_call 39; refine hHO'.out.mono ?_; rintro e w' ⟨rfl, rfl⟩)
          go_ret
          rw [E.out]
          exact ⟨_, rfl, HAL2.out ▸ HO.out, HB.out⟩
        | false =>
          rw [ey] at hHO'
          have E : Hid (haM a b = []) := Lib.hid (by rw [HM.out, ey]; rfl)
          clear ey
          go_wp2_with (go_at_call 39; refine hHO'.out.mono ?_; rintro e w' ⟨rfl, rfl⟩)
          go_ret
          have hsz := HB.out.size
          rw [E.out]
          refine ⟨_, rfl, ?_, HB.out.alloc hsz _⟩
          have := World.ownsRow_made wr (base := w.heap.size) (e := 2) (size := 1) #[] 0 hsz (by simp [maxLen]) rfl
          simpa [ints] using this
  · have E := Lib.hid (haM_no (a := a) (b := b) (by unfold haB; rw [decide_eq_false hl]; simp))
    rw [ea] at hA
    rw [eb] at hB
    have hle : ((a.length : Int) != (b.length : Int)) = true := by simp; omega
    have hle2 : decide ((a.length : Int) = (b.length : Int)) = false := by simp; omega
    clear h3 h3'
    go_enter Try.func17, Try.ntmps17
    go_wp2_with fail
    refine hA.out.mono ?_
    rintro e w' ⟨rfl, rfl⟩
    go_wp2_with fail
    refine hB.out.mono ?_
    rintro e w' ⟨rfl, rfl⟩
    go_wp2_with fail
    go_ret
    rw [E.out]
    exact ⟨_, rfl, H1.out.2, H1.out.1⟩
end Go.Proofs.Ytljmiodkmddllaa
