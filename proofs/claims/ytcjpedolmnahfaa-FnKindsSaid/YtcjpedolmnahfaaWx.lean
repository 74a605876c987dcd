/- Walks: slices.Clone, IndexFunc, DeleteFunc at points and rolls. -/
import Derived.Lib.SliceRun
import Derived.Test.YtcjpedolmnahfaaWu
set_option linter.unusedVariables false
set_option linter.unusedSimpArgs false
namespace Go.Proofs.Ytcjpedolmnahfaa
open Go.RowKit

theorem prs_one3 (xs : List (Int × Int)) : ∀ u ∈ prs xs, u.oneCell' = true := by
  intro u hu
  unfold prs at hu
  obtain ⟨p, _, h2⟩ := List.mem_flatMap.1 hu
  simp at h2
  rcases h2 with rfl | rfl <;> rfl
theorem prs_take : ∀ (l : List (Int × Int)) (i : Nat), (prs l).take (i * 2) = prs (l.take i)
  | [], i => by simp [prs]
  | p :: l, 0 => by simp [prs]
  | p :: l, i + 1 => by
    have ih := prs_take l i
    have e : (i + 1) * 2 = i * 2 + 1 + 1 := by omega
    rw [e]
    show List.take (i * 2 + 1 + 1) (.int .i64 p.1 :: .int .i64 p.2 :: prs l) = .int .i64 p.1 :: .int .i64 p.2 :: prs (l.take i)
    rw [List.take_succ_cons, List.take_succ_cons, ih]
theorem rls_take : ∀ (l : List R6) (i : Nat), (rls l).take (i * 6) = rls (l.take i)
  | [], i => by simp [rls]
  | p :: l, 0 => by simp [rls]
  | p :: l, i + 1 => by
    have ih := rls_take l i
    have e : (i + 1) * 6 = i * 6 + 1 + 1 + 1 + 1 + 1 + 1 := by omega
    rw [e]
    show List.take (i * 6 + 1 + 1 + 1 + 1 + 1 + 1) (.int .i64 p.1 :: .int .i64 p.2.1 :: .int .i64 p.2.2.1 :: .int .i64 p.2.2.2.1 :: .int .i64 p.2.2.2.2.1 :: .int .i64 p.2.2.2.2.2 :: rls l) = .int .i64 p.1 :: .int .i64 p.2.1 :: .int .i64 p.2.2.1 :: .int .i64 p.2.2.2.1 :: .int .i64 p.2.2.2.2.1 :: .int .i64 p.2.2.2.2.2 :: rls (l.take i)
    rw [List.take_succ_cons, List.take_succ_cons, List.take_succ_cons, List.take_succ_cons, List.take_succ_cons, List.take_succ_cons, ih]
/-- clear: of elements of several cells, in a row of the call's own -/
theorem run_clear_own {P : Program} (w : World) (t e ty : TypeId) (z : Value) (size : Nat) (ht : P.underlying t = some (.slice e)) (hv : ∀ w, (zeroValue e).run P w = .ok z w) (hz : z.cells.size = size) (h1 : ∀ u ∈ z.cells.toList, u.oneCell' = true)
    (base g n cap : Nat) (xs : List Value) (h : w.ownsRow base e size (.slice (some ⟨g, 0, none⟩) n cap) n xs) (i c : Nat) (hi : i < n) :
    ∃ w', (Builtin.clear_ #[t] ty #[.slice (some ⟨g, i * size, none⟩) (n - i) c]).run P w = .ok (.tuple #[]) w' ∧ w'.ownsRow base e size (.slice (some ⟨g, 0, none⟩) i cap) i (xs.take (i * size)) ∧ w.grownBy w' (some g) := by
  rcases h.2 with ⟨h0, _⟩ | ⟨g', cap', cur, he, hb, hg, hnc, hcm, hcs, htk⟩
  · cases h0
  · injection he with e1 e2 e3
    injection e1 with e1
    injection e1 with e1
    subst e1 e3
    have hle : i * size + (n - i) * size ≤ cur.size := by
      rw [hcs, ← Nat.add_mul]
      exact Nat.mul_le_mul_right _ (by omega)
    have hzl : (Builtin.zeroCells z.cells (n - i)).size = (n - i) * size := by rw [size_zeroCells, hz]
    have hst := run_storeCells_at P g (i * size) e (Builtin.zeroCells z.cells (n - i)).toList 0 cur w hg (by simp; rw [hzl]; exact hle) (by
      intro u hu
      obtain ⟨j, hj, rfl⟩ := List.getElem_of_mem hu
      simp only [Array.length_toList, hzl] at hj
      have hsz : 0 < z.cells.size := by
        rcases Nat.eq_zero_or_pos z.cells.size with e | e
        · rw [← hz, e, Nat.mul_zero] at hj; omega
        · exact e
      have hlt := Nat.mod_lt j hsz
      simp [Builtin.zeroCells]
      rw [getElem!_pos z.cells _ hlt]
      exact h1 _ (by simp))
    simp only [Nat.add_zero] at hst
    obtain ⟨m, hm⟩ : ∃ m, n - i = m + 1 := ⟨n - i - 1, by omega⟩
    rw [hm] at hst hzl hle
    refine ⟨_, by rw [hm]; simp [Builtin.clear_, run_underlying ht, hv, hst]; rfl, ?_, ?_⟩
    · have hi2 : i * size ≤ n * size := Nat.mul_le_mul_right _ (by omega)
      have hxl := h.1
      refine ⟨by rw [List.length_take, hxl]; omega, .inr ⟨g, cap, _, rfl, hb, setRow_heap w g cur _ _ _ hg, by omega, hcm, ?_, ?_⟩⟩
      · simp only [List.size_toArray, List.length_append, List.length_take, List.length_drop, Array.length_toList, hzl]
        rw [← hcs]; omega
      · show List.take (i * size) (List.take (i * size) cur.toList ++ (_ ++ _)) = _
        rw [List.take_append_of_le_length (by rw [List.length_take, Array.length_toList]; omega), List.take_take, Nat.min_self, ← htk, List.take_take, Nat.min_eq_left hi2]
    · exact ⟨rfl, rfl, rfl, by simp, fun k _ hk => setRow_other w g k _ (fun e => hk (by rw [e]))⟩

set_option maxRecDepth 100000 in
set_option maxHeartbeats 2000000 in
theorem clonePt_any (v : Value) (xs : List (Int × Int)) (w : World) (h : PL w w.heap.size v xs) :
    Calls Try.prog 103 #[v] w fun e w' => ∃ v', e = .returned v' ∧ w'.ownsRow w.heap.size 43 2 v' xs.length (prs xs) ∧ Below w.heap.size w w' := by
  have qT : ∀ (w : World) (a : Option Addr) (n c n' c' : Nat), (binOp .eql 27 (.slice a n c) (.slice none n' c')).run Try.prog w = .ok (.bool a.isNone) w := fun w a n c n' c' => Lib.run_eql_slice_nil w _ _ a n c n' c' Try.underlying27
  have HP := Lib.hid h
  obtain ⟨i0, hi, hz0, hz1, hz2⟩ := info_parts info_pt
  obtain ⟨z1, hlen, A, c, rfl, h3⟩ := h
  clear z1
  cases A with
  | none =>
    have e0 : xs = [] := by
      rcases h3 with h3 | ⟨b, off, e, _⟩
      · exact h3
      · cases e
    clear h3
    subst e0
    go_enter Try.func103, Try.ntmps103
    go_wp2_with fail
    go_ret
    exact ⟨_, rfl, World.ownsRow_nil _ _ _ _, Below.refl _ _⟩
  | some ad =>
    clear h3
    have HS := Lib.hid (show Src (w.alloc (.cells #[] 43)) (.slice (some ad) xs.length c) xs.length (prs xs) from (HP.out.below ((Below.refl _ _).alloc (Nat.le_refl _) _)).src)
    have HO := Lib.hid (World.ownsRow_made w (base := w.heap.size) (e := 43) (size := 2) #[] 0 (Nat.le_refl _) (by simp [maxLen]) rfl)
    go_enter Try.func103, Try.ntmps103
    go_wp2_with (at_builtin; refine wpList_append_src rfl _ _ 27 rfl w.heap.size 43 i0 (.agg #[.int .i64 0, .int .i64 0]) 2 16 Try.underlying27 hi hz0 hz1 hz2 rfl (by decide) (.slice (some ⟨w.heap.size, 0, none⟩) 0 0) 0 [] rfl HO.out (.slice (some ad) xs.length c) xs.length (prs xs) rfl HS.out (prs_length xs) (prs_one3 xs) ?c3 ?c4 ?c5 ?_)
    case c3 => unfold maxLen; omega
    case c4 => omega
    case c5 => first | omega | (simp; omega) | simp
    intro v4 w4 hown4 hgrow4
    have HB4 := Lib.hid (((Below.refl w.heap.size w).alloc (Nat.le_refl _) (.cells #[] 43)).grown hgrow4 (by simp) (fun k hk => by simp [Value.ownBlock] at hk; omega))
    have HO4 := Lib.hid (show w4.ownsRow w.heap.size 43 2 v4 xs.length (prs xs) from by simpa using hown4)
    clear hown4 hgrow4
    go_wp2_with fail
    go_ret
    exact ⟨_, rfl, HO4.out, HB4.out⟩
/-- what a predicate says of the elements of xs, wherever F holds; F is kept by whatever changes the block g alone -/
structure PredPt (c1 c2 : Value) (pd : (Int × Int) → Bool) (g : Nat) (F : World → Prop) (xs : List (Int × Int)) : Prop where
  keep : ∀ W W', F W → W.grownBy W' (some g) → F W'
  call : ∀ p ∈ xs, ∀ W, F W → Calls Try.prog 112 #[.agg #[.int .i64 p.1, .int .i64 p.2], c1, c2] W fun e W' => e = .returned (.bool (pd p)) ∧ Below W.heap.size W W'
set_option maxRecDepth 100000 in
set_option maxHeartbeats 2000000 in
theorem indexPt_any (c1 c2 : Value) (pd : (Int × Int) → Bool) (g : Nat) (F : World → Prop) (xs : List (Int × Int)) (hp : PredPt c1 c2 pd g F xs) (base cap : Nat) (w : World) (hF : F w) (h : w.ownsRow base 43 2 (.slice (some ⟨g, 0, none⟩) xs.length cap) xs.length (prs xs)) (hl : xs.length ≤ 1048576) :
    Calls Try.prog 130 #[.slice (some ⟨g, 0, none⟩) xs.length cap, .func (.func 112) #[] #[c1, c2]] w fun e w' => ((∃ j : Nat, j < xs.length ∧ (∀ i, i < j → pd (xs.getD i (0, 0)) = false) ∧ pd (xs.getD j (0, 0)) = true ∧ e = .returned (.int .i64 j)) ∨ ((∀ i, i < xs.length → pd (xs.getD i (0, 0)) = false) ∧ e = .returned (.int .i64 (-1)))) ∧ Below w.heap.size w w' := by
  have HC := Lib.hid hp.call
  have HK := Lib.hid hp.keep
  have HF := Lib.hid hF
  have HO := Lib.hid h
  clear hp hF h
  go_enter Try.func130, Try.ntmps130
  go_wp2_with fail
  go_loopw [8] (fun i wr => ∃ k : Nat, k ≤ xs.length ∧ i = .int .i64 k ∧ Hid (∀ i, i < k → pd (xs.getD i (0, 0)) = false) ∧ Hid (Below w.heap.size w wr)) (fun i _ => xs.length - (intOf i).toNat)
  case atStart => exact ⟨0, Nat.zero_le _, rfl, Lib.hid (fun i hi => by omega), Lib.hid (Below.refl _ _)⟩
  case round =>
    obtain ⟨k, hk, rfl, HA, HB⟩ := hrel
    by_cases hlt : k < xs.length
    · have HOr := Lib.hid (u_own_below HO.out HB.out)
      have HFr := Lib.hid (HK.out w wr HF.out ⟨HB.out.os, HB.out.tape, HB.out.output, HB.out.size, fun k hk _ => HB.out.block k hk⟩)
      have c0 : wr.cell? ⟨g, k * 2, none⟩ = some (.int .i64 (xs.getD k (0, 0)).1) := by rw [HOr.out.cellAt _ (by omega)]; exact prs_get0 _ _ hlt
      have c1 : wr.cell? ⟨g, k * 2 + 1, none⟩ = some (.int .i64 (xs.getD k (0, 0)).2) := by rw [HOr.out.cellAt _ (by omega)]; exact prs_get1 _ _ hlt
      have hm : xs.getD k (0, 0) ∈ xs := by rw [List.getD_eq_getElem?_getD, List.getElem?_eq_getElem hlt]; exact List.getElem_mem hlt
      have hcal := Lib.hid (HC.out _ hm wr HFr.out)
      clear hm
      obtain ⟨p, hpx⟩ : ∃ p, xs.getD k (0, 0) = p := ⟨_, rfl⟩
      have HPX := Lib.hid hpx
      rw [hpx] at hcal c0 c1
      clear hpx
      cases hpd : pd p with
      | true =>
        rw [hpd] at hcal
        have HPD := Lib.hid hpd
        clear hpd
        go_wp2_with fail
        refine hcal.out.mono ?_
        rintro e w3 ⟨rfl, hb3⟩
        have HB3 := Lib.hid (HB.out.trans (hb3.mono HB.out.size))
        clear hb3
        go_wp2_with fail
        go_ret
        exact ⟨.inl ⟨k, hlt, HA.out, by rw [HPX.out]; exact HPD.out, rfl⟩, HB3.out⟩
      | false =>
        rw [hpd] at hcal
        have HPD := Lib.hid hpd
        clear hpd
        go_wp2_with fail
        refine hcal.out.mono ?_
        rintro e w3 ⟨rfl, hb3⟩
        have HB3 := Lib.hid (HB.out.trans (hb3.mono HB.out.size))
        clear hb3
        go_wp2_with fail
        go_roundw
        case rel => exact ⟨k + 1, by omega, by go_num, Lib.hid (fun i hi => by
          by_cases e : i = k
          · rw [e, HPX.out]; exact HPD.out
          · exact HA.out i (by omega)), HB3⟩
        case measure => simp [intOf]; omega
    · obtain rfl : k = xs.length := by omega
      go_wp2_with fail
      go_ret
      exact ⟨.inr ⟨HA.out, rfl⟩, HB.out⟩

set_option maxRecDepth 100000 in
set_option maxHeartbeats 4000000 in
theorem deletePt_any (c1 c2 : Value) (pd : (Int × Int) → Bool) (g : Nat) (F : World → Prop) (xs : List (Int × Int)) (hp : PredPt c1 c2 pd g F xs) (base cap : Nat) (w : World) (hF : F w) (h : w.ownsRow base 43 2 (.slice (some ⟨g, 0, none⟩) xs.length cap) xs.length (prs xs)) (hl : xs.length ≤ 1048576) :
    Calls Try.prog 111 #[.slice (some ⟨g, 0, none⟩) xs.length cap, .func (.func 112) #[] #[c1, c2]] w fun e w' => e = .returned (.slice (some ⟨g, 0, none⟩) (xs.filter (fun p => !pd p)).length cap) ∧ w'.ownsRow base 43 2 (.slice (some ⟨g, 0, none⟩) (xs.filter (fun p => !pd p)).length cap) (xs.filter (fun p => !pd p)).length (prs (xs.filter (fun p => !pd p))) ∧ w.grownBy w' (some g) := by
  have hix := Lib.hid (indexPt_any c1 c2 pd g F xs hp base cap w hF h hl)
  have HC := Lib.hid hp.call
  have HK := Lib.hid hp.keep
  have HF := Lib.hid hF
  have HO := Lib.hid h
  clear hp hF h
  go_enter Try.func111, Try.ntmps111
  go_wp2_with fail
  refine hix.out.mono ?_
  rintro e w1 ⟨(⟨j0, hj0, hpre, hhit, rfl⟩ | ⟨hall, rfl⟩), hb1⟩
  case inr =>
    have ek : xs.filter (fun p => !pd p) = xs := List.filter_eq_self.2 (fun p hp => by
      obtain ⟨i, hi, rfl⟩ := List.getElem_of_mem hp
      have := hall i hi
      rw [List.getD_eq_getElem?_getD, List.getElem?_eq_getElem hi] at this
      simpa using this)
    have EK := Lib.hid ek
    have HO1 := Lib.hid (u_own_below HO.out hb1)
    have HB1 := Lib.hid hb1
    clear ek hall hb1
    go_wp2_with fail
    go_ret
    rw [EK.out]
    exact ⟨rfl, HO1.out, HB1.out.os, HB1.out.tape, HB1.out.output, HB1.out.size, fun k hk _ => HB1.out.block k hk⟩
  have HG1 := Lib.hid (show w.grownBy w1 (some g) from ⟨hb1.os, hb1.tape, hb1.output, hb1.size, fun k hk _ => hb1.block k hk⟩)
  have HO1 := Lib.hid (u_own_below HO.out hb1)
  have hk0 : (xs.take (j0 + 1)).filter (fun p => !pd p) = xs.take j0 := by
    rw [List.take_add_one, List.getElem?_eq_getElem hj0, List.filter_append]
    have e1 : (xs.take j0).filter (fun p => !pd p) = xs.take j0 := List.filter_eq_self.2 (fun p hp => by
      obtain ⟨i, hi, rfl⟩ := List.getElem_of_mem hp
      rw [List.length_take] at hi
      have := hpre i (by omega)
      rw [List.getD_eq_getElem?_getD, List.getElem?_eq_getElem (by omega)] at this
      rw [List.getElem_take]
      simpa using this)
    rw [e1]
    rw [List.getD_eq_getElem?_getD, List.getElem?_eq_getElem hj0] at hhit
    simp only [Option.toList_some, Option.getD_some] at hhit ⊢
    rw [List.filter_cons_of_neg (by rw [hhit]; simp)]
    simp
  have HK0 := Lib.hid hk0
  have hne : ¬ (j0 : Int) = -1 := by omega
  have hnb : ((j0 : Int) == -1) = false := beq_eq_false_iff_ne.2 hne
  clear hk0 hpre hhit hb1
  go_wp2_with fail
  go_loopw [5, 6] (fun a b wr => ∃ (i j : Nat) (l : List (Int × Int)), i < j ∧ j ≤ xs.length ∧ a = .int .i64 i ∧ b = .int .i64 j ∧ Hid (l.length = xs.length ∧ l.take i = (xs.take j).filter (fun p => !pd p) ∧ ∀ m, j ≤ m → l.getD m (0, 0) = xs.getD m (0, 0)) ∧ Hid (wr.ownsRow base 43 2 (.slice (some ⟨g, 0, none⟩) xs.length cap) xs.length (prs l)) ∧ Hid (w.grownBy wr (some g))) (fun _ b _ => xs.length - (intOf b).toNat)
  case atStart => exact ⟨j0, j0 + 1, xs, by omega, hj0, rfl, by go_num, Lib.hid ⟨rfl, HK0.out.symm, fun m _ => rfl⟩, HO1, HG1⟩
  case round =>
    obtain ⟨i, j, l, hij, hjn, rfl, rfl, HA, HOr, HG⟩ := hrel
    obtain ⟨hll, hlt0, hlr⟩ := HA.out
    by_cases hlt : j < xs.length
    · have hlj := hlr j (Nat.le_refl _)
      have hjl : j < l.length := by omega
      have hil : i < l.length := by omega
      have hm : xs.getD j (0, 0) ∈ xs := by rw [List.getD_eq_getElem?_getD, List.getElem?_eq_getElem hlt]; exact List.getElem_mem hlt
      have c0 : wr.cell? ⟨g, j * 2, none⟩ = some (.int .i64 (xs.getD j (0, 0)).1) := by rw [HOr.out.cellAt _ (by omega), ← hlj]; exact prs_get0 _ _ hjl
      have c1 : wr.cell? ⟨g, j * 2 + 1, none⟩ = some (.int .i64 (xs.getD j (0, 0)).2) := by rw [HOr.out.cellAt _ (by omega), ← hlj]; exact prs_get1 _ _ hjl
      obtain ⟨p, hpx⟩ : ∃ p, xs.getD j (0, 0) = p := ⟨_, rfl⟩
      have HPX := Lib.hid hpx
      have hsu : (xs.take (j + 1)).filter (fun p => !pd p) = l.take i ++ [p].filter (fun p => !pd p) := by
        rw [List.take_add_one, List.getElem?_eq_getElem hlt, List.filter_append, hlt0]
        rw [List.getD_eq_getElem?_getD, List.getElem?_eq_getElem hlt] at hpx
        simp only [Option.toList_some, Option.getD_some] at hpx ⊢
        rw [hpx]
      have HT := Lib.hid (fun (e : pd p = true) => (by rw [hsu, List.filter_cons_of_neg (by rw [e]; simp)]; simp : (xs.take (j + 1)).filter (fun p => !pd p) = l.take i))
      have HU := Lib.hid (fun (e : pd p = false) => (by rw [hsu, List.filter_cons_of_pos (by rw [e]; rfl)]; simp : (xs.take (j + 1)).filter (fun p => !pd p) = l.take i ++ [p]))
      obtain ⟨Wb, hWb⟩ : ∃ Wb, wr.alloc (.cells #[.int .i64 p.1, .int .i64 p.2] 43) = Wb := ⟨_, rfl⟩
      have hgb : w.grownBy Wb (some g) := by rw [← hWb]; exact HG.out.trans (World.grownBy_alloc wr _ _)
      have hFb := HK.out w Wb HF.out hgb
      rw [hpx] at hm
      have hcal := Lib.hid (HC.out _ hm Wb hFb)
      have BXb : BoxN Wb wr.heap.size #[.int .i64 p.1, .int .i64 p.2] 43 := by rw [← hWb]; exact World.alloc_heap_new wr _
      have HOb := Lib.hid (show Wb.ownsRow base 43 2 (.slice (some ⟨g, 0, none⟩) xs.length cap) xs.length (prs l) from by rw [← hWb]; exact HOr.out.alloc _)
      have HGb := Lib.hid hgb
      have HWb := Lib.hid hWb
      have b0 := BXb.cell (i := 0) rfl
      have b1 := BXb.cell (i := 1) rfl
      have QB := Lib.hid BXb
      rw [hpx] at c0 c1
      have HLL := Lib.hid (And.intro hll hlr)
      clear hpx hm hgb hFb hWb BXb hll hlr hlt0 hlj hsu
      cases hpd : pd p with
      | true =>
        rw [hpd] at hcal
        have HT := Lib.hid (HT.out hpd)
        clear hpd
        go_wp2_with fail
        rw [HWb.out]
        go_wp2_with fail
        refine hcal.out.mono ?_
        rintro e w3 ⟨rfl, hb3⟩
        have HO3 := Lib.hid (u_own_below HOb.out hb3)
        have HG3 := Lib.hid (HGb.out.trans (show Wb.grownBy w3 (some g) from ⟨hb3.os, hb3.tape, hb3.output, hb3.size, fun k hk _ => hb3.block k hk⟩))
        clear hb3
        go_wp2_with fail
        go_roundw
        case rel => exact ⟨i, j + 1, l, by omega, by omega, rfl, by go_num, Lib.hid ⟨HLL.out.1, HT.out.symm, fun m hm => HLL.out.2 m (by omega)⟩, HO3, HG3⟩
        case measure => simp [intOf]; omega
      | false =>
        rw [hpd] at hcal
        have HU := Lib.hid (HU.out hpd)
        clear hpd
        go_wp2_with fail
        rw [HWb.out]
        go_wp2_with fail
        refine hcal.out.mono ?_
        rintro e w3 ⟨rfl, hb3⟩
        have hown3 := u_own_below HOb.out hb3
        have hg3 := HGb.out.trans (show Wb.grownBy w3 (some g) from ⟨hb3.os, hb3.tape, hb3.output, hb3.size, fun k hk _ => hb3.block k hk⟩)
        have Q3 : BoxN w3 wr.heap.size #[.int .i64 p.1, .int .i64 p.2] 43 := (hb3.block _ QB.out.lt).trans QB.out
        have y0 := Q3.cell (i := 0) rfl
        have y1 := Q3.cell (i := 1) rfl
        have f0 : w3.frozen? ⟨g, i * 2, none⟩ = false := hown3.frozenAt _
        have o0 : w3.cell? ⟨g, i * 2, none⟩ = some (.int .i64 (l.getD i (0, 0)).1) := by rw [hown3.cellAt _ (by omega)]; exact prs_get0 _ _ hil
        have f1 : w3.frozen? ⟨g, i * 2 + 1, none⟩ = false := hown3.frozenAt _
        have o1 : w3.cell? ⟨g, i * 2 + 1, none⟩ = some (.int .i64 (l.getD i (0, 0)).2) := by rw [hown3.cellAt _ (by omega)]; exact prs_get1 _ _ hil
        clear hb3 Q3
        have s0 := hown3.stored (i * 2) (.int .i64 p.1)
        have s1 := s0.1.stored (i * 2 + 1) (.int .i64 p.2)
        have hown6 := s1.1
        rw [prs_set l i (p.1) (p.2) (by have := HLL.out.1; omega)] at hown6
        have hg6 := (s0.2.trans s1.2)
        clear s0 s1
        have HO6 := Lib.hid hown6
        have HG6 := Lib.hid (hg3.trans hg6)
        clear hown6 hg6 hown3 hg3
        go_wp2_with fail
        go_roundw
        case rel =>
          refine ⟨i + 1, j + 1, l.set i p, by omega, by omega, by go_num, by go_num, Lib.hid ⟨by rw [List.length_set]; exact HLL.out.1, ?_, fun m hm => ?_⟩, HO6, HG6⟩
          · rw [HU.out]
            have h1 := HLL.out.1
            rw [List.take_add_one, List.take_set_of_le (Nat.le_refl _), List.getElem?_set_self (by omega)]; rfl
          · rw [List.getD_eq_getElem?_getD, List.getElem?_set_ne (by omega), ← List.getD_eq_getElem?_getD]
            exact HLL.out.2 m (by omega)
        case measure => simp [intOf]; omega
    · obtain rfl : j = xs.length := by omega
      rw [List.take_length] at hlt0
      have hkl : (xs.filter (fun p => !pd p)).length = i := by rw [← hlt0, List.length_take]; omega
      have HKL := Lib.hid hkl
      have HTK := Lib.hid hlt0
      clear hlt0 hkl hlr hll
      have hcap : xs.length ≤ cap := by
        rcases HOr.out.2 with ⟨h0, _⟩ | ⟨g', cap', cur, he, _, _, hnc, _⟩
        · cases h0
        · injection he with e1 e2 e3; omega
      have hzv : ∀ w, (zeroValue 43).run Try.prog w = .ok (.agg #[.int .i64 0, .int .i64 0]) w := fun _ => by kernel_rfl
      obtain ⟨w9, hrun, hown9, hg9⟩ := run_clear_own (P := Try.prog) wr 27 43 0 (.agg #[.int .i64 0, .int .i64 0]) 2 Try.underlying27 hzv rfl (by decide) base g xs.length cap (prs l) HOr.out i (cap - i) hij
      have HO9 := Lib.hid hown9
      have HG9 := Lib.hid (HG.out.trans hg9)
      have HLN := Lib.hid (show l.length = xs.length from HA.out.1)
      clear hown9 hg9
      go_wp2_with fail
      go_ret
      rw [HKL.out]
      refine ⟨rfl, ?_, HG9.out⟩
      have h9 := HO9.out
      rw [prs_take l i] at h9
      rw [← HTK.out]
      exact h9

set_option maxRecDepth 100000 in
set_option maxHeartbeats 2000000 in
theorem cloneRl_any (v : Value) (xs : List R6) (w : World) (h : RL w w.heap.size v xs) :
    Calls Try.prog 105 #[v] w fun e w' => ∃ v', e = .returned v' ∧ w'.ownsRow w.heap.size 48 6 v' xs.length (rls xs) ∧ Below w.heap.size w w' := by
  have qT : ∀ (w : World) (a : Option Addr) (n c n' c' : Nat), (binOp .eql 44 (.slice a n c) (.slice none n' c')).run Try.prog w = .ok (.bool a.isNone) w := fun w a n c n' c' => Lib.run_eql_slice_nil w _ _ a n c n' c' Try.underlying44
  have HP := Lib.hid h
  obtain ⟨i0, hi, hz0, hz1, hz2⟩ := info_parts info_rl
  obtain ⟨z1, hlen, A, c, rfl, h3⟩ := h
  clear z1
  cases A with
  | none =>
    have e0 : xs = [] := by
      rcases h3 with h3 | ⟨b, off, e, _⟩
      · exact h3
      · cases e
    clear h3
    subst e0
    go_enter Try.func105, Try.ntmps105
    go_wp2_with fail
    go_ret
    exact ⟨_, rfl, World.ownsRow_nil _ _ _ _, Below.refl _ _⟩
  | some ad =>
    clear h3
    have HS := Lib.hid (show Src (w.alloc (.cells #[] 48)) (.slice (some ad) xs.length c) xs.length (rls xs) from (HP.out.below ((Below.refl _ _).alloc (Nat.le_refl _) _)).src)
    have HO := Lib.hid (World.ownsRow_made w (base := w.heap.size) (e := 48) (size := 6) #[] 0 (Nat.le_refl _) (by simp [maxLen]) rfl)
    go_enter Try.func105, Try.ntmps105
    go_wp2_with (at_builtin; refine wpList_append_src rfl _ _ 44 rfl w.heap.size 48 i0 (.agg #[.int .i64 0, .int .i64 0, .int .i64 0, .int .i64 0, .int .i64 0, .int .i64 0]) 6 48 Try.underlying44 hi hz0 hz1 hz2 rfl (by decide) (.slice (some ⟨w.heap.size, 0, none⟩) 0 0) 0 [] rfl HO.out (.slice (some ad) xs.length c) xs.length (rls xs) rfl HS.out (rls_length xs) (rls_one xs) ?c3 ?c4 ?c5 ?_)
    case c3 => unfold maxLen; omega
    case c4 => omega
    case c5 => first | omega | (simp; omega) | simp
    intro v4 w4 hown4 hgrow4
    have HB4 := Lib.hid (((Below.refl w.heap.size w).alloc (Nat.le_refl _) (.cells #[] 48)).grown hgrow4 (by simp) (fun k hk => by simp [Value.ownBlock] at hk; omega))
    have HO4 := Lib.hid (show w4.ownsRow w.heap.size 48 6 v4 xs.length (rls xs) from by simpa using hown4)
    clear hown4 hgrow4
    go_wp2_with fail
    go_ret
    exact ⟨_, rfl, HO4.out, HB4.out⟩
/-- what a predicate says of the elements of xs, wherever F holds; F is kept by whatever changes the block g alone -/
structure PredRl (c1 c2 : Value) (pd : R6 → Bool) (g : Nat) (F : World → Prop) (xs : List R6) : Prop where
  keep : ∀ W W', F W → W.grownBy W' (some g) → F W'
  call : ∀ p ∈ xs, ∀ W, F W → Calls Try.prog 114 #[.agg #[.int .i64 p.1, .int .i64 p.2.1, .int .i64 p.2.2.1, .int .i64 p.2.2.2.1, .int .i64 p.2.2.2.2.1, .int .i64 p.2.2.2.2.2], c1, c2] W fun e W' => e = .returned (.bool (pd p)) ∧ Below W.heap.size W W'
set_option maxRecDepth 100000 in
set_option maxHeartbeats 2000000 in
theorem indexRl_any (c1 c2 : Value) (pd : R6 → Bool) (g : Nat) (F : World → Prop) (xs : List R6) (hp : PredRl c1 c2 pd g F xs) (base cap : Nat) (w : World) (hF : F w) (h : w.ownsRow base 48 6 (.slice (some ⟨g, 0, none⟩) xs.length cap) xs.length (rls xs)) (hl : xs.length ≤ 1048576) :
    Calls Try.prog 131 #[.slice (some ⟨g, 0, none⟩) xs.length cap, .func (.func 114) #[] #[c1, c2]] w fun e w' => ((∃ j : Nat, j < xs.length ∧ (∀ i, i < j → pd (xs.getD i z6) = false) ∧ pd (xs.getD j z6) = true ∧ e = .returned (.int .i64 j)) ∨ ((∀ i, i < xs.length → pd (xs.getD i z6) = false) ∧ e = .returned (.int .i64 (-1)))) ∧ Below w.heap.size w w' := by
  have HC := Lib.hid hp.call
  have HK := Lib.hid hp.keep
  have HF := Lib.hid hF
  have HO := Lib.hid h
  clear hp hF h
  go_enter Try.func131, Try.ntmps131
  go_wp2_with fail
  go_loopw [8] (fun i wr => ∃ k : Nat, k ≤ xs.length ∧ i = .int .i64 k ∧ Hid (∀ i, i < k → pd (xs.getD i z6) = false) ∧ Hid (Below w.heap.size w wr)) (fun i _ => xs.length - (intOf i).toNat)
  case atStart => exact ⟨0, Nat.zero_le _, rfl, Lib.hid (fun i hi => by omega), Lib.hid (Below.refl _ _)⟩
  case round =>
    obtain ⟨k, hk, rfl, HA, HB⟩ := hrel
    by_cases hlt : k < xs.length
    · have HOr := Lib.hid (u_own_below HO.out HB.out)
      have HFr := Lib.hid (HK.out w wr HF.out ⟨HB.out.os, HB.out.tape, HB.out.output, HB.out.size, fun k hk _ => HB.out.block k hk⟩)
      have c0 : wr.cell? ⟨g, k * 6, none⟩ = some (.int .i64 (xs.getD k z6).1) := by rw [HOr.out.cellAt _ (by omega)]; exact rls_get0 _ _ hlt
      have c1 : wr.cell? ⟨g, k * 6 + 1, none⟩ = some (.int .i64 (xs.getD k z6).2.1) := by rw [HOr.out.cellAt _ (by omega)]; exact rls_get1 _ _ hlt
      have c2 : wr.cell? ⟨g, k * 6 + 2, none⟩ = some (.int .i64 (xs.getD k z6).2.2.1) := by rw [HOr.out.cellAt _ (by omega)]; exact rls_get2 _ _ hlt
      have c3 : wr.cell? ⟨g, k * 6 + 3, none⟩ = some (.int .i64 (xs.getD k z6).2.2.2.1) := by rw [HOr.out.cellAt _ (by omega)]; exact rls_get3 _ _ hlt
      have c4 : wr.cell? ⟨g, k * 6 + 4, none⟩ = some (.int .i64 (xs.getD k z6).2.2.2.2.1) := by rw [HOr.out.cellAt _ (by omega)]; exact rls_get4 _ _ hlt
      have c5 : wr.cell? ⟨g, k * 6 + 5, none⟩ = some (.int .i64 (xs.getD k z6).2.2.2.2.2) := by rw [HOr.out.cellAt _ (by omega)]; exact rls_get5 _ _ hlt
      have hm : xs.getD k z6 ∈ xs := by rw [List.getD_eq_getElem?_getD, List.getElem?_eq_getElem hlt]; exact List.getElem_mem hlt
      have hcal := Lib.hid (HC.out _ hm wr HFr.out)
      clear hm
      obtain ⟨p, hpx⟩ : ∃ p, xs.getD k z6 = p := ⟨_, rfl⟩
      have HPX := Lib.hid hpx
      rw [hpx] at hcal c0 c1 c2 c3 c4 c5
      clear hpx
      cases hpd : pd p with
      | true =>
        rw [hpd] at hcal
        have HPD := Lib.hid hpd
        clear hpd
        go_wp2_with fail
        refine hcal.out.mono ?_
        rintro e w3 ⟨rfl, hb3⟩
        have HB3 := Lib.hid (HB.out.trans (hb3.mono HB.out.size))
        clear hb3
        go_wp2_with fail
        go_ret
        exact ⟨.inl ⟨k, hlt, HA.out, by rw [HPX.out]; exact HPD.out, rfl⟩, HB3.out⟩
      | false =>
        rw [hpd] at hcal
        have HPD := Lib.hid hpd
        clear hpd
        go_wp2_with fail
        refine hcal.out.mono ?_
        rintro e w3 ⟨rfl, hb3⟩
        have HB3 := Lib.hid (HB.out.trans (hb3.mono HB.out.size))
        clear hb3
        go_wp2_with fail
        go_roundw
        case rel => exact ⟨k + 1, by omega, by go_num, Lib.hid (fun i hi => by
          by_cases e : i = k
          · rw [e, HPX.out]; exact HPD.out
          · exact HA.out i (by omega)), HB3⟩
        case measure => simp [intOf]; omega
    · obtain rfl : k = xs.length := by omega
      go_wp2_with fail
      go_ret
      exact ⟨.inr ⟨HA.out, rfl⟩, HB.out⟩

set_option maxRecDepth 100000 in
set_option maxHeartbeats 4000000 in
theorem deleteRl_any (c1 c2 : Value) (pd : R6 → Bool) (g : Nat) (F : World → Prop) (xs : List R6) (hp : PredRl c1 c2 pd g F xs) (base cap : Nat) (w : World) (hF : F w) (h : w.ownsRow base 48 6 (.slice (some ⟨g, 0, none⟩) xs.length cap) xs.length (rls xs)) (hl : xs.length ≤ 1048576) :
    Calls Try.prog 113 #[.slice (some ⟨g, 0, none⟩) xs.length cap, .func (.func 114) #[] #[c1, c2]] w fun e w' => e = .returned (.slice (some ⟨g, 0, none⟩) (xs.filter (fun p => !pd p)).length cap) ∧ w'.ownsRow base 48 6 (.slice (some ⟨g, 0, none⟩) (xs.filter (fun p => !pd p)).length cap) (xs.filter (fun p => !pd p)).length (rls (xs.filter (fun p => !pd p))) ∧ w.grownBy w' (some g) := by
  have hix := Lib.hid (indexRl_any c1 c2 pd g F xs hp base cap w hF h hl)
  have HC := Lib.hid hp.call
  have HK := Lib.hid hp.keep
  have HF := Lib.hid hF
  have HO := Lib.hid h
  clear hp hF h
  go_enter Try.func113, Try.ntmps113
  go_wp2_with fail
  refine hix.out.mono ?_
  rintro e w1 ⟨(⟨j0, hj0, hpre, hhit, rfl⟩ | ⟨hall, rfl⟩), hb1⟩
  case inr =>
    have ek : xs.filter (fun p => !pd p) = xs := List.filter_eq_self.2 (fun p hp => by
      obtain ⟨i, hi, rfl⟩ := List.getElem_of_mem hp
      have := hall i hi
      rw [List.getD_eq_getElem?_getD, List.getElem?_eq_getElem hi] at this
      simpa using this)
    have EK := Lib.hid ek
    have HO1 := Lib.hid (u_own_below HO.out hb1)
    have HB1 := Lib.hid hb1
    clear ek hall hb1
    go_wp2_with fail
    go_ret
    rw [EK.out]
    exact ⟨rfl, HO1.out, HB1.out.os, HB1.out.tape, HB1.out.output, HB1.out.size, fun k hk _ => HB1.out.block k hk⟩
  have HG1 := Lib.hid (show w.grownBy w1 (some g) from ⟨hb1.os, hb1.tape, hb1.output, hb1.size, fun k hk _ => hb1.block k hk⟩)
  have HO1 := Lib.hid (u_own_below HO.out hb1)
  have hk0 : (xs.take (j0 + 1)).filter (fun p => !pd p) = xs.take j0 := by
    rw [List.take_add_one, List.getElem?_eq_getElem hj0, List.filter_append]
    have e1 : (xs.take j0).filter (fun p => !pd p) = xs.take j0 := List.filter_eq_self.2 (fun p hp => by
      obtain ⟨i, hi, rfl⟩ := List.getElem_of_mem hp
      rw [List.length_take] at hi
      have := hpre i (by omega)
      rw [List.getD_eq_getElem?_getD, List.getElem?_eq_getElem (by omega)] at this
      rw [List.getElem_take]
      simpa using this)
    rw [e1]
    rw [List.getD_eq_getElem?_getD, List.getElem?_eq_getElem hj0] at hhit
    simp only [Option.toList_some, Option.getD_some] at hhit ⊢
    rw [List.filter_cons_of_neg (by rw [hhit]; simp)]
    simp
  have HK0 := Lib.hid hk0
  have hne : ¬ (j0 : Int) = -1 := by omega
  have hnb : ((j0 : Int) == -1) = false := beq_eq_false_iff_ne.2 hne
  clear hk0 hpre hhit hb1
  go_wp2_with fail
  go_loopw [5, 6] (fun a b wr => ∃ (i j : Nat) (l : List R6), i < j ∧ j ≤ xs.length ∧ a = .int .i64 i ∧ b = .int .i64 j ∧ Hid (l.length = xs.length ∧ l.take i = (xs.take j).filter (fun p => !pd p) ∧ ∀ m, j ≤ m → l.getD m z6 = xs.getD m z6) ∧ Hid (wr.ownsRow base 48 6 (.slice (some ⟨g, 0, none⟩) xs.length cap) xs.length (rls l)) ∧ Hid (w.grownBy wr (some g))) (fun _ b _ => xs.length - (intOf b).toNat)
  case atStart => exact ⟨j0, j0 + 1, xs, by omega, hj0, rfl, by go_num, Lib.hid ⟨rfl, HK0.out.symm, fun m _ => rfl⟩, HO1, HG1⟩
  case round =>
    obtain ⟨i, j, l, hij, hjn, rfl, rfl, HA, HOr, HG⟩ := hrel
    obtain ⟨hll, hlt0, hlr⟩ := HA.out
    by_cases hlt : j < xs.length
    · have hlj := hlr j (Nat.le_refl _)
      have hjl : j < l.length := by omega
      have hil : i < l.length := by omega
      have hm : xs.getD j z6 ∈ xs := by rw [List.getD_eq_getElem?_getD, List.getElem?_eq_getElem hlt]; exact List.getElem_mem hlt
      have c0 : wr.cell? ⟨g, j * 6, none⟩ = some (.int .i64 (xs.getD j z6).1) := by rw [HOr.out.cellAt _ (by omega), ← hlj]; exact rls_get0 _ _ hjl
      have c1 : wr.cell? ⟨g, j * 6 + 1, none⟩ = some (.int .i64 (xs.getD j z6).2.1) := by rw [HOr.out.cellAt _ (by omega), ← hlj]; exact rls_get1 _ _ hjl
      have c2 : wr.cell? ⟨g, j * 6 + 2, none⟩ = some (.int .i64 (xs.getD j z6).2.2.1) := by rw [HOr.out.cellAt _ (by omega), ← hlj]; exact rls_get2 _ _ hjl
      have c3 : wr.cell? ⟨g, j * 6 + 3, none⟩ = some (.int .i64 (xs.getD j z6).2.2.2.1) := by rw [HOr.out.cellAt _ (by omega), ← hlj]; exact rls_get3 _ _ hjl
      have c4 : wr.cell? ⟨g, j * 6 + 4, none⟩ = some (.int .i64 (xs.getD j z6).2.2.2.2.1) := by rw [HOr.out.cellAt _ (by omega), ← hlj]; exact rls_get4 _ _ hjl
      have c5 : wr.cell? ⟨g, j * 6 + 5, none⟩ = some (.int .i64 (xs.getD j z6).2.2.2.2.2) := by rw [HOr.out.cellAt _ (by omega), ← hlj]; exact rls_get5 _ _ hjl
      obtain ⟨p, hpx⟩ : ∃ p, xs.getD j z6 = p := ⟨_, rfl⟩
      have HPX := Lib.hid hpx
      have hsu : (xs.take (j + 1)).filter (fun p => !pd p) = l.take i ++ [p].filter (fun p => !pd p) := by
        rw [List.take_add_one, List.getElem?_eq_getElem hlt, List.filter_append, hlt0]
        rw [List.getD_eq_getElem?_getD, List.getElem?_eq_getElem hlt] at hpx
        simp only [Option.toList_some, Option.getD_some] at hpx ⊢
        rw [hpx]
      have HT := Lib.hid (fun (e : pd p = true) => (by rw [hsu, List.filter_cons_of_neg (by rw [e]; simp)]; simp : (xs.take (j + 1)).filter (fun p => !pd p) = l.take i))
      have HU := Lib.hid (fun (e : pd p = false) => (by rw [hsu, List.filter_cons_of_pos (by rw [e]; rfl)]; simp : (xs.take (j + 1)).filter (fun p => !pd p) = l.take i ++ [p]))
      obtain ⟨Wb, hWb⟩ : ∃ Wb, wr.alloc (.cells #[.int .i64 p.1, .int .i64 p.2.1, .int .i64 p.2.2.1, .int .i64 p.2.2.2.1, .int .i64 p.2.2.2.2.1, .int .i64 p.2.2.2.2.2] 48) = Wb := ⟨_, rfl⟩
      have hgb : w.grownBy Wb (some g) := by rw [← hWb]; exact HG.out.trans (World.grownBy_alloc wr _ _)
      have hFb := HK.out w Wb HF.out hgb
      rw [hpx] at hm
      have hcal := Lib.hid (HC.out _ hm Wb hFb)
      have BXb : BoxN Wb wr.heap.size #[.int .i64 p.1, .int .i64 p.2.1, .int .i64 p.2.2.1, .int .i64 p.2.2.2.1, .int .i64 p.2.2.2.2.1, .int .i64 p.2.2.2.2.2] 48 := by rw [← hWb]; exact World.alloc_heap_new wr _
      have HOb := Lib.hid (show Wb.ownsRow base 48 6 (.slice (some ⟨g, 0, none⟩) xs.length cap) xs.length (rls l) from by rw [← hWb]; exact HOr.out.alloc _)
      have HGb := Lib.hid hgb
      have HWb := Lib.hid hWb
      have b0 := BXb.cell (i := 0) rfl
      have b1 := BXb.cell (i := 1) rfl
      have b2 := BXb.cell (i := 2) rfl
      have b3 := BXb.cell (i := 3) rfl
      have b4 := BXb.cell (i := 4) rfl
      have b5 := BXb.cell (i := 5) rfl
      have QB := Lib.hid BXb
      rw [hpx] at c0 c1 c2 c3 c4 c5
      have HLL := Lib.hid (And.intro hll hlr)
      clear hpx hm hgb hFb hWb BXb hll hlr hlt0 hlj hsu
      cases hpd : pd p with
      | true =>
        rw [hpd] at hcal
        have HT := Lib.hid (HT.out hpd)
        clear hpd
        go_wp2_with fail
        rw [HWb.out]
        go_wp2_with fail
        refine hcal.out.mono ?_
        rintro e w3 ⟨rfl, hb3⟩
        have HO3 := Lib.hid (u_own_below HOb.out hb3)
        have HG3 := Lib.hid (HGb.out.trans (show Wb.grownBy w3 (some g) from ⟨hb3.os, hb3.tape, hb3.output, hb3.size, fun k hk _ => hb3.block k hk⟩))
        clear hb3
        go_wp2_with fail
        go_roundw
        case rel => exact ⟨i, j + 1, l, by omega, by omega, rfl, by go_num, Lib.hid ⟨HLL.out.1, HT.out.symm, fun m hm => HLL.out.2 m (by omega)⟩, HO3, HG3⟩
        case measure => simp [intOf]; omega
      | false =>
        rw [hpd] at hcal
        have HU := Lib.hid (HU.out hpd)
        clear hpd
        go_wp2_with fail
        rw [HWb.out]
        go_wp2_with fail
        refine hcal.out.mono ?_
        rintro e w3 ⟨rfl, hb3⟩
        have hown3 := u_own_below HOb.out hb3
        have hg3 := HGb.out.trans (show Wb.grownBy w3 (some g) from ⟨hb3.os, hb3.tape, hb3.output, hb3.size, fun k hk _ => hb3.block k hk⟩)
        have Q3 : BoxN w3 wr.heap.size #[.int .i64 p.1, .int .i64 p.2.1, .int .i64 p.2.2.1, .int .i64 p.2.2.2.1, .int .i64 p.2.2.2.2.1, .int .i64 p.2.2.2.2.2] 48 := (hb3.block _ QB.out.lt).trans QB.out
        have y0 := Q3.cell (i := 0) rfl
        have y1 := Q3.cell (i := 1) rfl
        have y2 := Q3.cell (i := 2) rfl
        have y3 := Q3.cell (i := 3) rfl
        have y4 := Q3.cell (i := 4) rfl
        have y5 := Q3.cell (i := 5) rfl
        have f0 : w3.frozen? ⟨g, i * 6, none⟩ = false := hown3.frozenAt _
        have o0 : w3.cell? ⟨g, i * 6, none⟩ = some (.int .i64 (l.getD i z6).1) := by rw [hown3.cellAt _ (by omega)]; exact rls_get0 _ _ hil
        have f1 : w3.frozen? ⟨g, i * 6 + 1, none⟩ = false := hown3.frozenAt _
        have o1 : w3.cell? ⟨g, i * 6 + 1, none⟩ = some (.int .i64 (l.getD i z6).2.1) := by rw [hown3.cellAt _ (by omega)]; exact rls_get1 _ _ hil
        have f2 : w3.frozen? ⟨g, i * 6 + 2, none⟩ = false := hown3.frozenAt _
        have o2 : w3.cell? ⟨g, i * 6 + 2, none⟩ = some (.int .i64 (l.getD i z6).2.2.1) := by rw [hown3.cellAt _ (by omega)]; exact rls_get2 _ _ hil
        have f3 : w3.frozen? ⟨g, i * 6 + 3, none⟩ = false := hown3.frozenAt _
        have o3 : w3.cell? ⟨g, i * 6 + 3, none⟩ = some (.int .i64 (l.getD i z6).2.2.2.1) := by rw [hown3.cellAt _ (by omega)]; exact rls_get3 _ _ hil
        have f4 : w3.frozen? ⟨g, i * 6 + 4, none⟩ = false := hown3.frozenAt _
        have o4 : w3.cell? ⟨g, i * 6 + 4, none⟩ = some (.int .i64 (l.getD i z6).2.2.2.2.1) := by rw [hown3.cellAt _ (by omega)]; exact rls_get4 _ _ hil
        have f5 : w3.frozen? ⟨g, i * 6 + 5, none⟩ = false := hown3.frozenAt _
        have o5 : w3.cell? ⟨g, i * 6 + 5, none⟩ = some (.int .i64 (l.getD i z6).2.2.2.2.2) := by rw [hown3.cellAt _ (by omega)]; exact rls_get5 _ _ hil
        clear hb3 Q3
        have s0 := hown3.stored (i * 6) (.int .i64 p.1)
        have s1 := s0.1.stored (i * 6 + 1) (.int .i64 p.2.1)
        have s2 := s1.1.stored (i * 6 + 2) (.int .i64 p.2.2.1)
        have s3 := s2.1.stored (i * 6 + 3) (.int .i64 p.2.2.2.1)
        have s4 := s3.1.stored (i * 6 + 4) (.int .i64 p.2.2.2.2.1)
        have s5 := s4.1.stored (i * 6 + 5) (.int .i64 p.2.2.2.2.2)
        have hown6 := s5.1
        rw [rls_set l i (p.1) (p.2.1) (p.2.2.1) (p.2.2.2.1) (p.2.2.2.2.1) (p.2.2.2.2.2) (by have := HLL.out.1; omega)] at hown6
        have hg6 := (((((s0.2.trans s1.2).trans s2.2).trans s3.2).trans s4.2).trans s5.2)
        clear s0 s1 s2 s3 s4 s5
        have HO6 := Lib.hid hown6
        have HG6 := Lib.hid (hg3.trans hg6)
        clear hown6 hg6 hown3 hg3
        go_wp2_with fail
        go_roundw
        case rel =>
          refine ⟨i + 1, j + 1, l.set i p, by omega, by omega, by go_num, by go_num, Lib.hid ⟨by rw [List.length_set]; exact HLL.out.1, ?_, fun m hm => ?_⟩, HO6, HG6⟩
          · rw [HU.out]
            have h1 := HLL.out.1
            rw [List.take_add_one, List.take_set_of_le (Nat.le_refl _), List.getElem?_set_self (by omega)]; rfl
          · rw [List.getD_eq_getElem?_getD, List.getElem?_set_ne (by omega), ← List.getD_eq_getElem?_getD]
            exact HLL.out.2 m (by omega)
        case measure => simp [intOf]; omega
    · obtain rfl : j = xs.length := by omega
      rw [List.take_length] at hlt0
      have hkl : (xs.filter (fun p => !pd p)).length = i := by rw [← hlt0, List.length_take]; omega
      have HKL := Lib.hid hkl
      have HTK := Lib.hid hlt0
      clear hlt0 hkl hlr hll
      have hcap : xs.length ≤ cap := by
        rcases HOr.out.2 with ⟨h0, _⟩ | ⟨g', cap', cur, he, _, _, hnc, _⟩
        · cases h0
        · injection he with e1 e2 e3; omega
      have hzv : ∀ w, (zeroValue 48).run Try.prog w = .ok (.agg #[.int .i64 0, .int .i64 0, .int .i64 0, .int .i64 0, .int .i64 0, .int .i64 0]) w := fun _ => by kernel_rfl
      obtain ⟨w9, hrun, hown9, hg9⟩ := run_clear_own (P := Try.prog) wr 44 48 0 (.agg #[.int .i64 0, .int .i64 0, .int .i64 0, .int .i64 0, .int .i64 0, .int .i64 0]) 6 Try.underlying44 hzv rfl (by decide) base g xs.length cap (rls l) HOr.out i (cap - i) hij
      have HO9 := Lib.hid hown9
      have HG9 := Lib.hid (HG.out.trans hg9)
      have HLN := Lib.hid (show l.length = xs.length from HA.out.1)
      clear hown9 hg9
      go_wp2_with fail
      go_ret
      rw [HKL.out]
      refine ⟨rfl, ?_, HG9.out⟩
      have h9 := HO9.out
      rw [rls_take l i] at h9
      rw [← HTK.out]
      exact h9
end Go.Proofs.Ytcjpedolmnahfaa
