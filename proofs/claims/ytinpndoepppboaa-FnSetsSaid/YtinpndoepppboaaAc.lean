/- Walks: sets of numbers: the model's And, Less, Or. -/
import Derived.Test.YtinpndoepppboaaAb
set_option linter.unusedVariables false
set_option linter.unusedSimpArgs false
namespace Go.Proofs.Ytinpndoepppboaa
open Go.RowKit

theorem insI_at {n : Int} : ∀ {l : List Int} {k : Nat}, k ≤ l.length → (∀ j, j < k → l.getD j 0 < n) → (k = l.length ∨ n < l.getD k 0) → insI n l = l.take k ++ ([n] ++ l.drop k)
  | [], k, hk, _, _ => by
    have : k = 0 := by simpa using hk
    subst this; rfl
  | y :: r, 0, _, _, h => by
    rcases h with h | h
    · simp at h
    · rw [insI, if_pos (by simpa using h)]; rfl
  | y :: r, k + 1, hk, h1, h => by
    have h0 : y < n := by simpa using h1 0 (by omega)
    rw [insI, if_neg (by omega), insI_at (k := k) (by simpa using hk) (fun j hj => by simpa using h1 (j + 1) (by omega)) (by
      rcases h with h | h
      · left; simpa using h
      · right; simpa using h)]
    rfl
theorem ints_one (xs : List Int) : ∀ u ∈ ints xs, u.oneCell' = true := by
  intro u hu
  unfold ints at hu
  obtain ⟨p, _, rfl⟩ := List.mem_map.1 hu
  rfl
theorem own_lift {w : World} {base base' sz : Nat} {e : TypeId} {v : Value} {n : Nat} {xs : List Value} (h : w.ownsRow base e sz v n xs) (hb : base' ≤ base) : w.ownsRow base' e sz v n xs :=
  ⟨h.1, h.2.imp id fun ⟨g, cap, cur, a, b, c⟩ => ⟨g, cap, cur, a, Nat.le_trans hb b, c⟩⟩
theorem own_eq {w : World} {base sz : Nat} {e : TypeId} {v : Value} {n n' : Nat} {xs xs' : List Value} (h : w.ownsRow base e sz v n xs) (hn : n = n') (hx : xs = xs') : w.ownsRow base e sz v n' xs' := by subst hn; subst hx; exact h
theorem made_nil (w : World) : (w.alloc (.cells #[] 2)).ownsRow w.heap.size 2 1 (.slice (some ⟨w.heap.size, 0, none⟩) 0 0) 0 (ints []) := by
  have := World.ownsRow_made w (base := w.heap.size) (e := 2) (size := 1) #[] 0 (Nat.le_refl _) (by simp [maxLen]) rfl
  simpa [ints] using this
theorem one_row {w : World} {b : Nat} {x : Value} (h0 : w.cell? ⟨b, 0, none⟩ = some x) : ∀ (j : Nat) (u : Value), [x][j]? = some u → w.cell? ((⟨b, 0, none⟩ : Addr).add j) = some u := by
  intro j u hj
  match j with
  | 0 => simp at hj; subst hj; exact h0
  | j + 1 => simp at hj
theorem addr_add (g off j : Nat) : (⟨g, off, none⟩ : Addr).add j = ⟨g, off + j, none⟩ := by
  unfold Addr.add
  split
  · rename_i h; subst h; rfl
  · rfl
theorem ints_take_cell {w : World} {base : Nat} {g c : Nat} {l : List Int} (h : w.ownsRow base 2 1 (.slice (some ⟨g, 0, none⟩) l.length c) l.length (ints l)) (off : Nat) (ys : List Int) (hy : ys <+: l.drop off) : ∀ (j : Nat) (u : Value), (ints ys)[j]? = some u → w.cell? ((⟨g, off, none⟩ : Addr).add j) = some u := by
  intro j u hu
  have hj : j < ys.length := by
    have := (List.getElem?_eq_some_iff.1 hu).1
    rwa [ints_length] at this
  have hle := hy.length_le
  rw [List.length_drop] at hle
  have e : l.getD (off + j) 0 = ys.getD j 0 := by
    obtain ⟨t, ht⟩ := hy
    have h1 : (l.drop off)[j]? = ys[j]? := by rw [← ht, List.getElem?_append_left hj]
    rw [List.getElem?_drop] at h1
    rw [List.getD_eq_getElem?_getD, List.getD_eq_getElem?_getD, h1]
  have h2 := ints_get ys j hj
  rw [h2] at hu
  cases hu
  rw [← e, addr_add, h.cellAt _ (by omega)]
  exact ints_get _ _ (by omega)


set_option maxRecDepth 100000 in
set_option maxHeartbeats 2000000 in
theorem specAnd_any (v u : Value) (a b : List Int) (w : World) (h : IL w w.heap.size v a) (h' : IL w w.heap.size u b) :
    Calls Try.prog 34 #[v, u] w (OwnPost w.heap.size (andM a b) w) := by
  have HP := Lib.hid h
  have HQ := Lib.hid h'
  have hS1 := Lib.hid (fun W h => l10Ids_any v a W h)
  have hS2 := Lib.hid (fun W h => l10Ids_any u b W h)
  have hH := Lib.hid (fun n W h => l10Has_any u b n W h)
  obtain ⟨hr, hlen, A, c, rfl, h3⟩ := h
  clear hr h'
  unfold andM
  cases h1 : idsB a with
  | false =>
    rw [h1] at hS1
    rw [if_neg (by simp)]
    clear h1
    go_enter Try.func34, Try.ntmps34
    go_wp2_with fail
    refine (hS1.out _ ((HP.out.below ((Below.refl _ w).alloc (Nat.le_refl _) _)).up (by simp))).mono ?_
    rintro e w1 ⟨rfl, hb1⟩
    have hb2 := ((Below.refl w.heap.size w).alloc (Nat.le_refl _) (.cells #[] 2)).trans (hb1.mono (by simp))
    have hown := u_own_below (World.ownsRow_made w (base := w.heap.size) (e := 2) (size := 1) #[] 0 (Nat.le_refl _) (by simp [maxLen]) rfl) hb1
    go_wp2_with fail
    go_ret
    exact ⟨_, rfl, by simpa [ints] using hown, hb2⟩
  | true =>
  cases h2 : idsB b with
  | false =>
    rw [h1] at hS1
    rw [h2] at hS2
    rw [if_neg (by simp)]
    clear h1 h2
    go_enter Try.func34, Try.ntmps34
    go_wp2_with fail
    refine (hS1.out _ ((HP.out.below ((Below.refl _ w).alloc (Nat.le_refl _) _)).up (by simp))).mono ?_
    rintro e w1 ⟨rfl, hb1⟩
    have HB2 := Lib.hid (((Below.refl w.heap.size w).alloc (Nat.le_refl _) (.cells #[] 2)).trans (hb1.mono (by simp)))
    have HO := Lib.hid (u_own_below (World.ownsRow_made w (base := w.heap.size) (e := 2) (size := 1) #[] 0 (Nat.le_refl _) (by simp [maxLen]) rfl) hb1)
    clear hb1
    go_wp2_with fail
    refine (hS2.out _ ((HQ.out.below HB2.out).up HB2.out.size)).mono ?_
    rintro e w2 ⟨rfl, hb2⟩
    have hown := u_own_below HO.out hb2
    have hb3 := HB2.out.trans (hb2.mono HB2.out.size)
    go_wp2_with fail
    go_ret
    exact ⟨_, rfl, by simpa [ints] using hown, hb3⟩
  | true =>
    rw [h1] at hS1
    rw [h2] at hS2
    rw [if_pos ⟨rfl, rfl⟩]
    clear h1 h2
    obtain ⟨i0, hi, hz0, hz1, hz2⟩ := info_parts u_info_i64
    have HS := Lib.hid (fun k hk => filter_snoc (l := a) (k := k) (fun x => decide (x ∈ b)) hk)
    have HL := Lib.hid (filter_len a (fun x => decide (x ∈ b)))
    have HE : Hid (andL a b = (a.take a.length).filter (fun x => decide (x ∈ b))) := Lib.hid (by rw [List.take_length]; rfl)
    rw [HE.out]
    go_enter Try.func34, Try.ntmps34
    go_wp2_with fail
    refine (hS1.out _ ((HP.out.below ((Below.refl _ w).alloc (Nat.le_refl _) _)).up (by simp))).mono ?_
    rintro e w1 ⟨rfl, hb1⟩
    have HB2 := Lib.hid (((Below.refl w.heap.size w).alloc (Nat.le_refl _) (.cells #[] 2)).trans (hb1.mono (by simp)))
    have HO := Lib.hid (u_own_below (World.ownsRow_made w (base := w.heap.size) (e := 2) (size := 1) #[] 0 (Nat.le_refl _) (by simp [maxLen]) rfl) hb1)
    clear hb1
    go_wp2_with fail
    refine (hS2.out _ ((HQ.out.below HB2.out).up HB2.out.size)).mono ?_
    rintro e w2 ⟨rfl, hb2⟩
    have HO2 := Lib.hid (u_own_below HO.out hb2)
    have HB3 := Lib.hid (HB2.out.trans (hb2.mono HB2.out.size))
    clear hb2 HO HB2
    go_wp2_with fail
    go_loopw [5, 6] (fun o i wr => ∃ k : Nat, k ≤ a.length ∧ i = .int .i64 k ∧ wr.ownsRow w.heap.size 2 1 o ((a.take k).filter (fun x => decide (x ∈ b))).length (ints ((a.take k).filter (fun x => decide (x ∈ b)))) ∧ Below w.heap.size w wr) (fun _ i _ => a.length - (Go.RowKit.intOf i).toNat)
    case atStart => exact ⟨0, Nat.zero_le _, rfl, by simpa [ints] using HO2.out, HB3.out⟩
    case round =>
      clear HO2 HB3
      obtain ⟨k, hk, rfl, hown, hb⟩ := hrel
      have HO := Lib.hid hown
      have HB := Lib.hid hb
      clear hown hb
      by_cases hlt : k < a.length
      · rcases h3 with h3 | ⟨bb, off, rfl, hbl, hc⟩
        · subst h3; simp at hlt
        have hx : wr.cell? ⟨bb, off + k, none⟩ = some (.int .i64 (a.getD k 0)) := (HB.out.cell (p := ⟨bb, off + k, none⟩) hbl).trans (hc k hlt)
        have HSk := Lib.hid (HS.out k hlt)
        have hlk := HL.out k
        have hsz := HB.out.size
        have HQ3 := Lib.hid ((HQ.out.below HB.out).up hsz)
        have hHx := Lib.hid (fun W h => hH.out (a.getD k 0) W h)
        clear hc
        generalize a.getD k 0 = x at *
        cases hin : decide (x ∈ b) with
        | true =>
          rw [hin] at hHx HSk
          rw [if_pos rfl] at HSk
          clear hin
          go_wp2_with fail
          refine (hHx.out _ HQ3.out).mono ?_
          rintro e w' ⟨rfl, rfl⟩
          go_wp2_with (at_builtin; refine wpList_append_own _ rfl _ _ 46 rfl w.heap.size 2 i0 (.int .i64 0) 1 8 Try.underlying46 hi hz0 hz1 hz2 rfl (by decide) _ _ _ rfl (HO.out.alloc _) ⟨wr.heap.size, 0, none⟩ 1 1 [.int .i64 x] rfl rfl (one_row (by go_simp)) (ints_one [x]) ?c3 ?c4 ?c5 ?_)
          case c3 => unfold maxLen; omega
          case c4 => omega
          case c5 => first | omega | (simp; omega)
          intro v' w4 hown' hgrow _
          have HB4 := Lib.hid (u_below_append HB.out (Nat.le_refl _) HB.out.size HO.out hgrow)
          have HO4 := Lib.hid (show w4.ownsRow w.heap.size 2 1 v' ((a.take (k + 1)).filter (fun x => decide (x ∈ b))).length (ints ((a.take (k + 1)).filter (fun x => decide (x ∈ b)))) from by rw [HSk.out, ints_append, List.length_append]; exact hown')
          clear hown' hgrow
          go_wp2_with fail
          go_roundw
          case rel => exact ⟨k + 1, by omega, by go_num, HO4.out, HB4.out⟩
          case measure => simp [Go.RowKit.intOf]; omega
        | false =>
          rw [hin] at hHx HSk
          rw [if_neg (by simp), List.append_nil] at HSk
          clear hin
          go_wp2_with fail
          refine (hHx.out _ HQ3.out).mono ?_
          rintro e w' ⟨rfl, rfl⟩
          go_wp2_with fail
          go_roundw
          case rel => exact ⟨k + 1, by omega, by go_num, by rw [HSk.out]; exact HO.out, HB.out⟩
          case measure => simp [Go.RowKit.intOf]; omega
      · obtain rfl : k = a.length := by omega
        go_wp2_with fail
        go_ret
        exact ⟨_, rfl, HO.out, HB.out⟩


set_option maxRecDepth 100000 in
set_option maxHeartbeats 2000000 in
theorem specLess_any (v u : Value) (a b : List Int) (w : World) (h : IL w w.heap.size v a) (h' : IL w w.heap.size u b) :
    Calls Try.prog 42 #[v, u] w (OwnPost w.heap.size (lessM a b) w) := by
  have HP := Lib.hid h
  have HQ := Lib.hid h'
  have hS1 := Lib.hid (fun W h => l10Ids_any v a W h)
  have hS2 := Lib.hid (fun W h => l10Ids_any u b W h)
  have hH := Lib.hid (fun n W h => l10Has_any u b n W h)
  obtain ⟨hr, hlen, A, c, rfl, h3⟩ := h
  clear hr h'
  unfold lessM
  cases h1 : idsB a with
  | false =>
    rw [h1] at hS1
    rw [if_neg (by simp)]
    clear h1
    go_enter Try.func42, Try.ntmps42
    go_wp2_with fail
    refine (hS1.out _ ((HP.out.below ((Below.refl _ w).alloc (Nat.le_refl _) _)).up (by simp))).mono ?_
    rintro e w1 ⟨rfl, hb1⟩
    have hb2 := ((Below.refl w.heap.size w).alloc (Nat.le_refl _) (.cells #[] 2)).trans (hb1.mono (by simp))
    have hown := u_own_below (World.ownsRow_made w (base := w.heap.size) (e := 2) (size := 1) #[] 0 (Nat.le_refl _) (by simp [maxLen]) rfl) hb1
    go_wp2_with fail
    go_ret
    exact ⟨_, rfl, by simpa [ints] using hown, hb2⟩
  | true =>
  cases h2 : idsB b with
  | false =>
    rw [h1] at hS1
    rw [h2] at hS2
    rw [if_neg (by simp)]
    clear h1 h2
    go_enter Try.func42, Try.ntmps42
    go_wp2_with fail
    refine (hS1.out _ ((HP.out.below ((Below.refl _ w).alloc (Nat.le_refl _) _)).up (by simp))).mono ?_
    rintro e w1 ⟨rfl, hb1⟩
    have HB2 := Lib.hid (((Below.refl w.heap.size w).alloc (Nat.le_refl _) (.cells #[] 2)).trans (hb1.mono (by simp)))
    have HO := Lib.hid (u_own_below (World.ownsRow_made w (base := w.heap.size) (e := 2) (size := 1) #[] 0 (Nat.le_refl _) (by simp [maxLen]) rfl) hb1)
    clear hb1
    go_wp2_with fail
    refine (hS2.out _ ((HQ.out.below HB2.out).up HB2.out.size)).mono ?_
    rintro e w2 ⟨rfl, hb2⟩
    have hown := u_own_below HO.out hb2
    have hb3 := HB2.out.trans (hb2.mono HB2.out.size)
    go_wp2_with fail
    go_ret
    exact ⟨_, rfl, by simpa [ints] using hown, hb3⟩
  | true =>
    rw [h1] at hS1
    rw [h2] at hS2
    rw [if_pos ⟨rfl, rfl⟩]
    clear h1 h2
    obtain ⟨i0, hi, hz0, hz1, hz2⟩ := info_parts u_info_i64
    have HS := Lib.hid (fun k hk => filter_snoc (l := a) (k := k) (fun x => !decide (x ∈ b)) hk)
    have HL := Lib.hid (filter_len a (fun x => !decide (x ∈ b)))
    have HE : Hid (lessL a b = (a.take a.length).filter (fun x => !decide (x ∈ b))) := Lib.hid (by rw [List.take_length]; rfl)
    rw [HE.out]
    go_enter Try.func42, Try.ntmps42
    go_wp2_with fail
    refine (hS1.out _ ((HP.out.below ((Below.refl _ w).alloc (Nat.le_refl _) _)).up (by simp))).mono ?_
    rintro e w1 ⟨rfl, hb1⟩
    have HB2 := Lib.hid (((Below.refl w.heap.size w).alloc (Nat.le_refl _) (.cells #[] 2)).trans (hb1.mono (by simp)))
    have HO := Lib.hid (u_own_below (World.ownsRow_made w (base := w.heap.size) (e := 2) (size := 1) #[] 0 (Nat.le_refl _) (by simp [maxLen]) rfl) hb1)
    clear hb1
    go_wp2_with fail
    refine (hS2.out _ ((HQ.out.below HB2.out).up HB2.out.size)).mono ?_
    rintro e w2 ⟨rfl, hb2⟩
    have HO2 := Lib.hid (u_own_below HO.out hb2)
    have HB3 := Lib.hid (HB2.out.trans (hb2.mono HB2.out.size))
    clear hb2 HO HB2
    go_wp2_with fail
    go_loopw [5, 6] (fun o i wr => ∃ k : Nat, k ≤ a.length ∧ i = .int .i64 k ∧ wr.ownsRow w.heap.size 2 1 o ((a.take k).filter (fun x => !decide (x ∈ b))).length (ints ((a.take k).filter (fun x => !decide (x ∈ b)))) ∧ Below w.heap.size w wr) (fun _ i _ => a.length - (Go.RowKit.intOf i).toNat)
    case atStart => exact ⟨0, Nat.zero_le _, rfl, by simpa [ints] using HO2.out, HB3.out⟩
    case round =>
      clear HO2 HB3
      obtain ⟨k, hk, rfl, hown, hb⟩ := hrel
      have HO := Lib.hid hown
      have HB := Lib.hid hb
      clear hown hb
      by_cases hlt : k < a.length
      · rcases h3 with h3 | ⟨bb, off, rfl, hbl, hc⟩
        · subst h3; simp at hlt
        have hx : wr.cell? ⟨bb, off + k, none⟩ = some (.int .i64 (a.getD k 0)) := (HB.out.cell (p := ⟨bb, off + k, none⟩) hbl).trans (hc k hlt)
        have HSk := Lib.hid (HS.out k hlt)
        have hlk := HL.out k
        have hsz := HB.out.size
        have HQ3 := Lib.hid ((HQ.out.below HB.out).up hsz)
        have hHx := Lib.hid (fun W h => hH.out (a.getD k 0) W h)
        clear hc
        generalize a.getD k 0 = x at *
        cases hin : decide (x ∈ b) with
        | true =>
          rw [hin] at hHx HSk
          rw [if_neg (by simp), List.append_nil] at HSk
          clear hin
          go_wp2_with fail
          refine (hHx.out _ HQ3.out).mono ?_
          rintro e w' ⟨rfl, rfl⟩
          go_wp2_with fail
          go_roundw
          case rel => exact ⟨k + 1, by omega, by go_num, by rw [HSk.out]; exact HO.out, HB.out⟩
          case measure => simp [Go.RowKit.intOf]; omega
        | false =>
          rw [hin] at hHx HSk
          rw [if_pos (show (!false) = true from rfl)] at HSk
          clear hin
          go_wp2_with fail
          refine (hHx.out _ HQ3.out).mono ?_
          rintro e w' ⟨rfl, rfl⟩
          go_wp2_with (at_builtin; refine wpList_append_own _ rfl _ _ 46 rfl w.heap.size 2 i0 (.int .i64 0) 1 8 Try.underlying46 hi hz0 hz1 hz2 rfl (by decide) _ _ _ rfl (HO.out.alloc _) ⟨wr.heap.size, 0, none⟩ 1 1 [.int .i64 x] rfl rfl (one_row (by go_simp)) (ints_one [x]) ?c3 ?c4 ?c5 ?_)
          case c3 => unfold maxLen; omega
          case c4 => omega
          case c5 => first | omega | (simp; omega)
          intro v' w4 hown' hgrow _
          have HB4 := Lib.hid (u_below_append HB.out (Nat.le_refl _) HB.out.size HO.out hgrow)
          have HO4 := Lib.hid (show w4.ownsRow w.heap.size 2 1 v' ((a.take (k + 1)).filter (fun x => !decide (x ∈ b))).length (ints ((a.take (k + 1)).filter (fun x => !decide (x ∈ b)))) from by rw [HSk.out, ints_append, List.length_append]; exact hown')
          clear hown' hgrow
          go_wp2_with fail
          go_roundw
          case rel => exact ⟨k + 1, by omega, by go_num, HO4.out, HB4.out⟩
          case measure => simp [Go.RowKit.intOf]; omega
      · obtain rfl : k = a.length := by omega
        go_wp2_with fail
        go_ret
        exact ⟨_, rfl, HO.out, HB.out⟩


set_option maxRecDepth 100000 in
set_option maxHeartbeats 8000000 in
theorem l10Put_any (base g c : Nat) (l : List Int) (n : Int) (w : World) (hr : ∀ x ∈ l, Rng x) (hl : l.length ≤ 4000) (hris : Ris l) (h : w.ownsRow base 2 1 (.slice (some ⟨g, 0, none⟩) l.length c) l.length (ints l)) (hb : base ≤ w.heap.size) :
    Calls Try.prog 81 #[.slice (some ⟨g, 0, none⟩) l.length c, .int .i64 n] w fun e w' => ∃ g' c', e = .returned (.slice (some ⟨g', 0, none⟩) (putI l n).length c') ∧ w'.ownsRow base 2 1 (.slice (some ⟨g', 0, none⟩) (putI l n).length c') (putI l n).length (ints (putI l n)) ∧ Below w.heap.size w w' := by
  have HH := Lib.hid (fun W h => l10Has_any (.slice (some ⟨g, 0, none⟩) l.length c) l n W h)
  have HI := Lib.hid (IL.of_own h rfl (rng_all hr) (by omega))
  have HO := Lib.hid h
  cases hin : decide (n ∈ l) with
  | true =>
    rw [hin] at HH
    have E := putI_has hris (of_decide_eq_true hin)
    rw [E]
    clear hin E h
    go_enter Try.func81, Try.ntmps81
    go_wp2_with fail
    refine (HH.out _ HI.out).mono ?_
    rintro e w' ⟨rfl, rfl⟩
    go_wp2_with fail
    go_ret
    exact ⟨g, c, rfl, HO.out, Below.refl _ _⟩
  | false =>
    rw [hin] at HH
    have E := putI_new (of_decide_eq_false hin)
    have HN := Lib.hid (of_decide_eq_false hin)
    rw [E]
    clear hin E
    have hcap : l.length ≤ c := by
      rcases h.2 with ⟨e, h0⟩ | ⟨g', cap, cur, e, _, _, h1, _⟩
      · cases e
      · cases e; exact h1
    have hcc : ∀ j, j < l.length → w.cell? ⟨g, j, none⟩ = some (.int .i64 (l.getD j 0)) := fun j hj => by rw [h.cellAt _ (by omega)]; exact ints_get _ _ hj
    have HCC := Lib.hid hcc
    have HAT := Lib.hid (fun k a b c => insI_at (n := n) (l := l) (k := k) a b c)
    have hgl : g < w.heap.size := (HO.out.lt g rfl).2
    obtain ⟨i0, hi, hz0, hz1, hz2⟩ := info_parts u_info_i64
    clear h hcc
    go_enter Try.func81, Try.ntmps81
    go_wp2_with fail
    refine (HH.out _ HI.out).mono ?_
    rintro e w' ⟨rfl, rfl⟩
    go_wp2_with fail
    go_loopw [5] (fun i wr => ∃ k : Nat, k ≤ l.length ∧ i = .int .i64 k ∧ Hid (∀ j, j < k → l.getD j 0 < n) ∧ wr = w) (fun i _ => l.length - (Go.RowKit.intOf i).toNat)
    case atStart => exact ⟨0, Nat.zero_le _, rfl, Lib.hid (fun j hj => by omega), rfl⟩
    case round =>
      obtain ⟨k, hk, rfl, HG, rfl⟩ := hrel
      by_cases hlt : k < l.length
      · by_cases hx : l.getD k 0 < n
        · have hcell := HCC.out k hlt
          have HG2 : Hid (∀ j, j < k + 1 → l.getD j 0 < n) := Lib.hid (fun j hj => by
            by_cases e : j = k
            · rw [e]; exact hx
            · exact HG.out j (by omega))
          generalize l.getD k 0 = x at *
          go_wp2_with fail
          go_roundw
          case rel => exact ⟨k + 1, by omega, by go_num, HG2, by first | rfl | trivial⟩
          case measure => simp [Go.RowKit.intOf]; omega
        · have hcell := HCC.out k hlt
          have HE : Hid (insI n l = l.take k ++ ([n] ++ l.drop k)) := Lib.hid (HAT.out k (by omega) HG.out (.inr (by
            have h1 : l.getD k 0 ≠ n := fun e => HN.out (has_yes hlt e)
            omega)))
          generalize l.getD k 0 = x at *
          rcases Nat.eq_zero_or_pos k with hk0 | hk0
          · subst hk0
            have hk1 : ((0 : Nat) : Int) ≤ ((c : Nat) : Int) := by omega
            have hk2 : 0 ≤ c := by omega
            have hk3 : ((0 : Nat) : Int) ≤ (l.length : Int) := by omega
            go_wp2_with (at_builtin; refine wpList_append_own _ rfl _ _ 46 rfl wr.heap.size 2 i0 (.int .i64 0) 1 8 Try.underlying46 hi hz0 hz1 hz2 rfl (by decide) _ 0 (ints []) rfl (made_nil wr) ⟨g, 0, none⟩ (0) (c) (ints (l.take (0))) rfl (by rw [ints_length, List.length_take]; omega) (ints_take_cell (HO.out.alloc _) 0 _ (List.take_prefix _ _)) (ints_one _) ?c3x2 ?c4x2 ?c5x2 ?_)
            try (case c3x2 => unfold maxLen; omega)
            try (case c4x2 => omega)
            try (case c5x2 => first | omega | (simp; done) | (simp; omega))
            intro v1 w1 hown1 hgrow1 _
            have hown1 : w1.ownsRow wr.heap.size 2 1 v1 (0) (ints (l.take (0))) := own_eq hown1 (by first | omega | (simp; done)) (by simp [ints])
            have HB1 := Lib.hid (((Below.refl wr.heap.size wr).alloc (Nat.le_refl _) (.cells #[] 2)).grown hgrow1 (by simp) (fun j e => by simp [Value.ownBlock] at e; omega))
            have HO1 := Lib.hid hown1
            have HL1 := Lib.hid (u_own_below HO.out HB1.out)
            clear hown1 hgrow1
            go_wp2_with (at_builtin; refine wpList_append_own _ rfl _ _ 46 rfl wr.heap.size 2 i0 (.int .i64 0) 1 8 Try.underlying46 hi hz0 hz1 hz2 rfl (by decide) _ _ _ rfl (HO1.out.alloc _) ⟨w1.heap.size, 0, none⟩ 1 1 (ints [n]) rfl rfl (one_row (by go_simp)) (ints_one _) ?c3x3 ?c4x3 ?c5x3 ?_)
            try (case c3x3 => unfold maxLen; omega)
            try (case c4x3 => omega)
            try (case c5x3 => have := HB1.out.size; first | omega | (simp; done) | (simp; omega))
            intro v2 w2 hown2 hgrow2 _
            rw [← ints_append] at hown2
            have HB2 := Lib.hid (u_below_append HB1.out (Nat.le_refl _) HB1.out.size HO1.out hgrow2)
            have HO2 := Lib.hid hown2
            have HL2 := Lib.hid (u_own_below HO.out HB2.out)
            clear hown2 hgrow2 HO1 HL1

            go_wp2_with (at_builtin; refine wpList_append_own _ rfl _ _ 46 rfl wr.heap.size 2 i0 (.int .i64 0) 1 8 Try.underlying46 hi hz0 hz1 hz2 rfl (by decide) _ _ _ rfl HO2.out ⟨g, 0, none⟩ (l.length) (c) (ints (l.drop (0))) rfl (by rw [ints_length, List.length_drop]; omega) ?c1x4 (ints_one _) ?c3x4 ?c4x4 ?c5x4 ?_)
            try (case c1x4 => exact ints_take_cell HL2.out _ _ (List.prefix_refl _))
            try (case c3x4 => unfold maxLen; omega)
            try (case c4x4 => omega)
            try (case c5x4 => have := HB2.out.size; first | omega | (simp; done) | (simp; omega))
            intro v3 w3 hown3 hgrow3 _
            have HB3 := Lib.hid (HB2.out.grown hgrow3 HB2.out.size (fun j e => (HO2.out.lt j e).1))
            have hown4 : w3.ownsRow wr.heap.size 2 1 v3 (insI n l).length (ints (insI n l)) := own_eq hown3 (by have := insI_len (x := n) l; omega) (by rw [HE.out]; simp [ints])
            have HO3 := Lib.hid (own_lift hown4 hb)
            have hlen4 : (insI n l).length = l.length + 1 := insI_len _
            rcases hown4.2 with ⟨_, h0⟩ | ⟨g3, c3', _, rfl, _⟩
            · omega
            clear hown3 hgrow3 hown4
            go_wp2_with fail
            go_ret
            exact ⟨g3, c3', rfl, HO3.out, HB3.out⟩

          · have hc1 : ¬ c = k := by omega
            have hk1 : ((k : Nat) : Int) ≤ ((c : Nat) : Int) := by omega
            have hk2 : k ≤ c := by omega
            have hk3 : ((k : Nat) : Int) ≤ (l.length : Int) := by omega
            go_wp2_with (at_builtin; refine wpList_append_own _ rfl _ _ 46 rfl wr.heap.size 2 i0 (.int .i64 0) 1 8 Try.underlying46 hi hz0 hz1 hz2 rfl (by decide) _ 0 (ints []) rfl (made_nil wr) ⟨g, 0, none⟩ (k) (c) (ints (l.take (k))) rfl (by rw [ints_length, List.length_take]; omega) (ints_take_cell (HO.out.alloc _) 0 _ (List.take_prefix _ _)) (ints_one _) ?c3x6 ?c4x6 ?c5x6 ?_)
            try (case c3x6 => unfold maxLen; omega)
            try (case c4x6 => omega)
            try (case c5x6 => first | omega | (simp; done) | (simp; omega))
            intro v1 w1 hown1 hgrow1 _
            have hown1 : w1.ownsRow wr.heap.size 2 1 v1 (k) (ints (l.take (k))) := own_eq hown1 (by first | omega | (simp; done)) (by simp [ints])
            have HB1 := Lib.hid (((Below.refl wr.heap.size wr).alloc (Nat.le_refl _) (.cells #[] 2)).grown hgrow1 (by simp) (fun j e => by simp [Value.ownBlock] at e; omega))
            have HO1 := Lib.hid hown1
            have HL1 := Lib.hid (u_own_below HO.out HB1.out)
            clear hown1 hgrow1
            go_wp2_with (at_builtin; refine wpList_append_own _ rfl _ _ 46 rfl wr.heap.size 2 i0 (.int .i64 0) 1 8 Try.underlying46 hi hz0 hz1 hz2 rfl (by decide) _ _ _ rfl (HO1.out.alloc _) ⟨w1.heap.size, 0, none⟩ 1 1 (ints [n]) rfl rfl (one_row (by go_simp)) (ints_one _) ?c3x7 ?c4x7 ?c5x7 ?_)
            try (case c3x7 => unfold maxLen; omega)
            try (case c4x7 => omega)
            try (case c5x7 => have := HB1.out.size; first | omega | (simp; done) | (simp; omega))
            intro v2 w2 hown2 hgrow2 _
            rw [← ints_append] at hown2
            have HB2 := Lib.hid (u_below_append HB1.out (Nat.le_refl _) HB1.out.size HO1.out hgrow2)
            have HO2 := Lib.hid hown2
            have HL2 := Lib.hid (u_own_below HO.out HB2.out)
            clear hown2 hgrow2 HO1 HL1

            go_wp2_with (at_builtin; refine wpList_append_own _ rfl _ _ 46 rfl wr.heap.size 2 i0 (.int .i64 0) 1 8 Try.underlying46 hi hz0 hz1 hz2 rfl (by decide) _ _ _ rfl HO2.out ⟨g, k, none⟩ (l.length - k) (c - k) (ints (l.drop (k))) rfl (by rw [ints_length, List.length_drop]; omega) ?c1x8 (ints_one _) ?c3x8 ?c4x8 ?c5x8 ?_)
            try (case c1x8 => exact ints_take_cell HL2.out _ _ (List.prefix_refl _))
            try (case c3x8 => unfold maxLen; omega)
            try (case c4x8 => omega)
            try (case c5x8 => have := HB2.out.size; first | omega | (simp; done) | (simp; omega))
            intro v3 w3 hown3 hgrow3 _
            have HB3 := Lib.hid (HB2.out.grown hgrow3 HB2.out.size (fun j e => (HO2.out.lt j e).1))
            have hown4 : w3.ownsRow wr.heap.size 2 1 v3 (insI n l).length (ints (insI n l)) := own_eq hown3 (by have := insI_len (x := n) l; omega) (by rw [HE.out]; simp [ints])
            have HO3 := Lib.hid (own_lift hown4 hb)
            have hlen4 : (insI n l).length = l.length + 1 := insI_len _
            rcases hown4.2 with ⟨_, h0⟩ | ⟨g3, c3', _, rfl, _⟩
            · omega
            clear hown3 hgrow3 hown4
            go_wp2_with fail
            go_ret
            exact ⟨g3, c3', rfl, HO3.out, HB3.out⟩

      · obtain rfl : k = l.length := by omega
        have HE : Hid (insI n l = l.take l.length ++ ([n] ++ l.drop l.length)) := Lib.hid (HAT.out l.length (by omega) HG.out (.inl rfl))
        by_cases hcl : c = l.length
        · subst hcl
          have hk1 : ((l.length : Nat) : Int) ≤ ((l.length : Nat) : Int) := by omega
          have hk2 : l.length ≤ l.length := by omega
          have hk3 : ((l.length : Nat) : Int) ≤ (l.length : Int) := by omega
          go_wp2_with (at_builtin; refine wpList_append_own _ rfl _ _ 46 rfl wr.heap.size 2 i0 (.int .i64 0) 1 8 Try.underlying46 hi hz0 hz1 hz2 rfl (by decide) _ 0 (ints []) rfl (made_nil wr) ⟨g, 0, none⟩ (l.length) (l.length) (ints (l.take (l.length))) rfl (by rw [ints_length, List.length_take]; omega) (ints_take_cell (HO.out.alloc _) 0 _ (List.take_prefix _ _)) (ints_one _) ?c3x10 ?c4x10 ?c5x10 ?_)
          try (case c3x10 => unfold maxLen; omega)
          try (case c4x10 => omega)
          try (case c5x10 => first | omega | (simp; done) | (simp; omega))
          intro v1 w1 hown1 hgrow1 _
          have hown1 : w1.ownsRow wr.heap.size 2 1 v1 (l.length) (ints (l.take (l.length))) := own_eq hown1 (by first | omega | (simp; done)) (by simp [ints])
          have HB1 := Lib.hid (((Below.refl wr.heap.size wr).alloc (Nat.le_refl _) (.cells #[] 2)).grown hgrow1 (by simp) (fun j e => by simp [Value.ownBlock] at e; omega))
          have HO1 := Lib.hid hown1
          have HL1 := Lib.hid (u_own_below HO.out HB1.out)
          clear hown1 hgrow1
          go_wp2_with (at_builtin; refine wpList_append_own _ rfl _ _ 46 rfl wr.heap.size 2 i0 (.int .i64 0) 1 8 Try.underlying46 hi hz0 hz1 hz2 rfl (by decide) _ _ _ rfl (HO1.out.alloc _) ⟨w1.heap.size, 0, none⟩ 1 1 (ints [n]) rfl rfl (one_row (by go_simp)) (ints_one _) ?c3x11 ?c4x11 ?c5x11 ?_)
          try (case c3x11 => unfold maxLen; omega)
          try (case c4x11 => omega)
          try (case c5x11 => have := HB1.out.size; first | omega | (simp; done) | (simp; omega))
          intro v2 w2 hown2 hgrow2 _
          rw [← ints_append] at hown2
          have HB2 := Lib.hid (u_below_append HB1.out (Nat.le_refl _) HB1.out.size HO1.out hgrow2)
          have HO2 := Lib.hid hown2
          have HL2 := Lib.hid (u_own_below HO.out HB2.out)
          clear hown2 hgrow2 HO1 HL1
          go_wp2_with (at_builtin; refine wpList_append_own _ rfl _ _ 46 rfl wr.heap.size 2 i0 (.int .i64 0) 1 8 Try.underlying46 hi hz0 hz1 hz2 rfl (by decide) _ _ _ rfl HO2.out ⟨g, 0, none⟩ (0) (0) (ints (l.drop (l.length))) rfl (by rw [ints_length, List.length_drop]; omega) ?c1x12 (ints_one _) ?c3x12 ?c4x12 ?c5x12 ?_)
          try (case c1x12 => rw [List.drop_length]; intro j u hj; simp [ints] at hj)
          try (case c3x12 => unfold maxLen; omega)
          try (case c4x12 => omega)
          try (case c5x12 => have := HB2.out.size; first | omega | (simp; done) | (simp; omega))
          intro v3 w3 hown3 hgrow3 _
          have HB3 := Lib.hid (HB2.out.grown hgrow3 HB2.out.size (fun j e => (HO2.out.lt j e).1))
          have hown4 : w3.ownsRow wr.heap.size 2 1 v3 (insI n l).length (ints (insI n l)) := own_eq hown3 (by have := insI_len (x := n) l; omega) (by rw [HE.out]; simp [ints])
          have HO3 := Lib.hid (own_lift hown4 hb)
          have hlen4 : (insI n l).length = l.length + 1 := insI_len _
          rcases hown4.2 with ⟨_, h0⟩ | ⟨g3, c3', _, rfl, _⟩
          · omega
          clear hown3 hgrow3 hown4
          go_wp2_with fail
          go_ret
          exact ⟨g3, c3', rfl, HO3.out, HB3.out⟩

        · have hc2 : ¬ c = l.length := hcl
          have hk1 : ((l.length : Nat) : Int) ≤ ((c : Nat) : Int) := by omega
          have hk2 : l.length ≤ c := by omega
          have hk3 : ((l.length : Nat) : Int) ≤ (l.length : Int) := by omega
          go_wp2_with (at_builtin; refine wpList_append_own _ rfl _ _ 46 rfl wr.heap.size 2 i0 (.int .i64 0) 1 8 Try.underlying46 hi hz0 hz1 hz2 rfl (by decide) _ 0 (ints []) rfl (made_nil wr) ⟨g, 0, none⟩ (l.length) (c) (ints (l.take (l.length))) rfl (by rw [ints_length, List.length_take]; omega) (ints_take_cell (HO.out.alloc _) 0 _ (List.take_prefix _ _)) (ints_one _) ?c3x14 ?c4x14 ?c5x14 ?_)
          try (case c3x14 => unfold maxLen; omega)
          try (case c4x14 => omega)
          try (case c5x14 => first | omega | (simp; done) | (simp; omega))
          intro v1 w1 hown1 hgrow1 _
          have hown1 : w1.ownsRow wr.heap.size 2 1 v1 (l.length) (ints (l.take (l.length))) := own_eq hown1 (by first | omega | (simp; done)) (by simp [ints])
          have HB1 := Lib.hid (((Below.refl wr.heap.size wr).alloc (Nat.le_refl _) (.cells #[] 2)).grown hgrow1 (by simp) (fun j e => by simp [Value.ownBlock] at e; omega))
          have HO1 := Lib.hid hown1
          have HL1 := Lib.hid (u_own_below HO.out HB1.out)
          clear hown1 hgrow1
          go_wp2_with (at_builtin; refine wpList_append_own _ rfl _ _ 46 rfl wr.heap.size 2 i0 (.int .i64 0) 1 8 Try.underlying46 hi hz0 hz1 hz2 rfl (by decide) _ _ _ rfl (HO1.out.alloc _) ⟨w1.heap.size, 0, none⟩ 1 1 (ints [n]) rfl rfl (one_row (by go_simp)) (ints_one _) ?c3x15 ?c4x15 ?c5x15 ?_)
          try (case c3x15 => unfold maxLen; omega)
          try (case c4x15 => omega)
          try (case c5x15 => have := HB1.out.size; first | omega | (simp; done) | (simp; omega))
          intro v2 w2 hown2 hgrow2 _
          rw [← ints_append] at hown2
          have HB2 := Lib.hid (u_below_append HB1.out (Nat.le_refl _) HB1.out.size HO1.out hgrow2)
          have HO2 := Lib.hid hown2
          have HL2 := Lib.hid (u_own_below HO.out HB2.out)
          clear hown2 hgrow2 HO1 HL1
          go_wp2_with (at_builtin; refine wpList_append_own _ rfl _ _ 46 rfl wr.heap.size 2 i0 (.int .i64 0) 1 8 Try.underlying46 hi hz0 hz1 hz2 rfl (by decide) _ _ _ rfl HO2.out ⟨g, l.length, none⟩ (0) (c - l.length) (ints (l.drop (l.length))) rfl (by rw [ints_length, List.length_drop]; omega) ?c1x16 (ints_one _) ?c3x16 ?c4x16 ?c5x16 ?_)
          try (case c1x16 => rw [List.drop_length]; intro j u hj; simp [ints] at hj)
          try (case c3x16 => unfold maxLen; omega)
          try (case c4x16 => omega)
          try (case c5x16 => have := HB2.out.size; first | omega | (simp; done) | (simp; omega))
          intro v3 w3 hown3 hgrow3 _
          have HB3 := Lib.hid (HB2.out.grown hgrow3 HB2.out.size (fun j e => (HO2.out.lt j e).1))
          have hown4 : w3.ownsRow wr.heap.size 2 1 v3 (insI n l).length (ints (insI n l)) := own_eq hown3 (by have := insI_len (x := n) l; omega) (by rw [HE.out]; simp [ints])
          have HO3 := Lib.hid (own_lift hown4 hb)
          have hlen4 : (insI n l).length = l.length + 1 := insI_len _
          rcases hown4.2 with ⟨_, h0⟩ | ⟨g3, c3', _, rfl, _⟩
          · omega
          clear hown3 hgrow3 hown4
          go_wp2_with fail
          go_ret
          exact ⟨g3, c3', rfl, HO3.out, HB3.out⟩


end Go.Proofs.Ytinpndoepppboaa