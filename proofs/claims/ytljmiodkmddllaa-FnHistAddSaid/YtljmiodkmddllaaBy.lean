/- Walks: drawn counts; counts of two parts. -/
import Derived.Test.YtljmiodkmddllaaBr
import Derived.Test.YtljmiodkmddllaaBp
import Derived.Test.YtljmiodkmddllaaBd
import Derived.Test.YtljmiodkmddllaaBv
set_option linter.unusedVariables false
set_option linter.unusedSimpArgs false
namespace Go.Proofs.Ytljmiodkmddllaa
open Go.RowKit

theorem take_getD {α : Type} (l : List α) (n j : Nat) (d : α) (h : j < n) : (l.take n).getD j d = l.getD j d := by
  rw [List.getD_eq_getElem?_getD, List.getD_eq_getElem?_getD, List.getElem?_take_of_lt h]
theorem drop_getD {α : Type} (l : List α) (n j : Nat) (d : α) : (l.drop n).getD j d = l.getD (n + j) d := by
  rw [List.getD_eq_getElem?_getD, List.getD_eq_getElem?_getD, List.getElem?_drop]
theorem ptsOkB_ofM {l : List (Int × Int)} (hl : l.length ≤ 120) (hm : ∀ j, j < l.length → (0 ≤ (l.getD j (0, 0)).1 ∧ (l.getD j (0, 0)).1 ≤ 1000000000000) ∧ (j = 0 ∨ (l.getD (j - 1) (0, 0)).1 < (l.getD j (0, 0)).1)) : ptsOkB l = true := by
  unfold ptsOkB timesOkB
  rw [Bool.and_eq_true, decide_eq_true_iff, List.length_map]
  refine ⟨hl, ?_⟩
  unfold goodTo
  rw [List.all_eq_true]
  intro j hj
  have hj : j < l.length := by simpa using hj
  unfold goodAt
  rw [tsOf_getD, tsOf_getD]
  simp only [Bool.and_eq_true, Bool.or_eq_true, decide_eq_true_eq]
  exact hm j hj
theorem PL.cut {w : World} {B b off n c : Nat} {xs : List (Int × Int)} (h : PL w B (.slice (some ⟨b, off, none⟩) xs.length c) xs) (k : Nat) (hk : k ≤ xs.length) : PL w B (.slice (some ⟨b, off, none⟩) k n) (xs.take k) := by
  obtain ⟨hr, hl, A, c', hv, h3⟩ := h
  have e : (xs.take k).length = k := by rw [List.length_take]; omega
  refine ⟨fun j => ?_, by omega, _, n, by rw [e], ?_⟩
  · by_cases hj : j < k
    · rw [take_getD _ _ _ _ hj]; exact hr j
    · rw [List.getD_eq_getElem?_getD, List.getElem?_eq_none (by omega)]; exact ⟨rng_zero, rng_zero⟩
  · rcases h3 with h3 | ⟨b', off', hA, hlt, hc⟩
    · left; rw [h3]; simp
    · cases hv
      cases hA
      refine .inr ⟨b, off, rfl, hlt, fun j hj => ?_⟩
      have hj' : j < k := by omega
      rw [take_getD _ _ _ _ hj']
      exact hc j (by omega)
theorem PL.off {w : World} {B b off n c : Nat} {xs : List (Int × Int)} (h : PL w B (.slice (some ⟨b, off, none⟩) xs.length c) xs) (k : Nat) (hk : k ≤ xs.length) : PL w B (.slice (some ⟨b, off + k * 2, none⟩) (xs.length - k) n) (xs.drop k) := by
  obtain ⟨hr, hl, A, c', hv, h3⟩ := h
  have e : (xs.drop k).length = xs.length - k := by rw [List.length_drop]
  refine ⟨fun j => ?_, by omega, _, n, by rw [e], ?_⟩
  · rw [drop_getD]; exact hr _
  · rcases h3 with h3 | ⟨b', off', hA, hlt, hc⟩
    · left; rw [h3]; simp
    · cases hv
      cases hA
      refine .inr ⟨b, off + k * 2, rfl, hlt, fun j hj => ?_⟩
      rw [drop_getD]
      have h1 := hc (k + j) (by omega)
      have e1 : off + k * 2 + j * 2 = off + (k + j) * 2 := by omega
      rw [e1]; exact h1

theorem ptsOkB_atT {l : List (Int × Int)} (h : ptsOkB l = true) {j : Nat} (hj : j < l.length) : (0 ≤ (l.getD j (0, 0)).1 ∧ (l.getD j (0, 0)).1 ≤ 1000000000000) ∧ (j = 0 ∨ (l.getD (j - 1) (0, 0)).1 < (l.getD j (0, 0)).1) := by
  unfold ptsOkB timesOkB at h
  rw [Bool.and_eq_true] at h
  have := goodTo_at h.2 (j := j) (by simpa using hj)
  unfold goodAt at this
  rw [tsOf_getD, tsOf_getD] at this
  simp only [Bool.and_eq_true, Bool.or_eq_true, decide_eq_true_eq] at this
  exact this

theorem ptsOkB_take {l : List (Int × Int)} (h : ptsOkB l = true) (n : Nat) : ptsOkB (l.take n) = true := by
  have hl := pts_len h
  exact ptsOkB_ofM (by rw [List.length_take]; omega) (fun j hj => by
    have hj' : j < n ∧ j < l.length := by rw [List.length_take] at hj; omega
    rw [take_getD _ _ _ _ hj'.1, take_getD _ _ _ _ (by omega)]
    exact ptsOkB_atT h hj'.2)
theorem ptsOkB_drop {l : List (Int × Int)} (h : ptsOkB l = true) (n : Nat) : ptsOkB (l.drop n) = true := by
  have hl := pts_len h
  exact ptsOkB_ofM (by rw [List.length_drop]; omega) (fun j hj => by
    have hj' : n + j < l.length := by rw [List.length_drop] at hj; omega
    have h1 := ptsOkB_atT h hj'
    rw [drop_getD, drop_getD]
    refine ⟨h1.1, ?_⟩
    rcases Nat.eq_zero_or_pos j with e | e
    · exact .inl e
    · right
      rcases h1.2 with h2 | h2
      · omega
      · have e3 : n + (j - 1) = n + j - 1 := by omega
        rw [e3]; exact h2)
theorem cEq_split (V b : List Int) (k j : Nat) : cEq (V.take k) b j + cEq (V.drop k) b j = cEq V b j := by
  unfold cEq
  rw [← List.countP_append, List.take_append_drop]
theorem hiL_split (V b : List Int) (k : Nat) : hAdd (hiL (V.take k) b) (hiL (V.drop k) b) = hiL V b := by
  apply ints_ext
  · rw [hAdd_length, hiL_length, hiL_length]
  · intro j hj
    rw [hAdd_length, hiL_length] at hj
    rw [hAdd_getD _ _ _ (by rw [hiL_length]; exact hj), hiL_getD _ _ _ hj, hiL_getD _ _ _ hj, hiL_getD _ _ _ hj, ← cEq_split V b k j]
    omega
/-- the counts of two parts, added, are those of all -/
theorem haM_split {l : List (Int × Int)} {b : List Int} (h : hoB l b = true) (k : Nat) : haM (hoM (l.take k) b) (hoM (l.drop k) b) = hoM l b := by
  have h' := h
  unfold hoB at h'
  rw [Bool.and_eq_true] at h'
  have h1 := ptsOkB_take h'.1 k
  have h2 := ptsOkB_drop h'.1 k
  have hl := pts_len h'.1
  have hb := bndB_len h'.2
  have e1 := hoM_yes (l := l.take k) (b := b) (by unfold hoB; rw [h1, h'.2]; rfl)
  have e2 := hoM_yes (l := l.drop k) (b := b) (by unfold hoB; rw [h2, h'.2]; rfl)
  rw [e1, e2, hoM_yes h]
  have f1 : (l.take k).map Prod.snd = (l.map Prod.snd).take k := List.map_take
  have f2 : (l.drop k).map Prod.snd = (l.map Prod.snd).drop k := List.map_drop
  have g := hiL_split (l.map Prod.snd) b k
  rw [f1, f2]
  have k1 := hiL_hist (V := (l.map Prod.snd).take k) (b := b) (by rw [List.length_take, List.length_map]; omega) hb
  have k2 := hiL_hist (V := (l.map Prod.snd).drop k) (b := b) (by rw [List.length_drop, List.length_map]; omega) hb
  have k3 := hiL_hist (V := l.map Prod.snd) (b := b) (by rw [List.length_map]; omega) hb
  rw [haM_yes (by unfold haB; rw [k1, k2, g, k3, hiL_length, hiL_length, decide_eq_true rfl]; rfl), g]
theorem hAdd_comm {a b : List Int} (h : a.length = b.length) : hAdd b a = hAdd a b := by
  apply ints_ext
  · rw [hAdd_length, hAdd_length, h]
  · intro j hj
    rw [hAdd_length] at hj
    rw [hAdd_getD _ _ _ hj, hAdd_getD _ _ _ (by omega)]
    omega
theorem haM_comm (a b : List Int) : haM b a = haM a b := by
  by_cases h : a.length = b.length
  · unfold haM haB
    rw [hAdd_comm h, h, Bool.and_comm (histB b) (histB a)]
  · rw [haM_no (a := a) (b := b) (by unfold haB; rw [decide_eq_false h]; simp), haM_no (a := b) (b := a) (by unfold haB; rw [decide_eq_false (fun e => h e.symm)]; simp)]
theorem PL_empty {w : World} {B c : Nat} {A : Option Addr} : PL w B (.slice A 0 c) [] := ⟨fun j => ⟨⟨by simp, by simp⟩, ⟨by simp, by simp⟩⟩, Nat.zero_le _, A, c, rfl, .inl rfl⟩
theorem IL_empty {w : World} {B c : Nat} {A : Option Addr} : IL w B (.slice A 0 c) [] := ⟨fun j => ⟨by simp, by simp⟩, Nat.zero_le _, A, c, rfl, .inl rfl⟩

set_option maxRecDepth 100000 in
set_option maxHeartbeats 4000000 in
theorem DrawHistAdd_any (A : Option Addr) (n c : Nat) (w : World) (h : CodeAt w A n c) :
    Calls Try.prog 35 #[.slice A n c] w fun e w' => ∃ v u xs ys, e = .returned (.tuple #[v, u]) ∧ IL w' w'.heap.size v xs ∧ IL w' w'.heap.size u ys ∧ Below w.heap.size w w' := by
  have H := Lib.hid h
  clear h
  have HSM := Lib.hid (fun B g W h => small_any 8 (by omega) (by omega) B g W h)
  have HON := Lib.hid (fun B g W h => once_any B g 12 W h (by omega) (by omega))
  go_enter Try.func35, Try.ntmps35
  go_wp2_with fail
  refine (open_any A n c _ H.out).mono ?_
  rintro e w1 ⟨rfl, hrd1, hb1⟩
  have Hrd1 := Lib.hid hrd1
  have Hb1 := Lib.hid hb1
  have hg1 := hrd1.lt
  clear hrd1 hb1
  go_wp2_with fail
  refine (bounds_any _ _ _ Hrd1.out).mono ?_
  rintro e w2 ⟨u, b, rfl, ht2, hbl, hbr⟩
  have hz1 := Hb1.out.size
  have hz2 := ht2.gr.size
  have HI2 := Lib.hid (IL.of_own ht2.own rfl (rng_all hbr) (by omega))
  have HO2 := Lib.hid ht2.own
  have HR2 := Lib.hid ht2.rd
  have HB2 := Lib.hid (Hb1.out.grown ht2.gr hz1 (fun k hk => by injection hk with hk; omega))
  have Hbr := Lib.hid hbr
  clear ht2 hbr Hrd1 Hb1
  go_wp2_with fail
  refine (HSM.out _ _ _ HR2.out).mono ?_
  rintro e w3 ⟨v, a, rfl, ht, hal, har⟩
  have hz3 := ht.gr.size
  have HP3 := Lib.hid (PL.of_own ht.own rfl (fun j => prng_of har j) (by omega))
  have HO3 := Lib.hid (HO2.out.kept ht.gr (by
    by_cases hx : u.ownBlock = none
    · exact .inl hx
    · right; intro he; have := (HO2.out.lt _ he).1; omega))
  have HI3 := Lib.hid (IL.of_own HO3.out rfl (rng_all Hbr.out) (by omega))
  have HR3 := Lib.hid ht.rd
  have HB3 := Lib.hid (HB2.out.grown ht.gr (Nat.le_trans hz1 hz2) (fun k hk => by injection hk with hk; omega))
  clear ht har HO2 HI2 HB2 HR2
  go_wp2_with fail
  refine (specHistOf_any _ _ a b _ HP3.out HI3.out).mono ?_
  rintro e w4 ⟨xv, rfl, ho4, hb4⟩
  have hz4 := hb4.size
  have HB4 := Lib.hid (HB3.out.trans (hb4.mono HB3.out.size))
  have HX4 := Lib.hid ho4
  have HO4 := Lib.hid (u_own_below HO3.out hb4)
  have HR4 := Lib.hid (HR3.out.below hb4)
  clear ho4 hb4 HP3 HI3 HO3 HR3 HB3
  have HXK := Lib.hid (hoM_ok a b)
  generalize hoM a b = X at *
  go_wp2_with fail
  refine (HSM.out _ _ _ HR4.out).mono ?_
  rintro e w5 ⟨v5, a5, rfl, ht, hal5, har⟩
  have hz5 := ht.gr.size
  have HP5 := Lib.hid (PL.of_own ht.own rfl (fun j => prng_of har j) (by omega))
  have HO5 := Lib.hid (HO4.out.kept ht.gr (by
    by_cases hx : u.ownBlock = none
    · exact .inl hx
    · right; intro he; have := (HO4.out.lt _ he).1; omega))
  have HX5 := Lib.hid (HX4.out.kept ht.gr (by
    by_cases hx : xv.ownBlock = none
    · exact .inl hx
    · right; intro he; have := (HX4.out.lt _ he).1; omega))
  have HI5 := Lib.hid (IL.of_own HO5.out rfl (rng_all Hbr.out) (by omega))
  have HR5 := Lib.hid ht.rd
  have HB5 := Lib.hid (HB4.out.grown ht.gr (by omega) (fun k hk => by injection hk with hk; omega))
  clear ht har HO4 HX4 HB4 HR4
  go_wp2_with fail
  refine (specHistOf_any _ _ a5 b _ HP5.out HI5.out).mono ?_
  rintro e w6 ⟨yv, rfl, ho6, hb6⟩
  have hz6 := hb6.size
  have HB6 := Lib.hid (HB5.out.trans (hb6.mono HB5.out.size))
  have HY6 := Lib.hid ho6
  have HX6 := Lib.hid (u_own_below HX5.out hb6)
  have HR6 := Lib.hid (HR5.out.below hb6)
  clear ho6 hb6 HP5 HI5 HO5 HX5 HR5 HB5
  have HYK := Lib.hid (hoM_ok a5 b)
  have hyl := hoM_len a5 b
  generalize hoM a5 b = Y at *
  go_wp2_with fail
  refine (HON.out _ _ _ HR6.out).mono ?_
  rintro e w7 ⟨_, rfl, ⟨d, rfl⟩, hrd7, hgr7⟩
  have HB7 := Lib.hid (HB6.out.grown hgr7 (by omega) (fun k hk => by injection hk with hk; omega))
  have HX7 := Lib.hid (IL.of_own (HX6.out.kept hgr7 (by
    by_cases hx : xv.ownBlock = none
    · exact .inl hx
    · right; intro he; have := (HX6.out.lt _ he).1; omega)) rfl HXK.out.1 HXK.out.2)
  have HY7 := Lib.hid (HY6.out.kept hgr7 (by
    by_cases hx : yv.ownBlock = none
    · exact .inl hx
    · right; intro he; have := (HY6.out.lt _ he).1; omega))
  have HYI := Lib.hid (IL.of_own HY7.out rfl HYK.out.1 HYK.out.2)
  clear hrd7 hgr7 HX6 HY6 HR6 HB6
  rcases HY7.out.2 with ⟨hv, h0⟩ | ⟨g, cap, cur, hv, hbg, hcur, hn1, hn2, hn3, hn4⟩
  · subst hv
    have hY0 : Y = [] := List.eq_nil_of_length_eq_zero h0
    cases d with
    | false =>
      go_wp2_with fail
      go_ret2
      exact ⟨xv, _, X, Y, rfl, HX7.out, HYI.out, HB7.out⟩
    | true =>
      go_wp2_with fail
      go_ret2
      exact ⟨xv, _, X, Y, rfl, HX7.out, HYI.out, HB7.out⟩
  · subst hv
    have HH := Lib.hid (⟨hn1, hn2⟩ : Y.length ≤ cap ∧ cap ≤ maxLen)
    clear hcur hn3 hn4
    cases d with
    | false =>
      go_wp2_with fail
      go_ret2
      exact ⟨xv, _, X, Y, rfl, HX7.out, HYI.out, HB7.out⟩
    | true =>
      obtain ⟨m, hm⟩ : ∃ m, Y.length = m := ⟨_, rfl⟩
      have HM := Lib.hid hm
      rw [hm] at HYI HH hn1 hyl ⊢
      clear hm
      by_cases h0 : m = 0
      · have d0 : decide (0 < m) = false := decide_eq_false (by omega)
        have d1 : decide ((0 : Int) < (m : Int)) = false := decide_eq_false (by omega)
        clear h0
        go_wp2_with fail
        go_ret2
        exact ⟨xv, _, X, Y, rfl, HX7.out, HYI.out, HB7.out⟩
      · have d0 : decide (0 < m) = true := decide_eq_true (by omega)
        have d1 : decide ((0 : Int) < (m : Int)) = true := decide_eq_true (by omega)
        have d2 : 1 ≤ m := by omega
        have d3 : (1 : Int) ≤ (m : Int) := by omega
        have d4 : 1 ≤ cap := by omega
        by_cases hc1 : cap = 1
        · have hm1 : m = 1 := by omega
          have HZ := Lib.hid hm1
          subst hc1
          subst hm1
          go_wp2_with fail
          go_ret2
          exact ⟨xv, _, X, [], rfl, HX7.out, IL_empty, HB7.out⟩
        · have d5 : 1 < cap := by omega
          go_wp2_with fail
          go_ret2
          have hlY := HM.out
          exact ⟨xv, .slice (some ⟨g, 1, none⟩) (m - 1) (cap - 1), X, Y.drop 1, rfl, HX7.out, ⟨fun j => by rw [drop_getD]; exact HYK.out.1 _, by rw [List.length_drop]; omega, some ⟨g, 1, none⟩, cap - 1, by rw [List.length_drop, hlY], .inr ⟨g, 1, rfl, (HY7.out.lt g rfl).2, fun j hj => by
            rw [List.length_drop] at hj
            rw [HY7.out.cellAt (1 + j) (by omega), ints_get _ _ (by omega), drop_getD]⟩⟩, HB7.out⟩
end Go.Proofs.Ytljmiodkmddllaa
