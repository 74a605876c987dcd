/- Walks: the points of blocks, both. -/
import Derived.Test.YtanoohfhifhhaaaDoorEi
set_option linter.unusedVariables false
set_option linter.unusedSimpArgs false
namespace Go.Proofs.YtanoohfhifhhaaaDoor
open Go.RowKit

/-- the points of the first k blocks -/
def uncT (bs : List (Int × ByteArray)) : Nat → Option (List (Int × Int))
  | 0 => some []
  | k + 1 => match uncT bs k with
    | none => none
    | some xs => match ptsB (bs.getD k (0, emB)).2 (bs.getD k (0, emB)).1 with
      | none => none
      | some ys => some (xs ++ ys)
def uncO (bs : List (Int × ByteArray)) : Option (List (Int × Int)) := if bs.length ≤ 120 then match uncT bs bs.length with
    | none => none
    | some xs => if ptsOkB xs = true then some xs else none
  else none
theorem uncT_none {bs : List (Int × ByteArray)} {k : Nat} (h : uncT bs k = none) : ∀ n, k ≤ n → uncT bs n = none := by
  intro n
  induction n with
  | zero => intro hk; obtain rfl : k = 0 := by omega
            exact h
  | succ n ih =>
    intro hk
    by_cases e : k = n + 1
    · subst e; exact h
    · rw [uncT, ih (by omega)]
theorem uncT_step {bs : List (Int × ByteArray)} {k : Nat} {xs : List (Int × Int)} (h : uncT bs k = some xs) : uncT bs (k + 1) = match ptsB (bs.getD k (0, emB)).2 (bs.getD k (0, emB)).1 with
      | none => none
      | some ys => some (xs ++ ys) := by rw [uncT, h]
theorem rng_app2 {xs ys : List (Int × Int)} (hx : ∀ j, Rng (xs.getD j (0, 0)).1 ∧ Rng (xs.getD j (0, 0)).2) (hy : ∀ j, Rng (ys.getD j (0, 0)).1 ∧ Rng (ys.getD j (0, 0)).2) (j : Nat) : Rng ((xs ++ ys).getD j (0, 0)).1 ∧ Rng ((xs ++ ys).getD j (0, 0)).2 := by
  by_cases h : j < xs.length
  · have e : (xs ++ ys).getD j (0, 0) = xs.getD j (0, 0) := by simp [List.getD_eq_getElem?_getD, List.getElem?_append_left h]
    rw [e]; exact hx j
  · have e : (xs ++ ys).getD j (0, 0) = ys.getD (j - xs.length) (0, 0) := by simp [List.getD_eq_getElem?_getD, List.getElem?_append_right (by omega : xs.length ≤ j)]
    rw [e]; exact hy _
theorem uncT_ok {bs : List (Int × ByteArray)} : ∀ {k : Nat} {xs : List (Int × Int)}, uncT bs k = some xs → xs.length ≤ 120 * k ∧ ∀ j, Rng (xs.getD j (0, 0)).1 ∧ Rng (xs.getD j (0, 0)).2
  | 0, xs, h => by
    rw [uncT] at h; obtain rfl := Option.some.inj h
    exact ⟨by simp, fun j => ⟨by simpa using rng_zero, by simpa using rng_zero⟩⟩
  | k + 1, xs, h => by
    cases h0 : uncT bs k with
    | none => rw [uncT, h0] at h; cases h
    | some ys =>
      rw [uncT_step h0] at h
      cases hp : ptsB (bs.getD k (0, emB)).2 (bs.getD k (0, emB)).1 with
      | none => rw [hp] at h; cases h
      | some zs =>
        rw [hp] at h
        obtain rfl := Option.some.inj h
        obtain ⟨_, _, _, _, h5, h6⟩ := ptsB_some hp
        obtain ⟨i1, i2⟩ := uncT_ok h0
        exact ⟨by rw [List.length_append]; omega, rng_app2 i2 h6⟩
theorem prs_one2 (xs : List (Int × Int)) : ∀ u ∈ prs xs, u.oneCell' = true := by
  intro u hu
  unfold prs at hu
  obtain ⟨p, _, hp⟩ := List.mem_flatMap.1 hu
  simp at hp
  rcases hp with rfl | rfl <;> rfl
theorem own_form2 {w : World} {base : Nat} {e : TypeId} {v : Value} {n : Nat} {xs : List Value} (h : w.ownsRow base e 2 v n xs) (hn : 0 < n) : ∃ g c, v = .slice (some ⟨g, 0, none⟩) n c := by
  rcases h.2 with ⟨_, h0⟩ | ⟨g, cap, cur, rfl, _⟩
  · omega
  · exact ⟨g, cap, rfl⟩

set_option maxRecDepth 100000 in
set_option maxHeartbeats 4000000 in
theorem implUnchunked_any (v : Value) (bs : List (Int × ByteArray)) (w : World) (h : BL w w.heap.size v bs) (hsz : ∀ j, (bs.getD j (0, emB)).2.size ≤ 1048576) (hT : Tab w) :
    Calls Tryd.prog 18 #[v] w (POutF (ptsX (uncO bs)) (ptsF (uncO bs)) w) := by
  obtain ⟨hr, hlen, A, c, rfl, h3⟩ := h
  have Hr := Lib.hid hr
  have HSz := Lib.hid hsz
  clear hr hsz
  obtain ⟨i0, hi, hz0, hz1, hz2⟩ := info_parts info_pt
  have HTab := Lib.hid hT
  have HP := Lib.hid (fun n s W hs hT => implPointsOf_any n s W hs hT)
  unfold POutF at HP
  have HOk := Lib.hid (fun v xs W h => implPointsOk_any v xs W h)
  clear hT
  by_cases hl : bs.length ≤ 120
  · have hli : ¬ (120 : Int) < bs.length := by omega
    have HO : Hid (uncO bs = match uncT bs bs.length with | none => none | some xs => if ptsOkB xs = true then some xs else none) := Lib.hid (by unfold uncO; rw [if_pos hl])
    go_enter Tryd.func18, Tryd.ntmps18
    go_wp2_with fail
    go_loopw [4, 14] (fun u i wr => ∃ (k : Nat) (xs : List (Int × Int)), k ≤ bs.length ∧ i = .int .i64 (k : Int) ∧ Hid (uncT bs k = some xs) ∧ wr.ownsRow w.heap.size 41 2 u xs.length (prs xs) ∧ Below w.heap.size w wr)
      (fun _ i _ => bs.length - (intOf i).toNat)
    case atStart => exact ⟨0, [], Nat.zero_le _, by simp, Lib.hid rfl, World.ownsRow_nil _ _ _ _, Below.refl _ _⟩
    case round =>
      obtain ⟨k, xs, hk, rfl, HU, hown, hb⟩ := hrel
      have Hb := Lib.hid hb
      have HO1 := Lib.hid hown
      have hzb := hb.size
      obtain ⟨hxl, hxr⟩ := uncT_ok HU.out
      have Hxr := Lib.hid hxr
      have hst := uncT_step HU.out
      clear hb hown hxr
      by_cases hlt : k < bs.length
      · rcases h3 with h3 | ⟨b, off, rfl, hbl, hc⟩
        · subst h3; simp at hlt
        have hx0 : wr.cell? ⟨b, off + k * 2, none⟩ = some (.int .i64 (bs.getD k (0, emB)).1) := (Hb.out.cell (p := ⟨b, off + k * 2, none⟩) hbl).trans (hc k hlt).1
        have hx1 : wr.cell? ⟨b, off + k * 2 + 1, none⟩ = some (.string (bs.getD k (0, emB)).2) := (Hb.out.cell (p := ⟨b, off + k * 2 + 1, none⟩) hbl).trans (hc k hlt).2
        have hsk := HSz.out k
        clear hc
        generalize (bs.getD k (0, emB)).1 = N at *
        generalize (bs.getD k (0, emB)).2 = D at *
        have HSt := Lib.hid hst
        clear hst
        have HP1 := Lib.hid (fun W hT => HP.out N D W (by omega) hT)
        have ha : Below wr.heap.size wr (wr.alloc (.cells #[.int .i64 N, .string D] 36)) := below1 wr _
        have Ha := Lib.hid (Hb.out.trans (ha.mono hzb))
        have Oa := Lib.hid (u_own_below HO1.out ha)
        clear ha
        cases hp : ptsB D N with
        | none =>
          have E := Lib.hid (show uncO bs = none by rw [HO.out, uncT_none (k := k + 1) (by rw [HSt.out, hp]) bs.length (by omega)])
          rw [hp] at HP1
          clear hp
          go_wp2_with fail
          refine (HP1.out _ (HTab.out.below Ha.out)).mono ?_
          rintro e w2 ⟨v2, rfl, _, hb2⟩
          have HF := Lib.hid (Ha.out.trans (hb2.mono Ha.out.size))
          clear hb2
          go_wp2_with fail
          go_ret2
          rw [E.out]
          exact ⟨_, rfl, World.ownsRow_nil _ _ _ _, HF.out⟩
        | some ys =>
          obtain ⟨q1, _, _, q4, q5, q6⟩ := ptsB_some hp
          have hy0 : 0 < ys.length := (bk_ok q1).2
          rw [hp] at HP1
          have hn1 := Lib.hid (show uncT bs (k + 1) = some (xs ++ ys) by rw [HSt.out, hp])
          clear hp q1 q4 q6
          go_wp2_with fail
          refine (HP1.out _ (HTab.out.below Ha.out)).mono ?_
          rintro e w2 ⟨v2, rfl, ho2, hb2⟩
          have ho2' : w2.ownsRow _ 41 2 v2 ys.length (prs ys) := ho2
          have HF := Lib.hid (Ha.out.trans (hb2.mono Ha.out.size))
          have O2 := Lib.hid (u_own_below Oa.out hb2)
          obtain ⟨gp, cp, rfl⟩ := own_form2 ho2' hy0
          have Hcells := Lib.hid (show ∀ j u, (prs ys)[j]? = some u → w2.cell? ((⟨gp, 0, none⟩ : Addr).add j) = some u from ho2'.cells rfl)
          have Hln := Lib.hid (show (prs ys).length = ys.length * 2 from prs_length ys)
          have Hone := Lib.hid (prs_one2 ys)
          have hz2b := HF.out.size
          have hk120 : k ≤ 121 := by omega
          clear hb2 ho2 ho2'
          go_wp2_with (at_builtin; refine wpList_append_own _ rfl _ _ 24 rfl w.heap.size 41 i0 (.agg #[.int .i64 0, .int .i64 0]) 2 16 Tryd.underlying24 hi hz0 hz1 hz2 rfl (by decide) _ _ _ rfl O2.out ⟨gp, 0, none⟩ ys.length cp (prs ys) rfl Hln.out Hcells.out Hone.out ?c3 ?c4 ?c5 ?_)
          case c3 => unfold maxLen; omega
          case c4 => omega
          case c5 => exact hz2b
          intro v' w4 hown' hgrow _
          have HB4 := Lib.hid (HF.out.grown hgrow hz2b (fun q hq => (O2.out.lt q hq).1))
          have HO4 := Lib.hid (show w4.ownsRow w.heap.size 41 2 v' (xs ++ ys).length (prs (xs ++ ys)) by rw [prs_append, List.length_append]; exact hown')
          clear hown' hgrow
          go_wp2_with fail
          first
          | (go_roundw; (case rel => exact ⟨k + 1, xs ++ ys, by omega, by go_num, hn1, HO4.out, HB4.out⟩); (case measure => simp [intOf]; omega))
          | exact ⟨⟨k + 1, xs ++ ys, by omega, by go_num, hn1, HO4.out, HB4.out⟩, by simp [intOf]; omega⟩
      · obtain rfl : k = bs.length := by omega
        have HPL := Lib.hid (PL.of_own HO1.out rfl Hxr.out (by omega))
        have HK1 := Lib.hid (fun W h => HOk.out u4 xs W h)
        have HE : Hid (uncO bs = if ptsOkB xs = true then some xs else none) := Lib.hid (by rw [HO.out, HU.out])
        unfold BoolPost at HK1
        generalize ptsOkB xs = F at *
        clear hst
        go_wp2_with fail
        refine (HK1.out _ HPL.out).mono ?_
        rintro e w2 ⟨rfl, hb2⟩
        have HF := Lib.hid (Hb.out.trans (hb2.mono hzb))
        have O2 := Lib.hid (u_own_below HO1.out hb2)
        clear hb2
        cases F with
        | false =>
          have E := Lib.hid (show uncO bs = none by rw [HE.out]; rfl)
          go_wp2_with fail
          go_ret2
          rw [E.out]
          exact ⟨_, rfl, World.ownsRow_nil _ _ _ _, HF.out⟩
        | true =>
          have E := Lib.hid (show uncO bs = some xs by rw [HE.out]; rfl)
          go_wp2_with fail
          go_ret2
          rw [E.out]
          exact ⟨_, rfl, O2.out, HF.out⟩
  · have hli : (120 : Int) < bs.length := by omega
    have E := Lib.hid (show uncO bs = none by unfold uncO; rw [if_neg hl])
    go_enter Tryd.func18, Tryd.ntmps18
    go_wp2_with fail
    go_ret2
    rw [E.out]
    exact ⟨_, rfl, World.ownsRow_nil _ _ _ _, Below.refl _ _⟩

def AllPost (bs : List (Int × ByteArray)) (w : World) (e : Ending) (w' : World) : Prop := (bs.length ≤ 120 → POutF (ptsX (uncT bs bs.length)) (ptsF (uncT bs bs.length)) w e w') ∧ ∃ v f, e = .returned (.tuple #[v, .bool f]) ∧ Below w.heap.size w w'

set_option maxRecDepth 100000 in
set_option maxHeartbeats 4000000 in
theorem specAll_any (v : Value) (bs : List (Int × ByteArray)) (w : World) (h : BL w w.heap.size v bs) (hsz : ∀ j, (bs.getD j (0, emB)).2.size ≤ 1048576) :
    Calls Tryd.prog 53 #[v] w (AllPost bs w) := by
  obtain ⟨hr, hlen, A, c, rfl, h3⟩ := h
  have Hr := Lib.hid hr
  have HSz := Lib.hid hsz
  clear hr hsz
  obtain ⟨i0, hi, hz0, hz1, hz2⟩ := info_parts info_pt
  have HP := Lib.hid (fun n s W hs => specPointsOf_any n s W hs)
  unfold POutF at HP
  have hown0 : (w.alloc (.cells #[] 41)).ownsRow w.heap.size 41 2 (.slice (some ⟨w.heap.size, 0, none⟩) 0 0) 0 (prs []) := by
    have h9 := World.ownsRow_made w (base := w.heap.size) (e := 41) (size := 2) #[] 0 (Nat.le_refl _) (by simp [maxLen]) rfl
    simpa [prs] using h9
  have H0 := Lib.hid hown0
  have HBa := Lib.hid (below1 w (.cells #[] 41))
  clear hown0
  · go_enter Tryd.func53, Tryd.ntmps53
    go_wp2_with fail
    go_loopw [4, 5] (fun u i wr => ∃ (k : Nat) (xs : List (Int × Int)), k ≤ bs.length ∧ k ≤ 121 ∧ i = .int .i64 (k : Int) ∧ Hid (uncT bs k = some xs) ∧ wr.ownsRow w.heap.size 41 2 u xs.length (prs xs) ∧ Below w.heap.size w wr)
      (fun _ i _ => bs.length - (intOf i).toNat)
    case atStart => exact ⟨0, [], Nat.zero_le _, by omega, by simp, Lib.hid rfl, H0.out, HBa.out⟩
    case round =>
      clear H0 HBa
      obtain ⟨k, xs, hk, hk121, rfl, HU, hown, hb⟩ := hrel
      have Hb := Lib.hid hb
      have HO1 := Lib.hid hown
      have hzb := hb.size
      obtain ⟨hxl, hxr⟩ := uncT_ok HU.out
      have Hxr := Lib.hid hxr
      have hst := uncT_step HU.out
      clear hb hown hxr
      by_cases hlt : k < bs.length ∧ k ≤ 120
      · obtain ⟨hlt, hk120⟩ := hlt
        have hk120i : (k : Int) ≤ 120 := by omega
        rcases h3 with h3 | ⟨b, off, rfl, hbl, hc⟩
        · subst h3; simp at hlt
        have hx0 : wr.cell? ⟨b, off + k * 2, none⟩ = some (.int .i64 (bs.getD k (0, emB)).1) := (Hb.out.cell (p := ⟨b, off + k * 2, none⟩) hbl).trans (hc k hlt).1
        have hx1 : wr.cell? ⟨b, off + k * 2 + 1, none⟩ = some (.string (bs.getD k (0, emB)).2) := (Hb.out.cell (p := ⟨b, off + k * 2 + 1, none⟩) hbl).trans (hc k hlt).2
        have hsk := HSz.out k
        clear hc
        generalize (bs.getD k (0, emB)).1 = N at *
        generalize (bs.getD k (0, emB)).2 = D at *
        have HSt := Lib.hid hst
        clear hst
        have HP1 := Lib.hid (fun W => HP.out N D W (by unfold maxLen; omega))
        have Ha := Hb
        have Oa := HO1
        cases hp : ptsB D N with
        | none =>
          have E := Lib.hid (show uncT bs bs.length = none from uncT_none (k := k + 1) (by rw [HSt.out, hp]) bs.length (by omega))
          rw [hp] at HP1
          clear hp
          go_wp2_with fail
          refine (HP1.out _).mono ?_
          rintro e w2 ⟨v2, rfl, _, hb2⟩
          have HF := Lib.hid (Ha.out.trans (hb2.mono Ha.out.size))
          clear hb2
          go_wp2_with fail
          go_ret2
          exact ⟨fun _ => by rw [E.out]; exact ⟨_, rfl, World.ownsRow_nil _ _ _ _, HF.out⟩, _, _, rfl, HF.out⟩
        | some ys =>
          obtain ⟨q1, _, _, q4, q5, q6⟩ := ptsB_some hp
          have hy0 : 0 < ys.length := (bk_ok q1).2
          rw [hp] at HP1
          have hn1 := Lib.hid (show uncT bs (k + 1) = some (xs ++ ys) by rw [HSt.out, hp])
          clear hp q1 q4 q6
          go_wp2_with fail
          refine (HP1.out _).mono ?_
          rintro e w2 ⟨v2, rfl, ho2, hb2⟩
          have ho2' : w2.ownsRow _ 41 2 v2 ys.length (prs ys) := ho2
          have HF := Lib.hid (Ha.out.trans (hb2.mono Ha.out.size))
          have O2 := Lib.hid (u_own_below Oa.out hb2)
          obtain ⟨gp, cp, rfl⟩ := own_form2 ho2' hy0
          have Hcells := Lib.hid (show ∀ j u, (prs ys)[j]? = some u → w2.cell? ((⟨gp, 0, none⟩ : Addr).add j) = some u from ho2'.cells rfl)
          have Hln := Lib.hid (show (prs ys).length = ys.length * 2 from prs_length ys)
          have Hone := Lib.hid (prs_one2 ys)
          have hz2b := HF.out.size
          clear hb2 ho2 ho2'
          go_wp2_with (at_builtin; refine wpList_append_own _ rfl _ _ 24 rfl w.heap.size 41 i0 (.agg #[.int .i64 0, .int .i64 0]) 2 16 Tryd.underlying24 hi hz0 hz1 hz2 rfl (by decide) _ _ _ rfl O2.out ⟨gp, 0, none⟩ ys.length cp (prs ys) rfl Hln.out Hcells.out Hone.out ?c3 ?c4 ?c5 ?_)
          case c3 => unfold maxLen; omega
          case c4 => omega
          case c5 => exact hz2b
          intro v' w4 hown' hgrow _
          have HB4 := Lib.hid (HF.out.grown hgrow hz2b (fun q hq => (O2.out.lt q hq).1))
          have HO4 := Lib.hid (show w4.ownsRow w.heap.size 41 2 v' (xs ++ ys).length (prs (xs ++ ys)) by rw [prs_append, List.length_append]; exact hown')
          clear hown' hgrow
          go_wp2_with fail
          first
          | (go_roundw; (case rel => exact ⟨k + 1, xs ++ ys, by omega, by omega, by go_num, hn1, HO4.out, HB4.out⟩); (case measure => simp [intOf]; omega))
          | exact ⟨⟨k + 1, xs ++ ys, by omega, by omega, by go_num, hn1, HO4.out, HB4.out⟩, by simp [intOf]; omega⟩
      · have hE : bs.length ≤ 120 → uncT bs bs.length = some xs := fun h => by
          have e : k = bs.length := by omega
          rw [← e]; exact HU.out
        have HE := Lib.hid hE
        clear hst hE
        by_cases hk2 : k < bs.length
        · have hk3 : ¬ (k : Int) ≤ 120 := by omega
          go_wp2_with fail
          go_ret2
          exact ⟨fun hq => by rw [HE.out hq]; exact ⟨_, rfl, HO1.out, Hb.out⟩, _, _, rfl, Hb.out⟩
        · obtain rfl : k = bs.length := by omega
          go_wp2_with fail
          go_ret2
          exact ⟨fun hq => by rw [HE.out hq]; exact ⟨_, rfl, HO1.out, Hb.out⟩, _, _, rfl, Hb.out⟩

set_option maxRecDepth 100000 in
set_option maxHeartbeats 2000000 in
theorem specUnchunked_any (v : Value) (bs : List (Int × ByteArray)) (w : World) (h : BL w w.heap.size v bs) (hsz : ∀ j, (bs.getD j (0, emB)).2.size ≤ 1048576) :
    Calls Tryd.prog 19 #[v] w (POutF (ptsX (uncO bs)) (ptsF (uncO bs)) w) := by
  have HA := Lib.hid (fun W h => specAll_any v bs W h hsz)
  have HOk := Lib.hid (fun v xs W h => specPointsOk_any v xs W h)
  have HB := Lib.hid h
  obtain ⟨_, _, A, c, rfl, _⟩ := h
  clear hsz
  by_cases hl : bs.length ≤ 120
  · have hli : ¬ (120 : Int) < bs.length := by omega
    have HO : Hid (uncO bs = match uncT bs bs.length with | none => none | some xs => if ptsOkB xs = true then some xs else none) := Lib.hid (by unfold uncO; rw [if_pos hl])
    have HA1 := Lib.hid (fun W h => (HA.out W h).mono (fun e w' q => q.1 hl))
    unfold POutF at HA1
    cases hu : uncT bs bs.length with
    | none =>
      have E := Lib.hid (show uncO bs = none by rw [HO.out, hu])
      rw [hu] at HA1
      clear hu
      go_enter Tryd.func19, Tryd.ntmps19
      go_wp2_with fail
      refine (HA1.out _ HB.out).mono ?_
      rintro e w1 ⟨v1, rfl, _, hb1⟩
      go_wp2_with fail
      go_ret2
      rw [E.out]
      exact ⟨_, rfl, World.ownsRow_nil _ _ _ _, hb1⟩
    | some xs =>
      obtain ⟨hxl, hxr⟩ := uncT_ok hu
      have HE : Hid (uncO bs = if ptsOkB xs = true then some xs else none) := Lib.hid (by rw [HO.out, hu])
      rw [hu] at HA1
      have HOk1 := Lib.hid (fun v W h => HOk.out v xs W h)
      unfold BoolPost at HOk1
      generalize ptsOkB xs = F at *
      clear hu
      go_enter Tryd.func19, Tryd.ntmps19
      go_wp2_with fail
      refine (HA1.out _ HB.out).mono ?_
      rintro e w1 ⟨v1, rfl, ho1, hb1⟩
      have ho1' : w1.ownsRow _ 41 2 v1 xs.length (prs xs) := ho1
      have HPL := Lib.hid (PL.of_own ho1' rfl hxr (by omega))
      have HO1 := Lib.hid ho1'
      have HF1 := Lib.hid hb1
      clear ho1 ho1' hb1 hxr
      go_wp2_with fail
      refine (HOk1.out _ _ HPL.out).mono ?_
      rintro e w2 ⟨rfl, hb2⟩
      have HF := Lib.hid (HF1.out.trans (hb2.mono HF1.out.size))
      have O2 := Lib.hid (u_own_below HO1.out hb2)
      clear hb2
      cases F with
      | false =>
        have E := Lib.hid (show uncO bs = none by rw [HE.out]; rfl)
        go_wp2_with fail
        go_ret2
        rw [E.out]
        exact ⟨_, rfl, World.ownsRow_nil _ _ _ _, HF.out⟩
      | true =>
        have E := Lib.hid (show uncO bs = some xs by rw [HE.out]; rfl)
        go_wp2_with fail
        go_ret2
        rw [E.out]
        exact ⟨_, rfl, O2.out, HF.out⟩
  · have hli : (120 : Int) < bs.length := by omega
    have E := Lib.hid (show uncO bs = none by unfold uncO; rw [if_neg hl])
    have HA1 := Lib.hid (fun W h => (HA.out W h).mono (fun e w' q => q.2))
    go_enter Tryd.func19, Tryd.ntmps19
    go_wp2_with fail
    refine (HA1.out _ HB.out).mono ?_
    rintro e w1 ⟨v1, f, rfl, hb1⟩
    cases f with
    | false =>
      go_wp2_with fail
      go_ret2
      rw [E.out]
      exact ⟨_, rfl, World.ownsRow_nil _ _ _ _, hb1⟩
    | true =>
      go_wp2_with fail
      go_ret2
      rw [E.out]
      exact ⟨_, rfl, World.ownsRow_nil _ _ _ _, hb1⟩
end Go.Proofs.YtanoohfhifhhaaaDoor
