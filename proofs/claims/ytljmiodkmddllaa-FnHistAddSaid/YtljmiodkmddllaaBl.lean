/- Walks: slots of a histogram; HistOf of the model. -/
import Derived.Test.YtljmiodkmddllaaBk
set_option linter.unusedVariables false
set_option linter.unusedSimpArgs false
namespace Go.Proofs.Ytljmiodkmddllaa
open Go.RowKit

def slotN (v : Int) (b : List Int) : Nat := b.countP fun x => decide (x ≤ v)
theorem slotN_le (v : Int) (b : List Int) : slotN v b ≤ b.length := List.countP_le_length
theorem ris_getD {b : List Int} (h : Ris b) {i j : Nat} (hij : i < j) (hj : j < b.length) : b.getD i 0 < b.getD j 0 := by
  have := List.pairwise_iff_getElem.1 h i j (by omega) hj hij
  rw [List.getD_eq_getElem?_getD, List.getElem?_eq_getElem (by omega), List.getD_eq_getElem?_getD, List.getElem?_eq_getElem hj]
  exact this
theorem slot_at {v : Int} {b : List Int} {n : Nat} (hr : Ris b) (hn : n ≤ b.length) (h1 : ∀ j, j < n → b.getD j 0 ≤ v) (h2 : n < b.length → v < b.getD n 0) : slotN v b = n := by
  have e := List.take_append_drop n b
  have h3 : (b.take n).countP (fun x => decide (x ≤ v)) = n := by
    have : (b.take n).countP (fun x => decide (x ≤ v)) = (b.take n).length := by
      rw [List.countP_eq_length]
      intro y hy
      obtain ⟨i, hi, rfl⟩ := List.getElem_of_mem hy
      rw [List.length_take] at hi
      have := h1 i (by omega)
      rw [List.getD_eq_getElem?_getD, List.getElem?_eq_getElem (by omega)] at this
      rw [List.getElem_take]
      simpa using this
    rw [this, List.length_take]; omega
  have h4 : (b.drop n).countP (fun x => decide (x ≤ v)) = 0 := by
    rw [List.countP_eq_zero]
    intro y hy
    obtain ⟨i, hi, rfl⟩ := List.getElem_of_mem hy
    rw [List.length_drop] at hi
    rw [List.getElem_drop]
    have h5 := h2 (by omega)
    rw [List.getD_eq_getElem?_getD, List.getElem?_eq_getElem (by omega)] at h5
    simp only [Option.getD_some] at h5
    simp only [decide_eq_true_eq]
    by_cases e : i = 0
    · subst e; simp; omega
    · have := List.pairwise_iff_getElem.1 hr n (n + i) (by omega) (by omega) (by omega)
      omega
  unfold slotN
  rw [← e, List.countP_append, h3, h4, Nat.add_zero]
/-- a value lies in one of the slots up to j: it is below the bound j -/
theorem slot_le_iff {v : Int} {b : List Int} {j : Nat} (hr : Ris b) (hj : j < b.length) : slotN v b ≤ j ↔ v < b.getD j 0 := by
  constructor
  · intro h
    by_cases hv : v < b.getD j 0
    · exact hv
    · exfalso
      have h3 : (b.take (j + 1)).countP (fun x => decide (x ≤ v)) = (b.take (j + 1)).length := by
        rw [List.countP_eq_length]
        intro y hy
        obtain ⟨i, hi, rfl⟩ := List.getElem_of_mem hy
        rw [List.length_take] at hi
        rw [List.getElem_take]
        have hi' : i ≤ j := by omega
        have : b.getD i 0 ≤ b.getD j 0 := by
          by_cases e : i = j
          · rw [e]; exact Int.le_refl _
          · exact Int.le_of_lt (ris_getD hr (by omega) hj)
        rw [List.getD_eq_getElem?_getD, List.getElem?_eq_getElem (by omega)] at this
        simp only [Option.getD_some] at this
        simp only [decide_eq_true_eq]
        omega
      have e := List.take_append_drop (j + 1) b
      unfold slotN at h
      rw [← e, List.countP_append, h3, List.length_take] at h
      omega
  · intro hv
    have e := List.take_append_drop j b
    have h4 : (b.drop j).countP (fun x => decide (x ≤ v)) = 0 := by
      rw [List.countP_eq_zero]
      intro y hy
      obtain ⟨i, hi, rfl⟩ := List.getElem_of_mem hy
      rw [List.length_drop] at hi
      rw [List.getElem_drop]
      have : b.getD j 0 ≤ b.getD (j + i) 0 := by
        by_cases e : i = 0
        · rw [e]; exact Int.le_refl _
        · exact Int.le_of_lt (ris_getD hr (by omega) (by omega))
      rw [List.getD_eq_getElem?_getD (i := j + i), List.getElem?_eq_getElem (by omega)] at this
      simp only [Option.getD_some] at this
      simp only [decide_eq_true_eq]
      omega
    unfold slotN
    rw [← e, List.countP_append, h4, Nat.add_zero]
    have := List.countP_le_length (p := fun x : Int => decide (x ≤ v)) (l := b.take j)
    rw [List.length_take] at this
    omega
def cEq (V b : List Int) (j : Nat) : Nat := V.countP fun v => decide (slotN v b = j)
def cLe (V b : List Int) (j : Nat) : Nat := V.countP fun v => decide (slotN v b ≤ j)
theorem cLe_zero (V b : List Int) : cLe V b 0 = cEq V b 0 := by
  unfold cLe cEq; congr 1; funext v; exact decide_eq_decide.2 (by omega)
theorem cLe_succ (V b : List Int) (j : Nat) : cLe V b (j + 1) = cLe V b j + cEq V b (j + 1) := by
  unfold cLe cEq
  induction V with
  | nil => rfl
  | cons v V ih =>
    simp only [List.countP_cons, decide_eq_true_eq]
    by_cases h1 : slotN v b ≤ j
    · rw [if_pos (show slotN v b ≤ j + 1 by omega), if_pos h1, if_neg (show ¬ slotN v b = j + 1 by omega)]; omega
    · by_cases h2 : slotN v b = j + 1
      · rw [if_pos (show slotN v b ≤ j + 1 by omega), if_neg h1, if_pos h2]; omega
      · rw [if_neg (show ¬ slotN v b ≤ j + 1 by omega), if_neg h1, if_neg h2]; omega
theorem cLe_bound {V b : List Int} {j : Nat} (hr : Ris b) (hj : j < b.length) : cLe V b j = V.countP fun v => decide (v < b.getD j 0) := by
  unfold cLe; congr 1; funext v; exact decide_eq_decide.2 (slot_le_iff hr hj)
theorem cLe_all (V b : List Int) : cLe V b b.length = V.length := by
  unfold cLe
  rw [List.countP_eq_length]
  intro v _
  simpa using slotN_le v b
theorem cEq_le (V b : List Int) (j : Nat) : cEq V b j ≤ V.length := List.countP_le_length
def hiL (V b : List Int) : List Int := (List.range (b.length + 1)).map fun j => (cEq V b j : Int)
theorem hiL_length (V b : List Int) : (hiL V b).length = b.length + 1 := by simp [hiL]
theorem hiL_getD (V b : List Int) (j : Nat) (hj : j < b.length + 1) : (hiL V b).getD j 0 = (cEq V b j : Int) := by
  simp [hiL, List.getD_eq_getElem?_getD, hj]
theorem hiL_in (V b : List Int) (j : Nat) : 0 ≤ (hiL V b).getD j 0 ∧ (hiL V b).getD j 0 ≤ V.length := by
  by_cases hj : j < b.length + 1
  · rw [hiL_getD V b j hj]; have := cEq_le V b j; omega
  · rw [List.getD_eq_getElem?_getD, List.getElem?_eq_none (by rw [hiL_length]; omega)]; simp
theorem cEq_snoc (V b : List Int) (v : Int) (j : Nat) : cEq (V ++ [v]) b j = cEq V b j + if slotN v b = j then 1 else 0 := by
  unfold cEq
  rw [List.countP_append]
  simp [List.countP_cons]
theorem hiL_snoc (V b : List Int) (v : Int) : hiL (V ++ [v]) b = (hiL V b).set (slotN v b) ((hiL V b).getD (slotN v b) 0 + 1) := by
  apply ints_ext
  · rw [List.length_set, hiL_length, hiL_length]
  · intro j hj
    rw [hiL_length] at hj
    have hs := slotN_le v b
    rw [getD_set_int _ _ _ _ (by rw [hiL_length]; omega), hiL_getD _ _ _ hj, cEq_snoc]
    by_cases e : j = slotN v b
    · rw [if_pos e, if_pos e.symm, e, hiL_getD _ _ _ (by omega)]; omega
    · rw [if_neg e, if_neg (fun h => e h.symm), hiL_getD _ _ _ hj]; omega
theorem hiL_nil (b : List Int) : hiL [] b = List.replicate (b.length + 1) 0 := by
  apply ints_ext
  · rw [hiL_length, List.length_replicate]
  · intro j hj
    rw [hiL_length] at hj
    rw [hiL_getD _ _ _ hj, List.getD_eq_getElem?_getD, List.getElem?_replicate, if_pos hj]
    rfl
def hoB (l : List (Int × Int)) (b : List Int) : Bool := ptsOkB l && bndB b
def hoM (l : List (Int × Int)) (b : List Int) : List Int := if hoB l b = true then hiL (l.map Prod.snd) b else []
theorem hoM_no {l : List (Int × Int)} {b : List Int} (e : hoB l b = false) : hoM l b = [] := by unfold hoM; rw [e]; rfl
theorem hoM_yes {l : List (Int × Int)} {b : List Int} (e : hoB l b = true) : hoM l b = hiL (l.map Prod.snd) b := by unfold hoM; rw [if_pos e]
theorem hoM_ok (l : List (Int × Int)) (b : List Int) : (∀ j, Rng ((hoM l b).getD j 0)) ∧ (hoM l b).length ≤ 1048576 := by
  cases e : hoB l b with
  | false => rw [hoM_no e]; exact ⟨fun j => ⟨by simp, by simp⟩, Nat.zero_le _⟩
  | true =>
    rw [hoM_yes e]
    unfold hoB at e
    rw [Bool.and_eq_true] at e
    have h1 := pts_len e.1
    have h2 := bndB_len e.2
    refine ⟨fun j => ?_, by rw [hiL_length]; omega⟩
    have := hiL_in (l.map Prod.snd) b j
    rw [List.length_map] at this
    exact ⟨by omega, by omega⟩

set_option maxRecDepth 100000 in
set_option maxHeartbeats 2000000 in
theorem l16Slot_any (v : Int) (u : Value) (b : List Int) (w : World) (h : IL w w.heap.size u b) (hr : Ris b) :
    Calls Try.prog 55 #[.int .i64 v, u] w fun e w' => e = .returned (.int .i64 (slotN v b : Nat)) ∧ w' = w := by
  obtain ⟨-, hlen, A, c, rfl, h3⟩ := h
  have HS := Lib.hid (fun (n : Nat) (hn : n ≤ b.length) h1 h2 => slot_at (v := v) (n := n) hr hn h1 h2)
  clear hr
  go_enter Try.func55, Try.ntmps55
  go_wp2_with fail
  go_loop [5] (fun i => ∃ k : Nat, k ≤ b.length ∧ i = .int .i64 k ∧ Hid (∀ j, j < k → b.getD j 0 ≤ v)) (fun i => b.length - (Go.RowKit.intOf i).toNat)
  case atStart => exact ⟨0, Nat.zero_le _, rfl, Lib.hid (fun j hj => by omega)⟩
  case round =>
    obtain ⟨k, hk, rfl, Hg⟩ := hrel
    by_cases hlt : k < b.length
    · rcases h3 with h3 | ⟨g, off, rfl, hbl, hc⟩
      · subst h3; simp at hlt
      have hx : w.cell? ⟨g, off + k, none⟩ = some (.int .i64 (b.getD k 0)) := hc k hlt
      clear hc
      by_cases hle : b.getD k 0 ≤ v
      · have H4 : Hid (∀ j, j < k + 1 → b.getD j 0 ≤ v) := Lib.hid (by
          intro j hj
          by_cases e : j = k
          · rw [e]; exact hle
          · exact Hg.out j (by omega))
        clear HS
        generalize b.getD k 0 = x at *
        go_wp2_with fail
        go_round
        case rel => exact ⟨k + 1, by omega, by go_num, H4⟩
        case measure => simp [Go.RowKit.intOf]; omega
      · have E := Lib.hid (HS.out k hk Hg.out (fun _ => by omega))
        clear HS
        generalize b.getD k 0 = x at *
        go_wp2_with fail
        go_ret
        exact ⟨by rw [E.out]; rfl, rfl⟩
    · have E := Lib.hid (HS.out k hk Hg.out (fun h => absurd h hlt))
      clear HS
      go_wp2_with fail
      go_ret
      exact ⟨by rw [E.out]; rfl, rfl⟩

set_option maxRecDepth 100000 in
set_option maxHeartbeats 4000000 in
theorem specHistOf_any (v u : Value) (xs : List (Int × Int)) (b : List Int) (w : World) (h : PL w w.heap.size v xs) (h' : IL w w.heap.size u b) :
    Calls Try.prog 28 #[v, u] w (OwnPost w.heap.size (hoM xs b) w) := by
  have hP := Lib.hid (specPointsOk_any v xs w h)
  have hB := Lib.hid (fun W h => specBoundsOk_any u b W h)
  have Q1 := Lib.hid h
  have Q2 := Lib.hid h'
  obtain ⟨i0, hi, hz0, hz1, hz2⟩ := info_parts u_info_i64
  obtain ⟨-, hlen, A, c, rfl, h3⟩ := h
  obtain ⟨-, hlen', A', c', rfl, h3'⟩ := h'
  cases ep : ptsOkB xs with
  | false =>
    have E := Lib.hid (hoM_no (l := xs) (b := b) (by unfold hoB; rw [ep]; rfl))
    rw [ep] at hP
    clear Q1 Q2 hB ep h3 h3'
    go_enter Try.func28, Try.ntmps28
    go_wp2_with fail
    refine hP.out.mono ?_
    rintro e w1 ⟨rfl, hb1⟩
    have hsz := hb1.size
    go_wp2_with fail
    go_ret
    rw [E.out]
    refine ⟨_, rfl, ?_, hb1.alloc hsz _⟩
    have := World.ownsRow_made w1 (base := w.heap.size) (e := 2) (size := 1) #[] 0 hsz (by simp [maxLen]) rfl
    simpa [ints] using this
  | true =>
  cases eb : bndB b with
  | false =>
    have E := Lib.hid (hoM_no (l := xs) (b := b) (by unfold hoB; rw [eb]; simp))
    rw [ep] at hP
    rw [eb] at hB
    clear Q1 ep eb h3 h3'
    go_enter Try.func28, Try.ntmps28
    go_wp2_with fail
    refine hP.out.mono ?_
    rintro e w1 ⟨rfl, hb1⟩
    have HB1 := Lib.hid hb1
    have HI1 := Lib.hid ((Q2.out.below hb1).up hb1.size)
    clear hb1
    go_wp2_with fail
    refine (hB.out _ HI1.out).mono ?_
    rintro e w2 ⟨rfl, hb2⟩
    have HB2 := Lib.hid (HB1.out.trans (hb2.mono HB1.out.size))
    have hsz := HB2.out.size
    clear hb2
    go_wp2_with fail
    go_ret
    rw [E.out]
    refine ⟨_, rfl, ?_, HB2.out.alloc hsz _⟩
    have := World.ownsRow_made w2 (base := w.heap.size) (e := 2) (size := 1) #[] 0 hsz (by simp [maxLen]) rfl
    simpa [ints] using this
  | true =>
    have E := Lib.hid (hoM_yes (l := xs) (b := b) (by unfold hoB; rw [ep, eb]; rfl))
    have HRS := Lib.hid (bndB_ris eb)
    have H20 := Lib.hid (bndB_len eb)
    have H120 := Lib.hid (pts_len ep)
    rw [ep] at hP
    rw [eb] at hB
    have HG := Lib.hid (vsOf_getD xs)
    have HVL := Lib.hid (show (xs.map Prod.snd).length = xs.length by simp)
    clear ep eb h3'
    obtain ⟨n, hn⟩ : ∃ n, b.length = n := ⟨_, rfl⟩
    have HN := Lib.hid hn
    rw [hn] at hB Q2 H20 hlen' ⊢
    clear hn
    go_enter Try.func28, Try.ntmps28
    go_wp2_with fail
    refine hP.out.mono ?_
    rintro e w1 ⟨rfl, hb1⟩
    have HB1 := Lib.hid hb1
    have HI1 := Lib.hid ((Q2.out.below hb1).up hb1.size)
    clear hb1
    go_wp2_with fail
    refine (hB.out _ HI1.out).mono ?_
    rintro e w2 ⟨rfl, hb2⟩
    have HB2 := Lib.hid (HB1.out.trans (hb2.mono HB1.out.size))
    have hsz := HB2.out.size
    have h20 := H20.out
    clear hb2 HI1 HB1 hP hB
    go_wp2_with (at_make; refine wpList_make_full _ rfl _ _ 22 rfl w.heap.size 2 i0 (.int .i64 0) 1 Try.underlying22 hi hz0 hz1 _ _ _ _ (n + 1) rfl rfl ?b0 ?b1 ?b2 ?b3 ?b4 ?_)
    case b0 => first | rfl | simp
    case b1 => first | rfl | simp
    case b2 => rw [hz2]; omega
    case b3 => unfold maxLen; omega
    case b4 => exact hsz
    intro w3 hown hgrow
    rw [made_ints] at hown
    have HO3 := Lib.hid hown
    have HB3 := Lib.hid (HB2.out.grown hgrow hsz (fun k hk => by cases hk))
    clear hgrow hown
    have HSL := Lib.hid (fun v W (hW : IL W W.heap.size (.slice A' n c') b) => l16Slot_any v _ b W hW HRS.out)
    go_wp2_with fail
    go_loopw [6] (fun i wr => ∃ k : Nat, k ≤ xs.length ∧ i = .int .i64 (k : Int) ∧ wr.ownsRow w.heap.size 2 1 (.slice (some ⟨w2.heap.size, 0, none⟩) (n + 1) (n + 1)) (n + 1) (ints (hiL ((xs.map Prod.snd).take k) b)) ∧ Below w.heap.size w wr)
      (fun i _ => xs.length - (Go.RowKit.intOf i).toNat)
    case atStart => exact ⟨0, Nat.zero_le _, by simp, by rw [List.take_zero, hiL_nil, HN.out]; exact HO3.out, HB3.out⟩
    case round =>
      clear HO3 HB3
      obtain ⟨k, hk, rfl, hown, hb⟩ := hrel
      by_cases hlt : k < xs.length
      · rcases h3 with h3 | ⟨b1, o1, rfl, hbl1, hc1⟩
        · subst h3; simp at hlt
        have hx : wr.cell? ⟨b1, o1 + k * 2 + 1, none⟩ = some (.int .i64 (xs.getD k (0, 0)).2) := (hb.cell (p := ⟨b1, o1 + k * 2 + 1, none⟩) hbl1).trans (hc1 k hlt).2
        have hV : (xs.map Prod.snd).take (k + 1) = (xs.map Prod.snd).take k ++ [(xs.getD k (0, 0)).2] := by
          rw [take_snoc_int (by rw [HVL.out]; exact hlt), HG.out]
        have HSN := Lib.hid (hiL_snoc ((xs.map Prod.snd).take k) b (xs.getD k (0, 0)).2)
        rw [← hV] at HSN
        have HIN := Lib.hid (hiL_in ((xs.map Prod.snd).take k) b)
        have HHL := Lib.hid ((hiL_length ((xs.map Prod.snd).take k) b).trans (by rw [HN.out]))
        have hvl : ((xs.map Prod.snd).take k).length ≤ 120 := by rw [List.length_take, HVL.out]; have := H120.out; omega
        have HVK := Lib.hid hvl
        clear hV hvl
        generalize hiL ((xs.map Prod.snd).take k) b = L at *
        generalize (xs.getD k (0, 0)).2 = x at *
        obtain ⟨p, hp⟩ : ∃ p, slotN x b = p := ⟨_, rfl⟩
        have hpn : p ≤ n := by rw [← hp, ← HN.out]; exact slotN_le x b
        have hSL := Lib.hid (fun W hW => HSL.out x W hW)
        rw [hp] at hSL HSN
        have hIW := Lib.hid ((Q2.out.below hb).up hb.size)
        have hcell : wr.cell? ⟨w2.heap.size, p, none⟩ = some (.int .i64 (L.getD p 0)) := by
          rw [hown.cellAt _ (by omega)]; exact ints_get _ _ (by rw [HHL.out]; omega)
        have hfro : wr.frozen? ⟨w2.heap.size, p, none⟩ = false := hown.frozenAt _
        have hin := HIN.out p
        have hvk := HVK.out
        generalize L.getD p 0 = y at *
        have hY : IntKind.i64.wrap (y + 1) = y + 1 := IntWalk.i64_in _ (by omega)
        have hst := hown.stored p (.int .i64 (y + 1))
        have hown2 := hst.1
        rw [ints_set] at hown2
        have Hown2 := Lib.hid hown2
        have Hb2 := Lib.hid (hb.setCell (show w.heap.size ≤ (⟨w2.heap.size, p, none⟩ : Addr).block by exact hsz) (.int .i64 (y + 1)))
        clear hst hown2 hown hb hc1 hp HIN hin hvk
        have hp1 : p < n + 1 := by omega
        go_wp2_with fail
        refine (hSL.out _ hIW.out).mono ?_
        rintro e wq ⟨rfl, hq⟩
        subst hq
        go_wp2_with fail
        go_roundw
        case rel => exact ⟨k + 1, by omega, by go_num, by rw [HSN.out]; exact Hown2.out, Hb2.out⟩
        case measure => simp [Go.RowKit.intOf]; omega
      · obtain rfl : k = xs.length := by omega
        rw [List.take_of_length_le (by rw [HVL.out]; exact Nat.le_refl _)] at hown
        have HO := Lib.hid hown
        have HB := Lib.hid hb
        clear hown hb
        go_wp2_with fail
        go_ret
        rw [E.out]
        exact ⟨_, rfl, by rw [hiL_length, HN.out]; exact HO.out, HB.out⟩
end Go.Proofs.Ytljmiodkmddllaa
