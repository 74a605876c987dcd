/- Walks: drawn ranks; a quantile lies in its slot; the law FnHistRank. -/
import Derived.Test.YtljmiodkmddllaaBt
import Derived.Test.YtljmiodkmddllaaBp
import Derived.Test.YtljmiodkmddllaaBh
set_option linter.unusedVariables false
set_option linter.unusedSimpArgs false
namespace Go.Proofs.Ytljmiodkmddllaa
open Go.RowKit

theorem hoM_len (l : List (Int × Int)) (b : List Int) : (hoM l b).length ≤ 21 := by
  cases e : hoB l b with
  | false => rw [hoM_no e]; exact Nat.zero_le _
  | true =>
    rw [hoM_yes e, hiL_length]
    unfold hoB at e
    rw [Bool.and_eq_true] at e
    have := bndB_len e.2
    omega

set_option maxRecDepth 100000 in
set_option maxHeartbeats 4000000 in
theorem DrawHistRank_any (A : Option Addr) (n c : Nat) (w : World) (h : CodeAt w A n c) :
    Calls Try.prog 37 #[.slice A n c] w fun e w' => ∃ v hs m, e = .returned (.tuple #[v, .int .i64 m]) ∧ IL w' w'.heap.size v hs ∧ Rng m ∧ Below w.heap.size w w' := by
  have H := Lib.hid h
  clear h
  have HSM := Lib.hid (fun B g W h => small_any 8 (by omega) (by omega) B g W h)
  go_enter Try.func37, Try.ntmps37
  go_wp2_with fail
  refine (open_any A n c _ H.out).mono ?_
  rintro e w1 ⟨rfl, hrd1, hb1⟩
  have Hrd1 := Lib.hid hrd1
  have Hb1 := Lib.hid hb1
  have hg1 := hrd1.lt
  clear hrd1 hb1
  go_wp2_with fail
  refine (DrawQuantile_any A n c _ (H.out.below Hb1.out)).mono ?_
  rintro e w2 ⟨qv, qa, m, rfl, hown, hal, har, hmr, hb2⟩
  have Hrd2 := Lib.hid (Hrd1.out.below hb2)
  have Hb2 := Lib.hid (Hb1.out.trans (hb2.mono Hb1.out.size))
  have hz12 := hb2.size
  have Hmr := Lib.hid hmr
  clear hown hal har hb2 Hrd1 Hb1 hmr
  go_wp2_with fail
  refine (HSM.out _ _ _ Hrd2.out).mono ?_
  rintro e w3 ⟨v, a, rfl, ht, hal, har⟩
  have Ht := Lib.hid ht
  have Har := Lib.hid har
  clear ht har
  go_wp2_with fail
  refine (bounds_any _ _ _ Ht.out.rd).mono ?_
  rintro e w4 ⟨u, b, rfl, ht4, hbl, hbr⟩
  have Ht4 := Lib.hid ht4
  have Hbr := Lib.hid hbr
  clear ht4 hbr
  have hz2 := Hb2.out.size
  have hz3 := Ht.out.gr.size
  have hz4 := Ht4.out.gr.size
  have HP := Lib.hid (PL.of_own (Ht.out.own.kept Ht4.out.gr (by
    by_cases hx : v.ownBlock = none
    · exact .inl hx
    · right; intro he; have := (Ht.out.own.lt _ he).1; omega)) rfl (fun j => prng_of Har.out j) (by omega))
  have HI := Lib.hid (IL.of_own Ht4.out.own rfl (rng_all Hbr.out) (by omega))
  have HB4 := Lib.hid ((Hb2.out.grown Ht.out.gr hz2 (fun k hk => by injection hk with hk; omega)).grown Ht4.out.gr (by omega) (fun k hk => by injection hk with hk; omega))
  clear Ht Ht4 Hb2 Hrd2
  go_wp2_with fail
  refine (specHistOf_any _ _ a b _ HP.out HI.out).mono ?_
  rintro e w5 ⟨hv, rfl, ho5, hb5⟩
  have HB5 := Lib.hid (HB4.out.trans (hb5.mono HB4.out.size))
  have HI5 := Lib.hid (IL.of_own ho5 rfl (hoM_ok a b).1 (hoM_ok a b).2)
  clear ho5 hb5
  go_wp2_with fail
  go_ret2
  exact ⟨hv, hoM a b, m, rfl, HI5.out, Hmr.out, HB5.out⟩

theorem psum_hiL (V b : List Int) : ∀ j, j ≤ b.length → psum (hiL V b) (j + 1) = (cLe V b j : Int) := by
  intro j
  induction j with
  | zero => intro _; rw [psum_succ (by rw [hiL_length]; omega), psum_zero, hiL_getD _ _ _ (by omega), cLe_zero]; omega
  | succ j ih => intro hj; rw [psum_succ (by rw [hiL_length]; omega), ih (by omega), hiL_getD _ _ _ (by omega), cLe_succ]; omega
theorem hiL_hist {V b : List Int} (hV : V.length ≤ 120) (hb : b.length ≤ 20) : histB (hiL V b) = true := by
  unfold histB
  rw [histTo_of (fun j hj => by
    have := hiL_in V b j
    unfold inH
    exact vIn_true this.1 (by omega)), decide_eq_true (by rw [hiL_length]; omega)]
  rfl
theorem sumsL_hiL (V b : List Int) (j : Nat) (hj : j ≤ b.length) : (sumsL (hiL V b)).getD j 0 = (cLe V b j : Int) := by
  rw [sumsL_getD _ _ (by rw [hiL_length]; omega), psum_hiL V b j hj]
/-- an element of the sorted list lies in one of the slots up to j just if there are more of these before it -/
theorem srt_slot {V b : List Int} {q j : Nat} (hr : Ris b) (hq : q < V.length) (hj : j ≤ b.length) : slotN ((srt V).getD q 0) b ≤ j ↔ q < cLe V b j := by
  by_cases e : j = b.length
  · rw [e, cLe_all]
    exact ⟨fun _ => hq, fun _ => slotN_le _ _⟩
  · have hj' : j < b.length := by omega
    rw [slot_le_iff hr hj', ← srt_below hr hj']
    have hl := srt_length V
    constructor
    · intro h
      have e1 := List.take_append_drop (q + 1) (srt V)
      have h3 : ((srt V).take (q + 1)).countP (fun x => decide (x < b.getD j 0)) = ((srt V).take (q + 1)).length := by
        rw [List.countP_eq_length]
        intro y hy
        obtain ⟨i, hi, rfl⟩ := List.getElem_of_mem hy
        rw [List.length_take] at hi
        have := srt_at_le (V := V) (i := i) (j := q) (by omega) (by omega)
        rw [List.getD_eq_getElem?_getD, List.getElem?_eq_getElem (by omega)] at this
        rw [List.getElem_take]
        simp only [Option.getD_some] at this
        simp only [decide_eq_true_eq]
        omega
      rw [← e1, List.countP_append, h3, List.length_take]
      omega
    · intro h
      by_cases hlt : (srt V).getD q 0 < b.getD j 0
      · exact hlt
      · exfalso
        have e1 := List.take_append_drop q (srt V)
        have h4 : ((srt V).drop q).countP (fun x => decide (x < b.getD j 0)) = 0 := by
          rw [List.countP_eq_zero]
          intro y hy
          obtain ⟨i, hi, rfl⟩ := List.getElem_of_mem hy
          rw [List.length_drop] at hi
          rw [List.getElem_drop]
          have := srt_at_le (V := V) (i := q) (j := q + i) (by omega) (by omega)
          rw [List.getD_eq_getElem?_getD (i := q + i), List.getElem?_eq_getElem (by omega)] at this
          simp only [Option.getD_some] at this
          simp only [decide_eq_true_eq]
          omega
        have h6 := List.countP_le_length (p := fun x : Int => decide (x < b.getD j 0)) (l := (srt V).take q)
        rw [List.length_take] at h6
        rw [← e1, List.countP_append, h4] at h
        omega
/-- the slot of a quantile is the one that HistRank tells -/
theorem rank_slot {l : List (Int × Int)} {b : List Int} {m : Int} (h : quB l m = true) (hb : bndB b = true) :
    hrM (hiL (l.map Prod.snd) b) m = (slotN (quV l m) b : Int) := by
  obtain ⟨h1, h2, h3⟩ := quB_parts h
  have hVL : (l.map Prod.snd).length = l.length := by simp
  have hr := bndB_ris hb
  have hl20 := bndB_len hb
  have h120 := pts_len h1
  have hps : psum (hiL (l.map Prod.snd) b) (hiL (l.map Prod.snd) b).length = (l.length : Int) := by
    rw [hiL_length, psum_hiL _ _ _ (Nat.le_refl _), cLe_all, hVL]
  have hhB := hiL_hist (V := l.map Prod.snd) (b := b) (by omega) hl20
  have hq := qIx_in (n := (l.length : Int)) (by omega) h3
  rw [hrM_yes (by unfold hrB; rw [hhB, h3, hps, decide_eq_true (by omega)]; rfl)]
  unfold hrK
  rw [hps]
  have hs := slotN_le (quV l m) b
  congr 1
  have hqn : (qIx (l.length : Int) m).toNat < (l.map Prod.snd).length := by omega
  refine cnt_at (by rw [sumsL_length, hiL_length]; omega) (fun j hj => ?_) ?_ (sumsL_sorted (histB_NN hhB))
  · rw [sumsL_hiL _ _ j (by omega)]
    have := (srt_slot (q := (qIx (l.length : Int) m).toNat) (j := j) hr hqn (by omega)).2
    have h9 : ¬ slotN (quV l m) b ≤ j := by omega
    have : ¬ (qIx (l.length : Int) m).toNat < cLe (l.map Prod.snd) b j := fun h => h9 (this h)
    omega
  · rw [sumsL_hiL _ _ _ hs]
    have := (srt_slot (q := (qIx (l.length : Int) m).toNat) (j := slotN (quV l m) b) hr hqn hs).1 (Nat.le_refl _)
    omega
theorem slot_lo {v : Int} {b : List Int} (hr : Ris b) (h : 0 < slotN v b) : b.getD (slotN v b - 1) 0 ≤ v := by
  have hs := slotN_le v b
  have := (slot_le_iff (v := v) (b := b) (j := slotN v b - 1) hr (by omega)).2
  by_cases hv : b.getD (slotN v b - 1) 0 ≤ v
  · exact hv
  · exact absurd (this (by omega)) (by omega)
theorem slot_hi {v : Int} {b : List Int} (hr : Ris b) (h : slotN v b < b.length) : v < b.getD (slotN v b) 0 :=
  (slot_le_iff hr h).1 (Nat.le_refl _)
end Go.Proofs.Ytljmiodkmddllaa
