/- What the code's reader gives of a code, and that what it reads is the code of what it gives. -/
import Derived.Test.YtanoohfhifhhaaaDoorHk
import Derived.Test.YtanoohfhifhhaaaDoorSd
import Derived.Test.YtanoohfhifhhaaaDoorGd
import Derived.Test.YtanoohfhifhhaaaDoorQn
import Derived.Test.YtanoohfhifhhaaaDoorSe
set_option linter.unusedVariables false
set_option linter.unusedSimpArgs false
namespace Go.Proofs.YtanoohfhifhhaaaDoor
open Go.RowKit

theorem numL_mid (A C : List Bool) (v n : Nat) (hv : v < 2 ^ n) : numL (A ++ (BM.digits v n ++ C)) A.length n = v := by
  unfold numL
  rw [← BM.ofBits_testBit v n hv]
  rw [BM.ofBits_testBit v n hv]
  refine Eq.trans (BM.ofBits_congr (g := fun i => v.testBit (n - 1 - i)) fun i hi => ?_) (BM.ofBits_testBit v n hv)
  simp only [List.getD_eq_getElem?_getD]
  rw [List.getElem?_append_right (by omega), Nat.add_sub_cancel_left, List.getElem?_append_left (by rw [BM.digits_length]; exact hi)]
  have h := BM.digits_getD v n i
  rw [if_pos hi, List.getD_eq_getElem?_getD] at h
  exact h
theorem bit_at (A C : List Bool) (b : Bool) : numL (A ++ b :: C) A.length 1 = b.toNat := by
  have h := numL_mid A C b.toNat 1 (by cases b <;> decide)
  have e : BM.digits b.toNat 1 = [b] := by cases b <;> decide
  rw [e] at h
  simpa using h
theorem onesL_zero (m : Nat) : ∀ (j i : Nat) (A C : List Bool), onesL (A ++ (List.replicate j true ++ false :: C)) (j + 1 + m) i A.length = some (i + j, A.length + j + 1) := by
  intro j
  induction j with
  | zero =>
    intro i A C
    rw [show 0 + 1 + m = m + 1 by omega, onesL, if_pos (by simp)]
    rw [List.replicate_zero, List.nil_append, bit_at A C false, if_pos (by decide)]
    simp
  | succ j ih =>
    intro i A C
    have h := ih (i + 1) (A ++ [true]) C
    rw [List.replicate_succ, List.cons_append, show j + 1 + 1 + m = (j + 1 + m) + 1 by omega, onesL, if_pos (by simp), bit_at A _ true, if_neg (by decide)]
    simp only [List.append_assoc, List.singleton_append, List.length_append, List.length_cons, List.length_nil, Nat.zero_add] at h
    rw [h]
    simp; omega
theorem onesL_all : ∀ (j i : Nat) (A C : List Bool), onesL (A ++ (List.replicate j true ++ C)) j i A.length = some (i + j, A.length + j) := by
  intro j
  induction j with
  | zero => intro i A C; rfl
  | succ j ih =>
    intro i A C
    have h := ih (i + 1) (A ++ [true]) C
    rw [List.replicate_succ, List.cons_append, onesL, if_pos (by simp), bit_at A _ true, if_neg (by decide)]
    simp only [List.append_assoc, List.singleton_append, List.length_append, List.length_cons, List.length_nil, Nat.zero_add] at h
    rw [h]
    simp; omega
theorem codeB_eq {d : Int} (hs : stepB d = true) : codeB d = codeL d := by unfold codeB; rw [hs]; rfl
theorem getL_code {d : Int} (hs : stepB d = true) (A C : List Bool) : getL (A ++ (codeL d ++ C)) A.length = some (d, A.length + (codeL d).length) := by
  have lim := stepB_iff.1 hs
  have key : ∀ (i : Nat) (pre : List Bool), codeL d = pre ++ BM.digits (u64of (d + offI i)) (bitsI i) → onesL (A ++ (codeL d ++ C)) 4 0 A.length = some (i, A.length + pre.length) → 0 ≤ d + offI i → d + offI i < (2 ^ bitsI i : Nat) → bitsI i ≤ 42 →
      getL (A ++ (codeL d ++ C)) A.length = some (d, A.length + (codeL d).length) := by
    intro i pre h hones h0 h1 hle
    have hu : u64of (d + offI i) = (d + offI i).toNat := by
      have : (2 : Nat) ^ bitsI i ≤ 2 ^ 42 := Nat.pow_le_pow_right (by omega) hle
      unfold u64of; omega
    have hn : numL (A ++ (codeL d ++ C)) (A.length + pre.length) (bitsI i) = (d + offI i).toNat := by
      have hm := numL_mid (A ++ pre) C (u64of (d + offI i)) (bitsI i) (by rw [hu]; omega)
      rw [List.length_append] at hm
      rw [h, List.append_assoc pre, ← List.append_assoc A, hm, hu]
    have hl : (codeL d).length = pre.length + bitsI i := by rw [h, List.length_append, BM.digits_length]
    have hd : ((d + offI i).toNat : Int) - offI i = d := by omega
    unfold getL
    rw [hones]
    simp only
    rw [hn, hd, codeB_eq hs, if_pos (by simp [hl]; omega), if_pos (by rw [hl]; omega), hl]
    simp; omega
  have hc : codeL d = if d = 0 then [false]
      else if -63 ≤ d ∧ d ≤ 64 then [true, false] ++ BM.digits (u64of (d + 63)) 7
      else if -255 ≤ d ∧ d ≤ 256 then [true, true, false] ++ BM.digits (u64of (d + 255)) 9
      else if -2047 ≤ d ∧ d ≤ 2048 then [true, true, true, false] ++ BM.digits (u64of (d + 2047)) 12
      else [true, true, true, true] ++ BM.digits (u64of (d + 2199023255552)) 42 := rfl
  split at hc
  · refine key 0 [false] (by rw [hc]; rfl) ?_ (by simp [offI]; omega) (by simp [offI, bitsI]; omega) (by decide)
    rw [hc]; exact (onesL_zero 3 0 0 A _).trans (by simp)
  · split at hc
    · refine key 1 [true, false] hc ?_ (by simp [offI]; omega) (by simp [offI, bitsI]; omega) (by decide)
      rw [hc]; exact (onesL_zero 2 1 0 A _).trans (by simp)
    · split at hc
      · refine key 2 [true, true, false] hc ?_ (by simp [offI]; omega) (by simp [offI, bitsI]; omega) (by decide)
        rw [hc]; exact (onesL_zero 1 2 0 A _).trans (by simp)
      · split at hc
        · refine key 3 [true, true, true, false] hc ?_ (by simp [offI]; omega) (by simp [offI, bitsI]; omega) (by decide)
          rw [hc]; exact (onesL_zero 0 3 0 A _).trans (by simp)
        · refine key 4 [true, true, true, true] hc ?_ (by simp [offI]; omega) (by simp [offI, bitsI]; omega) (by decide)
          rw [hc]; exact (onesL_all 4 0 A _).trans (by simp)

theorem numL_bit (L : List Bool) (p : Nat) (hp : p < L.length) : numL L p 1 = (L[p]'hp).toNat := by
  have e : L.getD p false = L[p] := by simp [List.getD_eq_getElem?_getD, hp]
  have h := BM.digits_ofBits (fun j => L.getD (p + j) false) 1
  unfold numL
  have hl := BM.ofBits_lt (fun j => L.getD (p + j) false) 1
  generalize hv : BM.ofBits (fun j => L.getD (p + j) false) 1 = v at *
  have hv2 : v = 0 ∨ v = 1 := by omega
  have h' : (BM.digits v 1) = [L[p]] := by rw [h]; simp [e, hp]
  rcases hv2 with rfl | rfl
  · have : [false] = [L[p]] := h'
    injection this with t
    rw [← t]; rfl
  · have : [true] = [L[p]] := h'
    injection this with t
    rw [← t]; rfl
theorem take_digits (L : List Bool) (r n : Nat) (h : r + n ≤ L.length) : (L.drop r).take n = BM.digits (numL L r n) n := by
  unfold numL
  rw [BM.digits_ofBits]
  apply List.ext_getElem?
  intro j
  by_cases hj : j < n
  · rw [List.getElem?_take, if_pos hj, List.getElem?_drop, List.getElem?_map, List.getElem?_range hj]
    simp [List.getD_eq_getElem?_getD, show r + j < L.length by omega]
  · rw [List.getElem?_take, if_neg hj, List.getElem?_eq_none (by simp; omega)]
theorem drop_cons_at (L : List Bool) (p : Nat) (hp : p < L.length) : L.drop p = L[p] :: L.drop (p + 1) := List.drop_eq_getElem_cons hp
theorem onesL_conv (L : List Bool) : ∀ (k i p j r : Nat), onesL L k i p = some (j, r) → p ≤ L.length →
    i ≤ j ∧ j ≤ i + k ∧ r ≤ L.length ∧ L.drop p = (if j = i + k then List.replicate k true else List.replicate (j - i) true ++ [false]) ++ L.drop r ∧ r = p + (if j = i + k then k else j - i + 1) := by
  intro k
  induction k with
  | zero =>
    intro i p j r h hp
    simp only [onesL, Option.some.injEq, Prod.mk.injEq] at h
    obtain ⟨rfl, rfl⟩ := h
    simp [hp]
  | succ k ih =>
    intro i p j r h hp
    rw [onesL] at h
    split at h
    · rename_i hlt
      have hp' : p < L.length := by omega
      rw [numL_bit L p hp'] at h
      have hd := drop_cons_at L p hp'
      generalize L[p] = b at *
      cases b with
      | false =>
        rw [if_pos (by decide)] at h
        simp only [Option.some.injEq, Prod.mk.injEq] at h
        obtain ⟨rfl, rfl⟩ := h
        have hne : ¬ i = i + (k + 1) := by omega
        rw [if_neg hne, if_neg hne]
        exact ⟨Nat.le_refl _, by omega, by omega, by rw [hd]; simp, by omega⟩
      | true =>
        rw [if_neg (by decide)] at h
        obtain ⟨h1, h2, h3, h4, h5⟩ := ih (i + 1) (p + 1) j r h (by omega)
        refine ⟨by omega, by omega, h3, ?_, ?_⟩
        · rw [hd, h4]
          by_cases e : j = i + 1 + k
          · rw [if_pos e, if_pos (by omega)]; rfl
          · rw [if_neg e, if_neg (by omega), show j - i = (j - (i + 1)) + 1 by omega, List.replicate_succ]; rfl
        · by_cases e : j = i + 1 + k
          · rw [if_pos e] at h5; rw [if_pos (by omega)]; omega
          · rw [if_neg e] at h5; rw [if_neg (by omega)]; omega
    · cases h
theorem getL_conv {L : List Bool} {p q : Nat} {d : Int} (h : getL L p = some (d, q)) (hp : p ≤ L.length) :
    stepB d = true ∧ (L.drop p).take (q - p) = codeL d ∧ q = p + (codeL d).length ∧ q ≤ L.length := by
  unfold getL at h
  split at h
  · cases h
  · rename_i i r ho
    obtain ⟨_, hi, hr, hd, hrp⟩ := onesL_conv L 4 0 p i r ho hp
    split at h
    · rename_i hle
      split at h
      · rename_i hlen
        simp only [Option.some.injEq, Prod.mk.injEq] at h
        obtain ⟨rfl, rfl⟩ := h
        have ht := take_digits L r (bitsI i) hle
        have hv : numL L r (bitsI i) < 2 ^ bitsI i := BM.ofBits_lt _ _
        generalize numL L r (bitsI i) = V at *
        have hpos : (codeB ((V : Int) - offI i)).length ≠ 0 := by
          rw [hlen]
          split at hrp <;> omega
        have hst : stepB ((V : Int) - offI i) = true := by
          unfold codeB at hpos
          cases hs : stepB ((V : Int) - offI i) with
          | true => rfl
          | false => rw [hs] at hpos; simp at hpos
        have hcb : codeB ((V : Int) - offI i) = codeL ((V : Int) - offI i) := by unfold codeB; rw [hst]; rfl
        rw [hcb] at hlen
        have hcode : codeL ((V : Int) - offI i) = (if i = 0 + 4 then List.replicate 4 true else List.replicate (i - 0) true ++ [false]) ++ BM.digits V (bitsI i) := by
          have hi5 : i = 0 ∨ i = 1 ∨ i = 2 ∨ i = 3 ∨ i = 4 := by omega
          clear ht hd hcb hst hpos hle ho hr
          rcases hi5 with rfl | rfl | rfl | rfl | rfl
          all_goals
            simp only [bitsI, offI] at *
            simp at hrp
            unfold codeL at hlen ⊢
            split at hlen
            all_goals try split at hlen
            all_goals try split at hlen
            all_goals try split at hlen
            all_goals simp [BM.digits_length] at hlen
            all_goals first
              | (exfalso; omega)
              | skip
          · rw [if_pos (by assumption)]; rfl
          · rw [if_neg (by assumption), if_pos (by assumption), show u64of ((V : Int) - 63 + 63) = V by unfold u64of; omega]; rfl
          · rw [if_neg (by assumption), if_neg (by assumption), if_pos (by assumption), show u64of ((V : Int) - 255 + 255) = V by unfold u64of; omega]; rfl
          · rw [if_neg (by assumption), if_neg (by assumption), if_neg (by assumption), if_pos (by assumption), show u64of ((V : Int) - 2047 + 2047) = V by unfold u64of; omega]; rfl
          · rw [if_neg (by assumption), if_neg (by assumption), if_neg (by assumption), if_neg (by assumption), show u64of ((V : Int) - 2199023255552 + 2199023255552) = V by unfold u64of; omega]; rfl
        refine ⟨hst, ?_, ?_, hle⟩
        · rw [hcode, hd]
          have hpl : (if i = 0 + 4 then List.replicate 4 true else List.replicate (i - 0) true ++ [false]).length = r - p := by
            split at hrp
            · rename_i e; rw [if_pos e]; simp; omega
            · rename_i e; rw [if_neg e]; simp; omega
          have hrp' : p ≤ r := by split at hrp <;> omega
          generalize (if i = 0 + 4 then List.replicate 4 true else List.replicate (i - 0) true ++ [false]) = pre at *
          rw [show r + bitsI i - p = pre.length + bitsI i by omega, List.take_length_add_append, ht]
        · rw [hlen]; split at hrp <;> omega
      · cases h
    · cases h
end Go.Proofs.YtanoohfhifhhaaaDoor

/- Round trips: what the times' reader gives of a list's bits. -/
set_option linter.unusedVariables false
set_option linter.unusedSimpArgs false
namespace Go.Proofs.YtanoohfhifhhaaaDoor
open Go.RowKit

theorem timesTo_split (xs : List Int) {k n : Nat} (hk : k ≤ n) : ∃ R, timesTo xs n = timesTo xs k ++ R := by
  induction n with
  | zero => obtain rfl : k = 0 := by omega
            exact ⟨[], by simp⟩
  | succ n ih =>
    by_cases e : k = n + 1
    · subst e; exact ⟨[], by simp⟩
    · obtain ⟨R, hR⟩ := ih (by omega)
      exact ⟨R ++ timesPart xs n, by rw [timesTo, hR, List.append_assoc]⟩
theorem q_stepAt_take {xs : List Int} {n k : Nat} (hk : k < n) : stepAt (xs.take n) k = stepAt xs k := by
  unfold stepAt
  split
  · rfl
  · simp only [List.getD_eq_getElem?_getD, List.getElem?_take]
    rw [if_pos hk, if_pos (by omega)]
theorem q_take_succ (xs : List Int) (k : Nat) (hk : k < xs.length) : xs.take (k + 1) = xs.take k ++ [xs.getD k 0] := by
  rw [List.take_add_one, List.getD_eq_getElem?_getD]
  congr 1
  rw [List.getElem?_eq_getElem hk]; rfl
theorem good_rng {xs : List Int} (h : goodTo xs xs.length = true) {k : Nat} (hk : k < xs.length) : 0 ≤ xs.getD k 0 ∧ xs.getD k 0 ≤ 1000000000000 ∧ (k = 0 ∨ xs.getD (k - 1) 0 < xs.getD k 0) := by
  have hg := goodTo_at h hk
  unfold goodAt at hg
  simp only [Bool.and_eq_true, Bool.or_eq_true, decide_eq_true_eq] at hg
  exact ⟨hg.1.1, hg.1.2, hg.2⟩
theorem good_diff {xs : List Int} (h : goodTo xs xs.length = true) {k : Nat} (hk : k < xs.length) : stepB (stepAt xs k - stepAt xs (k - 1)) = true := by
  have g0 := good_rng h hk
  rw [stepB_iff]
  unfold stepAt
  by_cases e0 : k = 0
  · subst e0; simp
  · have g1 := good_rng h (show k - 1 < xs.length by omega)
    by_cases e1 : k - 1 = 0
    · rw [if_neg e0, if_pos e1]; omega
    · have g2 := good_rng h (show k - 1 - 1 < xs.length by omega)
      rw [if_neg e0, if_neg e1]; omega
theorem timesG_back {xs : List Int} (h : goodTo xs xs.length = true) (A C : List Bool) : ∀ k, k ≤ xs.length →
    timesG (fL (A ++ (timesTo xs xs.length ++ C))) (getL (A ++ (timesTo xs xs.length ++ C))) k A.length = some (xs.take k, A.length + (timesTo xs k).length) := by
  intro k
  induction k with
  | zero => intro _; simp [timesG, timesTo]
  | succ k ih =>
    intro hk
    rw [timesG_step (ih (by omega))]
    obtain ⟨R, hR⟩ := timesTo_split xs (show k + 1 ≤ xs.length from hk)
    have hL : A ++ (timesTo xs xs.length ++ C) = (A ++ timesTo xs k) ++ (timesPart xs k ++ (R ++ C)) := by
      rw [hR, timesTo]; simp only [List.append_assoc]
    have hlen : A.length + (timesTo xs k).length = (A ++ timesTo xs k).length := by simp
    have g0 := good_rng h (show k < xs.length by omega)
    have hl1 : A.length + (timesTo xs (k + 1)).length = (A ++ timesTo xs k).length + (timesPart xs k).length := by rw [timesTo]; simp; omega
    rw [hL, hlen, hl1, q_take_succ xs k (by omega)]
    by_cases e : k = 0
    · subst e
      have hu : u64of (xs.getD 0 0) = (xs.getD 0 0).toNat := by unfold u64of; omega
      have hp : timesPart xs 0 = BM.digits (u64of (xs.getD 0 0)) 40 := rfl
      rw [if_pos rfl, hp]
      have hf : fL ((A ++ timesTo xs 0) ++ (BM.digits (u64of (xs.getD 0 0)) 40 ++ (R ++ C))) (A ++ timesTo xs 0).length = some (xs.getD 0 0, (A ++ timesTo xs 0).length + 40) := by
        unfold fL
        rw [numL_mid _ _ _ 40 (by rw [hu]; omega), hu, if_pos (by simp [BM.digits_length]; omega)]
        congr 2
        omega
      rw [hf]
      simp [BM.digits_length]
    · have hst := good_diff h (show k < xs.length by omega)
      have hp : timesPart xs k = codeL (stepAt xs k - stepAt xs (k - 1)) := by
        unfold timesPart; rw [if_neg e, codeB_eq hst]
      rw [if_neg e, hp, getL_code hst]
      simp only [if_neg e]
      have ht : (xs.take k).getD (k - 1) 0 = xs.getD (k - 1) 0 := by
        simp only [List.getD_eq_getElem?_getD, List.getElem?_take]
        rw [if_pos (by omega)]
      rw [ht, q_stepAt_take (by omega)]
      have hs : stepAt xs k = xs.getD k 0 - xs.getD (k - 1) 0 := by unfold stepAt; rw [if_neg e]
      rw [show xs.getD (k - 1) 0 + (stepAt xs (k - 1) + (stepAt xs k - stepAt xs (k - 1))) = xs.getD k 0 by rw [hs]; omega]
/-- the bits of a list of times, wherever they begin, give the list -/
theorem timesB_back {xs : List Int} (h : timesOkB xs = true) (A C : List Bool) : timesB (A ++ (timesL xs ++ C)) xs.length A.length = some (xs, A.length + (timesL xs).length) := by
  have hg : goodTo xs xs.length = true := by unfold timesOkB at h; rw [Bool.and_eq_true] at h; exact h.2
  unfold timesB timesL
  rw [timesG_back hg A C xs.length (Nat.le_refl _), List.take_length]
  simp only [timesFin]
  rw [if_pos h]
end Go.Proofs.YtanoohfhifhhaaaDoor

/- Round trips: the points of a block. -/
set_option linter.unusedVariables false
set_option linter.unusedSimpArgs false
namespace Go.Proofs.YtanoohfhifhhaaaDoor
open Go.RowKit

theorem listOf_more (d : List UInt8) {n m : Nat} (h : n ≤ m) : ∃ Z, BM.listOf d m = BM.listOf d n ++ Z := by
  have e : (BM.listOf d m).take n = BM.listOf d n := by
    unfold BM.listOf
    rw [← List.map_take, List.take_range, Nat.min_eq_left h]
  exact ⟨(BM.listOf d m).drop n, by rw [← e, List.take_append_drop]⟩
/-- all bits of the bytes s -/
def allL (s : ByteArray) : List Bool := BM.listOf s.data.toList (8 * s.size)
theorem allL_len (s : ByteArray) : (allL s).length = 8 * s.size := BM.listOf_length _ _
theorem ba_len (s : ByteArray) : s.data.toList.length = s.size := by rw [Array.length_toList]; rfl
theorem allL_ok {s : ByteArray} (h : s.size ≤ 2500) : okB s ((8 * s.size : Nat) : Int) = true := by
  unfold okB
  apply decide_eq_true
  refine ⟨by omega, by omega, by omega, ?_⟩
  rw [Int.toNat_natCast]
  exact BM.okFull (by rw [ba_len]; unfold BM.bytesOf; omega) (by omega)
theorem bk_ok {xs : List (Int × Int)} (h : bkB xs = true) : ptsOkB xs = true ∧ 0 < xs.length := by
  unfold bkB at h; rw [Bool.and_eq_true, decide_eq_true_iff] at h; exact h
theorem bkL_len {xs : List (Int × Int)} (h : bkB xs = true) : (bkL xs).length ≤ 14760 := by
  have h120 : xs.length ≤ 120 := ptsOk_len (bk_ok h).1
  have hl1 : (timesL (xs.map Prod.fst)).length ≤ 46 * 120 := Nat.le_trans (timesTo_le _ _) (by simp; omega)
  have hl2 : (valTo (xs.map Prod.snd) (xs.map Prod.snd).length).1.length ≤ 77 * 120 := Nat.le_trans (valTo_ok _ _).2 (by simp; omega)
  unfold bkL
  rw [List.length_append]; omega
theorem bkD_size (xs : List (Int × Int)) : (bkD xs).size ≤ 1846 := by
  unfold bkD
  split
  · rename_i h
    have := bkL_len h
    rw [gd_pack_size]; omega
  · show (0 : Nat) ≤ 1846; omega
theorem bkN_rng (xs : List (Int × Int)) (h : xs.length ≤ 1048576) : Rng (bkN xs) := by
  unfold bkN Rng; split <;> omega
theorem blk_bits {xs : List (Int × Int)} {s : ByteArray} (hB : bkB xs = true) (hD : bkD xs = s) : ∃ Z, allL s = bkL xs ++ Z := by
  unfold bkD at hD; rw [if_pos hB] at hD
  subst hD
  have hs := gd_pack_size (bkL xs)
  obtain ⟨Z, hZ⟩ := listOf_more (ByteArray.mk (BM.pack (bkL xs)).toArray).data.toList (n := (bkL xs).length) (m := 8 * (ByteArray.mk (BM.pack (bkL xs)).toArray).size) (by rw [hs]; omega)
  refine ⟨Z, ?_⟩
  unfold allL
  rw [hZ, gd_pack_list, BM.listOf_pack]
/-- the points xs, if the block (s, n) is theirs -/
def ptsZ (s : ByteArray) (n : Int) (xs : List (Int × Int)) : Option (List (Int × Int)) :=
  if bkN xs = n ∧ bkD xs = s then some xs else none
def ptsL (L : List Bool) (s : ByteArray) (n : Nat) : Option (List (Int × Int)) := match timesB L n 0 with
  | none => none
  | some (ts, q) => match valG L n q with
    | none => none
    | some (vs, _, _, _) => ptsZ s (n : Int) (ts.zip vs)
/-- what PointsOf returns -/
def ptsB (s : ByteArray) (n : Int) : Option (List (Int × Int)) :=
  if (1 ≤ n ∧ n ≤ 120) ∧ s.size ≤ 2500 then ptsL (allL s) s n.toNat else none
/-- the same with the program's reader of values, which compares by itself -/
def ptsI (L : List Bool) (s : ByteArray) (n : Nat) : Option (List (Int × Int)) := match timesB L n 0 with
  | none => none
  | some (ts, q) => match valsB L n q with
    | none => none
    | some (vs, _) => ptsZ s (n : Int) (ts.zip vs)
theorem ptsZ_some {s : ByteArray} {n : Int} {xs ys : List (Int × Int)} (h : ptsZ s n xs = some ys) : xs = ys ∧ bkN xs = n ∧ bkD xs = s := by
  unfold ptsZ at h
  split at h
  · rename_i hc; exact ⟨Option.some.inj h, hc.1, hc.2⟩
  · cases h
theorem bkN_pos {xs : List (Int × Int)} {n : Int} (h : bkN xs = n) (hn : 1 ≤ n) : bkB xs = true ∧ (xs.length : Int) = n := by
  unfold bkN at h
  split at h
  · rename_i hb; exact ⟨hb, h⟩
  · omega
theorem goodTs {xs : List (Int × Int)} (h : ptsOkB xs = true) : timesOkB (xs.map Prod.fst) = true := h
theorem timesB_len {L : List Bool} {n p q : Nat} {ts : List Int} (hp : p ≤ L.length) (hn : n ≤ 120) (h : timesB L n p = some (ts, q)) : TG ts n p q L.length := by
  unfold timesB timesFin at h
  cases h0 : timesG (fL L) (getL L) n p with
  | none => rw [h0] at h; cases h
  | some a =>
    obtain ⟨xs, m⟩ := a
    rw [h0] at h
    simp only at h
    split at h
    · simp only [Option.some.injEq, Prod.mk.injEq] at h
      obtain ⟨rfl, rfl⟩ := h
      exact timesG_ok (rdOk_L L) hp n xs m hn h0
    · cases h
theorem valG_ok {L : List Bool} {n p q l t : Nat} {vs : List Int} (hp : p ≤ L.length) (h : valG L n p = some (vs, q, l, t)) : vs.length = n ∧ (∀ j, Rng (vs.getD j 0)) ∧ p ≤ q ∧ q ≤ L.length := by
  have T := valI_ok hp n vs q _ _ (valI_of n vs q l t h).1
  exact ⟨T.len, T.rng, T.pq, T.qN⟩
theorem zip_fst (ts vs : List Int) (h : ts.length = vs.length) : (ts.zip vs).map Prod.fst = ts := by
  induction ts generalizing vs with
  | nil => cases vs <;> simp_all
  | cons t ts ih => cases vs with
    | nil => simp at h
    | cons v vs => simp at h; simp [ih vs h]
theorem zip_snd (ts vs : List Int) (h : ts.length = vs.length) : (ts.zip vs).map Prod.snd = vs := by
  induction ts generalizing vs with
  | nil => cases vs <;> simp_all
  | cons t ts ih => cases vs with
    | nil => simp at h
    | cons v vs => simp at h; simp [ih vs h]
theorem zip_maps (xs : List (Int × Int)) : (xs.map Prod.fst).zip (xs.map Prod.snd) = xs := by
  induction xs with
  | nil => rfl
  | cons x xs ih => simp [ih]
/-- the bits of a block give its times, and its values behind them -/
theorem blk_back {xs : List (Int × Int)} {Z : List Bool} (hp : ptsOkB xs = true) (hr : ∀ j, Rng ((xs.map Prod.snd).getD j 0)) :
    timesB (bkL xs ++ Z) xs.length 0 = some (xs.map Prod.fst, (timesL (xs.map Prod.fst)).length) ∧
    (∃ l t, valG (bkL xs ++ Z) xs.length (timesL (xs.map Prod.fst)).length = some (xs.map Prod.snd, (bkL xs).length, l, t)) ∧
    valsB (bkL xs ++ Z) xs.length (timesL (xs.map Prod.fst)).length = some (xs.map Prod.snd, (bkL xs).length) := by
  have h1 := timesB_back (goodTs hp) [] ((valTo (xs.map Prod.snd) (xs.map Prod.snd).length).1 ++ Z)
  rw [List.nil_append, List.length_nil, Nat.zero_add, List.length_map, ← List.append_assoc] at h1
  have h2 := valG_back hr (timesL (xs.map Prod.fst)) Z (xs.map Prod.snd).length (Nat.le_refl _)
  rw [← List.append_assoc, List.take_length] at h2
  have e : timesL (xs.map Prod.fst) ++ (valTo (xs.map Prod.snd) (xs.map Prod.snd).length).1 = bkL xs := rfl
  have el : (timesL (xs.map Prod.fst)).length + (valTo (xs.map Prod.snd) (xs.map Prod.snd).length).1.length = (bkL xs).length := by rw [← e, List.length_append]
  rw [List.length_map] at e
  rw [List.length_map] at h1 h2 el
  rw [e] at h1 h2
  rw [el] at h2
  refine ⟨h1, ⟨_, _, h2⟩, ?_⟩
  unfold valsB
  rw [h2]
  unfold fitB
  simp only
  rw [if_pos]
  rw [List.length_map, ← el, Nat.add_sub_cancel_left, ← e, List.append_assoc, List.drop_left, List.take_left]
theorem ptsZ_back {xs : List (Int × Int)} {s : ByteArray} {n : Int} (hn : bkN xs = n) (hD : bkD xs = s) : ptsZ s n xs = some xs := by
  unfold ptsZ; rw [if_pos ⟨hn, hD⟩]
/-- a block gives its points -/
theorem ptsB_back {xs : List (Int × Int)} {s : ByteArray} {n : Int} (hr : ∀ j, Rng (xs.getD j (0, 0)).1 ∧ Rng (xs.getD j (0, 0)).2) (hB : bkB xs = true) (hn : bkN xs = n) (hD : bkD xs = s) : ptsB s n = some xs := by
  obtain ⟨hp, h0⟩ := bk_ok hB
  have h120 := ptsOk_len hp
  have hl : (xs.length : Int) = n := by unfold bkN at hn; rw [if_pos hB] at hn; exact hn
  obtain ⟨Z, hZ⟩ := blk_bits hB hD
  obtain ⟨b1, ⟨l, t, b2⟩, _⟩ := blk_back (Z := Z) hp (rng_snd hr)
  unfold ptsB
  have hs := bkD_size xs
  rw [hD] at hs
  rw [if_pos ⟨⟨by omega, by omega⟩, by omega⟩, hZ]
  have e : n.toNat = xs.length := by omega
  unfold ptsL
  rw [e, b1]
  simp only
  rw [b2]
  simp only
  rw [zip_maps, hl]
  exact ptsZ_back hn hD
/-- both readers agree -/
theorem ptsI_eq {s : ByteArray} {n : Nat} (hn : 1 ≤ n) (h120 : n ≤ 120) : ptsI (allL s) s n = ptsL (allL s) s n := by
  unfold ptsI ptsL
  cases ht : timesB (allL s) n 0 with
  | none => rfl
  | some a =>
    obtain ⟨ts, q⟩ := a
    have T := timesB_len (by omega) h120 ht
    simp only
    cases hv : valG (allL s) n q with
    | none =>
      unfold valsB
      rw [hv]
      rfl
    | some b =>
      obtain ⟨vs, q2, l, t⟩ := b
      obtain ⟨hvl, hvr, _, _⟩ := valG_ok T.qN hv
      simp only
      have hzl : ts.length = vs.length := by rw [T.len, hvl]
      cases hz : ptsZ s (n : Int) (ts.zip vs) with
      | none =>
        cases hb : valsB (allL s) n q with
        | none => rfl
        | some c =>
          obtain ⟨us, q3⟩ := c
          unfold valsB fitB at hb
          rw [hv] at hb
          simp only at hb
          split at hb
          · simp only [Option.some.injEq, Prod.mk.injEq] at hb
            obtain ⟨rfl, rfl⟩ := hb
            exact hz
          · cases hb
      | some xs =>
        obtain ⟨rfl, hN, hD⟩ := ptsZ_some hz
        obtain ⟨hB, hlen⟩ := bkN_pos hN (by omega)
        obtain ⟨hp, h0⟩ := bk_ok hB
        obtain ⟨Z, hZ⟩ := blk_bits hB hD
        obtain ⟨b1, ⟨l2, t2, b2⟩, b3⟩ := blk_back (xs := ts.zip vs) (Z := Z) hp (by rw [zip_snd ts vs hzl]; exact hvr)
        have hnl : (ts.zip vs).length = n := by omega
        rw [hnl, ← hZ, zip_fst ts vs hzl] at b1
        rw [ht] at b1
        simp only [Option.some.injEq, Prod.mk.injEq, true_and] at b1
        rw [hnl, ← hZ, zip_fst ts vs hzl, ← b1, zip_snd ts vs hzl] at b3
        rw [b3]
        exact hz
theorem ptsB_some {s : ByteArray} {n : Int} {xs : List (Int × Int)} (h : ptsB s n = some xs) :
    bkB xs = true ∧ bkN xs = n ∧ bkD xs = s ∧ (xs.length : Int) = n ∧ xs.length ≤ 120 ∧ (∀ j, Rng (xs.getD j (0, 0)).1 ∧ Rng (xs.getD j (0, 0)).2) := by
  unfold ptsB at h
  split at h
  · rename_i hc
    unfold ptsL at h
    cases ht : timesB (allL s) n.toNat 0 with
    | none => rw [ht] at h; cases h
    | some a =>
      obtain ⟨ts, q⟩ := a
      have T := timesB_len (by omega) (by omega) ht
      rw [ht] at h
      simp only at h
      cases hv : valG (allL s) n.toNat q with
      | none => rw [hv] at h; cases h
      | some b =>
        obtain ⟨vs, q2, l, t⟩ := b
        obtain ⟨hvl, hvr, _, _⟩ := valG_ok T.qN hv
        rw [hv] at h
        simp only at h
        have hzl : ts.length = vs.length := by rw [T.len, hvl]
        have e : ((n.toNat : Nat) : Int) = n := by omega
        rw [e] at h
        obtain ⟨rfl, hN, hD⟩ := ptsZ_some h
        obtain ⟨hB, hlen⟩ := bkN_pos hN (by omega)
        refine ⟨hB, hN, hD, hlen, by omega, fun j => ⟨?_, ?_⟩⟩
        · rw [← tsOf_getD, zip_fst ts vs hzl]; exact T.rng j
        · rw [← vsOf_getD, zip_snd ts vs hzl]; exact hvr j
  · cases h
end Go.Proofs.YtanoohfhifhhaaaDoor
