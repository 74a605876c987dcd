/- Plain facts: frames in turn. -/
import Derived.Test.YtbbchgklcknlbaaKn
import Derived.Test.YtbbchgklcknlbaaKm
set_option linter.unusedVariables false
set_option linter.unusedSimpArgs false
namespace Go.Proofs.Ytbbchgklcknlbaa
open Go.RowKit

def tl (s : ByteArray) (a : Nat) : ByteArray := s.extract a s.size
def fst (s : ByteArray) : Nat → Nat × List ByteArray
  | 0 => (0, [])
  | k + 1 => ((fst s k).1 + 8 + hd4 (tl s (fst s k).1), (fst s k).2 ++ [rdD (tl s (fst s k).1)])
def fA (s : ByteArray) (k : Nat) : Nat := (fst s k).1
def fL (s : ByteArray) (k : Nat) : List ByteArray := (fst s k).2
def fOk (s : ByteArray) (k : Nat) : Bool := rdOk (tl s (fA s k))
def FrTo (s : ByteArray) (k : Nat) : Prop := ∀ j, j < k → fOk s j = true
theorem fA_succ (s : ByteArray) (k : Nat) : fA s (k + 1) = fA s k + 8 + hd4 (tl s (fA s k)) := rfl
theorem fL_succ (s : ByteArray) (k : Nat) : fL s (k + 1) = fL s k ++ [rdD (tl s (fA s k))] := rfl
theorem fL_length (s : ByteArray) : ∀ k, (fL s k).length = k
  | 0 => rfl
  | k + 1 => by rw [fL_succ, List.length_append, fL_length s k]; rfl
theorem FrTo.step {s : ByteArray} {k : Nat} (h : FrTo s k) (hk : fOk s k = true) : FrTo s (k + 1) := fun j hj => by
  rcases Nat.lt_or_ge j k with h1 | h1
  · exact h j h1
  · obtain rfl : j = k := by omega
    exact hk
theorem Fr_uniq {s : ByteArray} {k m : Nat} (hk : FrTo s k) (hk2 : fOk s k = false) (hm : FrTo s m) (hm2 : fOk s m = false) : k = m := by
  rcases Nat.lt_trichotomy k m with h | h | h
  · rw [hm k h] at hk2; cases hk2
  · exact h
  · rw [hk m h] at hm2; cases hm2
theorem tl_size (s : ByteArray) (a : Nat) : (tl s a).size = s.size - a := by unfold tl; rw [ByteArray.size_extract]; omega
theorem rdOk_size {t : ByteArray} (h : rdOk t = true) : 8 + hd4 t ≤ t.size ∧ hd4 t ≤ 100000 := by
  unfold rdOk at h
  simp only [Bool.and_eq_true, decide_eq_true_eq] at h
  omega
theorem fOk_size {s : ByteArray} {k : Nat} (h : fOk s k = true) : fA s (k + 1) ≤ s.size ∧ hd4 (tl s (fA s k)) ≤ 100000 := by
  have h1 := rdOk_size h
  rw [tl_size] at h1
  rw [fA_succ]
  omega
theorem Fr_size {s : ByteArray} : ∀ k, FrTo s k → fA s k ≤ s.size ∧ 8 * k ≤ fA s k
  | 0, _ => ⟨Nat.zero_le _, Nat.zero_le _⟩
  | k + 1, h => by
    have h1 := fOk_size (h k (Nat.lt_succ_self k))
    have h2 := Fr_size k (fun j hj => h j (by omega))
    refine ⟨h1.1, ?_⟩
    rw [fA_succ]
    omega
theorem tl_list (s : ByteArray) (a : Nat) : (tl s a).data.toList = s.data.toList.drop a := by
  unfold tl
  simp only [ByteArray.data_extract, Array.toList_extract, List.extract_eq_take_drop]
  rw [List.take_of_length_le (by simp)]
theorem ext_list (s : ByteArray) (a b : Nat) : (s.extract a b).data.toList = (s.data.toList.take b).drop a := by
  simp [ByteArray.data_extract, List.drop_take]
theorem byA_tl (s : ByteArray) (a k : Nat) (h : a + k < s.size) : byA (tl s a) k = s[a + k].toNat := by
  unfold byA
  rw [tl_list, List.getD_eq_getElem?_getD, List.getElem?_drop, ← List.getD_eq_getElem?_getD, k_byte_of s (a + k) h]
theorem ext_tl (s : ByteArray) (a b c : Nat) (h : a + c ≤ s.size) : (tl s a).extract b c = s.extract (a + b) (a + c) := by
  unfold tl
  rw [ByteArray.extract_extract]
  congr 1
  omega
theorem pre_mid {B S M D R : List UInt8} (h : S.length = M.length) : Lib.hasPrefix (B ++ M ++ D ++ R) (B ++ S ++ D) = decide (S = M) := by
  unfold Lib.hasPrefix
  by_cases e : S = M
  · subst e
    rw [decide_eq_true rfl]
    exact List.isPrefixOf_iff_prefix.2 (List.prefix_append _ _)
  · rw [decide_eq_false e]
    cases hp : (B ++ S ++ D).isPrefixOf (B ++ M ++ D ++ R) with
    | false => rfl
    | true =>
      obtain ⟨r, hr⟩ := List.isPrefixOf_iff_prefix.1 hp
      simp only [List.append_assoc] at hr
      exact absurd (List.append_inj_left (List.append_cancel_left hr) h) e
theorem four_of (L : List UInt8) (h : 4 ≤ L.length) : L.take 4 = [L.getD 0 0, L.getD 1 0, L.getD 2 0, L.getD 3 0] := by
  match L, h with
  | a :: b :: c :: d :: r, _ => rfl
theorem of_byte (x : UInt8) (n : Nat) (h : n = x.toNat) : UInt8.ofNat n = x := by subst h; exact UInt8.ofNat_toNat
theorem be4_hd (t : ByteArray) (h : 4 ≤ t.size) : (be4 (hd4 t)).map UInt8.ofNat = t.data.toList.take 4 := by
  rw [four_of _ (by simpa using h)]
  have b0 := (t.data.toList.getD 0 0).toNat_lt
  have b1 := (t.data.toList.getD 1 0).toNat_lt
  have b2 := (t.data.toList.getD 2 0).toNat_lt
  have b3 := (t.data.toList.getD 3 0).toNat_lt
  unfold hd4 byA
  generalize t.data.toList.getD 0 0 = x0 at *
  generalize t.data.toList.getD 1 0 = x1 at *
  generalize t.data.toList.getD 2 0 = x2 at *
  generalize t.data.toList.getD 3 0 = x3 at *
  unfold be4
  simp only [List.map_cons, List.map_nil]
  rw [of_byte x0 _ (by omega), of_byte x1 _ (by omega), of_byte x2 _ (by omega), of_byte x3 _ (by omega)]
theorem bstr_list (l : List Nat) : (bstr l).data.toList = l.map UInt8.ofNat := by unfold bstr; simp
theorem ba_ext {a b : ByteArray} (h : a.data.toList = b.data.toList) : a = b := by apply ByteArray.ext; apply Array.ext'; exact h
theorem map_byte : ∀ l : List UInt8, l.map (UInt8.ofNat ∘ UInt8.toNat) = l
  | [] => rfl
  | x :: l => by rw [List.map_cons, map_byte l]; exact congrArg (· :: l) UInt8.ofNat_toNat
theorem le4_len (Z : Nat) : ((le4 Z).map UInt8.ofNat).length = 4 := by rw [List.length_map]; rfl
theorem mid_eq (t b : ByteArray) (n : Nat) (Q : List UInt8) (h : 8 + n ≤ t.size) (hQ : Q.length = 4) (hb : b.data.toList = Q) :
    Lib.hasPrefix t.data.toList (t.data.toList.take 4 ++ Q ++ (t.data.toList.take (8 + n)).drop 8) = decide (b = t.extract 4 8) := by
  have hM : (t.extract 4 8).data.toList = (t.data.toList.take 8).drop 4 := ext_list _ _ _
  have hlen : t.data.toList.length = t.size := by simp
  have hS : Q = (t.data.toList.take 8).drop 4 ↔ b = t.extract 4 8 := by
    rw [← hM, ← hb]
    exact ⟨ba_ext, fun h => congrArg (fun x : ByteArray => x.data.toList) h⟩
  have hL : t.data.toList.take 4 ++ (t.data.toList.take 8).drop 4 ++ (t.data.toList.take (8 + n)).drop 8 ++ t.data.toList.drop (8 + n) = t.data.toList := by
    generalize t.data.toList = L at *
    have e1 : L.take 4 ++ (L.take 8).drop 4 = L.take 8 := by
      have := List.take_append_drop 4 (L.take 8)
      rwa [List.take_take, show min 4 8 = 4 by omega] at this
    have e2 : L.take 8 ++ (L.take (8 + n)).drop 8 = L.take (8 + n) := by
      have := List.take_append_drop 8 (L.take (8 + n))
      rwa [List.take_take, show min 8 (8 + n) = 8 by omega] at this
    rw [e1, e2, List.take_append_drop]
  have hfin := pre_mid (B := t.data.toList.take 4) (S := Q) (M := (t.data.toList.take 8).drop 4) (D := (t.data.toList.take (8 + n)).drop 8) (R := t.data.toList.drop (8 + n)) (by rw [hQ, List.length_drop, List.length_take]; omega)
  rw [hL] at hfin
  rw [hfin]
  exact decide_eq_decide.2 hS
/-- the frame of the bytes that follow agrees exactly if the checksum does -/
theorem rdOk_sum {t : ByteArray} (h : 8 ≤ t.size ∧ hd4 t ≤ 100000 ∧ hd4 t + 8 ≤ t.size) : rdOk t = decide (bstr (le4 (CR.sumN (rdD t).data.toList)) = t.extract 4 8) := by
  rw [rdOk_good h]
  have hd : (rdD t).size = hd4 t := by unfold rdD; rw [ByteArray.size_extract]; omega
  obtain ⟨Z, hZ⟩ : ∃ Z, CR.sumN (rdD t).data.toList = Z := ⟨_, rfl⟩
  have hf : frS (rdD t) = bstr (be4 (hd4 t) ++ le4 Z ++ (rdD t).data.toList.map UInt8.toNat) := by
    unfold frS; rw [if_neg (by omega), hd, hZ]
  rw [hZ]
  clear hZ
  have hD : (rdD t).data.toList = (t.data.toList.take (8 + hd4 t)).drop 8 := by unfold rdD; exact ext_list _ _ _
  have hB := be4_hd t (by omega)
  rw [hf, bstr_list, List.map_append, List.map_append, hB, List.map_map]
  have hid := map_byte (rdD t).data.toList
  have hmid := mid_eq t (bstr (le4 Z)) (hd4 t) ((le4 Z).map UInt8.ofNat) (by omega) (le4_len Z) (bstr_list _)
  generalize (le4 Z).map UInt8.ofNat = Q at *
  generalize bstr (le4 Z) = b at *
  rw [← hmid, hid, hD]
end Go.Proofs.Ytbbchgklcknlbaa
