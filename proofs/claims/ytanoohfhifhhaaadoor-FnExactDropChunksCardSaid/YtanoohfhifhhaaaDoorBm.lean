/- Plain facts on bits, bytes and words; no Go. -/
set_option linter.unusedVariables false
set_option linter.unusedSimpArgs false
namespace Go.Proofs.YtanoohfhifhhaaaDoor.BM
/-- bit j of a byte string, the most significant first -/
def bitAt (d : List UInt8) (j : Nat) : Bool := (d.getD (j / 8) 0).toNat.testBit (7 - j % 8)
def listOf (d : List UInt8) (n : Nat) : List Bool := (List.range n).map (bitAt d)
def ofBits (f : Nat → Bool) : Nat → Nat
  | 0 => 0
  | n + 1 => 2 * ofBits f n + (f n).toNat
/-- the number whose bits, the most significant of n first, are f 0 .. f (n - 1) -/
theorem ofBits_lt (f : Nat → Bool) (n : Nat) : ofBits f n < 2 ^ n := by
  induction n with
  | zero => simp [ofBits]
  | succ n ih => rw [ofBits, Nat.pow_succ]; cases f n <;> simp <;> omega
theorem testBit_ofBits (f : Nat → Bool) (n i : Nat) : (ofBits f n).testBit i = if i < n then f (n - 1 - i) else false := by
  induction n generalizing i with
  | zero => simp [ofBits]
  | succ n ih =>
    rw [ofBits]
    cases i with
    | zero =>
      simp [Nat.testBit_zero]
      cases f n <;> simp <;> omega
    | succ i =>
      have h2 : (2 * ofBits f n + (f n).toNat) / 2 = ofBits f n := by cases f n <;> simp <;> omega
      rw [Nat.testBit_succ, h2, ih]
      by_cases h : i < n
      · rw [if_pos h, if_pos (by omega)]; congr 1; omega
      · rw [if_neg h, if_neg (by omega)]
theorem ofBits_congr {f g : Nat → Bool} {n : Nat} (h : ∀ i, i < n → f i = g i) : ofBits f n = ofBits g n := by
  induction n with
  | zero => rfl
  | succ n ih => rw [ofBits, ofBits, ih (fun i hi => h i (by omega)), h n (by omega)]
theorem ofBits_testBit (v n : Nat) (h : v < 2 ^ n) : ofBits (fun i => v.testBit (n - 1 - i)) n = v := by
  apply Nat.eq_of_testBit_eq
  intro i
  rw [testBit_ofBits]
  by_cases hi : i < n
  · rw [if_pos hi]; congr 1; omega
  · rw [if_neg hi, Nat.testBit_lt_two_pow (Nat.lt_of_lt_of_le h (Nat.pow_le_pow_right (by omega) (by omega)))]
def packByte (l : List Bool) (i : Nat) : UInt8 := UInt8.ofNat (ofBits (fun k => l.getD (8 * i + k) false) 8)
def bytesOf (n : Nat) : Nat := (n + 7) / 8
def pack (l : List Bool) : List UInt8 := (List.range (bytesOf l.length)).map (packByte l)
theorem pack_length (l : List Bool) : (pack l).length = bytesOf l.length := by simp [pack]
theorem packByte_toNat (l : List Bool) (i : Nat) : (packByte l i).toNat = ofBits (fun k => l.getD (8 * i + k) false) 8 := by
  unfold packByte
  have := ofBits_lt (fun k => l.getD (8 * i + k) false) 8
  rw [UInt8.toNat_ofNat']
  exact Nat.mod_eq_of_lt this
theorem bitAt_pack (l : List Bool) (j : Nat) : bitAt (pack l) j = l.getD j false := by
  unfold bitAt
  by_cases h : j / 8 < bytesOf l.length
  · have e : (pack l).getD (j / 8) 0 = packByte l (j / 8) := by
      simp [pack, List.getD_eq_getElem?_getD, h]
    rw [e, packByte_toNat, testBit_ofBits, if_pos (by omega)]
    congr 1; omega
  · have e : (pack l).getD (j / 8) 0 = 0 := by
      rw [List.getD_eq_getElem?_getD, List.getElem?_eq_none (by rw [pack_length]; omega)]; rfl
    rw [e]
    have hl : l.length ≤ j := by unfold bytesOf at h; omega
    rw [List.getD_eq_getElem?_getD, List.getElem?_eq_none hl]; simp
theorem listOf_length (d : List UInt8) (n : Nat) : (listOf d n).length = n := by simp [listOf]
theorem listOf_getD (d : List UInt8) (n j : Nat) : (listOf d n).getD j false = if j < n then bitAt d j else false := by
  rw [List.getD_eq_getElem?_getD]
  by_cases h : j < n
  · simp [listOf, h]
  · rw [List.getElem?_eq_none (by rw [listOf_length]; omega), if_neg h]; rfl
theorem list_ext_getD {l m : List Bool} (hl : l.length = m.length) (h : ∀ j, j < l.length → l.getD j false = m.getD j false) : l = m := by
  apply List.ext_getElem hl
  intro i h1 h2
  have := h i h1
  simpa [List.getD_eq_getElem?_getD, h1, h2] using this
theorem listOf_pack (l : List Bool) : listOf (pack l) l.length = l := by
  apply list_ext_getD (by simp [listOf_length])
  intro j hj
  rw [listOf_length] at hj
  rw [listOf_getD, if_pos hj, bitAt_pack]
/-- two byte strings of one length with the same bits are one -/
theorem bytes_ext {d e : List UInt8} (hl : d.length = e.length) (h : ∀ j, j < 8 * d.length → bitAt d j = bitAt e j) : d = e := by
  apply List.ext_getElem hl
  intro i h1 h2
  apply UInt8.toNat_inj.1
  apply Nat.eq_of_testBit_eq
  intro k
  by_cases hk : k < 8
  · have := h (8 * i + (7 - k)) (by omega)
    unfold bitAt at this
    have a1 : (8 * i + (7 - k)) / 8 = i := by omega
    have a2 : 7 - (8 * i + (7 - k)) % 8 = k := by omega
    rw [a1, a2] at this
    simpa [List.getD_eq_getElem?_getD, h1, h2] using this
  · have hp : (2:Nat) ^ 8 ≤ 2 ^ k := Nat.pow_le_pow_right (by omega) (by omega)
    rw [Nat.testBit_lt_two_pow, Nat.testBit_lt_two_pow]
    · have := UInt8.toNat_lt e[i]; omega
    · have := UInt8.toNat_lt d[i]; omega
theorem pack_listOf {d : List UInt8} {n : Nat} (hl : d.length = bytesOf n) (h : ∀ j, n ≤ j → bitAt d j = false) : pack (listOf d n) = d := by
  apply bytes_ext (by rw [pack_length, listOf_length, hl])
  intro j _
  rw [bitAt_pack, listOf_getD]
  by_cases hj : j < n
  · rw [if_pos hj]
  · rw [if_neg hj, h j (by omega)]
theorem tail_of_pack {d : List UInt8} {n : Nat} (h : pack (listOf d n) = d) (j : Nat) (hj : n ≤ j) : bitAt d j = false := by
  rw [← h, bitAt_pack, listOf_getD, if_neg (by omega)]
/-! words -/
def wbit (ws : List Nat) (j : Nat) : Bool := (ws.getD (j / 64) 0).testBit (63 - j % 64)
/-- 313 words hold the bits l, zeros behind -/
def Words (ws : List Nat) (l : List Bool) : Prop :=
  ws.length = 313 ∧ (∀ i, ws.getD i 0 < 2 ^ 64) ∧ l.length ≤ 20000 ∧ ∀ j, wbit ws j = l.getD j false
theorem getD_set (ws : List Nat) (i k x : Nat) (hi : i < ws.length) : (ws.set i x).getD k 0 = if k = i then x else ws.getD k 0 := by
  rw [List.getD_eq_getElem?_getD, List.getD_eq_getElem?_getD, List.getElem?_set]
  by_cases h : i = k
  · subst h; simp [hi]
  · rw [if_neg h, if_neg (by omega)]
theorem words_zero : Words (List.replicate 313 0) [] := by
  refine ⟨List.length_replicate, ?_, Nat.zero_le _, ?_⟩
  · intro i; rw [List.getD_eq_getElem?_getD, List.getElem?_replicate]; split <;> simp
  · intro j; unfold wbit; rw [List.getD_eq_getElem?_getD, List.getElem?_replicate]; split <;> simp
theorem testBit_shl64 (x s i : Nat) : (x * 2 ^ s % 2 ^ 64).testBit i = (decide (i < 64) && (decide (s ≤ i) && x.testBit (i - s))) := by
  rw [Nat.testBit_mod_two_pow, ← Nat.shiftLeft_eq, Nat.testBit_shiftLeft]
theorem testBit_shr (x s i : Nat) : (x / 2 ^ s).testBit i = x.testBit (i + s) := by
  rw [← Nat.shiftRight_eq_div_pow, Nat.testBit_shiftRight, Nat.add_comm]
/-- the bits of v in n bits, the most significant first -/
def digits (v n : Nat) : List Bool := (List.range n).map (fun k => v.testBit (n - 1 - k))
theorem digits_length (v n : Nat) : (digits v n).length = n := by simp [digits]
theorem digits_getD (v n k : Nat) : (digits v n).getD k false = if k < n then v.testBit (n - 1 - k) else false := by
  rw [List.getD_eq_getElem?_getD]
  by_cases h : k < n
  · simp [digits, h]
  · rw [List.getElem?_eq_none (by rw [digits_length]; omega), if_neg h]; rfl
theorem getD_append (l m : List Bool) (j : Nat) : (l ++ m).getD j false = if j < l.length then l.getD j false else m.getD (j - l.length) false := by
  rw [List.getD_eq_getElem?_getD, List.getD_eq_getElem?_getD, List.getD_eq_getElem?_getD, List.getElem?_append]
  split <;> rfl
/-- what put makes of the words -/
def putW (ws : List Nat) (at_ v n : Nat) : List Nat :=
  let x := v * 2 ^ (64 - n) % 2 ^ 64
  let w1 := ws.set (at_ / 64) (ws.getD (at_ / 64) 0 ||| x / 2 ^ (at_ % 64))
  if 64 < at_ % 64 + n then w1.set (at_ / 64 + 1) (w1.getD (at_ / 64 + 1) 0 ||| x * 2 ^ (64 - at_ % 64) % 2 ^ 64) else w1
theorem div64_ne {j k : Nat} (h : j / 64 ≠ k) : j < 64 * k ∨ 64 * k + 64 ≤ j := by omega
theorem words_put {ws : List Nat} {l : List Bool} (h : Words ws l) (v n : Nat) (hn : n ≤ 64) (hl : l.length + n ≤ 20000) :
    Words (putW ws l.length v n) (l ++ digits v n) := by
  obtain ⟨h1, h2, h3, h4⟩ := h
  have hx : ∀ i, (v * 2 ^ (64 - n) % 2 ^ 64).testBit i = (decide (i < 64) && (decide (64 - n ≤ i) && v.testBit (i - (64 - n)))) := testBit_shl64 v (64 - n)
  have hxl : v * 2 ^ (64 - n) % 2 ^ 64 < 2 ^ 64 := Nat.mod_lt _ (Nat.two_pow_pos _)
  generalize hX : v * 2 ^ (64 - n) % 2 ^ 64 = x at hx hxl
  have hw : l.length / 64 < ws.length := by omega
  -- the words before: nothing behind the end
  have hz : ∀ j, l.length ≤ j → wbit ws j = false := fun j hj => by
    rw [h4, List.getD_eq_getElem?_getD, List.getElem?_eq_none hj]; rfl
  unfold putW
  simp only [hX]
  have ha : x / 2 ^ (l.length % 64) < 2 ^ 64 := Nat.lt_of_le_of_lt (Nat.div_le_self _ _) hxl
  have key1 : ∀ j, wbit (ws.set (l.length / 64) (ws.getD (l.length / 64) 0 ||| x / 2 ^ (l.length % 64))) j
      = if j < l.length then wbit ws j else if j < l.length + n ∧ j / 64 = l.length / 64 then v.testBit (n - 1 - (j - l.length)) else false := by
    intro j
    show ((ws.set _ _).getD (j / 64) 0).testBit (63 - j % 64) = _
    rw [getD_set _ _ _ _ hw]
    by_cases hj : j / 64 = l.length / 64
    · rw [if_pos hj, Nat.testBit_or, testBit_shr, hx]
      have e1 : (ws.getD (l.length / 64) 0).testBit (63 - j % 64) = wbit ws j := by unfold wbit; rw [hj]
      rw [e1]
      by_cases hlt : j < l.length
      · rw [if_pos hlt]
        have : ¬ (63 - j % 64 + l.length % 64 < 64) := by omega
        simp [this]
      · rw [if_neg hlt, hz j (by omega)]
        by_cases hlt2 : j < l.length + n
        · rw [if_pos ⟨hlt2, hj⟩]
          have a1 : 63 - j % 64 + l.length % 64 < 64 := by omega
          have a2 : 64 - n ≤ 63 - j % 64 + l.length % 64 := by omega
          have a3 : 63 - j % 64 + l.length % 64 - (64 - n) = n - 1 - (j - l.length) := by omega
          simp [a1, a2, a3]
        · rw [if_neg (by omega)]
          have : ¬ (64 - n ≤ 63 - j % 64 + l.length % 64) := by omega
          simp [this]
    · rw [if_neg hj]
      show wbit ws j = _
      by_cases hlt : j < l.length
      · rw [if_pos hlt]
      · rw [if_neg hlt, hz j (by omega), if_neg (fun hh => hj hh.2)]
  generalize hW1 : ws.set (l.length / 64) (ws.getD (l.length / 64) 0 ||| x / 2 ^ (l.length % 64)) = w1 at key1
  have hlen1 : w1.length = 313 := by rw [← hW1]; simp [h1]
  have hb1 : ∀ i, w1.getD i 0 < 2 ^ 64 := by
    intro i; rw [← hW1, getD_set _ _ _ _ hw]; split
    · exact Nat.or_lt_two_pow (h2 _) ha
    · exact h2 i
  by_cases hc : 64 < l.length % 64 + n
  · rw [if_pos hc]
    have hw2 : l.length / 64 + 1 < w1.length := by omega
    refine ⟨by simp [hlen1], ?_, by simp [digits_length]; omega, ?_⟩
    · intro i; rw [getD_set _ _ _ _ hw2]; split
      · exact Nat.or_lt_two_pow (hb1 _) (Nat.mod_lt _ (Nat.two_pow_pos _))
      · exact hb1 i
    · intro j
      rw [getD_append, digits_getD]
      show ((w1.set _ _).getD (j / 64) 0).testBit (63 - j % 64) = _
      rw [getD_set _ _ _ _ hw2]
      by_cases hj : j / 64 = l.length / 64 + 1
      · rw [if_pos hj, Nat.testBit_or, testBit_shl64]
        have e1 : (w1.getD (l.length / 64 + 1) 0).testBit (63 - j % 64) = wbit w1 j := by unfold wbit; rw [hj]
        rw [e1, key1, if_neg (by omega), if_neg (by omega), if_neg (by omega), hx]
        by_cases hlt2 : j - l.length < n
        · rw [if_pos hlt2]
          have a1 : 63 - j % 64 < 64 := by omega
          have a2 : 64 - l.length % 64 ≤ 63 - j % 64 := by omega
          have a3 : 63 - j % 64 - (64 - l.length % 64) < 64 := by omega
          have a4 : 64 - n ≤ 63 - j % 64 - (64 - l.length % 64) := by omega
          have a5 : 63 - j % 64 - (64 - l.length % 64) - (64 - n) = n - 1 - (j - l.length) := by omega
          simp only [a1, a2, a3, a4, a5, decide_true, Bool.true_and, Bool.false_or]
        · rw [if_neg hlt2]
          by_cases a2 : 64 - l.length % 64 ≤ 63 - j % 64
          · have a4 : ¬ (64 - n ≤ 63 - j % 64 - (64 - l.length % 64)) := by omega
            simp [a4]
          · simp [a2]
      · rw [if_neg hj]
        show wbit w1 j = _
        rw [key1]
        by_cases hlt : j < l.length
        · rw [if_pos hlt, if_pos hlt, h4]
        · rw [if_neg hlt, if_neg hlt]
          by_cases hlt2 : j - l.length < n
          · rw [if_pos hlt2, if_pos (by omega)]
          · rw [if_neg hlt2, if_neg (by omega)]
  · rw [if_neg hc]
    refine ⟨hlen1, hb1, by simp [digits_length]; omega, ?_⟩
    intro j
    rw [getD_append, digits_getD, key1]
    by_cases hlt : j < l.length
    · rw [if_pos hlt, if_pos hlt, h4]
    · rw [if_neg hlt, if_neg hlt]
      by_cases hlt2 : j - l.length < n
      · rw [if_pos hlt2, if_pos (by omega)]
      · rw [if_neg hlt2, if_neg (by omega)]
/-- what get makes of the words -/
def getW (ws : List Nat) (at_ n : Nat) : Nat :=
  let v := ws.getD (at_ / 64) 0 * 2 ^ (at_ % 64) % 2 ^ 64
  let v2 := if 64 < at_ % 64 + n then v ||| ws.getD (at_ / 64 + 1) 0 / 2 ^ (64 - at_ % 64) else v
  v2 / 2 ^ (64 - n)
theorem words_get {ws : List Nat} {l : List Bool} (h : Words ws l) (at_ n : Nat) (hn : n ≤ 64) :
    getW ws at_ n = ofBits (fun k => l.getD (at_ + k) false) n := by
  obtain ⟨h1, h2, h3, h4⟩ := h
  apply Nat.eq_of_testBit_eq
  intro i
  rw [testBit_ofBits]
  unfold getW
  simp only []
  rw [testBit_shr]
  have hv : ∀ i, (ws.getD (at_ / 64) 0 * 2 ^ (at_ % 64) % 2 ^ 64).testBit i = (decide (i < 64) && (decide (at_ % 64 ≤ i) && (ws.getD (at_ / 64) 0).testBit (i - at_ % 64))) := testBit_shl64 _ _
  by_cases hi : i < n
  · rw [if_pos hi, ← h4]
    unfold wbit
    have a1 : i + (64 - n) < 64 := by omega
    by_cases hc : 64 < at_ % 64 + n
    · rw [if_pos hc, Nat.testBit_or, testBit_shr, hv]
      by_cases hd : (at_ + (n - 1 - i)) / 64 = at_ / 64
      · have a2 : at_ % 64 ≤ i + (64 - n) := by omega
        have a3 : 63 - (at_ + (n - 1 - i)) % 64 = i + (64 - n) - at_ % 64 := by omega
        rw [hd, a3]
        have a4 : (ws.getD (at_ / 64 + 1) 0).testBit (i + (64 - n) + (64 - at_ % 64)) = false := by
          apply Nat.testBit_lt_two_pow
          exact Nat.lt_of_lt_of_le (h2 _) (Nat.pow_le_pow_right (by omega) (by omega))
        rw [a4]; simp [a1, a2]
      · have a2 : ¬ (at_ % 64 ≤ i + (64 - n)) := by omega
        have a3 : (at_ + (n - 1 - i)) / 64 = at_ / 64 + 1 := by omega
        have a4 : 63 - (at_ + (n - 1 - i)) % 64 = i + (64 - n) + (64 - at_ % 64) := by omega
        rw [a3, a4]; simp [a2]
    · rw [if_neg hc, hv]
      have hd : (at_ + (n - 1 - i)) / 64 = at_ / 64 := by omega
      have a2 : at_ % 64 ≤ i + (64 - n) := by omega
      have a3 : 63 - (at_ + (n - 1 - i)) % 64 = i + (64 - n) - at_ % 64 := by omega
      rw [hd, a3]; simp [a1, a2]
  · rw [if_neg hi]
    apply Nat.testBit_lt_two_pow
    refine Nat.lt_of_lt_of_le ?_ (Nat.pow_le_pow_right (n := 2) (by omega) (show 64 ≤ i + (64 - n) by omega))
    split
    · exact Nat.or_lt_two_pow (Nat.mod_lt _ (Nat.two_pow_pos _)) (Nat.lt_of_le_of_lt (Nat.div_le_self _ _) (h2 _))
    · exact Nat.mod_lt _ (Nat.two_pow_pos _)
theorem okTail {d : List UInt8} {n : Nat} (hl : d.length = bytesOf n) (hu : n % 8 ≠ 0) :
    pack (listOf d n) = d ↔ (d.getD (d.length - 1) 0).toNat * 2 ^ (n % 8) % 256 = 0 := by
  have hlen : d.length - 1 = n / 8 := by unfold bytesOf at hl; omega
  rw [hlen]
  constructor
  · intro h
    apply Nat.eq_of_testBit_eq
    intro i
    rw [show (256 : Nat) = 2 ^ 8 from rfl, Nat.testBit_mod_two_pow, ← Nat.shiftLeft_eq, Nat.testBit_shiftLeft, Nat.zero_testBit]
    by_cases h1 : i < 8
    · by_cases h2 : n % 8 ≤ i
      · have := tail_of_pack h (8 * (n / 8) + (7 - (i - n % 8))) (by omega)
        unfold bitAt at this
        rw [show (8 * (n / 8) + (7 - (i - n % 8))) / 8 = n / 8 by omega, show 7 - (8 * (n / 8) + (7 - (i - n % 8))) % 8 = i - n % 8 by omega] at this
        rw [this]; simp
      · simp [h2]
    · simp [h1]
  · intro h
    apply pack_listOf hl
    intro j hj
    unfold bitAt
    by_cases hj2 : j / 8 = n / 8
    · rw [hj2]
      have h3 : ((d.getD (n / 8) 0).toNat * 2 ^ (n % 8) % 2 ^ 8).testBit (7 - j % 8 + n % 8) = false := by
        rw [show (2 : Nat) ^ 8 = 256 from rfl, h]; exact Nat.zero_testBit _
      rw [Nat.testBit_mod_two_pow, ← Nat.shiftLeft_eq, Nat.testBit_shiftLeft] at h3
      have a1 : 7 - j % 8 + n % 8 < 8 := by omega
      have a2 : n % 8 ≤ 7 - j % 8 + n % 8 := by omega
      have a3 : 7 - j % 8 + n % 8 - n % 8 = 7 - j % 8 := by omega
      simpa [a1, a2, a3] using h3
    · rw [List.getD_eq_getElem?_getD, List.getElem?_eq_none (by unfold bytesOf at hl; omega)]
      simp
theorem okFull {d : List UInt8} {n : Nat} (hl : d.length = bytesOf n) (hu : n % 8 = 0) : pack (listOf d n) = d := by
  apply pack_listOf hl
  intro j hj
  unfold bitAt
  rw [List.getD_eq_getElem?_getD, List.getElem?_eq_none (by unfold bytesOf at hl; omega)]
  simp
end Go.Proofs.YtanoohfhifhhaaaDoor.BM
