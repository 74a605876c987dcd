/- Walks: decimal numerals, both. -/
import Derived.Lib.AppendIntMem
import Derived.Lib.SmallJoins
import Derived.Test.YthnejknjngekiaaDoorUa
import Derived.Test.YthnejknjngekiaaDoorKf
import Derived.Test.YthnejknjngekiaaDoorNc
import Derived.Test.YthnejknjngekiaaDoorSh
set_option linter.unusedVariables false
set_option linter.unusedSimpArgs false
namespace Go.Proofs.YthnejknjngekiaaDoor
open Go.RowKit

theorem gPow : Tryd.prog.globalNamed "internal/strconv.uint64pow10" = some 0 := by kernel_rfl
def PTab (w : World) : Prop := Lib.TabIs Tryd.prog w "internal/strconv.uint64pow10" .u64 Lib.pow10Tab
theorem PTab.below {w w' : World} (h : PTab w) (hb : Below w.heap.size w w') : PTab w' := Joins.tab_stays gPow h hb (Nat.le_refl _)

set_option maxRecDepth 100000 in
set_option maxHeartbeats 1000000 in
theorem decimal_any (n : Int) (w : World) (h0 : -9223372036854775808 ≤ n) (h1 : n ≤ 9223372036854775807) (ht : PTab w) :
    Calls Tryd.prog 15 #[.int .i64 n] w fun e w' => e = .returned (.string (dec n)) ∧ Below w.heap.size w w' := by
  have HF := Lib.hid (Tryd.strconv_FormatInt_10 n h0 h1 w ht)
  have HE : Hid (dec n = ⟨(Lib.itoa n).toArray⟩) := Lib.hid rfl
  clear ht
  go_enter Tryd.func15, Tryd.ntmps15
  go_wp2_with fail
  refine HF.out.mono ?_
  rintro e w1 ⟨rfl, k, os, rfl⟩
  go_wp2_with fail
  go_ret
  exact ⟨by rw [HE.out]; rfl, Lib.below_grow _ _ (Nat.le_refl _) _ _⟩

theorem bytes_madeL (l : List Nat) (xs : List Value) (h : byteCells l = xs) (w : World) (hl : l.length ≤ maxLen) : (w.alloc (.cells xs.toArray 5)).ownsRow w.heap.size 5 1 (.slice (some ⟨w.heap.size, 0, none⟩) l.length l.length) l.length (byteCells l) := by
  subst h
  exact ⟨by rw [byteCells_length, Nat.mul_one], .inr ⟨w.heap.size, l.length, _, rfl, Nat.le_refl _, heap_alloc_new w _, Nat.le_refl _, hl, by simp [byteCells], by rw [Nat.mul_one]; show (byteCells l).take l.length = byteCells l; rw [← byteCells_length l, List.take_length]⟩⟩
def oneS (d : Nat) : ByteArray := ⟨#[UInt8.ofNat (48 + d)]⟩
theorem one_conv (d : Nat) (x : Value) (hx : x = .int .u8 ((48 + d : Nat) : Int)) (w : World) :
    (convert 52 9 (.slice (some ⟨w.heap.size, 0, none⟩) 1 1)).run Tryd.prog (w.alloc (.cells #[x] 5)) = .ok (.string (oneS d)) (w.alloc (.cells #[x] 5)) :=
  conv_own (l := [48 + d]) (bytes_madeL [48 + d] [x] (by rw [hx]; rfl) w (by unfold maxLen; simp))

theorem dec_neg {n : Int} {S : ByteArray} (h : n < 0) (hS : S.data.toList = Lib.decDigits n.natAbs) : (⟨#[45]⟩ : ByteArray) ++ S = dec n := by
  unfold dec
  rw [itoa_neg h, ← hS]
  apply ByteArray.ext
  apply Array.ext'
  simp
theorem dec_nonneg {n : Int} {S : ByteArray} (h : ¬ n < 0) (hS : S.data.toList = Lib.decDigits n.natAbs) : S = dec n := by
  unfold dec
  rw [itoa_nonneg h, ← hS]
def sz1 : Value → Nat
  | .string s => if s.size = 0 then 1 else 0
  | _ => 0
theorem sz1_str (s : ByteArray) : sz1 (.string s) = if s.size = 0 then 1 else 0 := rfl
set_option maxRecDepth 100000 in
set_option maxHeartbeats 2000000 in
theorem l1Dec_any (n : Int) (w : World) (hn : n.natAbs < 10 ^ 13) :
    Calls Tryd.prog 22 #[.int .i64 n] w fun e w' => e = .returned (.string (dec n)) ∧ Below w.heap.size w w' := by
  have HN := Lib.hid hn
  have HE : Hid (dec n = ⟨(Lib.itoa n).toArray⟩) := Lib.hid rfl
  by_cases hneg : n < 0
  all_goals
    have HNG := Lib.hid hneg
    go_enter Tryd.func22, Tryd.ntmps22
    go_wp2_with fail
    clear hneg hn
    go_loopw [0, 4] (fun a s wr => ∃ (m : Int) (S : ByteArray), a = .int .i64 m ∧ s = .string S ∧ DJ n m S.data.toList ∧ m.natAbs ≤ n.natAbs ∧ Below w.heap.size w wr) (fun a s _ => (intOf a).natAbs * 2 + sz1 s)
    case atStart => exact ⟨n, ⟨#[]⟩, rfl, rfl, DJ.start n, Nat.le_refl _, Below.refl _ _⟩
    case round =>
      obtain ⟨m, S, rfl, rfl, hj, hm, hb⟩ := hrel
      have HJ := Lib.hid hj
      have HB := Lib.hid hb
      have HM := Lib.hid hm
      clear hj hb hm
      have hk : m.natAbs % 10 < 10 := Nat.mod_lt _ (by omega)
      have hta := tmod_abs m
      have HTD := Lib.hid (tdiv_abs m)
      have hSL : S.size ≤ 13 := by
        have := HJ.out.len (k := 12) HN.out
        simpa using this
      by_cases hc : S.data.toList = [] ∨ m ≠ 0
      · have HST := Lib.hid (HJ.out.step hc)
        obtain ⟨k, hke⟩ : ∃ k, m.natAbs % 10 = k := ⟨_, rfl⟩
        rw [hke] at hk hta HST
        have hmm : m.natAbs < 10 ^ 13 := Nat.lt_of_le_of_lt HM.out HN.out
        have HMS : Hid ((m.tdiv 10).natAbs * 2 + 0 < m.natAbs * 2 + sz1 (.string S)) := Lib.hid (by
          rw [HTD.out]
          rcases hc with h | h
          · have : S.size = 0 := by simpa using congrArg List.length h
            have e : sz1 (.string S) = 1 := by rw [sz1_str, if_pos this]
            rw [e]; omega
          · omega)
        have HW0 : Hid (wrap64 (m.tdiv 10) = m.tdiv 10) := Lib.hid (by
          have := HTD.out
          unfold wrap64; omega)
        have HO := Lib.hid (show ∀ O : ByteArray, O = oneS k → (O ++ S).data.toList = UInt8.ofNat (48 + k) :: S.data.toList from by rintro O rfl; simp [oneS])
        have HOZ := Lib.hid (show ∀ O : ByteArray, O = oneS k → sz1 (.string (O ++ S)) = 0 from by rintro O rfl; rw [sz1_str, if_neg (by rw [ByteArray.size_append]; show ¬ 1 + _ = 0; omega)])
        by_cases hd : 0 ≤ m.tmod 10
        · have e1 : wrap64 (48 + m.tmod 10) % 256 = ((48 + k : Nat) : Int) := by unfold wrap64; omega
          have hcv := one_conv k (.int .u8 (wrap64 (48 + m.tmod 10) % 256)) (by rw [e1]) wr
          have hOs : (oneS k).size = 1 := rfl
          obtain ⟨O, hO⟩ : ∃ O, O = oneS k := ⟨_, rfl⟩
          rw [← hO] at hcv hOs
          have HOe := Lib.hid hO
          have h1 : ¬ 9223372036854775807 < O.size + S.size := by omega
          clear e1 hO hOs hta hk hmm hke
          by_cases hs : S = ⟨#[]⟩
          · subst hs
            clear hc
            go_wp2_with fail
            refine ⟨⟨m.tdiv 10, _, by rw [HW0.out], rfl, ?_, ?_, Below.alloc HB.out HB.out.size _⟩, ?_⟩
            · rw [HO.out O HOe.out]; exact HST.out
            · have e9 := HTD.out
              have e8 := HM.out
              omega
            · rw [HW0.out, HOZ.out O HOe.out]; exact HMS.out
          · have g0 : S.toList.isEmpty = false := by rw [str_empty, decide_eq_false_iff_not]; intro h; exact hs (by apply ByteArray.ext; apply Array.ext'; exact List.eq_nil_of_length_eq_zero h)
            have g1 : m ≠ 0 := by rcases hc with h | h; exact absurd (by apply ByteArray.ext; apply Array.ext'; exact h) hs; exact h
            clear hc hs
            go_wp2_with fail
            refine ⟨⟨m.tdiv 10, _, by rw [HW0.out], rfl, ?_, ?_, Below.alloc HB.out HB.out.size _⟩, ?_⟩
            · rw [HO.out O HOe.out]; exact HST.out
            · have e9 := HTD.out
              have e8 := HM.out
              omega
            · rw [HW0.out, HOZ.out O HOe.out]; exact HMS.out
        · have hd' : m.tmod 10 < 0 := by omega
          clear hd
          have e1 : wrap64 (48 + wrap64 (-m.tmod 10)) % 256 = ((48 + k : Nat) : Int) := by unfold wrap64; omega
          have hcv := one_conv k (.int .u8 (wrap64 (48 + wrap64 (-m.tmod 10)) % 256)) (by rw [e1]) wr
          have hOs : (oneS k).size = 1 := rfl
          obtain ⟨O, hO⟩ : ∃ O, O = oneS k := ⟨_, rfl⟩
          rw [← hO] at hcv hOs
          have HOe := Lib.hid hO
          have h1 : ¬ 9223372036854775807 < O.size + S.size := by omega
          clear e1 hO hOs hta hk hmm hke
          by_cases hs : S = ⟨#[]⟩
          · subst hs
            clear hc
            go_wp2_with fail
            refine ⟨⟨m.tdiv 10, _, by rw [HW0.out], rfl, ?_, ?_, Below.alloc HB.out HB.out.size _⟩, ?_⟩
            · rw [HO.out O HOe.out]; exact HST.out
            · have e9 := HTD.out
              have e8 := HM.out
              omega
            · rw [HW0.out, HOZ.out O HOe.out]; exact HMS.out
          · have g0 : S.toList.isEmpty = false := by rw [str_empty, decide_eq_false_iff_not]; intro h; exact hs (by apply ByteArray.ext; apply Array.ext'; exact List.eq_nil_of_length_eq_zero h)
            have g1 : m ≠ 0 := by rcases hc with h | h; exact absurd (by apply ByteArray.ext; apply Array.ext'; exact h) hs; exact h
            clear hc hs
            go_wp2_with fail
            refine ⟨⟨m.tdiv 10, _, by rw [HW0.out], rfl, ?_, ?_, Below.alloc HB.out HB.out.size _⟩, ?_⟩
            · rw [HO.out O HOe.out]; exact HST.out
            · have e9 := HTD.out
              have e8 := HM.out
              omega
            · rw [HW0.out, HOZ.out O HOe.out]; exact HMS.out
      · have hs : ¬ S.data.toList = [] := fun h => hc (.inl h)
        have hm0 : m = 0 := Classical.byContradiction fun h => hc (.inr h)
        subst hm0
        have HD := Lib.hid (HJ.out.done hs)
        have g0 : S.toList.isEmpty = false := by rw [str_empty, decide_eq_false_iff_not]; intro h; exact hs (List.eq_nil_of_length_eq_zero h)
        have h1 : ¬ 9223372036854775807 < 1 + S.size := by omega
        have hsz : S.size ≠ 0 := fun h => hs (List.eq_nil_of_length_eq_zero h)
        clear hk hta HTD hs hc
        go_wp2_with fail
        go_ret
        exact ⟨by first | exact congrArg (fun z => Ending.returned (.string z)) (dec_neg HNG.out HD.out) | exact congrArg (fun z => Ending.returned (.string z)) (dec_nonneg (by have := HNG.out; omega) HD.out), HB.out⟩
end Go.Proofs.YthnejknjngekiaaDoor
