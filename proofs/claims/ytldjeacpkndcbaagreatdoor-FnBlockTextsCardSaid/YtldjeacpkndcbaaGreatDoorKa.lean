/- Walks: the checksum, bit by bit and by a table. -/
import Derived.Test.YtldjeacpkndcbaaGreatDoorUa
import Derived.OpenShut
import Derived.Laws.Bits64
set_option linter.unusedVariables false
set_option linter.unusedSimpArgs false
namespace Go.Proofs.YtldjeacpkndcbaaGreatDoor
open Go.RowKit
namespace CR
def st (c : Nat) : Nat := if c % 2 = 1 then (c / 2) ^^^ 3988292384 else c / 2
def sts (n : Nat) (c : Nat) : Nat := match n with | 0 => c | n + 1 => sts n (st c)
theorem sts_succ' (n c : Nat) : sts (n + 1) c = st (sts n c) := by
  induction n generalizing c with
  | zero => rfl
  | succ n ih => rw [sts, ih, sts]
theorem st_lt {c : Nat} (h : c < 2 ^ 32) : st c < 2 ^ 32 := by
  unfold st
  split
  · exact Nat.xor_lt_two_pow (by omega) (by omega)
  · omega
theorem sts_lt {c : Nat} (n : Nat) (h : c < 2 ^ 32) : sts n c < 2 ^ 32 := by
  induction n generalizing c with
  | zero => exact h
  | succ n ih => exact ih (st_lt h)
theorem xor_half (a b : Nat) : (a ^^^ b) / 2 = (a / 2) ^^^ (b / 2) := by
  apply Nat.eq_of_testBit_eq; intro i
  simp [Nat.testBit_div_two, Nat.testBit_xor]
theorem xor_par (a b : Nat) : (a ^^^ b) % 2 = (a % 2 + b % 2) % 2 := by
  have := Nat.testBit_xor a b 0
  simp only [Nat.testBit_zero] at this
  rcases Nat.mod_two_eq_zero_or_one a with h | h <;> rcases Nat.mod_two_eq_zero_or_one b with k | k <;> rcases Nat.mod_two_eq_zero_or_one (a ^^^ b) with m | m <;> simp_all
theorem st_xor (a b : Nat) : st (a ^^^ b) = st a ^^^ st b := by
  unfold st
  rw [xor_par, xor_half]
  rcases Nat.mod_two_eq_zero_or_one a with h | h <;> rcases Nat.mod_two_eq_zero_or_one b with k | k <;> simp only [h, k] <;> simp
  · rw [Nat.xor_assoc]
  · rw [Nat.xor_assoc, Nat.xor_comm (b / 2), ← Nat.xor_assoc]
  · rw [show a / 2 ^^^ 3988292384 ^^^ (b / 2 ^^^ 3988292384) = (a / 2 ^^^ b / 2) ^^^ (3988292384 ^^^ 3988292384) by ac_rfl, Nat.xor_self, Nat.xor_zero]
theorem sts_xor (n a b : Nat) : sts n (a ^^^ b) = sts n a ^^^ sts n b := by
  induction n generalizing a b with
  | zero => rfl
  | succ n ih => rw [sts, st_xor, ih]; rfl
theorem sts_shift (n h : Nat) : sts n (h * 2 ^ n) = h := by
  induction n generalizing h with
  | zero => simp [sts]
  | succ n ih =>
    rw [sts, show h * 2 ^ (n + 1) = 2 * (h * 2 ^ n) by rw [Nat.pow_succ]; ac_rfl]
    rw [show st (2 * (h * 2 ^ n)) = h * 2 ^ n by unfold st; rw [if_neg (by omega)]; omega, ih]
theorem split8 (c : Nat) : c = (c / 256 * 256) ^^^ (c % 256) := by
  apply Nat.eq_of_testBit_eq; intro i
  rw [Nat.testBit_xor, show c / 256 * 256 = c / 2 ^ 8 * 2 ^ 8 from rfl, show c % 256 = c % 2 ^ 8 from rfl, Nat.testBit_mod_two_pow, Nat.testBit_mul_two_pow, Nat.testBit_div_two_pow]
  by_cases h : i < 8
  · simp [h, show ¬ 8 ≤ i by omega]
  · simp [h, show 8 ≤ i by omega]
theorem xor_mod (c x : Nat) (hx : x < 256) : (c ^^^ x) % 256 = (c % 256) ^^^ x := by
  rw [show (256 : Nat) = 2 ^ 8 from rfl, Nat.xor_mod_two_pow, Nat.mod_eq_of_lt (a := x) hx]
/-- one byte, bit by bit -/
def byteS (c x : Nat) : Nat := sts 8 (c ^^^ x)
/-- one byte, by the table -/
theorem byteS_table (c x : Nat) (hx : x < 256) : byteS c x = (c / 256) ^^^ sts 8 ((c % 256) ^^^ x) := by
  unfold byteS
  conv => lhs; rw [split8 (c ^^^ x)]
  rw [sts_xor, sts_shift 8, xor_mod _ _ hx]
  congr 1
  rw [show (256 : Nat) = 2 ^ 8 from rfl, Nat.xor_div_two_pow, Nat.div_eq_of_lt (a := x) (by simpa using hx), Nat.xor_zero]
theorem byteS_lt {c x : Nat} (h : c < 2 ^ 32) (hx : x < 256) : byteS c x < 2 ^ 32 := sts_lt 8 (Nat.xor_lt_two_pow h (by omega))
def sumFrom (c : Nat) : List UInt8 → Nat
  | [] => c
  | x :: l => sumFrom (byteS c x.toNat) l
theorem sumFrom_lt {c : Nat} (h : c < 2 ^ 32) (l : List UInt8) : sumFrom c l < 2 ^ 32 := by
  induction l generalizing c with
  | nil => exact h
  | cons x l ih => exact ih (byteS_lt h x.toNat_lt)
theorem sumFrom_append (c : Nat) (l m : List UInt8) : sumFrom c (l ++ m) = sumFrom (sumFrom c l) m := by
  induction l generalizing c with
  | nil => rfl
  | cons x l ih => exact ih _
theorem sumFrom_take {c : Nat} {l : List UInt8} {k : Nat} (h : k < l.length) : sumFrom c (l.take (k + 1)) = byteS (sumFrom c (l.take k)) (l.getD k 0).toNat := by
  rw [List.take_add_one, sumFrom_append]
  rw [List.getD_eq_getElem?_getD, List.getElem?_eq_getElem h]
  rfl
def sumN (l : List UInt8) : Nat := sumFrom 4294967295 l ^^^ 4294967295
/- a bit of another byte is seen -/
theorem st_inj {a b : Nat} (ha : a < 2 ^ 32) (hb : b < 2 ^ 32) (h : st a = st b) : a = b := by
  have h2 : st (a ^^^ b) = 0 := by rw [st_xor, h, Nat.xor_self]
  have h3 : a ^^^ b < 2 ^ 32 := Nat.xor_lt_two_pow ha hb
  have h4 : a ^^^ b = 0 := by
    unfold st at h2
    split at h2
    · have := Nat.xor_lt_two_pow (n := 31) (show (a ^^^ b) / 2 < 2 ^ 31 by omega) (show (a ^^^ b) / 2 < 2 ^ 31 by omega)
      have e : (a ^^^ b) / 2 = 3988292384 := by
        have h5 := congrArg (· ^^^ 3988292384) h2
        simp only [Nat.xor_assoc, Nat.xor_self, Nat.xor_zero, Nat.zero_xor] at h5
        exact h5
      omega
    · omega
  have h5 := congrArg (· ^^^ b) h4
  simp only [Nat.xor_assoc, Nat.xor_self, Nat.xor_zero, Nat.zero_xor] at h5
  exact h5
theorem sts_inj {a b : Nat} (n : Nat) (ha : a < 2 ^ 32) (hb : b < 2 ^ 32) (h : sts n a = sts n b) : a = b := by
  induction n generalizing a b with
  | zero => exact h
  | succ n ih => exact st_inj ha hb (ih (st_lt ha) (st_lt hb) h)
theorem xor_cancel {a b c : Nat} (h : a ^^^ c = b ^^^ c) : a = b := by
  have h5 := congrArg (· ^^^ c) h
  simp only [Nat.xor_assoc, Nat.xor_self, Nat.xor_zero] at h5
  exact h5
theorem byteS_inj_l {a b x : Nat} (ha : a < 2 ^ 32) (hb : b < 2 ^ 32) (hx : x < 256) (h : byteS a x = byteS b x) : a = b :=
  xor_cancel (sts_inj 8 (Nat.xor_lt_two_pow ha (by omega)) (Nat.xor_lt_two_pow hb (by omega)) h)
theorem byteS_inj_r {c x y : Nat} (hc : c < 2 ^ 32) (hx : x < 256) (hy : y < 256) (h : byteS c x = byteS c y) : x = y := by
  have := sts_inj 8 (Nat.xor_lt_two_pow hc (by omega)) (Nat.xor_lt_two_pow hc (by omega)) h
  rw [Nat.xor_comm c x, Nat.xor_comm c y] at this
  exact xor_cancel this
theorem sumFrom_inj {a b : Nat} (ha : a < 2 ^ 32) (hb : b < 2 ^ 32) (l : List UInt8) (h : sumFrom a l = sumFrom b l) : a = b := by
  induction l generalizing a b with
  | nil => exact h
  | cons x l ih => exact byteS_inj_l ha hb x.toNat_lt (ih (byteS_lt ha x.toNat_lt) (byteS_lt hb x.toNat_lt) h)
theorem sumN_one {p q : List UInt8} {x y : UInt8} (h : sumN (p ++ x :: q) = sumN (p ++ y :: q)) : x = y := by
  have h1 := xor_cancel h
  rw [sumFrom_append, sumFrom_append] at h1
  have hp : sumFrom 4294967295 p < 2 ^ 32 := sumFrom_lt (by omega) p
  have h2 := sumFrom_inj (byteS_lt hp x.toNat_lt) (byteS_lt hp y.toNat_lt) q h1
  exact UInt8.toNat_inj.1 (byteS_inj_r hp x.toNat_lt y.toNat_lt h2)
end CR
theorem k_byte_of (s : ByteArray) (k : Nat) (h : k < s.size) : s.data.toList.getD k 0 = s[k] := by
  have h' : k < s.data.toList.length := by simpa using h
  rw [List.getD_eq_getElem?_getD, List.getElem?_eq_getElem h']
  rfl
theorem k_wrap32 (n : Int) : IntKind.u32.wrap n = n % 4294967296 := by simp [IntKind.wrap, IntKind.bits, IntKind.signed]
theorem k_of32 {a : Nat} (ha : a < 2 ^ 32) : (BitVec.ofInt 32 (a : Int)).toNat = a := by
  rw [BitVec.ofInt_natCast, BitVec.toNat_ofNat]; exact Nat.mod_eq_of_lt (by omega)
theorem k_xor32 {a b : Nat} (ha : a < 2 ^ 32) (hb : b < 2 ^ 32) : bits .xor .u32 (a : Int) (b : Int) = ((a ^^^ b : Nat) : Int) := by
  have hx := Nat.xor_lt_two_pow ha hb
  show IntKind.u32.wrap ((BitVec.ofInt 32 (a : Int) ^^^ BitVec.ofInt 32 (b : Int)).toNat : Int) = _
  rw [BitVec.toNat_xor, k_of32 ha, k_of32 hb, k_wrap32]
  omega
theorem k_and32 {a b : Nat} (ha : a < 2 ^ 32) (hb : b < 2 ^ 32) : bits .and .u32 (a : Int) (b : Int) = ((a &&& b : Nat) : Int) := by
  have hx : a &&& b < 2 ^ 32 := Nat.and_lt_two_pow _ (by omega)
  show IntKind.u32.wrap ((BitVec.ofInt 32 (a : Int) &&& BitVec.ofInt 32 (b : Int)).toNat : Int) = _
  rw [BitVec.toNat_and, k_of32 ha, k_of32 hb, k_wrap32]
  omega
theorem k_xor32c {a : Nat} (ha : a < 2 ^ 32) : bits .xor .u32 (a : Int) 4294967295 = ((a ^^^ 4294967295 : Nat) : Int) := k_xor32 (b := 4294967295) ha (by omega)
theorem k_xor32c' {a : Nat} (ha : a < 2 ^ 32) : bits .xor .u32 4294967295 (a : Int) = ((a ^^^ 4294967295 : Nat) : Int) := by
  rw [Nat.xor_comm]; exact k_xor32 (a := 4294967295) (by omega) ha
theorem k_xorp {a : Nat} (ha : a < 2 ^ 32) : bits .xor .u32 (a : Int) 3988292384 = ((a ^^^ 3988292384 : Nat) : Int) := k_xor32 (b := 3988292384) ha (by omega)
theorem k_and1 {a : Nat} (ha : a < 2 ^ 32) : bits .and .u32 (a : Int) 1 = ((a % 2 : Nat) : Int) := by
  have := k_and32 (b := 1) ha (by omega)
  rw [show ((1 : Nat) : Int) = 1 from rfl] at this
  rw [this, Nat.and_one_is_mod]
theorem k_and_all : bits .and .u32 4294967295 3988292384 = 3988292384 := k_and32 (a := 4294967295) (b := 3988292384) (by omega) (by omega)
theorem k_and_none : bits .and .u32 0 3988292384 = 0 := k_and32 (a := 0) (b := 3988292384) (by omega) (by omega)
theorem k_xor_none {a : Nat} (ha : a < 2 ^ 32) : bits .xor .u32 (a : Int) 0 = (a : Int) := by
  have h := k_xor32 (b := 0) ha (by omega)
  rw [Nat.xor_zero] at h
  exact h
theorem k_wrap8 (n : Int) : IntKind.u8.wrap n = n % 256 := by simp [IntKind.wrap, IntKind.bits, IntKind.signed]
theorem k_xor8 {a b : Nat} (ha : a < 256) (hb : b < 256) : bits .xor .u8 (a : Int) (b : Int) = ((a ^^^ b : Nat) : Int) := by
  have hx := Nat.xor_lt_two_pow (n := 8) ha hb
  have h1 : ∀ c : Nat, c < 256 → (BitVec.ofInt 8 (c : Int)).toNat = c := fun c hc => by
    rw [BitVec.ofInt_natCast, BitVec.toNat_ofNat]; exact Nat.mod_eq_of_lt (by omega)
  show IntKind.u8.wrap ((BitVec.ofInt 8 (a : Int) ^^^ BitVec.ofInt 8 (b : Int)).toNat : Int) = _
  rw [BitVec.toNat_xor, h1 a ha, h1 b hb, k_wrap8]
  omega
theorem k_below_drewN {B : Nat} {a w : World} (h : Below B a w) (n : Nat) : Below B a (w.drewN n) := ⟨h.os, h.tape, h.output, h.size, h.block⟩
theorem k_not32 {a : Nat} (ha : a < 2 ^ 32) : IntKind.u32.wrap (-(a : Int) - 1) = ((a ^^^ 4294967295 : Nat) : Int) := by
  have e : a ^^^ 4294967295 = 4294967295 - a := by
    have h := BitVec.toNat_not (x := BitVec.ofNat 32 a)
    rw [← BitVec.xor_allOnes, BitVec.toNat_xor, BitVec.toNat_allOnes, BitVec.toNat_ofNat, Nat.mod_eq_of_lt ha] at h
    exact h
  rw [e, k_wrap32]
  omega
set_option maxRecDepth 100000 in
set_option maxHeartbeats 1000000 in
theorem l5Sum_any (s : ByteArray) (w : World) (hs : s.size ≤ maxLen) :
    Calls Tryz.prog 31 #[.string s] w fun e w' => e = .returned (.int .i64 (CR.sumN s.data.toList : Int)) ∧ w = w' := by
  have Hs := Lib.hid hs
  unfold maxLen at hs
  go_enter Tryz.func31, Tryz.ntmps31
  go_wp2_with fail
  go_loop [3, 4] (fun c i => ∃ k : Nat, k ≤ s.size ∧ i = .int .i64 k ∧ c = .int .u32 (CR.sumFrom 4294967295 (s.data.toList.take k) : Int)) (fun _ i => s.size - (intOf i).toNat)
  case atStart => exact ⟨0, Nat.zero_le _, rfl, rfl⟩
  case round =>
    obtain ⟨k, hk, rfl, rfl⟩ := hrel
    have hC : CR.sumFrom 4294967295 (s.data.toList.take k) < 2 ^ 32 := CR.sumFrom_lt (by omega) _
    generalize hCe : CR.sumFrom 4294967295 (s.data.toList.take k) = C at *
    have HCe := Lib.hid hCe
    clear hCe
    by_cases hlt : k < s.size
    · have hb := s[k].toNat_lt
      have hX := Lib.hid (CR.sumFrom_take (c := 4294967295) (l := s.data.toList) (k := k) (by simpa using hlt))
      rw [HCe.out, k_byte_of s k hlt] at hX
      go_wp2_with fail
      rw [k_xor32 hC (by omega)]
      have hX0 : C ^^^ s[k].toNat < 2 ^ 32 := Nat.xor_lt_two_pow hC (by omega)
      unfold CR.byteS at hX
      generalize C ^^^ s[k].toNat = X at *
      go_loop [3, 5] (fun c i => ∃ m : Nat, m ≤ 8 ∧ i = .int .i64 m ∧ c = .int .u32 (CR.sts m X : Int)) (fun _ i => 8 - (intOf i).toNat)
      case atStart => exact ⟨0, Nat.zero_le _, rfl, rfl⟩
      case round =>
        obtain ⟨m, hm, rfl, rfl⟩ := hrel
        have hY : CR.sts m X < 2 ^ 32 := CR.sts_lt m hX0
        have hn := Lib.hid (CR.sts_succ' m X)
        generalize hYe : CR.sts m X = Y at *
        have HYe := Lib.hid hYe
        clear hYe
        by_cases hm8 : m < 8
        · have e1 := k_and1 hY
          by_cases hodd : Y % 2 = 1
          · have hst := Lib.hid (show CR.st Y = (Y / 2) ^^^ 3988292384 from if_pos hodd)
            rw [show ((Y % 2 : Nat) : Int) = 1 by omega] at e1
            go_wp2_with fail
            go_round
            case rel => exact ⟨m + 1, by omega, by go_num, by rw [hn.out, hst.out, show ((Y : Int) / 2) = ((Y / 2 : Nat) : Int) by omega, k_xorp (by omega)]⟩
            case measure => simp [intOf]; omega
          · have hst := Lib.hid (show CR.st Y = Y / 2 from if_neg hodd)
            rw [show ((Y % 2 : Nat) : Int) = 0 by omega] at e1
            go_wp2_with fail
            go_round
            case rel => exact ⟨m + 1, by omega, by go_num, by rw [hn.out, hst.out, show ((Y : Int) / 2) = ((Y / 2 : Nat) : Int) by omega]⟩
            case measure => simp [intOf]; omega
        · obtain rfl : m = 8 := by omega
          go_wp2_with fail
          go_round
          case rel => exact ⟨k + 1, by omega, by go_num, by rw [hX.out, HYe.out]⟩
          case measure => simp [intOf]; omega
    · obtain rfl : k = s.size := by omega
      go_wp2_with fail
      go_ret
      rw [List.take_of_length_le (by simp)] at HCe
      refine ⟨?_, rfl⟩
      unfold CR.sumN
      rw [HCe.out]
      rw [k_xor32c hC]
      have hx := CR.sumFrom_lt (c := 4294967295) (by omega) s.data.toList
      rw [HCe.out] at hx
      have hx2 := Nat.xor_lt_two_pow hx (show 4294967295 < 2 ^ 32 by omega)
      generalize C ^^^ 4294967295 = Z at *
      rw [show wrap64 (Z : Int) = (Z : Int) from by unfold wrap64; omega]
      rfl
def tabCells (l : List Nat) : Array Value := (l.map fun x : Nat => Value.int .u32 (x : Int)).toArray
def tabTo (k : Nat) : List Nat := (List.range 256).map fun i => if i < k then CR.sts 8 i else 0
theorem tabTo_length (k : Nat) : (tabTo k).length = 256 := by simp [tabTo]
theorem tabTo_getD (k i : Nat) (h : i < 256) : (tabTo k).getD i 0 = if i < k then CR.sts 8 i else 0 := by
  simp [tabTo, List.getD_eq_getElem?_getD, h]
theorem tabTo_set (k : Nat) (h : k < 256) : (tabTo k).set k (CR.sts 8 k) = tabTo (k + 1) := by
  apply List.ext_getElem (by simp [tabTo])
  intro i h1 h2
  have hi : i < 256 := by rw [tabTo_length] at h2; exact h2
  simp only [tabTo, List.getElem_set, List.getElem_map, List.getElem_range]
  by_cases e : k = i
  · subst e; simp
  · rw [if_neg e]
    by_cases c : i < k
    · rw [if_pos c, if_pos (by omega)]
    · rw [if_neg c, if_neg (by omega)]
def TB (w : World) (g : Nat) (l : List Nat) : Prop := w.heap[g]? = some (.cells (tabCells l) 92 (0, 0))
theorem TB.c {w : World} {g : Nat} {l : List Nat} (h : TB w g l) (i : Nat) (hi : i < l.length) : w.cell? ⟨g, i, none⟩ = some (.int .u32 (l.getD i 0 : Int)) := by
  rw [cell_of_row w g i _ _ _ h]
  simp [tabCells, List.getD_eq_getElem?_getD, hi]
theorem TB.f {w : World} {g : Nat} {l : List Nat} (h : TB w g l) (i : Nat) : w.frozen? ⟨g, i, none⟩ = false := frozen_of_row w g i _ _ h
theorem TB.below {w w' : World} {g B : Nat} {l : List Nat} (h : TB w g l) (hb : Below B w w') (hg : g < B) : TB w' g l := (hb.block g hg).trans h
theorem TB.set {w : World} {g : Nat} {l : List Nat} (h : TB w g l) (k x : Nat) : TB (w.setCell ⟨g, k, none⟩ (.int .u32 (x : Int))) g (l.set k x) := by
  unfold TB at h ⊢
  rw [heap_setCell_same w g k _ _ _ h]
  congr 2
  simp [tabCells]
theorem tb_zero : (Tryz.prog.info? 92).map (fun i => (i.zero, i.size)) = some (some (.agg (tabCells (tabTo 0))), 256) := by kernel_rfl
theorem run_alloc_tb (w : World) : (Instr.alloc 92 true (.tuple #[])).run Tryz.prog w = .ok (.pointer (some ⟨w.heap.size, 0, none⟩)) (w.alloc (.cells (tabCells (tabTo 0)) 92)) := by
  obtain ⟨i, hi, hz⟩ := Option.map_eq_some_iff.1 tb_zero
  simp only [Prod.mk.injEq] at hz
  simp [Instr.alloc, zeroValue, typeInfo, hi, hz.1, newVar, newRow, Value.cells]
section
variable {ops : Array Oper} {rest : List Oper} {d : Option Tmp} {ty : TypeId} {pos : String} {af : Array Edge} {a : Act} {w : World} {Q : Exit → Act → World → Prop}
theorem wl_alloc_tb (h : wpList Tryz.prog ops Q rest (a.put d (.pointer (some ⟨w.heap.size, 0, none⟩))) (w.alloc (.cells (tabCells (tabTo 0)) 92))) :
    wpList Tryz.prog ops Q (⟨d, .alloc 92, ty, pos, af, none⟩ :: rest) a w := by
  refine wpList_plain rfl fun K hK => ?_
  unfold Oper.wp execOp
  simp only [run_alloc_tb, Sem.run_bind, Sem.run_pure, Result.andThen_ok]
  exact hK _ _ h
end
set_option maxRecDepth 100000 in
set_option maxHeartbeats 1000000 in
theorem newSumTable_any (w : World) : Calls Tryz.prog 37 #[] w fun e w' => e = .returned (.pointer (some ⟨w.heap.size, 0, none⟩)) ∧ TB w' w.heap.size (tabTo 256) ∧ Below w.heap.size w w' ∧ w.heap.size < w'.heap.size := by
  have hT0 : TB (w.alloc (.cells (tabCells (tabTo 0)) 92)) w.heap.size (tabTo 0) := heap_alloc_new w _
  have hB0 : Below w.heap.size w (w.alloc (.cells (tabCells (tabTo 0)) 92)) := (Below.refl _ _).alloc (Nat.le_refl _) _
  go_enter Tryz.func37, Tryz.ntmps37
  go_wp2_with (with_reducible refine wl_alloc_tb ?_)
  generalize w.alloc (.cells (tabCells (tabTo 0)) 92) = w0 at *
  go_loopw [4] (fun i wr => ∃ k : Nat, k ≤ 256 ∧ i = .int .i64 k ∧ TB wr w.heap.size (tabTo k) ∧ Below w.heap.size w wr) (fun i _ => 256 - (intOf i).toNat)
  case atStart => exact ⟨0, Nat.zero_le _, rfl, hT0, hB0⟩
  case round =>
    clear hT0 hB0
    obtain ⟨k, hk, rfl, hT, hB⟩ := hrel
    by_cases hlt : k < 256
    · have hcell := hT.c k (by rw [tabTo_length]; exact hlt)
      have hfro := hT.f k
      have HT := Lib.hid hT
      have HB := Lib.hid hB
      have e0 : IntKind.u32.wrap (k : Int) = (k : Int) := by rw [k_wrap32]; omega
      generalize (tabTo k).getD k 0 = old at hcell
      clear hT hB
      go_wp2_with fail
      clear e0
      go_loop [3, 9] (fun c i => ∃ m : Nat, m ≤ 8 ∧ i = .int .i64 m ∧ c = .int .u32 (CR.sts m k : Int)) (fun _ i => 8 - (intOf i).toNat)
      case atStart => exact ⟨0, Nat.zero_le _, rfl, rfl⟩
      case round =>
        obtain ⟨m, hm, rfl, rfl⟩ := hrel
        have hY : CR.sts m k < 2 ^ 32 := CR.sts_lt m (by omega)
        have hn := Lib.hid (CR.sts_succ' m k)
        generalize hYe : CR.sts m k = Y at *
        have HYe := Lib.hid hYe
        clear hYe
        by_cases hm8 : m < 8
        · have e1 := k_and1 hY
          by_cases hodd : Y % 2 = 1
          · have hst := Lib.hid (show CR.st Y = (Y / 2) ^^^ 3988292384 from if_pos hodd)
            rw [show ((Y % 2 : Nat) : Int) = 1 by omega] at e1
            go_wp2_with fail
            go_round
            case rel => exact ⟨m + 1, by omega, by go_num, by rw [hn.out, hst.out, k_and_all, show ((Y : Int) / 2) = ((Y / 2 : Nat) : Int) by omega, k_xorp (by omega)]⟩
            case measure => simp [intOf]; omega
          · have hst := Lib.hid (show CR.st Y = Y / 2 from if_neg hodd)
            rw [show ((Y % 2 : Nat) : Int) = 0 by omega] at e1
            go_wp2_with fail
            go_round
            case rel => exact ⟨m + 1, by omega, by go_num, by rw [hn.out, hst.out, k_and_none, show ((Y : Int) / 2) = ((Y / 2 : Nat) : Int) by omega, k_xor_none (by omega)]⟩
            case measure => simp [intOf]; omega
        · obtain rfl : m = 8 := by omega
          have hset := HT.out.set k Y
          rw [← HYe.out, tabTo_set k hlt, HYe.out] at hset
          have hB2 := HB.out.setCell (show w.heap.size ≤ (⟨w.heap.size, k, none⟩ : Addr).block by simp) (.int .u32 (Y : Int))
          have HS := Lib.hid hset
          clear hset
          go_wp2_with fail
          go_roundw
          case rel => exact ⟨k + 1, by omega, by go_num, HS.out, hB2⟩
          case measure => simp [intOf]; omega
    · obtain rfl : k = 256 := by omega
      have hz := (Array.getElem?_eq_some_iff.1 hT).1
      go_wp2_with fail
      go_ret
      exact ⟨rfl, hT, hB, hz⟩
set_option maxRecDepth 100000 in
set_option maxHeartbeats 1000000 in
theorem checksum_any (s : ByteArray) (w : World) (hs : s.size ≤ maxLen) : Calls Tryz.prog 19 #[.string s] w fun e w' => e = .returned (.int .u32 (CR.sumN s.data.toList : Int)) ∧ Below w.heap.size w w' := by
  have HN := Lib.hid (fun W => newSumTable_any W)
  unfold maxLen at hs
  go_enter Tryz.func19, Tryz.ntmps19
  go_wp2_with fail
  refine (HN.out _).mono ?_
  rintro e w1 ⟨rfl, hT, hB, hz⟩
  go_wp2_with fail
  go_loopw [4, 9] (fun c i wr => ∃ k : Nat, k ≤ s.size ∧ i = .int .i64 k ∧ c = .int .u32 (CR.sumFrom 4294967295 (s.data.toList.take k) : Int) ∧ TB wr w.heap.size (tabTo 256) ∧ Below w.heap.size w wr) (fun _ i _ => s.size - (intOf i).toNat)
  case atStart => exact ⟨0, Nat.zero_le _, rfl, rfl, hT, hB⟩
  case round =>
    clear hT hB hz
    obtain ⟨k, hk, rfl, rfl, hT, hB⟩ := hrel
    have hC : CR.sumFrom 4294967295 (s.data.toList.take k) < 2 ^ 32 := CR.sumFrom_lt (by omega) _
    generalize hCe : CR.sumFrom 4294967295 (s.data.toList.take k) = C at *
    have HCe := Lib.hid hCe
    clear hCe
    by_cases hlt : k < s.size
    · have hb := s[k].toNat_lt
      have hX := Lib.hid (CR.sumFrom_take (c := 4294967295) (l := s.data.toList) (k := k) (by simpa using hlt))
      rw [HCe.out, k_byte_of s k hlt, CR.byteS_table C _ hb] at hX
      have hz8 : (C % 256) ^^^ s[k].toNat < 2 ^ 8 := Nat.xor_lt_two_pow (by omega) hb
      have e2 := k_xor8 (a := C % 256) (b := s[k].toNat) (by omega) hb
      rw [show ((C % 256 : Nat) : Int) = (C : Int) % 256 by omega] at e2
      generalize hZ : (C % 256) ^^^ s[k].toNat = Z at *
      have hcell := hT.c Z (by rw [tabTo_length]; omega)
      rw [tabTo_getD 256 Z (by omega), if_pos (by omega)] at hcell
      have hS : CR.sts 8 Z < 2 ^ 32 := CR.sts_lt 8 (by omega)
      generalize CR.sts 8 Z = S at *
      have hz1 : (Z : Int) < 256 := by omega
      have hz2 : (0 : Int) ≤ (Z : Int) := by omega
      have HT := Lib.hid hT
      have HB := Lib.hid hB
      clear hT hB
      go_wp2_with fail
      go_quiet (fail)
      go_wp2_with fail
      go_roundw
      case rel => exact ⟨k + 1, by omega, by go_num, by rw [hX.out, show ((C : Int) / 256) = ((C / 256 : Nat) : Int) by omega, k_xor32 (by omega) hS], HT.out, k_below_drewN HB.out _⟩
      case measure => simp [intOf]; omega
    · obtain rfl : k = s.size := by omega
      go_wp2_with fail
      go_ret
      rw [List.take_of_length_le (by simp)] at HCe
      unfold CR.sumN
      rw [HCe.out]
      refine ⟨?_, hB⟩
      rw [show IntKind.u32.max = 4294967295 from rfl, k_xor32c' hC]
      rfl
end Go.Proofs.YtldjeacpkndcbaaGreatDoor
