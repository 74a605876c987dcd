/- Plain facts on the encoding of numbers in bytes of seven bits. -/
import Derived.Test.YtldjeacpkndcbaaGreatDoorUa
import Derived.RangeFuncBox
import Derived.RangeFuncLeaves
import Derived.Shelf.Abstract
import Derived.OwnWalkIn
import Derived.TacticsInMore
import Derived.LoopNIn
import Derived.LoopIn
set_option linter.unusedVariables false
set_option linter.unusedSimpArgs false
namespace Go.Proofs.YtldjeacpkndcbaaGreatDoor.VM

def var (u : Nat) : List Nat := if u < 128 then [u] else (u % 128 + 128) :: var (u / 128)
termination_by u
decreasing_by omega

theorem var_lt {u : Nat} (h : u < 128) : var u = [u] := by rw [var, if_pos h]
theorem var_ge {u : Nat} (h : 128 ≤ u) : var u = (u % 128 + 128) :: var (u / 128) := by rw [var, if_neg (by omega)]
theorem var_ne (u : Nat) : var u ≠ [] := by
  by_cases h : u < 128
  · rw [var_lt h]; simp
  · rw [var_ge (by omega)]; simp
theorem var_pos (u : Nat) : 0 < (var u).length := List.length_pos_iff.2 (var_ne u)
theorem var_len (k : Nat) : ∀ u : Nat, u < 2 ^ (7 * (k + 1)) → (var u).length ≤ k + 1 := by
  induction k with
  | zero => intro u h; rw [var_lt (by simpa using h)]; simp
  | succ k ih =>
    intro u h
    by_cases hu : u < 128
    · rw [var_lt hu]; simp
    · rw [var_ge (by omega)]
      have : u / 128 < 2 ^ (7 * (k + 1)) := by
        rw [Nat.div_lt_iff_lt_mul (by decide)]
        have e : 2 ^ (7 * (k + 1 + 1)) = 2 ^ (7 * (k + 1)) * 128 := by rw [show 7 * (k + 1 + 1) = 7 * (k + 1) + 7 from by omega, Nat.pow_add]
        omega
      have := ih _ this
      simp; omega
theorem var_len64 (u : Nat) (h : u < 2 ^ 64) : (var u).length ≤ 10 := var_len 9 u (by omega)
theorem var_byte (u : Nat) : ∀ x ∈ var u, x < 256 := by
  induction u using Nat.strongRecOn with
  | ind u ih =>
    by_cases h : u < 128
    · rw [var_lt h]; simp; omega
    · rw [var_ge (by omega)]
      intro x hx
      rcases List.mem_cons.1 hx with rfl | hx
      · omega
      · exact ih _ (by omega) x hx
/-- All bytes but the last one are at least 128, the last one is less. -/
theorem var_shape (u : Nat) : ∀ k, k < (var u).length → ((var u).getD k 0 < 128 ↔ k + 1 = (var u).length) := by
  induction u using Nat.strongRecOn with
  | ind u ih =>
    intro k hk
    by_cases h : u < 128
    · rw [var_lt h] at hk ⊢
      obtain rfl : k = 0 := by simpa using hk
      simp [h]
    · rw [var_ge (by omega)] at hk ⊢
      cases k with
      | zero =>
        have := var_pos (u / 128)
        simp only [List.getD_cons_zero, List.length_cons]
        omega
      | succ k =>
        have := ih (u / 128) (by omega) k (by simpa using hk)
        simpa using this

def toN (l : List UInt8) : List Nat := l.map UInt8.toNat
theorem toN_length (l : List UInt8) : (toN l).length = l.length := by simp [toN]
theorem toN_inj {l m : List UInt8} (h : toN l = toN m) : l = m := (List.map_inj_right (fun _ _ h => UInt8.toNat_inj.1 h)).1 h
def varU (u : Nat) : List UInt8 := (var u).map UInt8.ofNat
theorem toN_varU (u : Nat) : toN (varU u) = var u := by
  unfold toN varU
  rw [List.map_map]
  conv => rhs; rw [← List.map_id (var u)]
  exact List.map_congr_left fun x hx => by
    have := var_byte u x hx
    simp [UInt8.toNat_ofNat']; omega
theorem varU_length (u : Nat) : (varU u).length = (var u).length := by simp [varU]

theorem varU_getD (u k : Nat) : ((varU u).getD k 0).toNat = (var u).getD k 0 := by
  have h := toN_varU u
  rw [← h]
  simp only [toN, List.getD_eq_getElem?_getD, List.getElem?_map]
  cases (varU u)[k]? <;> rfl

/-- What has been read after k bytes. -/
def acc (l : List UInt8) : Nat → Nat
  | 0 => 0
  | k + 1 => acc l k ||| (l.getD k 0).toNat % 128 * 2 ^ (7 * k) % 2 ^ 64
theorem acc_lt (l : List UInt8) (k : Nat) : acc l k < 2 ^ 64 := by
  induction k with
  | zero => simp [acc]
  | succ k ih => exact Nat.or_lt_two_pow ih (Nat.mod_lt _ (by decide))

def Go128 (l : List UInt8) (k : Nat) : Prop := ∀ j, j < k → 128 ≤ (l.getD j 0).toNat
theorem go128_zero (l : List UInt8) : Go128 l 0 := fun _ h => by omega
theorem go128_succ {l : List UInt8} {k : Nat} (h : Go128 l k) (hk : 128 ≤ (l.getD k 0).toNat) : Go128 l (k + 1) := fun j hj => by
  by_cases e : j = k
  · rw [e]; exact hk
  · exact h j (by omega)

/-- Where the first byte below 128 stands, from k on with at most f steps. -/
def endFrom (l : List UInt8) : Nat → Nat → Option Nat
  | 0, _ => none
  | f + 1, k => if l.length ≤ k then none else if (l.getD k 0).toNat < 128 then some k else endFrom l f (k + 1)
theorem endFrom_at {l : List UInt8} (f : Nat) : ∀ k j : Nat, k ≤ j → j < k + f → j < l.length → (∀ i, k ≤ i → i < j → 128 ≤ (l.getD i 0).toNat) → (l.getD j 0).toNat < 128 → endFrom l f k = some j := by
  induction f with
  | zero => intro k j h1 h2; omega
  | succ f ih =>
    intro k j h1 h2 h3 h4 h5
    rw [endFrom, if_neg (by omega)]
    by_cases e : k = j
    · subst e; rw [if_pos h5]
    · rw [if_neg (by have := h4 k (Nat.le_refl _) (by omega); omega)]
      exact ih (k + 1) j (by omega) (by omega) h3 (fun i hi => h4 i (by omega)) h5
theorem endFrom_none {l : List UInt8} (f : Nat) : ∀ k : Nat, (∀ i, k ≤ i → i < k + f → i < l.length → 128 ≤ (l.getD i 0).toNat) → endFrom l f k = none := by
  induction f with
  | zero => intro k _; rfl
  | succ f ih =>
    intro k h
    rw [endFrom]
    by_cases e : l.length ≤ k
    · rw [if_pos e]
    · rw [if_neg e, if_neg (by have := h k (Nat.le_refl _) (by omega) (by omega); omega)]
      exact ih (k + 1) fun i h1 h2 h3 => h i (by omega) (by omega) h3

/-- The number at the head of the bytes, and how many bytes it takes. -/
def readV (l : List UInt8) : Option (Nat × Nat) :=
  match endFrom l 10 0 with
  | none => none
  | some k => if varU (acc l (k + 1)) = l.take (k + 1) then some (acc l (k + 1), k + 1) else none

theorem readV_end {l : List UInt8} {k : Nat} (h : Go128 l k) (hk : k < 10) (hl : k < l.length) (hb : (l.getD k 0).toNat < 128) :
    readV l = if varU (acc l (k + 1)) = l.take (k + 1) then some (acc l (k + 1), k + 1) else none := by
  rw [readV, endFrom_at 10 0 k (by omega) (by omega) hl (fun i _ hi => h i hi) hb]
theorem readV_stop {l : List UInt8} {k : Nat} (h : Go128 l k) (hk : k = 10 ∨ k = l.length) : readV l = none := by
  rw [readV, endFrom_none 10 0 (fun i _ h2 h3 => h i (by omega))]

/-- A code that stands ahead ends at the first byte below 128. -/
theorem prefix_iff {l : List UInt8} {k : Nat} (h : Go128 l k) (hb : (l.getD k 0).toNat < 128) (u : Nat) :
    varU u <+: l ↔ varU u = l.take (k + 1) := by
  constructor
  · intro hp
    have hle := hp.length_le
    have heq : l.take (varU u).length = varU u := by rw [List.prefix_iff_eq_take] at hp; exact hp.symm
    have hget : ∀ j, j < (varU u).length → (l.getD j 0).toNat = (var u).getD j 0 := fun j hj => by
      rw [← varU_getD]
      conv => rhs; rw [← heq]
      simp [List.getD_eq_getElem?_getD, hj]
    have hpos := var_pos u
    have hlen := varU_length u
    have hsh := var_shape u
    have hk1 : (varU u).length = k + 1 := by
      have hlast := (hsh ((var u).length - 1) (by omega)).2 (by omega)
      have a1 : k ≤ (var u).length - 1 := by
        apply Nat.le_of_not_lt
        intro hlt
        have := h _ hlt
        rw [hget _ (by omega)] at this
        omega
      have a2 : k < (varU u).length := by omega
      have := (hsh k (by omega)).1 (by rw [← hget k a2]; exact hb)
      omega
    rw [← hk1, heq]
  · intro e
    rw [e]
    exact List.take_prefix _ _

theorem readV_spec {l : List UInt8} {u k : Nat} (h : readV l = some (u, k)) : u < 2 ^ 64 ∧ varU u = l.take k ∧ 0 < k ∧ k ≤ 10 ∧ k ≤ l.length := by
  unfold readV at h
  split at h
  · cases h
  · rename_i j hj
    split at h
    · rename_i e
      cases h
      have hlen : (varU (acc l (j + 1))).length = (l.take (j + 1)).length := by rw [e]
      have h1 := var_len64 _ (acc_lt l (j + 1))
      rw [varU_length] at hlen
      have h2 : j < l.length := by
        have : ∀ f k, endFrom l f k = some j → j < l.length := by
          intro f
          induction f with
          | zero => intro k h; cases h
          | succ f ih =>
            intro k h
            rw [endFrom] at h
            split at h
            · cases h
            · split at h
              · cases h; omega
              · exact ih _ h
        exact this _ _ hj
      rw [List.length_take, Nat.min_eq_left (by omega)] at hlen
      exact ⟨acc_lt _ _, e, by omega, by omega, by omega⟩
    · cases h

theorem or_low {a m : Nat} {x : Nat} (ha : a < 2 ^ m) : a ||| x * 2 ^ m = a + x * 2 ^ m := by
  rw [Nat.or_comm, Nat.mul_comm x, Nat.two_pow_add_eq_or_of_lt ha x |>.symm, Nat.add_comm]

theorem acc_small {l : List UInt8} (k : Nat) (h : k ≤ 9) : acc l k < 2 ^ (7 * k) := by
  induction k with
  | zero => simp [acc]
  | succ k ih =>
    have := ih (by omega)
    rw [acc]
    have h1 : acc l k < 2 ^ (7 * (k + 1)) := Nat.lt_of_lt_of_le this (Nat.pow_le_pow_right (by decide) (by omega))
    have h2 : (l.getD k 0).toNat % 128 * 2 ^ (7 * k) < 2 ^ (7 * (k + 1)) := by
      have e : 2 ^ (7 * (k + 1)) = 128 * 2 ^ (7 * k) := by rw [show 7 * (k + 1) = 7 * k + 7 from by omega, Nat.pow_add, Nat.mul_comm]
      rw [e]
      exact Nat.mul_lt_mul_of_pos_right (Nat.mod_lt _ (by decide)) (Nat.two_pow_pos _)
    exact Nat.or_lt_two_pow h1 (Nat.lt_of_le_of_lt (Nat.mod_le _ _) h2)

/-- Reading the code of a number reads the number. -/
theorem acc_var (l : List UInt8) (u : Nat) : ∀ k : Nat, k ≤ 9 → (∀ j, j < (var u).length → (l.getD (k + j) 0).toNat = (var u).getD j 0) → u * 2 ^ (7 * k) < 2 ^ 64 → k + (var u).length ≤ 10 →
    acc l (k + (var u).length) = acc l k + u * 2 ^ (7 * k) := by
  induction u using Nat.strongRecOn with
  | ind u ih =>
    intro k hk hg hu hlen
    have hs := acc_small (l := l) k hk
    by_cases h : u < 128
    · rw [var_lt h] at hg ⊢
      have g0 := hg 0 (by simp)
      simp at g0
      show acc l (k + 1) = _
      rw [acc, List.getD_eq_getElem?_getD, g0, Nat.mod_eq_of_lt h, Nat.mod_eq_of_lt hu, or_low hs]
    · have hge : 128 ≤ u := by omega
      rw [var_ge hge] at hg hlen ⊢
      have g0 := hg 0 (by simp)
      simp at g0
      have hpos := var_pos (u / 128)
      simp only [List.length_cons] at hlen
      have hk8 : k + 1 ≤ 9 := by omega
      have e1 : 2 ^ (7 * (k + 1)) = 128 * 2 ^ (7 * k) := by rw [show 7 * (k + 1) = 7 * k + 7 from by omega, Nat.pow_add, Nat.mul_comm]
      have hu' : u / 128 * 2 ^ (7 * (k + 1)) ≤ u * 2 ^ (7 * k) := by
        rw [e1, ← Nat.mul_assoc]
        exact Nat.mul_le_mul_right _ (Nat.div_mul_le_self u 128)
      have hm : u % 128 * 2 ^ (7 * k) ≤ u * 2 ^ (7 * k) := Nat.mul_le_mul_right _ (Nat.mod_le _ _)
      have := ih (u / 128) (by omega) (k + 1) hk8 (fun j hj => by
        have := hg (j + 1) (by simpa using hj)
        simp only [List.getD_cons_succ] at this
        rw [show k + 1 + j = k + (j + 1) from by omega]; exact this) (by omega) (by omega)
      rw [List.length_cons, show k + ((var (u / 128)).length + 1) = k + 1 + (var (u / 128)).length from by omega, this]
      rw [acc, List.getD_eq_getElem?_getD, g0]
      have e2 : (u % 128 + 128) % 128 = u % 128 := by omega
      rw [e2, Nat.mod_eq_of_lt (show u % 128 * 2 ^ (7 * k) < 2 ^ 64 from by omega), or_low hs, e1, Nat.add_assoc]
      congr 1
      rw [← Nat.mul_assoc, ← Nat.add_mul]
      congr 1
      omega

/-- A number comes back from its bytes, whatever stands behind them. -/
theorem readV_var (u : Nat) (h : u < 2 ^ 64) (t : List UInt8) : readV (varU u ++ t) = some (u, (var u).length) := by
  have hlen := varU_length u
  have hpos := var_pos u
  have h10 := var_len64 u h
  have hg : ∀ j, j < (var u).length → ((varU u ++ t).getD j 0).toNat = (var u).getD j 0 := fun j hj => by
    rw [← varU_getD, List.getD_eq_getElem?_getD, List.getElem?_append_left (by omega), List.getD_eq_getElem?_getD]
  have hsh := var_shape u
  have hgo : Go128 (varU u ++ t) ((var u).length - 1) := fun j hj => by
    rw [hg j (by omega)]
    apply Nat.le_of_not_lt
    intro hlt
    have := (hsh j (by omega)).1 hlt
    omega
  have hb : ((varU u ++ t).getD ((var u).length - 1) 0).toNat < 128 := by
    rw [hg _ (by omega)]
    exact (hsh _ (by omega)).2 (by omega)
  have hacc := acc_var (varU u ++ t) u 0 (by omega) (fun j hj => by rw [Nat.zero_add]; exact hg j hj) (by simpa using h) (by omega)
  rw [Nat.zero_add] at hacc
  simp only [acc, Nat.mul_zero, Nat.pow_zero, Nat.mul_one, Nat.zero_add] at hacc
  rw [readV_end hgo (by omega) (by simp; omega) hb, show (var u).length - 1 + 1 = (var u).length from by omega, hacc, if_pos]
  rw [List.take_append_of_le_length (by omega), List.take_of_length_le (by omega)]
end Go.Proofs.YtldjeacpkndcbaaGreatDoor.VM

/- Walks: the model's encoding of a number in bytes of seven bits. -/
set_option linter.unusedVariables false
set_option linter.unusedSimpArgs false
namespace Go.Proofs.YtldjeacpkndcbaaGreatDoor
open Go.RowKit

def i64u (n : Int) : Nat := (n % 18446744073709551616).toNat
theorem i64u_lt (n : Int) : i64u n < 2 ^ 64 := by unfold i64u; omega
theorem u64_wrap (n : Int) : IntKind.u64.wrap n = (i64u n : Int) := by rw [IntKind.wrap_u64]; unfold i64u; omega
theorem i64_u64 (n : Int) (h0 : -9223372036854775808 ≤ n) (h1 : n ≤ 9223372036854775807) : wrap64 (i64u n : Int) = n := by unfold i64u wrap64; omega
theorem i64u_wrap (u : Nat) (h : u < 2 ^ 64) : i64u (wrap64 (u : Int)) = u := by unfold i64u wrap64; omega
def varS (n : Int) : ByteArray := ⟨(VM.varU (i64u n)).toArray⟩
theorem varS_size (n : Int) : (varS n).size = (VM.var (i64u n)).length := by
  show (VM.varU (i64u n)).toArray.size = _
  simp [VM.varU]
theorem varS_list (n : Int) : (varS n).data.toList = VM.varU (i64u n) := rfl

set_option maxRecDepth 100000 in
set_option maxHeartbeats 1000000 in
theorem specL2Var_any (n : Int) (w : World) :
    Calls Tryz.prog 47 #[.int .i64 n] w fun e w' => e = .returned (.string (varS n)) ∧ Below w.heap.size w w' := by
  obtain ⟨i0, hi, hz0, hz1, hz2⟩ := info_parts u_info_u8
  have hu64 := u64_wrap n
  have hult := i64u_lt n
  have hvar : ∃ V, V = VM.var (i64u n) := ⟨_, rfl⟩
  have hS : varS n = ⟨((VM.var (i64u n)).map UInt8.ofNat).toArray⟩ := rfl
  have hlen := VM.var_len64 _ hult
  obtain ⟨V, hV⟩ := hvar
  rw [hS]
  rw [← hV] at hlen ⊢
  clear hS
  generalize i64u n = u at *
  have HV := Lib.hid hV
  clear hV
  go_enter Tryz.func47, Tryz.ntmps47
  go_wp2
  go_loopw [4, 3] (fun v x wr => ∃ (pre : List Nat) (y : Nat), x = .int .u64 (y : Int) ∧ V = pre ++ VM.var y ∧ y < 2 ^ 64 ∧ wr.ownsRow w.heap.size 5 1 v pre.length (byteCells pre) ∧ Below w.heap.size w wr)
    (fun _ x _ => (intOf x).toNat)
  case atStart =>
    refine ⟨[], u, rfl, HV.out, hult, ?_, ?_⟩
    · have := World.ownsRow_made w (base := w.heap.size) (e := 5) (size := 1) #[] 0 (by simp) (by simp [maxLen]) rfl
      simpa [byteCells] using this
    · exact (Below.refl _ _).alloc (by simp) _
  case round =>
    obtain ⟨pre, y, rfl, hpre, hy, hown, hb⟩ := hrel
    have hpl : pre.length + (VM.var y).length ≤ 10 := by rw [hpre] at hlen; simpa using hlen
    have hvp := VM.var_pos y
    have Hpre := Lib.hid hpre
    have Hy := Lib.hid hy
    have hsz := hb.size
    clear hpre HV hu64 hy hult
    by_cases hlt : y < 128
    · go_wp2_with (at_builtin; refine wpList_append_own _ rfl _ _ 22 rfl w.heap.size 5 i0 (.int .u8 0) 1 1 Tryz.underlying22 hi hz0 hz1 hz2 rfl (by decide) _ _ _ rfl (hown.alloc _) ⟨wr.heap.size, 0, none⟩ 1 1 [.int .u8 (y : Int)] rfl rfl ?c1 ?c2 ?c3 ?c4 ?c5 ?_)
      case c1 => exact cell_one_new _ _ _
      case c2 => intro z hz; simp at hz; subst hz; rfl
      case c3 => unfold maxLen; omega
      case c4 => omega
      case c5 => simp; omega
      intro v' w1 hown' hgrow _
      have hb1 := u_below_append hb (Nat.le_refl _) hsz hown hgrow
      have hown2 : w1.ownsRow w.heap.size 5 1 v' V.length (byteCells V) := by
        rw [Hpre.out, VM.var_lt hlt, byteCells_append]
        simpa [byteCells] using hown'
      have hconv := conv_own hown2
      clear hown hown' hgrow hown2 hb
      go_wp2
      go_ret
      exact ⟨rfl, hb1⟩
    · go_wp2_with (at_builtin; refine wpList_append_own _ rfl _ _ 22 rfl w.heap.size 5 i0 (.int .u8 0) 1 1 Tryz.underlying22 hi hz0 hz1 hz2 rfl (by decide) _ _ _ rfl (hown.alloc _) ⟨wr.heap.size, 0, none⟩ 1 1 [.int .u8 ((y : Int) % 128 + 128)] rfl rfl ?c1 ?c2 ?c3 ?c4 ?c5 ?_)
      case c1 => exact cell_one_new _ _ _
      case c2 => intro z hz; simp at hz; subst hz; rfl
      case c3 => unfold maxLen; omega
      case c4 => omega
      case c5 => simp; omega
      intro v' w1 hown' hgrow _
      have hb1 := u_below_append hb (Nat.le_refl _) hsz hown hgrow
      have hown2 : w1.ownsRow w.heap.size 5 1 v' (pre ++ [y % 128 + 128]).length (byteCells (pre ++ [y % 128 + 128])) := by
        rw [byteCells_append]
        simpa [byteCells] using hown'
      have hq := Lib.hid (show IntKind.u64.wrap ((y : Int) / 128) = ((y / 128 : Nat) : Int) by
        have := Hy.out
        rw [IntKind.wrap_u64]; omega)
      clear hown hown' hgrow hb
      go_wp2
      go_roundw
      case rel =>
        rw [hq.out]
        refine ⟨pre ++ [y % 128 + 128], y / 128, rfl, ?_, Nat.lt_of_le_of_lt (Nat.div_le_self _ _) Hy.out, hown2, hb1⟩
        rw [Hpre.out, VM.var_ge (by omega)]; simp
      case measure => rw [hq.out]; simp [intOf]; omega

end Go.Proofs.YtldjeacpkndcbaaGreatDoor

/- Walks: the program's encoding of a number: a range over a function. -/
set_option linter.unusedVariables false
set_option linter.unusedSimpArgs false
namespace Go.Proofs.YtldjeacpkndcbaaGreatDoor
open Go.RowKit Go.Shelf

attribute [local go_sem] Oper.semAt_some

theorem u8_or (a b : Nat) (ha : a < 256) (hb : b < 256) : bits .or .u8 (a : Int) (b : Int) = ((a ||| b : Nat) : Int) := by
  have hx : a ||| b < 2 ^ 8 := Nat.or_lt_two_pow (by omega) (by omega)
  have h1 : (BitVec.ofInt 8 (a : Int)).toNat = a := by
    rw [BitVec.ofInt_natCast, BitVec.toNat_ofNat]; exact Nat.mod_eq_of_lt (by omega)
  have h2 : (BitVec.ofInt 8 (b : Int)).toNat = b := by
    rw [BitVec.ofInt_natCast, BitVec.toNat_ofNat]; exact Nat.mod_eq_of_lt (by omega)
  show IntKind.u8.wrap ((BitVec.ofInt 8 (a : Int) ||| BitVec.ofInt 8 (b : Int)).toNat : Int) = _
  rw [BitVec.toNat_or, h1, h2, IntKind.wrap_u8]
  omega
theorem or_128 (x : Nat) (h : x < 256) : x ||| 128 = x % 128 + 128 := by
  have e : x = x % 128 + 2 ^ 7 * (x / 128) := by omega
  have h1 : x / 128 < 2 := by omega
  have hm : x % 128 < 2 ^ 7 := Nat.mod_lt _ (by decide)
  have key : ∀ b : Nat, b < 2 → ∀ r : Nat, r < 2 ^ 7 → (r + 2 ^ 7 * b) ||| 128 = r + 128 := by
    intro b hb r hr
    rw [Nat.add_comm, Nat.two_pow_add_eq_or_of_lt hr, Nat.or_comm _ r, Nat.or_assoc]
    have hb' : b = 0 ∨ b = 1 := by omega
    have h2 : 2 ^ 7 * b ||| 128 = 2 ^ 7 * 1 := by rcases hb' with rfl | rfl <;> rfl
    rw [h2, Nat.or_comm, ← Nat.two_pow_add_eq_or_of_lt hr, Nat.add_comm]
  conv => lhs; rw [e]
  exact key _ h1 _ hm
theorem or128 (y : Nat) : bits .or .u8 ((y : Int) % 256) 128 = ((y % 128 + 128 : Nat) : Int) := by
  have h : (y : Int) % 256 = ((y % 256 : Nat) : Int) := by omega
  rw [h]
  show bits .or .u8 ((y % 256 : Nat) : Int) ((128 : Nat) : Int) = _
  rw [u8_or _ _ (Nat.mod_lt _ (by decide)) (by decide), or_128 _ (Nat.mod_lt _ (by decide))]
  omega

set_option maxRecDepth 100000 in
set_option maxHeartbeats 1000000 in
theorem varBytes1_in (F : Fence) (n : Nat) (h6 : F.fn 59) (hro : F.round = none) (hn : 1 ≤ n) (l Bn n₀ : Nat) (m : Int) (J Jx : List Nat → World → Prop)
    (hY : ∀ pre (x : Nat) W, J pre W → pre.length < (VM.var (i64u m)).length → YieldAt F (n - 1) Tryz.prog l #[.int .u8 (x : Int)] W fun e W' =>
      (e = .returned (.bool true) ∧ J (pre ++ [x]) W' ∧ Below n₀ W W') ∨ (e = .returned (.bool false) ∧ Jx (pre ++ [x]) W'))
    (W : World) (hBn : W.cell? ⟨Bn, 0, none⟩ = some (.int .i64 m)) (h0 : J [] W) :
    CallsIn F n Tryz.prog 59 #[.func (.yield l) #[] #[], .pointer (some ⟨Bn, 0, none⟩)] W fun e W' => (∃ v, e = .returned v) ∧
      ((∃ ys, ys = VM.var (i64u m) ∧ J ys W') ∨ (∃ pre, pre <+: VM.var (i64u m) ∧ Jx pre W')) := by
  have hu64 := u64_wrap m
  have hult := i64u_lt m
  obtain ⟨V, hV⟩ : ∃ V, V = VM.var (i64u m) := ⟨_, rfl⟩
  rw [← hV] at hY ⊢
  generalize i64u m = u at *
  have HV := Lib.hid hV
  clear hV
  refine callsIn_of_wp Tryz.func59 rfl h6 ?_ hro
  simp only [Tryz.ntmps59, List.size_toArray, List.length_cons, List.length_nil, Nat.reduceAdd, Nat.reduceSub, Array.replicate_succ, Array.replicate_zero, List.push_toArray, List.append_toArray, List.nil_append, List.cons_append]
  gi_wp2
  gi_loopw [3] (fun p wr => ∃ (pre : List Nat) (y : Nat), p = .int .u64 (y : Int) ∧ V = pre ++ VM.var y ∧ y < 2 ^ 64 ∧ J pre wr)
    (fun p _ => (intOf p).toNat)
  case atStart =>
    exact ⟨[], u, rfl, HV.out, hult, h0⟩
  case round =>
    obtain ⟨pre, y, rfl, hpre, hy, hJs⟩ := hrel
    have Hpre := Lib.hid hpre
    have Hy := Lib.hid hy
    clear hpre HV hu64 hy hult
    by_cases hlt : y < 128
    · have hl : pre.length < V.length := by rw [Hpre.out, VM.var_lt hlt]; simp
      obtain ⟨fn, tmps, assign, body, hy1, hR⟩ := hY pre y wr hJs hl
      gi_wp2
      refine hR.mono ?_
      rintro e W3 (⟨rfl, hJ3, hk3⟩ | ⟨rfl, hJx3⟩)
      · gi_wp2
        go_end0
        exact ⟨⟨_, rfl⟩, .inl ⟨_, by rw [Hpre.out, VM.var_lt hlt], hJ3⟩⟩
      · gi_wp2
        go_end0
        exact ⟨⟨_, rfl⟩, .inr ⟨pre ++ [y], by rw [Hpre.out, VM.var_lt hlt]; exact List.prefix_refl _, hJx3⟩⟩
    · have hl : pre.length < V.length := by rw [Hpre.out, VM.var_ge (by omega)]; simp
      obtain ⟨x, hx⟩ : ∃ x : Nat, x = y % 128 + 128 := ⟨_, rfl⟩
      have hor : bits .or .u8 ((y : Int) % 256) 128 = (x : Int) := by rw [hx]; exact or128 y
      have Hx := Lib.hid hx
      clear hx
      obtain ⟨fn, tmps, assign, body, hy1, hR⟩ := hY pre x wr hJs hl
      gi_wp2
      refine hR.mono ?_
      rintro e W3 (⟨rfl, hJ3, hk3⟩ | ⟨rfl, hJx3⟩)
      · gi_wp2
        go_roundw
        case rel =>
          refine ⟨pre ++ [x], y / 128, by simp, ?_, Nat.lt_of_le_of_lt (Nat.div_le_self _ _) Hy.out, hJ3⟩
          rw [Hpre.out, VM.var_ge (by omega), Hx.out]; simp
        case measure => simp [intOf]; omega
      · gi_wp2
        refine bodyPost_ret (results_none rfl _ _ _) rfl ?_
        exact ⟨⟨_, rfl⟩, .inr ⟨pre ++ [x], by rw [Hpre.out, VM.var_ge (by omega), Hx.out]; exact ⟨VM.var (y / 128), by simp⟩, hJx3⟩⟩

/-- varBytes(n): n is boxed; the function value captures the box. -/
theorem varBytes_in (F : Fence) (n : Nat) (h5 : F.fn 36) (hro : F.round = none) (m : Int) (w : World) :
    CallsIn F n Tryz.prog 36 #[.int .i64 m] w fun e w' => e = .returned (.func (.func 59) #[] #[.pointer (some ⟨w.heap.size, 0, none⟩)]) ∧ w' = w.alloc (.cells #[.int .i64 m] 2) := by
  refine callsIn_of_wp Tryz.func36 rfl h5 ?_ hro
  simp only [Tryz.ntmps36, List.size_toArray, List.length_cons, List.length_nil, Nat.reduceAdd, Nat.reduceSub, Array.replicate_succ, Array.replicate_zero, List.push_toArray, List.append_toArray, List.nil_append, List.cons_append]
  gi_wp2
  go_ret
  exact ⟨rfl, rfl⟩

theorem varBytes_stops (F : Fence) (n : Nat) (h6 : F.fn 59) (hro : F.round = none) (hn : 1 ≤ n) (Bn n₀ : Nat) (m : Int) (w : World) (hBn : Bn < w.heap.size)
    (hc : w.cell? ⟨Bn, 0, none⟩ = some (.int .i64 m)) :
    SeqStopsK F n Tryz.prog 59 #[.pointer (some ⟨Bn, 0, none⟩)] (fun x : Nat => #[Value.int .u8 (x : Int)]) (Below n₀) (fun ys => ys = VM.var (i64u m)) (fun pre => pre <+: VM.var (i64u m)) (VM.var (i64u m)).length w := fun l J Jx W hW _ _ hY h0 =>
  varBytes1_in F n h6 hro hn l Bn n₀ m J Jx hY W ((hW.cell (p := ⟨Bn, 0, none⟩) hBn).trans hc) h0

set_option maxRecDepth 100000 in
set_option maxHeartbeats 2000000 in
/-- appendVar(out, m): out's bytes, then those of m; what lies below out's base stays. -/
theorem appendVar_in (F : Fence) (n : Nat) (h3 : F.fn 17) (h4 : F.fn 36) (h5 : F.fn 59) (hro : F.round = none) (hn : 3 ≤ n)
    (n₀ : Nat) (v0 : Value) (xs : List Nat) (m : Int) (w : World) (hn₀ : n₀ ≤ w.heap.size) (hxs : xs.length ≤ 100000) (hrow0 : w.ownsRow n₀ 5 1 v0 xs.length (byteCells xs)) :
    CallsIn F n Tryz.prog 17 #[v0, .int .i64 m] w fun e W' => ∃ v, e = .returned v ∧ W'.ownsRow n₀ 5 1 v (xs ++ VM.var (i64u m)).length (byteCells (xs ++ VM.var (i64u m))) ∧ Below n₀ w W' := by
  have h1 : 1 ≤ n := by omega
  have h10 := VM.var_len64 _ (i64u_lt m)
  obtain ⟨i0, hi, hz0, hz1, hz2⟩ := info_parts u_info_u8
  refine callsIn_of_wp_marks Tryz.func17 rfl h3 ?_ hro
  simp only [Tryz.ntmps17, List.size_toArray, List.length_cons, List.length_nil, Nat.reduceAdd, Nat.reduceSub, Array.replicate_succ, Array.replicate_zero, List.push_toArray, List.append_toArray, List.nil_append, List.cons_append]
  obtain ⟨b0, l0, c0, rfl⟩ : ∃ b l c, v0 = .slice b l c := by
    rcases hrow0.2 with ⟨rfl, _⟩ | ⟨g, cap, cur, rfl, _⟩ <;> exact ⟨_, _, _, rfl⟩
  gi_wp2_with (gi_at_call 36; refine (varBytes_in F (n - 1) h4 hro _ _).mono ?_; rintro e w' ⟨rfl, rfl⟩)
  have bO := Boxed.new w 22 (.slice b0 l0 c0)
  have bN := Boxed.new (w.alloc (.cells #[.slice b0 l0 c0] 22)) 2 (.int .i64 m)
  rw [World.size_alloc] at bN
  have hB0 : Below n₀ w ((w.alloc (.cells #[.slice b0 l0 c0] 22)).alloc (.cells #[.int .i64 m] 2)) := ((Below.refl _ w).alloc hn₀ _).alloc (by simp; omega) _
  refine wpIn_rangeFunc_ownG hro h1 (gf := 59) (lb := #[.pointer (some ⟨w.heap.size + 1, 0, none⟩)]) rfl h5 (enters_of Tryz.func59 (by kernel_rfl) rfl)
    (varBytes_stops F (n - 1) h5 hro (by omega) (w.heap.size + 1) n₀ m _ (by simp) bN.cell) belowK_t (belowK_b (by simp; omega)) (Below.refl _ _) (fun _ => rfl)
    (fun pre W => (∃ v, Boxed W w.heap.size 22 v ∧ W.ownsRow n₀ 5 1 v (xs.length + pre.length) (byteCells (xs ++ pre)) ∧ True) ∧ Below n₀ w W)
    (fun _ _ _ => False)
    (OwnFrom.and (Own.from (holdsRow_own n₀ w.heap.size 22 5 1 (fun pre => xs.length + pre.length) (fun pre => byteCells (xs ++ pre)) (fun _ _ => True)) _) (ownFrom_below hn₀ (by simp; omega)))
    (fun _ _ _ _ _ hs _ _ => hs)
    ⟨⟨_, bO.alloc _, by rw [List.append_nil, List.length_nil, Nat.add_zero]; exact (hrow0.alloc _).alloc _, trivial⟩, hB0⟩
    (fun x : Nat => { tmps := #[.slice b0 l0 c0, .int .i64 m, .pointer (some ⟨w.heap.size, 0, none⟩), undef, .slice none 0 0, .int .u8 (x : Int), .int .i64 m, .func (.func 59) #[] #[.pointer (some ⟨w.heap.size + 1, 0, none⟩)], .int .u8 (x : Int), undef, undef, undef, undef, undef], defers := [] }) ?assign ?body ?done ?stop
  case assign =>
    intro l x W K hK
    gi_wp2
    exact hK
  case body =>
    rintro l pre x W ⟨⟨v, hv, hrow, -⟩, hB⟩ hlt
    have hc := hv.cell
    have hsB := hB.size
    have hpl : xs.length + pre.length ≤ 100010 := by omega
    gi_wp2_with (gi_at_builtin; refine wpListIn_append_own _ rfl _ _ 22 rfl n₀ 5 i0 (.int .u8 0) 1 1 Tryz.underlying22 hi hz0 hz1 hz2 rfl (by decide) _ _ _ rfl (hrow.alloc _) ⟨W.heap.size, 0, none⟩ 1 1 [.int .u8 (x : Int)] rfl rfl (cell_one_new _ _ _) (by simp [Value.oneCell']) (by unfold maxLen; omega) (by omega) (by simp; omega) ?_; intro v' w1 hown' hgrow _; obtain ⟨g', cap', rfl⟩ := ownsRow_succ hown'; obtain ⟨hv1, hv2, hr2, hk2, hb2⟩ := hv.appended (by decide) hrow (by omega) hn₀ hown' hgrow; have hc1 := hv1.cell; have hf1 := hv1.frozen)
    exact ⟨hk2.from _, hb2, ⟨_, hv2, by rw [← List.append_assoc, byteCells_append, List.length_append, ← Nat.add_assoc]; exact hr2, trivial⟩, hB.trans hb2⟩
  case done =>
    rintro D ys W hD rfl ⟨⟨v, hv, hrow, -⟩, hB⟩ hK
    have hc := hv.cell
    gi_wp2
    refine ⟨by simp, .inl ⟨_, _, rfl, run_takeDeferred hK, ?_⟩⟩
    exact ⟨_, results_tmp rfl _ _ _, v, rfl, by rw [List.length_append]; exact ownsRow_putObj hrow _ hK rfl, hB.trans (belowK_b (w := w) hn₀ W D _ _ (by simp at hD; omega) hK rfl rfl)⟩
  case stop =>
    rintro D c pre W _ _ h _
    exact h.elim

theorem appendVar_any (n₀ : Nat) (v0 : Value) (xs : List Nat) (m : Int) (w : World) (hn₀ : n₀ ≤ w.heap.size) (hxs : xs.length ≤ 100000) (hrow0 : w.ownsRow n₀ 5 1 v0 xs.length (byteCells xs)) :
    Calls Tryz.prog 17 #[v0, .int .i64 m] w fun e W' => ∃ v, e = .returned v ∧ W'.ownsRow n₀ 5 1 v (xs ++ VM.var (i64u m)).length (byteCells (xs ++ VM.var (i64u m))) ∧ Below n₀ w W' :=
  (callsIn_wide (n := 3)).1 (appendVar_in Fence.wide 3 trivial trivial trivial rfl (Nat.le_refl _) n₀ v0 xs m w hn₀ hxs hrow0)

set_option maxRecDepth 100000 in
set_option maxHeartbeats 1000000 in
theorem implVarOf_any (n : Int) (w : World) :
    Calls Tryz.prog 60 #[.int .i64 n] w fun e w' => e = .returned (.string (varS n)) ∧ Below w.heap.size w w' := by
  have hS : varS n = ⟨((VM.var (i64u n)).map UInt8.ofNat).toArray⟩ := rfl
  have hc := Lib.hid (fun W => appendVar_any W.heap.size (.slice none 0 0) [] n W (Nat.le_refl _) (by simp) (World.ownsRow_nil _ _ _ _))
  rw [hS]
  clear hS
  go_enter Tryz.func60, Tryz.ntmps60
  go_wp2_with fail
  refine (hc.out _).mono ?_
  rintro e w1 ⟨v, rfl, hown, hb1⟩
  rw [List.nil_append] at hown
  have hconv := conv_own hown
  clear hown
  go_wp2_with fail
  go_ret
  exact ⟨rfl, hb1⟩
end Go.Proofs.YtldjeacpkndcbaaGreatDoor
