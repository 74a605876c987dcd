/- Walks: the program appends a change: all cases; its bits of values. -/
import Derived.Test.YtcmmognjnmbajaaDoorEd
import Derived.Test.YtcmmognjnmbajaaDoorIb
set_option linter.unusedVariables false
set_option linter.unusedSimpArgs false
namespace Go.Proofs.YtcmmognjnmbajaaDoor
open Go.RowKit

theorem wv_form {l t : Nat} (h : OKS l t) : ∃ b s : Nat, wv l t = .agg #[.int .i64 (b : Int), .int .i64 (s : Int)] ∧ b ≤ 64 ∧ s ≤ 64 ∧ ((l + t ≤ 63 ∧ b = l ∧ s = 64 - l - t) ∨ (l = 64 ∧ t = 64 ∧ b = 0 ∧ s = 0)) := by
  unfold wv
  rcases h with ⟨rfl, rfl⟩ | h
  · exact ⟨0, 0, by rw [if_neg (by omega)]; rfl, by omega, by omega, .inr ⟨rfl, rfl, rfl, rfl⟩⟩
  · exact ⟨l, 64 - l - t, by rw [if_pos (by omega)], by omega, by omega, .inl ⟨h, rfl, rfl⟩⟩
theorem shr_val (x : Int) (t : Nat) : IntKind.u64.wrap x / 2 ^ t = ((u64of x / 2 ^ t : Nat) : Int) := by
  rw [u64n_wrap]; show ((u64of x : Nat) : Int) / 2 ^ t = _; simp
theorem shr_lt (x : Int) (t : Nat) : u64of x / 2 ^ t < 2 ^ 64 := Nat.lt_of_le_of_lt (Nat.div_le_self _ _) (u64of_lt x)
theorem putChange_any (g : Nat) (L : List Bool) (l t : Nat) (x : Int) (w : World) (hL : BitsV w g L) (hn : L.length + 77 ≤ 20000) (hT : Tab w) (hO : OKS l t) (h0 : -9223372036854775808 ≤ x) (h1 : x ≤ 9223372036854775807) :
    Calls Tryd.prog 48 #[.pointer (some ⟨g, 0, none⟩), .int .i64 x, wv l t] w (PCPost g (L ++ stepL x l t) (wv (stepS x l t).1 (stepS x l t).2) w) := by
  obtain ⟨b, s, hwv, hb, hs, hc⟩ := wv_form hO
  by_cases hx : x = 0
  · subst hx
    have e1 : stepL 0 l t = [false] := by unfold stepL; rw [if_pos rfl]
    have e2 : stepS 0 l t = (l, t) := by unfold stepS; rw [if_pos rfl]
    rw [e1, e2, hwv]
    exact pc_zero g L b s w hL hn
  · obtain ⟨ha, hb', hab⟩ := nzK hx h0 h1
    cases hi : inW x l t with
    | true =>
      have hi' := hi
      unfold inW at hi'
      rw [decide_eq_true_iff] at hi'
      have hc2 : l + t ≤ 63 ∧ b = l ∧ s = 64 - l - t := by rcases hc with hc | hc <;> omega
      obtain ⟨hc3, rfl, rfl⟩ := hc2
      have e1 : stepL x b t = [true, false] ++ winL x b t := by unfold stepL; rw [if_neg hx, if_pos hi]
      have e2 : stepS x b t = (b, t) := by unfold stepS; rw [if_neg hx, if_pos hi]
      rw [e1, e2, hwv]
      have := pc_in g L b t (64 - b - t) (u64of x / 2 ^ t) x w hL hn hT hx hc3 rfl (by
        rw [ha, hb', Bool.and_eq_true, decide_eq_true_iff, decide_eq_true_iff]; omega) (shr_val x t) (shr_lt x t)
      rw [List.append_assoc] at this
      exact this
    | false =>
      have hi' := hi
      unfold inW at hi'
      rw [decide_eq_false_iff_not] at hi'
      have e1 : stepL x l t = newL x (min 31 (leadK x)) (trailK x) := by unfold stepL; rw [if_neg hx, if_neg (by rw [hi]; decide)]
      have e2 : stepS x l t = (min 31 (leadK x), trailK x) := by unfold stepS; rw [if_neg hx, if_neg (by rw [hi]; decide)]
      rw [e1, e2]
      show Calls _ _ _ _ (PCPost g (L ++ newL x (min 31 (leadK x)) (trailK x)) (wv (min 31 (leadK x)) (trailK x)) w)
      have hwn : wv (min 31 (leadK x)) (trailK x) = .agg #[.int .i64 ((min 31 (leadK x) : Nat) : Int), .int .i64 ((64 - min 31 (leadK x) - trailK x : Nat) : Int)] := by
        unfold wv; rw [if_pos (by omega)]
      have := pc_new g L (b : Int) (s : Int) (min 31 (leadK x)) (trailK x) (64 - min 31 (leadK x) - trailK x) (u64of x / 2 ^ trailK x) x w hL hn hT hx h0 h1 (by omega) (by omega) (by omega) rfl hwn (by
        rw [ha, hb', Bool.and_eq_false_iff, decide_eq_false_iff_not, decide_eq_false_iff_not]; omega) (shr_val x _) (shr_lt x _)
      rw [hwv, hwn]
      have e3 : L ++ newL x (min 31 (leadK x)) (trailK x) = (((L ++ BM.digits 3 2) ++ BM.digits (min 31 (leadK x)) 5) ++ BM.digits (64 - min 31 (leadK x) - trailK x - 1) 6) ++ BM.digits (u64of x / 2 ^ trailK x) (64 - min 31 (leadK x) - trailK x) := by
        unfold newL winL
        rw [show 64 - min 31 (leadK x) - trailK x - 1 = 63 - min 31 (leadK x) - trailK x by omega, show BM.digits 3 2 = [true, true] from rfl]
        simp only [List.append_assoc]
      rw [e3]
      exact this

/-- the exclusive or of a value and the one ahead of it -/
def xr (xs : List Int) (k : Nat) : Int := bits .xor .i64 (xs.getD k 0) (xs.getD (k - 1) 0)
theorem xor_rng (a b : Int) : -9223372036854775808 ≤ bits .xor .i64 a b ∧ bits .xor .i64 a b ≤ 9223372036854775807 := by
  show -9223372036854775808 ≤ IntKind.i64.wrap _ ∧ IntKind.i64.wrap _ ≤ 9223372036854775807
  rw [u_i64_wrap]; exact uz_wrap64_bd _
def valTo (xs : List Int) : Nat → List Bool × Nat × Nat
  | 0 => ([], 64, 64)
  | k + 1 => if k = 0 then (BM.digits (u64of (xs.getD 0 0)) 64, 64, 64) else ((valTo xs k).1 ++ stepL (xr xs k) (valTo xs k).2.1 (valTo xs k).2.2, stepS (xr xs k) (valTo xs k).2.1 (valTo xs k).2.2)
theorem valTo_ok (xs : List Int) (k : Nat) : OKS (valTo xs k).2.1 (valTo xs k).2.2 ∧ (valTo xs k).1.length ≤ 77 * k := by
  induction k with
  | zero => exact ⟨.inl ⟨rfl, rfl⟩, by simp [valTo]⟩
  | succ k ih =>
    rw [valTo]
    split
    · rename_i h0; subst h0; exact ⟨.inl ⟨rfl, rfl⟩, by simp [BM.digits_length]⟩
    · have hr := xor_rng (xs.getD k 0) (xs.getD (k - 1) 0)
      refine ⟨stepS_ok ih.1 hr.1 hr.2, ?_⟩
      have := stepL_le (xr xs k) (valTo xs k).2.1 (valTo xs k).2.2
      rw [List.length_append]; omega
theorem valTo_one (xs : List Int) : valTo xs (0 + 1) = (BM.digits (u64of (xs.getD 0 0)) 64, 64, 64) := rfl
theorem valTo_succ {xs : List Int} {k : Nat} (h : ¬ k = 0) : valTo xs (k + 1) = ((valTo xs k).1 ++ stepL (xr xs k) (valTo xs k).2.1 (valTo xs k).2.2, stepS (xr xs k) (valTo xs k).2.1 (valTo xs k).2.2) := by
  rw [valTo, if_neg h]
end Go.Proofs.YtcmmognjnmbajaaDoor
