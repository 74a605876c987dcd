/- Walks: cascades: rows of their own that lie apart from each other; marks. -/
import Derived.Test.YtdmcijodhokahaaOk
import Derived.Test.YtdmcijodhokahaaYm
import Derived.Test.YtdmcijodhokahaaYn
set_option linter.unusedVariables false
set_option linter.unusedSimpArgs false
namespace Go.Proofs.Ytdmcijodhokahaa
open Go.RowKit

/-- the block of a slice of n elements; none: it has no element -/
def obk (v : Value) (n : Nat) : Option Nat := if n = 0 then none else v.ownBlock
/-- a row of the call's own in the blocks from base to top, or no element -/
def ORow (W : World) (base top : Nat) (e : TypeId) (sz : Nat) (v : Value) (n : Nat) (xs : List Value) : Prop :=
  (W.ownsRow base e sz v n xs ∧ ∀ g, v.ownBlock = some g → g < top) ∨ (n = 0 ∧ xs = [] ∧ ∃ A c, v = .slice A 0 c)
theorem obk_zero (v : Value) : obk v 0 = none := rfl
theorem obk_pos {v : Value} {n : Nat} (h : 0 < n) : obk v n = v.ownBlock := by unfold obk; rw [if_neg (by omega)]
theorem ORow.shape {W : World} {base top sz : Nat} {e : TypeId} {v : Value} {n : Nat} {xs : List Value} (h : ORow W base top e sz v n xs) : ∃ a c, v = .slice a n c := by
  rcases h with ⟨h, _⟩ | ⟨rfl, _, A, c, rfl⟩
  · rcases h.2 with ⟨rfl, rfl⟩ | ⟨g, cap, cur, rfl, _⟩
    · exact ⟨_, _, rfl⟩
    · exact ⟨_, _, rfl⟩
  · exact ⟨_, _, rfl⟩
theorem ORow.nil {W : World} {base top sz : Nat} {e : TypeId} {v : Value} {xs : List Value} (h : ORow W base top e sz v 0 xs) : xs = [] ∧ ∃ A c, v = .slice A 0 c := by
  obtain ⟨a, c, rfl⟩ := h.shape
  refine ⟨?_, a, c, rfl⟩
  rcases h with ⟨h, _⟩ | ⟨_, h, _⟩
  · exact List.eq_nil_of_length_eq_zero (by have := h.1; omega)
  · exact h
theorem ORow.of_nil (W : World) (base top : Nat) (e : TypeId) (sz : Nat) (A : Option Addr) (c : Nat) : ORow W base top e sz (.slice A 0 c) 0 [] := .inr ⟨rfl, rfl, A, c, rfl⟩
theorem ORow.of_own {W : World} {base sz : Nat} {e : TypeId} {v : Value} {n : Nat} {xs : List Value} (h : W.ownsRow base e sz v n xs) : ORow W base W.heap.size e sz v n xs := .inl ⟨h, fun g hg => (h.lt g hg).2⟩
theorem ORow.lt {W : World} {base top sz : Nat} {e : TypeId} {v : Value} {n : Nat} {xs : List Value} (h : ORow W base top e sz v n xs) {g : Nat} (hg : obk v n = some g) : base ≤ g ∧ g < top ∧ g < W.heap.size := by
  unfold obk at hg
  split at hg
  · cases hg
  · rename_i hn
    rcases h with ⟨h, ht⟩ | ⟨h0, _⟩
    · exact ⟨(h.lt g hg).1, ht g hg, (h.lt g hg).2⟩
    · exact absurd h0 hn
theorem ORow.at_ {W W' : World} {base top sz : Nat} {e : TypeId} {v : Value} {n : Nat} {xs : List Value} (h : ORow W base top e sz v n xs) (hb : ∀ g, obk v n = some g → W'.heap[g]? = W.heap[g]?) : ORow W' base top e sz v n xs := by
  by_cases hn : n = 0
  · subst hn
    obtain ⟨rfl, A, c, rfl⟩ := h.nil
    exact ORow.of_nil _ _ _ _ _ _ _
  · rcases h with ⟨h, ht⟩ | ⟨h0, _⟩
    · refine .inl ⟨⟨h.1, ?_⟩, ht⟩
      rcases h.2 with h | ⟨g, cap, cur, rfl, hbase, hg, hr⟩
      · exact .inl h
      · exact .inr ⟨g, cap, cur, rfl, hbase, (hb g (by unfold obk; rw [if_neg hn]; rfl)).trans hg, hr⟩
    · exact absurd h0 hn
theorem ORow.lift {W : World} {base base' top top' sz : Nat} {e : TypeId} {v : Value} {n : Nat} {xs : List Value} (h : ORow W base top e sz v n xs) (hb : base' ≤ base) (ht : top ≤ top') : ORow W base' top' e sz v n xs := by
  rcases h with ⟨h, h2⟩ | h
  · exact .inl ⟨oi_lift h hb, fun g hg => by have := h2 g hg; omega⟩
  · exact .inr h
/-- what is not in S stands as it was -/
structure Chg (S : Nat → Prop) (W W' : World) : Prop where
  os : W'.os = W.os
  tape : W'.tape = W.tape
  output : W'.output = W.output
  size : W.heap.size ≤ W'.heap.size
  block : ∀ k, k < W.heap.size → ¬ S k → W'.heap[k]? = W.heap[k]?
theorem Chg.refl (S : Nat → Prop) (W : World) : Chg S W W := ⟨rfl, rfl, rfl, Nat.le_refl _, fun _ _ _ => rfl⟩
theorem Chg.trans {S : Nat → Prop} {a b c : World} (h : Chg S a b) (k : Chg S b c) : Chg S a c :=
  ⟨k.os.trans h.os, k.tape.trans h.tape, k.output.trans h.output, Nat.le_trans h.size k.size, fun i hi hn => (k.block i (Nat.lt_of_lt_of_le hi h.size) hn).trans (h.block i hi hn)⟩
theorem Chg.mono {S T : Nat → Prop} {a b : World} (h : Chg S a b) (hs : ∀ k, S k → T k) : Chg T a b :=
  ⟨h.os, h.tape, h.output, h.size, fun k hk hn => h.block k hk (fun hS => hn (hs k hS))⟩
theorem Chg.grown {S : Nat → Prop} {a b : World} {row : Option Nat} (h : a.grownBy b row) (hs : ∀ k, row = some k → S k) : Chg S a b :=
  ⟨h.os, h.tape, h.output, h.size, fun k hk hn => h.block k hk (fun e => hn (hs k e.symm))⟩
theorem Chg.below {S : Nat → Prop} {a b : World} {base : Nat} (h : Chg S a b) (hB : base ≤ a.heap.size) (hs : ∀ k, S k → base ≤ k) : Below base a b :=
  ⟨h.os, h.tape, h.output, h.size, fun k hk => h.block k (by omega) (fun hS => by have := hs k hS; omega)⟩

def MarkPP (base top : Nat) (v : Value) (n : Nat) (K : Int) (w : World) (e : Ending) (w' : World) : Prop :=
  e = .returned (.int .i64 (K + 2 * (n : Int))) ∧ ORow w' base top 47 2 v n (prs (marks2 K n)) ∧ Chg (fun b => obk v n = some b) w w'
set_option maxRecDepth 100000 in
set_option maxHeartbeats 1000000 in
theorem markPoint0_any (A : Option Addr) (c : Nat) (K : Int) (w : World) :
    Calls Try.prog 37 #[.slice A 0 c, .int .i64 K] w fun e w' => e = .returned (.int .i64 K) ∧ w' = w := by
  go_enter Try.func37, Try.ntmps37
  go_wp2_with fail
  refine wp_loop_rounds 1 ?_
  rw [rounds_succ]
  go_wp2_with fail
  go_ret
  exact ⟨rfl, rfl⟩
theorem markPointO_any (base top : Nat) (v : Value) (K : Int) (xs : List (Int × Int)) (w : World) (hK : 0 ≤ K) (hK2 : K ≤ 100000000000000) (hl : xs.length ≤ 1048576) (h : ORow w base top 47 2 v xs.length (prs xs)) :
    Calls Try.prog 37 #[v, .int .i64 K] w (MarkPP base top v xs.length K w) := by
  by_cases hn : xs.length = 0
  · rw [hn] at h ⊢
    obtain ⟨_, A, c, rfl⟩ := h.nil
    refine (markPoint0_any A c K w).mono ?_
    rintro e w' ⟨rfl, rfl⟩
    exact ⟨by simp, ORow.of_nil _ _ _ _ _ _ _, Chg.refl _ _⟩
  · rcases h with ⟨h, ht⟩ | ⟨h0, _⟩
    · refine (markPointS_any base v K xs w hK hK2 hl h).mono ?_
      rintro e w' ⟨rfl, h1, h2, h3⟩
      exact ⟨rfl, .inl ⟨h1, ht⟩, Chg.grown h3 (fun k hk => by unfold obk; rw [if_neg hn]; exact hk)⟩
    · exact absurd h0 hn

def MarkPR (base top : Nat) (v : Value) (n : Nat) (K : Int) (w : World) (e : Ending) (w' : World) : Prop :=
  e = .returned (.int .i64 (K + 6 * (n : Int))) ∧ ORow w' base top 56 6 v n (rls (marks6 K n)) ∧ Chg (fun b => obk v n = some b) w w'
set_option maxRecDepth 100000 in
set_option maxHeartbeats 1000000 in
theorem markRoll0_any (A : Option Addr) (c : Nat) (K : Int) (w : World) :
    Calls Try.prog 109 #[.slice A 0 c, .int .i64 K] w fun e w' => e = .returned (.int .i64 K) ∧ w' = w := by
  go_enter Try.func109, Try.ntmps109
  go_wp2_with fail
  refine wp_loop_rounds 1 ?_
  rw [rounds_succ]
  go_wp2_with fail
  go_ret
  exact ⟨rfl, rfl⟩
theorem markRollO_any (base top : Nat) (v : Value) (K : Int) (xs : List R6) (w : World) (hK : 0 ≤ K) (hK2 : K ≤ 100000000000000) (hl : xs.length ≤ 1048576) (h : ORow w base top 56 6 v xs.length (rls xs)) :
    Calls Try.prog 109 #[v, .int .i64 K] w (MarkPR base top v xs.length K w) := by
  by_cases hn : xs.length = 0
  · rw [hn] at h ⊢
    obtain ⟨_, A, c, rfl⟩ := h.nil
    refine (markRoll0_any A c K w).mono ?_
    rintro e w' ⟨rfl, rfl⟩
    exact ⟨by simp, ORow.of_nil _ _ _ _ _ _ _, Chg.refl _ _⟩
  · rcases h with ⟨h, ht⟩ | ⟨h0, _⟩
    · refine (markRollS_any base v K xs w hK hK2 hl h).mono ?_
      rintro e w' ⟨rfl, h1, h2, h3⟩
      exact ⟨rfl, .inl ⟨h1, ht⟩, Chg.grown h3 (fun k hk => by unfold obk; rw [if_neg hn]; exact hk)⟩
    · exact absurd h0 hn
end Go.Proofs.Ytdmcijodhokahaa
