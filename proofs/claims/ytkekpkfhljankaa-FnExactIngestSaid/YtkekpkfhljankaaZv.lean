/- Walks: cascades: the program's add, level by level, in whatever order the levels come. -/
import Derived.Test.YtkekpkfhljankaaZo
import Derived.Test.YtkekpkfhljankaaZl
import Derived.Test.YtkekpkfhljankaaZk
import Derived.OrdersHeld
import Derived.Stop.RegionWithIn
set_option linter.unusedVariables false
set_option linter.unusedSimpArgs false
namespace Go.Proofs.Ytkekpkfhljankaa
open Go.RowKit

def addLvI (p : Int × Int) (x : Lv) : Lv := (x.1, x.2.1, addI x.1 x.2.2 (p.1, 1, p.2, p.2, p.2, p.2))
def foldA (p : Int × Int) (pre : List Nat) (ls : List Lv) : List Lv := pre.foldl (fun L x => L.set x (addLvI p (L.getD x zLv))) ls
theorem foldA_snoc (p : Int × Int) (pre : List Nat) (ls : List Lv) (x : Nat) : foldA p (pre ++ [x]) ls = (foldA p pre ls).set x (addLvI p ((foldA p pre ls).getD x zLv)) := by
  unfold foldA; rw [List.foldl_append]; rfl
theorem foldA_length (p : Int × Int) (ls : List Lv) : ∀ (n : Nat) (pre : List Nat), pre.length = n → (foldA p pre ls).length = ls.length := by
  intro n
  induction n with
  | zero => intro pre h; rw [List.eq_nil_of_length_eq_zero h]; rfl
  | succ n ih =>
    intro pre h
    have hne : pre ≠ [] := by rintro rfl; simp at h
    obtain ⟨q, x, rfl⟩ : ∃ q x, pre = q ++ [x] := ⟨_, _, (List.dropLast_concat_getLast hne).symm⟩
    rw [foldA_snoc, List.length_set]
    exact ih _ (by simpa using h)
theorem foldA_shape (p : Int × Int) (ls : List Lv) : ∀ (n : Nat) (pre : List Nat), pre.length = n → ∀ j, ((foldA p pre ls).getD j zLv).1 = (ls.getD j zLv).1 ∧ ((foldA p pre ls).getD j zLv).2.1 = (ls.getD j zLv).2.1 ∧ ((foldA p pre ls).getD j zLv).2.2.length ≤ (ls.getD j zLv).2.2.length + n := by
  intro n
  induction n with
  | zero => intro pre h j; rw [List.eq_nil_of_length_eq_zero h]; exact ⟨rfl, rfl, Nat.le_refl _⟩
  | succ n ih =>
    intro pre h j
    have hne : pre ≠ [] := by rintro rfl; simp at h
    obtain ⟨q, x, rfl⟩ : ∃ q x, pre = q ++ [x] := ⟨_, _, (List.dropLast_concat_getLast hne).symm⟩
    rw [foldA_snoc]
    have h1 := ih q (by simpa using h)
    by_cases hx : x < (foldA p q ls).length
    · rw [getD_set_lw _ _ _ _ hx]
      by_cases e : j = x
      · subst e
        rw [if_pos rfl]
        have h2 := addI_len ((foldA p q ls).getD j zLv).1 ((foldA p q ls).getD j zLv).2.2 (p.1, 1, p.2, p.2, p.2, p.2)
        have h3 := h1 j
        exact ⟨h3.1, h3.2.1, by show (addI _ _ _).length ≤ _; omega⟩
      · rw [if_neg e]
        have h3 := h1 j
        exact ⟨h3.1, h3.2.1, by omega⟩
    · rw [List.set_eq_of_length_le (by omega)]
      have h3 := h1 j
      exact ⟨h3.1, h3.2.1, by omega⟩
theorem foldA_range (p : Int × Int) (ls : List Lv) : ∀ n, n ≤ ls.length → ∀ j, (foldA p (List.range n) ls).getD j zLv = if j < n then addLvI p (ls.getD j zLv) else ls.getD j zLv := by
  intro n
  induction n with
  | zero => intro _ j; rw [if_neg (by omega)]; rfl
  | succ n ih =>
    intro hn j
    rw [List.range_succ, foldA_snoc, getD_set_lw _ _ _ _ (by rw [foldA_length p ls _ _ rfl]; omega)]
    have h1 := ih (by omega)
    by_cases e : j = n
    · subst e; rw [if_pos rfl, if_pos (by omega), h1 j, if_neg (by omega)]
    · rw [if_neg e, h1 j]
      by_cases e2 : j < n
      · rw [if_pos e2, if_pos (by omega)]
      · rw [if_neg e2, if_neg (by omega)]
theorem foldA_all (p : Int × Int) (ls : List Lv) : foldA p (List.range ls.length) ls = ls.map (addLvI p) := by
  refine lw_ext (by rw [foldA_length p ls _ _ rfl]; simp) (fun j hj => ?_)
  rw [foldA_length p ls _ _ rfl] at hj
  rw [foldA_range p ls _ (Nat.le_refl _) j, if_pos hj]
  rw [List.getD_eq_getElem?_getD, List.getD_eq_getElem?_getD, List.getElem?_map, List.getElem?_eq_getElem hj]; rfl
theorem CO.mach {X Y : World} {row : Option Nat} {base : Nat} {c : Cs} {rv lv : Value} {es : List LvC} (h : CO X base c rv lv es) (hg : X.grownBy Y row) (hr : ∀ r, row = some r → ∃ o : Obj, X.heap[r]? = some o ∧ o.isCells = false) : CO Y base c rv lv es :=
  h.at_ (fun g hgg => hg.block g (h.lt hgg).2 (fun e => by
    obtain ⟨o, ho, hc⟩ := h.isCells hgg
    obtain ⟨o', ho', hc'⟩ := hr g e.symm
    rw [ho] at ho'
    cases ho'
    rw [hc] at hc'
    cases hc'))
end Go.Proofs.Ytkekpkfhljankaa

/- Walks: a region that draws its order, in a round of a range over a function: walked under one condition on the world. -/
set_option linter.unusedVariables false
set_option linter.unusedSimpArgs false
namespace Go.Proofs.Ytkekpkfhljankaa
open Go.RowKit Go.Shelf

def noDefer (ops : Array Oper) : Bool := ops.toList.all fun o => match o.op with
  | .defer _ => false
  | _ => true
theorem noDefer_at {ops : Array Oper} (h : noDefer ops = true) {i : Nat} {o : Oper} (hi : ops[i]? = some o) : ∀ c, o.op ≠ .defer c := by
  intro c e
  obtain ⟨hlt, rfl⟩ := Array.getElem?_eq_some_iff.1 hi
  have h1 := List.all_eq_true.1 h ops[i] (by simp)
  rw [e] at h1
  cases h1
theorem rows_round {P : Program} {l n : Nat} {row : String} {args : Array Value} {w : World} {R : Value → World → Prop} (h : Rows P row args w R) : RowsIn (Fence.wide.inRound l) n P row args w R := by
  intro c cs _
  obtain ⟨v, w', r, s⟩ := h c cs
  exact ⟨v, w', r, stepsIn_wide.2 s⟩
theorem oper_round {P : Program} {l n : Nat} {o : Oper} {a : Act} {w : World} {K : Act → World → Prop} {Q : Exit → Act → World → Prop} (hnd : ∀ c, o.op ≠ .defer c) (h : o.wp P a w K Q) : o.wpIn (Fence.wide.inRound l) n P a w K Q := by
  unfold Oper.wpIn
  refine ⟨fun f _ => trivial, ?_⟩
  rw [Fence.inRound_round, Oper.semAt_some l _ _ hnd]
  unfold Oper.wp at h
  generalize (execOp a.eval o).run P w = r at h ⊢
  cases r with
  | ok x w' =>
    cases x with
    | value v => exact h
    | skip => exact h
    | defer d => exact h
    | enter f args => exact ⟨fun hd => by simp [Fence.wide] at hd, CallsIn.inRound l (callsIn_wide.2 h)⟩
    | row row args => exact ⟨fun hd => by simp [Fence.wide] at hd, rows_round h⟩
    | _ => exact False.elim h
  | halt x w' => cases x <;> exact h
theorem wpAnyIn_of_held {P : Program} {md : Region.Mode} {ops : Array Oper} {Q : Exit → Act → World → Prop} {S : World → Prop} {l n : Nat} (hd : noDefer ops = true) (hN : ¬ LetsOut Q) :
    ∀ (fuel : Nat) (listed : Array Bool) (a : Act) (w : World), wpAnyH P md ops Q S fuel listed a w → wpAnyIn (Fence.wide.inRound l) n P md ops Q fuel listed a w := by
  intro fuel
  induction fuel with
  | zero => intro listed a w h; exact h
  | succ fuel ih =>
    intro listed a w h
    refine ⟨h.1, fun i hi => ?_⟩
    have h2 := h.2 i hi
    unfold wpOp at h2
    unfold wpOpIn
    cases ho : ops[i]? with
    | none =>
      rw [ho] at h2
      exact ih _ _ _ h2.2
    | some o =>
      rw [ho] at h2
      simp only at h2 ⊢
      split
      · rename_i hw
        rw [if_pos hw] at h2
        rcases h2 with h2 | h2
        · exact Oper.wpIn_mono (fun a' w' h' => ih _ a' w' h'.2) (oper_round (noDefer_at hd ho) h2)
        · exact absurd h2.2 hN
      · rename_i hw
        rw [if_neg hw] at h2
        exact ⟨fun f _ => trivial, ih _ _ _ h2.2⟩
/-- a region that draws, in a round: one condition on the world, as 'wpAnyH' has it -/
theorem wpIn_region_held_round {P : Program} {id : Nat} {ops : Array Oper} {Q : Exit → Act → World → Prop} {S : World → Prop} {l n : Nat} {a : Act} {w : World} (hd : noDefer ops = true) (hm : P.follows .mixedOrders = true) (hN : ¬ LetsOut Q) (hS : S w.drew)
    (h : S w.drew → wpAnyH P .any ops Q S ops.size (Array.replicate ops.size false) a w.drew) : (Code.region id ops true).wpIn (Fence.wide.inRound l) n P Q a w :=
  wpIn_region_any hm (wpAnyIn_of_held hd hN _ _ _ _ (h hS))
theorem letsOut_then {R : Act → World → Prop} : ¬ LetsOut (Exit.then R (fun _ _ _ => False)) := by
  intro h
  first | exact h | exact h default default | simp [LetsOut, Exit.then] at h
end Go.Proofs.Ytkekpkfhljankaa
