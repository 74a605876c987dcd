/- Walks: drawn points. -/
import Derived.Test.YtcjpedolmnahfaaYf
import Derived.Test.YtcjpedolmnahfaaRc
set_option linter.unusedVariables false
set_option linter.unusedSimpArgs false
namespace Go.Proofs.Ytcjpedolmnahfaa
open Go.RowKit

theorem p_base {w : World} {base base' sz : Nat} {e : TypeId} {v : Value} {n : Nat} {xs : List Value} (h : w.ownsRow base e sz v n xs) (hb : base' ≤ base) : w.ownsRow base' e sz v n xs :=
  ⟨h.1, h.2.imp id fun ⟨g, cap, cur, a, b, c⟩ => ⟨g, cap, cur, a, Nat.le_trans hb b, c⟩⟩
/-- the drawn points' row, the reader's block, and nothing else changed -/
structure TDP (w : World) (B g : Nat) (u : Value) (L : List (Int × Int)) (wr : World) : Prop where
  own : wr.ownsRow w.heap.size 43 2 u L.length (prs L)
  rd : Rd wr B g
  gr : w.grownBy wr (some g)
theorem TDP.read {w wr w2 : World} {B g : Nat} {u : Value} {L : List (Int × Int)} (p : TDP w B g u L wr) (hgl : g < w.heap.size) (hrd : Rd w2 B g) (hg2 : wr.grownBy w2 (some g)) : TDP w B g u L w2 :=
  ⟨p.own.kept hg2 (by
    by_cases hx : u.ownBlock = none
    · exact .inl hx
    · right; intro he; have := (p.own.lt g he).1; omega), hrd, grown_trans' p.gr hg2⟩
theorem TDP.app {w wr w1 : World} {B g : Nat} {u v' : Value} {L : List (Int × Int)} {x y : Int} {o : Obj} (p : TDP w B g u L wr) (hgl : g < w.heap.size)
    (hown : w1.ownsRow w.heap.size 43 2 v' (L.length + 1) (prs L ++ [.int .i64 x, .int .i64 y])) (hgrow : (wr.alloc o).grownBy w1 u.ownBlock) : TDP w B g v' (L ++ [(x, y)]) w1 := by
  have hrow : ∀ k, u.ownBlock = some k → w.heap.size ≤ k := fun k hk => (p.own.lt k hk).1
  have hz := p.gr.size
  have hB : B ≤ g := (by obtain ⟨A, n, c, q, h⟩ := p.rd; exact h.2.2.2.2.1)
  refine ⟨?_, (Rd.alloc p.rd _).grown hgrow (fun k hk => by have := hrow k hk; omega), hgrow.os.trans p.gr.os, hgrow.tape.trans p.gr.tape, hgrow.output.trans p.gr.output, by have := hgrow.size; simp at this; omega, fun i hi hne => ?_⟩
  · rw [prs_append, List.length_append]; exact hown
  · rw [hgrow.block i (by simp; omega) (by intro he; have := hrow i he.symm; omega), Below.heap_alloc _ _ _ (by omega)]
    exact p.gr.block i hi hne
theorem prs_set1 (L : List (Int × Int)) (h : 0 < L.length) (d : Int) : (prs L).set 1 (.int .i64 d) = prs (L.set 0 ((L.getD 0 (0, 0)).1, d)) := by
  cases L with
  | nil => simp at h
  | cons p L => rfl
theorem TDP.set {w wr : World} {B g b c : Nat} {L : List (Int × Int)} {d : Int} (p : TDP w B g (.slice (some ⟨b, 0, none⟩) L.length c) L wr) (hgl : g < w.heap.size) (h : 0 < L.length) : TDP w B g (.slice (some ⟨b, 0, none⟩) L.length c) (L.set 0 ((L.getD 0 (0, 0)).1, d)) (wr.setCell ⟨b, 1, none⟩ (.int .i64 d)) := by
  have hlt := (p.own.lt b rfl).1
  have hB : B ≤ g := (by obtain ⟨A, n, c, q, h⟩ := p.rd; exact h.2.2.2.2.1)
  have hs := p.own.stored 1 (.int .i64 d)
  refine ⟨?_, p.rd.setCell (a := ⟨b, 1, none⟩) (show B ≤ b by omega) (show g ≠ b by omega) _, ?_⟩
  · have h1 := hs.1
    rw [prs_set1 L h d] at h1
    rw [List.length_set]; exact h1
  · exact ⟨hs.2.os.trans p.gr.os, hs.2.tape.trans p.gr.tape, hs.2.output.trans p.gr.output, Nat.le_trans p.gr.size hs.2.size, fun i hi hne => (hs.2.block i (by have := p.gr.size; omega) (by simp [Value.ownBlock]; omega)).trans (p.gr.block i hi hne)⟩
def PtsPost (most : Nat) (B g : Nat) (w : World) (e : Ending) (w' : World) : Prop :=
  ∃ v xs, e = .returned v ∧ TDP w B g v xs w' ∧ xs.length ≤ most ∧ ∀ p ∈ xs, Rng p.1 ∧ Rng p.2

end Go.Proofs.Ytcjpedolmnahfaa
