/- Walks: cascades: how many marks; rows beside a change. -/
import Derived.Test.YtkekpkfhljankaaPe
set_option linter.unusedVariables false
set_option linter.unusedSimpArgs false
namespace Go.Proofs.Ytkekpkfhljankaa
open Go.RowKit

theorem own_chg {S : Nat → Prop} {W W' : World} {base sz : Nat} {e : TypeId} {v : Value} {n : Nat} {xs : List Value} (h : W.ownsRow base e sz v n xs) (hc : Chg S W W') (hs : ∀ g, v.ownBlock = some g → ¬ S g) : W'.ownsRow base e sz v n xs := by
  refine ⟨h.1, ?_⟩
  rcases h.2 with h0 | ⟨g, cap, cur, rfl, hb, hg, hr⟩
  · exact .inl h0
  · exact .inr ⟨g, cap, cur, rfl, hb, (hc.block g (Array.getElem?_eq_some_iff.1 hg).1 (hs g rfl)).trans hg, hr⟩
theorem totL_le : ∀ ls : List Lv, (∀ j, j < ls.length → (ls.getD j zLv).2.2.length ≤ 1048576) → totL ls ≤ (ls.length : Int) * 6291458
  | [], _ => by simp [totL]
  | x :: ls, h => by
    have h1 := totL_le ls (fun j hj => by have := h (j + 1) (by simpa using hj); simpa using this)
    have h2 := h 0 (by simp)
    simp only [List.getD_cons_zero] at h2
    simp only [totL, List.length_cons]
    omega
theorem totC_nonneg (c : Cs) : 0 ≤ totC c := by have := totL_nonneg c.2.2.2; unfold totC; omega
theorem totC_le {c : Cs} (h : CR c) : totC c ≤ 10000000000000 := by
  have h1 := totL_le c.2.2.2 (fun j hj => (h.rolls j hj).2)
  have h2 := h.rlen
  have h3 := h.llen
  unfold totC
  omega
end Go.Proofs.Ytkekpkfhljankaa
