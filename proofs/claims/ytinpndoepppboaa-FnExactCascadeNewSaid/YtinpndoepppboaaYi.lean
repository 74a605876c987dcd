/- Walks: rolls, added one by one: the model's walks. -/
import Derived.Test.YtinpndoepppboaaYh
set_option linter.unusedVariables false
set_option linter.unusedSimpArgs false
namespace Go.Proofs.Ytinpndoepppboaa
open Go.RowKit

theorem addr_add (b off j : Nat) : (⟨b, off, none⟩ : Addr).add j = ⟨b, off + j, none⟩ := by unfold Addr.add; split <;> simp_all
theorem RS.last {w : World} {B b off : Nat} {xs : List R6} (h : RS w B ⟨b, off, none⟩ xs) (hp : 0 < xs.length) : w.cell? ⟨b, off + (xs.length - 1) * 6, none⟩ = some (.int .i64 (lastR xs).1) ∧ w.cell? ⟨b, off + (xs.length - 1) * 6 + 1, none⟩ = some (.int .i64 (lastR xs).2.1) ∧ w.cell? ⟨b, off + (xs.length - 1) * 6 + 2, none⟩ = some (.int .i64 (lastR xs).2.2.1) ∧ w.cell? ⟨b, off + (xs.length - 1) * 6 + 3, none⟩ = some (.int .i64 (lastR xs).2.2.2.1) ∧ w.cell? ⟨b, off + (xs.length - 1) * 6 + 4, none⟩ = some (.int .i64 (lastR xs).2.2.2.2.1) ∧ w.cell? ⟨b, off + (xs.length - 1) * 6 + 5, none⟩ = some (.int .i64 (lastR xs).2.2.2.2.2) := by
  have hj : xs.length - 1 < xs.length := by omega
  refine ⟨?_, ?_, ?_, ?_, ?_, ?_⟩
  · have := h.2.2 ((xs.length - 1) * 6) _ (rls_get0 xs _ hj)
    rw [addr_add] at this
    exact this
  · have := h.2.2 ((xs.length - 1) * 6 + 1) _ (rls_get1 xs _ hj)
    rw [addr_add, ← Nat.add_assoc] at this
    exact this
  · have := h.2.2 ((xs.length - 1) * 6 + 2) _ (rls_get2 xs _ hj)
    rw [addr_add, ← Nat.add_assoc] at this
    exact this
  · have := h.2.2 ((xs.length - 1) * 6 + 3) _ (rls_get3 xs _ hj)
    rw [addr_add, ← Nat.add_assoc] at this
    exact this
  · have := h.2.2 ((xs.length - 1) * 6 + 4) _ (rls_get4 xs _ hj)
    rw [addr_add, ← Nat.add_assoc] at this
    exact this
  · have := h.2.2 ((xs.length - 1) * 6 + 5) _ (rls_get5 xs _ hj)
    rw [addr_add, ← Nat.add_assoc] at this
    exact this
theorem made0 (W : World) {base : Nat} (hb : base ≤ W.heap.size) : (W.alloc (.cells #[] 99)).ownsRow base 99 6 (.slice (some ⟨W.heap.size, 0, none⟩) 0 0) 0 (rls []) :=
  World.ownsRow_made W (base := base) (e := 99) (size := 6) #[] 0 hb (by simp [maxLen]) rfl
theorem made1 (W : World) (o : Obj) {base : Nat} (hb : base ≤ (W.alloc o).heap.size) : ((W.alloc o).alloc (.cells #[] 99)).ownsRow base 99 6 (.slice (some ⟨W.heap.size + 1, 0, none⟩) 0 0) 0 (rls []) := by
  have h := made0 (W.alloc o) hb
  rw [World.size_alloc] at h
  exact h
theorem addS_app {xs : List R6} {x : R6} (h : xs.length = 0 ∨ ¬ (lastR xs).1 = x.1) : addS xs x = xs ++ [x] := by unfold addS; rw [if_pos h]
theorem addS_in {xs : List R6} {x : R6} (h : ¬ xs.length = 0) (h2 : (lastR xs).1 = x.1) : addS xs x = xs.set (xs.length - 1) (withR (lastR xs) x) := by
  unfold addS; rw [if_neg (fun e => e.elim h (fun e => e h2))]
/-- what l7Add gives -/
def AddPost (xs : List R6) (w : World) (e : Ending) (w' : World) : Prop :=
  ∃ v, e = .returned v ∧ w'.ownsRow w.heap.size 99 6 v xs.length (rls xs) ∧ Below w.heap.size w w'

end Go.Proofs.Ytinpndoepppboaa
