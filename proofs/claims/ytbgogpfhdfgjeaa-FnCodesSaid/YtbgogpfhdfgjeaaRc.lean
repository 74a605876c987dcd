/- Walks: the reader: num; l1Open. -/
import Derived.Test.YtbgogpfhdfgjeaaRb
set_option linter.unusedVariables false
set_option linter.unusedSimpArgs false
namespace Go.Proofs.Ytbgogpfhdfgjeaa
open Go.RowKit

theorem u64_to_i64 (x : Int) : IntKind.i64.wrap x = wrap64 x := by rw [IntKind.wrap_i64]; unfold wrap64; omega


/-- the drawn code: a slice of bytes that came in -/
def CodeAt (w : World) (A : Option Addr) (n c : Nat) : Prop :=
  n ≤ 1048576 ∧ n ≤ c ∧ (n = 0 ∨ ∃ b off, A = some ⟨b, off, none⟩ ∧ b < w.heap.size ∧ ∀ j, j < n → ∃ x : Nat, x < 256 ∧ w.cell? ⟨b, off + j, none⟩ = some (.int .u8 (x : Int)))
theorem CodeAt.below {w w' : World} {A : Option Addr} {n c : Nat} (h : CodeAt w A n c) (hb : Below w.heap.size w w') : CodeAt w' A n c := by
  refine ⟨h.1, h.2.1, ?_⟩
  rcases h.2.2 with h0 | ⟨b, off, hA, hlt, hx⟩
  · exact .inl h0
  · refine .inr ⟨b, off, hA, Nat.lt_of_lt_of_le hlt hb.size, fun j hj => ?_⟩
    obtain ⟨x, h1, h2⟩ := hx j hj
    exact ⟨x, h1, (hb.cell (p := ⟨b, off + j, none⟩) hlt).trans h2⟩

set_option maxRecDepth 100000 in
set_option maxHeartbeats 400000 in
theorem open_any (A : Option Addr) (n c : Nat) (w : World) (h : CodeAt w A n c) :
    Calls Try.prog 42 #[.slice A n c] w fun e w' => e = .returned (.pointer (some ⟨w.heap.size, 0, none⟩)) ∧ Rd w' w.heap.size w.heap.size ∧ Below w.heap.size w w' := by
  have H := Lib.hid h
  clear h
  go_enter Try.func42, Try.ntmps42
  go_wp2_with fail
  go_ret
  refine ⟨rfl, ⟨A, n, c, 0, heap_alloc_new w _, Nat.zero_le _, H.out.1, H.out.2.1, Nat.le_refl _, ?_⟩, (Below.refl _ _).alloc (Nat.le_refl _) _⟩
  rcases H.out.2.2 with h0 | ⟨b, off, hA, hlt, hx⟩
  · exact .inl h0
  · refine .inr ⟨b, off, hA, hlt, fun j hj => ?_⟩
    obtain ⟨x, h1, h2⟩ := hx j hj
    exact ⟨x, h1, (World.cell?_alloc_lt _ _ _ hlt).trans h2⟩

end Go.Proofs.Ytbgogpfhdfgjeaa
