/- Walks: PutBits of the model. -/
import Derived.Test.YtbgogpfhdfgjeaaWm
set_option linter.unusedVariables false
set_option linter.unusedSimpArgs false
namespace Go.Proofs.Ytbgogpfhdfgjeaa
open Go.RowKit

def BPost (R : ByteArray) (M : Int) (B : Bool) (w : World) (e : Ending) (w' : World) : Prop :=
  e = .returned (.tuple #[.agg #[.string R, .int .i64 M], .bool B]) ∧ Below w.heap.size w w'

/-- block g holds the struct's zero value, to be the result -/
def ResBlk (w : World) (g : Nat) : Prop := w.heap[g]? = some (.cells #[.string ⟨#[]⟩, .int .i64 0] 26 (0, 0))
theorem ResBlk.lt {w : World} {g : Nat} (h : ResBlk w g) : g < w.heap.size := by
  unfold ResBlk at h
  rcases Nat.lt_or_ge g w.heap.size with h1 | h1
  · exact h1
  · rw [Array.getElem?_eq_none h1] at h; cases h
theorem ResBlk.c0 {w : World} {g : Nat} (h : ResBlk w g) : w.cell? ⟨g, 0, none⟩ = some (.string ⟨#[]⟩) := by rw [cell_of_row w g 0 _ _ _ h]; rfl
theorem ResBlk.c1 {w : World} {g : Nat} (h : ResBlk w g) : w.cell? ⟨g, 1, none⟩ = some (.int .i64 0) := by rw [cell_of_row w g 1 _ _ _ h]; rfl
theorem ResBlk.f {w : World} {g : Nat} (h : ResBlk w g) (i : Nat) : w.frozen? ⟨g, i, none⟩ = false := frozen_of_row w g i _ _ h
theorem ResBlk.below {w w' : World} {g : Nat} (h : ResBlk w g) (hb : Below w.heap.size w w') : ResBlk w' g := (hb.block g h.lt).trans h
theorem ResBlk.grown {w w' : World} {g : Nat} {row : Option Nat} (h : ResBlk w g) (hb : w.grownBy w' row) (hr : some g ≠ row) : ResBlk w' g := (hb.block g h.lt hr).trans h

theorem start2 (w : World) (s : ByteArray) (N : Int) :
    ResBlk ((w.alloc (.cells #[.string s, .int .i64 N] 26)).alloc (.cells #[.string ⟨#[]⟩, .int .i64 0] 26)) (w.heap.size + 1) :=
  heap_alloc2_new w _ _
theorem below2 (w : World) (a b : Obj) : Below w.heap.size w ((w.alloc a).alloc b) := ((Below.refl _ _).alloc (Nat.le_refl _) _).alloc (by simp) _
theorem below1 (w : World) (a : Obj) : Below w.heap.size w (w.alloc a) := (Below.refl _ _).alloc (Nat.le_refl _) _

def putB (s : ByteArray) (N v k : Int) : Bool := okB s N && (fitsB v k && decide (N + k ≤ 20000))
def putL (s : ByteArray) (N v k : Int) : List Bool := BM.listOf s.data.toList N.toNat ++ BM.digits (u64of v) k.toNat
def putS (s : ByteArray) (N v k : Int) : ByteArray := if putB s N v k then ⟨(BM.pack (putL s N v k)).toArray⟩ else ⟨#[]⟩
def putN (s : ByteArray) (N v k : Int) : Int := if putB s N v k then N + k else 0
theorem putS_bad {s : ByteArray} {N v k : Int} (h : putB s N v k = false) : putS s N v k = ⟨#[]⟩ ∧ putN s N v k = 0 := by
  unfold putS putN; rw [h]; exact ⟨rfl, rfl⟩



theorem start2b (w : World) (s : ByteArray) (N : Int) (o : Obj) :
    ((w.alloc (.cells #[.string s, .int .i64 N] 26)).alloc o).cell? ⟨w.heap.size, 0, none⟩ = some (.string s) ∧
    ((w.alloc (.cells #[.string s, .int .i64 N] 26)).alloc o).cell? ⟨w.heap.size, 1, none⟩ = some (.int .i64 N) ∧
    w.heap.size < ((w.alloc (.cells #[.string s, .int .i64 N] 26)).alloc o).heap.size := by
  refine ⟨?_, ?_, by simp; omega⟩
  · go_simp
  · go_simp


/-- a row of the call's own that is not nil -/
theorem own_form {w : World} {base : Nat} {e : TypeId} {v : Value} {n : Nat} {xs : List Value} (h : w.ownsRow base e 1 v n xs) (hn : v ≠ .slice none 0 0) :
    ∃ g cap, v = .slice (some ⟨g, 0, none⟩) n cap ∧ base ≤ g ∧ g < w.heap.size ∧ ∀ j u, xs[j]? = some u → w.cell? ((⟨g, 0, none⟩ : Addr).add j) = some u := by
  rcases h.2 with ⟨hv, _⟩ | ⟨g, cap, cur, hv, hb, hg, _⟩
  · exact absurd hv hn
  · refine ⟨g, cap, hv, hb, (Array.getElem?_eq_some_iff.1 hg).1, ?_⟩
    subst hv
    exact h.cells rfl

theorem bitInts_append (l m : List Bool) : bitInts l ++ bitInts m = bitInts (l ++ m) := by simp [bitInts]
theorem bitInts_one (l : List Bool) : ∀ u ∈ bitInts l, u.oneCell' = true := by
  intro u hu
  simp only [bitInts, List.mem_map] at hu
  obtain ⟨b, _, rfl⟩ := hu
  rfl


end Go.Proofs.Ytbgogpfhdfgjeaa
