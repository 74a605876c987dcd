/- Walks: GetBits of the model and of the program. -/
import Derived.Test.YtbgogpfhdfgjeaaWi
import Derived.Test.YtbgogpfhdfgjeaaWj
import Derived.Test.YtbgogpfhdfgjeaaWk
set_option linter.unusedVariables false
set_option linter.unusedSimpArgs false
namespace Go.Proofs.Ytbgogpfhdfgjeaa
open Go.RowKit

theorem kept2' {w1 w2 : World} (h : Below w1.heap.size w1 w2) {g : Nat} (hg : g < w1.heap.size) {s : ByteArray} {n : Int}
    (h0 : w1.cell? ⟨g, 0, none⟩ = some (.string s)) (h1 : w1.cell? ⟨g, 1, none⟩ = some (.int .i64 n)) :
    w2.cell? ⟨g, 0, none⟩ = some (.string s) ∧ w2.cell? ⟨g, 1, none⟩ = some (.int .i64 n) ∧ g < w2.heap.size :=
  ⟨(h.cell hg).trans h0, (h.cell hg).trans h1, Nat.lt_of_lt_of_le hg h.size⟩

theorem okB_facts {s : ByteArray} {n : Int} (h : okB s n = true) : 0 ≤ n ∧ n ≤ 20000 ∧ (s.size : Int) = (n + 7) / 8 ∧ BM.pack (BM.listOf s.data.toList n.toNat) = s.data.toList := by
  unfold okB at h; exact of_decide_eq_true h
theorem ok_words {s : ByteArray} {N : Nat} (h : okB s N = true) {ws : List Nat} (hw : BM.WordsF ws (fun j => decide (j < 8 * s.size) && BM.bitAt s.data.toList j)) :
    BM.Words ws (BM.listOf s.data.toList N) := by
  obtain ⟨h0, h1, h2, h3⟩ := okB_facts h
  rw [Int.toNat_natCast] at h3
  refine BM.wordsF_words (BM.wordsF_congr hw fun j => ?_) (by rw [BM.listOf_length]; omega)
  rw [BM.listOf_getD]
  by_cases hj : j < N
  · rw [if_pos hj, decide_eq_true (by omega)]; simp
  · rw [if_neg hj, BM.tail_of_pack h3 j (by omega)]; simp
theorem getW_take {s : ByteArray} {N : Nat} (h : okB s N = true) {ws : List Nat} (hw : BM.Words ws (BM.listOf s.data.toList N)) (a n : Nat) (hn : n ≤ 64) (ha : a + n ≤ N) :
    BM.getW ws a n = takeN s a n := by
  rw [BM.words_get hw a n hn]
  unfold takeN
  apply BM.ofBits_congr
  intro i hi
  rw [BM.listOf_getD, if_pos (by omega)]

def getB (s : ByteArray) (N a n : Int) : Bool := okB s N && decide (0 ≤ n ∧ n ≤ 64 ∧ 0 ≤ a ∧ a ≤ N - n)
def GetPost (s : ByteArray) (N a n : Int) (w : World) (e : Ending) (w' : World) : Prop :=
  e = .returned (.tuple #[.int .i64 (if getB s N a n then wrap64 (takeN s a.toNat n.toNat : Int) else 0), .bool (getB s N a n)]) ∧ Below w.heap.size w w'





end Go.Proofs.Ytbgogpfhdfgjeaa
