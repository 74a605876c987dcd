/- Walks: GetBits of the model and of the program. -/
import Derived.Test.YtanoohfhifhhaaaDoorWi
import Derived.Test.YtanoohfhifhhaaaDoorWj
import Derived.Test.YtanoohfhifhhaaaDoorWk
set_option linter.unusedVariables false
set_option linter.unusedSimpArgs false
namespace Go.Proofs.YtanoohfhifhhaaaDoor
open Go.RowKit

theorem kept2' {w1 w2 : World} (h : Below w1.heap.size w1 w2) {g : Nat} (hg : g < w1.heap.size) {s : ByteArray} {n : Int}
    (h0 : w1.cell? ⟨g, 0, none⟩ = some (.string s)) (h1 : w1.cell? ⟨g, 1, none⟩ = some (.int .i64 n)) :
    w2.cell? ⟨g, 0, none⟩ = some (.string s) ∧ w2.cell? ⟨g, 1, none⟩ = some (.int .i64 n) ∧ g < w2.heap.size :=
  ⟨(h.cell hg).trans h0, (h.cell hg).trans h1, Nat.lt_of_lt_of_le hg h.size⟩

theorem okB_facts {s : ByteArray} {n : Int} (h : okB s n = true) : 0 ≤ n ∧ n ≤ 20000 ∧ (s.size : Int) = (n + 7) / 8 ∧ BM.pack (BM.listOf s.data.toList n.toNat) = s.data.toList := by
  unfold okB at h; exact of_decide_eq_true h
theorem ok_words {s : ByteArray} {N : Nat} (h : okB s N = true) {ws : List Nat} (hw : BM.WordsF ws (fun j => decide (j < 8 * s.size) && BM.bitAt s.data.toList j)) :
    BM.Words ws (BM.listOf s.data.toList N) := by
  obtain ⟨h0, h1, h2, h3⟩ := okB_facts h
  rw [Int.toNat_natCast] at h3
  refine BM.wordsF_words (BM.wordsF_congr hw fun j => ?_) (by rw [BM.listOf_length]; omega)
  rw [BM.listOf_getD]
  by_cases hj : j < N
  · rw [if_pos hj, decide_eq_true (by omega)]; simp
  · rw [if_neg hj, BM.tail_of_pack h3 j (by omega)]; simp
theorem getW_take {s : ByteArray} {N : Nat} (h : okB s N = true) {ws : List Nat} (hw : BM.Words ws (BM.listOf s.data.toList N)) (a n : Nat) (hn : n ≤ 64) (ha : a + n ≤ N) :
    BM.getW ws a n = takeN s a n := by
  rw [BM.words_get hw a n hn]
  unfold takeN
  apply BM.ofBits_congr
  intro i hi
  rw [BM.listOf_getD, if_pos (by omega)]

def getB (s : ByteArray) (N a n : Int) : Bool := okB s N && decide (0 ≤ n ∧ n ≤ 64 ∧ 0 ≤ a ∧ a ≤ N - n)
def GetPost (s : ByteArray) (N a n : Int) (w : World) (e : Ending) (w' : World) : Prop :=
  e = .returned (.tuple #[.int .i64 (if getB s N a n then wrap64 (takeN s a.toNat n.toNat : Int) else 0), .bool (getB s N a n)]) ∧ Below w.heap.size w w'





end Go.Proofs.YtanoohfhifhhaaaDoor

/- Walks: hasBits and GetBits of the program. -/
set_option linter.unusedVariables false
set_option linter.unusedSimpArgs false
namespace Go.Proofs.YtanoohfhifhhaaaDoor
open Go.RowKit

def hasB (s : ByteArray) (N a n : Int) : Bool := okB s N && decide (0 ≤ n ∧ 0 ≤ a ∧ a ≤ N - n)

set_option maxRecDepth 100000 in
set_option maxHeartbeats 1000000 in
theorem hasBits_bad (s : ByteArray) (N a n : Int) (w : World) (hs : s.size ≤ maxLen) (h : okB s N = false) :
    Calls Tryd.prog 88 #[.agg #[.string s, .int .i64 N], .int .i64 a, .int .i64 n] w (RetBelow (.bool (hasB s N a n)) w) := by
  have hg : hasB s N a n = false := by simp [hasB, h]
  have Hg := Lib.hid hg
  have hok := fun W => implBitsOk_any s N W hs
  rw [h] at hok
  have Hok := Lib.hid hok
  clear hok hg h
  go_enter Tryd.func88, Tryd.ntmps88
  go_wp2_with fail
  refine (Hok.out _).mono ?_
  rintro e w1 ⟨rfl, hb1⟩
  have hf := ((Below.refl w.heap.size w).alloc (Nat.le_refl _) (.cells #[.string s, .int .i64 N] 77)).trans (hb1.mono (by simp))
  clear hb1
  go_wp2_with fail
  go_ret
  exact ⟨by rw [Hg.out]; rfl, hf⟩

set_option maxRecDepth 100000 in
set_option maxHeartbeats 1000000 in
theorem hasBits_neg (s : ByteArray) (N a n : Int) (w : World) (hs : s.size ≤ maxLen) (h : okB s N = true) (hn : n < 0 ∨ a < 0) :
    Calls Tryd.prog 88 #[.agg #[.string s, .int .i64 N], .int .i64 a, .int .i64 n] w (RetBelow (.bool (hasB s N a n)) w) := by
  have hg : hasB s N a n = false := by unfold hasB; rw [h, Bool.true_and, decide_eq_false_iff_not]; omega
  have Hg := Lib.hid hg
  have hok := fun W => implBitsOk_any s N W hs
  rw [h] at hok
  have Hok := Lib.hid hok
  clear hok hg h
  by_cases hn0 : n < 0
  · have h1 : decide (0 ≤ n) = false := by simp; omega
    clear hn
    go_enter Tryd.func88, Tryd.ntmps88
    go_wp2_with fail
    refine (Hok.out _).mono ?_
    rintro e w1 ⟨rfl, hb1⟩
    have hf := ((Below.refl w.heap.size w).alloc (Nat.le_refl _) (.cells #[.string s, .int .i64 N] 77)).trans (hb1.mono (by simp))
    clear hb1
    go_wp2_with fail
    go_ret
    exact ⟨by rw [Hg.out]; rfl, hf⟩
  · have ha0 : a < 0 := by omega
    have hn1 : 0 ≤ n := by omega
    have h1 : decide (0 ≤ a) = false := by simp; omega
    clear hn
    go_enter Tryd.func88, Tryd.ntmps88
    go_wp2_with fail
    refine (Hok.out _).mono ?_
    rintro e w1 ⟨rfl, hb1⟩
    have hf := ((Below.refl w.heap.size w).alloc (Nat.le_refl _) (.cells #[.string s, .int .i64 N] 77)).trans (hb1.mono (by simp))
    clear hb1
    go_wp2_with fail
    go_ret
    exact ⟨by rw [Hg.out]; rfl, hf⟩

set_option maxRecDepth 100000 in
set_option maxHeartbeats 1000000 in
theorem hasBits_pos (s : ByteArray) (N a n : Int) (w : World) (hs : s.size ≤ maxLen) (h : okB s N = true) (hn : 0 ≤ n) (ha : 0 ≤ a) (hn2 : n ≤ 9223372036854775807) :
    Calls Tryd.prog 88 #[.agg #[.string s, .int .i64 N], .int .i64 a, .int .i64 n] w (RetBelow (.bool (hasB s N a n)) w) := by
  have hg : hasB s N a n = decide (a ≤ N - n) := by
    unfold hasB; rw [h, Bool.true_and, Bool.eq_iff_iff, decide_eq_true_iff, decide_eq_true_iff]; omega
  have Hg := Lib.hid hg
  have hok := fun W => implBitsOk_any s N W hs
  obtain ⟨hN0, hN1, _, _⟩ := okB_facts h
  rw [h] at hok
  have Hok := Lib.hid hok
  clear hok hg h
  go_enter Tryd.func88, Tryd.ntmps88
  go_wp2_with fail
  refine (Hok.out _).mono ?_
  rintro e w1 ⟨rfl, hb1⟩
  obtain ⟨x0, x1, hg⟩ := kept2' hb1 (g := w.heap.size) (s := s) (n := N) (by simp) (by go_simp) (by go_simp)
  have hf := ((Below.refl w.heap.size w).alloc (Nat.le_refl _) (.cells #[.string s, .int .i64 N] 77)).trans (hb1.mono (by simp))
  clear hb1
  go_wp2_with fail
  go_ret
  exact ⟨by rw [Hg.out]; rfl, hf⟩

theorem hasBits_any (s : ByteArray) (N a n : Int) (w : World) (hs : s.size ≤ maxLen) (hn2 : n ≤ 9223372036854775807) :
    Calls Tryd.prog 88 #[.agg #[.string s, .int .i64 N], .int .i64 a, .int .i64 n] w (RetBelow (.bool (hasB s N a n)) w) := by
  cases h : okB s N with
  | false => exact hasBits_bad s N a n w hs h
  | true =>
    by_cases hn : n < 0 ∨ a < 0
    · exact hasBits_neg s N a n w hs h hn
    · exact hasBits_pos s N a n w hs h (by omega) (by omega) hn2




end Go.Proofs.YtanoohfhifhhaaaDoor

/- Walks: PutBits of the model. -/
set_option linter.unusedVariables false
set_option linter.unusedSimpArgs false
namespace Go.Proofs.YtanoohfhifhhaaaDoor
open Go.RowKit

def BPost (R : ByteArray) (M : Int) (B : Bool) (w : World) (e : Ending) (w' : World) : Prop :=
  e = .returned (.tuple #[.agg #[.string R, .int .i64 M], .bool B]) ∧ Below w.heap.size w w'

/-- block g holds the struct's zero value, to be the result -/
def ResBlk (w : World) (g : Nat) : Prop := w.heap[g]? = some (.cells #[.string ⟨#[]⟩, .int .i64 0] 77 (0, 0))
theorem ResBlk.lt {w : World} {g : Nat} (h : ResBlk w g) : g < w.heap.size := by
  unfold ResBlk at h
  rcases Nat.lt_or_ge g w.heap.size with h1 | h1
  · exact h1
  · rw [Array.getElem?_eq_none h1] at h; cases h
theorem ResBlk.c0 {w : World} {g : Nat} (h : ResBlk w g) : w.cell? ⟨g, 0, none⟩ = some (.string ⟨#[]⟩) := by rw [cell_of_row w g 0 _ _ _ h]; rfl
theorem ResBlk.c1 {w : World} {g : Nat} (h : ResBlk w g) : w.cell? ⟨g, 1, none⟩ = some (.int .i64 0) := by rw [cell_of_row w g 1 _ _ _ h]; rfl
theorem ResBlk.f {w : World} {g : Nat} (h : ResBlk w g) (i : Nat) : w.frozen? ⟨g, i, none⟩ = false := frozen_of_row w g i _ _ h
theorem ResBlk.below {w w' : World} {g : Nat} (h : ResBlk w g) (hb : Below w.heap.size w w') : ResBlk w' g := (hb.block g h.lt).trans h
theorem ResBlk.grown {w w' : World} {g : Nat} {row : Option Nat} (h : ResBlk w g) (hb : w.grownBy w' row) (hr : some g ≠ row) : ResBlk w' g := (hb.block g h.lt hr).trans h

theorem start2 (w : World) (s : ByteArray) (N : Int) :
    ResBlk ((w.alloc (.cells #[.string s, .int .i64 N] 77)).alloc (.cells #[.string ⟨#[]⟩, .int .i64 0] 77)) (w.heap.size + 1) :=
  heap_alloc2_new w _ _
theorem below2 (w : World) (a b : Obj) : Below w.heap.size w ((w.alloc a).alloc b) := ((Below.refl _ _).alloc (Nat.le_refl _) _).alloc (by simp) _
theorem below1 (w : World) (a : Obj) : Below w.heap.size w (w.alloc a) := (Below.refl _ _).alloc (Nat.le_refl _) _

def putB (s : ByteArray) (N v k : Int) : Bool := okB s N && (fitsB v k && decide (N + k ≤ 20000))
def putL (s : ByteArray) (N v k : Int) : List Bool := BM.listOf s.data.toList N.toNat ++ BM.digits (u64of v) k.toNat
def putS (s : ByteArray) (N v k : Int) : ByteArray := if putB s N v k then ⟨(BM.pack (putL s N v k)).toArray⟩ else ⟨#[]⟩
def putN (s : ByteArray) (N v k : Int) : Int := if putB s N v k then N + k else 0
theorem putS_bad {s : ByteArray} {N v k : Int} (h : putB s N v k = false) : putS s N v k = ⟨#[]⟩ ∧ putN s N v k = 0 := by
  unfold putS putN; rw [h]; exact ⟨rfl, rfl⟩



theorem start2b (w : World) (s : ByteArray) (N : Int) (o : Obj) :
    ((w.alloc (.cells #[.string s, .int .i64 N] 77)).alloc o).cell? ⟨w.heap.size, 0, none⟩ = some (.string s) ∧
    ((w.alloc (.cells #[.string s, .int .i64 N] 77)).alloc o).cell? ⟨w.heap.size, 1, none⟩ = some (.int .i64 N) ∧
    w.heap.size < ((w.alloc (.cells #[.string s, .int .i64 N] 77)).alloc o).heap.size := by
  refine ⟨?_, ?_, by simp; omega⟩
  · go_simp
  · go_simp


/-- a row of the call's own that is not nil -/
theorem own_form {w : World} {base : Nat} {e : TypeId} {v : Value} {n : Nat} {xs : List Value} (h : w.ownsRow base e 1 v n xs) (hn : v ≠ .slice none 0 0) :
    ∃ g cap, v = .slice (some ⟨g, 0, none⟩) n cap ∧ base ≤ g ∧ g < w.heap.size ∧ ∀ j u, xs[j]? = some u → w.cell? ((⟨g, 0, none⟩ : Addr).add j) = some u := by
  rcases h.2 with ⟨hv, _⟩ | ⟨g, cap, cur, hv, hb, hg, _⟩
  · exact absurd hv hn
  · refine ⟨g, cap, hv, hb, (Array.getElem?_eq_some_iff.1 hg).1, ?_⟩
    subst hv
    exact h.cells rfl

theorem bitInts_append (l m : List Bool) : bitInts l ++ bitInts m = bitInts (l ++ m) := by simp [bitInts]
theorem bitInts_one (l : List Bool) : ∀ u ∈ bitInts l, u.oneCell' = true := by
  intro u hu
  simp only [bitInts, List.mem_map] at hu
  obtain ⟨b, _, rfl⟩ := hu
  rfl


end Go.Proofs.YtanoohfhifhhaaaDoor
