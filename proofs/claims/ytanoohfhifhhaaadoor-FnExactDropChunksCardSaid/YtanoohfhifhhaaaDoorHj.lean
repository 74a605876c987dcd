/- Walks: the program reads from bits: the deferred recover; where nothing is read. -/
import Derived.Test.YtanoohfhifhhaaaDoorHf
import Derived.Defers
import Derived.Recover
import Derived.Laws.Pointers
set_option linter.unusedVariables false
set_option linter.unusedSimpArgs false
namespace Go.Proofs.YtanoohfhifhhaaaDoor
open Go.RowKit


end Go.Proofs.YtanoohfhifhhaaaDoor

/- Laws: the reader's block, made and laid as a whole. -/
set_option linter.unusedVariables false
set_option linter.unusedSimpArgs false
namespace Go.Proofs.YtanoohfhifhhaaaDoor
open Go.RowKit

theorem fold_at (i : Nat) : ∀ (l : List Value) (k : Nat) (base : Array Value),
    ((l.zipIdx k).foldl (fun cs (p : Value × Nat) => cs.setIfInBounds (0 + p.2) p.1) base)[i]? = if k ≤ i ∧ i < k + l.length ∧ i < base.size then l[i - k]? else base[i]? := by
  intro l
  induction l with
  | nil => intro k base; simp; intro h1 h2; omega
  | cons a l ih =>
    intro k base
    rw [List.zipIdx_cons, List.foldl_cons, ih, Array.size_setIfInBounds, Array.getElem?_setIfInBounds]
    simp only [Nat.zero_add, List.length_cons]
    by_cases h1 : k + 1 ≤ i ∧ i < k + 1 + l.length ∧ i < base.size
    · rw [if_pos h1, if_pos (by omega), show i - k = (i - (k + 1)) + 1 by omega, List.getElem?_cons_succ]
    · rw [if_neg h1]
      by_cases h2 : k = i
      · subst h2
        by_cases h3 : k < base.size
        · simp [h3]
        · simp [h3]
      · rw [if_neg h2, if_neg (by omega)]
theorem rd_zero : (Tryd.prog.info? 116).map (fun i => (i.zero, i.size)) = some (some (.agg (rdCells zeroWs 0 0)), 315) := by kernel_rfl
theorem rd_size : (Tryd.prog.info? 116).map (·.size) = some 315 := by kernel_rfl
theorem rd_fill (ws : List Nat) (hl : ws.length = 313) (n a : Int) :
    Instr.fill ((#[(0, 314), (314, 1)] : Array (Nat × Nat))[·]?) (rdCells zeroWs 0 0) [(0, baVal ws n), (1, .int .i64 a)] = some (rdCells ws n a) := by
  have hs := rdCells_size (N := 0) (p := 0) zeroWs_len
  have hb : (baVal ws n).cells = baCells ws n := rfl
  have hbs := baCells_size ws n hl
  have h1 : ((baCells ws n).zipIdx.foldl (fun cs (p : Value × Nat) => cs.setIfInBounds (0 + p.2) p.1) (rdCells zeroWs 0 0)) = rdCells ws n 0 := by
    apply Array.ext_getElem?
    intro i
    rw [← Array.foldl_toList, Array.toList_zipIdx, fold_at]
    simp only [Nat.zero_le, true_and, Nat.zero_add, Nat.sub_zero, hs]
    by_cases hi : i < 314
    · rw [if_pos (by simp [hbs]; omega)]
      by_cases hi2 : i < 313
      · rw [Array.getElem?_toList, baCells_get _ _ _ (by omega), rdCells_get _ _ _ _ (by omega)]
      · have : i = 313 := by omega
        subst this
        rw [Array.getElem?_toList, baCells_last _ _ hl, rdCells_n _ _ _ hl]
    · rw [if_neg (by simp [hbs]; omega)]
      by_cases hi2 : i = 314
      · subst hi2
        rw [rdCells_at _ _ _ hl, rdCells_at _ _ _ zeroWs_len]
      · rw [Array.getElem?_eq_none (by rw [hs]; omega), Array.getElem?_eq_none (by rw [rdCells_size hl]; omega)]
  have hs2 := rdCells_size (N := n) (p := 0) hl
  simp only [Instr.fill, hb, hbs, hs]
  have h2 : (Array.foldl (fun cs (x : Value × Nat) => cs.setIfInBounds x.2 x.1) (rdCells zeroWs 0 0) (baCells ws n).zipIdx 0 (baCells ws n).size) = rdCells ws n 0 := by
    have h3 := h1
    simp only [Nat.zero_add, Array.size_zipIdx] at h3
    exact h3
  simp [h2, hs2, Value.cells, rdCells_set _ _ _ _ hl]
theorem rd_built (ws : List Nat) (hl : ws.length = 313) (n a : Int) : Tryd.prog.built 116 [(0, baVal ws n), (1, .int .i64 a)] = some (rdCells ws n a) := by
  obtain ⟨i, hi, hz⟩ := Option.map_eq_some_iff.1 rd_zero
  simp only [Prod.mk.injEq] at hz
  have hp : (match Tryd.prog.underlying 116 with | some (.struct fields) => fields.toList.mapM (fun f => (Tryd.prog.info? f.type).map fun i => (f.offset, i.size)) | _ => none) = some [(0, 314), (314, 1)] := by kernel_rfl
  unfold Program.built
  rw [hi]
  generalize hu : Tryd.prog.underlying 116 = u at hp
  match u, hp with
  | some (.struct fields), hp =>
    simp only at hp
    simp only [hz.1, hp]
    exact rd_fill ws hl n a
theorem run_build_rd (ws : List Nat) (hl : ws.length = 313) (n a : Int) (w : World) : (Instr.build 116 #[(0, baVal ws n), (1, .int .i64 a)]).run Tryd.prog w = .ok (.agg (rdCells ws n a)) w :=
  run_build w _ _ _ (rd_built ws hl n a)
theorem run_alloc_rd (w : World) : (Instr.alloc 116 true (.tuple #[])).run Tryd.prog w = .ok (.pointer (some ⟨w.heap.size, 0, none⟩)) (w.alloc (.cells (rdCells zeroWs 0 0) 116)) := by
  obtain ⟨i, hi, hz⟩ := Option.map_eq_some_iff.1 rd_zero
  simp only [Prod.mk.injEq] at hz
  simp [Instr.alloc, zeroValue, typeInfo, hi, hz.1, newVar, newRow, Value.cells]
theorem rdCells_one (ws : List Nat) (n a : Int) : (rdCells ws n a).all (·.oneCell') = true := by
  rw [Array.all_eq_true_iff_forall_mem]
  intro v hv
  simp only [rdCells, List.mem_toArray, List.mem_append, List.mem_map, List.mem_cons, List.mem_nil_iff, or_false] at hv
  rcases hv with ⟨x, _, rfl⟩ | rfl | rfl <;> rfl
theorem run_store_rd {w : World} {g : Nat} {old : Array Value} (hb : w.heap[g]? = some (.cells old 116 (0, 0))) (ho : old.size = 315) {ws : List Nat} {n a : Int} (hl : ws.length = 313) :
    (Instr.storeAt 116 (.pointer (some ⟨g, 0, none⟩)) (.agg (rdCells ws n a))).run Tryd.prog w = .ok () (w.setRow g (rdCells ws n a)) := by
  simp only [Instr.storeAt, Instr.sureAddr, Sem.run_bind, Sem.run_pure, Result.andThen_ok]
  exact run_storeVar_row w g _ _ old (rdCells ws n a) hb (by rw [rdCells_size hl]; exact rd_size) (by rw [rdCells_size hl]; exact ho) (rdCells_one ws n a)
section
variable {ops : Array Oper} {rest : List Oper} {d : Option Tmp} {ty : TypeId} {pos : String} {af : Array Edge} {a : Act} {w : World} {Q : Exit → Act → World → Prop}
theorem wl_alloc_rd (h : wpList Tryd.prog ops Q rest (a.put d (.pointer (some ⟨w.heap.size, 0, none⟩))) (w.alloc (.cells (rdCells zeroWs 0 0) 116))) :
    wpList Tryd.prog ops Q (⟨d, .alloc 116, ty, pos, af, none⟩ :: rest) a w := by
  refine wpList_plain rfl fun K hK => ?_
  unfold Oper.wp execOp
  simp only [run_alloc_rd, Sem.run_bind, Sem.run_pure, Result.andThen_ok]
  exact hK _ _ h
theorem wl_build_rd (x y : Operand) (ws : List Nat) (n p : Int) (hl : ws.length = 313) (hx : a.eval x = baVal ws n) (hy : a.eval y = .int .i64 p) (h : wpList Tryd.prog ops Q rest (a.put d (.agg (rdCells ws n p))) w) :
    wpList Tryd.prog ops Q (⟨d, .build 116 #[(0, x), (1, y)], ty, pos, af, none⟩ :: rest) a w := by
  refine wpList_plain rfl fun K hK => ?_
  unfold Oper.wp execOp
  simp only [List.map_toArray, List.map_cons, List.map_nil, hx, hy, run_build_rd _ hl, Sem.run_bind, Sem.run_pure, Result.andThen_ok]
  exact hK _ _ h
theorem wl_store_rd (x y : Operand) (g' g : Nat) (ws : List Nat) (n p : Int) (old : Array Value) (hb : w.heap[g]? = some (.cells old 116 (0, 0))) (ho : old.size = 315) (hl : ws.length = 313) (hx : a.eval x = .pointer (some ⟨g', 0, none⟩)) (hg : g' = g) (hy : a.eval y = .agg (rdCells ws n p))
    (h : wpList Tryd.prog ops Q rest (a.put d undef) (w.setRow g (rdCells ws n p))) :
    wpList Tryd.prog ops Q (⟨d, .store 116 x y, ty, pos, af, none⟩ :: rest) a w := by
  subst hg
  refine wpList_plain rfl fun K hK => ?_
  unfold Oper.wp execOp
  simp only [hx, hy, run_store_rd hb ho hl, Sem.run_bind, Sem.run_pure, Result.andThen_ok]
  exact hK _ _ h
end
end Go.Proofs.YtanoohfhifhhaaaDoor

/- Walks: the program reads from bits: readFrom with the codes' get. -/
set_option linter.unusedVariables false
set_option linter.unusedSimpArgs false
namespace Go.Proofs.YtanoohfhifhhaaaDoor
open Go.RowKit

def OkB (w : World) (k : Nat) (x : Bool) : Prop := w.heap[k]? = some (.cells #[.bool x] 4 (0, 0))
theorem OkB.c {w : World} {k : Nat} {x : Bool} (h : OkB w k x) : w.cell? ⟨k, 0, none⟩ = some (.bool x) := by rw [cell_of_row w k 0 _ _ _ h]; rfl
theorem OkB.f {w : World} {k : Nat} {x : Bool} (h : OkB w k x) : w.frozen? ⟨k, 0, none⟩ = false := frozen_of_row w k 0 _ _ h
theorem OkB.below {w w' : World} {k : Nat} {x : Bool} (h : OkB w k x) (hb : Below w.heap.size w w') : OkB w' k x := (hb.block k (heap_lt h)).trans h
theorem OkB.grown {w w' : World} {k r : Nat} {x : Bool} (h : OkB w k x) (hb : w.grownBy w' (some r)) (hne : k ≠ r) : OkB w' k x := (hb.block k (heap_lt h) (by intro he; injection he with he; exact hne he)).trans h


end Go.Proofs.YtanoohfhifhhaaaDoor

/- Walks: the program reads from bits: readFrom, where there are bits. -/
set_option linter.unusedVariables false
set_option linter.unusedSimpArgs false
namespace Go.Proofs.YtanoohfhifhhaaaDoor
open Go.RowKit

def readT : Option (Int × Nat) → Value
  | some (d, q) => .tuple #[.int .i64 d, .int .i64 (q : Int), .bool true]
  | none => .tuple #[.int .i64 0, .int .i64 0, .bool false]
theorem rdW_of {s : ByteArray} {n : Nat} {ws : List Nat} (hok : okB s (n : Int) = true) (hw : BM.WordsF ws (fun j => decide (j < 8 * s.size) && BM.bitAt s.data.toList j)) (hN : n ≤ 20000) : RdW ws n :=
  ⟨hw.1, hw.2.1, hN, (rdW_of_words (ok_words hok hw)).v⟩
theorem grown_below {a b c : World} {g m : Nat} (h : Below m a b) (k : b.grownBy c (some g)) (hg : m ≤ g) (hm : m ≤ b.heap.size) : Below m a c :=
  ⟨k.os.trans h.os, k.tape.trans h.tape, k.output.trans h.output, Nat.le_trans h.size k.size, fun i hi => (k.block i (by omega) (by intro he; injection he with he; omega)).trans (h.block i hi)⟩
end Go.Proofs.YtanoohfhifhhaaaDoor
