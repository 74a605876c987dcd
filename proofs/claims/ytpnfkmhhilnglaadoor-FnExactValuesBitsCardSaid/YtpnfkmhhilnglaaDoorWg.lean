/- Walks: laws for the array of words as a whole; unpacked. -/
import Derived.Test.YtpnfkmhhilnglaaDoorWf
import Derived.Test.YtpnfkmhhilnglaaDoorWe
import Derived.StillTailTactics
set_option linter.unusedVariables false
set_option linter.unusedSimpArgs false
namespace Go.Proofs.YtpnfkmhhilnglaaDoor
open Go.RowKit

def zeroWs : List Nat := List.replicate 313 0
theorem zeroWs_len : zeroWs.length = 313 := List.length_replicate
def baVal (ws : List Nat) (n : Int) : Value := .agg (baCells ws n)

theorem ba_zero : (Tryd.prog.info? 35).map (fun i => (i.zero, i.size)) = some (some (.agg (baCells zeroWs 0)), 314) := by kernel_rfl
theorem ba_size : (Tryd.prog.info? 35).map (·.size) = some 314 := by kernel_rfl
theorem ba_built (n : Int) : Tryd.prog.built 35 [(1, .int .i64 n)] = some (baCells zeroWs n) := by kernel_rfl
theorem ba_built0 : Tryd.prog.built 35 [] = some (baCells zeroWs 0) := by kernel_rfl

theorem run_alloc_ba (w : World) : (Instr.alloc 35 true (.tuple #[])).run Tryd.prog w = .ok (.pointer (some ⟨w.heap.size, 0, none⟩)) (w.alloc (.cells (baCells zeroWs 0) 35)) := by
  obtain ⟨i, hi, hz⟩ := Option.map_eq_some_iff.1 ba_zero
  simp only [Prod.mk.injEq] at hz
  simp [Instr.alloc, zeroValue, typeInfo, hi, hz.1, newVar, newRow, Value.cells]

theorem run_build_ba (n : Int) (w : World) : (Instr.build 35 #[(1, .int .i64 n)]).run Tryd.prog w = .ok (baVal zeroWs n) w :=
  run_build w _ _ _ (ba_built n)
theorem run_build_ba0 (w : World) : (Instr.build 35 #[]).run Tryd.prog w = .ok (baVal zeroWs 0) w :=
  run_build w _ _ _ ba_built0

theorem BaBlk.new (w : World) (ws : List Nat) (n : Int) : BaBlk (w.alloc (.cells (baCells ws n) 35)) w.heap.size ws n := heap_alloc_new w _
theorem baCells_one (ws : List Nat) (n : Int) : (baCells ws n).all (·.oneCell') = true := by
  rw [Array.all_eq_true_iff_forall_mem]
  intro v hv
  simp only [baCells, List.mem_toArray, List.mem_append, List.mem_map, List.mem_singleton] at hv
  rcases hv with ⟨x, _, rfl⟩ | rfl <;> rfl

theorem run_load_ba {w : World} {g : Nat} {ws : List Nat} {n : Int} (hb : BaBlk w g ws n) (hl : ws.length = 313) :
    (Instr.loadAt 35 (.pointer (some ⟨g, 0, none⟩))).run Tryd.prog w = .ok (baVal ws n) w := by
  simp only [Instr.loadAt, Instr.sureAddr, Sem.run_bind, Sem.run_pure, Result.andThen_ok]
  exact run_loadVar_row w g _ _ _ _ _ hb Tryd.underlying35 rfl (by rw [baCells_size _ _ hl]; exact ba_size)
theorem run_store_ba {w : World} {g : Nat} {old : Array Value} (hb : w.heap[g]? = some (.cells old 35 (0, 0))) (ho : old.size = 314) {ws : List Nat} {n : Int} (hl : ws.length = 313) :
    (Instr.storeAt 35 (.pointer (some ⟨g, 0, none⟩)) (baVal ws n)).run Tryd.prog w = .ok () (w.setRow g (baCells ws n)) := by
  simp only [Instr.storeAt, Instr.sureAddr, Sem.run_bind, Sem.run_pure, Result.andThen_ok]
  exact run_storeVar_row w g _ _ old (baCells ws n) hb (by rw [baCells_size _ _ hl]; exact ba_size) (by rw [baCells_size _ _ hl]; exact ho) (baCells_one ws n)
theorem BaBlk.setRow {w : World} {g : Nat} {ws ws' : List Nat} {n n' : Int} (hb : BaBlk w g ws n) : BaBlk (w.setRow g (baCells ws' n')) g ws' n' := setRow_heap w g _ _ _ _ hb

section
variable {ops : Array Oper} {rest : List Oper} {d : Option Tmp} {ty : TypeId} {pos : String} {af : Array Edge} {a : Act} {w : World} {Q : Exit → Act → World → Prop}

theorem wl_alloc_ba (h : wpList Tryd.prog ops Q rest (a.put d (.pointer (some ⟨w.heap.size, 0, none⟩))) (w.alloc (.cells (baCells zeroWs 0) 35))) :
    wpList Tryd.prog ops Q (⟨d, .alloc 35, ty, pos, af, none⟩ :: rest) a w := by
  refine wpList_plain rfl fun K hK => ?_
  unfold Oper.wp execOp
  simp only [run_alloc_ba, Sem.run_bind, Sem.run_pure, Result.andThen_ok]
  exact hK _ _ h
theorem wl_build_ba (x : Operand) (n : Int) (hx : a.eval x = .int .i64 n) (h : wpList Tryd.prog ops Q rest (a.put d (baVal zeroWs n)) w) :
    wpList Tryd.prog ops Q (⟨d, .build 35 #[(1, x)], ty, pos, af, none⟩ :: rest) a w := by
  refine wpList_plain rfl fun K hK => ?_
  unfold Oper.wp execOp
  simp only [List.map_toArray, List.map_cons, List.map_nil, hx, run_build_ba, Sem.run_bind, Sem.run_pure, Result.andThen_ok]
  exact hK _ _ h
theorem wl_build_ba0 (h : wpList Tryd.prog ops Q rest (a.put d (baVal zeroWs 0)) w) :
    wpList Tryd.prog ops Q (⟨d, .build 35 #[], ty, pos, af, none⟩ :: rest) a w := by
  refine wpList_plain rfl fun K hK => ?_
  unfold Oper.wp execOp
  simp only [List.map_toArray, List.map_nil, run_build_ba0, Sem.run_bind, Sem.run_pure, Result.andThen_ok]
  exact hK _ _ h
theorem wl_load_ba (x : Operand) (g : Nat) (ws : List Nat) (n : Int) (hb : BaBlk w g ws n) (hl : ws.length = 313) (hx : a.eval x = .pointer (some ⟨g, 0, none⟩)) (h : wpList Tryd.prog ops Q rest (a.put d (baVal ws n)) w) :
    wpList Tryd.prog ops Q (⟨d, .load 35 x, ty, pos, af, none⟩ :: rest) a w := by
  refine wpList_plain rfl fun K hK => ?_
  unfold Oper.wp execOp
  simp only [hx, run_load_ba hb hl, Sem.run_bind, Sem.run_pure, Result.andThen_ok]
  exact hK _ _ h
theorem wl_store_ba (x y : Operand) (g' g : Nat) (ws ws' : List Nat) (n n' : Int) (hb : BaBlk w g ws n) (hl : ws.length = 313) (hl' : ws'.length = 313) (hx : a.eval x = .pointer (some ⟨g', 0, none⟩)) (hg : g' = g) (hy : a.eval y = baVal ws' n')
    (h : wpList Tryd.prog ops Q rest (a.put d undef) (w.setRow g (baCells ws' n'))) :
    wpList Tryd.prog ops Q (⟨d, .store 35 x y, ty, pos, af, none⟩ :: rest) a w := by
  subst hg
  refine wpList_plain rfl fun K hK => ?_
  unfold Oper.wp execOp
  simp only [hx, hy, run_store_ba hb (baCells_size _ _ hl) hl', Sem.run_bind, Sem.run_pure, Result.andThen_ok]
  exact hK _ _ h
end

set_option maxRecDepth 100000 in
set_option maxHeartbeats 400000 in
theorem byteShift_any (i : Nat) (w : World) (h : i ≤ 100000) :
    Calls Tryd.prog 22 #[.int .i64 (i : Int)] w fun e w' => e = .returned (.int .i64 ((56 - i % 8 * 8 : Nat) : Int)) ∧ w' = w := by
  have e : ((56 - i % 8 * 8 : Nat) : Int) = 56 - (i : Int) % 8 * 8 := by omega
  rw [e]
  clear e
  go_enter Tryd.func22, Tryd.ntmps22
  go_wp2
  go_ret
  exact ⟨rfl, rfl⟩

theorem orByte_val {y x s : Nat} (hy : y < 2 ^ 64) (hx : x < 256) :
    bits .or .u64 (y : Int) (IntKind.u64.wrap (IntKind.u64.wrap (x : Int) * 2 ^ s)) = ((y ||| x * 2 ^ s % 2 ^ 64 : Nat) : Int) := by
  have e : IntKind.u64.wrap (x : Int) = (x : Int) := by rw [IntKind.wrap_u64]; omega
  rw [e, u64_shl, u64_or _ _ hy (Nat.mod_lt _ (Nat.two_pow_pos _))]

def UnpPost (s : ByteArray) (n : Int) (w : World) (e : Ending) (w' : World) : Prop :=
  ∃ ws, e = .returned (baVal ws n) ∧ BM.WordsF ws (fun j => decide (j < 8 * s.size) && BM.bitAt s.data.toList j) ∧ Below w.heap.size w w'
theorem byte_of (s : ByteArray) (k : Nat) (h : k < s.size) : s.data.toList.getD k 0 = s[k] := by
  have h' : k < s.data.toList.length := by simpa using h
  rw [List.getD_eq_getElem?_getD, List.getElem?_eq_getElem h']
  rfl

end Go.Proofs.YtpnfkmhhilnglaaDoor
