/- Walks: the program's array of words: get, put. -/
import Derived.Test.YtanoohfhifhhaaaDoorWb
import Derived.Test.YtanoohfhifhhaaaDoorUa
import Derived.Test.YtanoohfhifhhaaaDoorBn
import Derived.BigRegion
import Derived.Test.YtanoohfhifhhaaaDoorWe
import Derived.StillTailTactics
set_option linter.unusedVariables false
set_option linter.unusedSimpArgs false
namespace Go.Proofs.YtanoohfhifhhaaaDoor
open Go.RowKit

theorem u64_shl (y s : Nat) : IntKind.u64.wrap ((y : Int) * 2 ^ s) = ((y * 2 ^ s % 2 ^ 64 : Nat) : Int) := by
  rw [IntKind.wrap_u64, show (y : Int) * 2 ^ s = ((y * 2 ^ s : Nat) : Int) by simp]
  generalize y * 2 ^ s = z
  omega
theorem i_shr (x s : Nat) : (x : Int) / 2 ^ s = ((x / 2 ^ s : Nat) : Int) := by simp
theorem u64_or (a b : Nat) (ha : a < 2 ^ 64) (hb : b < 2 ^ 64) : bits .or .u64 (a : Int) (b : Int) = ((a ||| b : Nat) : Int) := bits_or_u64_nat a b ha hb

def baCells (ws : List Nat) (n : Int) : Array Value := (List.map (fun x : Nat => Value.int .u64 (x : Int)) ws ++ [Value.int .i64 n]).toArray
theorem baCells_size (ws : List Nat) (n : Int) (h : ws.length = 313) : (baCells ws n).size = 314 := by simp [baCells, h]
theorem baCells_get (ws : List Nat) (n : Int) (i : Nat) (h : i < ws.length) : (baCells ws n)[i]? = some (.int .u64 (ws.getD i 0 : Int)) := by
  simp [baCells, List.getElem?_append, h, List.getD_eq_getElem?_getD]
theorem baCells_last (ws : List Nat) (n : Int) (h : ws.length = 313) : (baCells ws n)[313]? = some (.int .i64 n) := by
  simp [baCells, List.getElem?_append, h]
def BaBlk (w : World) (g : Nat) (ws : List Nat) (n : Int) : Prop := w.heap[g]? = some (.cells (baCells ws n) 113 (0, 0))
theorem BaBlk.word {w : World} {g : Nat} {ws : List Nat} {n : Int} (h : BaBlk w g ws n) (i : Nat) (hi : i < ws.length) : w.cell? ⟨g, i, none⟩ = some (.int .u64 (ws.getD i 0 : Int)) := by
  rw [cell_of_row w g i _ _ _ h]; exact baCells_get _ _ _ hi
theorem BaBlk.last {w : World} {g : Nat} {ws : List Nat} {n : Int} (h : BaBlk w g ws n) (hl : ws.length = 313) : w.cell? ⟨g, 313, none⟩ = some (.int .i64 n) := by
  rw [cell_of_row w g 313 _ _ _ h]; exact baCells_last _ _ hl
theorem BaBlk.frozen {w : World} {g : Nat} {ws : List Nat} {n : Int} (h : BaBlk w g ws n) (i : Nat) : w.frozen? ⟨g, i, none⟩ = false := frozen_of_row w g i _ _ h

set_option maxRecDepth 100000 in
set_option maxHeartbeats 1000000 in
theorem get_one (g : Nat) (ws : List Nat) (N : Int) (at_ k : Nat) (w : World) (hb : BaBlk w g ws N) (hl : ws.length = 313) (hx : ∀ i, ws.getD i 0 < 2 ^ 64)
    (ha : at_ ≤ 20000) (hk : k ≤ 64) (hone : ¬ 64 < at_ % 64 + k) :
    Calls Tryd.prog 121 #[.pointer (some ⟨g, 0, none⟩), .int .i64 (at_ : Int), .int .i64 (k : Int)] w fun e w' => e = .returned (.int .u64 (BM.getW ws at_ k : Int)) ∧ w = w' := by
  have hc0 := hb.word (at_ / 64) (by omega)
  have hx0 := hx (at_ / 64)
  generalize hy : ws.getD (at_ / 64) 0 = y at hc0 hx0
  have hd : decide ((64 : Int) < (at_ : Int) % 64 + (k : Int)) = false := by simp; omega
  go_enter Tryd.func121, Tryd.ntmps121
  go_wp2_with fail
  go_ret
  refine ⟨ret_int ?_, rfl⟩
  rw [u64_shl, i_shr]
  rw [BM.getW_one hone, hy]

set_option maxRecDepth 100000 in
set_option maxHeartbeats 1000000 in
theorem get_two (g : Nat) (ws : List Nat) (N : Int) (at_ k : Nat) (w : World) (hb : BaBlk w g ws N) (hl : ws.length = 313) (hx : ∀ i, ws.getD i 0 < 2 ^ 64)
    (ha : at_ + k ≤ 20000) (hk : k ≤ 64) (hone : 64 < at_ % 64 + k) :
    Calls Tryd.prog 121 #[.pointer (some ⟨g, 0, none⟩), .int .i64 (at_ : Int), .int .i64 (k : Int)] w fun e w' => e = .returned (.int .u64 (BM.getW ws at_ k : Int)) ∧ w = w' := by
  have hc0 := hb.word (at_ / 64) (by omega)
  have hc1 := hb.word (at_ / 64 + 1) (by omega)
  have hx0 := hx (at_ / 64)
  have hx1 := hx (at_ / 64 + 1)
  generalize hy : ws.getD (at_ / 64) 0 = y at hc0 hx0
  generalize hz : ws.getD (at_ / 64 + 1) 0 = z at hc1 hx1
  have Hy := Lib.hid hy
  have Hz := Lib.hid hz
  clear hy hz
  have hd : decide ((64 : Int) < (at_ : Int) % 64 + (k : Int)) = true := by simp; omega
  go_enter Tryd.func121, Tryd.ntmps121
  go_wp2_with fail
  go_ret
  refine ⟨ret_int ?_, rfl⟩
  rw [BM.getW_two hone, Hy.out, Hz.out, u64_shl, i_shr z, u64_or _ _ (Nat.mod_lt _ (Nat.two_pow_pos _)) (Nat.lt_of_le_of_lt (Nat.div_le_self _ _) hx1), i_shr]

theorem get_any (g : Nat) (ws : List Nat) (N : Int) (at_ k : Nat) (w : World) (hb : BaBlk w g ws N) (hl : ws.length = 313) (hx : ∀ i, ws.getD i 0 < 2 ^ 64)
    (ha : at_ + k ≤ 20000) (hk : k ≤ 64) :
    Calls Tryd.prog 121 #[.pointer (some ⟨g, 0, none⟩), .int .i64 (at_ : Int), .int .i64 (k : Int)] w fun e w' => e = .returned (.int .u64 (BM.getW ws at_ k : Int)) ∧ w = w' := by
  by_cases h : 64 < at_ % 64 + k
  · exact get_two g ws N at_ k w hb hl hx ha hk h
  · exact get_one g ws N at_ k w hb hl hx (by omega) hk h

theorem baCells_set (ws : List Nat) (n : Int) (i x : Nat) (h : i < ws.length) : (baCells ws n).setIfInBounds i (.int .u64 (x : Int)) = baCells (ws.set i x) n := by
  simp [baCells, List.set_append, h]
theorem baCells_setLast (ws : List Nat) (n m : Int) (h : ws.length = 313) : (baCells ws n).setIfInBounds 313 (.int .i64 m) = baCells ws m := by
  simp [baCells, List.set_append, h]
theorem BaBlk.setWord {w : World} {g : Nat} {ws : List Nat} {n : Int} (h : BaBlk w g ws n) (i x : Nat) (hi : i < ws.length) : BaBlk (w.setCell ⟨g, i, none⟩ (.int .u64 (x : Int))) g (ws.set i x) n := by
  unfold BaBlk at h ⊢
  rw [heap_setCell_same w g i _ _ _ h, baCells_set _ _ _ _ hi]
theorem BaBlk.setLast {w : World} {g : Nat} {ws : List Nat} {n : Int} (h : BaBlk w g ws n) (m : Int) (hl : ws.length = 313) : BaBlk (w.setCell ⟨g, 313, none⟩ (.int .i64 m)) g ws m := by
  unfold BaBlk at h ⊢
  rw [heap_setCell_same w g 313 _ _ _ h, baCells_setLast _ _ _ hl]


theorem put_or1 {y v k s : Nat} (hy : y < 2 ^ 64) :
    bits .or .u64 (y : Int) (IntKind.u64.wrap ((v : Int) * 2 ^ k) / 2 ^ s) = ((y ||| v * 2 ^ k % 2 ^ 64 / 2 ^ s : Nat) : Int) := by
  rw [u64_shl, i_shr, u64_or _ _ hy (Nat.lt_of_le_of_lt (Nat.div_le_self _ _) (Nat.mod_lt _ (Nat.two_pow_pos _)))]
theorem put_or2 {y v k s : Nat} (hy : y < 2 ^ 64) :
    bits .or .u64 (y : Int) (IntKind.u64.wrap (IntKind.u64.wrap ((v : Int) * 2 ^ k) * 2 ^ s)) = ((y ||| v * 2 ^ k % 2 ^ 64 * 2 ^ s % 2 ^ 64 : Nat) : Int) := by
  rw [u64_shl, u64_shl, u64_or _ _ hy (Nat.mod_lt _ (Nat.two_pow_pos _))]

set_option maxRecDepth 100000 in
set_option maxHeartbeats 1000000 in
theorem put_one (g : Nat) (ws : List Nat) (n v k : Nat) (w : World) (hb : BaBlk w g ws n) (hl : ws.length = 313) (hx : ∀ i, ws.getD i 0 < 2 ^ 64)
    (hn : n + k ≤ 20000) (hk : k ≤ 64) (hv : v < 2 ^ 64) (hone : ¬ 64 < n % 64 + k) :
    Calls Tryd.prog 98 #[.pointer (some ⟨g, 0, none⟩), .int .u64 (v : Int), .int .i64 (k : Int)] w fun e w' => e = .returned (.tuple #[]) ∧ BaBlk w' g (BM.putW ws n v k) ((n + k : Nat) : Int) ∧ w.grownBy w' (some g) := by
  have hc0 := hb.word (n / 64) (by omega)
  have hcn := hb.last hl
  have hf0 := hb.frozen (n / 64)
  have hfn := hb.frozen 313
  have hx0 := hx (n / 64)
  generalize hy : ws.getD (n / 64) 0 = y at hc0 hx0
  have Hy := Lib.hid hy
  clear hy
  have hd : decide ((64 : Int) < (n : Int) % 64 + (k : Int)) = false := by simp; omega
  have Hb := Lib.hid hb
  clear hb
  go_enter Tryd.func98, Tryd.ntmps98
  go_wp2_with fail
  go_quiet (fail)
  go_wp2_with fail
  go_region
  go_wp2_with fail
  go_end0
  refine ⟨rfl, ?_, grown_set (grown_set (grown_drewN (World.grownBy.refl w _) _) _ _) _ _⟩
  rw [put_or1 hx0, BM.putW_one hone, Hy.out]
  have h0 : BaBlk (w.drewN (nq + 1)) g ws n := Hb.out
  exact (h0.setWord (n / 64) _ (by omega)).setLast _ (by simp [hl])

set_option maxRecDepth 100000 in
set_option maxHeartbeats 1000000 in
theorem put_two (g : Nat) (ws : List Nat) (n v k : Nat) (w : World) (hb : BaBlk w g ws n) (hl : ws.length = 313) (hx : ∀ i, ws.getD i 0 < 2 ^ 64)
    (hn : n + k ≤ 20000) (hk : k ≤ 64) (hv : v < 2 ^ 64) (hone : 64 < n % 64 + k) :
    Calls Tryd.prog 98 #[.pointer (some ⟨g, 0, none⟩), .int .u64 (v : Int), .int .i64 (k : Int)] w fun e w' => e = .returned (.tuple #[]) ∧ BaBlk w' g (BM.putW ws n v k) ((n + k : Nat) : Int) ∧ w.grownBy w' (some g) := by
  have hc0 := hb.word (n / 64) (by omega)
  have hcn := hb.last hl
  have hc1 := hb.word (n / 64 + 1) (by omega)
  have hf1 := hb.frozen (n / 64 + 1)
  have hx1 := hx (n / 64 + 1)
  generalize hz : ws.getD (n / 64 + 1) 0 = z at hc1 hx1
  have Hz := Lib.hid hz
  clear hz
  have hf0 := hb.frozen (n / 64)
  have hfn := hb.frozen 313
  have hx0 := hx (n / 64)
  generalize hy : ws.getD (n / 64) 0 = y at hc0 hx0
  have Hy := Lib.hid hy
  clear hy
  have hd : decide ((64 : Int) < (n : Int) % 64 + (k : Int)) = true := by simp; omega
  have Hb := Lib.hid hb
  clear hb
  go_enter Tryd.func98, Tryd.ntmps98
  go_wp2_with fail
  go_quiet (fail)
  go_wp2_with fail
  go_region
  go_wp2_with fail
  go_region
  go_wp2_with fail
  go_end0
  refine ⟨rfl, ?_, grown_drew (grown_set (grown_set (grown_set (grown_drewN (World.grownBy.refl w _) _) _ _) _ _) _ _)⟩
  rw [put_or1 hx0, put_or2 hx1, BM.putW_two hone (by omega), Hy.out, Hz.out]
  have h0 : BaBlk (w.drewN (nq + 1)) g ws n := Hb.out
  exact ((h0.setWord (n / 64) _ (by omega)).setWord (n / 64 + 1) _ (by simp; omega)).setLast _ (by simp [hl])

theorem put_any (g : Nat) (ws : List Nat) (n v k : Nat) (w : World) (hb : BaBlk w g ws n) (hl : ws.length = 313) (hx : ∀ i, ws.getD i 0 < 2 ^ 64)
    (hn : n + k ≤ 20000) (hk : k ≤ 64) (hv : v < 2 ^ 64) :
    Calls Tryd.prog 98 #[.pointer (some ⟨g, 0, none⟩), .int .u64 (v : Int), .int .i64 (k : Int)] w fun e w' => e = .returned (.tuple #[]) ∧ BaBlk w' g (BM.putW ws n v k) ((n + k : Nat) : Int) ∧ w.grownBy w' (some g) := by
  by_cases h : 64 < n % 64 + k
  · exact put_two g ws n v k w hb hl hx hn hk hv h
  · exact put_one g ws n v k w hb hl hx hn hk hv h
end Go.Proofs.YtanoohfhifhhaaaDoor

/- Walks: laws for the array of words as a whole; unpacked. -/
set_option linter.unusedVariables false
set_option linter.unusedSimpArgs false
namespace Go.Proofs.YtanoohfhifhhaaaDoor
open Go.RowKit

def zeroWs : List Nat := List.replicate 313 0
theorem zeroWs_len : zeroWs.length = 313 := List.length_replicate
def baVal (ws : List Nat) (n : Int) : Value := .agg (baCells ws n)

theorem ba_zero : (Tryd.prog.info? 113).map (fun i => (i.zero, i.size)) = some (some (.agg (baCells zeroWs 0)), 314) := by kernel_rfl
theorem ba_size : (Tryd.prog.info? 113).map (·.size) = some 314 := by kernel_rfl
theorem ba_built (n : Int) : Tryd.prog.built 113 [(1, .int .i64 n)] = some (baCells zeroWs n) := by kernel_rfl
theorem ba_built0 : Tryd.prog.built 113 [] = some (baCells zeroWs 0) := by kernel_rfl

theorem run_alloc_ba (w : World) : (Instr.alloc 113 true (.tuple #[])).run Tryd.prog w = .ok (.pointer (some ⟨w.heap.size, 0, none⟩)) (w.alloc (.cells (baCells zeroWs 0) 113)) := by
  obtain ⟨i, hi, hz⟩ := Option.map_eq_some_iff.1 ba_zero
  simp only [Prod.mk.injEq] at hz
  simp [Instr.alloc, zeroValue, typeInfo, hi, hz.1, newVar, newRow, Value.cells]

theorem run_build_ba (n : Int) (w : World) : (Instr.build 113 #[(1, .int .i64 n)]).run Tryd.prog w = .ok (baVal zeroWs n) w :=
  run_build w _ _ _ (ba_built n)
theorem run_build_ba0 (w : World) : (Instr.build 113 #[]).run Tryd.prog w = .ok (baVal zeroWs 0) w :=
  run_build w _ _ _ ba_built0

theorem BaBlk.new (w : World) (ws : List Nat) (n : Int) : BaBlk (w.alloc (.cells (baCells ws n) 113)) w.heap.size ws n := heap_alloc_new w _
theorem baCells_one (ws : List Nat) (n : Int) : (baCells ws n).all (·.oneCell') = true := by
  rw [Array.all_eq_true_iff_forall_mem]
  intro v hv
  simp only [baCells, List.mem_toArray, List.mem_append, List.mem_map, List.mem_singleton] at hv
  rcases hv with ⟨x, _, rfl⟩ | rfl <;> rfl

theorem run_load_ba {w : World} {g : Nat} {ws : List Nat} {n : Int} (hb : BaBlk w g ws n) (hl : ws.length = 313) :
    (Instr.loadAt 113 (.pointer (some ⟨g, 0, none⟩))).run Tryd.prog w = .ok (baVal ws n) w := by
  simp only [Instr.loadAt, Instr.sureAddr, Sem.run_bind, Sem.run_pure, Result.andThen_ok]
  exact run_loadVar_row w g _ _ _ _ _ hb Tryd.underlying113 rfl (by rw [baCells_size _ _ hl]; exact ba_size)
theorem run_store_ba {w : World} {g : Nat} {old : Array Value} (hb : w.heap[g]? = some (.cells old 113 (0, 0))) (ho : old.size = 314) {ws : List Nat} {n : Int} (hl : ws.length = 313) :
    (Instr.storeAt 113 (.pointer (some ⟨g, 0, none⟩)) (baVal ws n)).run Tryd.prog w = .ok () (w.setRow g (baCells ws n)) := by
  simp only [Instr.storeAt, Instr.sureAddr, Sem.run_bind, Sem.run_pure, Result.andThen_ok]
  exact run_storeVar_row w g _ _ old (baCells ws n) hb (by rw [baCells_size _ _ hl]; exact ba_size) (by rw [baCells_size _ _ hl]; exact ho) (baCells_one ws n)
theorem BaBlk.setRow {w : World} {g : Nat} {ws ws' : List Nat} {n n' : Int} (hb : BaBlk w g ws n) : BaBlk (w.setRow g (baCells ws' n')) g ws' n' := setRow_heap w g _ _ _ _ hb

section
variable {ops : Array Oper} {rest : List Oper} {d : Option Tmp} {ty : TypeId} {pos : String} {af : Array Edge} {a : Act} {w : World} {Q : Exit → Act → World → Prop}

theorem wl_alloc_ba (h : wpList Tryd.prog ops Q rest (a.put d (.pointer (some ⟨w.heap.size, 0, none⟩))) (w.alloc (.cells (baCells zeroWs 0) 113))) :
    wpList Tryd.prog ops Q (⟨d, .alloc 113, ty, pos, af, none⟩ :: rest) a w := by
  refine wpList_plain rfl fun K hK => ?_
  unfold Oper.wp execOp
  simp only [run_alloc_ba, Sem.run_bind, Sem.run_pure, Result.andThen_ok]
  exact hK _ _ h
theorem wl_build_ba (x : Operand) (n : Int) (hx : a.eval x = .int .i64 n) (h : wpList Tryd.prog ops Q rest (a.put d (baVal zeroWs n)) w) :
    wpList Tryd.prog ops Q (⟨d, .build 113 #[(1, x)], ty, pos, af, none⟩ :: rest) a w := by
  refine wpList_plain rfl fun K hK => ?_
  unfold Oper.wp execOp
  simp only [List.map_toArray, List.map_cons, List.map_nil, hx, run_build_ba, Sem.run_bind, Sem.run_pure, Result.andThen_ok]
  exact hK _ _ h
theorem wl_build_ba0 (h : wpList Tryd.prog ops Q rest (a.put d (baVal zeroWs 0)) w) :
    wpList Tryd.prog ops Q (⟨d, .build 113 #[], ty, pos, af, none⟩ :: rest) a w := by
  refine wpList_plain rfl fun K hK => ?_
  unfold Oper.wp execOp
  simp only [List.map_toArray, List.map_nil, run_build_ba0, Sem.run_bind, Sem.run_pure, Result.andThen_ok]
  exact hK _ _ h
theorem wl_load_ba (x : Operand) (g : Nat) (ws : List Nat) (n : Int) (hb : BaBlk w g ws n) (hl : ws.length = 313) (hx : a.eval x = .pointer (some ⟨g, 0, none⟩)) (h : wpList Tryd.prog ops Q rest (a.put d (baVal ws n)) w) :
    wpList Tryd.prog ops Q (⟨d, .load 113 x, ty, pos, af, none⟩ :: rest) a w := by
  refine wpList_plain rfl fun K hK => ?_
  unfold Oper.wp execOp
  simp only [hx, run_load_ba hb hl, Sem.run_bind, Sem.run_pure, Result.andThen_ok]
  exact hK _ _ h
theorem wl_store_ba (x y : Operand) (g' g : Nat) (ws ws' : List Nat) (n n' : Int) (hb : BaBlk w g ws n) (hl : ws.length = 313) (hl' : ws'.length = 313) (hx : a.eval x = .pointer (some ⟨g', 0, none⟩)) (hg : g' = g) (hy : a.eval y = baVal ws' n')
    (h : wpList Tryd.prog ops Q rest (a.put d undef) (w.setRow g (baCells ws' n'))) :
    wpList Tryd.prog ops Q (⟨d, .store 113 x y, ty, pos, af, none⟩ :: rest) a w := by
  subst hg
  refine wpList_plain rfl fun K hK => ?_
  unfold Oper.wp execOp
  simp only [hx, hy, run_store_ba hb (baCells_size _ _ hl) hl', Sem.run_bind, Sem.run_pure, Result.andThen_ok]
  exact hK _ _ h
end

set_option maxRecDepth 100000 in
set_option maxHeartbeats 400000 in
theorem byteShift_any (i : Nat) (w : World) (h : i ≤ 100000) :
    Calls Tryd.prog 112 #[.int .i64 (i : Int)] w fun e w' => e = .returned (.int .i64 ((56 - i % 8 * 8 : Nat) : Int)) ∧ w' = w := by
  have e : ((56 - i % 8 * 8 : Nat) : Int) = 56 - (i : Int) % 8 * 8 := by omega
  rw [e]
  clear e
  go_enter Tryd.func112, Tryd.ntmps112
  go_wp2
  go_ret
  exact ⟨rfl, rfl⟩

theorem orByte_val {y x s : Nat} (hy : y < 2 ^ 64) (hx : x < 256) :
    bits .or .u64 (y : Int) (IntKind.u64.wrap (IntKind.u64.wrap (x : Int) * 2 ^ s)) = ((y ||| x * 2 ^ s % 2 ^ 64 : Nat) : Int) := by
  have e : IntKind.u64.wrap (x : Int) = (x : Int) := by rw [IntKind.wrap_u64]; omega
  rw [e, u64_shl, u64_or _ _ hy (Nat.mod_lt _ (Nat.two_pow_pos _))]

def UnpPost (s : ByteArray) (n : Int) (w : World) (e : Ending) (w' : World) : Prop :=
  ∃ ws, e = .returned (baVal ws n) ∧ BM.WordsF ws (fun j => decide (j < 8 * s.size) && BM.bitAt s.data.toList j) ∧ Below w.heap.size w w'
theorem byte_of (s : ByteArray) (k : Nat) (h : k < s.size) : s.data.toList.getD k 0 = s[k] := by
  have h' : k < s.data.toList.length := by simpa using h
  rw [List.getD_eq_getElem?_getD, List.getElem?_eq_getElem h']
  rfl

set_option maxRecDepth 100000 in
set_option maxHeartbeats 1000000 in
theorem unpacked_any (s : ByteArray) (n : Int) (w : World) (hs : s.size ≤ 2500) :
    Calls Tryd.prog 90 #[.agg #[.string s, .int .i64 n]] w (UnpPost s n w) := by
  have hB : BaBlk (((w.alloc (.cells #[.string s, .int .i64 n] 77)).alloc (.cells (baCells zeroWs 0) 113)).alloc (.cells (baCells zeroWs 0) 113)) (w.heap.size + 1 + 1) zeroWs 0 := by
    have h := heap_alloc2_new (w.alloc (.cells #[.string s, .int .i64 n] 77)) (.cells (baCells zeroWs 0) 113) (.cells (baCells zeroWs 0) 113)
    rw [World.size_alloc] at h
    exact h
  obtain ⟨W0, hW0⟩ : ∃ W0, W0 = ((w.alloc (.cells #[.string s, .int .i64 n] 77)).alloc (.cells (baCells zeroWs 0) 113)).alloc (.cells (baCells zeroWs 0) 113) := ⟨_, rfl⟩
  have hR : BaBlk W0 (w.heap.size + 1) zeroWs 0 := by
    subst hW0
    have h := heap_alloc2_old (w.alloc (.cells #[.string s, .int .i64 n] 77)) (.cells (baCells zeroWs 0) 113) (.cells (baCells zeroWs 0) 113)
    rw [World.size_alloc] at h
    exact h
  have hC : W0.cell? ⟨w.heap.size, 0, none⟩ = some (.string s) := by subst hW0; go_simp
  have hW : Below w.heap.size w W0 := by
    subst hW0
    exact (((Below.refl _ _).alloc (Nat.le_refl _) _).alloc (by simp) _).alloc (by simp; omega) _
  have hZ : W0.heap.size = w.heap.size + 1 + 1 + 1 := by subst hW0; simp
  rw [← hW0] at hB
  have hB1 : BaBlk (W0.setRow (w.heap.size + 1 + 1) (baCells zeroWs n)) (w.heap.size + 1 + 1) zeroWs n := hB.setRow
  have hR1 : BaBlk (W0.setRow (w.heap.size + 1 + 1) (baCells zeroWs n)) (w.heap.size + 1) zeroWs 0 := (setRow_other W0 _ _ _ (by omega)).trans hR
  have hC1 : (W0.setRow (w.heap.size + 1 + 1) (baCells zeroWs n)).cell? ⟨w.heap.size, 0, none⟩ = some (.string s) := (cell_setRow_other W0 _ _ _ (by simp; omega)).trans hC
  have hW1 : Below w.heap.size w (W0.setRow (w.heap.size + 1 + 1) (baCells zeroWs n)) := hW.trans ⟨rfl, rfl, rfl, by simp, fun k hk => setRow_other W0 _ _ _ (by omega)⟩
  have hZ1 : (W0.setRow (w.heap.size + 1 + 1) (baCells zeroWs n)).heap.size = w.heap.size + 1 + 1 + 1 := by simp [hZ]
  have HB := Lib.hid hB
  have HB1 := Lib.hid hB1
  have HR1 := Lib.hid hR1
  have HZ1 := Lib.hid hZ1
  clear hB hR hC hW hZ hB1 hR1 hZ1
  rw [hW0] at HB HB1 HR1 HZ1 hC1 hW1
  clear hW0 W0
  go_enter Tryd.func90, Tryd.ntmps90
  go_wp2_with (first
    | (with_reducible refine wl_alloc_ba ?_)
    | ((with_reducible refine wl_build_ba _ n ?_ ?_); · rfl)
    | (with_reducible refine wl_store_ba _ _ ?gg (w.heap.size + 1 + 1) zeroWs zeroWs 0 n ?hb zeroWs_len zeroWs_len ?hx ?hg ?hy ?_))
  case hx => rfl
  case hy => rfl
  case hg => simp
  case hb => exact HB.out
  generalize World.setRow _ _ _ = W1 at *
  go_loopw [11] (fun i wr => ∃ (k : Nat) (ws : List Nat), k ≤ s.size ∧ i = .int .i64 k ∧ BM.WordsF ws (fun j => decide (j < 8 * k) && BM.bitAt s.data.toList j) ∧
      BaBlk wr (w.heap.size + 1 + 1) ws n ∧ BaBlk wr (w.heap.size + 1) zeroWs 0 ∧ wr.cell? ⟨w.heap.size, 0, none⟩ = some (.string s) ∧ Below w.heap.size w wr ∧ w.heap.size + 3 ≤ wr.heap.size)
    (fun i _ => s.size - (intOf i).toNat)
  case atStart =>
    refine ⟨0, zeroWs, Nat.zero_le _, rfl, BM.wordsF_congr BM.wordsF_zero (fun j => by simp), HB1.out, HR1.out, hC1, hW1, by have := HZ1.out; omega⟩
  case round =>
    clear hC1 hW1 HB1 HR1 HZ1 HB
    obtain ⟨k, ws, hk, rfl, hws, hb, hr, hc, hbel, hz⟩ := hrel
    by_cases hlt : k < s.size
    · have hcell := hb.word (k / 8) (by rw [hws.1]; omega)
      have hfro := hb.frozen (k / 8)
      have hy := hws.2.1 (k / 8)
      generalize hyy : ws.getD (k / 8) 0 = y at hcell hy
      have Hyy := Lib.hid hyy
      have Hb := Lib.hid hb
      have Hr := Lib.hid hr
      clear hyy hb hr
      have h313 : (k : Int) / 8 < 313 := by omega
      have h08 : 0 ≤ (k : Int) / 8 := by omega
      have hks : (k : Int) < (s.size : Int) := by omega
      have hbs := byteShift_any k wr.drew (by omega)
      have hw8 : IntKind.i64.wrap ((k : Int) / 8) = (k : Int) / 8 := IntWalk.i64_in _ (by omega)
      have ht8 : ((k : Int) / 8).toNat = k / 8 := by omega
      have htk : (k : Int).toNat = k := by omega
      have hbs' := Lib.hid hbs
      clear hbs
      go_wp2_with fail
      refine wp_region_still_tail 16 (by kernel_rfl) (by kernel_rfl) ?_
      simp only [List.take_succ_cons, List.take_zero, List.drop_succ_cons, List.drop_zero]
      repeat still_step
      still_call hbs'.out
      repeat still_step
      refine wpStill_nil ?_
      change wpList _ _ _ _ _ wr.drew
      clear hw8 ht8
      generalize hwd : wr.drew = wd
      have hfd : wd.frozen? ⟨w.heap.size + 1 + 1, k / 8, none⟩ = false := by subst hwd; exact hfro
      have hcd : wd.cell? ⟨w.heap.size + 1 + 1, k / 8, none⟩ = some (.int .u64 (y : Int)) := by subst hwd; exact hcell
      have Hbd : Hid (BaBlk wd (w.heap.size + 1 + 1) ws n) := by subst hwd; exact Hb
      have Hrd : Hid (BaBlk wd (w.heap.size + 1) zeroWs 0) := by subst hwd; exact Hr
      have hsd : wd.cell? ⟨w.heap.size, 0, none⟩ = some (.string s) := by subst hwd; exact hc
      have hbd : Below w.heap.size w wd := by subst hwd; exact hbel.drew
      have hzd : w.heap.size + 3 ≤ wd.heap.size := by subst hwd; exact hz
      clear hwd hfro hcell Hb Hr hc hbel hz
      go_wp2_with fail
      go_roundw
      case rel =>
        refine ⟨k + 1, BM.orByte ws k (s.data.toList.getD k 0).toNat, by omega, by go_num, BM.wordsF_step hws (by omega), ?_, ?_, ?_, ?_, ?_⟩
        · rw [orByte_val hy (UInt8.toNat_lt _), byte_of s k hlt]
          unfold BM.orByte
          rw [Hyy.out]
          exact Hbd.out.setWord (k / 8) _ (by rw [hws.1]; omega)
        · exact (Below.heap_setCell wd _ _ _ (by simp; try omega)).trans Hrd.out
        · rw [World.cell?_setCell_other _ _ _ _ (by simp)]; exact hsd
        · exact hbd.setCell (by simp; omega) _
        · simpa [World.setCell] using hzd
      case measure => simp [intOf]; omega
    · go_wp2_with (first
        | (with_reducible refine wl_load_ba _ (w.heap.size + 1 + 1) ws n ?hb1 ?hl1 ?hx1 ?_)
        | (with_reducible refine wl_store_ba _ _ ?gg2 (w.heap.size + 1) zeroWs ws 0 n ?hb2 zeroWs_len ?hl2 ?hx2 ?hg2 ?hy2 ?_))
      case hb1 => exact hb
      case hl1 => exact hws.1
      case hx1 => rfl
      case hb2 => exact hr
      case hl2 => exact hws.1
      case hx2 => rfl
      case hg2 => rfl
      case hy2 => rfl
      obtain rfl : k = s.size := by omega
      have hfin : BaBlk (wr.setRow (w.heap.size + 1) (baCells ws n)) (w.heap.size + 1) ws n := hr.setRow
      exact bodyPost_ret (results_cell_row rfl _ _ (w.heap.size + 1) _ (baCells ws n) (0, 0) _ rfl hfin Tryd.underlying113 rfl (by rw [baCells_size _ _ hws.1]; exact ba_size)) rfl
        ⟨ws, rfl, hws, hbel.trans ⟨rfl, rfl, rfl, by simp, fun k hk => setRow_other wr _ _ _ (by omega)⟩⟩
end Go.Proofs.YtanoohfhifhhaaaDoor

/- Walks: packed. -/
set_option linter.unusedVariables false
set_option linter.unusedSimpArgs false
namespace Go.Proofs.YtanoohfhifhhaaaDoor
open Go.RowKit

def byteNo (l : List Bool) (i : Nat) : Nat := BM.ofBits (fun t => l.getD (8 * i + t) false) 8
def doneCells (l : List Bool) (k : Nat) : List Value := (List.range (BM.bytesOf l.length)).map fun i => .int .u8 ((if i < k then byteNo l i else 0 : Nat) : Int)
theorem doneCells_length (l : List Bool) (k : Nat) : (doneCells l k).length = BM.bytesOf l.length := by simp [doneCells]
theorem doneCells_get (l : List Bool) (k i : Nat) (h : i < BM.bytesOf l.length) : (doneCells l k)[i]? = some (.int .u8 ((if i < k then byteNo l i else 0 : Nat) : Int)) := by
  simp [doneCells, h]
theorem doneCells_succ (l : List Bool) (k : Nat) (hk : k < BM.bytesOf l.length) : doneCells l (k + 1) = (doneCells l k).set k (.int .u8 (byteNo l k : Int)) := by
  apply List.ext_getElem?
  intro i
  by_cases hi : i < BM.bytesOf l.length
  · rw [doneCells_get _ _ _ hi, List.getElem?_set]
    by_cases h : k = i
    · subst h
      rw [if_pos rfl, if_pos (show k < (doneCells l k).length by rw [doneCells_length]; exact hi), if_pos (show k < k + 1 by omega)]
    · rw [if_neg h, doneCells_get _ _ _ hi]
      by_cases h2 : i < k
      · rw [if_pos h2, if_pos (by omega)]
      · rw [if_neg h2, if_neg (by omega)]
  · rw [List.getElem?_eq_none (by rw [doneCells_length]; omega), List.getElem?_eq_none (by rw [List.length_set, doneCells_length]; omega)]
theorem madeCells_done (l : List Bool) : (madeCells #[Value.int .u8 0] (BM.bytesOf l.length)).toList = doneCells l 0 := by
  apply List.ext_getElem?
  intro i
  by_cases hi : i < BM.bytesOf l.length
  · rw [doneCells_get _ _ _ hi]
    simp [madeCells, hi, Nat.mod_one]
  · rw [List.getElem?_eq_none (l := doneCells l 0) (by rw [doneCells_length]; omega), List.getElem?_eq_none (by simp [madeCells]; omega)]
theorem shr_byte {ws : List Nat} {l : List Bool} (h : BM.Words ws l) (k : Nat) :
    (ws.getD (k / 8) 0 : Int) / 2 ^ (56 - k % 8 * 8) % 256 = (byteNo l k : Int) := by
  rw [i_shr]
  have := BM.words_byte h k
  unfold byteNo
  rw [← this]
  generalize ws.getD (k / 8) 0 / 2 ^ (56 - k % 8 * 8) = z
  omega

set_option maxRecDepth 100000 in
set_option maxHeartbeats 1000000 in
theorem packed_any (g : Nat) (ws : List Nat) (l : List Bool) (w : World) (hb : BaBlk w g ws (l.length : Int)) (hw : BM.Words ws l) :
    Calls Tryd.prog 100 #[.pointer (some ⟨g, 0, none⟩)] w (RetBelow (.agg #[.string ⟨(BM.pack l).toArray⟩, .int .i64 (l.length : Int)]) w) := by
  have hll := hw.2.2.1
  have hg : g < w.heap.size := by
    rcases Nat.lt_or_ge g w.heap.size with h | h
    · exact h
    · unfold BaBlk at hb; rw [Array.getElem?_eq_none h] at hb; cases hb
  obtain ⟨i0, hi, hz0, hz1, hz2⟩ := info_parts info_u8
  have hm : (BM.bytesOf l.length : Int) = ((l.length : Int) + 7) / 8 := by unfold BM.bytesOf; omega
  have Hm := Lib.hid hm
  clear hm
  have hcn := hb.last hw.1
  have Hb := Lib.hid hb
  clear hb
  have hcn1 : (w.alloc (.cells #[Value.string ByteArray.empty, Value.int IntKind.i64 0] 77)).cell? ⟨g, 313, none⟩ = some (.int .i64 (l.length : Int)) := by
    rw [World.cell?_alloc_lt _ _ _ (by simpa using hg)]; exact hcn
  go_enter Tryd.func100, Tryd.ntmps100
  go_wp2_with (first
    | (go_at_call 117; refine (bytesFor_any _ _ (by omega) (by omega)).mono ?_; rintro e w' ⟨rfl, rfl⟩)
    | (at_make; refine wpList_make_full _ rfl _ _ 22 rfl (w.heap.size + 1) 5 i0 (.int .u8 0) 1 Tryd.underlying22 hi hz0 hz1 _ _ _ _ (BM.bytesOf l.length) rfl rfl Hm.out.symm Hm.out.symm ?b2 ?b3 ?b4 ?_))
  case b2 => rw [hz2]; unfold BM.bytesOf; omega
  case b3 => unfold BM.bytesOf maxLen; omega
  case b4 => simp
  intro w1 hown hgrow
  rw [madeCells_done] at hown
  have hb1 : Below w.heap.size w w1 := ((Below.refl _ _).alloc (Nat.le_refl _) _).grown hgrow (by simp) (fun k hk => by cases hk)
  have hsz1 : w.heap.size + 1 ≤ w1.heap.size := by have := hgrow.size; simpa using this
  have hres : w1.heap[w.heap.size]? = some (.cells #[.string ByteArray.empty, .int .i64 0] 77 (0, 0)) := by
    rw [hgrow.block _ (by simp) (by simp)]; exact heap_alloc_new w _
  clear hgrow hcn hcn1
  go_wp2_with fail
  go_loopw [13] (fun i wr => ∃ k : Nat, k ≤ BM.bytesOf l.length ∧ i = .int .i64 k ∧
      wr.ownsRow (w.heap.size + 1) 5 1 (.slice (some ⟨w.heap.size + 1, 0, none⟩) (BM.bytesOf l.length) (BM.bytesOf l.length)) (BM.bytesOf l.length) (doneCells l k) ∧
      Below w.heap.size w wr ∧ w.heap.size + 1 ≤ wr.heap.size ∧ wr.heap[w.heap.size]? = some (.cells #[.string ByteArray.empty, .int .i64 0] 77 (0, 0)))
    (fun i _ => BM.bytesOf l.length - (intOf i).toNat)
  case atStart => exact ⟨0, Nat.zero_le _, rfl, hown, hb1, hsz1, hres⟩
  case round =>
    clear hown hb1 hsz1 hres
    obtain ⟨k, hk, rfl, hown, hb1, hsz1, hres⟩ := hrel
    have Hbl : BaBlk wr g ws (l.length : Int) := (hb1.block g hg).trans Hb.out
    have hbo : BM.bytesOf l.length ≤ 2500 := by unfold BM.bytesOf; omega
    by_cases hlt : k < BM.bytesOf l.length
    · have hcell := Hbl.word (k / 8) (by rw [hw.1]; omega)
      have hfro : wr.frozen? ⟨w.heap.size + 1, k, none⟩ = false := hown.frozenAt _
      have hold : wr.cell? ⟨w.heap.size + 1, k, none⟩ = some (.int .u8 ((if k < k then byteNo l k else 0 : Nat) : Int)) := by
        rw [hown.cellAt _ (by omega)]; exact doneCells_get _ _ _ hlt
      have hval := shr_byte hw k
      generalize ws.getD (k / 8) 0 = y at hcell hval
      generalize ((if k < k then byteNo l k else 0 : Nat) : Int) = oldv at hold
      have Hval := Lib.hid hval
      clear hval
      have Hbl' := Lib.hid Hbl
      clear Hbl
      have hks : (k : Int) < (BM.bytesOf l.length : Int) := by omega
      have hbs := byteShift_any k wr.drew (by omega)
      have hw8 : IntKind.i64.wrap ((k : Int) / 8) = (k : Int) / 8 := IntWalk.i64_in _ (by omega)
      have h313 : (k : Int) / 8 < 313 := by omega
      have h08 : 0 ≤ (k : Int) / 8 := by omega
      have ht8 : ((k : Int) / 8).toNat = k / 8 := by omega
      have htk : (k : Int).toNat = k := by omega
      have hbs' := Lib.hid hbs
      clear hbs
      go_wp2_with fail
      refine wp_region_still_tail 14 (by kernel_rfl) (by kernel_rfl) ?_
      simp only [List.take_succ_cons, List.take_zero, List.drop_succ_cons, List.drop_zero]
      repeat still_step
      still_call hbs'.out
      repeat still_step
      refine wpStill_nil ?_
      change wpList _ _ _ _ _ wr.drew
      clear hw8 ht8
      generalize hwd : wr.drew = wd
      have hfd : wd.frozen? ⟨w.heap.size + 1, k, none⟩ = false := by subst hwd; exact hfro
      have hod : wd.cell? ⟨w.heap.size + 1, k, none⟩ = some (.int .u8 oldv) := by subst hwd; exact hold
      have hownd : wd.ownsRow (w.heap.size + 1) 5 1 (.slice (some ⟨w.heap.size + 1, 0, none⟩) (BM.bytesOf l.length) (BM.bytesOf l.length)) (BM.bytesOf l.length) (doneCells l k) := by subst hwd; exact hown.drew
      have hbd : Below w.heap.size w wd := by subst hwd; exact hb1.drew
      have hzd : w.heap.size + 1 ≤ wd.heap.size := by subst hwd; exact hsz1
      have hrd : wd.heap[w.heap.size]? = some (.cells #[.string ByteArray.empty, .int .i64 0] 77 (0, 0)) := by subst hwd; exact hres
      clear hwd hfro hold hown hb1 hsz1 hres hcell
      have Hrd := Lib.hid hrd
      clear hrd
      go_wp2_with fail
      go_roundw
      case rel =>
        refine ⟨k + 1, by omega, by go_num, ?_, ?_, ?_, ?_⟩
        · rw [doneCells_succ _ _ hlt, Hval.out]
          exact (hownd.stored k _).1
        · exact hbd.setCell (by simp) _
        · simpa [World.setCell] using hzd
        · rw [Below.heap_setCell _ _ _ _ (by simp)]; exact Hrd.out
      case measure => simp [intOf]; omega
    · obtain rfl : k = BM.bytesOf l.length := by omega
      have hconv : ∀ W : World, W.heap = wr.heap → (convert 22 9 (.slice (some ⟨w.heap.size + 1, 0, none⟩) (BM.bytesOf l.length) (BM.bytesOf l.length))).run Tryd.prog W = .ok (.string ⟨(BM.pack l).toArray⟩) W := by
        intro W hW
        have h := run_convert_bytes_arg (P := Tryd.prog) W 22 5 Tryd.underlying22 Tryd.underlying5 (w.heap.size + 1) 0 (BM.bytesOf l.length) (BM.bytesOf l.length)
          ((BM.pack l).map fun c => (c.toNat : Int)) (by simp [BM.pack_length])
          (fun i hi => by
            have hc : W.cell? ⟨w.heap.size + 1, 0 + i, none⟩ = wr.cell? ⟨w.heap.size + 1, 0 + i, none⟩ := by simp [World.cell?, hW]
            rw [hc, Nat.zero_add, hown.cellAt _ (by omega), doneCells_get _ _ _ hi, if_pos hi]
            have e : (BM.pack l)[i]? = some (BM.packByte l i) := by simp [BM.pack, hi]
            rw [List.getD_eq_getElem?_getD, List.getElem?_map, e]
            simp only [Option.map_some, Option.getD_some]
            rw [BM.packByte_toNat, byteNo]) 9 Tryd.underlying9
        have hstr : strOfNums ((BM.pack l).map fun c => (c.toNat : Int)) = ⟨(BM.pack l).toArray⟩ := by
          unfold strOfNums
          rw [List.map_map]
          congr 2
          rw [show ((fun n => UInt8.ofNat (Int.toNat n)) ∘ fun (c : UInt8) => (c.toNat : Int)) = id from funext fun c => by simp, List.map_id]
        rw [hstr] at h
        exact h
      have hcv := hconv wr.drew rfl
      have hcn := Hbl.last hw.1
      have hr0 : wr.cell? ⟨w.heap.size, 0, none⟩ = some (.string ByteArray.empty) := by rw [cell_of_row wr _ _ _ _ _ hres]; rfl
      have hr1 : wr.cell? ⟨w.heap.size, 1, none⟩ = some (.int .i64 0) := by rw [cell_of_row wr _ _ _ _ _ hres]; rfl
      have hf0 : wr.frozen? ⟨w.heap.size, 0, none⟩ = false := by simp [World.frozen?, hres]
      have hf1 : wr.frozen? ⟨w.heap.size, 1, none⟩ = false := by simp [World.frozen?, hres]
      clear hconv hres Hbl hown
      go_wp2_with fail
      go_region
      go_wp2_with fail
      exact bodyPost_ret (v := .agg #[.string ⟨(BM.pack l).toArray⟩, .int .i64 (l.length : Int)]) (by simp [results, Tryd.results100, go_sem, hr0, hr1]) rfl
        ⟨rfl, ((hb1.setCell (by simp) _).setCell (by simp) _).drew⟩
end Go.Proofs.YtanoohfhifhhaaaDoor
