/- Walks: laws for the array of words as a whole; unpacked. -/
import Derived.Test.YtcmmognjnmbajaaDoorWf
import Derived.Test.YtcmmognjnmbajaaDoorWe
import Derived.StillTailTactics
set_option linter.unusedVariables false
set_option linter.unusedSimpArgs false
namespace Go.Proofs.YtcmmognjnmbajaaDoor
open Go.RowKit

def zeroWs : List Nat := List.replicate 313 0
theorem zeroWs_len : zeroWs.length = 313 := List.length_replicate
def baVal (ws : List Nat) (n : Int) : Value := .agg (baCells ws n)

theorem ba_zero : (Tryd.prog.info? 69).map (fun i => (i.zero, i.size)) = some (some (.agg (baCells zeroWs 0)), 314) := by kernel_rfl
theorem ba_size : (Tryd.prog.info? 69).map (·.size) = some 314 := by kernel_rfl
theorem ba_built (n : Int) : Tryd.prog.built 69 [(1, .int .i64 n)] = some (baCells zeroWs n) := by kernel_rfl
theorem ba_built0 : Tryd.prog.built 69 [] = some (baCells zeroWs 0) := by kernel_rfl

theorem run_alloc_ba (w : World) : (Instr.alloc 69 true (.tuple #[])).run Tryd.prog w = .ok (.pointer (some ⟨w.heap.size, 0, none⟩)) (w.alloc (.cells (baCells zeroWs 0) 69)) := by
  obtain ⟨i, hi, hz⟩ := Option.map_eq_some_iff.1 ba_zero
  simp only [Prod.mk.injEq] at hz
  simp [Instr.alloc, zeroValue, typeInfo, hi, hz.1, newVar, newRow, Value.cells]

theorem run_build_ba (n : Int) (w : World) : (Instr.build 69 #[(1, .int .i64 n)]).run Tryd.prog w = .ok (baVal zeroWs n) w :=
  run_build w _ _ _ (ba_built n)
theorem run_build_ba0 (w : World) : (Instr.build 69 #[]).run Tryd.prog w = .ok (baVal zeroWs 0) w :=
  run_build w _ _ _ ba_built0

theorem BaBlk.new (w : World) (ws : List Nat) (n : Int) : BaBlk (w.alloc (.cells (baCells ws n) 69)) w.heap.size ws n := heap_alloc_new w _
theorem baCells_one (ws : List Nat) (n : Int) : (baCells ws n).all (·.oneCell') = true := by
  rw [Array.all_eq_true_iff_forall_mem]
  intro v hv
  simp only [baCells, List.mem_toArray, List.mem_append, List.mem_map, List.mem_singleton] at hv
  rcases hv with ⟨x, _, rfl⟩ | rfl <;> rfl

theorem run_load_ba {w : World} {g : Nat} {ws : List Nat} {n : Int} (hb : BaBlk w g ws n) (hl : ws.length = 313) :
    (Instr.loadAt 69 (.pointer (some ⟨g, 0, none⟩))).run Tryd.prog w = .ok (baVal ws n) w := by
  simp only [Instr.loadAt, Instr.sureAddr, Sem.run_bind, Sem.run_pure, Result.andThen_ok]
  exact run_loadVar_row w g _ _ _ _ _ hb Tryd.underlying69 rfl (by rw [baCells_size _ _ hl]; exact ba_size)
theorem run_store_ba {w : World} {g : Nat} {old : Array Value} (hb : w.heap[g]? = some (.cells old 69 (0, 0))) (ho : old.size = 314) {ws : List Nat} {n : Int} (hl : ws.length = 313) :
    (Instr.storeAt 69 (.pointer (some ⟨g, 0, none⟩)) (baVal ws n)).run Tryd.prog w = .ok () (w.setRow g (baCells ws n)) := by
  simp only [Instr.storeAt, Instr.sureAddr, Sem.run_bind, Sem.run_pure, Result.andThen_ok]
  exact run_storeVar_row w g _ _ old (baCells ws n) hb (by rw [baCells_size _ _ hl]; exact ba_size) (by rw [baCells_size _ _ hl]; exact ho) (baCells_one ws n)
theorem BaBlk.setRow {w : World} {g : Nat} {ws ws' : List Nat} {n n' : Int} (hb : BaBlk w g ws n) : BaBlk (w.setRow g (baCells ws' n')) g ws' n' := setRow_heap w g _ _ _ _ hb

section
variable {ops : Array Oper} {rest : List Oper} {d : Option Tmp} {ty : TypeId} {pos : String} {af : Array Edge} {a : Act} {w : World} {Q : Exit → Act → World → Prop}

theorem wl_alloc_ba (h : wpList Tryd.prog ops Q rest (a.put d (.pointer (some ⟨w.heap.size, 0, none⟩))) (w.alloc (.cells (baCells zeroWs 0) 69))) :
    wpList Tryd.prog ops Q (⟨d, .alloc 69, ty, pos, af, none⟩ :: rest) a w := by
  refine wpList_plain rfl fun K hK => ?_
  unfold Oper.wp execOp
  simp only [run_alloc_ba, Sem.run_bind, Sem.run_pure, Result.andThen_ok]
  exact hK _ _ h
theorem wl_build_ba (x : Operand) (n : Int) (hx : a.eval x = .int .i64 n) (h : wpList Tryd.prog ops Q rest (a.put d (baVal zeroWs n)) w) :
    wpList Tryd.prog ops Q (⟨d, .build 69 #[(1, x)], ty, pos, af, none⟩ :: rest) a w := by
  refine wpList_plain rfl fun K hK => ?_
  unfold Oper.wp execOp
  simp only [List.map_toArray, List.map_cons, List.map_nil, hx, run_build_ba, Sem.run_bind, Sem.run_pure, Result.andThen_ok]
  exact hK _ _ h
theorem wl_build_ba0 (h : wpList Tryd.prog ops Q rest (a.put d (baVal zeroWs 0)) w) :
    wpList Tryd.prog ops Q (⟨d, .build 69 #[], ty, pos, af, none⟩ :: rest) a w := by
  refine wpList_plain rfl fun K hK => ?_
  unfold Oper.wp execOp
  simp only [List.map_toArray, List.map_nil, run_build_ba0, Sem.run_bind, Sem.run_pure, Result.andThen_ok]
  exact hK _ _ h
theorem wl_load_ba (x : Operand) (g : Nat) (ws : List Nat) (n : Int) (hb : BaBlk w g ws n) (hl : ws.length = 313) (hx : a.eval x = .pointer (some ⟨g, 0, none⟩)) (h : wpList Tryd.prog ops Q rest (a.put d (baVal ws n)) w) :
    wpList Tryd.prog ops Q (⟨d, .load 69 x, ty, pos, af, none⟩ :: rest) a w := by
  refine wpList_plain rfl fun K hK => ?_
  unfold Oper.wp execOp
  simp only [hx, run_load_ba hb hl, Sem.run_bind, Sem.run_pure, Result.andThen_ok]
  exact hK _ _ h
theorem wl_store_ba (x y : Operand) (g' g : Nat) (ws ws' : List Nat) (n n' : Int) (hb : BaBlk w g ws n) (hl : ws.length = 313) (hl' : ws'.length = 313) (hx : a.eval x = .pointer (some ⟨g', 0, none⟩)) (hg : g' = g) (hy : a.eval y = baVal ws' n')
    (h : wpList Tryd.prog ops Q rest (a.put d undef) (w.setRow g (baCells ws' n'))) :
    wpList Tryd.prog ops Q (⟨d, .store 69 x y, ty, pos, af, none⟩ :: rest) a w := by
  subst hg
  refine wpList_plain rfl fun K hK => ?_
  unfold Oper.wp execOp
  simp only [hx, hy, run_store_ba hb (baCells_size _ _ hl) hl', Sem.run_bind, Sem.run_pure, Result.andThen_ok]
  exact hK _ _ h
end

set_option maxRecDepth 100000 in
set_option maxHeartbeats 400000 in
theorem byteShift_any (i : Nat) (w : World) (h : i ≤ 100000) :
    Calls Tryd.prog 90 #[.int .i64 (i : Int)] w fun e w' => e = .returned (.int .i64 ((56 - i % 8 * 8 : Nat) : Int)) ∧ w' = w := by
  have e : ((56 - i % 8 * 8 : Nat) : Int) = 56 - (i : Int) % 8 * 8 := by omega
  rw [e]
  clear e
  go_enter Tryd.func90, Tryd.ntmps90
  go_wp2
  go_ret
  exact ⟨rfl, rfl⟩

theorem orByte_val {y x s : Nat} (hy : y < 2 ^ 64) (hx : x < 256) :
    bits .or .u64 (y : Int) (IntKind.u64.wrap (IntKind.u64.wrap (x : Int) * 2 ^ s)) = ((y ||| x * 2 ^ s % 2 ^ 64 : Nat) : Int) := by
  have e : IntKind.u64.wrap (x : Int) = (x : Int) := by rw [IntKind.wrap_u64]; omega
  rw [e, u64_shl, u64_or _ _ hy (Nat.mod_lt _ (Nat.two_pow_pos _))]

def UnpPost (s : ByteArray) (n : Int) (w : World) (e : Ending) (w' : World) : Prop :=
  ∃ ws, e = .returned (baVal ws n) ∧ BM.WordsF ws (fun j => decide (j < 8 * s.size) && BM.bitAt s.data.toList j) ∧ Below w.heap.size w w'
theorem byte_of (s : ByteArray) (k : Nat) (h : k < s.size) : s.data.toList.getD k 0 = s[k] := by
  have h' : k < s.data.toList.length := by simpa using h
  rw [List.getD_eq_getElem?_getD, List.getElem?_eq_getElem h']
  rfl

set_option maxRecDepth 100000 in
set_option maxHeartbeats 1000000 in
theorem unpacked_any (s : ByteArray) (n : Int) (w : World) (hs : s.size ≤ 2500) :
    Calls Tryd.prog 99 #[.agg #[.string s, .int .i64 n]] w (UnpPost s n w) := by
  have hB : BaBlk (((w.alloc (.cells #[.string s, .int .i64 n] 27)).alloc (.cells (baCells zeroWs 0) 69)).alloc (.cells (baCells zeroWs 0) 69)) (w.heap.size + 1 + 1) zeroWs 0 := by
    have h := heap_alloc2_new (w.alloc (.cells #[.string s, .int .i64 n] 27)) (.cells (baCells zeroWs 0) 69) (.cells (baCells zeroWs 0) 69)
    rw [World.size_alloc] at h
    exact h
  obtain ⟨W0, hW0⟩ : ∃ W0, W0 = ((w.alloc (.cells #[.string s, .int .i64 n] 27)).alloc (.cells (baCells zeroWs 0) 69)).alloc (.cells (baCells zeroWs 0) 69) := ⟨_, rfl⟩
  have hR : BaBlk W0 (w.heap.size + 1) zeroWs 0 := by
    subst hW0
    have h := heap_alloc2_old (w.alloc (.cells #[.string s, .int .i64 n] 27)) (.cells (baCells zeroWs 0) 69) (.cells (baCells zeroWs 0) 69)
    rw [World.size_alloc] at h
    exact h
  have hC : W0.cell? ⟨w.heap.size, 0, none⟩ = some (.string s) := by subst hW0; go_simp
  have hW : Below w.heap.size w W0 := by
    subst hW0
    exact (((Below.refl _ _).alloc (Nat.le_refl _) _).alloc (by simp) _).alloc (by simp; omega) _
  have hZ : W0.heap.size = w.heap.size + 1 + 1 + 1 := by subst hW0; simp
  rw [← hW0] at hB
  have hB1 : BaBlk (W0.setRow (w.heap.size + 1 + 1) (baCells zeroWs n)) (w.heap.size + 1 + 1) zeroWs n := hB.setRow
  have hR1 : BaBlk (W0.setRow (w.heap.size + 1 + 1) (baCells zeroWs n)) (w.heap.size + 1) zeroWs 0 := (setRow_other W0 _ _ _ (by omega)).trans hR
  have hC1 : (W0.setRow (w.heap.size + 1 + 1) (baCells zeroWs n)).cell? ⟨w.heap.size, 0, none⟩ = some (.string s) := (cell_setRow_other W0 _ _ _ (by simp; omega)).trans hC
  have hW1 : Below w.heap.size w (W0.setRow (w.heap.size + 1 + 1) (baCells zeroWs n)) := hW.trans ⟨rfl, rfl, rfl, by simp, fun k hk => setRow_other W0 _ _ _ (by omega)⟩
  have hZ1 : (W0.setRow (w.heap.size + 1 + 1) (baCells zeroWs n)).heap.size = w.heap.size + 1 + 1 + 1 := by simp [hZ]
  have HB := Lib.hid hB
  have HB1 := Lib.hid hB1
  have HR1 := Lib.hid hR1
  have HZ1 := Lib.hid hZ1
  clear hB hR hC hW hZ hB1 hR1 hZ1
  rw [hW0] at HB HB1 HR1 HZ1 hC1 hW1
  clear hW0 W0
  go_enter Tryd.func99, Tryd.ntmps99
  go_wp2_with (first
    | (with_reducible refine wl_alloc_ba ?_)
    | ((with_reducible refine wl_build_ba _ n ?_ ?_); · rfl)
    | (with_reducible refine wl_store_ba _ _ ?gg (w.heap.size + 1 + 1) zeroWs zeroWs 0 n ?hb zeroWs_len zeroWs_len ?hx ?hg ?hy ?_))
  case hx => rfl
  case hy => rfl
  case hg => simp
  case hb => exact HB.out
  generalize World.setRow _ _ _ = W1 at *
  go_loopw [11] (fun i wr => ∃ (k : Nat) (ws : List Nat), k ≤ s.size ∧ i = .int .i64 k ∧ BM.WordsF ws (fun j => decide (j < 8 * k) && BM.bitAt s.data.toList j) ∧
      BaBlk wr (w.heap.size + 1 + 1) ws n ∧ BaBlk wr (w.heap.size + 1) zeroWs 0 ∧ wr.cell? ⟨w.heap.size, 0, none⟩ = some (.string s) ∧ Below w.heap.size w wr ∧ w.heap.size + 3 ≤ wr.heap.size)
    (fun i _ => s.size - (intOf i).toNat)
  case atStart =>
    refine ⟨0, zeroWs, Nat.zero_le _, rfl, BM.wordsF_congr BM.wordsF_zero (fun j => by simp), HB1.out, HR1.out, hC1, hW1, by have := HZ1.out; omega⟩
  case round =>
    clear hC1 hW1 HB1 HR1 HZ1 HB
    obtain ⟨k, ws, hk, rfl, hws, hb, hr, hc, hbel, hz⟩ := hrel
    by_cases hlt : k < s.size
    · have hcell := hb.word (k / 8) (by rw [hws.1]; omega)
      have hfro := hb.frozen (k / 8)
      have hy := hws.2.1 (k / 8)
      generalize hyy : ws.getD (k / 8) 0 = y at hcell hy
      have Hyy := Lib.hid hyy
      have Hb := Lib.hid hb
      have Hr := Lib.hid hr
      clear hyy hb hr
      have h313 : (k : Int) / 8 < 313 := by omega
      have h08 : 0 ≤ (k : Int) / 8 := by omega
      have hks : (k : Int) < (s.size : Int) := by omega
      have hbs := byteShift_any k wr.drew (by omega)
      have hw8 : IntKind.i64.wrap ((k : Int) / 8) = (k : Int) / 8 := IntWalk.i64_in _ (by omega)
      have ht8 : ((k : Int) / 8).toNat = k / 8 := by omega
      have htk : (k : Int).toNat = k := by omega
      have hbs' := Lib.hid hbs
      clear hbs
      go_wp2_with fail
      refine wp_region_still_tail 16 (by kernel_rfl) (by kernel_rfl) ?_
      simp only [List.take_succ_cons, List.take_zero, List.drop_succ_cons, List.drop_zero]
      repeat still_step
      still_call hbs'.out
      repeat still_step
      refine wpStill_nil ?_
      change wpList _ _ _ _ _ wr.drew
      clear hw8 ht8
      generalize hwd : wr.drew = wd
      have hfd : wd.frozen? ⟨w.heap.size + 1 + 1, k / 8, none⟩ = false := by subst hwd; exact hfro
      have hcd : wd.cell? ⟨w.heap.size + 1 + 1, k / 8, none⟩ = some (.int .u64 (y : Int)) := by subst hwd; exact hcell
      have Hbd : Hid (BaBlk wd (w.heap.size + 1 + 1) ws n) := by subst hwd; exact Hb
      have Hrd : Hid (BaBlk wd (w.heap.size + 1) zeroWs 0) := by subst hwd; exact Hr
      have hsd : wd.cell? ⟨w.heap.size, 0, none⟩ = some (.string s) := by subst hwd; exact hc
      have hbd : Below w.heap.size w wd := by subst hwd; exact hbel.drew
      have hzd : w.heap.size + 3 ≤ wd.heap.size := by subst hwd; exact hz
      clear hwd hfro hcell Hb Hr hc hbel hz
      go_wp2_with fail
      go_roundw
      case rel =>
        refine ⟨k + 1, BM.orByte ws k (s.data.toList.getD k 0).toNat, by omega, by go_num, BM.wordsF_step hws (by omega), ?_, ?_, ?_, ?_, ?_⟩
        · rw [orByte_val hy (UInt8.toNat_lt _), byte_of s k hlt]
          unfold BM.orByte
          rw [Hyy.out]
          exact Hbd.out.setWord (k / 8) _ (by rw [hws.1]; omega)
        · exact (Below.heap_setCell wd _ _ _ (by simp; try omega)).trans Hrd.out
        · rw [World.cell?_setCell_other _ _ _ _ (by simp)]; exact hsd
        · exact hbd.setCell (by simp; omega) _
        · simpa [World.setCell] using hzd
      case measure => simp [intOf]; omega
    · go_wp2_with (first
        | (with_reducible refine wl_load_ba _ (w.heap.size + 1 + 1) ws n ?hb1 ?hl1 ?hx1 ?_)
        | (with_reducible refine wl_store_ba _ _ ?gg2 (w.heap.size + 1) zeroWs ws 0 n ?hb2 zeroWs_len ?hl2 ?hx2 ?hg2 ?hy2 ?_))
      case hb1 => exact hb
      case hl1 => exact hws.1
      case hx1 => rfl
      case hb2 => exact hr
      case hl2 => exact hws.1
      case hx2 => rfl
      case hg2 => rfl
      case hy2 => rfl
      obtain rfl : k = s.size := by omega
      have hfin : BaBlk (wr.setRow (w.heap.size + 1) (baCells ws n)) (w.heap.size + 1) ws n := hr.setRow
      exact bodyPost_ret (results_cell_row rfl _ _ (w.heap.size + 1) _ (baCells ws n) (0, 0) _ rfl hfin Tryd.underlying69 rfl (by rw [baCells_size _ _ hws.1]; exact ba_size)) rfl
        ⟨ws, rfl, hws, hbel.trans ⟨rfl, rfl, rfl, by simp, fun k hk => setRow_other wr _ _ _ (by omega)⟩⟩
end Go.Proofs.YtcmmognjnmbajaaDoor
