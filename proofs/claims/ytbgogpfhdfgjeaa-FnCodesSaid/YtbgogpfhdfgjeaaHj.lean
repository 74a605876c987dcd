/- Walks: the program reads from bits: readFrom, where there are bits. -/
import Derived.Test.YtbgogpfhdfgjeaaHi
set_option linter.unusedVariables false
set_option linter.unusedSimpArgs false
namespace Go.Proofs.Ytbgogpfhdfgjeaa
open Go.RowKit

def readT : Option (Int × Nat) → Value
  | some (d, q) => .tuple #[.int .i64 d, .int .i64 (q : Int), .bool true]
  | none => .tuple #[.int .i64 0, .int .i64 0, .bool false]
theorem rdW_of {s : ByteArray} {n : Nat} {ws : List Nat} (hok : okB s (n : Int) = true) (hw : BM.WordsF ws (fun j => decide (j < 8 * s.size) && BM.bitAt s.data.toList j)) (hN : n ≤ 20000) : RdW ws n :=
  ⟨hw.1, hw.2.1, hN, (rdW_of_words (ok_words hok hw)).v⟩
theorem grown_below {a b c : World} {g m : Nat} (h : Below m a b) (k : b.grownBy c (some g)) (hg : m ≤ g) (hm : m ≤ b.heap.size) : Below m a c :=
  ⟨k.os.trans h.os, k.tape.trans h.tape, k.output.trans h.output, Nat.le_trans h.size k.size, fun i hi => (k.block i (by omega) (by intro he; injection he with he; omega)).trans (h.block i hi)⟩
set_option maxRecDepth 100000 in
set_option maxHeartbeats 1000000 in
theorem readFrom1_go (s : ByteArray) (n p gc : Nat) (w : World) (hs : s.size ≤ maxLen) (h : hasB s (n : Int) (p : Int) 0 = true) (hpn : p ≤ n) (hcs : CodesAt w gc) (hs2 : s.size ≤ 2500) (hok : okB s (n : Int) = true) (hN : n ≤ 20000) :
    Calls Try.prog 52 #[.agg #[.string s, .int .i64 (n : Int)], .int .i64 (p : Int), .func (.func 53) #[.pointer (some ⟨gc, 0, none⟩)] #[]] w fun e w' => (∃ ws, BM.WordsF ws (fun j => decide (j < 8 * s.size) && BM.bitAt s.data.toList j) ∧ e = .returned (readT (getR ws n p))) ∧ Below w.heap.size w w' := by
  have Hok := Lib.hid hok
  clear hok
  have H := Lib.hid (fun W => hasBits_any s (n : Int) (p : Int) 0 W hs (by omega))
  rw [h] at H
  clear h
  have HC := Lib.hid hcs
  have hU := Lib.hid (fun W => unpacked_any s (n : Int) W hs2)
  go_enter_defers Try.func52, Try.ntmps52
  go_wp2_with fail
  refine (H.out _).mono ?_
  rintro e w1 ⟨rfl, hb⟩
  have ok0 : OkB ((w.alloc (.cells #[.string s, .int .i64 (n : Int)] 26)).alloc (.cells #[.bool false] 4)) (w.heap.size + 1) false := heap_alloc2_new _ _ _
  have rs0 : ((w.alloc (.cells #[.string s, .int .i64 (n : Int)] 26)).alloc (.cells #[.bool false] 4)).heap[w.heap.size]? = some (.cells #[.string s, .int .i64 (n : Int)] 26 (0, 0)) := heap_alloc2_old _ _ _
  have rs1 : w1.heap[w.heap.size]? = some (.cells #[.string s, .int .i64 (n : Int)] 26 (0, 0)) := (hb.block _ (by simp; omega)).trans rs0
  have b0 : w1.cell? ⟨w.heap.size, 0, none⟩ = some (.string s) := by rw [cell_of_row w1 _ 0 _ _ _ rs1]; rfl
  have b1 : w1.cell? ⟨w.heap.size, 1, none⟩ = some (.int .i64 (n : Int)) := by rw [cell_of_row w1 _ 1 _ _ _ rs1]; rfl
  have OK := Lib.hid (ok0.below hb)
  have HF := Lib.hid ((below2 w (.cells #[.string s, .int .i64 (n : Int)] 26) (.cells #[.bool false] 4)).trans (hb.mono (by simp; omega)))
  have hsz : w.heap.size + 2 ≤ w1.heap.size := by have := hb.size; simpa using this
  clear ok0 hb rs0 rs1 hcs
  go_wp2_with fail
  refine (hU.out _).mono ?_
  rintro e w2 ⟨ws, rfl, hws, hb2⟩
  have HF2 := Lib.hid (HF.out.trans (hb2.mono (by omega)))
  have OK2 := Lib.hid (OK.out.below hb2)
  have HW := Lib.hid (rdW_of Hok.out hws hN)
  have hl := hws.1
  have HWS := Lib.hid hws
  have hsz2 : w1.heap.size ≤ w2.heap.size := hb2.size
  have ra : (w2.alloc (.cells (rdCells zeroWs 0 0) 124)).heap[w2.heap.size]? = some (.cells (rdCells zeroWs 0 0) 124 (0, 0)) := heap_alloc_new w2 _
  have RA := Lib.hid ra
  clear hb2 hws b0 b1 ra
  go_wp2_with (first
    | (with_reducible refine wl_alloc_rd ?_)
    | (with_reducible refine wl_build_rd _ _ ws (n : Int) (p : Int) hl ?b1 ?b2 ?_)
    | (with_reducible refine wl_store_rd _ _ ?gg w2.heap.size ws (n : Int) (p : Int) (rdCells zeroWs 0 0) ?hb ?ho hl ?hx ?hg ?hy ?_))
  case b1 => rfl
  case b2 => rfl
  case hb => exact RA.out
  case ho => exact rdCells_size zeroWs_len
  case hx => rfl
  case hg => rfl
  case hy => rfl
  have hk : RK ((w2.alloc (.cells (rdCells zeroWs 0 0) 124)).setRow w2.heap.size (rdCells ws (n : Int) (p : Int))) w2.heap.size ws (n : Int) (p : Int) := setRow_heap _ _ _ _ _ _ RA.out
  have hb3 : Below w2.heap.size w2 ((w2.alloc (.cells (rdCells zeroWs 0 0) 124)).setRow w2.heap.size (rdCells ws (n : Int) (p : Int))) := ((Below.refl w2.heap.size w2).alloc (Nat.le_refl _) _).trans ⟨rfl, rfl, rfl, by simp, fun k hk => setRow_other _ _ _ _ (by omega)⟩
  generalize ((w2.alloc (.cells (rdCells zeroWs 0 0) 124)).setRow w2.heap.size (rdCells ws (n : Int) (p : Int))) = wa at *
  have hba : Below w.heap.size w wa := HF2.out.trans (hb3.mono (by omega))
  have hza := hb3.size
  refine (codesGet_any gc w2.heap.size ws n p wa (HC.out.below (hba.mono (Nat.le_refl _))) hk HW.out hpn).mono ?_
  intro e w3 h3
  have OKa := OK2.out.below hb3
  cases hr : getR ws n p with
  | none =>
    obtain ⟨⟨u, pv, rfl⟩, hg3⟩ := h3.none' (by rw [hr]; rfl)
    have ok3 := OKa.grown hg3 (by omega)
    have c3 := ok3.c
    have f3 := ok3.f
    have HB := Lib.hid (grown_below (m := w.heap.size) hba hg3 (by omega) (by omega))
    have hre : readT (getR ws n p) = .tuple #[.int .i64 0, .int .i64 0, .bool false] := by rw [hr]; rfl
    clear h3 ok3 hg3 hba hb3 OKa hk
    refine leaves_cons (f := 86) (args := #[.pointer (some ⟨w.heap.size + 1, 0, none⟩)]) (by simp) (by simp [go_sem]) ?_
    refine (catch1_panicking ⟨w.heap.size + 1, 0, none⟩ false u pv [] _ c3 f3).mono ?_
    rintro e u' w'' ⟨rfl, rfl, rfl⟩
    have c4 : (w3.setCell ⟨w.heap.size + 1, 0, none⟩ (.bool false)).cell? ⟨w.heap.size + 1, 0, none⟩ = some (.bool false) := World.cell?_setCell_same' _ _ _ (by rw [c3]; rfl)
    have HB2 := Below.setCell HB.out (show w.heap.size ≤ (⟨w.heap.size + 1, 0, none⟩ : Addr).block by simp) (.bool false)
    simp only [Leaves, settle, List.all_cons, List.all_nil]
    simp [Leaves, results, Try.results52, go_sem, c4]
    exact ⟨⟨ws, HWS.out, hre.symm⟩, HB2⟩
  | some dq =>
    obtain ⟨d, q⟩ := dq
    obtain ⟨rfl, hk3, hg3⟩ := h3.some' (v := .int .i64 d) (q := q) (by rw [hr]; rfl)
    have ok3 := OKa.grown hg3 (by omega)
    have c3 := ok3.c
    have f3 := ok3.f
    have ca := hk3.at' hl
    have HB := Lib.hid (grown_below (m := w.heap.size) hba hg3 (by omega) (by omega))
    have HR := Lib.hid (show readT (getR ws n p) = .tuple #[.int .i64 d, .int .i64 (q : Int), .bool true] by rw [hr]; rfl)
    clear h3 ok3 hg3 hba hb3 OKa hk hk3 hr
    go_wp2_with fail
    go_still_tail 5, (by kernel_rfl)
    change wpList _ _ _ _ _ w3.drew
    have c4 : w3.drew.cell? ⟨w.heap.size + 1, 0, none⟩ = some (.bool false) := c3
    have f4 : w3.drew.frozen? ⟨w.heap.size + 1, 0, none⟩ = false := f3
    have HB4 : Hid (Below w.heap.size w w3.drew) := Lib.hid (by obtain ⟨h1, h2, h3, h4, h5⟩ := HB.out; exact ⟨h1, h2, h3, h4, h5⟩)
    generalize w3.drew = w4 at *
    go_wp2_with fail
    have c5 : (w4.setCell ⟨w.heap.size + 1, 0, none⟩ (.bool true)).cell? ⟨w.heap.size + 1, 0, none⟩ = some (.bool true) := World.cell?_setCell_same' _ _ _ (by rw [c4]; rfl)
    have HB5 := Below.setCell HB4.out (show w.heap.size ≤ (⟨w.heap.size + 1, 0, none⟩ : Addr).block by simp) (.bool true)
    generalize (w4.setCell ⟨w.heap.size + 1, 0, none⟩ (.bool true)) = w5 at *
    refine leaves_cons (f := 86) (args := #[.pointer (some ⟨w.heap.size + 1, 0, none⟩)]) (by simp) (by simp [go_sem]) ?_
    refine (catch1_idle ⟨w.heap.size + 1, 0, none⟩ _).mono ?_
    rintro e u' w'' ⟨rfl, rfl, rfl⟩
    simp only [Leaves, settle]
    simp [Leaves, results, Try.results52, go_sem, c5]
    exact ⟨⟨ws, HWS.out, HR.out.symm⟩, HB5⟩
end Go.Proofs.Ytbgogpfhdfgjeaa
