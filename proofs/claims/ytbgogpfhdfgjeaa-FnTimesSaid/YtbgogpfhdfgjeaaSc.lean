/- Walks: the program reads a list from bits: readFrom with a reader of its own. -/
import Derived.Test.YtbgogpfhdfgjeaaHj
import Derived.Test.YtbgogpfhdfgjeaaSb
set_option linter.unusedVariables false
set_option linter.unusedSimpArgs false
namespace Go.Proofs.Ytbgogpfhdfgjeaa
open Go.RowKit

/-- what a read of a list returns -/
def ReadOut (r : Option (List Int × Nat)) (w : World) (e : Ending) (w' : World) : Prop := match r with
  | some (xs, q) => ∃ v, e = .returned (.tuple #[v, .int .i64 (q : Int), .bool true]) ∧ w'.ownsRow w.heap.size 2 1 v xs.length (ints xs) ∧ (∀ j, Rng (xs.getD j 0)) ∧ xs.length ≤ 120
  | none => e = .returned (.tuple #[.slice none 0 0, .int .i64 0, .bool false])
theorem own_setCell {w : World} {B g i : Nat} {e : TypeId} {size : Nat} {v : Value} {n : Nat} {xs : List Value} {u : Value} (h : w.ownsRow B e size v n xs) (hg : g < B) : (w.setCell ⟨g, i, none⟩ u).ownsRow B e size v n xs :=
  own_grown h (grown_set (World.grownBy.refl w (some g)) i u) hg

theorem catch2_panicking (p : Addr) (x : Bool) (u : TypeId) (pv : Value) (older : List PanicEntry) (w : World) (hc : w.cell? p = some (.bool x)) (hz : w.frozen? p = false) :
    CallsD Try.prog 93 #[.pointer (some p)] (.panicking ({ v := .iface u pv, recovered := false } :: older)) w fun e u' w' =>
      e = .returned (.tuple #[]) ∧ u' = .panicking ({ v := .iface u pv, recovered := true } :: older) ∧ w' = w.setCell p (.bool false) := by
  refine callsD_of_wpS Try.func93 rfl fun c₀ cs hu => ?_
  apply wpS_seq
  apply wpS_region
  simp [wpOpsS, go_sem, recoverD, hu, Try.ntmps93, Exit.thenS]
  refine wpS_cond (t := true) (by simp [Act.eval, Array.replicate]) ?_
  simp only [if_true]
  apply wpS_region
  simp [wpOpsS, go_sem, hc, hz, bodyPostS, results, Try.results93]

theorem catch2_idle (p : Addr) (w : World) :
    CallsD Try.prog 93 #[.pointer (some p)] .returning w fun e u' w' => e = .returned (.tuple #[]) ∧ u' = .returning ∧ w' = w := by
  refine callsD_of_wpS Try.func93 rfl fun c₀ cs hu => ?_
  apply wpS_seq
  apply wpS_region
  simp [wpOpsS, go_sem, recoverD, hu, Try.ntmps93, Exit.thenS]
  refine wpS_cond (t := false) (by simp [Act.eval, Array.replicate]) ?_
  simp only [Bool.false_eq_true, if_false]
  refine wpS_of_wp (wp_skip ?_)
  cases c₀
  simp_all [bodyPostS, results, Try.results93]
set_option maxRecDepth 100000 in
set_option maxHeartbeats 1000000 in
theorem readFrom2_bad (s : ByteArray) (N a : Int) (rv : Value) (w : World) (hs : s.size ≤ maxLen) (h : hasB s N a 0 = false) (hrv : rv.oneCell' = true) :
    Calls Try.prog 67 #[.agg #[.string s, .int .i64 N], .int .i64 a, rv] w (RetBelow (.tuple #[.slice none 0 0, .int .i64 0, .bool false]) w) := by
  have H := Lib.hid (fun W => hasBits_any s N a 0 W hs (by omega))
  rw [h] at H
  clear h
  go_enter_defers Try.func67, Try.ntmps67
  go_wp2_with fail
  refine (H.out _).mono ?_
  rintro e w1 ⟨rfl, hb⟩
  have ok0 : OkB ((w.alloc (.cells #[.string s, .int .i64 N] 26)).alloc (.cells #[.bool false] 4)) (w.heap.size + 1) false := heap_alloc2_new _ _ _
  have ok1 := ok0.below hb
  have c1 := ok1.c
  have f1 := ok1.f
  have HF := Lib.hid ((below2 w (.cells #[.string s, .int .i64 N] 26) (.cells #[.bool false] 4)).trans (hb.mono (by simp; omega)))
  clear ok0 ok1 hb
  go_wp2_with fail
  have c2 : (w1.setCell ⟨w.heap.size + 1, 0, none⟩ (.bool false)).cell? ⟨w.heap.size + 1, 0, none⟩ = some (.bool false) := World.cell?_setCell_same' _ _ _ (by rw [c1]; rfl)
  have HF2 := Below.setCell HF.out (show w.heap.size ≤ (⟨w.heap.size + 1, 0, none⟩ : Addr).block by simp) (.bool false)
  simp [bodyPostD, Leaves, results, Try.results67, go_sem, c2]
  exact ⟨rfl, HF2⟩

set_option maxRecDepth 100000 in
set_option maxHeartbeats 1000000 in
theorem readFrom2_go (s : ByteArray) (n p b : Nat) (R : List Nat → Option (List Int × Nat)) (w : World) (hs : s.size ≤ maxLen) (h : hasB s (n : Int) (p : Int) 0 = true) (hpn : p ≤ n) (hs2 : s.size ≤ 2500) (hok : okB s (n : Int) = true) (hN : n ≤ 20000)
    (hread : ∀ (ws : List Nat) (g : Nat) (W : World), Below w.heap.size w W → RK W g ws (n : Int) (p : Int) → RdW ws n → Calls Try.prog 68 #[.pointer (some ⟨g, 0, none⟩), .pointer (some ⟨b, 0, none⟩)] W (ListOut g ws n (R ws) W)) :
    Calls Try.prog 67 #[.agg #[.string s, .int .i64 (n : Int)], .int .i64 (p : Int), .func (.func 68) #[] #[.pointer (some ⟨b, 0, none⟩)]] w fun e w' => (∃ ws, BM.WordsF ws (fun j => decide (j < 8 * s.size) && BM.bitAt s.data.toList j) ∧ RdW ws n ∧ ReadOut (R ws) w e w') ∧ Below w.heap.size w w' := by
  have Hok := Lib.hid hok
  clear hok
  have H := Lib.hid (fun W => hasBits_any s (n : Int) (p : Int) 0 W hs (by omega))
  rw [h] at H
  clear h
  have HRd := Lib.hid hread
  have hU := Lib.hid (fun W => unpacked_any s (n : Int) W hs2)
  go_enter_defers Try.func67, Try.ntmps67
  go_wp2_with fail
  refine (H.out _).mono ?_
  rintro e w1 ⟨rfl, hb⟩
  have ok0 : OkB ((w.alloc (.cells #[.string s, .int .i64 (n : Int)] 26)).alloc (.cells #[.bool false] 4)) (w.heap.size + 1) false := heap_alloc2_new _ _ _
  have rs0 : ((w.alloc (.cells #[.string s, .int .i64 (n : Int)] 26)).alloc (.cells #[.bool false] 4)).heap[w.heap.size]? = some (.cells #[.string s, .int .i64 (n : Int)] 26 (0, 0)) := heap_alloc2_old _ _ _
  have rs1 : w1.heap[w.heap.size]? = some (.cells #[.string s, .int .i64 (n : Int)] 26 (0, 0)) := (hb.block _ (by simp; omega)).trans rs0
  have b0 : w1.cell? ⟨w.heap.size, 0, none⟩ = some (.string s) := by rw [cell_of_row w1 _ 0 _ _ _ rs1]; rfl
  have b1 : w1.cell? ⟨w.heap.size, 1, none⟩ = some (.int .i64 (n : Int)) := by rw [cell_of_row w1 _ 1 _ _ _ rs1]; rfl
  have OK := Lib.hid (ok0.below hb)
  have HF := Lib.hid ((below2 w (.cells #[.string s, .int .i64 (n : Int)] 26) (.cells #[.bool false] 4)).trans (hb.mono (by simp; omega)))
  have hsz : w.heap.size + 2 ≤ w1.heap.size := by have := hb.size; simpa using this
  clear ok0 hb rs0 rs1 hread
  go_wp2_with fail
  refine (hU.out _).mono ?_
  rintro e w2 ⟨ws, rfl, hws, hb2⟩
  have HF2 := Lib.hid (HF.out.trans (hb2.mono (by omega)))
  have OK2 := Lib.hid (OK.out.below hb2)
  have HW := Lib.hid (rdW_of Hok.out hws hN)
  have hl := hws.1
  have HWS := Lib.hid hws
  have hsz2 : w1.heap.size ≤ w2.heap.size := hb2.size
  have ra : (w2.alloc (.cells (rdCells zeroWs 0 0) 124)).heap[w2.heap.size]? = some (.cells (rdCells zeroWs 0 0) 124 (0, 0)) := heap_alloc_new w2 _
  have RA := Lib.hid ra
  clear hb2 hws b0 b1 ra
  go_wp2_with (first
    | (with_reducible refine wl_alloc_rd ?_)
    | (with_reducible refine wl_build_rd _ _ ws (n : Int) (p : Int) hl ?b1 ?b2 ?_)
    | (with_reducible refine wl_store_rd _ _ ?gg w2.heap.size ws (n : Int) (p : Int) (rdCells zeroWs 0 0) ?hb ?ho hl ?hx ?hg ?hy ?_))
  case b1 => rfl
  case b2 => rfl
  case hb => exact RA.out
  case ho => exact rdCells_size zeroWs_len
  case hx => rfl
  case hg => rfl
  case hy => rfl
  have hk : RK ((w2.alloc (.cells (rdCells zeroWs 0 0) 124)).setRow w2.heap.size (rdCells ws (n : Int) (p : Int))) w2.heap.size ws (n : Int) (p : Int) := setRow_heap _ _ _ _ _ _ RA.out
  have hb3 : Below w2.heap.size w2 ((w2.alloc (.cells (rdCells zeroWs 0 0) 124)).setRow w2.heap.size (rdCells ws (n : Int) (p : Int))) := ((Below.refl w2.heap.size w2).alloc (Nat.le_refl _) _).trans ⟨rfl, rfl, rfl, by simp, fun k hk => setRow_other _ _ _ _ (by omega)⟩
  generalize ((w2.alloc (.cells (rdCells zeroWs 0 0) 124)).setRow w2.heap.size (rdCells ws (n : Int) (p : Int))) = wa at *
  have hba : Below w.heap.size w wa := HF2.out.trans (hb3.mono (by omega))
  have hza := hb3.size
  refine (HRd.out ws w2.heap.size wa hba hk HW.out).mono ?_
  intro e w3 h3
  have OKa := OK2.out.below hb3
  cases hr : R ws with
  | none =>
    obtain ⟨⟨u, pv, rfl⟩, hg3⟩ := h3.none' hr
    have ok3 := OKa.grown hg3 (by omega)
    have c3 := ok3.c
    have f3 := ok3.f
    have HB := Lib.hid (grown_below (m := w.heap.size) hba hg3 (by omega) (by omega))
    have hre := Lib.hid hr
    clear h3 ok3 hg3 hba hb3 OKa hk
    refine leaves_cons (f := 93) (args := #[.pointer (some ⟨w.heap.size + 1, 0, none⟩)]) (by simp) (by simp [go_sem]) ?_
    refine (catch2_panicking ⟨w.heap.size + 1, 0, none⟩ false u pv [] _ c3 f3).mono ?_
    rintro e u' w'' ⟨rfl, rfl, rfl⟩
    have c4 : (w3.setCell ⟨w.heap.size + 1, 0, none⟩ (.bool false)).cell? ⟨w.heap.size + 1, 0, none⟩ = some (.bool false) := World.cell?_setCell_same' _ _ _ (by rw [c3]; rfl)
    have HB2 := Below.setCell HB.out (show w.heap.size ≤ (⟨w.heap.size + 1, 0, none⟩ : Addr).block by simp) (.bool false)
    simp only [Leaves, settle, List.all_cons, List.all_nil]
    simp [Leaves, results, Try.results67, go_sem, c4]
    exact ⟨⟨ws, HWS.out, HW.out, by rw [hre.out]; rfl⟩, HB2⟩
  | some dq =>
    obtain ⟨xs, q⟩ := dq
    obtain ⟨⟨v3, rfl, hown3⟩, hk3, hg3, hrng, hl3⟩ := h3.some' hr
    have ok3 := OKa.grown hg3 (by omega)
    have c3 := ok3.c
    have f3 := ok3.f
    have ca := hk3.at' hl
    have HB := Lib.hid (grown_below (m := w.heap.size) hba hg3 (by omega) (by omega))
    have HR := Lib.hid hr
    have HRn := Lib.hid hrng
    have HO3 := Lib.hid (u_ownsRow_base hown3 (Nat.le_refl _))
    have hwa : w2.heap.size < wa.heap.size := hk.lt
    clear h3 ok3 hg3 hba hb3 OKa hk hk3 hr hrng hown3
    go_wp2_with fail
    go_still_tail 5, (by kernel_rfl)
    change wpList _ _ _ _ _ w3.drew
    have c4 : w3.drew.cell? ⟨w.heap.size + 1, 0, none⟩ = some (.bool false) := c3
    have f4 : w3.drew.frozen? ⟨w.heap.size + 1, 0, none⟩ = false := f3
    have HO4 : Hid (w3.drew.ownsRow wa.heap.size 2 1 v3 xs.length (ints xs)) := Lib.hid HO3.out
    have HB4 : Hid (Below w.heap.size w w3.drew) := Lib.hid (by obtain ⟨h1, h2, h3, h4, h5⟩ := HB.out; exact ⟨h1, h2, h3, h4, h5⟩)
    generalize w3.drew = w4 at *
    go_wp2_with fail
    have c5 : (w4.setCell ⟨w.heap.size + 1, 0, none⟩ (.bool true)).cell? ⟨w.heap.size + 1, 0, none⟩ = some (.bool true) := World.cell?_setCell_same' _ _ _ (by rw [c4]; rfl)
    have HO5 := Lib.hid (own_setCell HO4.out (i := 0) (u := .bool true) (show w.heap.size + 1 < wa.heap.size by omega))
    have HB5 := Below.setCell HB4.out (show w.heap.size ≤ (⟨w.heap.size + 1, 0, none⟩ : Addr).block by simp) (.bool true)
    generalize (w4.setCell ⟨w.heap.size + 1, 0, none⟩ (.bool true)) = w5 at *
    refine leaves_cons (f := 93) (args := #[.pointer (some ⟨w.heap.size + 1, 0, none⟩)]) (by simp) (by simp [go_sem]) ?_
    refine (catch2_idle ⟨w.heap.size + 1, 0, none⟩ _).mono ?_
    rintro e u' w'' ⟨rfl, rfl, rfl⟩
    simp only [Leaves, settle]
    simp [Leaves, results, Try.results67, go_sem, c5]
    exact ⟨⟨ws, HWS.out, HW.out, by rw [HR.out]; exact ⟨_, rfl, u_ownsRow_base HO5.out (by omega), HRn.out, hl3⟩⟩, HB5⟩
end Go.Proofs.Ytbgogpfhdfgjeaa
