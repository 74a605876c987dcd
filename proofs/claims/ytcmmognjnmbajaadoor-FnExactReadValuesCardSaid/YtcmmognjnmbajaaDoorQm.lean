/- Walks: the program's reader of a window, of a change. -/
import Derived.Test.YtcmmognjnmbajaaDoorHb
set_option linter.unusedVariables false
set_option linter.unusedSimpArgs false
namespace Go.Proofs.YtcmmognjnmbajaaDoor
open Go.RowKit

def winR (ws : List Nat) (N p : Nat) : Option (Value × Nat) :=
  if p + 11 ≤ N ∧ BM.getW ws p 5 + (BM.getW ws (p + 5) 6 + 1) ≤ 64 then some (.agg #[.int .i64 (BM.getW ws p 5 : Int), .int .i64 ((BM.getW ws (p + 5) 6 : Int) + 1)], p + 11) else none
theorem RK.alloc {w : World} {g : Nat} {ws : List Nat} {N p : Int} (h : RK w g ws N p) (o : Obj) : RK (w.alloc o) g ws N p := (Below.heap_alloc _ _ _ h.lt).trans h
theorem RK.other {w : World} {g : Nat} {ws : List Nat} {N p : Int} (h : RK w g ws N p) {a : Addr} (ha : g ≠ a.block) (v : Value) : RK (w.setCell a v) g ws N p := (Below.heap_setCell _ _ _ _ ha).trans h
theorem qm_setNew {a w : World} {row : Option Nat} (h : a.grownBy w row) {p : Addr} (hp : a.heap.size ≤ p.block) (u : Value) : a.grownBy (w.setCell p u) row :=
  ⟨h.os, h.tape, h.output, by simpa [World.setCell] using h.size, fun k hk hne => (Below.heap_setCell w p u k (by omega)).trans (h.block k hk hne)⟩
/-- the block of a window that is the result -/
def WB0 (w : World) (r : Nat) : Prop := w.heap[r]? = some (.cells #[.int .i64 0, .int .i64 0] 71 (0, 0))
theorem WB0.c0 {w : World} {r : Nat} (h : WB0 w r) : w.cell? ⟨r, 0, none⟩ = some (.int .i64 0) := by rw [cell_of_row w r 0 _ _ _ h]; rfl
theorem WB0.c1 {w : World} {r : Nat} (h : WB0 w r) : w.cell? ⟨r, 1, none⟩ = some (.int .i64 0) := by rw [cell_of_row w r 1 _ _ _ h]; rfl
theorem WB0.f {w : World} {r : Nat} (h : WB0 w r) (i : Nat) : w.frozen? ⟨r, i, none⟩ = false := frozen_of_row w r i _ _ h
theorem WB0.grown {w w' : World} {r g : Nat} (h : WB0 w r) (hg : w.grownBy w' (some g)) (hr : r ≠ g) : WB0 w' r := by
  have hlt : r < w.heap.size := heap_lt h
  exact (hg.block r hlt (by intro e; injection e with e; exact hr e)).trans h
set_option maxRecDepth 100000 in
set_option maxHeartbeats 2000000 in
theorem window_any (g : Nat) (ws : List Nat) (N p : Nat) (w : World) (h : RK w g ws (N : Int) (p : Int)) (hw : RdW ws N) (hp : p ≤ N) :
    Calls Tryd.prog 125 #[.pointer (some ⟨g, 0, none⟩)] w (RdOut g ws N (winR ws N p) w) := by
  have hgl := h.lt
  have T5 := Lib.hid (take_any g ws N p 5 _ (h.alloc (.cells #[.int .i64 0, .int .i64 0] 71)) hw (by omega) hp)
  have HG0 := Lib.hid (World.grownBy_alloc w (.cells #[.int .i64 0, .int .i64 0] 71) (some g))
  have HW0 := Lib.hid (show WB0 (w.alloc (.cells #[.int .i64 0, .int .i64 0] 71)) w.heap.size from heap_alloc_new w _)
  have T6 := Lib.hid (fun (W : World) (hk : RK W g ws (N : Int) ((p + 5 : Nat) : Int)) (hq : p + 5 ≤ N) => take_any g ws N (p + 5) 6 W hk hw (by omega) hq)
  have TF := Lib.hid (fun W => fail_any g W)
  have HR : Hid (winR ws N p = if p + 11 ≤ N ∧ BM.getW ws p 5 + (BM.getW ws (p + 5) 6 + 1) ≤ 64 then some (.agg #[.int .i64 (BM.getW ws p 5 : Int), .int .i64 ((BM.getW ws (p + 5) 6 : Int) + 1)], p + 11) else none) := rfl
  have hv5 : BM.getW ws p 5 < 32 := hw.v p 5 (by omega)
  have hv6 : BM.getW ws (p + 5) 6 < 64 := hw.v (p + 5) 6 (by omega)
  clear h hw hp
  unfold takeR at T5 T6
  generalize winR ws N p = R at *
  generalize BM.getW ws p 5 = V5 at *
  generalize BM.getW ws (p + 5) 6 = V6 at *
  go_enter Tryd.func125, Tryd.ntmps125
  go_wp2_with fail
  refine T5.out.mono ?_
  rintro e w1 h1
  by_cases c0 : p + 5 ≤ N
  · obtain ⟨he, hk, hg⟩ := h1.some' (by rw [if_pos c0])
    subst he
    have HK1 := Lib.hid hk
    have HG1 := Lib.hid (grown_trans HG0.out hg)
    have HW1 := Lib.hid (HW0.out.grown hg (by omega))
    clear h1 hk hg T5 HG0 HW0
    go_wp2_with fail
    refine (T6.out _ HK1.out c0).mono ?_
    rintro e w2 h2
    by_cases c1 : p + 5 + 6 ≤ N
    · obtain ⟨he, hk, hg⟩ := h2.some' (by rw [if_pos c1])
      subst he
      have HK2 := Lib.hid hk
      have HG2 := Lib.hid (grown_trans HG1.out hg)
      have HW2 := Lib.hid (HW1.out.grown hg (by omega))
      clear h2 hk hg HK1 HG1 HW1
      by_cases c2 : V5 + (V6 + 1) ≤ 64
      · have hd : decide ((64 : Int) < (V5 : Int) + ((V6 : Int) + 1)) = false := by simp; omega
        have hR : R = some (.agg #[.int .i64 (V5 : Int), .int .i64 ((V6 : Int) + 1)], p + 11) := by rw [HR.out, if_pos ⟨by omega, c2⟩]
        have HRR := Lib.hid hR
        clear hR
        have r0 := HW2.out.c0
        have r1 := HW2.out.c1
        have g0 := HW2.out.f 0
        have g1 := HW2.out.f 1
        go_wp2_with fail
        refine bodyPost_ret (v := .agg #[.int .i64 (V5 : Int), .int .i64 ((V6 : Int) + 1)]) (by simp [results, Tryd.results125, go_sem, r0, r1]) rfl ?_
        rw [HRR.out]
        exact ⟨qm_setNew (qm_setNew HG2.out (by simp) _) (by simp) _, rfl, (HK2.out.other (by show g ≠ w.heap.size; omega) _).other (by show g ≠ w.heap.size; omega) _⟩
      · have hd : decide ((64 : Int) < (V5 : Int) + ((V6 : Int) + 1)) = true := by simp; omega
        have hR : R = none := by rw [HR.out, if_neg (fun hh => c2 hh.2)]
        have HRR := Lib.hid hR
        clear hR
        go_wp2_with fail
        refine (TF.out _).mono ?_
        rintro e w3 ⟨⟨u, pv, rfl⟩, rfl⟩
        go_wp2_with fail
        rw [HRR.out]
        exact ⟨rfl, HG2.out, ⟨_, _, rfl⟩⟩
    · obtain ⟨⟨u, pv, rfl⟩, hg⟩ := h2.none' (by rw [if_neg c1])
      have HG2 := Lib.hid (grown_trans HG1.out hg)
      have hR : R = none := by rw [HR.out, if_neg (fun hh => c1 (by omega))]
      have HRR := Lib.hid hR
      clear hR hg h2
      go_wp2_with fail
      rw [HRR.out]
      exact ⟨rfl, HG2.out, ⟨_, _, rfl⟩⟩
  · obtain ⟨⟨u, pv, rfl⟩, hg⟩ := h1.none' (by rw [if_neg c0])
    have HG1 := Lib.hid (grown_trans HG0.out hg)
    have hR : R = none := by rw [HR.out, if_neg (fun hh => c0 (by omega))]
    have HRR := Lib.hid hR
    clear hR hg h1 T5
    go_wp2_with fail
    rw [HRR.out]
    exact ⟨rfl, HG1.out, ⟨_, _, rfl⟩⟩
end Go.Proofs.YtcmmognjnmbajaaDoor
