/- Walks: the program's reader of bits: take, which panics behind the end. -/
import Derived.Test.YtanoohfhifhhaaaDoorCe
set_option linter.unusedVariables false
set_option linter.unusedSimpArgs false
namespace Go.Proofs.YtanoohfhifhhaaaDoor
open Go.RowKit

set_option maxRecDepth 100000 in
set_option maxHeartbeats 1000000 in
theorem rget_one (g : Nat) (ws : List Nat) (at_ k : Nat) (w : World) (hb : ∀ i, i < 313 → w.cell? ⟨g, i, none⟩ = some (.int .u64 (ws.getD i 0 : Int))) (hl : ws.length = 313) (hx : ∀ i, ws.getD i 0 < 2 ^ 64)
    (ha : at_ ≤ 20000) (hk : k ≤ 64) (hone : ¬ 64 < at_ % 64 + k) :
    Calls Tryd.prog 121 #[.pointer (some ⟨g, 0, none⟩), .int .i64 (at_ : Int), .int .i64 (k : Int)] w fun e w' => e = .returned (.int .u64 (BM.getW ws at_ k : Int)) ∧ w = w' := by
  have hc0 := hb (at_ / 64) (by omega)
  have hx0 := hx (at_ / 64)
  generalize hy : ws.getD (at_ / 64) 0 = y at hc0 hx0
  have hd : decide ((64 : Int) < (at_ : Int) % 64 + (k : Int)) = false := by simp; omega
  go_enter Tryd.func121, Tryd.ntmps121
  go_wp2_with fail
  go_ret
  refine ⟨ret_int ?_, rfl⟩
  rw [u64_shl, i_shr]
  rw [BM.getW_one hone, hy]

set_option maxRecDepth 100000 in
set_option maxHeartbeats 1000000 in
theorem rget_two (g : Nat) (ws : List Nat) (at_ k : Nat) (w : World) (hb : ∀ i, i < 313 → w.cell? ⟨g, i, none⟩ = some (.int .u64 (ws.getD i 0 : Int))) (hl : ws.length = 313) (hx : ∀ i, ws.getD i 0 < 2 ^ 64)
    (ha : at_ + k ≤ 20000) (hk : k ≤ 64) (hone : 64 < at_ % 64 + k) :
    Calls Tryd.prog 121 #[.pointer (some ⟨g, 0, none⟩), .int .i64 (at_ : Int), .int .i64 (k : Int)] w fun e w' => e = .returned (.int .u64 (BM.getW ws at_ k : Int)) ∧ w = w' := by
  have hc0 := hb (at_ / 64) (by omega)
  have hc1 := hb (at_ / 64 + 1) (by omega)
  have hx0 := hx (at_ / 64)
  have hx1 := hx (at_ / 64 + 1)
  generalize hy : ws.getD (at_ / 64) 0 = y at hc0 hx0
  generalize hz : ws.getD (at_ / 64 + 1) 0 = z at hc1 hx1
  have Hy := Lib.hid hy
  have Hz := Lib.hid hz
  clear hy hz
  have hd : decide ((64 : Int) < (at_ : Int) % 64 + (k : Int)) = true := by simp; omega
  go_enter Tryd.func121, Tryd.ntmps121
  go_wp2_with fail
  go_ret
  refine ⟨ret_int ?_, rfl⟩
  rw [BM.getW_two hone, Hy.out, Hz.out, u64_shl, i_shr z, u64_or _ _ (Nat.mod_lt _ (Nat.two_pow_pos _)) (Nat.lt_of_le_of_lt (Nat.div_le_self _ _) hx1), i_shr]

theorem rget_any (g : Nat) (ws : List Nat) (at_ k : Nat) (w : World) (hb : ∀ i, i < 313 → w.cell? ⟨g, i, none⟩ = some (.int .u64 (ws.getD i 0 : Int))) (hl : ws.length = 313) (hx : ∀ i, ws.getD i 0 < 2 ^ 64)
    (ha : at_ + k ≤ 20000) (hk : k ≤ 64) :
    Calls Tryd.prog 121 #[.pointer (some ⟨g, 0, none⟩), .int .i64 (at_ : Int), .int .i64 (k : Int)] w fun e w' => e = .returned (.int .u64 (BM.getW ws at_ k : Int)) ∧ w = w' := by
  by_cases h : 64 < at_ % 64 + k
  · exact rget_two g ws at_ k w hb hl hx ha hk h
  · exact rget_one g ws at_ k w hb hl hx (by omega) hk h


def rdCells (ws : List Nat) (N p : Int) : Array Value := (List.map (fun x : Nat => Value.int .u64 (x : Int)) ws ++ [Value.int .i64 N, Value.int .i64 p]).toArray
theorem rdCells_get (ws : List Nat) (N p : Int) (i : Nat) (h : i < ws.length) : (rdCells ws N p)[i]? = some (.int .u64 (ws.getD i 0 : Int)) := by
  have h2 : i < (List.map (fun x : Nat => Value.int .u64 (x : Int)) ws).length := by simpa using h
  simp only [rdCells, List.getElem?_toArray]
  rw [List.getElem?_append_left h2]
  simp [List.getD_eq_getElem?_getD, h]
theorem rdCells_n (ws : List Nat) (N p : Int) (h : ws.length = 313) : (rdCells ws N p)[313]? = some (.int .i64 N) := by
  simp [rdCells, h]
theorem rdCells_at (ws : List Nat) (N p : Int) (h : ws.length = 313) : (rdCells ws N p)[314]? = some (.int .i64 p) := by
  simp [rdCells, h]
theorem rdCells_set (ws : List Nat) (N p q : Int) (h : ws.length = 313) : (rdCells ws N p).setIfInBounds 314 (.int .i64 q) = rdCells ws N q := by
  simp [rdCells, h]
/-- the reader's block: its words, how many bits, and where it stands -/
def RK (w : World) (g : Nat) (ws : List Nat) (N p : Int) : Prop := w.heap[g]? = some (.cells (rdCells ws N p) 116 (0, 0))
theorem RK.lt {w : World} {g : Nat} {ws : List Nat} {N p : Int} (h : RK w g ws N p) : g < w.heap.size := heap_lt h
theorem RK.word {w : World} {g : Nat} {ws : List Nat} {N p : Int} (h : RK w g ws N p) (hl : ws.length = 313) (i : Nat) (hi : i < 313) : w.cell? ⟨g, i, none⟩ = some (.int .u64 (ws.getD i 0 : Int)) := by
  rw [cell_of_row w g i _ _ _ h]; exact rdCells_get ws N p i (by omega)
theorem RK.n {w : World} {g : Nat} {ws : List Nat} {N p : Int} (h : RK w g ws N p) (hl : ws.length = 313) : w.cell? ⟨g, 313, none⟩ = some (.int .i64 N) := by
  rw [cell_of_row w g 313 _ _ _ h]; exact rdCells_n ws N p hl
theorem RK.at' {w : World} {g : Nat} {ws : List Nat} {N p : Int} (h : RK w g ws N p) (hl : ws.length = 313) : w.cell? ⟨g, 314, none⟩ = some (.int .i64 p) := by
  rw [cell_of_row w g 314 _ _ _ h]; exact rdCells_at ws N p hl
theorem RK.f {w : World} {g : Nat} {ws : List Nat} {N p : Int} (h : RK w g ws N p) (i : Nat) : w.frozen? ⟨g, i, none⟩ = false := frozen_of_row w g i _ _ h
theorem RK.set {w : World} {g : Nat} {ws : List Nat} {N p : Int} (h : RK w g ws N p) (hl : ws.length = 313) (q : Int) : RK (w.setCell ⟨g, 314, none⟩ (.int .i64 q)) g ws N q := by
  unfold RK at h ⊢
  rw [heap_setCell_same w g 314 _ _ _ h, rdCells_set _ _ _ _ hl]
/-- a panic of the text's own -/
def Cry (e : Ending) : Prop := ∃ u pv, e = .panicked [{ v := .iface u pv, recovered := false }]

set_option maxRecDepth 100000 in
set_option maxHeartbeats 400000 in
theorem fail_any (g : Nat) (w : World) :
    Calls Tryd.prog 93 #[.pointer (some ⟨g, 0, none⟩)] w fun e w' => Cry e ∧ w' = w := by
  go_enter Tryd.func93, Tryd.ntmps93
  go_wp2_with fail
  exact ⟨rfl, ⟨_, _, rfl⟩, rfl⟩
set_option maxRecDepth 100000 in
set_option maxHeartbeats 400000 in
theorem take_ok (g : Nat) (ws : List Nat) (N p n : Nat) (w : World) (h : RK w g ws (N : Int) (p : Int)) (hl : ws.length = 313) (hx : ∀ i, ws.getD i 0 < 2 ^ 64) (hN : N ≤ 20000) (hn : n ≤ 64) (hp : p + n ≤ N) :
    Calls Tryd.prog 113 #[.pointer (some ⟨g, 0, none⟩), .int .i64 (n : Int)] w fun e w' => e = .returned (.int .u64 (BM.getW ws p n : Int)) ∧ RK w' g ws (N : Int) ((p + n : Nat) : Int) ∧ w.grownBy w' (some g) := by
  have cn := h.n hl
  have ca := h.at' hl
  have fa := h.f 314
  have hw := h.word hl
  have Hg := Lib.hid (fun W (hW : ∀ i, i < 313 → W.cell? ⟨g, i, none⟩ = w.cell? ⟨g, i, none⟩) => (rget_any g ws p n W (fun i hi => (hW i hi).trans (hw i hi)) hl hx (by omega) hn).mono (R' := fun e w' => e = .returned (.int .u64 (BM.getW ws p n : Int)) ∧ w' = W) fun _ _ h => ⟨h.1, h.2.symm⟩)
  clear hw
  have HK := Lib.hid h
  have hd : decide ((N : Int) - (p : Int) < (n : Int)) = false := by simp; omega
  have hpn : IntKind.i64.wrap ((p : Int) + (n : Int)) = ((p + n : Nat) : Int) := by rw [IntWalk.i64_in _ (by omega)]; omega
  clear h hx
  generalize BM.getW ws p n = V at *
  go_enter Tryd.func113, Tryd.ntmps113
  go_wp2_with fail
  go_quiet (fail)
  go_wp2_with fail
  obtain ⟨w1, hw1⟩ : ∃ w1, w1 = w.drewN nq := ⟨_, rfl⟩
  have cn1 : w1.cell? ⟨g, 313, none⟩ = some (.int .i64 (N : Int)) := by subst hw1; exact cn
  have ca1 : w1.cell? ⟨g, 314, none⟩ = some (.int .i64 (p : Int)) := by subst hw1; exact ca
  have fa1 : w1.frozen? ⟨g, 314, none⟩ = false := by subst hw1; exact fa
  have HK1 : Hid (RK w1 g ws (N : Int) (p : Int)) := Lib.hid (by subst hw1; exact HK.out)
  have Hg1 := Lib.hid (fun (m : Nat) => Hg.out (w1.drewN m) (fun i hi => by subst hw1; rfl))
  have hgr : Hid (w.grownBy w1 (some g)) := Lib.hid (by subst hw1; exact grown_drewN (World.grownBy.refl _ _) _)
  rw [← hw1]
  clear hw1 cn ca fa Hg HK
  go_quiet ((go_at_call 121; exact Calls.quiet_of_same (Hg1.out _)))
  go_wp2_with fail
  go_ret
  refine ⟨rfl, ?_, grown_set (grown_drewN hgr.out _) _ _⟩
  rw [show ((p + n : Nat) : Int) = (p : Int) + (n : Int) by omega]
  exact RK.set (w := w1.drewN nq) HK1.out hl _
set_option maxRecDepth 100000 in
set_option maxHeartbeats 400000 in
theorem take_no (g : Nat) (ws : List Nat) (N p n : Nat) (w : World) (h : RK w g ws (N : Int) (p : Int)) (hl : ws.length = 313) (hN : N ≤ 20000) (hn : n ≤ 64) (hpN : p ≤ N) (hp : ¬ p + n ≤ N) :
    Calls Tryd.prog 113 #[.pointer (some ⟨g, 0, none⟩), .int .i64 (n : Int)] w fun e w' => Cry e ∧ w.grownBy w' (some g) := by
  have cn := h.n hl
  have ca := h.at' hl
  have hd : decide ((N : Int) - (p : Int) < (n : Int)) = true := by simp; omega
  clear h
  go_enter Tryd.func113, Tryd.ntmps113
  go_wp2_with fail
  go_quiet (fail)
  go_wp2_with fail
  refine (fail_any g _).mono ?_
  rintro e w' ⟨⟨u, pv, rfl⟩, rfl⟩
  go_wp2_with fail
  exact ⟨rfl, ⟨_, _, rfl⟩, grown_drewN (World.grownBy.refl _ _) _⟩
end Go.Proofs.YtanoohfhifhhaaaDoor
