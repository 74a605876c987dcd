/- Walks: the program's array of words: get, put. -/
import Derived.Test.YtcmmognjnmbajaaDoorWb
import Derived.Test.YtcmmognjnmbajaaDoorUa
import Derived.Test.YtcmmognjnmbajaaDoorBn
import Derived.BigRegion
set_option linter.unusedVariables false
set_option linter.unusedSimpArgs false
namespace Go.Proofs.YtcmmognjnmbajaaDoor
open Go.RowKit

theorem u64_shl (y s : Nat) : IntKind.u64.wrap ((y : Int) * 2 ^ s) = ((y * 2 ^ s % 2 ^ 64 : Nat) : Int) := by
  rw [IntKind.wrap_u64, show (y : Int) * 2 ^ s = ((y * 2 ^ s : Nat) : Int) by simp]
  generalize y * 2 ^ s = z
  omega
theorem i_shr (x s : Nat) : (x : Int) / 2 ^ s = ((x / 2 ^ s : Nat) : Int) := by simp
theorem u64_or (a b : Nat) (ha : a < 2 ^ 64) (hb : b < 2 ^ 64) : bits .or .u64 (a : Int) (b : Int) = ((a ||| b : Nat) : Int) := bits_or_u64_nat a b ha hb

def baCells (ws : List Nat) (n : Int) : Array Value := (List.map (fun x : Nat => Value.int .u64 (x : Int)) ws ++ [Value.int .i64 n]).toArray
theorem baCells_size (ws : List Nat) (n : Int) (h : ws.length = 313) : (baCells ws n).size = 314 := by simp [baCells, h]
theorem baCells_get (ws : List Nat) (n : Int) (i : Nat) (h : i < ws.length) : (baCells ws n)[i]? = some (.int .u64 (ws.getD i 0 : Int)) := by
  simp [baCells, List.getElem?_append, h, List.getD_eq_getElem?_getD]
theorem baCells_last (ws : List Nat) (n : Int) (h : ws.length = 313) : (baCells ws n)[313]? = some (.int .i64 n) := by
  simp [baCells, List.getElem?_append, h]
def BaBlk (w : World) (g : Nat) (ws : List Nat) (n : Int) : Prop := w.heap[g]? = some (.cells (baCells ws n) 69 (0, 0))
theorem BaBlk.word {w : World} {g : Nat} {ws : List Nat} {n : Int} (h : BaBlk w g ws n) (i : Nat) (hi : i < ws.length) : w.cell? ⟨g, i, none⟩ = some (.int .u64 (ws.getD i 0 : Int)) := by
  rw [cell_of_row w g i _ _ _ h]; exact baCells_get _ _ _ hi
theorem BaBlk.last {w : World} {g : Nat} {ws : List Nat} {n : Int} (h : BaBlk w g ws n) (hl : ws.length = 313) : w.cell? ⟨g, 313, none⟩ = some (.int .i64 n) := by
  rw [cell_of_row w g 313 _ _ _ h]; exact baCells_last _ _ hl
theorem BaBlk.frozen {w : World} {g : Nat} {ws : List Nat} {n : Int} (h : BaBlk w g ws n) (i : Nat) : w.frozen? ⟨g, i, none⟩ = false := frozen_of_row w g i _ _ h

set_option maxRecDepth 100000 in
set_option maxHeartbeats 1000000 in
theorem get_one (g : Nat) (ws : List Nat) (N : Int) (at_ k : Nat) (w : World) (hb : BaBlk w g ws N) (hl : ws.length = 313) (hx : ∀ i, ws.getD i 0 < 2 ^ 64)
    (ha : at_ ≤ 20000) (hk : k ≤ 64) (hone : ¬ 64 < at_ % 64 + k) :
    Calls Tryd.prog 124 #[.pointer (some ⟨g, 0, none⟩), .int .i64 (at_ : Int), .int .i64 (k : Int)] w fun e w' => e = .returned (.int .u64 (BM.getW ws at_ k : Int)) ∧ w = w' := by
  have hc0 := hb.word (at_ / 64) (by omega)
  have hx0 := hx (at_ / 64)
  generalize hy : ws.getD (at_ / 64) 0 = y at hc0 hx0
  have hd : decide ((64 : Int) < (at_ : Int) % 64 + (k : Int)) = false := by simp; omega
  go_enter Tryd.func124, Tryd.ntmps124
  go_wp2_with fail
  go_ret
  refine ⟨ret_int ?_, rfl⟩
  rw [u64_shl, i_shr]
  rw [BM.getW_one hone, hy]

set_option maxRecDepth 100000 in
set_option maxHeartbeats 1000000 in
theorem get_two (g : Nat) (ws : List Nat) (N : Int) (at_ k : Nat) (w : World) (hb : BaBlk w g ws N) (hl : ws.length = 313) (hx : ∀ i, ws.getD i 0 < 2 ^ 64)
    (ha : at_ + k ≤ 20000) (hk : k ≤ 64) (hone : 64 < at_ % 64 + k) :
    Calls Tryd.prog 124 #[.pointer (some ⟨g, 0, none⟩), .int .i64 (at_ : Int), .int .i64 (k : Int)] w fun e w' => e = .returned (.int .u64 (BM.getW ws at_ k : Int)) ∧ w = w' := by
  have hc0 := hb.word (at_ / 64) (by omega)
  have hc1 := hb.word (at_ / 64 + 1) (by omega)
  have hx0 := hx (at_ / 64)
  have hx1 := hx (at_ / 64 + 1)
  generalize hy : ws.getD (at_ / 64) 0 = y at hc0 hx0
  generalize hz : ws.getD (at_ / 64 + 1) 0 = z at hc1 hx1
  have Hy := Lib.hid hy
  have Hz := Lib.hid hz
  clear hy hz
  have hd : decide ((64 : Int) < (at_ : Int) % 64 + (k : Int)) = true := by simp; omega
  go_enter Tryd.func124, Tryd.ntmps124
  go_wp2_with fail
  go_ret
  refine ⟨ret_int ?_, rfl⟩
  rw [BM.getW_two hone, Hy.out, Hz.out, u64_shl, i_shr z, u64_or _ _ (Nat.mod_lt _ (Nat.two_pow_pos _)) (Nat.lt_of_le_of_lt (Nat.div_le_self _ _) hx1), i_shr]

theorem get_any (g : Nat) (ws : List Nat) (N : Int) (at_ k : Nat) (w : World) (hb : BaBlk w g ws N) (hl : ws.length = 313) (hx : ∀ i, ws.getD i 0 < 2 ^ 64)
    (ha : at_ + k ≤ 20000) (hk : k ≤ 64) :
    Calls Tryd.prog 124 #[.pointer (some ⟨g, 0, none⟩), .int .i64 (at_ : Int), .int .i64 (k : Int)] w fun e w' => e = .returned (.int .u64 (BM.getW ws at_ k : Int)) ∧ w = w' := by
  by_cases h : 64 < at_ % 64 + k
  · exact get_two g ws N at_ k w hb hl hx ha hk h
  · exact get_one g ws N at_ k w hb hl hx (by omega) hk h

theorem baCells_set (ws : List Nat) (n : Int) (i x : Nat) (h : i < ws.length) : (baCells ws n).setIfInBounds i (.int .u64 (x : Int)) = baCells (ws.set i x) n := by
  simp [baCells, List.set_append, h]
theorem baCells_setLast (ws : List Nat) (n m : Int) (h : ws.length = 313) : (baCells ws n).setIfInBounds 313 (.int .i64 m) = baCells ws m := by
  simp [baCells, List.set_append, h]
theorem BaBlk.setWord {w : World} {g : Nat} {ws : List Nat} {n : Int} (h : BaBlk w g ws n) (i x : Nat) (hi : i < ws.length) : BaBlk (w.setCell ⟨g, i, none⟩ (.int .u64 (x : Int))) g (ws.set i x) n := by
  unfold BaBlk at h ⊢
  rw [heap_setCell_same w g i _ _ _ h, baCells_set _ _ _ _ hi]
theorem BaBlk.setLast {w : World} {g : Nat} {ws : List Nat} {n : Int} (h : BaBlk w g ws n) (m : Int) (hl : ws.length = 313) : BaBlk (w.setCell ⟨g, 313, none⟩ (.int .i64 m)) g ws m := by
  unfold BaBlk at h ⊢
  rw [heap_setCell_same w g 313 _ _ _ h, baCells_setLast _ _ _ hl]


theorem put_or1 {y v k s : Nat} (hy : y < 2 ^ 64) :
    bits .or .u64 (y : Int) (IntKind.u64.wrap ((v : Int) * 2 ^ k) / 2 ^ s) = ((y ||| v * 2 ^ k % 2 ^ 64 / 2 ^ s : Nat) : Int) := by
  rw [u64_shl, i_shr, u64_or _ _ hy (Nat.lt_of_le_of_lt (Nat.div_le_self _ _) (Nat.mod_lt _ (Nat.two_pow_pos _)))]
theorem put_or2 {y v k s : Nat} (hy : y < 2 ^ 64) :
    bits .or .u64 (y : Int) (IntKind.u64.wrap (IntKind.u64.wrap ((v : Int) * 2 ^ k) * 2 ^ s)) = ((y ||| v * 2 ^ k % 2 ^ 64 * 2 ^ s % 2 ^ 64 : Nat) : Int) := by
  rw [u64_shl, u64_shl, u64_or _ _ hy (Nat.mod_lt _ (Nat.two_pow_pos _))]

set_option maxRecDepth 100000 in
set_option maxHeartbeats 1000000 in
theorem put_one (g : Nat) (ws : List Nat) (n v k : Nat) (w : World) (hb : BaBlk w g ws n) (hl : ws.length = 313) (hx : ∀ i, ws.getD i 0 < 2 ^ 64)
    (hn : n + k ≤ 20000) (hk : k ≤ 64) (hv : v < 2 ^ 64) (hone : ¬ 64 < n % 64 + k) :
    Calls Tryd.prog 47 #[.pointer (some ⟨g, 0, none⟩), .int .u64 (v : Int), .int .i64 (k : Int)] w fun e w' => e = .returned (.tuple #[]) ∧ BaBlk w' g (BM.putW ws n v k) ((n + k : Nat) : Int) ∧ w.grownBy w' (some g) := by
  have hc0 := hb.word (n / 64) (by omega)
  have hcn := hb.last hl
  have hf0 := hb.frozen (n / 64)
  have hfn := hb.frozen 313
  have hx0 := hx (n / 64)
  generalize hy : ws.getD (n / 64) 0 = y at hc0 hx0
  have Hy := Lib.hid hy
  clear hy
  have hd : decide ((64 : Int) < (n : Int) % 64 + (k : Int)) = false := by simp; omega
  have Hb := Lib.hid hb
  clear hb
  go_enter Tryd.func47, Tryd.ntmps47
  go_wp2_with fail
  go_quiet (fail)
  go_wp2_with fail
  go_region
  go_wp2_with fail
  go_end0
  refine ⟨rfl, ?_, grown_set (grown_set (grown_drewN (World.grownBy.refl w _) _) _ _) _ _⟩
  rw [put_or1 hx0, BM.putW_one hone, Hy.out]
  have h0 : BaBlk (w.drewN (nq + 1)) g ws n := Hb.out
  exact (h0.setWord (n / 64) _ (by omega)).setLast _ (by simp [hl])

set_option maxRecDepth 100000 in
set_option maxHeartbeats 1000000 in
theorem put_two (g : Nat) (ws : List Nat) (n v k : Nat) (w : World) (hb : BaBlk w g ws n) (hl : ws.length = 313) (hx : ∀ i, ws.getD i 0 < 2 ^ 64)
    (hn : n + k ≤ 20000) (hk : k ≤ 64) (hv : v < 2 ^ 64) (hone : 64 < n % 64 + k) :
    Calls Tryd.prog 47 #[.pointer (some ⟨g, 0, none⟩), .int .u64 (v : Int), .int .i64 (k : Int)] w fun e w' => e = .returned (.tuple #[]) ∧ BaBlk w' g (BM.putW ws n v k) ((n + k : Nat) : Int) ∧ w.grownBy w' (some g) := by
  have hc0 := hb.word (n / 64) (by omega)
  have hcn := hb.last hl
  have hc1 := hb.word (n / 64 + 1) (by omega)
  have hf1 := hb.frozen (n / 64 + 1)
  have hx1 := hx (n / 64 + 1)
  generalize hz : ws.getD (n / 64 + 1) 0 = z at hc1 hx1
  have Hz := Lib.hid hz
  clear hz
  have hf0 := hb.frozen (n / 64)
  have hfn := hb.frozen 313
  have hx0 := hx (n / 64)
  generalize hy : ws.getD (n / 64) 0 = y at hc0 hx0
  have Hy := Lib.hid hy
  clear hy
  have hd : decide ((64 : Int) < (n : Int) % 64 + (k : Int)) = true := by simp; omega
  have Hb := Lib.hid hb
  clear hb
  go_enter Tryd.func47, Tryd.ntmps47
  go_wp2_with fail
  go_quiet (fail)
  go_wp2_with fail
  go_region
  go_wp2_with fail
  go_region
  go_wp2_with fail
  go_end0
  refine ⟨rfl, ?_, grown_drew (grown_set (grown_set (grown_set (grown_drewN (World.grownBy.refl w _) _) _ _) _ _) _ _)⟩
  rw [put_or1 hx0, put_or2 hx1, BM.putW_two hone (by omega), Hy.out, Hz.out]
  have h0 : BaBlk (w.drewN (nq + 1)) g ws n := Hb.out
  exact ((h0.setWord (n / 64) _ (by omega)).setWord (n / 64 + 1) _ (by simp; omega)).setLast _ (by simp [hl])

theorem put_any (g : Nat) (ws : List Nat) (n v k : Nat) (w : World) (hb : BaBlk w g ws n) (hl : ws.length = 313) (hx : ∀ i, ws.getD i 0 < 2 ^ 64)
    (hn : n + k ≤ 20000) (hk : k ≤ 64) (hv : v < 2 ^ 64) :
    Calls Tryd.prog 47 #[.pointer (some ⟨g, 0, none⟩), .int .u64 (v : Int), .int .i64 (k : Int)] w fun e w' => e = .returned (.tuple #[]) ∧ BaBlk w' g (BM.putW ws n v k) ((n + k : Nat) : Int) ∧ w.grownBy w' (some g) := by
  by_cases h : 64 < n % 64 + k
  · exact put_two g ws n v k w hb hl hx hn hk hv h
  · exact put_one g ws n v k w hb hl hx hn hk hv h
end Go.Proofs.YtcmmognjnmbajaaDoor
