/- Walks of the small functions over bit strings. -/
import Derived.Test.YtldjeacpkndcbaaDoorProg
import Derived.Test.YtldjeacpkndcbaaDoorBm
import Derived.WalkKit
import Derived.WalkSpells
import Derived.WalkLawsBesides
import Derived.BigQuiet
import Derived.Lib.Hide
set_option linter.unusedVariables false
set_option linter.unusedSimpArgs false
namespace Go.Proofs.YtldjeacpkndcbaaDoor
open Go.RowKit

theorem ret_bool {a b : Bool} (h : a = b) : Ending.returned (.bool a) = .returned (.bool b) := by rw [h]
theorem ret_int {k : IntKind} {a b : Int} (h : a = b) : Ending.returned (.int k a) = .returned (.int k b) := by rw [h]

def inB (n lo hi : Int) : Bool := decide (lo ≤ n ∧ n ≤ hi)

set_option maxRecDepth 100000 in
set_option maxHeartbeats 400000 in
theorem l1In_any (n lo hi : Int) (w : World) :
    Calls Tryd.prog 59 #[.int .i64 n, .int .i64 lo, .int .i64 hi] w fun e w' => e = .returned (.bool (inB n lo hi)) ∧ w = w' := by
  by_cases h1 : lo ≤ n
  · go_enter Tryd.func59, Tryd.ntmps59
    go_wp2
    go_ret
    exact ⟨ret_bool (by simp [inB, h1]), rfl⟩
  · go_enter Tryd.func59, Tryd.ntmps59
    go_wp2
    go_ret
    exact ⟨ret_bool (by simp [inB]; omega), rfl⟩

set_option maxRecDepth 100000 in
set_option maxHeartbeats 400000 in
theorem bytesFor_any (n : Int) (w : World) (h0 : 0 ≤ n) (h1 : n ≤ 100000) :
    Calls Tryd.prog 89 #[.int .i64 n] w fun e w' => e = .returned (.int .i64 ((n + 7) / 8)) ∧ w = w' := by
  go_enter Tryd.func89, Tryd.ntmps89
  go_wp2
  go_ret
  exact ⟨rfl, rfl⟩

def bitsV (s : ByteArray) (n : Int) : Value := .agg #[.string s, .int .i64 n]

set_option maxRecDepth 100000 in
set_option maxHeartbeats 400000 in
theorem toBits_any (s : ByteArray) (n : Int) (w : World) :
    Calls Tryd.prog 32 #[.agg #[.string s, .int .i64 n]] w fun e w' => e = .returned (.agg #[.string s, .int .i64 n]) ∧ Below w.heap.size w w' := by
  go_enter Tryd.func32, Tryd.ntmps32
  go_wp2
  exact bodyPost_ret (v := .agg #[.string s, .int .i64 n]) (by simp [results, Tryd.results32, go_sem]) rfl ⟨rfl, by
    repeat (first | exact Below.refl _ _ | refine Below.alloc ?_ (by simp; try omega) _ | refine Below.setCell ?_ (by simp; try omega) _ | refine Below.drew ?_)⟩

set_option maxRecDepth 100000 in
set_option maxHeartbeats 400000 in
theorem szBits_any (s : ByteArray) (n l : Int) (w : World) (h0 : 0 ≤ l) (h1 : l ≤ 1048576) (hs : s.size ≤ maxLen) :
    Calls Tryd.prog 31 #[.agg #[.string s, .int .i64 n], .int .i64 l] w fun e w' => e = .returned (.int .i64 (if l < s.size then -1 else l - s.size)) ∧ Below w.heap.size w w' := by
  unfold maxLen at hs
  by_cases h : l < s.size
  · go_enter Tryd.func31, Tryd.ntmps31
    go_wp2
    go_ret
    exact ⟨rfl, (Below.refl _ _).alloc (Nat.le_refl _) _⟩
  · go_enter Tryd.func31, Tryd.ntmps31
    go_wp2
    go_ret
    exact ⟨rfl, (Below.refl _ _).alloc (Nat.le_refl _) _⟩

theorem l1Bit_val (x : UInt8) (k : Nat) : (wrap64 ((x.toNat : Int) / 2 ^ k)).tmod 2 = ((x.toNat.testBit k).toNat : Int) := by
  have hx := UInt8.toNat_lt x
  have e : ((x.toNat : Int) / 2 ^ k) = ((x.toNat / 2 ^ k : Nat) : Int) := by simp
  have hle : x.toNat / 2 ^ k ≤ x.toNat := Nat.div_le_self _ _
  rw [e, Nat.testBit_eq_decide_div_mod_eq]
  generalize x.toNat / 2 ^ k = y at *
  rw [IntWalk.wrap64_in _ (by omega), Int.tmod_eq_emod_of_nonneg (by omega)]
  by_cases h : y % 2 = 1 <;> simp [h] <;> omega

theorem bitAt_of (s : ByteArray) (n : Nat) (h : n / 8 < s.size) : BM.bitAt s.data.toList n = s[n / 8].toNat.testBit (7 - n % 8) := by
  unfold BM.bitAt
  have h' : n / 8 < s.data.toList.length := by simpa using h
  rw [List.getD_eq_getElem?_getD, List.getElem?_eq_getElem h']
  rfl

set_option maxRecDepth 100000 in
set_option maxHeartbeats 400000 in
theorem l1Bit_any (s : ByteArray) (n : Nat) (w : World) (h0 : n ≤ 100000) (h1 : n / 8 < s.size) (hs : s.size ≤ maxLen) :
    Calls Tryd.prog 105 #[.string s, .int .i64 (n : Int)] w fun e w' => e = .returned (.int .i64 ((BM.bitAt s.data.toList n).toNat : Int)) ∧ w = w' := by
  unfold maxLen at hs
  have H := Lib.hid (bitAt_of s n h1)
  have V := Lib.hid (l1Bit_val s[n / 8] (7 - n % 8))
  go_enter Tryd.func105, Tryd.ntmps105
  go_wp2
  go_ret
  exact ⟨by rw [H.out]; exact ret_int V.out, rfl⟩

end Go.Proofs.YtldjeacpkndcbaaDoor

/- Walks: the model's lists of bits. -/
set_option linter.unusedVariables false
set_option linter.unusedSimpArgs false
namespace Go.Proofs.YtldjeacpkndcbaaDoor
open Go.RowKit

theorem info_i64 : (Tryd.prog.info? 2).map (fun i => (i.zero, i.size, i.bytes)) = some (some (.int .i64 0), 1, 8) := by kernel_rfl

def bitInts (l : List Bool) : List Value := l.map fun b => .int .i64 (b.toNat : Int)
theorem bitInts_length (l : List Bool) : (bitInts l).length = l.length := by simp [bitInts]
theorem listOf_succ (d : List UInt8) (n : Nat) : BM.listOf d (n + 1) = BM.listOf d n ++ [BM.bitAt d n] := by simp [BM.listOf, List.range_succ]
theorem bitInts_succ (d : List UInt8) (n : Nat) : bitInts (BM.listOf d (n + 1)) = bitInts (BM.listOf d n) ++ [.int .i64 ((BM.bitAt d n).toNat : Int)] := by
  rw [listOf_succ]; simp [bitInts]

theorem ownsRow_base {w : World} {base base' : Nat} {e : TypeId} {size : Nat} {v : Value} {n : Nat} {xs : List Value} (h : w.ownsRow base e size v n xs) (hb : base' ≤ base) : w.ownsRow base' e size v n xs := by
  obtain ⟨h1, h2⟩ := h
  refine ⟨h1, ?_⟩
  rcases h2 with h2 | ⟨g, cap, cur, rfl, hg, rest⟩
  · exact .inl h2
  · exact .inr ⟨g, cap, cur, rfl, Nat.le_trans hb hg, rest⟩

def ListPost (base : Nat) (l : List Bool) (w : World) (e : Ending) (w' : World) : Prop :=
  ∃ v, e = .returned v ∧ w'.ownsRow base 2 1 v l.length (bitInts l) ∧ Below w.heap.size w w' ∧ v ≠ .slice none 0 0

set_option maxRecDepth 100000 in
set_option maxHeartbeats 1000000 in
theorem l1List_any (s : ByteArray) (n : Nat) (w : World) (h0 : n ≤ 100000) (h1 : n ≤ 8 * s.size) (hs : s.size ≤ maxLen) :
    Calls Tryd.prog 62 #[.agg #[.string s, .int .i64 (n : Int)]] w (ListPost w.heap.size (BM.listOf s.data.toList n) w) := by
  obtain ⟨i0, hi, hz0, hz1, hz2⟩ := info_parts info_i64
  go_enter Tryd.func62, Tryd.ntmps62
  go_wp2
  go_loopw [3, 4] (fun v i wr => ∃ k : Nat, k ≤ n ∧ i = .int .i64 k ∧ wr.ownsRow (w.heap.size + 1) 2 1 v k (bitInts (BM.listOf s.data.toList k)) ∧
      wr.cell? ⟨w.heap.size, 0, none⟩ = some (.string s) ∧ wr.cell? ⟨w.heap.size, 1, none⟩ = some (.int .i64 n) ∧ w.heap.size + 1 ≤ wr.heap.size ∧ Below w.heap.size w wr ∧ v ≠ .slice none 0 0)
    (fun _ i _ => n - (intOf i).toNat)
  case atStart =>
    refine ⟨0, Nat.zero_le _, rfl, ?_, ?_, ?_, ?_, ?_, by simp⟩
    · have := World.ownsRow_made (w.alloc (.cells #[Value.string s, Value.int IntKind.i64 n] 27)) (base := w.heap.size + 1) (e := 2) (size := 1) #[] 0 (by simp) (by simp [maxLen]) rfl
      simpa [BM.listOf, bitInts] using this
    · go_simp
    · go_simp
    · simp
    · exact ((Below.refl _ _).alloc (Nat.le_refl _) _).alloc (by simp) _
  case round =>
    obtain ⟨k, hk, rfl, hown, hc0, hc1, hne, hb, hvn⟩ := hrel
    have Hvn := Lib.hid hvn
    clear hvn
    by_cases hlt : k < n
    · have hbit := fun W => l1Bit_any s k W (by omega) (by omega) hs
      have hsz := hb.size
      go_wp2_with (first
        | (go_at_call 105; refine (hbit _).mono ?_; rintro e w' ⟨rfl, rfl⟩)
        | (at_builtin; refine wpList_append_own _ rfl _ _ 24 rfl (w.heap.size + 1) 2 i0 (.int .i64 0) 1 8 Tryd.underlying24 hi hz0 hz1 hz2 rfl (by decide) _ _ _ rfl (hown.alloc _) ⟨wr.heap.size, 0, none⟩ 1 1 [.int .i64 ((BM.bitAt s.data.toList k).toNat : Int)] rfl rfl ?c1 ?c2 ?c3 ?c4 ?c5 ?_))
      case c1 => exact cell_one_new _ _ _
      case c2 => intro u hu; simp at hu; subst hu; rfl
      case c3 => unfold maxLen; omega
      case c4 => omega
      case c5 => simp; omega
      intro v' w1 hown' hgrow hnn
      have Hnn : Hid (v' ≠ .slice none 0 0) := by first | exact hnn | exact fun h => by have := (hnn.1 h).2; omega
      clear hnn
      rw [← bitInts_succ] at hown'
      have hl : some w.heap.size ≠ Value.ownBlock u3 := by
        intro h
        have := (hown.lt _ h.symm).1
        omega
      have hd0 : w1.cell? ⟨w.heap.size, 0, none⟩ = some (.string s) := hgrow.cell (by rw [World.cell?_alloc_lt _ _ _ (by simp; omega)]; exact hc0) hl
      have hd1 : w1.cell? ⟨w.heap.size, 1, none⟩ = some (.int .i64 n) := hgrow.cell (by rw [World.cell?_alloc_lt _ _ _ (by simp; omega)]; exact hc1) hl
      have hs1 : w.heap.size + 1 ≤ w1.heap.size := by have := hgrow.size; simp at this; omega
      have hb1 : Below w.heap.size w w1 := (hb.alloc (by omega) _).grown hgrow (by simp; omega) (fun k hk => by have := (hown.lt _ hk).1; omega)
      clear hown hgrow hb hc0 hc1
      go_wp2
      go_roundw
      case rel => exact ⟨k + 1, by omega, by go_num, hown', hd0, hd1, hs1, hb1, Hnn.out⟩
      case measure => simp [intOf]; omega
    · go_wp2
      go_ret
      obtain rfl : k = n := by omega
      exact ⟨_, rfl, by rw [BM.listOf_length]; exact ownsRow_base hown (by omega), hb, Hvn.out⟩
end Go.Proofs.YtldjeacpkndcbaaDoor
