/- Walks: the reader: below, once, word, near, off, num. -/
import Derived.Test.YtljmiodkmddllaaRa
set_option linter.unusedVariables false
set_option linter.unusedSimpArgs false
namespace Go.Proofs.Ytljmiodkmddllaa
open Go.RowKit

set_option maxRecDepth 100000 in
set_option maxHeartbeats 1000000 in
theorem below_any (B g : Nat) (n : Int) (w : World) (h : Rd w B g) (h1 : 1 ≤ n) (h2 : n ≤ 2000000) :
    Calls Try.prog 61 #[.pointer (some ⟨g, 0, none⟩), .int .i64 n] w (RdPost (IntIn 0 (n - 1)) B g w) := by
  have H := Lib.hid h
  clear h
  by_cases hn1 : n ≤ 1
  · go_enter Try.func61, Try.ntmps61
    go_wp2_with fail
    go_ret
    exact ⟨_, rfl, ⟨0, rfl, by omega, by omega⟩, H.out, World.grownBy.refl _ _⟩
  · by_cases hn2 : n ≤ 256
    · go_enter Try.func61, Try.ntmps61
      go_wp2_with fail
      refine (next_any B g _ H.out).mono ?_
      rintro e w1 ⟨v, rfl, ⟨x, rfl, hx0, hx1⟩, hrd, hgr⟩
      have Hrd := Lib.hid hrd
      clear hrd
      have hm0 := Int.emod_nonneg x (b := n) (by omega)
      have hm1 := Int.emod_lt_of_pos x (b := n) (by omega)
      go_wp2_with fail
      go_ret
      exact ⟨_, rfl, ⟨x % n, rfl, hm0, by omega⟩, Hrd.out, hgr⟩
    · have hn3 : 256 < n := by omega
      go_enter Try.func61, Try.ntmps61
      go_wp2_with fail
      refine (next_any B g _ H.out).mono ?_
      rintro e w1 ⟨v, rfl, ⟨x, rfl, hx0, hx1⟩, hrd, hgr⟩
      have Hrd := Lib.hid hrd
      clear hrd
      go_wp2_with fail
      refine (next_any B g _ Hrd.out).mono ?_
      rintro e w2 ⟨v, rfl, ⟨y, rfl, hy0, hy1⟩, hrd2, hgr2⟩
      have Hrd2 := Lib.hid hrd2
      clear hrd2
      have hm0 := Int.emod_nonneg (x * 256 + y) (b := n) (by omega)
      have hm1 := Int.emod_lt_of_pos (x * 256 + y) (b := n) (by omega)
      have hgr3 : w.grownBy w2 (some g) := ⟨hgr2.os.trans hgr.os, hgr2.tape.trans hgr.tape, hgr2.output.trans hgr.output, Nat.le_trans hgr.size hgr2.size, fun i hi hne => (hgr2.block i (Nat.lt_of_lt_of_le hi hgr.size) hne).trans (hgr.block i hi hne)⟩
      clear hgr hgr2
      go_wp2_with fail
      go_ret
      exact ⟨_, rfl, ⟨(x * 256 + y) % n, rfl, hm0, by omega⟩, Hrd2.out, hgr3⟩

def IsBool (v : Value) : Prop := ∃ b : Bool, v = .bool b
set_option maxRecDepth 100000 in
set_option maxHeartbeats 1000000 in
theorem once_any (B g : Nat) (n : Int) (w : World) (h : Rd w B g) (h1 : 1 ≤ n) (h2 : n ≤ 2000000) :
    Calls Try.prog 59 #[.pointer (some ⟨g, 0, none⟩), .int .i64 n] w (RdPost IsBool B g w) := by
  have H := Lib.hid h
  clear h
  go_enter Try.func59, Try.ntmps59
  go_wp2_with fail
  refine (below_any B g n _ H.out h1 h2).mono ?_
  rintro e w1 ⟨v, rfl, ⟨x, rfl, hx0, hx1⟩, hrd, hgr⟩
  have Hrd := Lib.hid hrd
  clear hrd
  go_wp2_with fail
  go_ret
  exact ⟨_, rfl, ⟨_, rfl⟩, Hrd.out, hgr⟩

theorem grown_trans' {a b c : World} {row : Option Nat} (h : a.grownBy b row) (k : b.grownBy c row) : a.grownBy c row :=
  ⟨k.os.trans h.os, k.tape.trans h.tape, k.output.trans h.output, Nat.le_trans h.size k.size, fun i hi hne => (k.block i (Nat.lt_of_lt_of_le hi h.size) hne).trans (h.block i hi hne)⟩

def IsWord (v : Value) : Prop := ∃ x : Nat, v = .int .u64 (x : Int) ∧ x < 2 ^ 64
theorem word_or {x : Nat} {y : Int} (h0 : 0 ≤ y) (h1 : y ≤ 255) : ∃ z : Nat, bits .or .u64 (IntKind.u64.wrap ((x : Int) * 256)) y = (z : Int) ∧ z < 2 ^ 64 := by
  obtain ⟨Y, rfl⟩ := Int.eq_ofNat_of_zero_le h0
  have e1 : IntKind.u64.wrap ((x : Int) * 256) = ((x * 256 % 2 ^ 64 : Nat) : Int) := by rw [IntKind.wrap_u64]; omega
  rw [e1, bits_or_u64_nat _ _ (Nat.mod_lt _ (by decide)) (by omega)]
  exact ⟨_, rfl, Nat.or_lt_two_pow (Nat.mod_lt _ (by decide)) (by omega)⟩

set_option maxRecDepth 100000 in
set_option maxHeartbeats 1000000 in
theorem word_any (B g : Nat) (w : World) (h : Rd w B g) :
    Calls Try.prog 76 #[.pointer (some ⟨g, 0, none⟩)] w (RdPost IsWord B g w) := by
  have H := Lib.hid h
  clear h
  go_enter Try.func76, Try.ntmps76
  go_wp2_with fail
  go_loopw [3, 4] (fun x i wr => ∃ (k : Nat) (z : Nat), k ≤ 8 ∧ i = .int .i64 k ∧ x = .int .u64 (z : Int) ∧ z < 2 ^ 64 ∧ Hid (Rd wr B g) ∧ w.grownBy wr (some g))
    (fun _ i _ => 8 - (intOf i).toNat)
  case atStart => exact ⟨0, 0, by omega, rfl, rfl, by omega, H.out, World.grownBy.refl _ _⟩
  case round =>
    obtain ⟨k, z, hk, rfl, rfl, hz, Hrd, hgr⟩ := hrel
    by_cases hlt : k < 8
    · have hki : (k : Int) < 8 := by omega
      go_wp2_with fail
      refine (next_any B g _ Hrd.out).mono ?_
      rintro e w2 ⟨v, rfl, ⟨y, rfl, hy0, hy1⟩, hrd2, hgr2⟩
      have Hrd2 := Lib.hid hrd2
      have hgr3 := grown_trans' hgr hgr2
      obtain ⟨q, hq, hq2⟩ := word_or (x := z) hy0 hy1
      clear hrd2 hgr hgr2
      go_wp2_with fail
      go_roundw
      case rel => exact ⟨k + 1, q, by omega, by go_num, by congr 1, hq2, Hrd2, hgr3⟩
      case measure => simp [intOf]; omega
    · have hki : ¬ (k : Int) < 8 := by omega
      go_wp2_with fail
      go_ret
      exact ⟨_, rfl, ⟨z, rfl, hz⟩, Hrd.out, hgr⟩

def IsI64 (v : Value) : Prop := ∃ x : Int, v = .int .i64 x ∧ -9223372036854775808 ≤ x ∧ x ≤ 9223372036854775807

theorem wrap64_bd (x : Int) : -9223372036854775808 ≤ wrap64 x ∧ wrap64 x ≤ 9223372036854775807 := by unfold wrap64; omega

set_option maxRecDepth 100000 in
set_option maxHeartbeats 1000000 in
theorem near_any (B g : Nat) (lo hi : Int) (w : World) (h : Rd w B g) (h0 : -100 ≤ lo) (h1 : lo ≤ 100) (h2 : -9223372036854775808 ≤ hi) (h3 : hi ≤ 9223372036854775807) :
    Calls Try.prog 69 #[.pointer (some ⟨g, 0, none⟩), .int .i64 lo, .int .i64 hi] w (RdPost IsI64 B g w) := by
  have H := Lib.hid h
  clear h
  go_enter Try.func69, Try.ntmps69
  go_wp2_with fail
  refine (below_any B g 8 _ H.out (by omega) (by omega)).mono ?_
  rintro e w1 ⟨v, rfl, ⟨x, rfl, hx0, hx1⟩, hrd, hgr⟩
  have Hrd := Lib.hid hrd
  clear hrd
  have hcases : (x == 0) = true ∨ ((x == 0) = false ∧ (x == 1) = true) ∨ ((x == 0) = false ∧ (x == 1) = false) := by
    by_cases a : x = 0
    · left; simpa using a
    · by_cases b : x = 1
      · right; left; exact ⟨by simpa using a, by simpa using b⟩
      · right; right; exact ⟨by simpa using a, by simpa using b⟩
  rcases hcases with hc | ⟨hc, hc2⟩ | ⟨hc, hc2⟩
  · go_wp2_with fail
    go_ret
    exact ⟨_, rfl, ⟨lo, rfl, by omega, by omega⟩, Hrd.out, hgr⟩
  · go_wp2_with fail
    go_ret
    exact ⟨_, rfl, ⟨hi, rfl, h2, h3⟩, Hrd.out, hgr⟩
  · by_cases hlt : hi < lo
    · go_wp2_with fail
      go_ret
      exact ⟨_, rfl, ⟨lo, rfl, by omega, by omega⟩, Hrd.out, hgr⟩
    · have hge : lo ≤ hi := by omega
      go_wp2_with fail
      refine (word_any B g _ Hrd.out).mono ?_
      rintro e w2 ⟨v, rfl, ⟨z, rfl, hz⟩, hrd2, hgr2⟩
      have Hrd2 := Lib.hid hrd2
      have hgr3 := grown_trans' hgr hgr2
      clear hrd2 hgr hgr2
      have hnz : ¬ IntKind.u64.wrap (wrap64 (wrap64 (hi - lo) + 1)) = 0 := by rw [IntKind.wrap_u64]; unfold wrap64; omega
      go_wp2_with fail
      all_goals
        go_ret
        exact ⟨_, rfl, ⟨_, rfl, (wrap64_bd _).1, (wrap64_bd _).2⟩, Hrd2.out, hgr3⟩

set_option maxRecDepth 100000 in
set_option maxHeartbeats 1000000 in
theorem off_any (B g : Nat) (lo hi : Int) (w : World) (h : Rd w B g) (h0 : -100 ≤ lo) (h1 : lo ≤ 100) (h2 : -9223372036854775808 ≤ hi) (h3 : hi ≤ 9223372036854775807) :
    Calls Try.prog 60 #[.pointer (some ⟨g, 0, none⟩), .int .i64 lo, .int .i64 hi] w (RdPost IsI64 B g w) := by
  have H := Lib.hid h
  clear h
  go_enter Try.func60, Try.ntmps60
  go_wp2_with fail
  refine (once_any B g 24 _ H.out (by omega) (by omega)).mono ?_
  rintro e w1 ⟨v, rfl, ⟨b, rfl⟩, hrd, hgr⟩
  have Hrd := Lib.hid hrd
  clear hrd
  cases b
  · go_wp2_with fail
    refine (near_any B g lo hi _ Hrd.out h0 h1 h2 h3).mono ?_
    rintro e w2 ⟨v, rfl, ⟨z, rfl, hz0, hz1⟩, hrd2, hgr2⟩
    have Hrd2 := Lib.hid hrd2
    have hgr3 := grown_trans' hgr hgr2
    clear hrd2 hgr hgr2
    go_wp2_with fail
    go_ret
    exact ⟨_, rfl, ⟨_, rfl, hz0, hz1⟩, Hrd2.out, hgr3⟩
  · have hlt := Hrd.out.lt
    go_wp2_with fail
    refine (below_any B g 4 _ (Rd.alloc Hrd.out _) (by omega) (by omega)).mono ?_
    rintro e w2 ⟨v, rfl, ⟨x, rfl, hx0, hx1⟩, hrd2, hgr2⟩
    have hblk : w2.heap[w1.heap.size]? = some (.cells #[.int .i64 (lo - 1), .int .i64 (wrap64 (hi + 1)), .int .i64 (-9223372036854775808), .int .i64 9223372036854775807] 2 (0, 0)) := by
      rw [hgr2.block _ (by simp) (by intro he; injection he with he; omega)]; exact heap_alloc_new w1 _
    have hc0 : w2.cell? ⟨w1.heap.size, 0, none⟩ = some (.int .i64 (lo - 1)) := by rw [cell_of_row w2 _ 0 _ _ _ hblk]; rfl
    have hc1 : w2.cell? ⟨w1.heap.size, 1, none⟩ = some (.int .i64 (wrap64 (hi + 1))) := by rw [cell_of_row w2 _ 1 _ _ _ hblk]; rfl
    have hc2 : w2.cell? ⟨w1.heap.size, 2, none⟩ = some (.int .i64 (-9223372036854775808)) := by rw [cell_of_row w2 _ 2 _ _ _ hblk]; rfl
    have hc3 : w2.cell? ⟨w1.heap.size, 3, none⟩ = some (.int .i64 9223372036854775807) := by rw [cell_of_row w2 _ 3 _ _ _ hblk]; rfl
    have Hrd2 := Lib.hid hrd2
    have hgr3 := grown_trans' hgr (grown_trans' (World.grownBy_alloc w1 _ _) hgr2)
    clear hrd2 hgr hgr2 hblk
    have hx : x = 0 ∨ x = 1 ∨ x = 2 ∨ x = 3 := by omega
    rcases hx with rfl | rfl | rfl | rfl
    · go_wp2_with fail
      go_ret
      exact ⟨_, rfl, ⟨_, rfl, by omega, by omega⟩, Hrd2.out, hgr3⟩
    · go_wp2_with fail
      go_ret
      exact ⟨_, rfl, ⟨_, rfl, (wrap64_bd _).1, (wrap64_bd _).2⟩, Hrd2.out, hgr3⟩
    · go_wp2_with fail
      go_ret
      exact ⟨_, rfl, ⟨_, rfl, by omega, by omega⟩, Hrd2.out, hgr3⟩
    · go_wp2_with fail
      go_ret
      exact ⟨_, rfl, ⟨_, rfl, by omega, by omega⟩, Hrd2.out, hgr3⟩
end Go.Proofs.Ytljmiodkmddllaa
