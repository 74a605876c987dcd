/- Walks: the reader of the drawn code. -/
import Derived.Test.YtanoohfhifhhaaaDoorUa
set_option linter.unusedVariables false
set_option linter.unusedSimpArgs false
namespace Go.Proofs.YtanoohfhifhhaaaDoor
open Go.RowKit

def RdN (w : World) (B g : Nat) (A : Option Addr) (n c p : Nat) : Prop :=
  w.heap[g]? = some (.cells #[.slice A n c, .int .i64 (p : Int)] 93 (0, 0)) ∧ p ≤ n ∧ n ≤ 1048576 ∧ n ≤ c ∧ B ≤ g ∧
  (n = 0 ∨ ∃ b off, A = some ⟨b, off, none⟩ ∧ b < B ∧ ∀ j, j < n → ∃ x : Nat, x < 256 ∧ w.cell? ⟨b, off + j, none⟩ = some (.int .u8 (x : Int)))
def Rd (w : World) (B g : Nat) : Prop := ∃ A n c p, RdN w B g A n c p
def RdPost (P : Value → Prop) (B g : Nat) (w : World) (e : Ending) (w' : World) : Prop :=
  ∃ v, e = .returned v ∧ P v ∧ Rd w' B g ∧ w.grownBy w' (some g)
def IntIn (lo hi : Int) (v : Value) : Prop := ∃ x : Int, v = .int .i64 x ∧ lo ≤ x ∧ x ≤ hi

theorem RdN.lt {w : World} {B g : Nat} {A : Option Addr} {n c p : Nat} (h : RdN w B g A n c p) : g < w.heap.size := by
  rcases Nat.lt_or_ge g w.heap.size with h1 | h1
  · exact h1
  · have := h.1; rw [Array.getElem?_eq_none h1] at this; cases this
theorem Rd.lt {w : World} {B g : Nat} (h : Rd w B g) : g < w.heap.size := by obtain ⟨A, n, c, p, h⟩ := h; exact h.lt
theorem RdN.keep {w w' : World} {B g : Nat} {A : Option Addr} {n c p : Nat} (h : RdN w B g A n c p) (hg : w'.heap[g]? = w.heap[g]?) (hb : ∀ b, b < B → w'.heap[b]? = w.heap[b]?) : RdN w' B g A n c p := by
  obtain ⟨h1, h2, h3, h4, h5, h6⟩ := h
  refine ⟨hg.trans h1, h2, h3, h4, h5, ?_⟩
  rcases h6 with h6 | ⟨b, off, hA, hlt, hx⟩
  · exact .inl h6
  · refine .inr ⟨b, off, hA, hlt, fun j hj => ?_⟩
    obtain ⟨x, hx1, hx2⟩ := hx j hj
    exact ⟨x, hx1, (World.cell?_of_block (a := ⟨b, off + j, none⟩) (hb b hlt)).trans hx2⟩
theorem Rd.keep {w w' : World} {B g : Nat} (h : Rd w B g) (hg : w'.heap[g]? = w.heap[g]?) (hb : ∀ b, b < B → w'.heap[b]? = w.heap[b]?) : Rd w' B g := by
  obtain ⟨A, n, c, p, h⟩ := h; exact ⟨A, n, c, p, h.keep hg hb⟩
theorem Rd.below {w w' : World} {B g : Nat} (h : Rd w B g) (hb : Below w.heap.size w w') : Rd w' B g := by
  have hl := h.lt
  have h' := h
  obtain ⟨A, n, c, p, hh⟩ := h'
  exact h.keep (hb.block g hl) (fun b hb' => hb.block b (by have := hh.2.2.2.2.1; omega))
theorem Rd.alloc {w : World} {B g : Nat} (h : Rd w B g) (o : Obj) : Rd (w.alloc o) B g := h.below ((Below.refl _ _).alloc (Nat.le_refl _) _)
theorem Rd.drew {w : World} {B g : Nat} (h : Rd w B g) : Rd w.drew B g := h.keep rfl (fun _ _ => rfl)
theorem Rd.drewN {w : World} {B g : Nat} (h : Rd w B g) (n : Nat) : Rd (w.drewN n) B g := h.keep rfl (fun _ _ => rfl)
theorem Rd.setCell {w : World} {B g : Nat} (h : Rd w B g) {a : Addr} (ha : B ≤ a.block) (hne : g ≠ a.block) (u : Value) : Rd (w.setCell a u) B g :=
  h.keep (Below.heap_setCell _ _ _ _ hne) (fun b hb => Below.heap_setCell _ _ _ _ (by omega))
theorem Rd.grown {w w' : World} {B g : Nat} {row : Option Nat} (h : Rd w B g) (hg : w.grownBy w' row) (hr : ∀ k, row = some k → B ≤ k ∧ k ≠ g) : Rd w' B g := by
  have hl := h.lt
  have h' := h
  obtain ⟨A, n, c, p, hh⟩ := h'
  have hB := hh.2.2.2.2.1
  exact h.keep (hg.block g hl (fun e => (hr g e.symm).2 rfl)) (fun b hb' => hg.block b (by omega) (fun e => by have := (hr b e.symm).1; omega))

set_option maxRecDepth 100000 in
set_option maxHeartbeats 1000000 in
theorem next_any (B g : Nat) (w : World) (h : Rd w B g) :
    Calls Tryd.prog 84 #[.pointer (some ⟨g, 0, none⟩)] w (RdPost (IntIn 0 255) B g w) := by
  obtain ⟨A, n, c, p, h⟩ := h
  have h' := h
  obtain ⟨h1, h2, h3, h4, h5, h6⟩ := h'
  have hc0 : w.cell? ⟨g, 0, none⟩ = some (.slice A n c) := by rw [cell_of_row w g 0 _ _ _ h1]; rfl
  have hc1 : w.cell? ⟨g, 1, none⟩ = some (.int .i64 (p : Int)) := by rw [cell_of_row w g 1 _ _ _ h1]; rfl
  have hf1 : w.frozen? ⟨g, 1, none⟩ = false := frozen_of_row w g 1 _ _ h1
  have Hd := Lib.hid h
  have H1 := Lib.hid h1
  clear h h1
  by_cases hp : n ≤ p
  · have hpn : (n : Int) ≤ (p : Int) := by omega
    clear h6
    go_enter Tryd.func84, Tryd.ntmps84
    go_wp2_with fail
    go_quiet (fail)
    go_wp2_with fail
    go_ret
    exact ⟨_, rfl, ⟨0, rfl, by omega, by omega⟩, Rd.drewN ⟨A, n, c, p, Hd.out⟩ _, grown_drewN (World.grownBy.refl _ _) _⟩
  · rcases h6 with h6 | ⟨b, off, rfl, hlt, hx⟩
    · omega
    · obtain ⟨x, hx1, hx2⟩ := hx p (by omega)
      have hpn : (p : Int) < (n : Int) := by omega
      have hne : b ≠ g := by omega
      have Hx := Lib.hid hx
      clear hx
      go_enter Tryd.func84, Tryd.ntmps84
      go_wp2_with fail
      go_quiet (fail)
      go_wp2_with fail
      obtain ⟨w2, hw2⟩ : ∃ w2, w2 = (w.drewN nq).setCell ⟨g, 1, none⟩ (.int .i64 ((p : Int) + 1)) := ⟨_, rfl⟩
      have hd0 : w2.cell? ⟨g, 0, none⟩ = some (.slice (some ⟨b, off, none⟩) n c) := by subst hw2; rw [World.cell?_setCell_other _ _ _ _ (by simp)]; exact hc0
      have hd1 : w2.cell? ⟨g, 1, none⟩ = some (.int .i64 ((p : Int) + 1)) := by subst hw2; exact World.cell?_setCell_same' _ _ _ (by show (w.cell? _).isSome = true; rw [hc1]; rfl)
      have hdx : w2.cell? ⟨b, off + p, none⟩ = some (.int .u8 (x : Int)) := by subst hw2; rw [World.cell?_setCell_other _ _ _ _ (by simp [hne])]; exact hx2
      have hblk : w2.heap[g]? = some (.cells #[.slice (some ⟨b, off, none⟩) n c, .int .i64 ((p + 1 : Nat) : Int)] 93 (0, 0)) := by
        subst hw2
        rw [heap_setCell_same (w.drewN nq) g 1 _ _ _ H1.out]
        simp
      have hgr : w.grownBy w2 (some g) := by subst hw2; exact grown_set (grown_drewN (World.grownBy.refl _ _) _) _ _
      have hrd : RdN w2 B g (some ⟨b, off, none⟩) n c (p + 1) := by
        refine ⟨hblk, by omega, h3, h4, h5, .inr ⟨b, off, rfl, hlt, fun j hj => ?_⟩⟩
        obtain ⟨y, hy1, hy2⟩ := Hx.out j hj
        refine ⟨y, hy1, ?_⟩
        subst hw2
        rw [World.cell?_setCell_other _ _ _ _ (by simp [hne])]; exact hy2
      rw [← hw2]
      have Hrd := Lib.hid hrd
      clear hw2 hc0 hc1 hf1 hx2 hblk hrd hp
      have hi : IntKind.i64.wrap ((p : Int) + 1 - 1) = (p : Int) := by rw [show (p : Int) + 1 - 1 = p by omega]; exact IntWalk.i64_in _ (by omega)
      have hi2 : IntKind.i64.wrap (p : Int) = (p : Int) := IntWalk.i64_in _ (by omega)
      have hi3 : IntKind.i64.wrap (x : Int) = (x : Int) := IntWalk.i64_in _ (by omega)
      have hi4 : ((p : Int)).toNat = p := by omega
      have hp0 : (0 : Int) ≤ (p : Int) := by omega
      go_quiet (fail)
      clear hi hi2 hi3 hi4
      go_wp2_with fail
      go_ret
      exact ⟨_, rfl, ⟨(x : Int), rfl, by omega, by omega⟩, Rd.drewN ⟨_, n, c, p + 1, Hrd.out⟩ _, grown_drewN hgr _⟩
end Go.Proofs.YtanoohfhifhhaaaDoor

/- Walks: the reader: below, once, word, near, off, num. -/
set_option linter.unusedVariables false
set_option linter.unusedSimpArgs false
namespace Go.Proofs.YtanoohfhifhhaaaDoor
open Go.RowKit

set_option maxRecDepth 100000 in
set_option maxHeartbeats 1000000 in
theorem below_any (B g : Nat) (n : Int) (w : World) (h : Rd w B g) (h1 : 1 ≤ n) (h2 : n ≤ 2000000) :
    Calls Tryd.prog 55 #[.pointer (some ⟨g, 0, none⟩), .int .i64 n] w (RdPost (IntIn 0 (n - 1)) B g w) := by
  have H := Lib.hid h
  clear h
  by_cases hn1 : n ≤ 1
  · go_enter Tryd.func55, Tryd.ntmps55
    go_wp2_with fail
    go_ret
    exact ⟨_, rfl, ⟨0, rfl, by omega, by omega⟩, H.out, World.grownBy.refl _ _⟩
  · by_cases hn2 : n ≤ 256
    · go_enter Tryd.func55, Tryd.ntmps55
      go_wp2_with fail
      refine (next_any B g _ H.out).mono ?_
      rintro e w1 ⟨v, rfl, ⟨x, rfl, hx0, hx1⟩, hrd, hgr⟩
      have Hrd := Lib.hid hrd
      clear hrd
      have hm0 := Int.emod_nonneg x (b := n) (by omega)
      have hm1 := Int.emod_lt_of_pos x (b := n) (by omega)
      go_wp2_with fail
      go_ret
      exact ⟨_, rfl, ⟨x % n, rfl, hm0, by omega⟩, Hrd.out, hgr⟩
    · have hn3 : 256 < n := by omega
      go_enter Tryd.func55, Tryd.ntmps55
      go_wp2_with fail
      refine (next_any B g _ H.out).mono ?_
      rintro e w1 ⟨v, rfl, ⟨x, rfl, hx0, hx1⟩, hrd, hgr⟩
      have Hrd := Lib.hid hrd
      clear hrd
      go_wp2_with fail
      refine (next_any B g _ Hrd.out).mono ?_
      rintro e w2 ⟨v, rfl, ⟨y, rfl, hy0, hy1⟩, hrd2, hgr2⟩
      have Hrd2 := Lib.hid hrd2
      clear hrd2
      have hm0 := Int.emod_nonneg (x * 256 + y) (b := n) (by omega)
      have hm1 := Int.emod_lt_of_pos (x * 256 + y) (b := n) (by omega)
      have hgr3 : w.grownBy w2 (some g) := ⟨hgr2.os.trans hgr.os, hgr2.tape.trans hgr.tape, hgr2.output.trans hgr.output, Nat.le_trans hgr.size hgr2.size, fun i hi hne => (hgr2.block i (Nat.lt_of_lt_of_le hi hgr.size) hne).trans (hgr.block i hi hne)⟩
      clear hgr hgr2
      go_wp2_with fail
      go_ret
      exact ⟨_, rfl, ⟨(x * 256 + y) % n, rfl, hm0, by omega⟩, Hrd2.out, hgr3⟩

def IsBool (v : Value) : Prop := ∃ b : Bool, v = .bool b
set_option maxRecDepth 100000 in
set_option maxHeartbeats 1000000 in
theorem once_any (B g : Nat) (n : Int) (w : World) (h : Rd w B g) (h1 : 1 ≤ n) (h2 : n ≤ 2000000) :
    Calls Tryd.prog 54 #[.pointer (some ⟨g, 0, none⟩), .int .i64 n] w (RdPost IsBool B g w) := by
  have H := Lib.hid h
  clear h
  go_enter Tryd.func54, Tryd.ntmps54
  go_wp2_with fail
  refine (below_any B g n _ H.out h1 h2).mono ?_
  rintro e w1 ⟨v, rfl, ⟨x, rfl, hx0, hx1⟩, hrd, hgr⟩
  have Hrd := Lib.hid hrd
  clear hrd
  go_wp2_with fail
  go_ret
  exact ⟨_, rfl, ⟨_, rfl⟩, Hrd.out, hgr⟩

theorem grown_trans' {a b c : World} {row : Option Nat} (h : a.grownBy b row) (k : b.grownBy c row) : a.grownBy c row :=
  ⟨k.os.trans h.os, k.tape.trans h.tape, k.output.trans h.output, Nat.le_trans h.size k.size, fun i hi hne => (k.block i (Nat.lt_of_lt_of_le hi h.size) hne).trans (h.block i hi hne)⟩

def IsWord (v : Value) : Prop := ∃ x : Nat, v = .int .u64 (x : Int) ∧ x < 2 ^ 64
theorem word_or {x : Nat} {y : Int} (h0 : 0 ≤ y) (h1 : y ≤ 255) : ∃ z : Nat, bits .or .u64 (IntKind.u64.wrap ((x : Int) * 256)) y = (z : Int) ∧ z < 2 ^ 64 := by
  obtain ⟨Y, rfl⟩ := Int.eq_ofNat_of_zero_le h0
  have e1 : IntKind.u64.wrap ((x : Int) * 256) = ((x * 256 % 2 ^ 64 : Nat) : Int) := by rw [IntKind.wrap_u64]; omega
  rw [e1, bits_or_u64_nat _ _ (Nat.mod_lt _ (by decide)) (by omega)]
  exact ⟨_, rfl, Nat.or_lt_two_pow (Nat.mod_lt _ (by decide)) (by omega)⟩

set_option maxRecDepth 100000 in
set_option maxHeartbeats 1000000 in
theorem word_any (B g : Nat) (w : World) (h : Rd w B g) :
    Calls Tryd.prog 96 #[.pointer (some ⟨g, 0, none⟩)] w (RdPost IsWord B g w) := by
  have H := Lib.hid h
  clear h
  go_enter Tryd.func96, Tryd.ntmps96
  go_wp2_with fail
  go_loopw [3, 4] (fun x i wr => ∃ (k : Nat) (z : Nat), k ≤ 8 ∧ i = .int .i64 k ∧ x = .int .u64 (z : Int) ∧ z < 2 ^ 64 ∧ Hid (Rd wr B g) ∧ w.grownBy wr (some g))
    (fun _ i _ => 8 - (intOf i).toNat)
  case atStart => exact ⟨0, 0, by omega, rfl, rfl, by omega, H.out, World.grownBy.refl _ _⟩
  case round =>
    obtain ⟨k, z, hk, rfl, rfl, hz, Hrd, hgr⟩ := hrel
    by_cases hlt : k < 8
    · have hki : (k : Int) < 8 := by omega
      go_wp2_with fail
      refine (next_any B g _ Hrd.out).mono ?_
      rintro e w2 ⟨v, rfl, ⟨y, rfl, hy0, hy1⟩, hrd2, hgr2⟩
      have Hrd2 := Lib.hid hrd2
      have hgr3 := grown_trans' hgr hgr2
      obtain ⟨q, hq, hq2⟩ := word_or (x := z) hy0 hy1
      clear hrd2 hgr hgr2
      go_wp2_with fail
      go_roundw
      case rel => exact ⟨k + 1, q, by omega, by go_num, by congr 1, hq2, Hrd2, hgr3⟩
      case measure => simp [intOf]; omega
    · have hki : ¬ (k : Int) < 8 := by omega
      go_wp2_with fail
      go_ret
      exact ⟨_, rfl, ⟨z, rfl, hz⟩, Hrd.out, hgr⟩

def IsI64 (v : Value) : Prop := ∃ x : Int, v = .int .i64 x ∧ -9223372036854775808 ≤ x ∧ x ≤ 9223372036854775807

theorem wrap64_bd (x : Int) : -9223372036854775808 ≤ wrap64 x ∧ wrap64 x ≤ 9223372036854775807 := by unfold wrap64; omega

set_option maxRecDepth 100000 in
set_option maxHeartbeats 1000000 in
theorem near_any (B g : Nat) (lo hi : Int) (w : World) (h : Rd w B g) (h0 : -100 ≤ lo) (h1 : lo ≤ 100) (h2 : -9223372036854775808 ≤ hi) (h3 : hi ≤ 9223372036854775807) :
    Calls Tryd.prog 70 #[.pointer (some ⟨g, 0, none⟩), .int .i64 lo, .int .i64 hi] w (RdPost IsI64 B g w) := by
  have H := Lib.hid h
  clear h
  go_enter Tryd.func70, Tryd.ntmps70
  go_wp2_with fail
  refine (below_any B g 8 _ H.out (by omega) (by omega)).mono ?_
  rintro e w1 ⟨v, rfl, ⟨x, rfl, hx0, hx1⟩, hrd, hgr⟩
  have Hrd := Lib.hid hrd
  clear hrd
  have hcases : (x == 0) = true ∨ ((x == 0) = false ∧ (x == 1) = true) ∨ ((x == 0) = false ∧ (x == 1) = false) := by
    by_cases a : x = 0
    · left; simpa using a
    · by_cases b : x = 1
      · right; left; exact ⟨by simpa using a, by simpa using b⟩
      · right; right; exact ⟨by simpa using a, by simpa using b⟩
  rcases hcases with hc | ⟨hc, hc2⟩ | ⟨hc, hc2⟩
  · go_wp2_with fail
    go_ret
    exact ⟨_, rfl, ⟨lo, rfl, by omega, by omega⟩, Hrd.out, hgr⟩
  · go_wp2_with fail
    go_ret
    exact ⟨_, rfl, ⟨hi, rfl, h2, h3⟩, Hrd.out, hgr⟩
  · by_cases hlt : hi < lo
    · go_wp2_with fail
      go_ret
      exact ⟨_, rfl, ⟨lo, rfl, by omega, by omega⟩, Hrd.out, hgr⟩
    · have hge : lo ≤ hi := by omega
      go_wp2_with fail
      refine (word_any B g _ Hrd.out).mono ?_
      rintro e w2 ⟨v, rfl, ⟨z, rfl, hz⟩, hrd2, hgr2⟩
      have Hrd2 := Lib.hid hrd2
      have hgr3 := grown_trans' hgr hgr2
      clear hrd2 hgr hgr2
      have hnz : ¬ IntKind.u64.wrap (wrap64 (wrap64 (hi - lo) + 1)) = 0 := by rw [IntKind.wrap_u64]; unfold wrap64; omega
      go_wp2_with fail
      all_goals
        go_ret
        exact ⟨_, rfl, ⟨_, rfl, (wrap64_bd _).1, (wrap64_bd _).2⟩, Hrd2.out, hgr3⟩

set_option maxRecDepth 100000 in
set_option maxHeartbeats 1000000 in
theorem off_any (B g : Nat) (lo hi : Int) (w : World) (h : Rd w B g) (h0 : -100 ≤ lo) (h1 : lo ≤ 100) (h2 : -9223372036854775808 ≤ hi) (h3 : hi ≤ 9223372036854775807) :
    Calls Tryd.prog 45 #[.pointer (some ⟨g, 0, none⟩), .int .i64 lo, .int .i64 hi] w (RdPost IsI64 B g w) := by
  have H := Lib.hid h
  clear h
  go_enter Tryd.func45, Tryd.ntmps45
  go_wp2_with fail
  refine (once_any B g 24 _ H.out (by omega) (by omega)).mono ?_
  rintro e w1 ⟨v, rfl, ⟨b, rfl⟩, hrd, hgr⟩
  have Hrd := Lib.hid hrd
  clear hrd
  cases b
  · go_wp2_with fail
    refine (near_any B g lo hi _ Hrd.out h0 h1 h2 h3).mono ?_
    rintro e w2 ⟨v, rfl, ⟨z, rfl, hz0, hz1⟩, hrd2, hgr2⟩
    have Hrd2 := Lib.hid hrd2
    have hgr3 := grown_trans' hgr hgr2
    clear hrd2 hgr hgr2
    go_wp2_with fail
    go_ret
    exact ⟨_, rfl, ⟨_, rfl, hz0, hz1⟩, Hrd2.out, hgr3⟩
  · have hlt := Hrd.out.lt
    go_wp2_with fail
    refine (below_any B g 4 _ (Rd.alloc Hrd.out _) (by omega) (by omega)).mono ?_
    rintro e w2 ⟨v, rfl, ⟨x, rfl, hx0, hx1⟩, hrd2, hgr2⟩
    have hblk : w2.heap[w1.heap.size]? = some (.cells #[.int .i64 (lo - 1), .int .i64 (wrap64 (hi + 1)), .int .i64 (-9223372036854775808), .int .i64 9223372036854775807] 2 (0, 0)) := by
      rw [hgr2.block _ (by simp) (by intro he; injection he with he; omega)]; exact heap_alloc_new w1 _
    have hc0 : w2.cell? ⟨w1.heap.size, 0, none⟩ = some (.int .i64 (lo - 1)) := by rw [cell_of_row w2 _ 0 _ _ _ hblk]; rfl
    have hc1 : w2.cell? ⟨w1.heap.size, 1, none⟩ = some (.int .i64 (wrap64 (hi + 1))) := by rw [cell_of_row w2 _ 1 _ _ _ hblk]; rfl
    have hc2 : w2.cell? ⟨w1.heap.size, 2, none⟩ = some (.int .i64 (-9223372036854775808)) := by rw [cell_of_row w2 _ 2 _ _ _ hblk]; rfl
    have hc3 : w2.cell? ⟨w1.heap.size, 3, none⟩ = some (.int .i64 9223372036854775807) := by rw [cell_of_row w2 _ 3 _ _ _ hblk]; rfl
    have Hrd2 := Lib.hid hrd2
    have hgr3 := grown_trans' hgr (grown_trans' (World.grownBy_alloc w1 _ _) hgr2)
    clear hrd2 hgr hgr2 hblk
    have hx : x = 0 ∨ x = 1 ∨ x = 2 ∨ x = 3 := by omega
    rcases hx with rfl | rfl | rfl | rfl
    · go_wp2_with fail
      go_ret
      exact ⟨_, rfl, ⟨_, rfl, by omega, by omega⟩, Hrd2.out, hgr3⟩
    · go_wp2_with fail
      go_ret
      exact ⟨_, rfl, ⟨_, rfl, (wrap64_bd _).1, (wrap64_bd _).2⟩, Hrd2.out, hgr3⟩
    · go_wp2_with fail
      go_ret
      exact ⟨_, rfl, ⟨_, rfl, by omega, by omega⟩, Hrd2.out, hgr3⟩
    · go_wp2_with fail
      go_ret
      exact ⟨_, rfl, ⟨_, rfl, by omega, by omega⟩, Hrd2.out, hgr3⟩
end Go.Proofs.YtanoohfhifhhaaaDoor

/- Walks: the reader: num; l1Open. -/
set_option linter.unusedVariables false
set_option linter.unusedSimpArgs false
namespace Go.Proofs.YtanoohfhifhhaaaDoor
open Go.RowKit

theorem u64_to_i64 (x : Int) : IntKind.i64.wrap x = wrap64 x := by rw [IntKind.wrap_i64]; unfold wrap64; omega

set_option maxRecDepth 100000 in
set_option maxHeartbeats 1000000 in
theorem num_any (B g : Nat) (w : World) (h : Rd w B g) :
    Calls Tryd.prog 95 #[.pointer (some ⟨g, 0, none⟩)] w (RdPost IsI64 B g w) := by
  have H := Lib.hid h
  clear h
  go_enter Tryd.func95, Tryd.ntmps95
  go_wp2_with fail
  refine (below_any B g 8 _ H.out (by omega) (by omega)).mono ?_
  rintro e w1 ⟨v, rfl, ⟨x, rfl, hx0, hx1⟩, hrd, hgr⟩
  have Hrd := Lib.hid hrd
  clear hrd
  have hx : x = 0 ∨ x = 1 ∨ x = 2 ∨ x = 3 ∨ x = 4 ∨ (5 ≤ x) := by omega
  rcases hx with rfl | rfl | rfl | rfl | rfl | hx
  · go_wp2_with fail
    refine (off_any B g (-5) 5 _ Hrd.out (by omega) (by omega) (by omega) (by omega)).mono ?_
    rintro e w2 ⟨v, rfl, ⟨z, rfl, hz0, hz1⟩, hrd2, hgr2⟩
    have Hrd2 := Lib.hid hrd2
    have hgr3 := grown_trans' hgr hgr2
    clear hrd2 hgr hgr2
    go_wp2_with fail
    go_ret
    exact ⟨_, rfl, ⟨_, rfl, hz0, hz1⟩, Hrd2.out, hgr3⟩
  · go_wp2_with fail
    refine (below_any B g 3 _ Hrd.out (by omega) (by omega)).mono ?_
    rintro e w2 ⟨v, rfl, ⟨z, rfl, hz0, hz1⟩, hrd2, hgr2⟩
    have Hrd2 := Lib.hid hrd2
    have hgr3 := grown_trans' hgr hgr2
    clear hrd2 hgr hgr2
    go_wp2_with fail
    go_ret
    exact ⟨_, rfl, ⟨_, rfl, by omega, by omega⟩, Hrd2.out, hgr3⟩
  · go_wp2_with fail
    refine (below_any B g 3 _ Hrd.out (by omega) (by omega)).mono ?_
    rintro e w2 ⟨v, rfl, ⟨z, rfl, hz0, hz1⟩, hrd2, hgr2⟩
    have Hrd2 := Lib.hid hrd2
    have hgr3 := grown_trans' hgr hgr2
    clear hrd2 hgr hgr2
    go_wp2_with fail
    go_ret
    exact ⟨_, rfl, ⟨_, rfl, by omega, by omega⟩, Hrd2.out, hgr3⟩
  · go_wp2_with fail
    refine (word_any B g _ Hrd.out).mono ?_
    rintro e w2 ⟨v, rfl, ⟨z, rfl, hz⟩, hrd2, hgr2⟩
    have Hrd2 := Lib.hid hrd2
    have hgr3 := grown_trans' hgr hgr2
    clear hrd2 hgr hgr2
    go_wp2_with fail
    go_ret
    exact ⟨_, rfl, ⟨_, rfl, (wrap64_bd _).1, (wrap64_bd _).2⟩, Hrd2.out, hgr3⟩
  · go_wp2_with fail
    refine (below_any B g 63 _ Hrd.out (by omega) (by omega)).mono ?_
    rintro e w2 ⟨v, rfl, ⟨z, rfl, hz0, hz1⟩, hrd2, hgr2⟩
    have Hrd2 := Lib.hid hrd2
    have hgr3 := grown_trans' hgr hgr2
    clear hrd2 hgr hgr2
    obtain ⟨Z, rfl⟩ := Int.eq_ofNat_of_zero_le hz0
    go_wp2_with fail
    go_ret
    exact ⟨_, rfl, ⟨_, rfl, (wrap64_bd _).1, (wrap64_bd _).2⟩, Hrd2.out, hgr3⟩
  · have e0 : (x == 0) = false := by simp; omega
    have e1 : (x == 1) = false := by simp; omega
    have e2 : (x == 2) = false := by simp; omega
    have e3 : (x == 3) = false := by simp; omega
    have e4 : (x == 4) = false := by simp; omega
    go_wp2_with fail
    refine (below_any B g 2000 _ Hrd.out (by omega) (by omega)).mono ?_
    rintro e w2 ⟨v, rfl, ⟨z, rfl, hz0, hz1⟩, hrd2, hgr2⟩
    have Hrd2 := Lib.hid hrd2
    have hgr3 := grown_trans' hgr hgr2
    clear hrd2 hgr hgr2
    go_wp2_with fail
    go_ret
    exact ⟨_, rfl, ⟨_, rfl, by omega, by omega⟩, Hrd2.out, hgr3⟩

/-- the drawn code: a slice of bytes that came in -/
def CodeAt (w : World) (A : Option Addr) (n c : Nat) : Prop :=
  n ≤ 1048576 ∧ n ≤ c ∧ (n = 0 ∨ ∃ b off, A = some ⟨b, off, none⟩ ∧ b < w.heap.size ∧ ∀ j, j < n → ∃ x : Nat, x < 256 ∧ w.cell? ⟨b, off + j, none⟩ = some (.int .u8 (x : Int)))
theorem CodeAt.below {w w' : World} {A : Option Addr} {n c : Nat} (h : CodeAt w A n c) (hb : Below w.heap.size w w') : CodeAt w' A n c := by
  refine ⟨h.1, h.2.1, ?_⟩
  rcases h.2.2 with h0 | ⟨b, off, hA, hlt, hx⟩
  · exact .inl h0
  · refine .inr ⟨b, off, hA, Nat.lt_of_lt_of_le hlt hb.size, fun j hj => ?_⟩
    obtain ⟨x, h1, h2⟩ := hx j hj
    exact ⟨x, h1, (hb.cell (p := ⟨b, off + j, none⟩) hlt).trans h2⟩

set_option maxRecDepth 100000 in
set_option maxHeartbeats 400000 in
theorem open_any (A : Option Addr) (n c : Nat) (w : World) (h : CodeAt w A n c) :
    Calls Tryd.prog 43 #[.slice A n c] w fun e w' => e = .returned (.pointer (some ⟨w.heap.size, 0, none⟩)) ∧ Rd w' w.heap.size w.heap.size ∧ Below w.heap.size w w' := by
  have H := Lib.hid h
  clear h
  go_enter Tryd.func43, Tryd.ntmps43
  go_wp2_with fail
  go_ret
  refine ⟨rfl, ⟨A, n, c, 0, heap_alloc_new w _, Nat.zero_le _, H.out.1, H.out.2.1, Nat.le_refl _, ?_⟩, (Below.refl _ _).alloc (Nat.le_refl _) _⟩
  rcases H.out.2.2 with h0 | ⟨b, off, hA, hlt, hx⟩
  · exact .inl h0
  · refine .inr ⟨b, off, hA, hlt, fun j hj => ?_⟩
    obtain ⟨x, h1, h2⟩ := hx j hj
    exact ⟨x, h1, (World.cell?_alloc_lt _ _ _ hlt).trans h2⟩

end Go.Proofs.YtanoohfhifhhaaaDoor
