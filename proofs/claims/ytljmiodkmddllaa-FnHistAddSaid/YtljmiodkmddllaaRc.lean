/- Walks: the reader: num; l1Open. -/
import Derived.Test.YtljmiodkmddllaaRb
set_option linter.unusedVariables false
set_option linter.unusedSimpArgs false
namespace Go.Proofs.Ytljmiodkmddllaa
open Go.RowKit

theorem u64_to_i64 (x : Int) : IntKind.i64.wrap x = wrap64 x := by rw [IntKind.wrap_i64]; unfold wrap64; omega

set_option maxRecDepth 100000 in
set_option maxHeartbeats 1000000 in
theorem num_any (B g : Nat) (w : World) (h : Rd w B g) :
    Calls Try.prog 68 #[.pointer (some ⟨g, 0, none⟩)] w (RdPost IsI64 B g w) := by
  have H := Lib.hid h
  clear h
  go_enter Try.func68, Try.ntmps68
  go_wp2_with fail
  refine (below_any B g 8 _ H.out (by omega) (by omega)).mono ?_
  rintro e w1 ⟨v, rfl, ⟨x, rfl, hx0, hx1⟩, hrd, hgr⟩
  have Hrd := Lib.hid hrd
  clear hrd
  have hx : x = 0 ∨ x = 1 ∨ x = 2 ∨ x = 3 ∨ x = 4 ∨ (5 ≤ x) := by omega
  rcases hx with rfl | rfl | rfl | rfl | rfl | hx
  · go_wp2_with fail
    refine (off_any B g (-5) 5 _ Hrd.out (by omega) (by omega) (by omega) (by omega)).mono ?_
    rintro e w2 ⟨v, rfl, ⟨z, rfl, hz0, hz1⟩, hrd2, hgr2⟩
    have Hrd2 := Lib.hid hrd2
    have hgr3 := grown_trans' hgr hgr2
    clear hrd2 hgr hgr2
    go_wp2_with fail
    go_ret
    exact ⟨_, rfl, ⟨_, rfl, hz0, hz1⟩, Hrd2.out, hgr3⟩
  · go_wp2_with fail
    refine (below_any B g 3 _ Hrd.out (by omega) (by omega)).mono ?_
    rintro e w2 ⟨v, rfl, ⟨z, rfl, hz0, hz1⟩, hrd2, hgr2⟩
    have Hrd2 := Lib.hid hrd2
    have hgr3 := grown_trans' hgr hgr2
    clear hrd2 hgr hgr2
    go_wp2_with fail
    go_ret
    exact ⟨_, rfl, ⟨_, rfl, by omega, by omega⟩, Hrd2.out, hgr3⟩
  · go_wp2_with fail
    refine (below_any B g 3 _ Hrd.out (by omega) (by omega)).mono ?_
    rintro e w2 ⟨v, rfl, ⟨z, rfl, hz0, hz1⟩, hrd2, hgr2⟩
    have Hrd2 := Lib.hid hrd2
    have hgr3 := grown_trans' hgr hgr2
    clear hrd2 hgr hgr2
    go_wp2_with fail
    go_ret
    exact ⟨_, rfl, ⟨_, rfl, by omega, by omega⟩, Hrd2.out, hgr3⟩
  · go_wp2_with fail
    refine (word_any B g _ Hrd.out).mono ?_
    rintro e w2 ⟨v, rfl, ⟨z, rfl, hz⟩, hrd2, hgr2⟩
    have Hrd2 := Lib.hid hrd2
    have hgr3 := grown_trans' hgr hgr2
    clear hrd2 hgr hgr2
    go_wp2_with fail
    go_ret
    exact ⟨_, rfl, ⟨_, rfl, (wrap64_bd _).1, (wrap64_bd _).2⟩, Hrd2.out, hgr3⟩
  · go_wp2_with fail
    refine (below_any B g 63 _ Hrd.out (by omega) (by omega)).mono ?_
    rintro e w2 ⟨v, rfl, ⟨z, rfl, hz0, hz1⟩, hrd2, hgr2⟩
    have Hrd2 := Lib.hid hrd2
    have hgr3 := grown_trans' hgr hgr2
    clear hrd2 hgr hgr2
    obtain ⟨Z, rfl⟩ := Int.eq_ofNat_of_zero_le hz0
    go_wp2_with fail
    go_ret
    exact ⟨_, rfl, ⟨_, rfl, (wrap64_bd _).1, (wrap64_bd _).2⟩, Hrd2.out, hgr3⟩
  · have e0 : (x == 0) = false := by simp; omega
    have e1 : (x == 1) = false := by simp; omega
    have e2 : (x == 2) = false := by simp; omega
    have e3 : (x == 3) = false := by simp; omega
    have e4 : (x == 4) = false := by simp; omega
    go_wp2_with fail
    refine (below_any B g 2000 _ Hrd.out (by omega) (by omega)).mono ?_
    rintro e w2 ⟨v, rfl, ⟨z, rfl, hz0, hz1⟩, hrd2, hgr2⟩
    have Hrd2 := Lib.hid hrd2
    have hgr3 := grown_trans' hgr hgr2
    clear hrd2 hgr hgr2
    go_wp2_with fail
    go_ret
    exact ⟨_, rfl, ⟨_, rfl, by omega, by omega⟩, Hrd2.out, hgr3⟩

/-- the drawn code: a slice of bytes that came in -/
def CodeAt (w : World) (A : Option Addr) (n c : Nat) : Prop :=
  n ≤ 1048576 ∧ n ≤ c ∧ (n = 0 ∨ ∃ b off, A = some ⟨b, off, none⟩ ∧ b < w.heap.size ∧ ∀ j, j < n → ∃ x : Nat, x < 256 ∧ w.cell? ⟨b, off + j, none⟩ = some (.int .u8 (x : Int)))
theorem CodeAt.below {w w' : World} {A : Option Addr} {n c : Nat} (h : CodeAt w A n c) (hb : Below w.heap.size w w') : CodeAt w' A n c := by
  refine ⟨h.1, h.2.1, ?_⟩
  rcases h.2.2 with h0 | ⟨b, off, hA, hlt, hx⟩
  · exact .inl h0
  · refine .inr ⟨b, off, hA, Nat.lt_of_lt_of_le hlt hb.size, fun j hj => ?_⟩
    obtain ⟨x, h1, h2⟩ := hx j hj
    exact ⟨x, h1, (hb.cell (p := ⟨b, off + j, none⟩) hlt).trans h2⟩

set_option maxRecDepth 100000 in
set_option maxHeartbeats 400000 in
theorem open_any (A : Option Addr) (n c : Nat) (w : World) (h : CodeAt w A n c) :
    Calls Try.prog 56 #[.slice A n c] w fun e w' => e = .returned (.pointer (some ⟨w.heap.size, 0, none⟩)) ∧ Rd w' w.heap.size w.heap.size ∧ Below w.heap.size w w' := by
  have H := Lib.hid h
  clear h
  go_enter Try.func56, Try.ntmps56
  go_wp2_with fail
  go_ret
  refine ⟨rfl, ⟨A, n, c, 0, heap_alloc_new w _, Nat.zero_le _, H.out.1, H.out.2.1, Nat.le_refl _, ?_⟩, (Below.refl _ _).alloc (Nat.le_refl _) _⟩
  rcases H.out.2.2 with h0 | ⟨b, off, hA, hlt, hx⟩
  · exact .inl h0
  · refine .inr ⟨b, off, hA, hlt, fun j hj => ?_⟩
    obtain ⟨x, h1, h2⟩ := hx j hj
    exact ⟨x, h1, (World.cell?_alloc_lt _ _ _ hlt).trans h2⟩

end Go.Proofs.Ytljmiodkmddllaa
