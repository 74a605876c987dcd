/- Walks: the reader of the drawn code. -/
import Derived.Test.YtljmiodkmddllaaUa
set_option linter.unusedVariables false
set_option linter.unusedSimpArgs false
namespace Go.Proofs.Ytljmiodkmddllaa
open Go.RowKit

def RdN (w : World) (B g : Nat) (A : Option Addr) (n c p : Nat) : Prop :=
  w.heap[g]? = some (.cells #[.slice A n c, .int .i64 (p : Int)] 79 (0, 0)) ∧ p ≤ n ∧ n ≤ 1048576 ∧ n ≤ c ∧ B ≤ g ∧
  (n = 0 ∨ ∃ b off, A = some ⟨b, off, none⟩ ∧ b < B ∧ ∀ j, j < n → ∃ x : Nat, x < 256 ∧ w.cell? ⟨b, off + j, none⟩ = some (.int .u8 (x : Int)))
def Rd (w : World) (B g : Nat) : Prop := ∃ A n c p, RdN w B g A n c p
def RdPost (P : Value → Prop) (B g : Nat) (w : World) (e : Ending) (w' : World) : Prop :=
  ∃ v, e = .returned v ∧ P v ∧ Rd w' B g ∧ w.grownBy w' (some g)
def IntIn (lo hi : Int) (v : Value) : Prop := ∃ x : Int, v = .int .i64 x ∧ lo ≤ x ∧ x ≤ hi

theorem RdN.lt {w : World} {B g : Nat} {A : Option Addr} {n c p : Nat} (h : RdN w B g A n c p) : g < w.heap.size := by
  rcases Nat.lt_or_ge g w.heap.size with h1 | h1
  · exact h1
  · have := h.1; rw [Array.getElem?_eq_none h1] at this; cases this
theorem Rd.lt {w : World} {B g : Nat} (h : Rd w B g) : g < w.heap.size := by obtain ⟨A, n, c, p, h⟩ := h; exact h.lt
theorem RdN.keep {w w' : World} {B g : Nat} {A : Option Addr} {n c p : Nat} (h : RdN w B g A n c p) (hg : w'.heap[g]? = w.heap[g]?) (hb : ∀ b, b < B → w'.heap[b]? = w.heap[b]?) : RdN w' B g A n c p := by
  obtain ⟨h1, h2, h3, h4, h5, h6⟩ := h
  refine ⟨hg.trans h1, h2, h3, h4, h5, ?_⟩
  rcases h6 with h6 | ⟨b, off, hA, hlt, hx⟩
  · exact .inl h6
  · refine .inr ⟨b, off, hA, hlt, fun j hj => ?_⟩
    obtain ⟨x, hx1, hx2⟩ := hx j hj
    exact ⟨x, hx1, (World.cell?_of_block (a := ⟨b, off + j, none⟩) (hb b hlt)).trans hx2⟩
theorem Rd.keep {w w' : World} {B g : Nat} (h : Rd w B g) (hg : w'.heap[g]? = w.heap[g]?) (hb : ∀ b, b < B → w'.heap[b]? = w.heap[b]?) : Rd w' B g := by
  obtain ⟨A, n, c, p, h⟩ := h; exact ⟨A, n, c, p, h.keep hg hb⟩
theorem Rd.below {w w' : World} {B g : Nat} (h : Rd w B g) (hb : Below w.heap.size w w') : Rd w' B g := by
  have hl := h.lt
  have h' := h
  obtain ⟨A, n, c, p, hh⟩ := h'
  exact h.keep (hb.block g hl) (fun b hb' => hb.block b (by have := hh.2.2.2.2.1; omega))
theorem Rd.alloc {w : World} {B g : Nat} (h : Rd w B g) (o : Obj) : Rd (w.alloc o) B g := h.below ((Below.refl _ _).alloc (Nat.le_refl _) _)
theorem Rd.drew {w : World} {B g : Nat} (h : Rd w B g) : Rd w.drew B g := h.keep rfl (fun _ _ => rfl)
theorem Rd.drewN {w : World} {B g : Nat} (h : Rd w B g) (n : Nat) : Rd (w.drewN n) B g := h.keep rfl (fun _ _ => rfl)
theorem Rd.setCell {w : World} {B g : Nat} (h : Rd w B g) {a : Addr} (ha : B ≤ a.block) (hne : g ≠ a.block) (u : Value) : Rd (w.setCell a u) B g :=
  h.keep (Below.heap_setCell _ _ _ _ hne) (fun b hb => Below.heap_setCell _ _ _ _ (by omega))
theorem Rd.grown {w w' : World} {B g : Nat} {row : Option Nat} (h : Rd w B g) (hg : w.grownBy w' row) (hr : ∀ k, row = some k → B ≤ k ∧ k ≠ g) : Rd w' B g := by
  have hl := h.lt
  have h' := h
  obtain ⟨A, n, c, p, hh⟩ := h'
  have hB := hh.2.2.2.2.1
  exact h.keep (hg.block g hl (fun e => (hr g e.symm).2 rfl)) (fun b hb' => hg.block b (by omega) (fun e => by have := (hr b e.symm).1; omega))

set_option maxRecDepth 100000 in
set_option maxHeartbeats 1000000 in
theorem next_any (B g : Nat) (w : World) (h : Rd w B g) :
    Calls Try.prog 70 #[.pointer (some ⟨g, 0, none⟩)] w (RdPost (IntIn 0 255) B g w) := by
  obtain ⟨A, n, c, p, h⟩ := h
  have h' := h
  obtain ⟨h1, h2, h3, h4, h5, h6⟩ := h'
  have hc0 : w.cell? ⟨g, 0, none⟩ = some (.slice A n c) := by rw [cell_of_row w g 0 _ _ _ h1]; rfl
  have hc1 : w.cell? ⟨g, 1, none⟩ = some (.int .i64 (p : Int)) := by rw [cell_of_row w g 1 _ _ _ h1]; rfl
  have hf1 : w.frozen? ⟨g, 1, none⟩ = false := frozen_of_row w g 1 _ _ h1
  have Hd := Lib.hid h
  have H1 := Lib.hid h1
  clear h h1
  by_cases hp : n ≤ p
  · have hpn : (n : Int) ≤ (p : Int) := by omega
    clear h6
    go_enter Try.func70, Try.ntmps70
    go_wp2_with fail
    go_quiet (fail)
    go_wp2_with fail
    go_ret
    exact ⟨_, rfl, ⟨0, rfl, by omega, by omega⟩, Rd.drewN ⟨A, n, c, p, Hd.out⟩ _, grown_drewN (World.grownBy.refl _ _) _⟩
  · rcases h6 with h6 | ⟨b, off, rfl, hlt, hx⟩
    · omega
    · obtain ⟨x, hx1, hx2⟩ := hx p (by omega)
      have hpn : (p : Int) < (n : Int) := by omega
      have hne : b ≠ g := by omega
      have Hx := Lib.hid hx
      clear hx
      go_enter Try.func70, Try.ntmps70
      go_wp2_with fail
      go_quiet (fail)
      go_wp2_with fail
      obtain ⟨w2, hw2⟩ : ∃ w2, w2 = (w.drewN nq).setCell ⟨g, 1, none⟩ (.int .i64 ((p : Int) + 1)) := ⟨_, rfl⟩
      have hd0 : w2.cell? ⟨g, 0, none⟩ = some (.slice (some ⟨b, off, none⟩) n c) := by subst hw2; rw [World.cell?_setCell_other _ _ _ _ (by simp)]; exact hc0
      have hd1 : w2.cell? ⟨g, 1, none⟩ = some (.int .i64 ((p : Int) + 1)) := by subst hw2; exact World.cell?_setCell_same' _ _ _ (by show (w.cell? _).isSome = true; rw [hc1]; rfl)
      have hdx : w2.cell? ⟨b, off + p, none⟩ = some (.int .u8 (x : Int)) := by subst hw2; rw [World.cell?_setCell_other _ _ _ _ (by simp [hne])]; exact hx2
      have hblk : w2.heap[g]? = some (.cells #[.slice (some ⟨b, off, none⟩) n c, .int .i64 ((p + 1 : Nat) : Int)] 79 (0, 0)) := by
        subst hw2
        rw [heap_setCell_same (w.drewN nq) g 1 _ _ _ H1.out]
        simp
      have hgr : w.grownBy w2 (some g) := by subst hw2; exact grown_set (grown_drewN (World.grownBy.refl _ _) _) _ _
      have hrd : RdN w2 B g (some ⟨b, off, none⟩) n c (p + 1) := by
        refine ⟨hblk, by omega, h3, h4, h5, .inr ⟨b, off, rfl, hlt, fun j hj => ?_⟩⟩
        obtain ⟨y, hy1, hy2⟩ := Hx.out j hj
        refine ⟨y, hy1, ?_⟩
        subst hw2
        rw [World.cell?_setCell_other _ _ _ _ (by simp [hne])]; exact hy2
      rw [← hw2]
      have Hrd := Lib.hid hrd
      clear hw2 hc0 hc1 hf1 hx2 hblk hrd hp
      have hi : IntKind.i64.wrap ((p : Int) + 1 - 1) = (p : Int) := by rw [show (p : Int) + 1 - 1 = p by omega]; exact IntWalk.i64_in _ (by omega)
      have hi2 : IntKind.i64.wrap (p : Int) = (p : Int) := IntWalk.i64_in _ (by omega)
      have hi3 : IntKind.i64.wrap (x : Int) = (x : Int) := IntWalk.i64_in _ (by omega)
      have hi4 : ((p : Int)).toNat = p := by omega
      have hp0 : (0 : Int) ≤ (p : Int) := by omega
      go_quiet (fail)
      clear hi hi2 hi3 hi4
      go_wp2_with fail
      go_ret
      exact ⟨_, rfl, ⟨(x : Int), rfl, by omega, by omega⟩, Rd.drewN ⟨_, n, c, p + 1, Hrd.out⟩ _, grown_drewN hgr _⟩
end Go.Proofs.Ytljmiodkmddllaa
