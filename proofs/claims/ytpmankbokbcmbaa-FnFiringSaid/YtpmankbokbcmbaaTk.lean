/- Walks: drawn points and limits; what FnAbove asks. -/
import Derived.Test.YtpmankbokbcmbaaTj
import Derived.Test.YtpmankbokbcmbaaXa
import Derived.Test.YtpmankbokbcmbaaUb
set_option linter.unusedVariables false
set_option linter.unusedSimpArgs false
namespace Go.Proofs.Ytpmankbokbcmbaa
open Go.RowKit

theorem p_baseT {w : World} {base base' sz : Nat} {e : TypeId} {v : Value} {n : Nat} {xs : List Value} (h : w.ownsRow base e sz v n xs) (hb : base' ≤ base) : w.ownsRow base' e sz v n xs :=
  ⟨h.1, h.2.imp id fun ⟨g, cap, cur, a, b, c⟩ => ⟨g, cap, cur, a, Nat.le_trans hb b, c⟩⟩
set_option maxRecDepth 100000 in
set_option maxHeartbeats 2000000 in
theorem DrawAbove_any (A : Option Addr) (n c : Nat) (w : World) (h : CodeAt w A n c) :
    Calls Try.prog 22 #[.slice A n c] w fun e w' => ∃ v xs a b, e = .returned (.tuple #[v, .int .i64 a, .int .i64 b]) ∧ w'.ownsRow w.heap.size 42 2 v xs.length (prs xs) ∧ xs.length ≤ 10 ∧ (∀ p ∈ xs, Rng p.1 ∧ Rng p.2) ∧ Rng a ∧ Rng b ∧ Below w.heap.size w w' := by
  have H := Lib.hid h
  clear h
  go_enter Try.func22, Try.ntmps22
  go_wp2_with fail
  refine (open_any A n c _ H.out).mono ?_
  rintro e w1 ⟨rfl, hrd1, hb1⟩
  have Hrd1 := Lib.hid hrd1
  have Hb1 := Lib.hid hb1
  have hg1 := hrd1.lt
  clear hrd1 hb1
  go_wp2_with fail
  refine (small_any 10 (by omega) (by omega) _ _ _ Hrd1.out).mono ?_
  rintro e w2 ⟨v, xs, rfl, ht, hxl, hxr⟩
  have Ht := Lib.hid ht
  have Hxr := Lib.hid hxr
  clear ht hxr
  go_wp2_with fail
  refine (off_any _ _ (-10) 50 _ Ht.out.rd (by omega) (by omega) (by omega) (by omega)).mono ?_
  rintro e w3 ⟨_, rfl, ⟨y3, rfl, hyl3, hyh3⟩, hrd, hgr⟩
  have Ht' := Lib.hid (Ht.out.read hg1 hrd hgr)
  clear Ht hrd hgr
  have Ht := Ht'
  clear Ht'
  go_wp2_with fail
  refine (off_any _ _ 0 30 _ Ht.out.rd (by omega) (by omega) (by omega) (by omega)).mono ?_
  rintro e w4 ⟨_, rfl, ⟨y4, rfl, hyl4, hyh4⟩, hrd, hgr⟩
  have Ht' := Lib.hid (Ht.out.read hg1 hrd hgr)
  clear Ht hrd hgr
  have Ht := Ht'
  clear Ht'
  go_wp2_with fail
  have hown := p_baseT Ht.out.own Hb1.out.size
  have hb2 := Hb1.out.grown Ht.out.gr Hb1.out.size (fun k hk => by injection hk with hk; omega)
  go_ret3
  exact ⟨v, xs, y3, y4, rfl, hown, hxl, Hxr.out, ⟨hyl3, hyh3⟩, ⟨hyl4, hyh4⟩, hb2⟩
def DQ (a b : World) : Prop := ∃ q, b = a.drewN q
theorem DQ.refl (a : World) : DQ a a := ⟨0, rfl⟩
theorem DQ.of (a : World) (q : Nat) : DQ a (a.drewN q) := ⟨q, rfl⟩
theorem DQ.step {a b : World} (h : DQ a b) (n : Nat) : DQ a (b.drewN n) := by
  obtain ⟨q, rfl⟩ := h
  exact ⟨q + n, World.drewN_drewN _ _ _⟩
def AbF (xs : List (Int × Int)) (lim long : Int) (R : List (Int × Int)) (i : Nat) : Prop :=
  ((0 ≤ (R.getD i (0, 0)).1 ∧ (R.getD i (0, 0)).1 ≤ 1000000000000) ∧ 0 ≤ (R.getD i (0, 0)).2 ∧ (R.getD i (0, 0)).2 ≤ 1000000000000) ∧
  long ≤ (R.getD i (0, 0)).2 - (R.getD i (0, 0)).1 ∧
  (0 < i → (R.getD (i - 1) (0, 0)).2 < (R.getD i (0, 0)).1) ∧
  (∀ k, k < xs.length → inS (R.getD i (0, 0)) (xs.getD k (0, 0)).1 = true → lim < (xs.getD k (0, 0)).2) ∧
  (∀ k, 0 < k → k < xs.length → lim < (xs.getD k (0, 0)).2 → lim < (xs.getD (k - 1) (0, 0)).2 → inS (R.getD i (0, 0)) (xs.getD k (0, 0)).1 = inS (R.getD i (0, 0)) (xs.getD (k - 1) (0, 0)).1)
theorem abvM_facts (xs : List (Int × Int)) (lim long : Int) (i : Nat) (hi : i < (abvM xs lim long).length) : AbF xs lim long (abvM xs lim long) i := by
  unfold abvM at hi ⊢
  split at hi
  · rename_i hc
    rw [if_pos hc]
    refine ⟨?_, abv_facts (upT_of hc.1) lim long hi⟩
    have hm : (abvL xs lim long).getD i (0, 0) ∈ abvL xs lim long := by rw [List.getD_eq_getElem?_getD, List.getElem?_eq_getElem hi]; exact List.getElem_mem hi
    have hm2 := (List.mem_filter.1 (show _ ∈ (spL lim none xs).filter (longB long) from hm)).1
    obtain ⟨j, hj, hjj⟩ := List.getElem_of_mem hm2
    have := spL_times hc.1 lim j hj
    rw [show (spL lim none xs).getD j (0, 0) = (abvL xs lim long).getD i (0, 0) from by rw [← hjj]; simp [List.getD_eq_getElem?_getD, hj]] at this
    exact this
  · simp at hi

end Go.Proofs.Ytpmankbokbcmbaa
