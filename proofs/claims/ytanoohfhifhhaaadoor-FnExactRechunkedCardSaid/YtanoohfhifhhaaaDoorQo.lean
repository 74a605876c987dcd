/- Walks: the program's reader of a window, of a change. -/
import Derived.Test.YtanoohfhifhhaaaDoorHb
import Derived.Test.YtanoohfhifhhaaaDoorQn
import Derived.Test.YtanoohfhifhhaaaDoorEe
import Derived.Deep.RegionHeld3
import Derived.Deep.RegionLaw
set_option linter.unusedVariables false
set_option linter.unusedSimpArgs false
namespace Go.Proofs.YtanoohfhifhhaaaDoor
open Go.RowKit

def winR (ws : List Nat) (N p : Nat) : Option (Value × Nat) :=
  if p + 11 ≤ N ∧ BM.getW ws p 5 + (BM.getW ws (p + 5) 6 + 1) ≤ 64 then some (.agg #[.int .i64 (BM.getW ws p 5 : Int), .int .i64 ((BM.getW ws (p + 5) 6 : Int) + 1)], p + 11) else none
theorem RK.alloc {w : World} {g : Nat} {ws : List Nat} {N p : Int} (h : RK w g ws N p) (o : Obj) : RK (w.alloc o) g ws N p := (Below.heap_alloc _ _ _ h.lt).trans h
theorem RK.other {w : World} {g : Nat} {ws : List Nat} {N p : Int} (h : RK w g ws N p) {a : Addr} (ha : g ≠ a.block) (v : Value) : RK (w.setCell a v) g ws N p := (Below.heap_setCell _ _ _ _ ha).trans h
theorem qm_setNew {a w : World} {row : Option Nat} (h : a.grownBy w row) {p : Addr} (hp : a.heap.size ≤ p.block) (u : Value) : a.grownBy (w.setCell p u) row :=
  ⟨h.os, h.tape, h.output, by simpa [World.setCell] using h.size, fun k hk hne => (Below.heap_setCell w p u k (by omega)).trans (h.block k hk hne)⟩
/-- the block of a window that is the result -/
def WB0 (w : World) (r : Nat) : Prop := w.heap[r]? = some (.cells #[.int .i64 0, .int .i64 0] 128 (0, 0))
theorem WB0.c0 {w : World} {r : Nat} (h : WB0 w r) : w.cell? ⟨r, 0, none⟩ = some (.int .i64 0) := by rw [cell_of_row w r 0 _ _ _ h]; rfl
theorem WB0.c1 {w : World} {r : Nat} (h : WB0 w r) : w.cell? ⟨r, 1, none⟩ = some (.int .i64 0) := by rw [cell_of_row w r 1 _ _ _ h]; rfl
theorem WB0.f {w : World} {r : Nat} (h : WB0 w r) (i : Nat) : w.frozen? ⟨r, i, none⟩ = false := frozen_of_row w r i _ _ h
theorem WB0.grown {w w' : World} {r g : Nat} (h : WB0 w r) (hg : w.grownBy w' (some g)) (hr : r ≠ g) : WB0 w' r := by
  have hlt : r < w.heap.size := heap_lt h
  exact (hg.block r hlt (by intro e; injection e with e; exact hr e)).trans h
set_option maxRecDepth 100000 in
set_option maxHeartbeats 2000000 in
theorem window_any (g : Nat) (ws : List Nat) (N p : Nat) (w : World) (h : RK w g ws (N : Int) (p : Int)) (hw : RdW ws N) (hp : p ≤ N) :
    Calls Tryd.prog 124 #[.pointer (some ⟨g, 0, none⟩)] w (RdOut g ws N (winR ws N p) w) := by
  have hgl := h.lt
  have T5 := Lib.hid (take_any g ws N p 5 _ (h.alloc (.cells #[.int .i64 0, .int .i64 0] 128)) hw (by omega) hp)
  have HG0 := Lib.hid (World.grownBy_alloc w (.cells #[.int .i64 0, .int .i64 0] 128) (some g))
  have HW0 := Lib.hid (show WB0 (w.alloc (.cells #[.int .i64 0, .int .i64 0] 128)) w.heap.size from heap_alloc_new w _)
  have T6 := Lib.hid (fun (W : World) (hk : RK W g ws (N : Int) ((p + 5 : Nat) : Int)) (hq : p + 5 ≤ N) => take_any g ws N (p + 5) 6 W hk hw (by omega) hq)
  have TF := Lib.hid (fun W => fail_any g W)
  have HR : Hid (winR ws N p = if p + 11 ≤ N ∧ BM.getW ws p 5 + (BM.getW ws (p + 5) 6 + 1) ≤ 64 then some (.agg #[.int .i64 (BM.getW ws p 5 : Int), .int .i64 ((BM.getW ws (p + 5) 6 : Int) + 1)], p + 11) else none) := rfl
  have hv5 : BM.getW ws p 5 < 32 := hw.v p 5 (by omega)
  have hv6 : BM.getW ws (p + 5) 6 < 64 := hw.v (p + 5) 6 (by omega)
  clear h hw hp
  unfold takeR at T5 T6
  generalize winR ws N p = R at *
  generalize BM.getW ws p 5 = V5 at *
  generalize BM.getW ws (p + 5) 6 = V6 at *
  go_enter Tryd.func124, Tryd.ntmps124
  go_wp2_with fail
  refine T5.out.mono ?_
  rintro e w1 h1
  by_cases c0 : p + 5 ≤ N
  · obtain ⟨he, hk, hg⟩ := h1.some' (by rw [if_pos c0])
    subst he
    have HK1 := Lib.hid hk
    have HG1 := Lib.hid (grown_trans HG0.out hg)
    have HW1 := Lib.hid (HW0.out.grown hg (by omega))
    clear h1 hk hg T5 HG0 HW0
    go_wp2_with fail
    refine (T6.out _ HK1.out c0).mono ?_
    rintro e w2 h2
    by_cases c1 : p + 5 + 6 ≤ N
    · obtain ⟨he, hk, hg⟩ := h2.some' (by rw [if_pos c1])
      subst he
      have HK2 := Lib.hid hk
      have HG2 := Lib.hid (grown_trans HG1.out hg)
      have HW2 := Lib.hid (HW1.out.grown hg (by omega))
      clear h2 hk hg HK1 HG1 HW1
      by_cases c2 : V5 + (V6 + 1) ≤ 64
      · have hd : decide ((64 : Int) < (V5 : Int) + ((V6 : Int) + 1)) = false := by simp; omega
        have hR : R = some (.agg #[.int .i64 (V5 : Int), .int .i64 ((V6 : Int) + 1)], p + 11) := by rw [HR.out, if_pos ⟨by omega, c2⟩]
        have HRR := Lib.hid hR
        clear hR
        have r0 := HW2.out.c0
        have r1 := HW2.out.c1
        have g0 := HW2.out.f 0
        have g1 := HW2.out.f 1
        go_wp2_with fail
        refine bodyPost_ret (v := .agg #[.int .i64 (V5 : Int), .int .i64 ((V6 : Int) + 1)]) (by simp [results, Tryd.results124, go_sem, r0, r1]) rfl ?_
        rw [HRR.out]
        exact ⟨qm_setNew (qm_setNew HG2.out (by simp) _) (by simp) _, rfl, (HK2.out.other (by show g ≠ w.heap.size; omega) _).other (by show g ≠ w.heap.size; omega) _⟩
      · have hd : decide ((64 : Int) < (V5 : Int) + ((V6 : Int) + 1)) = true := by simp; omega
        have hR : R = none := by rw [HR.out, if_neg (fun hh => c2 hh.2)]
        have HRR := Lib.hid hR
        clear hR
        go_wp2_with fail
        refine (TF.out _).mono ?_
        rintro e w3 ⟨⟨u, pv, rfl⟩, rfl⟩
        go_wp2_with fail
        rw [HRR.out]
        exact ⟨rfl, HG2.out, ⟨_, _, rfl⟩⟩
    · obtain ⟨⟨u, pv, rfl⟩, hg⟩ := h2.none' (by rw [if_neg c1])
      have HG2 := Lib.hid (grown_trans HG1.out hg)
      have hR : R = none := by rw [HR.out, if_neg (fun hh => c1 (by omega))]
      have HRR := Lib.hid hR
      clear hR hg h2
      go_wp2_with fail
      rw [HRR.out]
      exact ⟨rfl, HG2.out, ⟨_, _, rfl⟩⟩
  · obtain ⟨⟨u, pv, rfl⟩, hg⟩ := h1.none' (by rw [if_neg c0])
    have HG1 := Lib.hid (grown_trans HG0.out hg)
    have hR : R = none := by rw [HR.out, if_neg (fun hh => c0 (by omega))]
    have HRR := Lib.hid hR
    clear hR hg h1 T5
    go_wp2_with fail
    rw [HRR.out]
    exact ⟨rfl, HG1.out, ⟨_, _, rfl⟩⟩
end Go.Proofs.YtanoohfhifhhaaaDoor

/- Walks: the program's reader of a change. -/
set_option linter.unusedVariables false
set_option linter.unusedSimpArgs false
namespace Go.Proofs.YtanoohfhifhhaaaDoor
open Go.RowKit

/-- the end of a step: so many bits, shifted -/
def tailI (num : Nat → Nat → Nat) (N q b z : Nat) : Option (Int × Nat × Nat × Nat) :=
  if q + z ≤ N then some (wrap64 ((num q z * 2 ^ (64 - b - z) : Nat) : Int), q + z, b, z) else none
theorem stepI_0 {num : Nat → Nat → Nat} {N p b z : Nat} (h : ¬ p + 1 ≤ N) : stepI num N p b z = none := by unfold stepI; rw [if_neg h]
theorem stepI_1 {num : Nat → Nat → Nat} {N p b z : Nat} (h : p + 1 ≤ N) (h1 : num p 1 = 0) : stepI num N p b z = some (0, p + 1, b, z) := by unfold stepI; rw [if_pos h, if_pos h1]
theorem stepI_2 {num : Nat → Nat → Nat} {N p b z : Nat} (h : p + 1 ≤ N) (h1 : ¬ num p 1 = 0) (h2 : ¬ p + 2 ≤ N) : stepI num N p b z = none := by unfold stepI; rw [if_pos h, if_neg h1, if_neg h2]
theorem stepI_3 {num : Nat → Nat → Nat} {N p b z : Nat} (h2 : p + 2 ≤ N) (h1 : ¬ num p 1 = 0) (h3 : num (p + 1) 1 = 1) (h4 : ¬ (p + 13 ≤ N ∧ num (p + 2) 5 + (num (p + 7) 6 + 1) ≤ 64)) : stepI num N p b z = none := by
  unfold stepI; rw [if_pos (show p + 1 ≤ N by omega), if_neg h1, if_pos h2, if_pos h3, if_neg h4]
theorem stepI_4 {num : Nat → Nat → Nat} {N p b z : Nat} (h2 : p + 2 ≤ N) (h1 : ¬ num p 1 = 0) (h3 : num (p + 1) 1 = 1) (h4 : p + 13 ≤ N ∧ num (p + 2) 5 + (num (p + 7) 6 + 1) ≤ 64) : stepI num N p b z = tailI num N (p + 13) (num (p + 2) 5) (num (p + 7) 6 + 1) := by
  unfold stepI tailI; rw [if_pos (show p + 1 ≤ N by omega), if_neg h1, if_pos h2, if_pos h3, if_pos h4]
theorem stepI_5 {num : Nat → Nat → Nat} {N p b z : Nat} (h2 : p + 2 ≤ N) (h1 : ¬ num p 1 = 0) (h3 : ¬ num (p + 1) 1 = 1) : stepI num N p b z = tailI num N (p + 2) b z := by
  unfold stepI tailI; rw [if_pos (show p + 1 ≤ N by omega), if_neg h1, if_pos h2, if_neg h3]
theorem shl_conv (V t : Nat) : wrap64 (((V * 2 ^ t) % 18446744073709551616 : Nat) : Int) = wrap64 ((V * 2 ^ t : Nat) : Int) := by
  generalize V * 2 ^ t = n
  unfold wrap64
  omega
theorem gb_drew {a b : World} {row : Option Nat} (h : a.grownBy b row) : a.grownBy b.drew row := ⟨h.os, h.tape, h.output, h.size, h.block⟩
theorem shl_u64 (V t : Nat) : IntKind.u64.wrap ((V : Int) * 2 ^ t) = (V : Int) * 2 ^ t % 18446744073709551616 := by
  simp only [IntKind.wrap, IntKind.bits, IntKind.signed]
  simp
theorem shl_u64' (V t : Nat) : IntKind.u64.wrap ((V : Int) * 2 ^ t) = (((V * 2 ^ t) % 18446744073709551616 : Nat) : Int) := by
  rw [shl_u64]
  simp
def chV : Option (Int × Nat × Nat × Nat) → Option (Value × Nat)
  | some (x, q, b, z) => some (.tuple #[.int .i64 x, .agg #[.int .i64 (b : Int), .int .i64 (z : Int)]], q)
  | none => none
/-- the world in a call of change -/
structure CS (w : World) (g : Nat) (ws : List Nat) (N q b z : Nat) (W : World) : Prop where
  k : RK W g ws (N : Int) (q : Int)
  x : WB W w.heap.size (b : Int) (z : Int)
  r : WB W (w.heap.size + 1) 0 0
  f : w.grownBy W (some g)
  g : g < w.heap.size
theorem CS.start {w : World} {g : Nat} {ws : List Nat} {N q b z : Nat} (h : RK w g ws (N : Int) (q : Int)) : CS w g ws N q b z ((w.alloc (.cells #[.int .i64 (b : Int), .int .i64 (z : Int)] 128)).alloc (.cells #[.int .i64 0, .int .i64 0] 128)) := by
  have h2 : Below w.heap.size w ((w.alloc (.cells #[.int .i64 (b : Int), .int .i64 (z : Int)] 128)).alloc (.cells #[.int .i64 0, .int .i64 0] 128)) := ((Below.refl _ w).alloc (Nat.le_refl _) _).alloc (by simp) _
  exact ⟨(h2.block g h.lt).trans h, heap_alloc2_old w _ _, heap_alloc2_new w _ _, ⟨h2.os, h2.tape, h2.output, h2.size, fun i hi _ => h2.block i hi⟩, h.lt⟩
theorem CS.took {w W W' : World} {g : Nat} {ws : List Nat} {N q q' b z : Nat} (h : CS w g ws N q b z W) (hk : RK W' g ws (N : Int) (q' : Int)) (hg : W.grownBy W' (some g)) : CS w g ws N q' b z W' :=
  have := h.g
  ⟨hk, h.x.grown hg (by omega), h.r.grown hg (by omega), eb_trans h.f hg, h.g⟩
theorem CS.below {w W W' : World} {g : Nat} {ws : List Nat} {N q b z : Nat} (h : CS w g ws N q b z W) (hb : Below W.heap.size W W') : CS w g ws N q b z W' :=
  ⟨(hb.block g h.k.lt).trans h.k, h.x.below hb, h.r.below hb, eb_gb h.f hb, h.g⟩
theorem CS.drew {w W : World} {g : Nat} {ws : List Nat} {N q b z : Nat} (h : CS w g ws N q b z W) : CS w g ws N q b z W.drew :=
  ⟨h.k, h.x, h.r, ⟨h.f.os, h.f.tape, h.f.output, h.f.size, h.f.block⟩, h.g⟩
theorem CS.set {w W : World} {g : Nat} {ws : List Nat} {N q b z b' z' : Nat} (h : CS w g ws N q b z W) : CS w g ws N q b' z' ((W.setCell ⟨w.heap.size, 0, none⟩ (.int .i64 (b' : Int))).setCell ⟨w.heap.size, 1, none⟩ (.int .i64 (z' : Int))) :=
  have hg := h.g
  ⟨(h.k.other (by show g ≠ w.heap.size; omega) _).other (by show g ≠ w.heap.size; omega) _, h.x.set,
    (Below.heap_setCell _ _ _ _ (show w.heap.size + 1 ≠ w.heap.size by omega)).trans ((Below.heap_setCell _ _ _ _ (show w.heap.size + 1 ≠ w.heap.size by omega)).trans h.r), gb_set h.f (Nat.le_refl _) _ _, h.g⟩
/-- the end: the result is stored into its box -/
theorem CS.fin {w W : World} {g : Nat} {ws : List Nat} {N q b z : Nat} {b' z' : Int} (h : CS w g ws N q b z W) :
    RK ((W.setCell ⟨w.heap.size + 1, 0, none⟩ (.int .i64 b')).setCell ⟨w.heap.size + 1, 1, none⟩ (.int .i64 z')) g ws (N : Int) (q : Int) ∧ w.grownBy ((W.setCell ⟨w.heap.size + 1, 0, none⟩ (.int .i64 b')).setCell ⟨w.heap.size + 1, 1, none⟩ (.int .i64 z')) (some g) ∧ WB ((W.setCell ⟨w.heap.size + 1, 0, none⟩ (.int .i64 b')).setCell ⟨w.heap.size + 1, 1, none⟩ (.int .i64 z')) w.heap.size (b : Int) (z : Int) :=
  have hg := h.g
  ⟨(h.k.other (by show g ≠ w.heap.size + 1; omega) _).other (by show g ≠ w.heap.size + 1; omega) _, gb_set h.f (by omega) _ _,
    (Below.heap_setCell _ _ _ _ (show w.heap.size ≠ w.heap.size + 1 by omega)).trans ((Below.heap_setCell _ _ _ _ (show w.heap.size ≠ w.heap.size + 1 by omega)).trans h.x)⟩

set_option maxRecDepth 100000 in
set_option maxHeartbeats 4000000 in
theorem change_any (g : Nat) (ws : List Nat) (N p b z : Nat) (w : World) (h : RK w g ws (N : Int) (p : Int)) (hw : RdW ws N) (hp : p ≤ N) (hbz : b + z ≤ 64) :
    Calls Tryd.prog 115 #[.pointer (some ⟨g, 0, none⟩), .agg #[.int .i64 (b : Int), .int .i64 (z : Int)]] w (RdOut g ws N (chV (stepI (BM.getW ws) N p b z)) w) := by
  have T := Lib.hid (fun (W : World) (q k : Nat) (hk : RK W g ws (N : Int) (q : Int)) (hq : q ≤ N) (hz : k ≤ 64) => take_any g ws N q k W hk hw hz hq)
  have TW := Lib.hid (fun (W : World) (q : Nat) (hk : RK W g ws (N : Int) (q : Int)) (hq : q ≤ N) => window_any g ws N q W hk hw hq)
  have HWd := Lib.hid hw
  have HC0 := Lib.hid (CS.start (b := b) (z := z) h)
  have h5 := hw.v (p + 2) 5 (by omega)
  have h6 := hw.v (p + 7) 6 (by omega)
  have h1 := hw.v p 1 (by omega)
  have h2 := hw.v (p + 1) 1 (by omega)
  have S0 := Lib.hid (fun h => stepI_0 (num := BM.getW ws) (N := N) (p := p) (b := b) (z := z) h)
  have S1 := Lib.hid (fun h h' => stepI_1 (num := BM.getW ws) (N := N) (p := p) (b := b) (z := z) h h')
  have S2 := Lib.hid (fun h h' h'' => stepI_2 (num := BM.getW ws) (N := N) (p := p) (b := b) (z := z) h h' h'')
  have S3 := Lib.hid (fun h h' h'' h3 => stepI_3 (num := BM.getW ws) (N := N) (p := p) (b := b) (z := z) h h' h'' h3)
  have S4 := Lib.hid (fun h h' h'' h3 => stepI_4 (num := BM.getW ws) (N := N) (p := p) (b := b) (z := z) h h' h'' h3)
  have S5 := Lib.hid (fun h h' h'' => stepI_5 (num := BM.getW ws) (N := N) (p := p) (b := b) (z := z) h h' h'')
  have WR : Hid (winR ws N (p + 2) = if p + 2 + 11 ≤ N ∧ BM.getW ws (p + 2) 5 + (BM.getW ws (p + 2 + 5) 6 + 1) ≤ 64 then some (.agg #[.int .i64 (BM.getW ws (p + 2) 5 : Int), .int .i64 ((BM.getW ws (p + 2 + 5) 6 : Int) + 1)], p + 2 + 11) else none) := Lib.hid rfl
  rw [show p + 2 + 5 = p + 7 by omega, show p + 2 + 11 = p + 13 by omega] at WR
  generalize stepI (BM.getW ws) N p b z = R at *
  generalize BM.getW ws (p + 2) 5 = V5 at *
  generalize BM.getW ws (p + 7) 6 = V6 at *
  obtain ⟨V1, hV1⟩ : ∃ V1, V1 = BM.getW ws p 1 := ⟨_, rfl⟩
  obtain ⟨V2, hV2⟩ : ∃ V2, V2 = BM.getW ws (p + 1) 1 := ⟨_, rfl⟩
  rw [← hV1] at h1 S1 S2 S3 S4 S5
  rw [← hV2] at h2 S3 S4 S5
  have HV1 := Lib.hid hV1
  have HV2 := Lib.hid hV2
  clear h hw hV1 hV2
  go_enter Tryd.func115, Tryd.ntmps115
  go_wp2_with fail
  refine (T.out _ p 1 HC0.out.k hp (by omega)).mono ?_
  rintro e w1 g1
  by_cases c1 : p + 1 ≤ N
  · obtain ⟨he, hk1, hg1⟩ := g1.some' (v := .int .u64 (V1 : Int)) (q := p + 1) (by unfold takeR; rw [if_pos c1, HV1.out])
    subst he
    have HC1 := Lib.hid (HC0.out.took hk1 hg1)
    clear g1 hk1 hg1 HC0
    by_cases z1 : V1 = 0
    · subst z1
      have HRR := Lib.hid (S1.out c1 (by first | rfl | trivial))
      have x0 := HC1.out.x.c0
      have x1 := HC1.out.x.c1
      have r0 := HC1.out.r.c0
      have r1 := HC1.out.r.c1
      have rf0 := HC1.out.r.f 0
      have rf1 := HC1.out.r.f 1
      clear S0 S1 S2 S3 S4 S5
      go_wp2_with fail
      go_region_law (fail)
      all_goals
        have hfin := HC1.out.fin (b' := (b : Int)) (z' := (z : Int))
        have HFin := Lib.hid hfin
        clear hfin HC1
        go_wp2_with fail
        refine bodyPost_ret (v := .tuple #[.int .i64 0, .agg #[.int .i64 (b : Int), .int .i64 (z : Int)]]) (by simp [results, Tryd.results115, go_sem, r0, r1]) rfl ?_
        rw [HRR.out]
        exact ⟨gb_drew HFin.out.2.1, rfl, HFin.out.1⟩
    · have zi : ¬ (V1 : Int) = 0 := by omega
      go_wp2_with fail
      refine (T.out _ (p + 1) 1 HC1.out.k c1 (by omega)).mono ?_
      rintro e w2 g2
      by_cases c2 : p + 1 + 1 ≤ N
      · obtain ⟨he, hk2, hg2⟩ := g2.some' (v := .int .u64 (V2 : Int)) (q := p + 1 + 1) (by unfold takeR; rw [if_pos c2, HV2.out])
        subst he
        have HC2 := Lib.hid (HC1.out.took hk2 hg2)
        clear g2 hk2 hg2 HC1
        by_cases z2 : V2 = 1
        · subst z2
          clear zi
          go_wp2_with fail
          refine (TW.out _ (p + 2) HC2.out.k c2).mono ?_
          rintro e w3 g3
          by_cases c3 : p + 13 ≤ N ∧ V5 + (V6 + 1) ≤ 64
          · obtain ⟨he, hk3, hg3⟩ := g3.some' (v := .agg #[.int .i64 (V5 : Int), .int .i64 ((V6 : Int) + 1)]) (q := p + 13) (by rw [WR.out, if_pos c3])
            subst he
            have HC3 := Lib.hid (HC2.out.took hk3 hg3)
            have HR := Lib.hid (S4.out c2 z1 (by first | rfl | trivial) c3)
            obtain ⟨Z, hZ⟩ : ∃ Z, Z = V6 + 1 := ⟨_, rfl⟩
            have hZi : (V6 : Int) + 1 = (Z : Int) := by omega
            rw [← hZ] at HR
            rw [hZi]
            have hq : p + 13 ≤ N := c3.1
            have hz : Z ≤ 64 := by omega
            have hbz' : V5 + Z ≤ 64 := by omega
            have HC := Lib.hid (HC3.out.set (b' := V5) (z' := Z))
            have x0 := HC3.out.x.c0
            have x1 := HC3.out.x.c1
            have f0 := HC3.out.x.f 0
            have f1 := HC3.out.x.f 1
            clear g3 hk3 hg3 HC2 hbz S0 S1 S2 S3 S4 S5 c3 hZ hZi WR h5 h6 h1 h2
            obtain ⟨t, ht⟩ : ∃ t, t = 64 - V5 - Z := ⟨_, rfl⟩
            have HAF := Lib.hid (fun W => after_any (V5 : Int) (Z : Int) W (by omega) (by omega) (by omega) (by omega))
            rw [show 64 - (V5 : Int) - (Z : Int) = (t : Int) by omega] at HAF
            have HTt := Lib.hid ht
            have ht64 : t ≤ 64 := by omega
            clear ht
            go_wp2_with fail
            have HD := Lib.hid HC.out.drew
            refine wp_region_held_drew (S := fun W => WB W w.heap.size (V5 : Int) (Z : Int)) (by kernel_rfl) HD.out.x ?_
            intro hS
            refine wpAnyH_take (i := 0) (v := .pointer (some ⟨g, 0, none⟩)) rfl (by kernel_rfl) (by kernel_rfl) (by kernel_rfl) (fun _ _ _ h => h) (Or.inl ⟨by kernel_rfl, ?t0⟩) hS ?_
            case t0 =>
              intro W hW
              have x0 := WB.c0 hW
              have x1 := WB.c1 hW
              clear hW hS
              go_simp
            refine wpAnyH_take (i := 1) (v := .pointer (some ⟨w.heap.size, 1, none⟩)) rfl (by kernel_rfl) (by kernel_rfl) (by kernel_rfl) (fun _ _ _ h => h) (Or.inl ⟨by kernel_rfl, ?t1⟩) hS ?_
            case t1 =>
              intro W hW
              have x0 := WB.c0 hW
              have x1 := WB.c1 hW
              clear hW hS
              go_simp
            refine wpAnyH_take (i := 2) (v := .int .i64 (Z : Int)) rfl (by kernel_rfl) (by kernel_rfl) (by kernel_rfl) (fun _ _ _ h => h) (Or.inl ⟨by kernel_rfl, ?t2⟩) hS ?_
            case t2 =>
              intro W hW
              have x0 := WB.c0 hW
              have x1 := WB.c1 hW
              clear hW hS
              go_simp
            refine wpAnyH_take (i := 4) (v := .agg #[.int .i64 (V5 : Int), .int .i64 (Z : Int)]) rfl (by kernel_rfl) (by kernel_rfl) (by kernel_rfl) (fun _ _ _ h => h) (Or.inl ⟨by kernel_rfl, ?t4⟩) hS ?_
            case t4 =>
              intro W hW
              have x0 := WB.c0 hW
              have x1 := WB.c1 hW
              clear hW hS
              go_simp
            refine wpAnyH_take (i := 8) (v := .agg #[.int .i64 (V5 : Int), .int .i64 (Z : Int)]) rfl (by kernel_rfl) (by kernel_rfl) (by kernel_rfl) (fun _ _ _ h => h) (Or.inl ⟨by kernel_rfl, ?t8⟩) hS ?_
            case t8 =>
              intro W hW
              have x0 := WB.c0 hW
              have x1 := WB.c1 hW
              clear hW hS
              go_simp
            refine wpAnyH_ready (rs := [3]) (by kernel_rfl) (by simp) ?_
            refine AllReadyH.cons rfl (fun K3 hK3 => ?_) AllReadyH.nil
            refine Eq.mpr (if_pos (by kernel_rfl)) ?_
            go_simp
            go_at_call 113
            refine (T.out _ (p + 13) Z HD.out.k hq hz).mono ?_
            rintro e w3 h3
            by_cases cz : p + 13 + Z ≤ N
            · obtain ⟨rfl, hk3, hg3⟩ := h3.some' (v := .int .u64 (BM.getW ws (p + 13) Z : Int)) (q := p + 13 + Z) (by unfold takeR; rw [if_pos cz])
              have C3 := Lib.hid (HD.out.took hk3 hg3)
              clear h3 hk3 hg3 hS
              have HRR : Hid (R = some (wrap64 ((BM.getW ws (p + 13) Z * 2 ^ (64 - V5 - Z) : Nat) : Int), p + 13 + Z, V5, Z)) := Lib.hid (by rw [HR.out]; unfold tailI; rw [if_pos cz])
              have hV := HWd.out.v (p + 13) Z hz
              generalize BM.getW ws (p + 13) Z = V at *
              have HV := Lib.hid hV
              clear hV
              try go_simp
              have hS := C3.out.x
              refine hK3.out _ _ hS (fun _ => ?_)
              clear hK3 K3
              refine wpAnyH_ready (rs := [5]) (by kernel_rfl) (by simp) ?_
              refine AllReadyH.cons rfl (fun K5 hK5 => ?_) AllReadyH.nil
              refine Eq.mpr (if_pos (by kernel_rfl)) ?_
              go_simp
              go_at_call 120
              refine (HAF.out _).mono ?_
              rintro e w5 ⟨rfl, hb5⟩
              have C5 := Lib.hid (C3.out.below hb5)
              clear hb5 hS
              try go_simp
              have hS := C5.out.x
              refine hK5.out _ _ hS (fun _ => ?_)
              clear hK5 K5
              refine wpAnyH_take (i := 6) (v := .int .u64 (((V * 2 ^ t) % 18446744073709551616 : Nat) : Int)) rfl (by kernel_rfl) (by kernel_rfl) (by kernel_rfl) (fun _ _ _ h => h) (Or.inl ⟨by kernel_rfl, ?t6⟩) hS ?_
              case t6 =>
                intro W hW
                clear hW hS
                go_simp
                first | exact shl_u64 V t | exact shl_u64' V t
              have HX := Lib.hid (shl_conv V t)
              generalize (V * 2 ^ t) % 18446744073709551616 = U at *
              have hx := HX.out
              obtain ⟨X, hX⟩ : ∃ X, X = wrap64 ((V * 2 ^ t : Nat) : Int) := ⟨_, rfl⟩
              rw [← hX] at hx
              have HXX : Hid (X = wrap64 ((V * 2 ^ (64 - V5 - Z) : Nat) : Int)) := Lib.hid (by rw [← HTt.out]; exact hX)
              clear hX
              refine wpAnyH_take (i := 7) (v := .int .i64 X) rfl (by kernel_rfl) (by kernel_rfl) (by kernel_rfl) (fun _ _ _ h => h) (Or.inl ⟨by kernel_rfl, ?t7⟩) hS ?_
              case t7 =>
                intro W hW
                clear hW hS
                go_simp
                rw [u_i64_wrap]
                exact hx
              clear hx HX
              refine wpAnyH_take (i := 9) (v := .int .i64 X) rfl (by kernel_rfl) (by kernel_rfl) (by kernel_rfl) (fun _ _ _ h => h) (Or.inl ⟨by kernel_rfl, ?t9⟩) hS ?_
              case t9 =>
                intro W hW
                clear hW hS
                go_simp
              refine wpAnyH_ready (rs := [10]) (by kernel_rfl) (by simp) ?_
              refine AllReadyH.cons rfl (fun K10 hK10 => ?_) AllReadyH.nil
              refine Eq.mpr (if_pos (by kernel_rfl)) ?_
              have r0 := C5.out.r.c0
              have r1 := C5.out.r.c1
              have rf0 := C5.out.r.f 0
              have rf1 := C5.out.r.f 1
              go_simp
              have hfin := C5.out.fin (b' := (V5 : Int)) (z' := (Z : Int))
              refine hK10.out _ _ hfin.2.2 (fun _ => ?_)
              clear hK10 K10
              refine wpAnyH_done (by kernel_rfl) ?_ _
              have HFin := Lib.hid hfin
              clear hfin C5 C3 HD HC hS
              go_wp2_with fail
              refine bodyPost_ret (v := .tuple #[.int .i64 X, .agg #[.int .i64 (V5 : Int), .int .i64 (Z : Int)]]) (by simp [results, Tryd.results115, go_sem, r0, r1]) rfl ?_
              rw [HRR.out, ← HXX.out]
              exact ⟨HFin.out.2.1, rfl, HFin.out.1⟩
            · obtain ⟨⟨u, pv, rfl⟩, hg3⟩ := h3.none' (by unfold takeR; rw [if_neg cz])
              have HF := Lib.hid (grown_trans HD.out.f hg3)
              have HRR : Hid (R = none) := Lib.hid (by rw [HR.out]; unfold tailI; rw [if_neg cz])
              clear h3 hg3 hS
              try go_simp
              rw [HRR.out]
              exact ⟨rfl, HF.out, ⟨_, _, rfl⟩⟩
          · obtain ⟨⟨u, pv, rfl⟩, hg3⟩ := g3.none' (by rw [WR.out, if_neg c3])
            have HRR := Lib.hid (S3.out c2 z1 (by first | rfl | trivial) c3)
            have HF := Lib.hid (eb_trans HC2.out.f hg3)
            clear g3 hg3
            go_wp2_with fail
            rw [HRR.out]
            exact ⟨rfl, HF.out, ⟨_, _, rfl⟩⟩
        · have zj : ¬ (V2 : Int) = 1 := by omega
          have HR := Lib.hid (S5.out c2 z1 z2)
          have hq : p + 2 ≤ N := c2
          have hz : z ≤ 64 := by omega
          have HC := HC2
          clear HC2 S0 S1 S2 S3 S4 S5 WR h5 h6 h1 h2
          obtain ⟨t, ht⟩ : ∃ t, t = 64 - b - z := ⟨_, rfl⟩
          have HAF := Lib.hid (fun W => after_any (b : Int) (z : Int) W (by omega) (by omega) (by omega) (by omega))
          rw [show 64 - (b : Int) - (z : Int) = (t : Int) by omega] at HAF
          have HTt := Lib.hid ht
          have ht64 : t ≤ 64 := by omega
          clear ht
          go_wp2_with fail
          have HD := Lib.hid HC.out.drew
          refine wp_region_held_drew (S := fun W => WB W w.heap.size (b : Int) (z : Int)) (by kernel_rfl) HD.out.x ?_
          intro hS
          refine wpAnyH_take (i := 0) (v := .pointer (some ⟨g, 0, none⟩)) rfl (by kernel_rfl) (by kernel_rfl) (by kernel_rfl) (fun _ _ _ h => h) (Or.inl ⟨by kernel_rfl, ?t0⟩) hS ?_
          case t0 =>
            intro W hW
            have x0 := WB.c0 hW
            have x1 := WB.c1 hW
            clear hW hS
            go_simp
          refine wpAnyH_take (i := 1) (v := .pointer (some ⟨w.heap.size, 1, none⟩)) rfl (by kernel_rfl) (by kernel_rfl) (by kernel_rfl) (fun _ _ _ h => h) (Or.inl ⟨by kernel_rfl, ?t1⟩) hS ?_
          case t1 =>
            intro W hW
            have x0 := WB.c0 hW
            have x1 := WB.c1 hW
            clear hW hS
            go_simp
          refine wpAnyH_take (i := 2) (v := .int .i64 (z : Int)) rfl (by kernel_rfl) (by kernel_rfl) (by kernel_rfl) (fun _ _ _ h => h) (Or.inl ⟨by kernel_rfl, ?t2⟩) hS ?_
          case t2 =>
            intro W hW
            have x0 := WB.c0 hW
            have x1 := WB.c1 hW
            clear hW hS
            go_simp
          refine wpAnyH_take (i := 4) (v := .agg #[.int .i64 (b : Int), .int .i64 (z : Int)]) rfl (by kernel_rfl) (by kernel_rfl) (by kernel_rfl) (fun _ _ _ h => h) (Or.inl ⟨by kernel_rfl, ?t4⟩) hS ?_
          case t4 =>
            intro W hW
            have x0 := WB.c0 hW
            have x1 := WB.c1 hW
            clear hW hS
            go_simp
          refine wpAnyH_take (i := 8) (v := .agg #[.int .i64 (b : Int), .int .i64 (z : Int)]) rfl (by kernel_rfl) (by kernel_rfl) (by kernel_rfl) (fun _ _ _ h => h) (Or.inl ⟨by kernel_rfl, ?t8⟩) hS ?_
          case t8 =>
            intro W hW
            have x0 := WB.c0 hW
            have x1 := WB.c1 hW
            clear hW hS
            go_simp
          refine wpAnyH_ready (rs := [3]) (by kernel_rfl) (by simp) ?_
          refine AllReadyH.cons rfl (fun K3 hK3 => ?_) AllReadyH.nil
          refine Eq.mpr (if_pos (by kernel_rfl)) ?_
          go_simp
          go_at_call 113
          refine (T.out _ (p + 2) z HD.out.k hq hz).mono ?_
          rintro e w3 h3
          by_cases cz : p + 2 + z ≤ N
          · obtain ⟨rfl, hk3, hg3⟩ := h3.some' (v := .int .u64 (BM.getW ws (p + 2) z : Int)) (q := p + 2 + z) (by unfold takeR; rw [if_pos cz])
            have C3 := Lib.hid (HD.out.took hk3 hg3)
            clear h3 hk3 hg3 hS
            have HRR : Hid (R = some (wrap64 ((BM.getW ws (p + 2) z * 2 ^ (64 - b - z) : Nat) : Int), p + 2 + z, b, z)) := Lib.hid (by rw [HR.out]; unfold tailI; rw [if_pos cz])
            have hV := HWd.out.v (p + 2) z hz
            generalize BM.getW ws (p + 2) z = V at *
            have HV := Lib.hid hV
            clear hV
            try go_simp
            have hS := C3.out.x
            refine hK3.out _ _ hS (fun _ => ?_)
            clear hK3 K3
            refine wpAnyH_ready (rs := [5]) (by kernel_rfl) (by simp) ?_
            refine AllReadyH.cons rfl (fun K5 hK5 => ?_) AllReadyH.nil
            refine Eq.mpr (if_pos (by kernel_rfl)) ?_
            go_simp
            go_at_call 120
            refine (HAF.out _).mono ?_
            rintro e w5 ⟨rfl, hb5⟩
            have C5 := Lib.hid (C3.out.below hb5)
            clear hb5 hS
            try go_simp
            have hS := C5.out.x
            refine hK5.out _ _ hS (fun _ => ?_)
            clear hK5 K5
            refine wpAnyH_take (i := 6) (v := .int .u64 (((V * 2 ^ t) % 18446744073709551616 : Nat) : Int)) rfl (by kernel_rfl) (by kernel_rfl) (by kernel_rfl) (fun _ _ _ h => h) (Or.inl ⟨by kernel_rfl, ?t6⟩) hS ?_
            case t6 =>
              intro W hW
              clear hW hS
              go_simp
              first | exact shl_u64 V t | exact shl_u64' V t
            have HX := Lib.hid (shl_conv V t)
            generalize (V * 2 ^ t) % 18446744073709551616 = U at *
            have hx := HX.out
            obtain ⟨X, hX⟩ : ∃ X, X = wrap64 ((V * 2 ^ t : Nat) : Int) := ⟨_, rfl⟩
            rw [← hX] at hx
            have HXX : Hid (X = wrap64 ((V * 2 ^ (64 - b - z) : Nat) : Int)) := Lib.hid (by rw [← HTt.out]; exact hX)
            clear hX
            refine wpAnyH_take (i := 7) (v := .int .i64 X) rfl (by kernel_rfl) (by kernel_rfl) (by kernel_rfl) (fun _ _ _ h => h) (Or.inl ⟨by kernel_rfl, ?t7⟩) hS ?_
            case t7 =>
              intro W hW
              clear hW hS
              go_simp
              rw [u_i64_wrap]
              exact hx
            clear hx HX
            refine wpAnyH_take (i := 9) (v := .int .i64 X) rfl (by kernel_rfl) (by kernel_rfl) (by kernel_rfl) (fun _ _ _ h => h) (Or.inl ⟨by kernel_rfl, ?t9⟩) hS ?_
            case t9 =>
              intro W hW
              clear hW hS
              go_simp
            refine wpAnyH_ready (rs := [10]) (by kernel_rfl) (by simp) ?_
            refine AllReadyH.cons rfl (fun K10 hK10 => ?_) AllReadyH.nil
            refine Eq.mpr (if_pos (by kernel_rfl)) ?_
            have r0 := C5.out.r.c0
            have r1 := C5.out.r.c1
            have rf0 := C5.out.r.f 0
            have rf1 := C5.out.r.f 1
            go_simp
            have hfin := C5.out.fin (b' := (b : Int)) (z' := (z : Int))
            refine hK10.out _ _ hfin.2.2 (fun _ => ?_)
            clear hK10 K10
            refine wpAnyH_done (by kernel_rfl) ?_ _
            have HFin := Lib.hid hfin
            clear hfin C5 C3 HD HC hS
            go_wp2_with fail
            refine bodyPost_ret (v := .tuple #[.int .i64 X, .agg #[.int .i64 (b : Int), .int .i64 (z : Int)]]) (by simp [results, Tryd.results115, go_sem, r0, r1]) rfl ?_
            rw [HRR.out, ← HXX.out]
            exact ⟨HFin.out.2.1, rfl, HFin.out.1⟩
          · obtain ⟨⟨u, pv, rfl⟩, hg3⟩ := h3.none' (by unfold takeR; rw [if_neg cz])
            have HF := Lib.hid (grown_trans HD.out.f hg3)
            have HRR : Hid (R = none) := Lib.hid (by rw [HR.out]; unfold tailI; rw [if_neg cz])
            clear h3 hg3 hS
            try go_simp
            rw [HRR.out]
            exact ⟨rfl, HF.out, ⟨_, _, rfl⟩⟩
      · obtain ⟨⟨u, pv, rfl⟩, hg2⟩ := g2.none' (by unfold takeR; rw [if_neg c2])
        have HRR := Lib.hid (S2.out c1 z1 c2)
        have HF := Lib.hid (eb_trans HC1.out.f hg2)
        clear g2 hg2
        go_wp2_with fail
        rw [HRR.out]
        exact ⟨rfl, HF.out, ⟨_, _, rfl⟩⟩
  · obtain ⟨⟨u, pv, rfl⟩, hg1⟩ := g1.none' (by unfold takeR; rw [if_neg c1])
    have HRR := Lib.hid (S0.out c1)
    have HF := Lib.hid (eb_trans HC0.out.f hg1)
    clear g1 hg1
    go_wp2_with fail
    rw [HRR.out]
    exact ⟨rfl, HF.out, ⟨_, _, rfl⟩⟩
end Go.Proofs.YtanoohfhifhhaaaDoor
