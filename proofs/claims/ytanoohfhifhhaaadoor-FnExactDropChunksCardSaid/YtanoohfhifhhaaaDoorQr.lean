/- Walks: the program's reader of a window, of a change. -/
import Derived.Test.YtanoohfhifhhaaaDoorHb
import Derived.Test.YtanoohfhifhhaaaDoorQn
import Derived.Test.YtanoohfhifhhaaaDoorEe
import Derived.Deep.RegionHeld3
import Derived.Deep.RegionLaw
import Derived.Test.YtanoohfhifhhaaaDoorQp
import Derived.Test.YtanoohfhifhhaaaDoorSc
import Derived.Test.YtanoohfhifhhaaaDoorEf
set_option linter.unusedVariables false
set_option linter.unusedSimpArgs false
namespace Go.Proofs.YtanoohfhifhhaaaDoor
open Go.RowKit

def winR (ws : List Nat) (N p : Nat) : Option (Value × Nat) :=
  if p + 11 ≤ N ∧ BM.getW ws p 5 + (BM.getW ws (p + 5) 6 + 1) ≤ 64 then some (.agg #[.int .i64 (BM.getW ws p 5 : Int), .int .i64 ((BM.getW ws (p + 5) 6 : Int) + 1)], p + 11) else none
theorem RK.alloc {w : World} {g : Nat} {ws : List Nat} {N p : Int} (h : RK w g ws N p) (o : Obj) : RK (w.alloc o) g ws N p := (Below.heap_alloc _ _ _ h.lt).trans h
theorem RK.other {w : World} {g : Nat} {ws : List Nat} {N p : Int} (h : RK w g ws N p) {a : Addr} (ha : g ≠ a.block) (v : Value) : RK (w.setCell a v) g ws N p := (Below.heap_setCell _ _ _ _ ha).trans h
theorem qm_setNew {a w : World} {row : Option Nat} (h : a.grownBy w row) {p : Addr} (hp : a.heap.size ≤ p.block) (u : Value) : a.grownBy (w.setCell p u) row :=
  ⟨h.os, h.tape, h.output, by simpa [World.setCell] using h.size, fun k hk hne => (Below.heap_setCell w p u k (by omega)).trans (h.block k hk hne)⟩
/-- the block of a window that is the result -/
def WB0 (w : World) (r : Nat) : Prop := w.heap[r]? = some (.cells #[.int .i64 0, .int .i64 0] 128 (0, 0))
theorem WB0.c0 {w : World} {r : Nat} (h : WB0 w r) : w.cell? ⟨r, 0, none⟩ = some (.int .i64 0) := by rw [cell_of_row w r 0 _ _ _ h]; rfl
theorem WB0.c1 {w : World} {r : Nat} (h : WB0 w r) : w.cell? ⟨r, 1, none⟩ = some (.int .i64 0) := by rw [cell_of_row w r 1 _ _ _ h]; rfl
theorem WB0.f {w : World} {r : Nat} (h : WB0 w r) (i : Nat) : w.frozen? ⟨r, i, none⟩ = false := frozen_of_row w r i _ _ h
theorem WB0.grown {w w' : World} {r g : Nat} (h : WB0 w r) (hg : w.grownBy w' (some g)) (hr : r ≠ g) : WB0 w' r := by
  have hlt : r < w.heap.size := heap_lt h
  exact (hg.block r hlt (by intro e; injection e with e; exact hr e)).trans h
set_option maxRecDepth 100000 in
set_option maxHeartbeats 2000000 in
theorem window_any (g : Nat) (ws : List Nat) (N p : Nat) (w : World) (h : RK w g ws (N : Int) (p : Int)) (hw : RdW ws N) (hp : p ≤ N) :
    Calls Tryd.prog 124 #[.pointer (some ⟨g, 0, none⟩)] w (RdOut g ws N (winR ws N p) w) := by
  have hgl := h.lt
  have T5 := Lib.hid (take_any g ws N p 5 _ (h.alloc (.cells #[.int .i64 0, .int .i64 0] 128)) hw (by omega) hp)
  have HG0 := Lib.hid (World.grownBy_alloc w (.cells #[.int .i64 0, .int .i64 0] 128) (some g))
  have HW0 := Lib.hid (show WB0 (w.alloc (.cells #[.int .i64 0, .int .i64 0] 128)) w.heap.size from heap_alloc_new w _)
  have T6 := Lib.hid (fun (W : World) (hk : RK W g ws (N : Int) ((p + 5 : Nat) : Int)) (hq : p + 5 ≤ N) => take_any g ws N (p + 5) 6 W hk hw (by omega) hq)
  have TF := Lib.hid (fun W => fail_any g W)
  have HR : Hid (winR ws N p = if p + 11 ≤ N ∧ BM.getW ws p 5 + (BM.getW ws (p + 5) 6 + 1) ≤ 64 then some (.agg #[.int .i64 (BM.getW ws p 5 : Int), .int .i64 ((BM.getW ws (p + 5) 6 : Int) + 1)], p + 11) else none) := rfl
  have hv5 : BM.getW ws p 5 < 32 := hw.v p 5 (by omega)
  have hv6 : BM.getW ws (p + 5) 6 < 64 := hw.v (p + 5) 6 (by omega)
  clear h hw hp
  unfold takeR at T5 T6
  generalize winR ws N p = R at *
  generalize BM.getW ws p 5 = V5 at *
  generalize BM.getW ws (p + 5) 6 = V6 at *
  go_enter Tryd.func124, Tryd.ntmps124
  go_wp2_with fail
  refine T5.out.mono ?_
  rintro e w1 h1
  by_cases c0 : p + 5 ≤ N
  · obtain ⟨he, hk, hg⟩ := h1.some' (by rw [if_pos c0])
    subst he
    have HK1 := Lib.hid hk
    have HG1 := Lib.hid (grown_trans HG0.out hg)
    have HW1 := Lib.hid (HW0.out.grown hg (by omega))
    clear h1 hk hg T5 HG0 HW0
    go_wp2_with fail
    refine (T6.out _ HK1.out c0).mono ?_
    rintro e w2 h2
    by_cases c1 : p + 5 + 6 ≤ N
    · obtain ⟨he, hk, hg⟩ := h2.some' (by rw [if_pos c1])
      subst he
      have HK2 := Lib.hid hk
      have HG2 := Lib.hid (grown_trans HG1.out hg)
      have HW2 := Lib.hid (HW1.out.grown hg (by omega))
      clear h2 hk hg HK1 HG1 HW1
      by_cases c2 : V5 + (V6 + 1) ≤ 64
      · have hd : decide ((64 : Int) < (V5 : Int) + ((V6 : Int) + 1)) = false := by simp; omega
        have hR : R = some (.agg #[.int .i64 (V5 : Int), .int .i64 ((V6 : Int) + 1)], p + 11) := by rw [HR.out, if_pos ⟨by omega, c2⟩]
        have HRR := Lib.hid hR
        clear hR
        have r0 := HW2.out.c0
        have r1 := HW2.out.c1
        have g0 := HW2.out.f 0
        have g1 := HW2.out.f 1
        go_wp2_with fail
        refine bodyPost_ret (v := .agg #[.int .i64 (V5 : Int), .int .i64 ((V6 : Int) + 1)]) (by simp [results, Tryd.results124, go_sem, r0, r1]) rfl ?_
        rw [HRR.out]
        exact ⟨qm_setNew (qm_setNew HG2.out (by simp) _) (by simp) _, rfl, (HK2.out.other (by show g ≠ w.heap.size; omega) _).other (by show g ≠ w.heap.size; omega) _⟩
      · have hd : decide ((64 : Int) < (V5 : Int) + ((V6 : Int) + 1)) = true := by simp; omega
        have hR : R = none := by rw [HR.out, if_neg (fun hh => c2 hh.2)]
        have HRR := Lib.hid hR
        clear hR
        go_wp2_with fail
        refine (TF.out _).mono ?_
        rintro e w3 ⟨⟨u, pv, rfl⟩, rfl⟩
        go_wp2_with fail
        rw [HRR.out]
        exact ⟨rfl, HG2.out, ⟨_, _, rfl⟩⟩
    · obtain ⟨⟨u, pv, rfl⟩, hg⟩ := h2.none' (by rw [if_neg c1])
      have HG2 := Lib.hid (grown_trans HG1.out hg)
      have hR : R = none := by rw [HR.out, if_neg (fun hh => c1 (by omega))]
      have HRR := Lib.hid hR
      clear hR hg h2
      go_wp2_with fail
      rw [HRR.out]
      exact ⟨rfl, HG2.out, ⟨_, _, rfl⟩⟩
  · obtain ⟨⟨u, pv, rfl⟩, hg⟩ := h1.none' (by rw [if_neg c0])
    have HG1 := Lib.hid (grown_trans HG0.out hg)
    have hR : R = none := by rw [HR.out, if_neg (fun hh => c0 (by omega))]
    have HRR := Lib.hid hR
    clear hR hg h1 T5
    go_wp2_with fail
    rw [HRR.out]
    exact ⟨rfl, HG1.out, ⟨_, _, rfl⟩⟩
end Go.Proofs.YtanoohfhifhhaaaDoor

/- Walks: the program's reader of a change. -/
set_option linter.unusedVariables false
set_option linter.unusedSimpArgs false
namespace Go.Proofs.YtanoohfhifhhaaaDoor
open Go.RowKit

/-- the end of a step: so many bits, shifted -/
def tailI (num : Nat → Nat → Nat) (N q b z : Nat) : Option (Int × Nat × Nat × Nat) :=
  if q + z ≤ N then some (wrap64 ((num q z * 2 ^ (64 - b - z) : Nat) : Int), q + z, b, z) else none
theorem stepI_0 {num : Nat → Nat → Nat} {N p b z : Nat} (h : ¬ p + 1 ≤ N) : stepI num N p b z = none := by unfold stepI; rw [if_neg h]
theorem stepI_1 {num : Nat → Nat → Nat} {N p b z : Nat} (h : p + 1 ≤ N) (h1 : num p 1 = 0) : stepI num N p b z = some (0, p + 1, b, z) := by unfold stepI; rw [if_pos h, if_pos h1]
theorem stepI_2 {num : Nat → Nat → Nat} {N p b z : Nat} (h : p + 1 ≤ N) (h1 : ¬ num p 1 = 0) (h2 : ¬ p + 2 ≤ N) : stepI num N p b z = none := by unfold stepI; rw [if_pos h, if_neg h1, if_neg h2]
theorem stepI_3 {num : Nat → Nat → Nat} {N p b z : Nat} (h2 : p + 2 ≤ N) (h1 : ¬ num p 1 = 0) (h3 : num (p + 1) 1 = 1) (h4 : ¬ (p + 13 ≤ N ∧ num (p + 2) 5 + (num (p + 7) 6 + 1) ≤ 64)) : stepI num N p b z = none := by
  unfold stepI; rw [if_pos (show p + 1 ≤ N by omega), if_neg h1, if_pos h2, if_pos h3, if_neg h4]
theorem stepI_4 {num : Nat → Nat → Nat} {N p b z : Nat} (h2 : p + 2 ≤ N) (h1 : ¬ num p 1 = 0) (h3 : num (p + 1) 1 = 1) (h4 : p + 13 ≤ N ∧ num (p + 2) 5 + (num (p + 7) 6 + 1) ≤ 64) : stepI num N p b z = tailI num N (p + 13) (num (p + 2) 5) (num (p + 7) 6 + 1) := by
  unfold stepI tailI; rw [if_pos (show p + 1 ≤ N by omega), if_neg h1, if_pos h2, if_pos h3, if_pos h4]
theorem stepI_5 {num : Nat → Nat → Nat} {N p b z : Nat} (h2 : p + 2 ≤ N) (h1 : ¬ num p 1 = 0) (h3 : ¬ num (p + 1) 1 = 1) : stepI num N p b z = tailI num N (p + 2) b z := by
  unfold stepI tailI; rw [if_pos (show p + 1 ≤ N by omega), if_neg h1, if_pos h2, if_neg h3]
theorem shl_conv (V t : Nat) : wrap64 (((V * 2 ^ t) % 18446744073709551616 : Nat) : Int) = wrap64 ((V * 2 ^ t : Nat) : Int) := by
  generalize V * 2 ^ t = n
  unfold wrap64
  omega
theorem gb_drew {a b : World} {row : Option Nat} (h : a.grownBy b row) : a.grownBy b.drew row := ⟨h.os, h.tape, h.output, h.size, h.block⟩
theorem shl_u64 (V t : Nat) : IntKind.u64.wrap ((V : Int) * 2 ^ t) = (V : Int) * 2 ^ t % 18446744073709551616 := by
  simp only [IntKind.wrap, IntKind.bits, IntKind.signed]
  simp
theorem shl_u64' (V t : Nat) : IntKind.u64.wrap ((V : Int) * 2 ^ t) = (((V * 2 ^ t) % 18446744073709551616 : Nat) : Int) := by
  rw [shl_u64]
  simp
def chV : Option (Int × Nat × Nat × Nat) → Option (Value × Nat)
  | some (x, q, b, z) => some (.tuple #[.int .i64 x, .agg #[.int .i64 (b : Int), .int .i64 (z : Int)]], q)
  | none => none
/-- the world in a call of change -/
structure CS (w : World) (g : Nat) (ws : List Nat) (N q b z : Nat) (W : World) : Prop where
  k : RK W g ws (N : Int) (q : Int)
  x : WB W w.heap.size (b : Int) (z : Int)
  r : WB W (w.heap.size + 1) 0 0
  f : w.grownBy W (some g)
  g : g < w.heap.size
theorem CS.start {w : World} {g : Nat} {ws : List Nat} {N q b z : Nat} (h : RK w g ws (N : Int) (q : Int)) : CS w g ws N q b z ((w.alloc (.cells #[.int .i64 (b : Int), .int .i64 (z : Int)] 128)).alloc (.cells #[.int .i64 0, .int .i64 0] 128)) := by
  have h2 : Below w.heap.size w ((w.alloc (.cells #[.int .i64 (b : Int), .int .i64 (z : Int)] 128)).alloc (.cells #[.int .i64 0, .int .i64 0] 128)) := ((Below.refl _ w).alloc (Nat.le_refl _) _).alloc (by simp) _
  exact ⟨(h2.block g h.lt).trans h, heap_alloc2_old w _ _, heap_alloc2_new w _ _, ⟨h2.os, h2.tape, h2.output, h2.size, fun i hi _ => h2.block i hi⟩, h.lt⟩
theorem CS.took {w W W' : World} {g : Nat} {ws : List Nat} {N q q' b z : Nat} (h : CS w g ws N q b z W) (hk : RK W' g ws (N : Int) (q' : Int)) (hg : W.grownBy W' (some g)) : CS w g ws N q' b z W' :=
  have := h.g
  ⟨hk, h.x.grown hg (by omega), h.r.grown hg (by omega), eb_trans h.f hg, h.g⟩
theorem CS.below {w W W' : World} {g : Nat} {ws : List Nat} {N q b z : Nat} (h : CS w g ws N q b z W) (hb : Below W.heap.size W W') : CS w g ws N q b z W' :=
  ⟨(hb.block g h.k.lt).trans h.k, h.x.below hb, h.r.below hb, eb_gb h.f hb, h.g⟩
theorem CS.drew {w W : World} {g : Nat} {ws : List Nat} {N q b z : Nat} (h : CS w g ws N q b z W) : CS w g ws N q b z W.drew :=
  ⟨h.k, h.x, h.r, ⟨h.f.os, h.f.tape, h.f.output, h.f.size, h.f.block⟩, h.g⟩
theorem CS.set {w W : World} {g : Nat} {ws : List Nat} {N q b z b' z' : Nat} (h : CS w g ws N q b z W) : CS w g ws N q b' z' ((W.setCell ⟨w.heap.size, 0, none⟩ (.int .i64 (b' : Int))).setCell ⟨w.heap.size, 1, none⟩ (.int .i64 (z' : Int))) :=
  have hg := h.g
  ⟨(h.k.other (by show g ≠ w.heap.size; omega) _).other (by show g ≠ w.heap.size; omega) _, h.x.set,
    (Below.heap_setCell _ _ _ _ (show w.heap.size + 1 ≠ w.heap.size by omega)).trans ((Below.heap_setCell _ _ _ _ (show w.heap.size + 1 ≠ w.heap.size by omega)).trans h.r), gb_set h.f (Nat.le_refl _) _ _, h.g⟩
/-- the end: the result is stored into its box -/
theorem CS.fin {w W : World} {g : Nat} {ws : List Nat} {N q b z : Nat} {b' z' : Int} (h : CS w g ws N q b z W) :
    RK ((W.setCell ⟨w.heap.size + 1, 0, none⟩ (.int .i64 b')).setCell ⟨w.heap.size + 1, 1, none⟩ (.int .i64 z')) g ws (N : Int) (q : Int) ∧ w.grownBy ((W.setCell ⟨w.heap.size + 1, 0, none⟩ (.int .i64 b')).setCell ⟨w.heap.size + 1, 1, none⟩ (.int .i64 z')) (some g) ∧ WB ((W.setCell ⟨w.heap.size + 1, 0, none⟩ (.int .i64 b')).setCell ⟨w.heap.size + 1, 1, none⟩ (.int .i64 z')) w.heap.size (b : Int) (z : Int) :=
  have hg := h.g
  ⟨(h.k.other (by show g ≠ w.heap.size + 1; omega) _).other (by show g ≠ w.heap.size + 1; omega) _, gb_set h.f (by omega) _ _,
    (Below.heap_setCell _ _ _ _ (show w.heap.size ≠ w.heap.size + 1 by omega)).trans ((Below.heap_setCell _ _ _ _ (show w.heap.size ≠ w.heap.size + 1 by omega)).trans h.x)⟩

set_option maxRecDepth 100000 in
set_option maxHeartbeats 4000000 in
theorem change_any (g : Nat) (ws : List Nat) (N p b z : Nat) (w : World) (h : RK w g ws (N : Int) (p : Int)) (hw : RdW ws N) (hp : p ≤ N) (hbz : b + z ≤ 64) :
    Calls Tryd.prog 115 #[.pointer (some ⟨g, 0, none⟩), .agg #[.int .i64 (b : Int), .int .i64 (z : Int)]] w (RdOut g ws N (chV (stepI (BM.getW ws) N p b z)) w) := by
  have T := Lib.hid (fun (W : World) (q k : Nat) (hk : RK W g ws (N : Int) (q : Int)) (hq : q ≤ N) (hz : k ≤ 64) => take_any g ws N q k W hk hw hz hq)
  have TW := Lib.hid (fun (W : World) (q : Nat) (hk : RK W g ws (N : Int) (q : Int)) (hq : q ≤ N) => window_any g ws N q W hk hw hq)
  have HWd := Lib.hid hw
  have HC0 := Lib.hid (CS.start (b := b) (z := z) h)
  have h5 := hw.v (p + 2) 5 (by omega)
  have h6 := hw.v (p + 7) 6 (by omega)
  have h1 := hw.v p 1 (by omega)
  have h2 := hw.v (p + 1) 1 (by omega)
  have S0 := Lib.hid (fun h => stepI_0 (num := BM.getW ws) (N := N) (p := p) (b := b) (z := z) h)
  have S1 := Lib.hid (fun h h' => stepI_1 (num := BM.getW ws) (N := N) (p := p) (b := b) (z := z) h h')
  have S2 := Lib.hid (fun h h' h'' => stepI_2 (num := BM.getW ws) (N := N) (p := p) (b := b) (z := z) h h' h'')
  have S3 := Lib.hid (fun h h' h'' h3 => stepI_3 (num := BM.getW ws) (N := N) (p := p) (b := b) (z := z) h h' h'' h3)
  have S4 := Lib.hid (fun h h' h'' h3 => stepI_4 (num := BM.getW ws) (N := N) (p := p) (b := b) (z := z) h h' h'' h3)
  have S5 := Lib.hid (fun h h' h'' => stepI_5 (num := BM.getW ws) (N := N) (p := p) (b := b) (z := z) h h' h'')
  have WR : Hid (winR ws N (p + 2) = if p + 2 + 11 ≤ N ∧ BM.getW ws (p + 2) 5 + (BM.getW ws (p + 2 + 5) 6 + 1) ≤ 64 then some (.agg #[.int .i64 (BM.getW ws (p + 2) 5 : Int), .int .i64 ((BM.getW ws (p + 2 + 5) 6 : Int) + 1)], p + 2 + 11) else none) := Lib.hid rfl
  rw [show p + 2 + 5 = p + 7 by omega, show p + 2 + 11 = p + 13 by omega] at WR
  generalize stepI (BM.getW ws) N p b z = R at *
  generalize BM.getW ws (p + 2) 5 = V5 at *
  generalize BM.getW ws (p + 7) 6 = V6 at *
  obtain ⟨V1, hV1⟩ : ∃ V1, V1 = BM.getW ws p 1 := ⟨_, rfl⟩
  obtain ⟨V2, hV2⟩ : ∃ V2, V2 = BM.getW ws (p + 1) 1 := ⟨_, rfl⟩
  rw [← hV1] at h1 S1 S2 S3 S4 S5
  rw [← hV2] at h2 S3 S4 S5
  have HV1 := Lib.hid hV1
  have HV2 := Lib.hid hV2
  clear h hw hV1 hV2
  go_enter Tryd.func115, Tryd.ntmps115
  go_wp2_with fail
  refine (T.out _ p 1 HC0.out.k hp (by omega)).mono ?_
  rintro e w1 g1
  by_cases c1 : p + 1 ≤ N
  · obtain ⟨he, hk1, hg1⟩ := g1.some' (v := .int .u64 (V1 : Int)) (q := p + 1) (by unfold takeR; rw [if_pos c1, HV1.out])
    subst he
    have HC1 := Lib.hid (HC0.out.took hk1 hg1)
    clear g1 hk1 hg1 HC0
    by_cases z1 : V1 = 0
    · subst z1
      have HRR := Lib.hid (S1.out c1 (by first | rfl | trivial))
      have x0 := HC1.out.x.c0
      have x1 := HC1.out.x.c1
      have r0 := HC1.out.r.c0
      have r1 := HC1.out.r.c1
      have rf0 := HC1.out.r.f 0
      have rf1 := HC1.out.r.f 1
      clear S0 S1 S2 S3 S4 S5
      go_wp2_with fail
      go_region_law (fail)
      all_goals
        have hfin := HC1.out.fin (b' := (b : Int)) (z' := (z : Int))
        have HFin := Lib.hid hfin
        clear hfin HC1
        go_wp2_with fail
        refine bodyPost_ret (v := .tuple #[.int .i64 0, .agg #[.int .i64 (b : Int), .int .i64 (z : Int)]]) (by simp [results, Tryd.results115, go_sem, r0, r1]) rfl ?_
        rw [HRR.out]
        exact ⟨gb_drew HFin.out.2.1, rfl, HFin.out.1⟩
    · have zi : ¬ (V1 : Int) = 0 := by omega
      go_wp2_with fail
      refine (T.out _ (p + 1) 1 HC1.out.k c1 (by omega)).mono ?_
      rintro e w2 g2
      by_cases c2 : p + 1 + 1 ≤ N
      · obtain ⟨he, hk2, hg2⟩ := g2.some' (v := .int .u64 (V2 : Int)) (q := p + 1 + 1) (by unfold takeR; rw [if_pos c2, HV2.out])
        subst he
        have HC2 := Lib.hid (HC1.out.took hk2 hg2)
        clear g2 hk2 hg2 HC1
        by_cases z2 : V2 = 1
        · subst z2
          clear zi
          go_wp2_with fail
          refine (TW.out _ (p + 2) HC2.out.k c2).mono ?_
          rintro e w3 g3
          by_cases c3 : p + 13 ≤ N ∧ V5 + (V6 + 1) ≤ 64
          · obtain ⟨he, hk3, hg3⟩ := g3.some' (v := .agg #[.int .i64 (V5 : Int), .int .i64 ((V6 : Int) + 1)]) (q := p + 13) (by rw [WR.out, if_pos c3])
            subst he
            have HC3 := Lib.hid (HC2.out.took hk3 hg3)
            have HR := Lib.hid (S4.out c2 z1 (by first | rfl | trivial) c3)
            obtain ⟨Z, hZ⟩ : ∃ Z, Z = V6 + 1 := ⟨_, rfl⟩
            have hZi : (V6 : Int) + 1 = (Z : Int) := by omega
            rw [← hZ] at HR
            rw [hZi]
            have hq : p + 13 ≤ N := c3.1
            have hz : Z ≤ 64 := by omega
            have hbz' : V5 + Z ≤ 64 := by omega
            have HC := Lib.hid (HC3.out.set (b' := V5) (z' := Z))
            have x0 := HC3.out.x.c0
            have x1 := HC3.out.x.c1
            have f0 := HC3.out.x.f 0
            have f1 := HC3.out.x.f 1
            clear g3 hk3 hg3 HC2 hbz S0 S1 S2 S3 S4 S5 c3 hZ hZi WR h5 h6 h1 h2
            obtain ⟨t, ht⟩ : ∃ t, t = 64 - V5 - Z := ⟨_, rfl⟩
            have HAF := Lib.hid (fun W => after_any (V5 : Int) (Z : Int) W (by omega) (by omega) (by omega) (by omega))
            rw [show 64 - (V5 : Int) - (Z : Int) = (t : Int) by omega] at HAF
            have HTt := Lib.hid ht
            have ht64 : t ≤ 64 := by omega
            clear ht
            go_wp2_with fail
            have HD := Lib.hid HC.out.drew
            refine wp_region_held_drew (S := fun W => WB W w.heap.size (V5 : Int) (Z : Int)) (by kernel_rfl) HD.out.x ?_
            intro hS
            refine wpAnyH_take (i := 0) (v := .pointer (some ⟨g, 0, none⟩)) rfl (by kernel_rfl) (by kernel_rfl) (by kernel_rfl) (fun _ _ _ h => h) (Or.inl ⟨by kernel_rfl, ?t0⟩) hS ?_
            case t0 =>
              intro W hW
              have x0 := WB.c0 hW
              have x1 := WB.c1 hW
              clear hW hS
              go_simp
            refine wpAnyH_take (i := 1) (v := .pointer (some ⟨w.heap.size, 1, none⟩)) rfl (by kernel_rfl) (by kernel_rfl) (by kernel_rfl) (fun _ _ _ h => h) (Or.inl ⟨by kernel_rfl, ?t1⟩) hS ?_
            case t1 =>
              intro W hW
              have x0 := WB.c0 hW
              have x1 := WB.c1 hW
              clear hW hS
              go_simp
            refine wpAnyH_take (i := 2) (v := .int .i64 (Z : Int)) rfl (by kernel_rfl) (by kernel_rfl) (by kernel_rfl) (fun _ _ _ h => h) (Or.inl ⟨by kernel_rfl, ?t2⟩) hS ?_
            case t2 =>
              intro W hW
              have x0 := WB.c0 hW
              have x1 := WB.c1 hW
              clear hW hS
              go_simp
            refine wpAnyH_take (i := 4) (v := .agg #[.int .i64 (V5 : Int), .int .i64 (Z : Int)]) rfl (by kernel_rfl) (by kernel_rfl) (by kernel_rfl) (fun _ _ _ h => h) (Or.inl ⟨by kernel_rfl, ?t4⟩) hS ?_
            case t4 =>
              intro W hW
              have x0 := WB.c0 hW
              have x1 := WB.c1 hW
              clear hW hS
              go_simp
            refine wpAnyH_take (i := 8) (v := .agg #[.int .i64 (V5 : Int), .int .i64 (Z : Int)]) rfl (by kernel_rfl) (by kernel_rfl) (by kernel_rfl) (fun _ _ _ h => h) (Or.inl ⟨by kernel_rfl, ?t8⟩) hS ?_
            case t8 =>
              intro W hW
              have x0 := WB.c0 hW
              have x1 := WB.c1 hW
              clear hW hS
              go_simp
            refine wpAnyH_ready (rs := [3]) (by kernel_rfl) (by simp) ?_
            refine AllReadyH.cons rfl (fun K3 hK3 => ?_) AllReadyH.nil
            refine Eq.mpr (if_pos (by kernel_rfl)) ?_
            go_simp
            go_at_call 113
            refine (T.out _ (p + 13) Z HD.out.k hq hz).mono ?_
            rintro e w3 h3
            by_cases cz : p + 13 + Z ≤ N
            · obtain ⟨rfl, hk3, hg3⟩ := h3.some' (v := .int .u64 (BM.getW ws (p + 13) Z : Int)) (q := p + 13 + Z) (by unfold takeR; rw [if_pos cz])
              have C3 := Lib.hid (HD.out.took hk3 hg3)
              clear h3 hk3 hg3 hS
              have HRR : Hid (R = some (wrap64 ((BM.getW ws (p + 13) Z * 2 ^ (64 - V5 - Z) : Nat) : Int), p + 13 + Z, V5, Z)) := Lib.hid (by rw [HR.out]; unfold tailI; rw [if_pos cz])
              have hV := HWd.out.v (p + 13) Z hz
              generalize BM.getW ws (p + 13) Z = V at *
              have HV := Lib.hid hV
              clear hV
              try go_simp
              have hS := C3.out.x
              refine hK3.out _ _ hS (fun _ => ?_)
              clear hK3 K3
              refine wpAnyH_ready (rs := [5]) (by kernel_rfl) (by simp) ?_
              refine AllReadyH.cons rfl (fun K5 hK5 => ?_) AllReadyH.nil
              refine Eq.mpr (if_pos (by kernel_rfl)) ?_
              go_simp
              go_at_call 120
              refine (HAF.out _).mono ?_
              rintro e w5 ⟨rfl, hb5⟩
              have C5 := Lib.hid (C3.out.below hb5)
              clear hb5 hS
              try go_simp
              have hS := C5.out.x
              refine hK5.out _ _ hS (fun _ => ?_)
              clear hK5 K5
              refine wpAnyH_take (i := 6) (v := .int .u64 (((V * 2 ^ t) % 18446744073709551616 : Nat) : Int)) rfl (by kernel_rfl) (by kernel_rfl) (by kernel_rfl) (fun _ _ _ h => h) (Or.inl ⟨by kernel_rfl, ?t6⟩) hS ?_
              case t6 =>
                intro W hW
                clear hW hS
                go_simp
                first | exact shl_u64 V t | exact shl_u64' V t
              have HX := Lib.hid (shl_conv V t)
              generalize (V * 2 ^ t) % 18446744073709551616 = U at *
              have hx := HX.out
              obtain ⟨X, hX⟩ : ∃ X, X = wrap64 ((V * 2 ^ t : Nat) : Int) := ⟨_, rfl⟩
              rw [← hX] at hx
              have HXX : Hid (X = wrap64 ((V * 2 ^ (64 - V5 - Z) : Nat) : Int)) := Lib.hid (by rw [← HTt.out]; exact hX)
              clear hX
              refine wpAnyH_take (i := 7) (v := .int .i64 X) rfl (by kernel_rfl) (by kernel_rfl) (by kernel_rfl) (fun _ _ _ h => h) (Or.inl ⟨by kernel_rfl, ?t7⟩) hS ?_
              case t7 =>
                intro W hW
                clear hW hS
                go_simp
                rw [u_i64_wrap]
                exact hx
              clear hx HX
              refine wpAnyH_take (i := 9) (v := .int .i64 X) rfl (by kernel_rfl) (by kernel_rfl) (by kernel_rfl) (fun _ _ _ h => h) (Or.inl ⟨by kernel_rfl, ?t9⟩) hS ?_
              case t9 =>
                intro W hW
                clear hW hS
                go_simp
              refine wpAnyH_ready (rs := [10]) (by kernel_rfl) (by simp) ?_
              refine AllReadyH.cons rfl (fun K10 hK10 => ?_) AllReadyH.nil
              refine Eq.mpr (if_pos (by kernel_rfl)) ?_
              have r0 := C5.out.r.c0
              have r1 := C5.out.r.c1
              have rf0 := C5.out.r.f 0
              have rf1 := C5.out.r.f 1
              go_simp
              have hfin := C5.out.fin (b' := (V5 : Int)) (z' := (Z : Int))
              refine hK10.out _ _ hfin.2.2 (fun _ => ?_)
              clear hK10 K10
              refine wpAnyH_done (by kernel_rfl) ?_ _
              have HFin := Lib.hid hfin
              clear hfin C5 C3 HD HC hS
              go_wp2_with fail
              refine bodyPost_ret (v := .tuple #[.int .i64 X, .agg #[.int .i64 (V5 : Int), .int .i64 (Z : Int)]]) (by simp [results, Tryd.results115, go_sem, r0, r1]) rfl ?_
              rw [HRR.out, ← HXX.out]
              exact ⟨HFin.out.2.1, rfl, HFin.out.1⟩
            · obtain ⟨⟨u, pv, rfl⟩, hg3⟩ := h3.none' (by unfold takeR; rw [if_neg cz])
              have HF := Lib.hid (grown_trans HD.out.f hg3)
              have HRR : Hid (R = none) := Lib.hid (by rw [HR.out]; unfold tailI; rw [if_neg cz])
              clear h3 hg3 hS
              try go_simp
              rw [HRR.out]
              exact ⟨rfl, HF.out, ⟨_, _, rfl⟩⟩
          · obtain ⟨⟨u, pv, rfl⟩, hg3⟩ := g3.none' (by rw [WR.out, if_neg c3])
            have HRR := Lib.hid (S3.out c2 z1 (by first | rfl | trivial) c3)
            have HF := Lib.hid (eb_trans HC2.out.f hg3)
            clear g3 hg3
            go_wp2_with fail
            rw [HRR.out]
            exact ⟨rfl, HF.out, ⟨_, _, rfl⟩⟩
        · have zj : ¬ (V2 : Int) = 1 := by omega
          have HR := Lib.hid (S5.out c2 z1 z2)
          have hq : p + 2 ≤ N := c2
          have hz : z ≤ 64 := by omega
          have HC := HC2
          clear HC2 S0 S1 S2 S3 S4 S5 WR h5 h6 h1 h2
          obtain ⟨t, ht⟩ : ∃ t, t = 64 - b - z := ⟨_, rfl⟩
          have HAF := Lib.hid (fun W => after_any (b : Int) (z : Int) W (by omega) (by omega) (by omega) (by omega))
          rw [show 64 - (b : Int) - (z : Int) = (t : Int) by omega] at HAF
          have HTt := Lib.hid ht
          have ht64 : t ≤ 64 := by omega
          clear ht
          go_wp2_with fail
          have HD := Lib.hid HC.out.drew
          refine wp_region_held_drew (S := fun W => WB W w.heap.size (b : Int) (z : Int)) (by kernel_rfl) HD.out.x ?_
          intro hS
          refine wpAnyH_take (i := 0) (v := .pointer (some ⟨g, 0, none⟩)) rfl (by kernel_rfl) (by kernel_rfl) (by kernel_rfl) (fun _ _ _ h => h) (Or.inl ⟨by kernel_rfl, ?t0⟩) hS ?_
          case t0 =>
            intro W hW
            have x0 := WB.c0 hW
            have x1 := WB.c1 hW
            clear hW hS
            go_simp
          refine wpAnyH_take (i := 1) (v := .pointer (some ⟨w.heap.size, 1, none⟩)) rfl (by kernel_rfl) (by kernel_rfl) (by kernel_rfl) (fun _ _ _ h => h) (Or.inl ⟨by kernel_rfl, ?t1⟩) hS ?_
          case t1 =>
            intro W hW
            have x0 := WB.c0 hW
            have x1 := WB.c1 hW
            clear hW hS
            go_simp
          refine wpAnyH_take (i := 2) (v := .int .i64 (z : Int)) rfl (by kernel_rfl) (by kernel_rfl) (by kernel_rfl) (fun _ _ _ h => h) (Or.inl ⟨by kernel_rfl, ?t2⟩) hS ?_
          case t2 =>
            intro W hW
            have x0 := WB.c0 hW
            have x1 := WB.c1 hW
            clear hW hS
            go_simp
          refine wpAnyH_take (i := 4) (v := .agg #[.int .i64 (b : Int), .int .i64 (z : Int)]) rfl (by kernel_rfl) (by kernel_rfl) (by kernel_rfl) (fun _ _ _ h => h) (Or.inl ⟨by kernel_rfl, ?t4⟩) hS ?_
          case t4 =>
            intro W hW
            have x0 := WB.c0 hW
            have x1 := WB.c1 hW
            clear hW hS
            go_simp
          refine wpAnyH_take (i := 8) (v := .agg #[.int .i64 (b : Int), .int .i64 (z : Int)]) rfl (by kernel_rfl) (by kernel_rfl) (by kernel_rfl) (fun _ _ _ h => h) (Or.inl ⟨by kernel_rfl, ?t8⟩) hS ?_
          case t8 =>
            intro W hW
            have x0 := WB.c0 hW
            have x1 := WB.c1 hW
            clear hW hS
            go_simp
          refine wpAnyH_ready (rs := [3]) (by kernel_rfl) (by simp) ?_
          refine AllReadyH.cons rfl (fun K3 hK3 => ?_) AllReadyH.nil
          refine Eq.mpr (if_pos (by kernel_rfl)) ?_
          go_simp
          go_at_call 113
          refine (T.out _ (p + 2) z HD.out.k hq hz).mono ?_
          rintro e w3 h3
          by_cases cz : p + 2 + z ≤ N
          · obtain ⟨rfl, hk3, hg3⟩ := h3.some' (v := .int .u64 (BM.getW ws (p + 2) z : Int)) (q := p + 2 + z) (by unfold takeR; rw [if_pos cz])
            have C3 := Lib.hid (HD.out.took hk3 hg3)
            clear h3 hk3 hg3 hS
            have HRR : Hid (R = some (wrap64 ((BM.getW ws (p + 2) z * 2 ^ (64 - b - z) : Nat) : Int), p + 2 + z, b, z)) := Lib.hid (by rw [HR.out]; unfold tailI; rw [if_pos cz])
            have hV := HWd.out.v (p + 2) z hz
            generalize BM.getW ws (p + 2) z = V at *
            have HV := Lib.hid hV
            clear hV
            try go_simp
            have hS := C3.out.x
            refine hK3.out _ _ hS (fun _ => ?_)
            clear hK3 K3
            refine wpAnyH_ready (rs := [5]) (by kernel_rfl) (by simp) ?_
            refine AllReadyH.cons rfl (fun K5 hK5 => ?_) AllReadyH.nil
            refine Eq.mpr (if_pos (by kernel_rfl)) ?_
            go_simp
            go_at_call 120
            refine (HAF.out _).mono ?_
            rintro e w5 ⟨rfl, hb5⟩
            have C5 := Lib.hid (C3.out.below hb5)
            clear hb5 hS
            try go_simp
            have hS := C5.out.x
            refine hK5.out _ _ hS (fun _ => ?_)
            clear hK5 K5
            refine wpAnyH_take (i := 6) (v := .int .u64 (((V * 2 ^ t) % 18446744073709551616 : Nat) : Int)) rfl (by kernel_rfl) (by kernel_rfl) (by kernel_rfl) (fun _ _ _ h => h) (Or.inl ⟨by kernel_rfl, ?t6⟩) hS ?_
            case t6 =>
              intro W hW
              clear hW hS
              go_simp
              first | exact shl_u64 V t | exact shl_u64' V t
            have HX := Lib.hid (shl_conv V t)
            generalize (V * 2 ^ t) % 18446744073709551616 = U at *
            have hx := HX.out
            obtain ⟨X, hX⟩ : ∃ X, X = wrap64 ((V * 2 ^ t : Nat) : Int) := ⟨_, rfl⟩
            rw [← hX] at hx
            have HXX : Hid (X = wrap64 ((V * 2 ^ (64 - b - z) : Nat) : Int)) := Lib.hid (by rw [← HTt.out]; exact hX)
            clear hX
            refine wpAnyH_take (i := 7) (v := .int .i64 X) rfl (by kernel_rfl) (by kernel_rfl) (by kernel_rfl) (fun _ _ _ h => h) (Or.inl ⟨by kernel_rfl, ?t7⟩) hS ?_
            case t7 =>
              intro W hW
              clear hW hS
              go_simp
              rw [u_i64_wrap]
              exact hx
            clear hx HX
            refine wpAnyH_take (i := 9) (v := .int .i64 X) rfl (by kernel_rfl) (by kernel_rfl) (by kernel_rfl) (fun _ _ _ h => h) (Or.inl ⟨by kernel_rfl, ?t9⟩) hS ?_
            case t9 =>
              intro W hW
              clear hW hS
              go_simp
            refine wpAnyH_ready (rs := [10]) (by kernel_rfl) (by simp) ?_
            refine AllReadyH.cons rfl (fun K10 hK10 => ?_) AllReadyH.nil
            refine Eq.mpr (if_pos (by kernel_rfl)) ?_
            have r0 := C5.out.r.c0
            have r1 := C5.out.r.c1
            have rf0 := C5.out.r.f 0
            have rf1 := C5.out.r.f 1
            go_simp
            have hfin := C5.out.fin (b' := (b : Int)) (z' := (z : Int))
            refine hK10.out _ _ hfin.2.2 (fun _ => ?_)
            clear hK10 K10
            refine wpAnyH_done (by kernel_rfl) ?_ _
            have HFin := Lib.hid hfin
            clear hfin C5 C3 HD HC hS
            go_wp2_with fail
            refine bodyPost_ret (v := .tuple #[.int .i64 X, .agg #[.int .i64 (b : Int), .int .i64 (z : Int)]]) (by simp [results, Tryd.results115, go_sem, r0, r1]) rfl ?_
            rw [HRR.out, ← HXX.out]
            exact ⟨HFin.out.2.1, rfl, HFin.out.1⟩
          · obtain ⟨⟨u, pv, rfl⟩, hg3⟩ := h3.none' (by unfold takeR; rw [if_neg cz])
            have HF := Lib.hid (grown_trans HD.out.f hg3)
            have HRR : Hid (R = none) := Lib.hid (by rw [HR.out]; unfold tailI; rw [if_neg cz])
            clear h3 hg3 hS
            try go_simp
            rw [HRR.out]
            exact ⟨rfl, HF.out, ⟨_, _, rfl⟩⟩
      · obtain ⟨⟨u, pv, rfl⟩, hg2⟩ := g2.none' (by unfold takeR; rw [if_neg c2])
        have HRR := Lib.hid (S2.out c1 z1 c2)
        have HF := Lib.hid (eb_trans HC1.out.f hg2)
        clear g2 hg2
        go_wp2_with fail
        rw [HRR.out]
        exact ⟨rfl, HF.out, ⟨_, _, rfl⟩⟩
  · obtain ⟨⟨u, pv, rfl⟩, hg1⟩ := g1.none' (by unfold takeR; rw [if_neg c1])
    have HRR := Lib.hid (S0.out c1)
    have HF := Lib.hid (eb_trans HC0.out.f hg1)
    clear g1 hg1
    go_wp2_with fail
    rw [HRR.out]
    exact ⟨rfl, HF.out, ⟨_, _, rfl⟩⟩
end Go.Proofs.YtanoohfhifhhaaaDoor

/- Walks: the program's reader of values. -/
set_option linter.unusedVariables false
set_option linter.unusedSimpArgs false
namespace Go.Proofs.YtanoohfhifhhaaaDoor
open Go.RowKit

theorem WB.app {wr w' : World} {h B : Nat} {e : TypeId} {v : Value} {n : Nat} {xs : List Value} {o : Obj} {b z : Int} (hx : WB wr h b z) (hB : h < B) (ho : wr.ownsRow B e 1 v n xs) (k : (wr.alloc o).grownBy w' v.ownBlock) : WB w' h b z := by
  have hlt := hx.lt
  unfold WB at *
  rw [k.block h (by simp; omega) (fun hk => by have := (ho.lt _ hk.symm).1; omega), heap_alloc_old _ _ hlt]
  exact hx
/-- the world in a round -/
structure VRd (w : World) (g : Nat) (ws : List Nat) (N : Nat) (v : Value) (xs : List Int) (q b z : Nat) (W : World) : Prop where
  k : RK W g ws (N : Int) (q : Int)
  x : WB W w.heap.size (b : Int) (z : Int)
  o : W.ownsRow (w.heap.size + 1) 2 1 v xs.length (ints xs)
  f : w.grownBy W (some g)
  g : g < w.heap.size
theorem VRd.took {w W W' : World} {g : Nat} {ws : List Nat} {N : Nat} {v : Value} {xs : List Int} {q q' b z : Nat} (h : VRd w g ws N v xs q b z W) (hk : RK W' g ws (N : Int) (q' : Int)) (hg : W.grownBy W' (some g)) : VRd w g ws N v xs q' b z W' :=
  have := h.g
  ⟨hk, h.x.grown hg (by omega), own_grown h.o hg (by omega), eb_trans h.f hg, h.g⟩
theorem VRd.below {w W W' : World} {g : Nat} {ws : List Nat} {N : Nat} {v : Value} {xs : List Int} {q b z : Nat} (h : VRd w g ws N v xs q b z W) (hb : Below W.heap.size W W') : VRd w g ws N v xs q b z W' :=
  ⟨(hb.block g h.k.lt).trans h.k, h.x.below hb, u_own_below h.o hb, eb_gb h.f hb, h.g⟩
theorem VRd.set {w W : World} {g : Nat} {ws : List Nat} {N : Nat} {v : Value} {xs : List Int} {q b z b' z' : Nat} (h : VRd w g ws N v xs q b z W) : VRd w g ws N v xs q b' z' ((W.setCell ⟨w.heap.size, 0, none⟩ (.int .i64 (b' : Int))).setCell ⟨w.heap.size, 1, none⟩ (.int .i64 (z' : Int))) :=
  have hg := h.g
  ⟨(h.k.other (by show g ≠ w.heap.size; omega) _).other (by show g ≠ w.heap.size; omega) _, h.x.set, own_setCell (own_setCell h.o (by omega)) (by omega), gb_set h.f (Nat.le_refl _) _ _, h.g⟩
theorem VRd.app {w W w' : World} {g : Nat} {ws : List Nat} {N : Nat} {v v' : Value} {xs : List Int} {q b z : Nat} {y : Int} {o : Obj} (h : VRd w g ws N v xs q b z W)
    (hown' : w'.ownsRow (w.heap.size + 1) 2 1 v' (xs.length + 1) (ints xs ++ [.int .i64 y])) (hgrow : (W.alloc o).grownBy w' v.ownBlock) : VRd w g ws N v' (xs ++ [y]) q b z w' :=
  have hg := h.g
  ⟨h.k.app (by omega) h.o hgrow, h.x.app (by omega) h.o hgrow, by rw [List.length_append, ints_append]; exact hown', grown_app h.f (by omega) h.o hgrow, h.g⟩

theorem VRd.aside {w W W' : World} {g r : Nat} {ws : List Nat} {N : Nat} {v : Value} {xs : List Int} {q b z : Nat} (h : VRd w g ws N v xs q b z W) (k : W.grownBy W' (some r)) (hr : w.heap.size < r) (hv : ∀ c, v.ownBlock = some c → c < r) : VRd w g ws N v xs q b z W' := by
  have hg := h.g
  have hne : ∀ i, i ≠ r → some i ≠ some r := fun i h e => by injection e with e; exact h e
  refine ⟨(k.block g h.k.lt (hne _ (by omega))).trans h.k, (k.block _ h.x.lt (hne _ (by omega))).trans h.x, ?_, ⟨k.os.trans h.f.os, k.tape.trans h.f.tape, k.output.trans h.f.output, Nat.le_trans h.f.size k.size, fun i hi he => (k.block i (Nat.lt_of_lt_of_le hi h.f.size) (hne _ (by omega))).trans (h.f.block i hi he)⟩, hg⟩
  refine ⟨h.o.1, ?_⟩
  rcases h.o.2 with h2 | ⟨c, cap, cur, rfl, hb, hh, rest⟩
  · exact .inl h2
  · exact .inr ⟨c, cap, cur, rfl, hb, (k.block c (Array.getElem?_eq_some_iff.1 hh).1 (hne _ (by have := hv c rfl; omega))).trans hh, rest⟩
theorem pack_dec (a b : List Bool) : (a = b) ↔ ((⟨(BM.pack a).toArray⟩ : ByteArray) = ⟨(BM.pack b).toArray⟩ ∧ a.length = b.length) := by
  constructor
  · rintro rfl; exact ⟨rfl, rfl⟩
  · rintro ⟨h1, h2⟩
    have h3 : BM.pack a = BM.pack b := by
      have := congrArg (fun x : ByteArray => x.data.toList) h1
      simpa using this
    rw [← BM.listOf_pack a, ← BM.listOf_pack b, h3, h2]

set_option maxRecDepth 100000 in
set_option maxHeartbeats 4000000 in
theorem values_any (g : Nat) (ws : List Nat) (N p n : Nat) (w : World) (h : RK w g ws (N : Int) (p : Int)) (hw : RdW ws N) (hp : p ≤ N) (hn : n ≤ 120) (hT : ∀ W, w.grownBy W (some g) → Tab W) (L : List Bool) (hL : BM.Words ws L) (hLN : L.length = N) :
    Calls Tryd.prog 92 #[.pointer (some ⟨g, 0, none⟩), .int .i64 (n : Int)] w (ListOut g ws N (fitB L p (valI (BM.getW ws) N n p)) w) := by
  have T := Lib.hid (fun (W : World) (q : Nat) (hk : RK W g ws (N : Int) (q : Int)) (hq : q ≤ N) => take_any g ws N q 64 W hk hw (by omega) hq)
  have C := Lib.hid (fun (W : World) (q b z : Nat) (hk : RK W g ws (N : Int) (q : Int)) (hq : q ≤ N) (hbz : b + z ≤ 64) => change_any g ws N q b z W hk hw hq hbz)
  have HT := Lib.hid hT
  have HWd := Lib.hid hw
  have HLw := Lib.hid hL
  have HO := Lib.hid (fun k xs q b z h => valI_ok (num := BM.getW ws) (p := p) hp k xs q b z h)
  have HF := Lib.hid (fun W => fail_any g W)
  have hat := h.at' hw.l
  have hg := h.lt
  have HV0 : Hid (VRd w g ws N (.slice none 0 0) [] p 0 0 (w.alloc (.cells #[.int .i64 0, .int .i64 0] 128))) := Lib.hid ⟨h.alloc _, heap_alloc_new w _, World.ownsRow_nil _ _ _ _, World.grownBy_alloc _ _ _, hg⟩
  obtain ⟨i0, hi, hz0, hz1, hz2⟩ := info_parts u_info_i64
  clear h hw hT hL
  go_enter Tryd.func92, Tryd.ntmps92
  go_wp2_with fail
  generalize w.alloc (.cells #[.int .i64 0, .int .i64 0] 128) = w1 at *
  clear hat
  go_loopw [6, 7, 19] (fun v la i wr => ∃ (k : Nat) (xs : List Int) (q b z : Nat), k ≤ n ∧ i = .int .i64 k ∧ Hid (valI (BM.getW ws) N k p = some (xs, q, b, z)) ∧ la = .int .i64 (if k = 0 then 0 else xs.getD (k - 1) 0) ∧ Hid (VRd w g ws N v xs q b z wr))
    (fun _ _ i _ => n - (intOf i).toNat)
  case atStart => exact ⟨0, [], p, 0, 0, Nat.zero_le _, rfl, Lib.hid rfl, rfl, HV0⟩
  case round =>
    clear HV0
    obtain ⟨k, xs, q, b, z, hk, rfl, HTw, rfl, HV⟩ := hrel
    have hG := HO.out k xs q b z HTw.out
    have hqN := hG.qN
    have hbz := hG.bz
    have hlen := hG.len
    have HG := Lib.hid hG
    clear hG
    by_cases hlt : k < n
    · by_cases hk0 : k = 0
      · subst hk0
        rw [if_pos rfl]
        go_wp2_with fail
        refine (T.out _ q HV.out.k hqN).mono ?_
        rintro e w2 h2
        by_cases c : q + 64 ≤ N
        · obtain ⟨rfl, hk2, hg2⟩ := h2.some' (v := .int .u64 (BM.getW ws q 64 : Int)) (q := q + 64) (by unfold takeR; rw [if_pos c])
          have HV2 := Lib.hid (HV.out.took hk2 hg2)
          have hn1 := Lib.hid (show valI (BM.getW ws) N (0 + 1) p = some (xs ++ [wrap64 ((BM.getW ws q 64 : Nat) : Int)], q + 64, 0, 0) from by
            rw [valI_step HTw.out, if_pos rfl, if_pos c])
          have hb0 : b = 0 ∧ z = 0 := by
            have h0 := HTw.out
            simp only [valI, Option.some.injEq, Prod.mk.injEq] at h0
            omega
          obtain ⟨rfl, rfl⟩ := hb0
          have hxs : xs = [] := List.eq_nil_of_length_eq_zero hlen
          obtain ⟨Y, hY⟩ : ∃ Y, Y = wrap64 ((BM.getW ws q 64 : Nat) : Int) := ⟨_, rfl⟩
          rw [← hY] at hn1
          have hcv : IntKind.i64.wrap ((BM.getW ws q 64 : Nat) : Int) = Y := by rw [hY, u_i64_wrap]
          have hcw : wrap64 ((BM.getW ws q 64 : Nat) : Int) = Y := hY.symm
          clear hY h2 hk2 hg2 HV
          generalize BM.getW ws q 64 = V at *
          have hsz2 : w.heap.size + 1 ≤ w2.heap.size := by have := HV2.out.x.lt; omega
          go_wp2_with (at_builtin; refine wpList_append_own _ rfl _ _ 94 rfl (w.heap.size + 1) 2 i0 (.int .i64 0) 1 8 Tryd.underlying94 hi hz0 hz1 hz2 rfl (by decide) _ _ _ rfl (HV2.out.o.alloc _) ⟨w2.heap.size, 0, none⟩ 1 1 [.int .i64 Y] rfl rfl ?c1 ?c2 ?c3 ?c4 ?c5 ?_)
          case c1 => exact cell_one_new _ _ _
          case c2 => first | rfl | (intro q hq; simp at hq; subst hq; rfl)
          case c3 => unfold maxLen; omega
          case c4 => omega
          case c5 => simp; omega
          intro v' w4 hown' hgrow _
          have HV4 := Lib.hid (HV2.out.app (y := Y) (by rw [hlen, hxs]; exact hown') hgrow)
          clear hown' hgrow HV2
          go_wp2_with fail
          go_roundw
          case rel => exact ⟨0 + 1, _, _, 0, 0, by omega, by go_num, hn1, by rw [if_neg (by omega), hxs]; rfl, HV4⟩
          case measure => simp [intOf]; omega
        · obtain ⟨⟨u, pv, rfl⟩, hg2⟩ := h2.none' (by unfold takeR; rw [if_neg c])
          have E := Lib.hid (show fitB L p (valI (BM.getW ws) N n p) = none from by
            have h1 : valI (BM.getW ws) N (0 + 1) p = none := by rw [valI_step HTw.out, if_pos rfl, if_neg c]
            rw [valI_none h1 n (by omega)]; rfl)
          have HGg := Lib.hid (eb_trans HV.out.f hg2)
          clear hg2 h2
          go_wp2_with fail
          rw [E.out]
          exact ⟨rfl, HGg.out, ⟨_, _, rfl⟩⟩
      · rw [if_neg hk0]
        have hki : ¬ (k : Int) = 0 := by omega
        have hkb : ((k : Int) == 0) = false := by rw [beq_eq_false_iff_ne]; exact hki
        have hkd : decide ((k : Int) = 0) = false := decide_eq_false hki
        have x0 := HV.out.x.c0
        have x1 := HV.out.x.c1
        obtain ⟨la, hla1⟩ : ∃ la, xs.getD (k - 1) 0 = la := ⟨_, rfl⟩
        rw [hla1]
        have HLA := Lib.hid hla1
        clear hla1
        go_wp2_with fail
        refine (C.out _ q b z HV.out.k hqN hbz).mono ?_
        rintro e w2 h2
        cases hr : stepI (BM.getW ws) N q b z with
        | none =>
          obtain ⟨⟨u, pv, rfl⟩, hg2⟩ := h2.none' (by rw [hr]; rfl)
          have E := Lib.hid (show fitB L p (valI (BM.getW ws) N n p) = none from by
            have h1 : valI (BM.getW ws) N (k + 1) p = none := by rw [valI_step HTw.out, if_neg hk0, hr]
            rw [valI_none h1 n (by omega)]; rfl)
          have HGg := Lib.hid (eb_trans HV.out.f hg2)
          clear hg2 h2 hr
          go_wp2_with fail
          rw [E.out]
          exact ⟨rfl, HGg.out, ⟨_, _, rfl⟩⟩
        | some s =>
          obtain ⟨x, q2, b2, z2⟩ := s
          obtain ⟨rfl, hk2, hg2⟩ := h2.some' (v := .tuple #[.int .i64 x, .agg #[.int .i64 (b2 : Int), .int .i64 (z2 : Int)]]) (q := q2) (by rw [hr]; rfl)
          have HV2 := Lib.hid (HV.out.took hk2 hg2)
          have hn1 := Lib.hid (show valI (BM.getW ws) N (k + 1) p = some (xs ++ [bits .xor .i64 la x], q2, b2, z2) from by
            rw [valI_step HTw.out, if_neg hk0, hr, HLA.out])
          obtain ⟨Y, hY⟩ : ∃ Y, Y = bits .xor .i64 la x := ⟨_, rfl⟩
          have hl1 : (xs ++ [Y]).getD k 0 = Y := by rw [getD_snoc, hlen, if_neg (by omega), if_pos rfl]
          rw [← hY] at hn1
          have hxr : bits .xor .i64 la x = Y := hY.symm
          have HL1 := Lib.hid hl1
          clear hY h2 hk2 hg2 HV hr hl1 x0 x1
          have x0 := HV2.out.x.c0
          have x1 := HV2.out.x.c1
          have f0 := HV2.out.x.f 0
          have f1 := HV2.out.x.f 1
          have HV3 := Lib.hid (HV2.out.set (b' := b2) (z' := z2))
          have hsz2 : w.heap.size + 1 ≤ w2.heap.size := by have := HV2.out.x.lt; omega
          go_wp2_with (at_builtin; refine wpList_append_own _ rfl _ _ 94 rfl (w.heap.size + 1) 2 i0 (.int .i64 0) 1 8 Tryd.underlying94 hi hz0 hz1 hz2 rfl (by decide) _ _ _ rfl (HV3.out.o.alloc _) ⟨w2.heap.size, 0, none⟩ 1 1 [.int .i64 Y] rfl rfl ?c1 ?c2 ?c3 ?c4 ?c5 ?_)
          case c1 =>
            have h9 := cell_one_new ((w2.setCell ⟨w.heap.size, 0, none⟩ (.int .i64 (b2 : Int))).setCell ⟨w.heap.size, 1, none⟩ (.int .i64 (z2 : Int))) (.int .i64 Y) 2
            simpa using h9
          case c2 => first | rfl | (intro q hq; simp at hq; subst hq; rfl)
          case c3 => unfold maxLen; omega
          case c4 => omega
          case c5 => simp; omega
          intro v' w4 hown' hgrow _
          have HV4 := Lib.hid (HV3.out.app (y := Y) (by rw [hlen]; exact hown') hgrow)
          clear hown' hgrow HV2 HV3 x0 x1 f0 f1
          go_wp2_with fail
          go_roundw
          case rel => exact ⟨k + 1, _, _, _, _, by omega, by go_num, hn1, by rw [if_neg (by omega)]; exact congrArg _ HL1.out.symm, HV4⟩
          case measure => simp [intOf]; omega
    · obtain rfl : k = n := by omega
      have hW := HG.out
      have HLn := Lib.hid hlen
      have hpq := hW.pq
      have HRng := Lib.hid hW.rng
      clear hW
      generalize (if k = 0 then (0 : Int) else xs.getD (k - 1) 0) = la
      obtain ⟨wa, hwa⟩ : ∃ wa, wr.alloc (.cells (baCells zeroWs 0) 113) = wa := ⟨_, rfl⟩
      have hba : Below wr.heap.size wr wa := by rw [← hwa]; exact (Below.refl _ _).alloc (Nat.le_refl _) _
      have hA : BaBlk wa wr.heap.size zeroWs ((([] : List Bool).length : Nat) : Int) := by rw [← hwa]; exact heap_alloc_new wr _
      have HVa := Lib.hid (HV.out.below hba)
      have hca := HV.out.k.at' HWd.out.l
      have hgr := HV.out.k.lt
      have hLq : p + (q - p) ≤ L.length := by omega
      have h20 := HWd.out.n
      have HPP := Lib.hid (fun W h1 h2 => putPartR_any (N : Int) (q : Int) wr.heap.size g zeroWs ws [] L p (q - p) W h1 h2 (by omega) BM.words_zero HLw.out hLq (by simp; omega))
      have hqp : IntKind.i64.wrap ((q : Int) - (p : Int)) = ((q - p : Nat) : Int) := by rw [u_i64_wrap]; unfold wrap64; omega
      have hqw : wrap64 ((q : Int) - (p : Int)) = ((q - p : Nat) : Int) := by unfold wrap64; omega
      have HA := Lib.hid hA
      have HWA := Lib.hid hwa
      have HBa := Lib.hid hba
      clear hA hwa hba
      go_wp2_with (first
        | (with_reducible refine wl_alloc_ba ?_))
      go_region_law (first
        | (go_simp; go_at_call 103; (refine (HPP.out _ (by have h9 := HA.out; rw [← HWA.out] at h9; exact h9) (by have h9 := HVa.out.k; rw [← HWA.out] at h9; exact h9)).mono ?_); rintro e w2 ⟨rfl, ws2, hb2, hw2, hg2⟩))
      all_goals
        have HV2 := Lib.hid (HVa.out.aside (show wa.grownBy w2 (some wr.heap.size) from by rw [← HWA.out]; exact ⟨hg2.os, hg2.tape, hg2.output, hg2.size, hg2.block⟩) (by have := HV.out.x.lt; omega) (fun c hc => (HV.out.o.lt c hc).2))
        rw [List.nil_append] at hb2 hw2
        have HB2 := Lib.hid hb2
        have HW2 := Lib.hid hw2
        clear hb2 hw2 hg2
        have HIL := Lib.hid (IL.of_own HV2.out.o rfl HRng.out (by omega))
        have HVB := Lib.hid (fun W h hT => implValuesBits_good u6 xs W h (by omega) hT (BM.pack (valTo xs xs.length).1) (valTo xs xs.length).1.length (Lib.hid ⟨rfl, rfl⟩))
        unfold BPostV at HVB
        have HPk := Lib.hid (fun W h => packed_any wr.heap.size ws2 ((L.drop p).take (q - p)) W h HW2.out)
        have HFit : Hid (fitB L p (valI (BM.getW ws) N k p) = if (valTo xs xs.length).1 = (L.drop p).take (q - p) then some (xs, q) else none) := Lib.hid (by rw [HTw.out]; rfl)
        have HDec := Lib.hid (pack_dec (valTo xs xs.length).1 ((L.drop p).take (q - p)))
        generalize (valTo xs xs.length).1 = VB at *
        generalize (L.drop p).take (q - p) = PB at *
        have hbl : wr.heap.size < w2.heap.size := heap_lt HB2.out
        generalize hRV : (⟨(BM.pack VB).toArray⟩ : ByteArray) = RV at *
        generalize hRP : (⟨(BM.pack PB).toArray⟩ : ByteArray) = RP at *
        go_wp2_with fail
        refine (HVB.out _ HIL.out (HT.out _ HV2.out.f)).mono ?_
        rintro e w3 ⟨rfl, hb3⟩
        have HV3 := Lib.hid (HV2.out.below hb3)
        have HB3 : Hid (BaBlk w3 wr.heap.size ws2 (PB.length : Int)) := Lib.hid ((hb3.block _ hbl).trans HB2.out)
        have hbl3 : wr.heap.size < w3.heap.size := heap_lt HB3.out
        clear hb3 HV2 HB2 HIL
        go_wp2_with fail
        obtain ⟨w4, hw4⟩ : ∃ w4, w3.alloc (.cells #[.string RV, .int .i64 (VB.length : Int)] 77) = w4 := ⟨_, rfl⟩
        have hb4 : Below w3.heap.size w3 w4 := by rw [← hw4]; exact (Below.refl _ _).alloc (Nat.le_refl _) _
        have HX4 : Hid (RB w4 w3.heap.size RV (VB.length : Int)) := Lib.hid (by rw [← hw4]; exact heap_alloc_new w3 _)
        have HV4 := Lib.hid (HV3.out.below hb4)
        have HB4 : Hid (BaBlk w4.drew wr.heap.size ws2 (PB.length : Int)) := Lib.hid ((hb4.block _ hbl3).trans HB3.out)
        have HV5 := Lib.hid (HV4.out.below (Below.refl w4.heap.size w4).drew)
        have HX5 : Hid (RB w4.drew w3.heap.size RV (VB.length : Int)) := Lib.hid HX4.out
        have x0 := HX4.out.c0
        have x1 := HX4.out.c1
        rw [hw4]
        clear hw4 hb4 HV3 HB3 HVB hca
        have hcase : (VB = PB ∧ RV = RP) ∨ (¬ VB = PB ∧ ¬ RV.toList = RP.toList) ∨ (¬ VB = PB ∧ RV = RP ∧ ¬ (VB.length : Int) = (PB.length : Int)) := by
          by_cases hE : VB = PB
          · exact .inl ⟨hE, (HDec.out.1 hE).1⟩
          · by_cases hR : RV = RP
            · exact .inr (.inr ⟨hE, hR, fun hl => hE (HDec.out.2 ⟨hR, by omega⟩)⟩)
            · exact .inr (.inl ⟨hE, fun hl => hR (by rw [ByteArray.toList_eq, ByteArray.toList_eq] at hl; apply ByteArray.ext; apply Array.ext'; exact hl)⟩)
        clear HDec hRV hRP
        rcases hcase with ⟨hE, hR⟩ | ⟨hE, hR⟩ | ⟨hE, hR, hl⟩
        · subst hE
          subst hR
          go_region_law (first
            | (go_simp; go_at_call 100; (refine (HPk.out _ HB4.out).mono ?_); rintro e w7 ⟨rfl, hb7⟩; have hr7 := HX5.out.below hb7; have y0 := hr7.c0; have y1 := hr7.c1; clear hr7))
          all_goals
            have HV7 := Lib.hid (HV5.out.below hb7)
            clear hb7 x0 x1 y0 y1
            go_wp2_with fail
            go_ret
            rw [HFit.out, if_pos (by first | rfl | trivial)]
            exact ⟨HV7.out.f, _, rfl, u_ownsRow_base HV7.out.o (by omega), HV7.out.k, HRng.out, by omega⟩
        · have HNE := Lib.hid hE
          clear hE
          go_region_law (first
            | (go_simp; go_at_call 100; (refine (HPk.out _ HB4.out).mono ?_); rintro e w7 ⟨rfl, hb7⟩; have hr7 := HX5.out.below hb7; have y0 := hr7.c0; have y1 := hr7.c1; clear hr7))
          all_goals
            have HV7 := Lib.hid (HV5.out.below hb7)
            clear hb7 x0 x1 y0 y1
            go_wp2_with fail
            refine (HF.out _).mono ?_
            rintro e w8 ⟨⟨u, pv, rfl⟩, rfl⟩
            go_wp2_with fail
            rw [HFit.out, if_neg HNE.out]
            exact ⟨rfl, HV7.out.f, ⟨_, _, rfl⟩⟩
        · have HNE := Lib.hid hE
          subst hR
          clear hE
          go_region_law (first
            | (go_simp; go_at_call 100; (refine (HPk.out _ HB4.out).mono ?_); rintro e w7 ⟨rfl, hb7⟩; have hr7 := HX5.out.below hb7; have y0 := hr7.c0; have y1 := hr7.c1; clear hr7))
          all_goals
            have HV7 := Lib.hid (HV5.out.below hb7)
            clear hb7 x0 x1 y0 y1
            go_wp2_with fail
            refine (HF.out _).mono ?_
            rintro e w8 ⟨⟨u, pv, rfl⟩, rfl⟩
            go_wp2_with fail
            rw [HFit.out, if_neg HNE.out]
            exact ⟨rfl, HV7.out.f, ⟨_, _, rfl⟩⟩
end Go.Proofs.YtanoohfhifhhaaaDoor
