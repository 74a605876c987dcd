/- Walks: the program's reader of bits: a code's get. -/
import Derived.Test.YtanoohfhifhhaaaDoorHb
import Derived.RegionDies
set_option linter.unusedVariables false
set_option linter.unusedSimpArgs false
namespace Go.Proofs.YtanoohfhifhhaaaDoor
open Go.RowKit

theorem RK.drew {w : World} {g : Nat} {ws : List Nat} {N p : Int} (h : RK w g ws N p) : RK w.drew g ws N p := h
theorem grown_drew1 {a b : World} {r : Option Nat} (h : a.grownBy b r) : a.grownBy b.drew r := ⟨h.os, h.tape, h.output, h.size, h.block⟩
def offR (ws : List Nat) (N p B : Nat) (o : Int) : Option (Value × Nat) := if p + B ≤ N then some (.int .i64 ((BM.getW ws p B : Int) - o), p + B) else none
set_option maxRecDepth 100000 in
set_option maxHeartbeats 1000000 in
theorem getClos_any (pb po g B : Nat) (o : Int) (ws : List Nat) (N p : Nat) (w : World) (h5 : w.heap[pb]? = some (.cells #[.int .i64 (B : Int)] 2 (0, 0))) (h6 : w.heap[po]? = some (.cells #[.int .i64 o] 2 (0, 0)))
    (h : RK w g ws (N : Int) (p : Int)) (hw : RdW ws N) (hB : B ≤ 42) (hp : p ≤ N) (ho : 0 ≤ o) (ho2 : o ≤ 4398046511104) :
    Calls Tryd.prog 127 #[.pointer (some ⟨g, 0, none⟩), .pointer (some ⟨pb, 0, none⟩), .pointer (some ⟨po, 0, none⟩)] w (RdOut g ws N (offR ws N p B o) w) := by
  have c5 : w.cell? ⟨pb, 0, none⟩ = some (.int .i64 (B : Int)) := by rw [cell_of_row w pb 0 _ _ _ h5]; rfl
  have c6 : w.cell? ⟨po, 0, none⟩ = some (.int .i64 o) := by rw [cell_of_row w po 0 _ _ _ h6]; rfl
  have hpo := heap_lt h6
  have hne : po ≠ g := by
    intro he
    subst he
    unfold RK at h
    rw [h] at h6
    injection h6 with h6
    injection h6 with h6 _ _
    have := congrArg Array.size h6
    simp [rdCells, hw.l] at this
  have H6 := Lib.hid h6
  have hv := hw.v p B (by omega)
  have hv2 : (2 : Nat) ^ B ≤ 2 ^ 42 := Nat.pow_le_pow_right (by omega) hB
  have Ho := fun (W : World) (k : w.grownBy W (some g)) => show W.cell? ⟨po, 0, none⟩ = some (.int .i64 o) by
    rw [cell_of_row W po 0 _ _ _ ((k.block po hpo (by intro he; injection he with he; exact hne he)).trans H6.out)]; rfl
  have hV : BM.getW ws p B < 4398046511104 := by
    have : (2 : Nat) ^ 42 = 4398046511104 := by decide
    omega
  unfold offR
  by_cases hc : p + B ≤ N
  · rw [if_pos hc]
    have T := Lib.hid (fun (W : World) (hk : RK W g ws (N : Int) (p : Int)) (hG : w.grownBy W (some g)) => (take_any g ws N p B W hk hw (by omega) hp).mono (R' := fun e w' => e = .returned (.int .u64 (BM.getW ws p B : Int)) ∧ RK w' g ws (N : Int) ((p + B : Nat) : Int) ∧ w.grownBy w' (some g) ∧ w'.cell? ⟨po, 0, none⟩ = some (.int .i64 o)) (fun e w' q => by
      have q' := q.some' (by unfold takeR; rw [if_pos hc])
      exact ⟨q'.1, q'.2.1, grown_trans hG q'.2.2, Ho _ (grown_trans hG q'.2.2)⟩))
    have HK := Lib.hid h
    clear h h5 h6 hw hv hv2 H6 hpo Ho hc
    generalize BM.getW ws p B = V at *
    have hiv : IntKind.i64.wrap (V : Int) = (V : Int) := IntWalk.i64_in _ (by omega)
    go_enter Tryd.func127, Tryd.ntmps127
    go_wp2_with fail
    go_region_law (first
      | (go_simp; go_at_call 113; (refine (T.out _ (by first | exact HK.out | exact HK.out.drew) (by first | exact grownBy_rfl w _ | exact grown_drew1 (grownBy_rfl w _))).mono ?_); rintro e w3 ⟨rfl, hk3, hg3, c63⟩; have HK3 := Lib.hid hk3; have HG3 := Lib.hid hg3; clear hk3 hg3))
    all_goals
      go_simp
      go_wp2_with fail
      go_ret
      exact ⟨by first | exact HG3.out | exact grown_drewN HG3.out _, ret_int (IntWalk.i64_in _ (by omega)), HK3.out⟩
  · rw [if_neg hc]
    have T := Lib.hid (fun (W : World) (hk : RK W g ws (N : Int) (p : Int)) (hG : w.grownBy W (some g)) => (take_any g ws N p B W hk hw (by omega) hp).mono (R' := fun e w' => Cry e ∧ w.grownBy w' (some g)) (fun e w' q => by
      have q' := q.none' (by unfold takeR; rw [if_neg hc])
      exact ⟨q'.1, grown_trans hG q'.2⟩))
    have HK := Lib.hid h
    clear h h5 h6 hw hv hv2 H6 hpo Ho hc hV
    go_enter Tryd.func127, Tryd.ntmps127
    go_wp2_with fail
    go_region_dies
    all_goals
      refine (T.out _ (by first | exact HK.out | exact HK.out.drew) (by first | exact grownBy_rfl w _ | exact grown_drew1 (grownBy_rfl w _))).mono ?_
      rintro e w3 ⟨⟨u, pv, rfl⟩, hg3⟩
      exact ⟨rfl, hg3, ⟨_, _, rfl⟩⟩
end Go.Proofs.YtanoohfhifhhaaaDoor

/- Walks: the program's reader of bits: the codes' get. -/
set_option linter.unusedVariables false
set_option linter.unusedSimpArgs false
namespace Go.Proofs.YtanoohfhifhhaaaDoor
open Go.RowKit

def bitsI : Nat → Nat
  | 0 => 0 | 1 => 7 | 2 => 9 | 3 => 12 | _ => 42
def offI : Nat → Int
  | 0 => 0 | 1 => 63 | 2 => 255 | 3 => 2047 | _ => 2199023255552
/-- what the codes' get reads -/
def getR (ws : List Nat) (N p : Nat) : Option (Int × Nat) :=
  match onesR ws N 4 0 p with
  | none => none
  | some (i, q) =>
    if q + bitsI i ≤ N then
      (if (codeB ((BM.getW ws q (bitsI i) : Int) - offI i)).length = q + bitsI i - p then some ((BM.getW ws q (bitsI i) : Int) - offI i, q + bitsI i) else none)
    else none
def i64R : Option (Int × Nat) → Option (Value × Nat)
  | some (d, q) => some (.int .i64 d, q)
  | none => none
theorem onesR_le (ws : List Nat) (N : Nat) : ∀ (k i p : Nat) (j q : Nat), onesR ws N k i p = some (j, q) → p ≤ N → j ≤ i + k ∧ p ≤ q ∧ q ≤ N ∧ q ≤ p + k := by
  intro k
  induction k with
  | zero => intro i p j q h hp; simp [onesR] at h; omega
  | succ k ih =>
    intro i p j q h hp
    simp only [onesR] at h
    split at h
    · rename_i hc
      split at h
      · simp at h; omega
      · have := ih _ _ _ _ h hc; omega
    · simp at h
theorem CodesAt.grown {W W' : World} {gc g : Nat} (p : CodesAt W gc) {cs : Array Value} {ty : TypeId} (hg : W.heap[g]? = some (.cells cs ty (0, 0))) (h1 : cs.size ≠ 1) (h2 : gc ≠ g) (k : W.grownBy W' (some g)) : CodesAt W' gc := by
  obtain ⟨a0, b0, a1, b1, a2, b2, a3, b3, a4, b4, h, c0, c1, c2, c3, c4⟩ := p
  have hr : ∀ g', some g = some g' → ∀ c ty', W.heap[g']? = some (.cells c ty' (0, 0)) → c.size ≠ 1 := by
    intro g' he c ty' hh
    injection he with he
    subst he
    rw [hg] at hh
    injection hh with hh
    injection hh with hh _ _
    rw [← hh]; exact h1
  exact ⟨a0, b0, a1, b1, a2, b2, a3, b3, a4, b4, (k.block gc (heap_lt h) (by intro he; injection he with he; exact h2 he)).trans h, c0.grown k hr, c1.grown k hr, c2.grown k hr, c3.grown k hr, c4.grown k hr⟩
theorem RK.size {w : World} {g : Nat} {ws : List Nat} {N p : Int} (hl : ws.length = 313) : (rdCells ws N p).size ≠ 1 := by simp [rdCells, hl]

set_option maxRecDepth 100000 in
set_option maxHeartbeats 1000000 in
theorem codesGet_cry (gc g : Nat) (ws : List Nat) (N p : Nat) (w : World) (h : RK w g ws (N : Int) (p : Int)) (hw : RdW ws N) (hp : p ≤ N) (hr : onesR ws N 4 0 p = none) :
    Calls Tryd.prog 114 #[.pointer (some ⟨gc, 0, none⟩), .pointer (some ⟨g, 0, none⟩)] w (RdOut g ws N none w) := by
  have ca := h.at' hw.l
  have T := Lib.hid (fun (W : World) (hk : RK W g ws (N : Int) (p : Int)) (hG : w.grownBy W (some g)) => (ones_any g ws N p W hk hw hp).mono (R' := fun e w' => Cry e ∧ w.grownBy w' (some g)) (fun e w' q => by
    have q' := q.none' (by rw [hr]; rfl)
    exact ⟨q'.1, grown_trans hG q'.2⟩))
  have HK := Lib.hid h
  clear h hw hp hr
  go_enter Tryd.func114, Tryd.ntmps114
  go_wp2_with fail
  go_region_dies
  all_goals
    refine (T.out _ (by first | exact HK.out | exact HK.out.drew) (by first | exact grownBy_rfl w _ | exact grown_drew1 (grownBy_rfl w _))).mono ?_
    rintro e w3 ⟨⟨u, pv, rfl⟩, hg3⟩
    exact ⟨rfl, hg3, ⟨_, _, rfl⟩⟩
theorem ne_of_size {W : World} {a b : Nat} {cs cs' : Array Value} {ty ty' : TypeId} (h : W.heap[a]? = some (.cells cs ty (0, 0))) (h' : W.heap[b]? = some (.cells cs' ty' (0, 0))) (hs : cs.size ≠ cs'.size) : a ≠ b := by
  intro he
  subst he
  rw [h] at h'
  injection h' with h'
  injection h' with h' _ _
  exact hs (congrArg Array.size h')
theorem rdCells_size {ws : List Nat} {N p : Int} (hl : ws.length = 313) : (rdCells ws N p).size = 315 := by simp [rdCells, hl]
set_option maxRecDepth 100000 in
set_option maxHeartbeats 2000000 in
theorem codesGet_no0 (gc g : Nat) (ws : List Nat) (N p q : Nat) (w : World) (hcs : CodesAt w gc) (h : RK w g ws (N : Int) (p : Int)) (hw : RdW ws N) (hp : p ≤ N) (hr : onesR ws N 4 0 p = some (0, q)) (hc : ¬ q + 0 ≤ N) :
    Calls Tryd.prog 114 #[.pointer (some ⟨gc, 0, none⟩), .pointer (some ⟨g, 0, none⟩)] w (RdOut g ws N none w) := by
  obtain ⟨ph0, pq0, pb0, po0, ph1, pq1, pb1, po1, ph2, pq2, pb2, po2, ph3, pq3, pb3, po3, ph4, pq4, pb4, po4, hv⟩ := hcs.named
  have ca := h.at' hw.l
  have hqN : q ≤ N := (onesR_le ws N 4 0 p 0 q hr hp).2.2.1
  have hgc := ne_of_size hv.hc h (by rw [rdCells_size hw.l]; simp)
  have hpb := ne_of_size hv.p0.h5 h (by rw [rdCells_size hw.l]; simp)
  have hpo := ne_of_size hv.p0.h6 h (by rw [rdCells_size hw.l]; simp)
  have keep := fun (W : World) (k : w.grownBy W (some g)) => show W.cell? ⟨gc, 1, none⟩ = w.cell? ⟨gc, 1, none⟩ ∧ W.heap[pb0]? = w.heap[pb0]? ∧ W.heap[po0]? = w.heap[po0]? from
    have e := k.block gc (heap_lt hv.hc) (by intro he; injection he with he; exact hgc he)
    ⟨by rw [cell_of_row w gc 1 _ _ _ hv.hc, cell_of_row W gc 1 _ _ _ (e.trans hv.hc)], k.block pb0 (heap_lt hv.p0.h5) (by intro he; injection he with he; exact hpb he), k.block po0 (heap_lt hv.p0.h6) (by intro he; injection he with he; exact hpo he)⟩
  have T := Lib.hid (fun (W : World) (hk : RK W g ws (N : Int) (p : Int)) (hG : w.grownBy W (some g)) => (ones_any g ws N p W hk hw hp).mono (R' := fun e w' => e = .returned (.int .i64 0) ∧ RK w' g ws (N : Int) (q : Int) ∧ w.grownBy w' (some g) ∧ w'.cell? ⟨gc, 1, none⟩ = some (.func (.func 127) #[] #[.pointer (some ⟨pb0, 0, none⟩), .pointer (some ⟨po0, 0, none⟩)])) (fun e w' x => by
    have x' := x.some' (v := .int .i64 0) (q := q) (by rw [hr]; rfl)
    exact ⟨x'.1, x'.2.1, grown_trans hG x'.2.2, ((keep _ (grown_trans hG x'.2.2)).1).trans hv.b0⟩))
  have T2 := Lib.hid (fun (W : World) (hk : RK W g ws (N : Int) (q : Int)) (hG : w.grownBy W (some g)) => (getClos_any pb0 po0 g 0 0 ws N q W ((keep W hG).2.1.trans hv.p0.h5) ((keep W hG).2.2.trans hv.p0.h6) hk hw (by omega) hqN (by omega) (by omega)).mono (R' := fun e w' => Cry e ∧ w.grownBy w' (some g)) (fun e w' x => by
    have x' := x.none' (by unfold offR; rw [if_neg hc])
    exact ⟨x'.1, grown_trans hG x'.2⟩))
  have HK := Lib.hid h
  clear h hw hp hr hcs hv hpb hpo keep hgc hc hqN
  go_enter Tryd.func114, Tryd.ntmps114
  go_wp2_with fail
  go_region_dies
  all_goals
    refine (T.out _ (by first | exact HK.out | exact HK.out.drew) (by first | exact grownBy_rfl w _ | exact grown_drew1 (grownBy_rfl w _))).mono ?_
    rintro e w3 ⟨rfl, hk3, hg3, cx⟩
    have HK3 := Lib.hid hk3
    have HG3 := Lib.hid hg3
    clear hk3 hg3 ca
    rename_i K1 hK1
    refine hK1 _ _ ?_
    clear hK1 K1
    refine wpAny_ready (rs := [4]) (by kernel_rfl) (by simp) ?_
    refine AllReady.cons rfl (fun K hK => ?_) AllReady.nil
    go_simp
    refine hK _ _ ?_
    clear hK K
    refine wpAny_ready (rs := [5]) (by kernel_rfl) (by simp) ?_
    refine AllReady.cons rfl (fun K hK => ?_) AllReady.nil
    go_simp
    refine hK _ _ ?_
    clear hK K
    refine wpAny_ready (rs := [6]) (by kernel_rfl) (by simp) ?_
    refine AllReady.cons rfl (fun K hK => ?_) AllReady.nil
    go_simp
    refine hK _ _ ?_
    clear hK K
    refine wpAny_ready (rs := [8]) (by kernel_rfl) (by simp) ?_
    refine AllReady.cons rfl (fun K hK => ?_) AllReady.nil
    go_simp
    go_at_call 127
    refine (T2.out _ HK3.out HG3.out).mono ?_
    rintro e w4 ⟨⟨u, pv, rfl⟩, hg4⟩
    exact ⟨rfl, hg4, ⟨_, _, rfl⟩⟩
set_option maxRecDepth 100000 in
set_option maxHeartbeats 2000000 in
theorem codesGet_no1 (gc g : Nat) (ws : List Nat) (N p q : Nat) (w : World) (hcs : CodesAt w gc) (h : RK w g ws (N : Int) (p : Int)) (hw : RdW ws N) (hp : p ≤ N) (hr : onesR ws N 4 0 p = some (1, q)) (hc : ¬ q + 7 ≤ N) :
    Calls Tryd.prog 114 #[.pointer (some ⟨gc, 0, none⟩), .pointer (some ⟨g, 0, none⟩)] w (RdOut g ws N none w) := by
  obtain ⟨ph0, pq0, pb0, po0, ph1, pq1, pb1, po1, ph2, pq2, pb2, po2, ph3, pq3, pb3, po3, ph4, pq4, pb4, po4, hv⟩ := hcs.named
  have ca := h.at' hw.l
  have hqN : q ≤ N := (onesR_le ws N 4 0 p 1 q hr hp).2.2.1
  have hgc := ne_of_size hv.hc h (by rw [rdCells_size hw.l]; simp)
  have hpb := ne_of_size hv.p1.h5 h (by rw [rdCells_size hw.l]; simp)
  have hpo := ne_of_size hv.p1.h6 h (by rw [rdCells_size hw.l]; simp)
  have keep := fun (W : World) (k : w.grownBy W (some g)) => show W.cell? ⟨gc, 3, none⟩ = w.cell? ⟨gc, 3, none⟩ ∧ W.heap[pb1]? = w.heap[pb1]? ∧ W.heap[po1]? = w.heap[po1]? from
    have e := k.block gc (heap_lt hv.hc) (by intro he; injection he with he; exact hgc he)
    ⟨by rw [cell_of_row w gc 3 _ _ _ hv.hc, cell_of_row W gc 3 _ _ _ (e.trans hv.hc)], k.block pb1 (heap_lt hv.p1.h5) (by intro he; injection he with he; exact hpb he), k.block po1 (heap_lt hv.p1.h6) (by intro he; injection he with he; exact hpo he)⟩
  have T := Lib.hid (fun (W : World) (hk : RK W g ws (N : Int) (p : Int)) (hG : w.grownBy W (some g)) => (ones_any g ws N p W hk hw hp).mono (R' := fun e w' => e = .returned (.int .i64 1) ∧ RK w' g ws (N : Int) (q : Int) ∧ w.grownBy w' (some g) ∧ w'.cell? ⟨gc, 3, none⟩ = some (.func (.func 127) #[] #[.pointer (some ⟨pb1, 0, none⟩), .pointer (some ⟨po1, 0, none⟩)])) (fun e w' x => by
    have x' := x.some' (v := .int .i64 1) (q := q) (by rw [hr]; rfl)
    exact ⟨x'.1, x'.2.1, grown_trans hG x'.2.2, ((keep _ (grown_trans hG x'.2.2)).1).trans hv.b1⟩))
  have T2 := Lib.hid (fun (W : World) (hk : RK W g ws (N : Int) (q : Int)) (hG : w.grownBy W (some g)) => (getClos_any pb1 po1 g 7 63 ws N q W ((keep W hG).2.1.trans hv.p1.h5) ((keep W hG).2.2.trans hv.p1.h6) hk hw (by omega) hqN (by omega) (by omega)).mono (R' := fun e w' => Cry e ∧ w.grownBy w' (some g)) (fun e w' x => by
    have x' := x.none' (by unfold offR; rw [if_neg hc])
    exact ⟨x'.1, grown_trans hG x'.2⟩))
  have HK := Lib.hid h
  clear h hw hp hr hcs hv hpb hpo keep hgc hc hqN
  go_enter Tryd.func114, Tryd.ntmps114
  go_wp2_with fail
  go_region_dies
  all_goals
    refine (T.out _ (by first | exact HK.out | exact HK.out.drew) (by first | exact grownBy_rfl w _ | exact grown_drew1 (grownBy_rfl w _))).mono ?_
    rintro e w3 ⟨rfl, hk3, hg3, cx⟩
    have HK3 := Lib.hid hk3
    have HG3 := Lib.hid hg3
    clear hk3 hg3 ca
    rename_i K1 hK1
    refine hK1 _ _ ?_
    clear hK1 K1
    refine wpAny_ready (rs := [4]) (by kernel_rfl) (by simp) ?_
    refine AllReady.cons rfl (fun K hK => ?_) AllReady.nil
    go_simp
    refine hK _ _ ?_
    clear hK K
    refine wpAny_ready (rs := [5]) (by kernel_rfl) (by simp) ?_
    refine AllReady.cons rfl (fun K hK => ?_) AllReady.nil
    go_simp
    refine hK _ _ ?_
    clear hK K
    refine wpAny_ready (rs := [6]) (by kernel_rfl) (by simp) ?_
    refine AllReady.cons rfl (fun K hK => ?_) AllReady.nil
    go_simp
    refine hK _ _ ?_
    clear hK K
    refine wpAny_ready (rs := [8]) (by kernel_rfl) (by simp) ?_
    refine AllReady.cons rfl (fun K hK => ?_) AllReady.nil
    go_simp
    go_at_call 127
    refine (T2.out _ HK3.out HG3.out).mono ?_
    rintro e w4 ⟨⟨u, pv, rfl⟩, hg4⟩
    exact ⟨rfl, hg4, ⟨_, _, rfl⟩⟩
set_option maxRecDepth 100000 in
set_option maxHeartbeats 2000000 in
theorem codesGet_no2 (gc g : Nat) (ws : List Nat) (N p q : Nat) (w : World) (hcs : CodesAt w gc) (h : RK w g ws (N : Int) (p : Int)) (hw : RdW ws N) (hp : p ≤ N) (hr : onesR ws N 4 0 p = some (2, q)) (hc : ¬ q + 9 ≤ N) :
    Calls Tryd.prog 114 #[.pointer (some ⟨gc, 0, none⟩), .pointer (some ⟨g, 0, none⟩)] w (RdOut g ws N none w) := by
  obtain ⟨ph0, pq0, pb0, po0, ph1, pq1, pb1, po1, ph2, pq2, pb2, po2, ph3, pq3, pb3, po3, ph4, pq4, pb4, po4, hv⟩ := hcs.named
  have ca := h.at' hw.l
  have hqN : q ≤ N := (onesR_le ws N 4 0 p 2 q hr hp).2.2.1
  have hgc := ne_of_size hv.hc h (by rw [rdCells_size hw.l]; simp)
  have hpb := ne_of_size hv.p2.h5 h (by rw [rdCells_size hw.l]; simp)
  have hpo := ne_of_size hv.p2.h6 h (by rw [rdCells_size hw.l]; simp)
  have keep := fun (W : World) (k : w.grownBy W (some g)) => show W.cell? ⟨gc, 5, none⟩ = w.cell? ⟨gc, 5, none⟩ ∧ W.heap[pb2]? = w.heap[pb2]? ∧ W.heap[po2]? = w.heap[po2]? from
    have e := k.block gc (heap_lt hv.hc) (by intro he; injection he with he; exact hgc he)
    ⟨by rw [cell_of_row w gc 5 _ _ _ hv.hc, cell_of_row W gc 5 _ _ _ (e.trans hv.hc)], k.block pb2 (heap_lt hv.p2.h5) (by intro he; injection he with he; exact hpb he), k.block po2 (heap_lt hv.p2.h6) (by intro he; injection he with he; exact hpo he)⟩
  have T := Lib.hid (fun (W : World) (hk : RK W g ws (N : Int) (p : Int)) (hG : w.grownBy W (some g)) => (ones_any g ws N p W hk hw hp).mono (R' := fun e w' => e = .returned (.int .i64 2) ∧ RK w' g ws (N : Int) (q : Int) ∧ w.grownBy w' (some g) ∧ w'.cell? ⟨gc, 5, none⟩ = some (.func (.func 127) #[] #[.pointer (some ⟨pb2, 0, none⟩), .pointer (some ⟨po2, 0, none⟩)])) (fun e w' x => by
    have x' := x.some' (v := .int .i64 2) (q := q) (by rw [hr]; rfl)
    exact ⟨x'.1, x'.2.1, grown_trans hG x'.2.2, ((keep _ (grown_trans hG x'.2.2)).1).trans hv.b2⟩))
  have T2 := Lib.hid (fun (W : World) (hk : RK W g ws (N : Int) (q : Int)) (hG : w.grownBy W (some g)) => (getClos_any pb2 po2 g 9 255 ws N q W ((keep W hG).2.1.trans hv.p2.h5) ((keep W hG).2.2.trans hv.p2.h6) hk hw (by omega) hqN (by omega) (by omega)).mono (R' := fun e w' => Cry e ∧ w.grownBy w' (some g)) (fun e w' x => by
    have x' := x.none' (by unfold offR; rw [if_neg hc])
    exact ⟨x'.1, grown_trans hG x'.2⟩))
  have HK := Lib.hid h
  clear h hw hp hr hcs hv hpb hpo keep hgc hc hqN
  go_enter Tryd.func114, Tryd.ntmps114
  go_wp2_with fail
  go_region_dies
  all_goals
    refine (T.out _ (by first | exact HK.out | exact HK.out.drew) (by first | exact grownBy_rfl w _ | exact grown_drew1 (grownBy_rfl w _))).mono ?_
    rintro e w3 ⟨rfl, hk3, hg3, cx⟩
    have HK3 := Lib.hid hk3
    have HG3 := Lib.hid hg3
    clear hk3 hg3 ca
    rename_i K1 hK1
    refine hK1 _ _ ?_
    clear hK1 K1
    refine wpAny_ready (rs := [4]) (by kernel_rfl) (by simp) ?_
    refine AllReady.cons rfl (fun K hK => ?_) AllReady.nil
    go_simp
    refine hK _ _ ?_
    clear hK K
    refine wpAny_ready (rs := [5]) (by kernel_rfl) (by simp) ?_
    refine AllReady.cons rfl (fun K hK => ?_) AllReady.nil
    go_simp
    refine hK _ _ ?_
    clear hK K
    refine wpAny_ready (rs := [6]) (by kernel_rfl) (by simp) ?_
    refine AllReady.cons rfl (fun K hK => ?_) AllReady.nil
    go_simp
    refine hK _ _ ?_
    clear hK K
    refine wpAny_ready (rs := [8]) (by kernel_rfl) (by simp) ?_
    refine AllReady.cons rfl (fun K hK => ?_) AllReady.nil
    go_simp
    go_at_call 127
    refine (T2.out _ HK3.out HG3.out).mono ?_
    rintro e w4 ⟨⟨u, pv, rfl⟩, hg4⟩
    exact ⟨rfl, hg4, ⟨_, _, rfl⟩⟩
set_option maxRecDepth 100000 in
set_option maxHeartbeats 2000000 in
theorem codesGet_no3 (gc g : Nat) (ws : List Nat) (N p q : Nat) (w : World) (hcs : CodesAt w gc) (h : RK w g ws (N : Int) (p : Int)) (hw : RdW ws N) (hp : p ≤ N) (hr : onesR ws N 4 0 p = some (3, q)) (hc : ¬ q + 12 ≤ N) :
    Calls Tryd.prog 114 #[.pointer (some ⟨gc, 0, none⟩), .pointer (some ⟨g, 0, none⟩)] w (RdOut g ws N none w) := by
  obtain ⟨ph0, pq0, pb0, po0, ph1, pq1, pb1, po1, ph2, pq2, pb2, po2, ph3, pq3, pb3, po3, ph4, pq4, pb4, po4, hv⟩ := hcs.named
  have ca := h.at' hw.l
  have hqN : q ≤ N := (onesR_le ws N 4 0 p 3 q hr hp).2.2.1
  have hgc := ne_of_size hv.hc h (by rw [rdCells_size hw.l]; simp)
  have hpb := ne_of_size hv.p3.h5 h (by rw [rdCells_size hw.l]; simp)
  have hpo := ne_of_size hv.p3.h6 h (by rw [rdCells_size hw.l]; simp)
  have keep := fun (W : World) (k : w.grownBy W (some g)) => show W.cell? ⟨gc, 7, none⟩ = w.cell? ⟨gc, 7, none⟩ ∧ W.heap[pb3]? = w.heap[pb3]? ∧ W.heap[po3]? = w.heap[po3]? from
    have e := k.block gc (heap_lt hv.hc) (by intro he; injection he with he; exact hgc he)
    ⟨by rw [cell_of_row w gc 7 _ _ _ hv.hc, cell_of_row W gc 7 _ _ _ (e.trans hv.hc)], k.block pb3 (heap_lt hv.p3.h5) (by intro he; injection he with he; exact hpb he), k.block po3 (heap_lt hv.p3.h6) (by intro he; injection he with he; exact hpo he)⟩
  have T := Lib.hid (fun (W : World) (hk : RK W g ws (N : Int) (p : Int)) (hG : w.grownBy W (some g)) => (ones_any g ws N p W hk hw hp).mono (R' := fun e w' => e = .returned (.int .i64 3) ∧ RK w' g ws (N : Int) (q : Int) ∧ w.grownBy w' (some g) ∧ w'.cell? ⟨gc, 7, none⟩ = some (.func (.func 127) #[] #[.pointer (some ⟨pb3, 0, none⟩), .pointer (some ⟨po3, 0, none⟩)])) (fun e w' x => by
    have x' := x.some' (v := .int .i64 3) (q := q) (by rw [hr]; rfl)
    exact ⟨x'.1, x'.2.1, grown_trans hG x'.2.2, ((keep _ (grown_trans hG x'.2.2)).1).trans hv.b3⟩))
  have T2 := Lib.hid (fun (W : World) (hk : RK W g ws (N : Int) (q : Int)) (hG : w.grownBy W (some g)) => (getClos_any pb3 po3 g 12 2047 ws N q W ((keep W hG).2.1.trans hv.p3.h5) ((keep W hG).2.2.trans hv.p3.h6) hk hw (by omega) hqN (by omega) (by omega)).mono (R' := fun e w' => Cry e ∧ w.grownBy w' (some g)) (fun e w' x => by
    have x' := x.none' (by unfold offR; rw [if_neg hc])
    exact ⟨x'.1, grown_trans hG x'.2⟩))
  have HK := Lib.hid h
  clear h hw hp hr hcs hv hpb hpo keep hgc hc hqN
  go_enter Tryd.func114, Tryd.ntmps114
  go_wp2_with fail
  go_region_dies
  all_goals
    refine (T.out _ (by first | exact HK.out | exact HK.out.drew) (by first | exact grownBy_rfl w _ | exact grown_drew1 (grownBy_rfl w _))).mono ?_
    rintro e w3 ⟨rfl, hk3, hg3, cx⟩
    have HK3 := Lib.hid hk3
    have HG3 := Lib.hid hg3
    clear hk3 hg3 ca
    rename_i K1 hK1
    refine hK1 _ _ ?_
    clear hK1 K1
    refine wpAny_ready (rs := [4]) (by kernel_rfl) (by simp) ?_
    refine AllReady.cons rfl (fun K hK => ?_) AllReady.nil
    go_simp
    refine hK _ _ ?_
    clear hK K
    refine wpAny_ready (rs := [5]) (by kernel_rfl) (by simp) ?_
    refine AllReady.cons rfl (fun K hK => ?_) AllReady.nil
    go_simp
    refine hK _ _ ?_
    clear hK K
    refine wpAny_ready (rs := [6]) (by kernel_rfl) (by simp) ?_
    refine AllReady.cons rfl (fun K hK => ?_) AllReady.nil
    go_simp
    refine hK _ _ ?_
    clear hK K
    refine wpAny_ready (rs := [8]) (by kernel_rfl) (by simp) ?_
    refine AllReady.cons rfl (fun K hK => ?_) AllReady.nil
    go_simp
    go_at_call 127
    refine (T2.out _ HK3.out HG3.out).mono ?_
    rintro e w4 ⟨⟨u, pv, rfl⟩, hg4⟩
    exact ⟨rfl, hg4, ⟨_, _, rfl⟩⟩
set_option maxRecDepth 100000 in
set_option maxHeartbeats 2000000 in
theorem codesGet_no4 (gc g : Nat) (ws : List Nat) (N p q : Nat) (w : World) (hcs : CodesAt w gc) (h : RK w g ws (N : Int) (p : Int)) (hw : RdW ws N) (hp : p ≤ N) (hr : onesR ws N 4 0 p = some (4, q)) (hc : ¬ q + 42 ≤ N) :
    Calls Tryd.prog 114 #[.pointer (some ⟨gc, 0, none⟩), .pointer (some ⟨g, 0, none⟩)] w (RdOut g ws N none w) := by
  obtain ⟨ph0, pq0, pb0, po0, ph1, pq1, pb1, po1, ph2, pq2, pb2, po2, ph3, pq3, pb3, po3, ph4, pq4, pb4, po4, hv⟩ := hcs.named
  have ca := h.at' hw.l
  have hqN : q ≤ N := (onesR_le ws N 4 0 p 4 q hr hp).2.2.1
  have hgc := ne_of_size hv.hc h (by rw [rdCells_size hw.l]; simp)
  have hpb := ne_of_size hv.p4.h5 h (by rw [rdCells_size hw.l]; simp)
  have hpo := ne_of_size hv.p4.h6 h (by rw [rdCells_size hw.l]; simp)
  have keep := fun (W : World) (k : w.grownBy W (some g)) => show W.cell? ⟨gc, 9, none⟩ = w.cell? ⟨gc, 9, none⟩ ∧ W.heap[pb4]? = w.heap[pb4]? ∧ W.heap[po4]? = w.heap[po4]? from
    have e := k.block gc (heap_lt hv.hc) (by intro he; injection he with he; exact hgc he)
    ⟨by rw [cell_of_row w gc 9 _ _ _ hv.hc, cell_of_row W gc 9 _ _ _ (e.trans hv.hc)], k.block pb4 (heap_lt hv.p4.h5) (by intro he; injection he with he; exact hpb he), k.block po4 (heap_lt hv.p4.h6) (by intro he; injection he with he; exact hpo he)⟩
  have T := Lib.hid (fun (W : World) (hk : RK W g ws (N : Int) (p : Int)) (hG : w.grownBy W (some g)) => (ones_any g ws N p W hk hw hp).mono (R' := fun e w' => e = .returned (.int .i64 4) ∧ RK w' g ws (N : Int) (q : Int) ∧ w.grownBy w' (some g) ∧ w'.cell? ⟨gc, 9, none⟩ = some (.func (.func 127) #[] #[.pointer (some ⟨pb4, 0, none⟩), .pointer (some ⟨po4, 0, none⟩)])) (fun e w' x => by
    have x' := x.some' (v := .int .i64 4) (q := q) (by rw [hr]; rfl)
    exact ⟨x'.1, x'.2.1, grown_trans hG x'.2.2, ((keep _ (grown_trans hG x'.2.2)).1).trans hv.b4⟩))
  have T2 := Lib.hid (fun (W : World) (hk : RK W g ws (N : Int) (q : Int)) (hG : w.grownBy W (some g)) => (getClos_any pb4 po4 g 42 2199023255552 ws N q W ((keep W hG).2.1.trans hv.p4.h5) ((keep W hG).2.2.trans hv.p4.h6) hk hw (by omega) hqN (by omega) (by omega)).mono (R' := fun e w' => Cry e ∧ w.grownBy w' (some g)) (fun e w' x => by
    have x' := x.none' (by unfold offR; rw [if_neg hc])
    exact ⟨x'.1, grown_trans hG x'.2⟩))
  have HK := Lib.hid h
  clear h hw hp hr hcs hv hpb hpo keep hgc hc hqN
  go_enter Tryd.func114, Tryd.ntmps114
  go_wp2_with fail
  go_region_dies
  all_goals
    refine (T.out _ (by first | exact HK.out | exact HK.out.drew) (by first | exact grownBy_rfl w _ | exact grown_drew1 (grownBy_rfl w _))).mono ?_
    rintro e w3 ⟨rfl, hk3, hg3, cx⟩
    have HK3 := Lib.hid hk3
    have HG3 := Lib.hid hg3
    clear hk3 hg3 ca
    rename_i K1 hK1
    refine hK1 _ _ ?_
    clear hK1 K1
    refine wpAny_ready (rs := [4]) (by kernel_rfl) (by simp) ?_
    refine AllReady.cons rfl (fun K hK => ?_) AllReady.nil
    go_simp
    refine hK _ _ ?_
    clear hK K
    refine wpAny_ready (rs := [5]) (by kernel_rfl) (by simp) ?_
    refine AllReady.cons rfl (fun K hK => ?_) AllReady.nil
    go_simp
    refine hK _ _ ?_
    clear hK K
    refine wpAny_ready (rs := [6]) (by kernel_rfl) (by simp) ?_
    refine AllReady.cons rfl (fun K hK => ?_) AllReady.nil
    go_simp
    refine hK _ _ ?_
    clear hK K
    refine wpAny_ready (rs := [8]) (by kernel_rfl) (by simp) ?_
    refine AllReady.cons rfl (fun K hK => ?_) AllReady.nil
    go_simp
    go_at_call 127
    refine (T2.out _ HK3.out HG3.out).mono ?_
    rintro e w4 ⟨⟨u, pv, rfl⟩, hg4⟩
    exact ⟨rfl, hg4, ⟨_, _, rfl⟩⟩
end Go.Proofs.YtanoohfhifhhaaaDoor
