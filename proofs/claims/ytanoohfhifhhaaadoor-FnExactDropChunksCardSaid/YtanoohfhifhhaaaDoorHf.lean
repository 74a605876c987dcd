/- Walks: the program's reader of bits: the codes' get, a number read. -/
import Derived.Test.YtanoohfhifhhaaaDoorHd
set_option linter.unusedVariables false
set_option linter.unusedSimpArgs false
namespace Go.Proofs.YtanoohfhifhhaaaDoor
open Go.RowKit

theorem grown_put {w w4 wa w5 : World} {g : Nat} (h : w.grownBy w4 (some g)) (hb : Below w4.heap.size w4 wa) (k : wa.grownBy w5 (some w4.heap.size)) : w.grownBy w5 (some g) :=
  ⟨k.os.trans (hb.os.trans h.os), k.tape.trans (hb.tape.trans h.tape), k.output.trans (hb.output.trans h.output), Nat.le_trans h.size (Nat.le_trans hb.size k.size),
    fun i hi hne => by
      have hs := h.size
      have h4 : i < w4.heap.size := by omega
      exact (k.block i (Nat.lt_of_lt_of_le h4 hb.size) (by intro he; injection he with he; omega)).trans ((hb.block i h4).trans (h.block i hi hne))⟩
theorem ba_new (w : World) : BitsAt (w.alloc (.cells (baCells zeroWs 0) 113)) w.heap.size [] :=
  ⟨zeroWs, by unfold BaBlk; show (w.heap.push _)[w.heap.size]? = _; simp, BM.words_zero⟩
theorem RK.below {w w' : World} {g : Nat} {ws : List Nat} {N p : Int} (h : RK w g ws N p) (k : Below w.heap.size w w') : RK w' g ws N p := (k.block g h.lt).trans h
theorem RK.grown {w w' : World} {g r : Nat} {ws : List Nat} {N p : Int} (h : RK w g ws N p) (k : w.grownBy w' (some r)) (hne : g ≠ r) : RK w' g ws N p := (k.block g h.lt (by intro he; injection he with he; exact hne he)).trans h
set_option maxRecDepth 100000 in
set_option maxHeartbeats 2000000 in
theorem codesGet_yes0 (gc g : Nat) (ws : List Nat) (N p q : Nat) (w : World) (hcs : CodesAt w gc) (h : RK w g ws (N : Int) (p : Int)) (hw : RdW ws N) (hp : p ≤ N) (hr : onesR ws N 4 0 p = some (0, q)) (hc : q + 0 ≤ N) (Q : Nat) (hQ : q + 0 = Q)
    (D : Int) (hD : (BM.getW ws q 0 : Int) - 0 = D) (n : Nat) (hn : (codeB D).length = n) (hnq : n = Q - p) :
    Calls Tryd.prog 114 #[.pointer (some ⟨gc, 0, none⟩), .pointer (some ⟨g, 0, none⟩)] w (RdOut g ws N (some (.int .i64 D, Q)) w) := by
  obtain ⟨ph0, pq0, pb0, po0, ph1, pq1, pb1, po1, ph2, pq2, pb2, po2, ph3, pq3, pb3, po3, ph4, pq4, pb4, po4, hv⟩ := hcs.named
  have ca := h.at' hw.l
  have hqN : q ≤ N := (onesR_le ws N 4 0 p 0 q hr hp).2.2.1
  have hgc := ne_of_size hv.hc h (by rw [rdCells_size hw.l]; simp)
  have hpb := ne_of_size hv.p0.h5 h (by rw [rdCells_size hw.l]; simp)
  have hpo := ne_of_size hv.p0.h6 h (by rw [rdCells_size hw.l]; simp)
  have keep := fun (W : World) (k : w.grownBy W (some g)) => show W.cell? ⟨gc, 1, none⟩ = w.cell? ⟨gc, 1, none⟩ ∧ W.heap[pb0]? = w.heap[pb0]? ∧ W.heap[po0]? = w.heap[po0]? from
    have e := k.block gc (heap_lt hv.hc) (by intro he; injection he with he; exact hgc he)
    ⟨by rw [cell_of_row w gc 1 _ _ _ hv.hc, cell_of_row W gc 1 _ _ _ (e.trans hv.hc)], k.block pb0 (heap_lt hv.p0.h5) (by intro he; injection he with he; exact hpb he), k.block po0 (heap_lt hv.p0.h6) (by intro he; injection he with he; exact hpo he)⟩
  have T := Lib.hid (fun (W : World) (hk : RK W g ws (N : Int) (p : Int)) (hG : w.grownBy W (some g)) => (ones_any g ws N p W hk hw hp).mono (R' := fun e w' => e = .returned (.int .i64 0) ∧ RK w' g ws (N : Int) (q : Int) ∧ w.grownBy w' (some g) ∧ w'.cell? ⟨gc, 1, none⟩ = some (.func (.func 127) #[] #[.pointer (some ⟨pb0, 0, none⟩), .pointer (some ⟨po0, 0, none⟩)])) (fun e w' x => by
    have x' := x.some' (v := .int .i64 0) (q := q) (by rw [hr]; rfl)
    exact ⟨x'.1, x'.2.1, grown_trans hG x'.2.2, ((keep _ (grown_trans hG x'.2.2)).1).trans hv.b0⟩))
  have T2 := Lib.hid (fun (W : World) (hk : RK W g ws (N : Int) (q : Int)) (hG : w.grownBy W (some g)) => (getClos_any pb0 po0 g 0 0 ws N q W ((keep W hG).2.1.trans hv.p0.h5) ((keep W hG).2.2.trans hv.p0.h6) hk hw (by omega) hqN (by omega) (by omega)).mono (R' := fun e w' => e = .returned (.int .i64 D) ∧ RK w' g ws (N : Int) (Q : Int) ∧ w.grownBy w' (some g) ∧ CodesAt w' gc) (fun e w' x => by
    have x' := x.some' (v := .int .i64 D) (q := Q) (by unfold offR; rw [if_pos hc, ← hD, ← hQ])
    exact ⟨x'.1, x'.2.1, grown_trans hG x'.2.2, hcs.grown h (by rw [rdCells_size hw.l]; simp) hgc (grown_trans hG x'.2.2)⟩))
  have HK := Lib.hid h
  have HW := Lib.hid hw
  have hpq : p ≤ q := (onesR_le ws N 4 0 p 0 q hr hp).2.1
  have hQN : Q ≤ N := by omega
  have hN := hw.n
  have Hn := Lib.hid hn
  have hpQ : p ≤ Q := by omega
  have hwr : IntKind.i64.wrap ((Q : Int) - (p : Int)) = (Q : Int) - (p : Int) := IntWalk.i64_in _ (by omega)
  have hne : (n : Int) = (Q : Int) - (p : Int) := by omega
  clear h hw hp hr hcs hv hpb hpo keep hgc hc hqN hD hQ hn hnq hpq
  go_enter Tryd.func114, Tryd.ntmps114
  go_wp2_with fail
  go_region_law (first
    | (go_simp; go_at_call 123; (refine (T.out _ (by first | exact HK.out | exact HK.out.drew) (by first | exact grownBy_rfl w _ | exact grown_drew1 (grownBy_rfl w _))).mono ?_); rintro e w3 ⟨rfl, hk3, hg3, cx⟩; have HK3 := Lib.hid hk3; have HG3 := Lib.hid hg3; clear hk3 hg3)
    | (go_simp; go_at_call 127; (refine (T2.out _ (RowKit.Hid.out (by assumption)) (RowKit.Hid.out (by assumption))).mono ?_); rintro e w4 ⟨rfl, hk4, hg4, hcs4⟩; have HK4 := Lib.hid hk4; have HG4 := Lib.hid hg4; have HC4 := Lib.hid hcs4; clear hk4 hg4 hcs4))
  go_simp
  go_wp2_with (first
    | (with_reducible refine wl_alloc_ba ?_))
  have hb : Below w4.heap.size w4 (w4.alloc (.cells (baCells zeroWs 0) 113)) := (Below.refl w4.heap.size w4).alloc (Nat.le_refl _) _
  refine (codesPut_any w4.heap.size gc [] D _ (HC4.out.below hb) (ba_new w4) (by simp)).mono ?_
  rintro e w5 ⟨rfl, hl5, hg5⟩
  rw [List.nil_append] at hl5
  have hk5 := (HK4.out.below hb).grown hg5 (by have := HK4.out.lt; omega)
  have HG5 := Lib.hid (grown_put HG4.out hb hg5)
  obtain ⟨ws5, hb5, hw5⟩ := hl5
  have cn := hb5.last hw5.1
  rw [Hn.out] at cn
  have ca5 := hk5.at' HW.out.l
  have HK5 := Lib.hid hk5
  clear hb hg5 hb5 hw5 hk5 ca cx
  go_wp2_with fail
  go_quiet (fail)
  go_wp2_with fail
  go_ret
  exact ⟨grown_drewN HG5.out _, rfl, HK5.out⟩
set_option maxRecDepth 100000 in
set_option maxHeartbeats 2000000 in
theorem codesGet_odd0 (gc g : Nat) (ws : List Nat) (N p q : Nat) (w : World) (hcs : CodesAt w gc) (h : RK w g ws (N : Int) (p : Int)) (hw : RdW ws N) (hp : p ≤ N) (hr : onesR ws N 4 0 p = some (0, q)) (hc : q + 0 ≤ N) (Q : Nat) (hQ : q + 0 = Q)
    (D : Int) (hD : (BM.getW ws q 0 : Int) - 0 = D) (n : Nat) (hn : (codeB D).length = n) (hnq : ¬ n = Q - p) :
    Calls Tryd.prog 114 #[.pointer (some ⟨gc, 0, none⟩), .pointer (some ⟨g, 0, none⟩)] w (RdOut g ws N none w) := by
  obtain ⟨ph0, pq0, pb0, po0, ph1, pq1, pb1, po1, ph2, pq2, pb2, po2, ph3, pq3, pb3, po3, ph4, pq4, pb4, po4, hv⟩ := hcs.named
  have ca := h.at' hw.l
  have hqN : q ≤ N := (onesR_le ws N 4 0 p 0 q hr hp).2.2.1
  have hgc := ne_of_size hv.hc h (by rw [rdCells_size hw.l]; simp)
  have hpb := ne_of_size hv.p0.h5 h (by rw [rdCells_size hw.l]; simp)
  have hpo := ne_of_size hv.p0.h6 h (by rw [rdCells_size hw.l]; simp)
  have keep := fun (W : World) (k : w.grownBy W (some g)) => show W.cell? ⟨gc, 1, none⟩ = w.cell? ⟨gc, 1, none⟩ ∧ W.heap[pb0]? = w.heap[pb0]? ∧ W.heap[po0]? = w.heap[po0]? from
    have e := k.block gc (heap_lt hv.hc) (by intro he; injection he with he; exact hgc he)
    ⟨by rw [cell_of_row w gc 1 _ _ _ hv.hc, cell_of_row W gc 1 _ _ _ (e.trans hv.hc)], k.block pb0 (heap_lt hv.p0.h5) (by intro he; injection he with he; exact hpb he), k.block po0 (heap_lt hv.p0.h6) (by intro he; injection he with he; exact hpo he)⟩
  have T := Lib.hid (fun (W : World) (hk : RK W g ws (N : Int) (p : Int)) (hG : w.grownBy W (some g)) => (ones_any g ws N p W hk hw hp).mono (R' := fun e w' => e = .returned (.int .i64 0) ∧ RK w' g ws (N : Int) (q : Int) ∧ w.grownBy w' (some g) ∧ w'.cell? ⟨gc, 1, none⟩ = some (.func (.func 127) #[] #[.pointer (some ⟨pb0, 0, none⟩), .pointer (some ⟨po0, 0, none⟩)])) (fun e w' x => by
    have x' := x.some' (v := .int .i64 0) (q := q) (by rw [hr]; rfl)
    exact ⟨x'.1, x'.2.1, grown_trans hG x'.2.2, ((keep _ (grown_trans hG x'.2.2)).1).trans hv.b0⟩))
  have T2 := Lib.hid (fun (W : World) (hk : RK W g ws (N : Int) (q : Int)) (hG : w.grownBy W (some g)) => (getClos_any pb0 po0 g 0 0 ws N q W ((keep W hG).2.1.trans hv.p0.h5) ((keep W hG).2.2.trans hv.p0.h6) hk hw (by omega) hqN (by omega) (by omega)).mono (R' := fun e w' => e = .returned (.int .i64 D) ∧ RK w' g ws (N : Int) (Q : Int) ∧ w.grownBy w' (some g) ∧ CodesAt w' gc) (fun e w' x => by
    have x' := x.some' (v := .int .i64 D) (q := Q) (by unfold offR; rw [if_pos hc, ← hD, ← hQ])
    exact ⟨x'.1, x'.2.1, grown_trans hG x'.2.2, hcs.grown h (by rw [rdCells_size hw.l]; simp) hgc (grown_trans hG x'.2.2)⟩))
  have HK := Lib.hid h
  have HW := Lib.hid hw
  have hpq : p ≤ q := (onesR_le ws N 4 0 p 0 q hr hp).2.1
  have hQN : Q ≤ N := by omega
  have hN := hw.n
  have Hn := Lib.hid hn
  have hpQ : p ≤ Q := by omega
  have hwr : IntKind.i64.wrap ((Q : Int) - (p : Int)) = (Q : Int) - (p : Int) := IntWalk.i64_in _ (by omega)
  have hne : ¬ (n : Int) = (Q : Int) - (p : Int) := by omega
  clear h hw hp hr hcs hv hpb hpo keep hgc hc hqN hD hQ hn hnq hpq
  go_enter Tryd.func114, Tryd.ntmps114
  go_wp2_with fail
  go_region_law (first
    | (go_simp; go_at_call 123; (refine (T.out _ (by first | exact HK.out | exact HK.out.drew) (by first | exact grownBy_rfl w _ | exact grown_drew1 (grownBy_rfl w _))).mono ?_); rintro e w3 ⟨rfl, hk3, hg3, cx⟩; have HK3 := Lib.hid hk3; have HG3 := Lib.hid hg3; clear hk3 hg3)
    | (go_simp; go_at_call 127; (refine (T2.out _ (RowKit.Hid.out (by assumption)) (RowKit.Hid.out (by assumption))).mono ?_); rintro e w4 ⟨rfl, hk4, hg4, hcs4⟩; have HK4 := Lib.hid hk4; have HG4 := Lib.hid hg4; have HC4 := Lib.hid hcs4; clear hk4 hg4 hcs4))
  go_simp
  go_wp2_with (first
    | (with_reducible refine wl_alloc_ba ?_))
  have hb : Below w4.heap.size w4 (w4.alloc (.cells (baCells zeroWs 0) 113)) := (Below.refl w4.heap.size w4).alloc (Nat.le_refl _) _
  refine (codesPut_any w4.heap.size gc [] D _ (HC4.out.below hb) (ba_new w4) (by simp)).mono ?_
  rintro e w5 ⟨rfl, hl5, hg5⟩
  rw [List.nil_append] at hl5
  have hk5 := (HK4.out.below hb).grown hg5 (by have := HK4.out.lt; omega)
  have HG5 := Lib.hid (grown_put HG4.out hb hg5)
  obtain ⟨ws5, hb5, hw5⟩ := hl5
  have cn := hb5.last hw5.1
  rw [Hn.out] at cn
  have ca5 := hk5.at' HW.out.l
  have HK5 := Lib.hid hk5
  clear hb hg5 hb5 hw5 hk5 ca cx
  go_wp2_with fail
  go_quiet (fail)
  go_wp2_with fail
  refine (fail_any g _).mono ?_
  rintro e w6 ⟨⟨u, pv, rfl⟩, rfl⟩
  exact ⟨rfl, grown_drewN HG5.out _, ⟨_, _, rfl⟩⟩
set_option maxRecDepth 100000 in
set_option maxHeartbeats 2000000 in
theorem codesGet_yes1 (gc g : Nat) (ws : List Nat) (N p q : Nat) (w : World) (hcs : CodesAt w gc) (h : RK w g ws (N : Int) (p : Int)) (hw : RdW ws N) (hp : p ≤ N) (hr : onesR ws N 4 0 p = some (1, q)) (hc : q + 7 ≤ N) (Q : Nat) (hQ : q + 7 = Q)
    (D : Int) (hD : (BM.getW ws q 7 : Int) - 63 = D) (n : Nat) (hn : (codeB D).length = n) (hnq : n = Q - p) :
    Calls Tryd.prog 114 #[.pointer (some ⟨gc, 0, none⟩), .pointer (some ⟨g, 0, none⟩)] w (RdOut g ws N (some (.int .i64 D, Q)) w) := by
  obtain ⟨ph0, pq0, pb0, po0, ph1, pq1, pb1, po1, ph2, pq2, pb2, po2, ph3, pq3, pb3, po3, ph4, pq4, pb4, po4, hv⟩ := hcs.named
  have ca := h.at' hw.l
  have hqN : q ≤ N := (onesR_le ws N 4 0 p 1 q hr hp).2.2.1
  have hgc := ne_of_size hv.hc h (by rw [rdCells_size hw.l]; simp)
  have hpb := ne_of_size hv.p1.h5 h (by rw [rdCells_size hw.l]; simp)
  have hpo := ne_of_size hv.p1.h6 h (by rw [rdCells_size hw.l]; simp)
  have keep := fun (W : World) (k : w.grownBy W (some g)) => show W.cell? ⟨gc, 3, none⟩ = w.cell? ⟨gc, 3, none⟩ ∧ W.heap[pb1]? = w.heap[pb1]? ∧ W.heap[po1]? = w.heap[po1]? from
    have e := k.block gc (heap_lt hv.hc) (by intro he; injection he with he; exact hgc he)
    ⟨by rw [cell_of_row w gc 3 _ _ _ hv.hc, cell_of_row W gc 3 _ _ _ (e.trans hv.hc)], k.block pb1 (heap_lt hv.p1.h5) (by intro he; injection he with he; exact hpb he), k.block po1 (heap_lt hv.p1.h6) (by intro he; injection he with he; exact hpo he)⟩
  have T := Lib.hid (fun (W : World) (hk : RK W g ws (N : Int) (p : Int)) (hG : w.grownBy W (some g)) => (ones_any g ws N p W hk hw hp).mono (R' := fun e w' => e = .returned (.int .i64 1) ∧ RK w' g ws (N : Int) (q : Int) ∧ w.grownBy w' (some g) ∧ w'.cell? ⟨gc, 3, none⟩ = some (.func (.func 127) #[] #[.pointer (some ⟨pb1, 0, none⟩), .pointer (some ⟨po1, 0, none⟩)])) (fun e w' x => by
    have x' := x.some' (v := .int .i64 1) (q := q) (by rw [hr]; rfl)
    exact ⟨x'.1, x'.2.1, grown_trans hG x'.2.2, ((keep _ (grown_trans hG x'.2.2)).1).trans hv.b1⟩))
  have T2 := Lib.hid (fun (W : World) (hk : RK W g ws (N : Int) (q : Int)) (hG : w.grownBy W (some g)) => (getClos_any pb1 po1 g 7 63 ws N q W ((keep W hG).2.1.trans hv.p1.h5) ((keep W hG).2.2.trans hv.p1.h6) hk hw (by omega) hqN (by omega) (by omega)).mono (R' := fun e w' => e = .returned (.int .i64 D) ∧ RK w' g ws (N : Int) (Q : Int) ∧ w.grownBy w' (some g) ∧ CodesAt w' gc) (fun e w' x => by
    have x' := x.some' (v := .int .i64 D) (q := Q) (by unfold offR; rw [if_pos hc, ← hD, ← hQ])
    exact ⟨x'.1, x'.2.1, grown_trans hG x'.2.2, hcs.grown h (by rw [rdCells_size hw.l]; simp) hgc (grown_trans hG x'.2.2)⟩))
  have HK := Lib.hid h
  have HW := Lib.hid hw
  have hpq : p ≤ q := (onesR_le ws N 4 0 p 1 q hr hp).2.1
  have hQN : Q ≤ N := by omega
  have hN := hw.n
  have Hn := Lib.hid hn
  have hpQ : p ≤ Q := by omega
  have hwr : IntKind.i64.wrap ((Q : Int) - (p : Int)) = (Q : Int) - (p : Int) := IntWalk.i64_in _ (by omega)
  have hne : (n : Int) = (Q : Int) - (p : Int) := by omega
  clear h hw hp hr hcs hv hpb hpo keep hgc hc hqN hD hQ hn hnq hpq
  go_enter Tryd.func114, Tryd.ntmps114
  go_wp2_with fail
  go_region_law (first
    | (go_simp; go_at_call 123; (refine (T.out _ (by first | exact HK.out | exact HK.out.drew) (by first | exact grownBy_rfl w _ | exact grown_drew1 (grownBy_rfl w _))).mono ?_); rintro e w3 ⟨rfl, hk3, hg3, cx⟩; have HK3 := Lib.hid hk3; have HG3 := Lib.hid hg3; clear hk3 hg3)
    | (go_simp; go_at_call 127; (refine (T2.out _ (RowKit.Hid.out (by assumption)) (RowKit.Hid.out (by assumption))).mono ?_); rintro e w4 ⟨rfl, hk4, hg4, hcs4⟩; have HK4 := Lib.hid hk4; have HG4 := Lib.hid hg4; have HC4 := Lib.hid hcs4; clear hk4 hg4 hcs4))
  go_simp
  go_wp2_with (first
    | (with_reducible refine wl_alloc_ba ?_))
  have hb : Below w4.heap.size w4 (w4.alloc (.cells (baCells zeroWs 0) 113)) := (Below.refl w4.heap.size w4).alloc (Nat.le_refl _) _
  refine (codesPut_any w4.heap.size gc [] D _ (HC4.out.below hb) (ba_new w4) (by simp)).mono ?_
  rintro e w5 ⟨rfl, hl5, hg5⟩
  rw [List.nil_append] at hl5
  have hk5 := (HK4.out.below hb).grown hg5 (by have := HK4.out.lt; omega)
  have HG5 := Lib.hid (grown_put HG4.out hb hg5)
  obtain ⟨ws5, hb5, hw5⟩ := hl5
  have cn := hb5.last hw5.1
  rw [Hn.out] at cn
  have ca5 := hk5.at' HW.out.l
  have HK5 := Lib.hid hk5
  clear hb hg5 hb5 hw5 hk5 ca cx
  go_wp2_with fail
  go_quiet (fail)
  go_wp2_with fail
  go_ret
  exact ⟨grown_drewN HG5.out _, rfl, HK5.out⟩
set_option maxRecDepth 100000 in
set_option maxHeartbeats 2000000 in
theorem codesGet_odd1 (gc g : Nat) (ws : List Nat) (N p q : Nat) (w : World) (hcs : CodesAt w gc) (h : RK w g ws (N : Int) (p : Int)) (hw : RdW ws N) (hp : p ≤ N) (hr : onesR ws N 4 0 p = some (1, q)) (hc : q + 7 ≤ N) (Q : Nat) (hQ : q + 7 = Q)
    (D : Int) (hD : (BM.getW ws q 7 : Int) - 63 = D) (n : Nat) (hn : (codeB D).length = n) (hnq : ¬ n = Q - p) :
    Calls Tryd.prog 114 #[.pointer (some ⟨gc, 0, none⟩), .pointer (some ⟨g, 0, none⟩)] w (RdOut g ws N none w) := by
  obtain ⟨ph0, pq0, pb0, po0, ph1, pq1, pb1, po1, ph2, pq2, pb2, po2, ph3, pq3, pb3, po3, ph4, pq4, pb4, po4, hv⟩ := hcs.named
  have ca := h.at' hw.l
  have hqN : q ≤ N := (onesR_le ws N 4 0 p 1 q hr hp).2.2.1
  have hgc := ne_of_size hv.hc h (by rw [rdCells_size hw.l]; simp)
  have hpb := ne_of_size hv.p1.h5 h (by rw [rdCells_size hw.l]; simp)
  have hpo := ne_of_size hv.p1.h6 h (by rw [rdCells_size hw.l]; simp)
  have keep := fun (W : World) (k : w.grownBy W (some g)) => show W.cell? ⟨gc, 3, none⟩ = w.cell? ⟨gc, 3, none⟩ ∧ W.heap[pb1]? = w.heap[pb1]? ∧ W.heap[po1]? = w.heap[po1]? from
    have e := k.block gc (heap_lt hv.hc) (by intro he; injection he with he; exact hgc he)
    ⟨by rw [cell_of_row w gc 3 _ _ _ hv.hc, cell_of_row W gc 3 _ _ _ (e.trans hv.hc)], k.block pb1 (heap_lt hv.p1.h5) (by intro he; injection he with he; exact hpb he), k.block po1 (heap_lt hv.p1.h6) (by intro he; injection he with he; exact hpo he)⟩
  have T := Lib.hid (fun (W : World) (hk : RK W g ws (N : Int) (p : Int)) (hG : w.grownBy W (some g)) => (ones_any g ws N p W hk hw hp).mono (R' := fun e w' => e = .returned (.int .i64 1) ∧ RK w' g ws (N : Int) (q : Int) ∧ w.grownBy w' (some g) ∧ w'.cell? ⟨gc, 3, none⟩ = some (.func (.func 127) #[] #[.pointer (some ⟨pb1, 0, none⟩), .pointer (some ⟨po1, 0, none⟩)])) (fun e w' x => by
    have x' := x.some' (v := .int .i64 1) (q := q) (by rw [hr]; rfl)
    exact ⟨x'.1, x'.2.1, grown_trans hG x'.2.2, ((keep _ (grown_trans hG x'.2.2)).1).trans hv.b1⟩))
  have T2 := Lib.hid (fun (W : World) (hk : RK W g ws (N : Int) (q : Int)) (hG : w.grownBy W (some g)) => (getClos_any pb1 po1 g 7 63 ws N q W ((keep W hG).2.1.trans hv.p1.h5) ((keep W hG).2.2.trans hv.p1.h6) hk hw (by omega) hqN (by omega) (by omega)).mono (R' := fun e w' => e = .returned (.int .i64 D) ∧ RK w' g ws (N : Int) (Q : Int) ∧ w.grownBy w' (some g) ∧ CodesAt w' gc) (fun e w' x => by
    have x' := x.some' (v := .int .i64 D) (q := Q) (by unfold offR; rw [if_pos hc, ← hD, ← hQ])
    exact ⟨x'.1, x'.2.1, grown_trans hG x'.2.2, hcs.grown h (by rw [rdCells_size hw.l]; simp) hgc (grown_trans hG x'.2.2)⟩))
  have HK := Lib.hid h
  have HW := Lib.hid hw
  have hpq : p ≤ q := (onesR_le ws N 4 0 p 1 q hr hp).2.1
  have hQN : Q ≤ N := by omega
  have hN := hw.n
  have Hn := Lib.hid hn
  have hpQ : p ≤ Q := by omega
  have hwr : IntKind.i64.wrap ((Q : Int) - (p : Int)) = (Q : Int) - (p : Int) := IntWalk.i64_in _ (by omega)
  have hne : ¬ (n : Int) = (Q : Int) - (p : Int) := by omega
  clear h hw hp hr hcs hv hpb hpo keep hgc hc hqN hD hQ hn hnq hpq
  go_enter Tryd.func114, Tryd.ntmps114
  go_wp2_with fail
  go_region_law (first
    | (go_simp; go_at_call 123; (refine (T.out _ (by first | exact HK.out | exact HK.out.drew) (by first | exact grownBy_rfl w _ | exact grown_drew1 (grownBy_rfl w _))).mono ?_); rintro e w3 ⟨rfl, hk3, hg3, cx⟩; have HK3 := Lib.hid hk3; have HG3 := Lib.hid hg3; clear hk3 hg3)
    | (go_simp; go_at_call 127; (refine (T2.out _ (RowKit.Hid.out (by assumption)) (RowKit.Hid.out (by assumption))).mono ?_); rintro e w4 ⟨rfl, hk4, hg4, hcs4⟩; have HK4 := Lib.hid hk4; have HG4 := Lib.hid hg4; have HC4 := Lib.hid hcs4; clear hk4 hg4 hcs4))
  go_simp
  go_wp2_with (first
    | (with_reducible refine wl_alloc_ba ?_))
  have hb : Below w4.heap.size w4 (w4.alloc (.cells (baCells zeroWs 0) 113)) := (Below.refl w4.heap.size w4).alloc (Nat.le_refl _) _
  refine (codesPut_any w4.heap.size gc [] D _ (HC4.out.below hb) (ba_new w4) (by simp)).mono ?_
  rintro e w5 ⟨rfl, hl5, hg5⟩
  rw [List.nil_append] at hl5
  have hk5 := (HK4.out.below hb).grown hg5 (by have := HK4.out.lt; omega)
  have HG5 := Lib.hid (grown_put HG4.out hb hg5)
  obtain ⟨ws5, hb5, hw5⟩ := hl5
  have cn := hb5.last hw5.1
  rw [Hn.out] at cn
  have ca5 := hk5.at' HW.out.l
  have HK5 := Lib.hid hk5
  clear hb hg5 hb5 hw5 hk5 ca cx
  go_wp2_with fail
  go_quiet (fail)
  go_wp2_with fail
  refine (fail_any g _).mono ?_
  rintro e w6 ⟨⟨u, pv, rfl⟩, rfl⟩
  exact ⟨rfl, grown_drewN HG5.out _, ⟨_, _, rfl⟩⟩
set_option maxRecDepth 100000 in
set_option maxHeartbeats 2000000 in
theorem codesGet_yes2 (gc g : Nat) (ws : List Nat) (N p q : Nat) (w : World) (hcs : CodesAt w gc) (h : RK w g ws (N : Int) (p : Int)) (hw : RdW ws N) (hp : p ≤ N) (hr : onesR ws N 4 0 p = some (2, q)) (hc : q + 9 ≤ N) (Q : Nat) (hQ : q + 9 = Q)
    (D : Int) (hD : (BM.getW ws q 9 : Int) - 255 = D) (n : Nat) (hn : (codeB D).length = n) (hnq : n = Q - p) :
    Calls Tryd.prog 114 #[.pointer (some ⟨gc, 0, none⟩), .pointer (some ⟨g, 0, none⟩)] w (RdOut g ws N (some (.int .i64 D, Q)) w) := by
  obtain ⟨ph0, pq0, pb0, po0, ph1, pq1, pb1, po1, ph2, pq2, pb2, po2, ph3, pq3, pb3, po3, ph4, pq4, pb4, po4, hv⟩ := hcs.named
  have ca := h.at' hw.l
  have hqN : q ≤ N := (onesR_le ws N 4 0 p 2 q hr hp).2.2.1
  have hgc := ne_of_size hv.hc h (by rw [rdCells_size hw.l]; simp)
  have hpb := ne_of_size hv.p2.h5 h (by rw [rdCells_size hw.l]; simp)
  have hpo := ne_of_size hv.p2.h6 h (by rw [rdCells_size hw.l]; simp)
  have keep := fun (W : World) (k : w.grownBy W (some g)) => show W.cell? ⟨gc, 5, none⟩ = w.cell? ⟨gc, 5, none⟩ ∧ W.heap[pb2]? = w.heap[pb2]? ∧ W.heap[po2]? = w.heap[po2]? from
    have e := k.block gc (heap_lt hv.hc) (by intro he; injection he with he; exact hgc he)
    ⟨by rw [cell_of_row w gc 5 _ _ _ hv.hc, cell_of_row W gc 5 _ _ _ (e.trans hv.hc)], k.block pb2 (heap_lt hv.p2.h5) (by intro he; injection he with he; exact hpb he), k.block po2 (heap_lt hv.p2.h6) (by intro he; injection he with he; exact hpo he)⟩
  have T := Lib.hid (fun (W : World) (hk : RK W g ws (N : Int) (p : Int)) (hG : w.grownBy W (some g)) => (ones_any g ws N p W hk hw hp).mono (R' := fun e w' => e = .returned (.int .i64 2) ∧ RK w' g ws (N : Int) (q : Int) ∧ w.grownBy w' (some g) ∧ w'.cell? ⟨gc, 5, none⟩ = some (.func (.func 127) #[] #[.pointer (some ⟨pb2, 0, none⟩), .pointer (some ⟨po2, 0, none⟩)])) (fun e w' x => by
    have x' := x.some' (v := .int .i64 2) (q := q) (by rw [hr]; rfl)
    exact ⟨x'.1, x'.2.1, grown_trans hG x'.2.2, ((keep _ (grown_trans hG x'.2.2)).1).trans hv.b2⟩))
  have T2 := Lib.hid (fun (W : World) (hk : RK W g ws (N : Int) (q : Int)) (hG : w.grownBy W (some g)) => (getClos_any pb2 po2 g 9 255 ws N q W ((keep W hG).2.1.trans hv.p2.h5) ((keep W hG).2.2.trans hv.p2.h6) hk hw (by omega) hqN (by omega) (by omega)).mono (R' := fun e w' => e = .returned (.int .i64 D) ∧ RK w' g ws (N : Int) (Q : Int) ∧ w.grownBy w' (some g) ∧ CodesAt w' gc) (fun e w' x => by
    have x' := x.some' (v := .int .i64 D) (q := Q) (by unfold offR; rw [if_pos hc, ← hD, ← hQ])
    exact ⟨x'.1, x'.2.1, grown_trans hG x'.2.2, hcs.grown h (by rw [rdCells_size hw.l]; simp) hgc (grown_trans hG x'.2.2)⟩))
  have HK := Lib.hid h
  have HW := Lib.hid hw
  have hpq : p ≤ q := (onesR_le ws N 4 0 p 2 q hr hp).2.1
  have hQN : Q ≤ N := by omega
  have hN := hw.n
  have Hn := Lib.hid hn
  have hpQ : p ≤ Q := by omega
  have hwr : IntKind.i64.wrap ((Q : Int) - (p : Int)) = (Q : Int) - (p : Int) := IntWalk.i64_in _ (by omega)
  have hne : (n : Int) = (Q : Int) - (p : Int) := by omega
  clear h hw hp hr hcs hv hpb hpo keep hgc hc hqN hD hQ hn hnq hpq
  go_enter Tryd.func114, Tryd.ntmps114
  go_wp2_with fail
  go_region_law (first
    | (go_simp; go_at_call 123; (refine (T.out _ (by first | exact HK.out | exact HK.out.drew) (by first | exact grownBy_rfl w _ | exact grown_drew1 (grownBy_rfl w _))).mono ?_); rintro e w3 ⟨rfl, hk3, hg3, cx⟩; have HK3 := Lib.hid hk3; have HG3 := Lib.hid hg3; clear hk3 hg3)
    | (go_simp; go_at_call 127; (refine (T2.out _ (RowKit.Hid.out (by assumption)) (RowKit.Hid.out (by assumption))).mono ?_); rintro e w4 ⟨rfl, hk4, hg4, hcs4⟩; have HK4 := Lib.hid hk4; have HG4 := Lib.hid hg4; have HC4 := Lib.hid hcs4; clear hk4 hg4 hcs4))
  go_simp
  go_wp2_with (first
    | (with_reducible refine wl_alloc_ba ?_))
  have hb : Below w4.heap.size w4 (w4.alloc (.cells (baCells zeroWs 0) 113)) := (Below.refl w4.heap.size w4).alloc (Nat.le_refl _) _
  refine (codesPut_any w4.heap.size gc [] D _ (HC4.out.below hb) (ba_new w4) (by simp)).mono ?_
  rintro e w5 ⟨rfl, hl5, hg5⟩
  rw [List.nil_append] at hl5
  have hk5 := (HK4.out.below hb).grown hg5 (by have := HK4.out.lt; omega)
  have HG5 := Lib.hid (grown_put HG4.out hb hg5)
  obtain ⟨ws5, hb5, hw5⟩ := hl5
  have cn := hb5.last hw5.1
  rw [Hn.out] at cn
  have ca5 := hk5.at' HW.out.l
  have HK5 := Lib.hid hk5
  clear hb hg5 hb5 hw5 hk5 ca cx
  go_wp2_with fail
  go_quiet (fail)
  go_wp2_with fail
  go_ret
  exact ⟨grown_drewN HG5.out _, rfl, HK5.out⟩
set_option maxRecDepth 100000 in
set_option maxHeartbeats 2000000 in
theorem codesGet_odd2 (gc g : Nat) (ws : List Nat) (N p q : Nat) (w : World) (hcs : CodesAt w gc) (h : RK w g ws (N : Int) (p : Int)) (hw : RdW ws N) (hp : p ≤ N) (hr : onesR ws N 4 0 p = some (2, q)) (hc : q + 9 ≤ N) (Q : Nat) (hQ : q + 9 = Q)
    (D : Int) (hD : (BM.getW ws q 9 : Int) - 255 = D) (n : Nat) (hn : (codeB D).length = n) (hnq : ¬ n = Q - p) :
    Calls Tryd.prog 114 #[.pointer (some ⟨gc, 0, none⟩), .pointer (some ⟨g, 0, none⟩)] w (RdOut g ws N none w) := by
  obtain ⟨ph0, pq0, pb0, po0, ph1, pq1, pb1, po1, ph2, pq2, pb2, po2, ph3, pq3, pb3, po3, ph4, pq4, pb4, po4, hv⟩ := hcs.named
  have ca := h.at' hw.l
  have hqN : q ≤ N := (onesR_le ws N 4 0 p 2 q hr hp).2.2.1
  have hgc := ne_of_size hv.hc h (by rw [rdCells_size hw.l]; simp)
  have hpb := ne_of_size hv.p2.h5 h (by rw [rdCells_size hw.l]; simp)
  have hpo := ne_of_size hv.p2.h6 h (by rw [rdCells_size hw.l]; simp)
  have keep := fun (W : World) (k : w.grownBy W (some g)) => show W.cell? ⟨gc, 5, none⟩ = w.cell? ⟨gc, 5, none⟩ ∧ W.heap[pb2]? = w.heap[pb2]? ∧ W.heap[po2]? = w.heap[po2]? from
    have e := k.block gc (heap_lt hv.hc) (by intro he; injection he with he; exact hgc he)
    ⟨by rw [cell_of_row w gc 5 _ _ _ hv.hc, cell_of_row W gc 5 _ _ _ (e.trans hv.hc)], k.block pb2 (heap_lt hv.p2.h5) (by intro he; injection he with he; exact hpb he), k.block po2 (heap_lt hv.p2.h6) (by intro he; injection he with he; exact hpo he)⟩
  have T := Lib.hid (fun (W : World) (hk : RK W g ws (N : Int) (p : Int)) (hG : w.grownBy W (some g)) => (ones_any g ws N p W hk hw hp).mono (R' := fun e w' => e = .returned (.int .i64 2) ∧ RK w' g ws (N : Int) (q : Int) ∧ w.grownBy w' (some g) ∧ w'.cell? ⟨gc, 5, none⟩ = some (.func (.func 127) #[] #[.pointer (some ⟨pb2, 0, none⟩), .pointer (some ⟨po2, 0, none⟩)])) (fun e w' x => by
    have x' := x.some' (v := .int .i64 2) (q := q) (by rw [hr]; rfl)
    exact ⟨x'.1, x'.2.1, grown_trans hG x'.2.2, ((keep _ (grown_trans hG x'.2.2)).1).trans hv.b2⟩))
  have T2 := Lib.hid (fun (W : World) (hk : RK W g ws (N : Int) (q : Int)) (hG : w.grownBy W (some g)) => (getClos_any pb2 po2 g 9 255 ws N q W ((keep W hG).2.1.trans hv.p2.h5) ((keep W hG).2.2.trans hv.p2.h6) hk hw (by omega) hqN (by omega) (by omega)).mono (R' := fun e w' => e = .returned (.int .i64 D) ∧ RK w' g ws (N : Int) (Q : Int) ∧ w.grownBy w' (some g) ∧ CodesAt w' gc) (fun e w' x => by
    have x' := x.some' (v := .int .i64 D) (q := Q) (by unfold offR; rw [if_pos hc, ← hD, ← hQ])
    exact ⟨x'.1, x'.2.1, grown_trans hG x'.2.2, hcs.grown h (by rw [rdCells_size hw.l]; simp) hgc (grown_trans hG x'.2.2)⟩))
  have HK := Lib.hid h
  have HW := Lib.hid hw
  have hpq : p ≤ q := (onesR_le ws N 4 0 p 2 q hr hp).2.1
  have hQN : Q ≤ N := by omega
  have hN := hw.n
  have Hn := Lib.hid hn
  have hpQ : p ≤ Q := by omega
  have hwr : IntKind.i64.wrap ((Q : Int) - (p : Int)) = (Q : Int) - (p : Int) := IntWalk.i64_in _ (by omega)
  have hne : ¬ (n : Int) = (Q : Int) - (p : Int) := by omega
  clear h hw hp hr hcs hv hpb hpo keep hgc hc hqN hD hQ hn hnq hpq
  go_enter Tryd.func114, Tryd.ntmps114
  go_wp2_with fail
  go_region_law (first
    | (go_simp; go_at_call 123; (refine (T.out _ (by first | exact HK.out | exact HK.out.drew) (by first | exact grownBy_rfl w _ | exact grown_drew1 (grownBy_rfl w _))).mono ?_); rintro e w3 ⟨rfl, hk3, hg3, cx⟩; have HK3 := Lib.hid hk3; have HG3 := Lib.hid hg3; clear hk3 hg3)
    | (go_simp; go_at_call 127; (refine (T2.out _ (RowKit.Hid.out (by assumption)) (RowKit.Hid.out (by assumption))).mono ?_); rintro e w4 ⟨rfl, hk4, hg4, hcs4⟩; have HK4 := Lib.hid hk4; have HG4 := Lib.hid hg4; have HC4 := Lib.hid hcs4; clear hk4 hg4 hcs4))
  go_simp
  go_wp2_with (first
    | (with_reducible refine wl_alloc_ba ?_))
  have hb : Below w4.heap.size w4 (w4.alloc (.cells (baCells zeroWs 0) 113)) := (Below.refl w4.heap.size w4).alloc (Nat.le_refl _) _
  refine (codesPut_any w4.heap.size gc [] D _ (HC4.out.below hb) (ba_new w4) (by simp)).mono ?_
  rintro e w5 ⟨rfl, hl5, hg5⟩
  rw [List.nil_append] at hl5
  have hk5 := (HK4.out.below hb).grown hg5 (by have := HK4.out.lt; omega)
  have HG5 := Lib.hid (grown_put HG4.out hb hg5)
  obtain ⟨ws5, hb5, hw5⟩ := hl5
  have cn := hb5.last hw5.1
  rw [Hn.out] at cn
  have ca5 := hk5.at' HW.out.l
  have HK5 := Lib.hid hk5
  clear hb hg5 hb5 hw5 hk5 ca cx
  go_wp2_with fail
  go_quiet (fail)
  go_wp2_with fail
  refine (fail_any g _).mono ?_
  rintro e w6 ⟨⟨u, pv, rfl⟩, rfl⟩
  exact ⟨rfl, grown_drewN HG5.out _, ⟨_, _, rfl⟩⟩
set_option maxRecDepth 100000 in
set_option maxHeartbeats 2000000 in
theorem codesGet_yes3 (gc g : Nat) (ws : List Nat) (N p q : Nat) (w : World) (hcs : CodesAt w gc) (h : RK w g ws (N : Int) (p : Int)) (hw : RdW ws N) (hp : p ≤ N) (hr : onesR ws N 4 0 p = some (3, q)) (hc : q + 12 ≤ N) (Q : Nat) (hQ : q + 12 = Q)
    (D : Int) (hD : (BM.getW ws q 12 : Int) - 2047 = D) (n : Nat) (hn : (codeB D).length = n) (hnq : n = Q - p) :
    Calls Tryd.prog 114 #[.pointer (some ⟨gc, 0, none⟩), .pointer (some ⟨g, 0, none⟩)] w (RdOut g ws N (some (.int .i64 D, Q)) w) := by
  obtain ⟨ph0, pq0, pb0, po0, ph1, pq1, pb1, po1, ph2, pq2, pb2, po2, ph3, pq3, pb3, po3, ph4, pq4, pb4, po4, hv⟩ := hcs.named
  have ca := h.at' hw.l
  have hqN : q ≤ N := (onesR_le ws N 4 0 p 3 q hr hp).2.2.1
  have hgc := ne_of_size hv.hc h (by rw [rdCells_size hw.l]; simp)
  have hpb := ne_of_size hv.p3.h5 h (by rw [rdCells_size hw.l]; simp)
  have hpo := ne_of_size hv.p3.h6 h (by rw [rdCells_size hw.l]; simp)
  have keep := fun (W : World) (k : w.grownBy W (some g)) => show W.cell? ⟨gc, 7, none⟩ = w.cell? ⟨gc, 7, none⟩ ∧ W.heap[pb3]? = w.heap[pb3]? ∧ W.heap[po3]? = w.heap[po3]? from
    have e := k.block gc (heap_lt hv.hc) (by intro he; injection he with he; exact hgc he)
    ⟨by rw [cell_of_row w gc 7 _ _ _ hv.hc, cell_of_row W gc 7 _ _ _ (e.trans hv.hc)], k.block pb3 (heap_lt hv.p3.h5) (by intro he; injection he with he; exact hpb he), k.block po3 (heap_lt hv.p3.h6) (by intro he; injection he with he; exact hpo he)⟩
  have T := Lib.hid (fun (W : World) (hk : RK W g ws (N : Int) (p : Int)) (hG : w.grownBy W (some g)) => (ones_any g ws N p W hk hw hp).mono (R' := fun e w' => e = .returned (.int .i64 3) ∧ RK w' g ws (N : Int) (q : Int) ∧ w.grownBy w' (some g) ∧ w'.cell? ⟨gc, 7, none⟩ = some (.func (.func 127) #[] #[.pointer (some ⟨pb3, 0, none⟩), .pointer (some ⟨po3, 0, none⟩)])) (fun e w' x => by
    have x' := x.some' (v := .int .i64 3) (q := q) (by rw [hr]; rfl)
    exact ⟨x'.1, x'.2.1, grown_trans hG x'.2.2, ((keep _ (grown_trans hG x'.2.2)).1).trans hv.b3⟩))
  have T2 := Lib.hid (fun (W : World) (hk : RK W g ws (N : Int) (q : Int)) (hG : w.grownBy W (some g)) => (getClos_any pb3 po3 g 12 2047 ws N q W ((keep W hG).2.1.trans hv.p3.h5) ((keep W hG).2.2.trans hv.p3.h6) hk hw (by omega) hqN (by omega) (by omega)).mono (R' := fun e w' => e = .returned (.int .i64 D) ∧ RK w' g ws (N : Int) (Q : Int) ∧ w.grownBy w' (some g) ∧ CodesAt w' gc) (fun e w' x => by
    have x' := x.some' (v := .int .i64 D) (q := Q) (by unfold offR; rw [if_pos hc, ← hD, ← hQ])
    exact ⟨x'.1, x'.2.1, grown_trans hG x'.2.2, hcs.grown h (by rw [rdCells_size hw.l]; simp) hgc (grown_trans hG x'.2.2)⟩))
  have HK := Lib.hid h
  have HW := Lib.hid hw
  have hpq : p ≤ q := (onesR_le ws N 4 0 p 3 q hr hp).2.1
  have hQN : Q ≤ N := by omega
  have hN := hw.n
  have Hn := Lib.hid hn
  have hpQ : p ≤ Q := by omega
  have hwr : IntKind.i64.wrap ((Q : Int) - (p : Int)) = (Q : Int) - (p : Int) := IntWalk.i64_in _ (by omega)
  have hne : (n : Int) = (Q : Int) - (p : Int) := by omega
  clear h hw hp hr hcs hv hpb hpo keep hgc hc hqN hD hQ hn hnq hpq
  go_enter Tryd.func114, Tryd.ntmps114
  go_wp2_with fail
  go_region_law (first
    | (go_simp; go_at_call 123; (refine (T.out _ (by first | exact HK.out | exact HK.out.drew) (by first | exact grownBy_rfl w _ | exact grown_drew1 (grownBy_rfl w _))).mono ?_); rintro e w3 ⟨rfl, hk3, hg3, cx⟩; have HK3 := Lib.hid hk3; have HG3 := Lib.hid hg3; clear hk3 hg3)
    | (go_simp; go_at_call 127; (refine (T2.out _ (RowKit.Hid.out (by assumption)) (RowKit.Hid.out (by assumption))).mono ?_); rintro e w4 ⟨rfl, hk4, hg4, hcs4⟩; have HK4 := Lib.hid hk4; have HG4 := Lib.hid hg4; have HC4 := Lib.hid hcs4; clear hk4 hg4 hcs4))
  go_simp
  go_wp2_with (first
    | (with_reducible refine wl_alloc_ba ?_))
  have hb : Below w4.heap.size w4 (w4.alloc (.cells (baCells zeroWs 0) 113)) := (Below.refl w4.heap.size w4).alloc (Nat.le_refl _) _
  refine (codesPut_any w4.heap.size gc [] D _ (HC4.out.below hb) (ba_new w4) (by simp)).mono ?_
  rintro e w5 ⟨rfl, hl5, hg5⟩
  rw [List.nil_append] at hl5
  have hk5 := (HK4.out.below hb).grown hg5 (by have := HK4.out.lt; omega)
  have HG5 := Lib.hid (grown_put HG4.out hb hg5)
  obtain ⟨ws5, hb5, hw5⟩ := hl5
  have cn := hb5.last hw5.1
  rw [Hn.out] at cn
  have ca5 := hk5.at' HW.out.l
  have HK5 := Lib.hid hk5
  clear hb hg5 hb5 hw5 hk5 ca cx
  go_wp2_with fail
  go_quiet (fail)
  go_wp2_with fail
  go_ret
  exact ⟨grown_drewN HG5.out _, rfl, HK5.out⟩
set_option maxRecDepth 100000 in
set_option maxHeartbeats 2000000 in
theorem codesGet_odd3 (gc g : Nat) (ws : List Nat) (N p q : Nat) (w : World) (hcs : CodesAt w gc) (h : RK w g ws (N : Int) (p : Int)) (hw : RdW ws N) (hp : p ≤ N) (hr : onesR ws N 4 0 p = some (3, q)) (hc : q + 12 ≤ N) (Q : Nat) (hQ : q + 12 = Q)
    (D : Int) (hD : (BM.getW ws q 12 : Int) - 2047 = D) (n : Nat) (hn : (codeB D).length = n) (hnq : ¬ n = Q - p) :
    Calls Tryd.prog 114 #[.pointer (some ⟨gc, 0, none⟩), .pointer (some ⟨g, 0, none⟩)] w (RdOut g ws N none w) := by
  obtain ⟨ph0, pq0, pb0, po0, ph1, pq1, pb1, po1, ph2, pq2, pb2, po2, ph3, pq3, pb3, po3, ph4, pq4, pb4, po4, hv⟩ := hcs.named
  have ca := h.at' hw.l
  have hqN : q ≤ N := (onesR_le ws N 4 0 p 3 q hr hp).2.2.1
  have hgc := ne_of_size hv.hc h (by rw [rdCells_size hw.l]; simp)
  have hpb := ne_of_size hv.p3.h5 h (by rw [rdCells_size hw.l]; simp)
  have hpo := ne_of_size hv.p3.h6 h (by rw [rdCells_size hw.l]; simp)
  have keep := fun (W : World) (k : w.grownBy W (some g)) => show W.cell? ⟨gc, 7, none⟩ = w.cell? ⟨gc, 7, none⟩ ∧ W.heap[pb3]? = w.heap[pb3]? ∧ W.heap[po3]? = w.heap[po3]? from
    have e := k.block gc (heap_lt hv.hc) (by intro he; injection he with he; exact hgc he)
    ⟨by rw [cell_of_row w gc 7 _ _ _ hv.hc, cell_of_row W gc 7 _ _ _ (e.trans hv.hc)], k.block pb3 (heap_lt hv.p3.h5) (by intro he; injection he with he; exact hpb he), k.block po3 (heap_lt hv.p3.h6) (by intro he; injection he with he; exact hpo he)⟩
  have T := Lib.hid (fun (W : World) (hk : RK W g ws (N : Int) (p : Int)) (hG : w.grownBy W (some g)) => (ones_any g ws N p W hk hw hp).mono (R' := fun e w' => e = .returned (.int .i64 3) ∧ RK w' g ws (N : Int) (q : Int) ∧ w.grownBy w' (some g) ∧ w'.cell? ⟨gc, 7, none⟩ = some (.func (.func 127) #[] #[.pointer (some ⟨pb3, 0, none⟩), .pointer (some ⟨po3, 0, none⟩)])) (fun e w' x => by
    have x' := x.some' (v := .int .i64 3) (q := q) (by rw [hr]; rfl)
    exact ⟨x'.1, x'.2.1, grown_trans hG x'.2.2, ((keep _ (grown_trans hG x'.2.2)).1).trans hv.b3⟩))
  have T2 := Lib.hid (fun (W : World) (hk : RK W g ws (N : Int) (q : Int)) (hG : w.grownBy W (some g)) => (getClos_any pb3 po3 g 12 2047 ws N q W ((keep W hG).2.1.trans hv.p3.h5) ((keep W hG).2.2.trans hv.p3.h6) hk hw (by omega) hqN (by omega) (by omega)).mono (R' := fun e w' => e = .returned (.int .i64 D) ∧ RK w' g ws (N : Int) (Q : Int) ∧ w.grownBy w' (some g) ∧ CodesAt w' gc) (fun e w' x => by
    have x' := x.some' (v := .int .i64 D) (q := Q) (by unfold offR; rw [if_pos hc, ← hD, ← hQ])
    exact ⟨x'.1, x'.2.1, grown_trans hG x'.2.2, hcs.grown h (by rw [rdCells_size hw.l]; simp) hgc (grown_trans hG x'.2.2)⟩))
  have HK := Lib.hid h
  have HW := Lib.hid hw
  have hpq : p ≤ q := (onesR_le ws N 4 0 p 3 q hr hp).2.1
  have hQN : Q ≤ N := by omega
  have hN := hw.n
  have Hn := Lib.hid hn
  have hpQ : p ≤ Q := by omega
  have hwr : IntKind.i64.wrap ((Q : Int) - (p : Int)) = (Q : Int) - (p : Int) := IntWalk.i64_in _ (by omega)
  have hne : ¬ (n : Int) = (Q : Int) - (p : Int) := by omega
  clear h hw hp hr hcs hv hpb hpo keep hgc hc hqN hD hQ hn hnq hpq
  go_enter Tryd.func114, Tryd.ntmps114
  go_wp2_with fail
  go_region_law (first
    | (go_simp; go_at_call 123; (refine (T.out _ (by first | exact HK.out | exact HK.out.drew) (by first | exact grownBy_rfl w _ | exact grown_drew1 (grownBy_rfl w _))).mono ?_); rintro e w3 ⟨rfl, hk3, hg3, cx⟩; have HK3 := Lib.hid hk3; have HG3 := Lib.hid hg3; clear hk3 hg3)
    | (go_simp; go_at_call 127; (refine (T2.out _ (RowKit.Hid.out (by assumption)) (RowKit.Hid.out (by assumption))).mono ?_); rintro e w4 ⟨rfl, hk4, hg4, hcs4⟩; have HK4 := Lib.hid hk4; have HG4 := Lib.hid hg4; have HC4 := Lib.hid hcs4; clear hk4 hg4 hcs4))
  go_simp
  go_wp2_with (first
    | (with_reducible refine wl_alloc_ba ?_))
  have hb : Below w4.heap.size w4 (w4.alloc (.cells (baCells zeroWs 0) 113)) := (Below.refl w4.heap.size w4).alloc (Nat.le_refl _) _
  refine (codesPut_any w4.heap.size gc [] D _ (HC4.out.below hb) (ba_new w4) (by simp)).mono ?_
  rintro e w5 ⟨rfl, hl5, hg5⟩
  rw [List.nil_append] at hl5
  have hk5 := (HK4.out.below hb).grown hg5 (by have := HK4.out.lt; omega)
  have HG5 := Lib.hid (grown_put HG4.out hb hg5)
  obtain ⟨ws5, hb5, hw5⟩ := hl5
  have cn := hb5.last hw5.1
  rw [Hn.out] at cn
  have ca5 := hk5.at' HW.out.l
  have HK5 := Lib.hid hk5
  clear hb hg5 hb5 hw5 hk5 ca cx
  go_wp2_with fail
  go_quiet (fail)
  go_wp2_with fail
  refine (fail_any g _).mono ?_
  rintro e w6 ⟨⟨u, pv, rfl⟩, rfl⟩
  exact ⟨rfl, grown_drewN HG5.out _, ⟨_, _, rfl⟩⟩
set_option maxRecDepth 100000 in
set_option maxHeartbeats 2000000 in
theorem codesGet_yes4 (gc g : Nat) (ws : List Nat) (N p q : Nat) (w : World) (hcs : CodesAt w gc) (h : RK w g ws (N : Int) (p : Int)) (hw : RdW ws N) (hp : p ≤ N) (hr : onesR ws N 4 0 p = some (4, q)) (hc : q + 42 ≤ N) (Q : Nat) (hQ : q + 42 = Q)
    (D : Int) (hD : (BM.getW ws q 42 : Int) - 2199023255552 = D) (n : Nat) (hn : (codeB D).length = n) (hnq : n = Q - p) :
    Calls Tryd.prog 114 #[.pointer (some ⟨gc, 0, none⟩), .pointer (some ⟨g, 0, none⟩)] w (RdOut g ws N (some (.int .i64 D, Q)) w) := by
  obtain ⟨ph0, pq0, pb0, po0, ph1, pq1, pb1, po1, ph2, pq2, pb2, po2, ph3, pq3, pb3, po3, ph4, pq4, pb4, po4, hv⟩ := hcs.named
  have ca := h.at' hw.l
  have hqN : q ≤ N := (onesR_le ws N 4 0 p 4 q hr hp).2.2.1
  have hgc := ne_of_size hv.hc h (by rw [rdCells_size hw.l]; simp)
  have hpb := ne_of_size hv.p4.h5 h (by rw [rdCells_size hw.l]; simp)
  have hpo := ne_of_size hv.p4.h6 h (by rw [rdCells_size hw.l]; simp)
  have keep := fun (W : World) (k : w.grownBy W (some g)) => show W.cell? ⟨gc, 9, none⟩ = w.cell? ⟨gc, 9, none⟩ ∧ W.heap[pb4]? = w.heap[pb4]? ∧ W.heap[po4]? = w.heap[po4]? from
    have e := k.block gc (heap_lt hv.hc) (by intro he; injection he with he; exact hgc he)
    ⟨by rw [cell_of_row w gc 9 _ _ _ hv.hc, cell_of_row W gc 9 _ _ _ (e.trans hv.hc)], k.block pb4 (heap_lt hv.p4.h5) (by intro he; injection he with he; exact hpb he), k.block po4 (heap_lt hv.p4.h6) (by intro he; injection he with he; exact hpo he)⟩
  have T := Lib.hid (fun (W : World) (hk : RK W g ws (N : Int) (p : Int)) (hG : w.grownBy W (some g)) => (ones_any g ws N p W hk hw hp).mono (R' := fun e w' => e = .returned (.int .i64 4) ∧ RK w' g ws (N : Int) (q : Int) ∧ w.grownBy w' (some g) ∧ w'.cell? ⟨gc, 9, none⟩ = some (.func (.func 127) #[] #[.pointer (some ⟨pb4, 0, none⟩), .pointer (some ⟨po4, 0, none⟩)])) (fun e w' x => by
    have x' := x.some' (v := .int .i64 4) (q := q) (by rw [hr]; rfl)
    exact ⟨x'.1, x'.2.1, grown_trans hG x'.2.2, ((keep _ (grown_trans hG x'.2.2)).1).trans hv.b4⟩))
  have T2 := Lib.hid (fun (W : World) (hk : RK W g ws (N : Int) (q : Int)) (hG : w.grownBy W (some g)) => (getClos_any pb4 po4 g 42 2199023255552 ws N q W ((keep W hG).2.1.trans hv.p4.h5) ((keep W hG).2.2.trans hv.p4.h6) hk hw (by omega) hqN (by omega) (by omega)).mono (R' := fun e w' => e = .returned (.int .i64 D) ∧ RK w' g ws (N : Int) (Q : Int) ∧ w.grownBy w' (some g) ∧ CodesAt w' gc) (fun e w' x => by
    have x' := x.some' (v := .int .i64 D) (q := Q) (by unfold offR; rw [if_pos hc, ← hD, ← hQ])
    exact ⟨x'.1, x'.2.1, grown_trans hG x'.2.2, hcs.grown h (by rw [rdCells_size hw.l]; simp) hgc (grown_trans hG x'.2.2)⟩))
  have HK := Lib.hid h
  have HW := Lib.hid hw
  have hpq : p ≤ q := (onesR_le ws N 4 0 p 4 q hr hp).2.1
  have hQN : Q ≤ N := by omega
  have hN := hw.n
  have Hn := Lib.hid hn
  have hpQ : p ≤ Q := by omega
  have hwr : IntKind.i64.wrap ((Q : Int) - (p : Int)) = (Q : Int) - (p : Int) := IntWalk.i64_in _ (by omega)
  have hne : (n : Int) = (Q : Int) - (p : Int) := by omega
  clear h hw hp hr hcs hv hpb hpo keep hgc hc hqN hD hQ hn hnq hpq
  go_enter Tryd.func114, Tryd.ntmps114
  go_wp2_with fail
  go_region_law (first
    | (go_simp; go_at_call 123; (refine (T.out _ (by first | exact HK.out | exact HK.out.drew) (by first | exact grownBy_rfl w _ | exact grown_drew1 (grownBy_rfl w _))).mono ?_); rintro e w3 ⟨rfl, hk3, hg3, cx⟩; have HK3 := Lib.hid hk3; have HG3 := Lib.hid hg3; clear hk3 hg3)
    | (go_simp; go_at_call 127; (refine (T2.out _ (RowKit.Hid.out (by assumption)) (RowKit.Hid.out (by assumption))).mono ?_); rintro e w4 ⟨rfl, hk4, hg4, hcs4⟩; have HK4 := Lib.hid hk4; have HG4 := Lib.hid hg4; have HC4 := Lib.hid hcs4; clear hk4 hg4 hcs4))
  go_simp
  go_wp2_with (first
    | (with_reducible refine wl_alloc_ba ?_))
  have hb : Below w4.heap.size w4 (w4.alloc (.cells (baCells zeroWs 0) 113)) := (Below.refl w4.heap.size w4).alloc (Nat.le_refl _) _
  refine (codesPut_any w4.heap.size gc [] D _ (HC4.out.below hb) (ba_new w4) (by simp)).mono ?_
  rintro e w5 ⟨rfl, hl5, hg5⟩
  rw [List.nil_append] at hl5
  have hk5 := (HK4.out.below hb).grown hg5 (by have := HK4.out.lt; omega)
  have HG5 := Lib.hid (grown_put HG4.out hb hg5)
  obtain ⟨ws5, hb5, hw5⟩ := hl5
  have cn := hb5.last hw5.1
  rw [Hn.out] at cn
  have ca5 := hk5.at' HW.out.l
  have HK5 := Lib.hid hk5
  clear hb hg5 hb5 hw5 hk5 ca cx
  go_wp2_with fail
  go_quiet (fail)
  go_wp2_with fail
  go_ret
  exact ⟨grown_drewN HG5.out _, rfl, HK5.out⟩
set_option maxRecDepth 100000 in
set_option maxHeartbeats 2000000 in
theorem codesGet_odd4 (gc g : Nat) (ws : List Nat) (N p q : Nat) (w : World) (hcs : CodesAt w gc) (h : RK w g ws (N : Int) (p : Int)) (hw : RdW ws N) (hp : p ≤ N) (hr : onesR ws N 4 0 p = some (4, q)) (hc : q + 42 ≤ N) (Q : Nat) (hQ : q + 42 = Q)
    (D : Int) (hD : (BM.getW ws q 42 : Int) - 2199023255552 = D) (n : Nat) (hn : (codeB D).length = n) (hnq : ¬ n = Q - p) :
    Calls Tryd.prog 114 #[.pointer (some ⟨gc, 0, none⟩), .pointer (some ⟨g, 0, none⟩)] w (RdOut g ws N none w) := by
  obtain ⟨ph0, pq0, pb0, po0, ph1, pq1, pb1, po1, ph2, pq2, pb2, po2, ph3, pq3, pb3, po3, ph4, pq4, pb4, po4, hv⟩ := hcs.named
  have ca := h.at' hw.l
  have hqN : q ≤ N := (onesR_le ws N 4 0 p 4 q hr hp).2.2.1
  have hgc := ne_of_size hv.hc h (by rw [rdCells_size hw.l]; simp)
  have hpb := ne_of_size hv.p4.h5 h (by rw [rdCells_size hw.l]; simp)
  have hpo := ne_of_size hv.p4.h6 h (by rw [rdCells_size hw.l]; simp)
  have keep := fun (W : World) (k : w.grownBy W (some g)) => show W.cell? ⟨gc, 9, none⟩ = w.cell? ⟨gc, 9, none⟩ ∧ W.heap[pb4]? = w.heap[pb4]? ∧ W.heap[po4]? = w.heap[po4]? from
    have e := k.block gc (heap_lt hv.hc) (by intro he; injection he with he; exact hgc he)
    ⟨by rw [cell_of_row w gc 9 _ _ _ hv.hc, cell_of_row W gc 9 _ _ _ (e.trans hv.hc)], k.block pb4 (heap_lt hv.p4.h5) (by intro he; injection he with he; exact hpb he), k.block po4 (heap_lt hv.p4.h6) (by intro he; injection he with he; exact hpo he)⟩
  have T := Lib.hid (fun (W : World) (hk : RK W g ws (N : Int) (p : Int)) (hG : w.grownBy W (some g)) => (ones_any g ws N p W hk hw hp).mono (R' := fun e w' => e = .returned (.int .i64 4) ∧ RK w' g ws (N : Int) (q : Int) ∧ w.grownBy w' (some g) ∧ w'.cell? ⟨gc, 9, none⟩ = some (.func (.func 127) #[] #[.pointer (some ⟨pb4, 0, none⟩), .pointer (some ⟨po4, 0, none⟩)])) (fun e w' x => by
    have x' := x.some' (v := .int .i64 4) (q := q) (by rw [hr]; rfl)
    exact ⟨x'.1, x'.2.1, grown_trans hG x'.2.2, ((keep _ (grown_trans hG x'.2.2)).1).trans hv.b4⟩))
  have T2 := Lib.hid (fun (W : World) (hk : RK W g ws (N : Int) (q : Int)) (hG : w.grownBy W (some g)) => (getClos_any pb4 po4 g 42 2199023255552 ws N q W ((keep W hG).2.1.trans hv.p4.h5) ((keep W hG).2.2.trans hv.p4.h6) hk hw (by omega) hqN (by omega) (by omega)).mono (R' := fun e w' => e = .returned (.int .i64 D) ∧ RK w' g ws (N : Int) (Q : Int) ∧ w.grownBy w' (some g) ∧ CodesAt w' gc) (fun e w' x => by
    have x' := x.some' (v := .int .i64 D) (q := Q) (by unfold offR; rw [if_pos hc, ← hD, ← hQ])
    exact ⟨x'.1, x'.2.1, grown_trans hG x'.2.2, hcs.grown h (by rw [rdCells_size hw.l]; simp) hgc (grown_trans hG x'.2.2)⟩))
  have HK := Lib.hid h
  have HW := Lib.hid hw
  have hpq : p ≤ q := (onesR_le ws N 4 0 p 4 q hr hp).2.1
  have hQN : Q ≤ N := by omega
  have hN := hw.n
  have Hn := Lib.hid hn
  have hpQ : p ≤ Q := by omega
  have hwr : IntKind.i64.wrap ((Q : Int) - (p : Int)) = (Q : Int) - (p : Int) := IntWalk.i64_in _ (by omega)
  have hne : ¬ (n : Int) = (Q : Int) - (p : Int) := by omega
  clear h hw hp hr hcs hv hpb hpo keep hgc hc hqN hD hQ hn hnq hpq
  go_enter Tryd.func114, Tryd.ntmps114
  go_wp2_with fail
  go_region_law (first
    | (go_simp; go_at_call 123; (refine (T.out _ (by first | exact HK.out | exact HK.out.drew) (by first | exact grownBy_rfl w _ | exact grown_drew1 (grownBy_rfl w _))).mono ?_); rintro e w3 ⟨rfl, hk3, hg3, cx⟩; have HK3 := Lib.hid hk3; have HG3 := Lib.hid hg3; clear hk3 hg3)
    | (go_simp; go_at_call 127; (refine (T2.out _ (RowKit.Hid.out (by assumption)) (RowKit.Hid.out (by assumption))).mono ?_); rintro e w4 ⟨rfl, hk4, hg4, hcs4⟩; have HK4 := Lib.hid hk4; have HG4 := Lib.hid hg4; have HC4 := Lib.hid hcs4; clear hk4 hg4 hcs4))
  go_simp
  go_wp2_with (first
    | (with_reducible refine wl_alloc_ba ?_))
  have hb : Below w4.heap.size w4 (w4.alloc (.cells (baCells zeroWs 0) 113)) := (Below.refl w4.heap.size w4).alloc (Nat.le_refl _) _
  refine (codesPut_any w4.heap.size gc [] D _ (HC4.out.below hb) (ba_new w4) (by simp)).mono ?_
  rintro e w5 ⟨rfl, hl5, hg5⟩
  rw [List.nil_append] at hl5
  have hk5 := (HK4.out.below hb).grown hg5 (by have := HK4.out.lt; omega)
  have HG5 := Lib.hid (grown_put HG4.out hb hg5)
  obtain ⟨ws5, hb5, hw5⟩ := hl5
  have cn := hb5.last hw5.1
  rw [Hn.out] at cn
  have ca5 := hk5.at' HW.out.l
  have HK5 := Lib.hid hk5
  clear hb hg5 hb5 hw5 hk5 ca cx
  go_wp2_with fail
  go_quiet (fail)
  go_wp2_with fail
  refine (fail_any g _).mono ?_
  rintro e w6 ⟨⟨u, pv, rfl⟩, rfl⟩
  exact ⟨rfl, grown_drewN HG5.out _, ⟨_, _, rfl⟩⟩
end Go.Proofs.YtanoohfhifhhaaaDoor

/- Walks: the program's reader of bits: the codes' get, all its ends. -/
set_option linter.unusedVariables false
set_option linter.unusedSimpArgs false
namespace Go.Proofs.YtanoohfhifhhaaaDoor
open Go.RowKit

theorem codesGet_any (gc g : Nat) (ws : List Nat) (N p : Nat) (w : World) (hcs : CodesAt w gc) (h : RK w g ws (N : Int) (p : Int)) (hw : RdW ws N) (hp : p ≤ N) :
    Calls Tryd.prog 114 #[.pointer (some ⟨gc, 0, none⟩), .pointer (some ⟨g, 0, none⟩)] w (RdOut g ws N (i64R (getR ws N p)) w) := by
  cases hr : onesR ws N 4 0 p with
  | none =>
    have e : i64R (getR ws N p) = none := by simp [getR, hr, i64R]
    rw [e]
    exact codesGet_cry gc g ws N p w h hw hp hr
  | some iq =>
    obtain ⟨i, q⟩ := iq
    have hi := (onesR_le ws N 4 0 p i q hr hp).1
    by_cases hc : q + bitsI i ≤ N
    · by_cases hn : (codeB ((BM.getW ws q (bitsI i) : Int) - offI i)).length = q + bitsI i - p
      · have e : i64R (getR ws N p) = some (.int .i64 ((BM.getW ws q (bitsI i) : Int) - offI i), q + bitsI i) := by simp [getR, hr, hc, hn, i64R]
        rw [e]
        match i, hi, hr, hc, hn with
        | 0, _, hr, hc, hn => exact codesGet_yes0 gc g ws N p q w hcs h hw hp hr hc _ rfl _ rfl _ rfl hn
        | 1, _, hr, hc, hn => exact codesGet_yes1 gc g ws N p q w hcs h hw hp hr hc _ rfl _ rfl _ rfl hn
        | 2, _, hr, hc, hn => exact codesGet_yes2 gc g ws N p q w hcs h hw hp hr hc _ rfl _ rfl _ rfl hn
        | 3, _, hr, hc, hn => exact codesGet_yes3 gc g ws N p q w hcs h hw hp hr hc _ rfl _ rfl _ rfl hn
        | 4, _, hr, hc, hn => exact codesGet_yes4 gc g ws N p q w hcs h hw hp hr hc _ rfl _ rfl _ rfl hn
      · have e : i64R (getR ws N p) = none := by simp [getR, hr, hc, hn, i64R]
        rw [e]
        match i, hi, hr, hc, hn with
        | 0, _, hr, hc, hn => exact codesGet_odd0 gc g ws N p q w hcs h hw hp hr hc _ rfl _ rfl _ rfl hn
        | 1, _, hr, hc, hn => exact codesGet_odd1 gc g ws N p q w hcs h hw hp hr hc _ rfl _ rfl _ rfl hn
        | 2, _, hr, hc, hn => exact codesGet_odd2 gc g ws N p q w hcs h hw hp hr hc _ rfl _ rfl _ rfl hn
        | 3, _, hr, hc, hn => exact codesGet_odd3 gc g ws N p q w hcs h hw hp hr hc _ rfl _ rfl _ rfl hn
        | 4, _, hr, hc, hn => exact codesGet_odd4 gc g ws N p q w hcs h hw hp hr hc _ rfl _ rfl _ rfl hn
    · have e : i64R (getR ws N p) = none := by simp [getR, hr, hc, i64R]
      rw [e]
      match i, hi, hr, hc with
      | 0, _, hr, hc => exact codesGet_no0 gc g ws N p q w hcs h hw hp hr hc
      | 1, _, hr, hc => exact codesGet_no1 gc g ws N p q w hcs h hw hp hr hc
      | 2, _, hr, hc => exact codesGet_no2 gc g ws N p q w hcs h hw hp hr hc
      | 3, _, hr, hc => exact codesGet_no3 gc g ws N p q w hcs h hw hp hr hc
      | 4, _, hr, hc => exact codesGet_no4 gc g ws N p q w hcs h hw hp hr hc
end Go.Proofs.YtanoohfhifhhaaaDoor
