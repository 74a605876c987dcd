/- Walks: the program appends a code: the five codes in turn. -/
import Derived.Test.YtanoohfhifhhaaaDoorCc
import Derived.Test.YtanoohfhifhhaaaDoorWo
import Derived.OpenShut
set_option linter.unusedVariables false
set_option linter.unusedSimpArgs false
namespace Go.Proofs.YtanoohfhifhhaaaDoor
open Go.RowKit

structure ClosP (W : World) (ph pq pb po : Nat) (h hb b o : Int) : Prop where
  h3 : W.heap[ph]? = some (.cells #[.int .u64 h] 110 (0, 0))
  h4 : W.heap[pq]? = some (.cells #[.int .i64 hb] 2 (0, 0))
  h5 : W.heap[pb]? = some (.cells #[.int .i64 b] 2 (0, 0))
  h6 : W.heap[po]? = some (.cells #[.int .i64 o] 2 (0, 0))
theorem ClosP.below {W W' : World} {ph pq pb po : Nat} {h hb b o : Int} (p : ClosP W ph pq pb po h hb b o) (k : Below W.heap.size W W') : ClosP W' ph pq pb po h hb b o :=
  ⟨(k.block _ (heap_lt p.h3)).trans p.h3, (k.block _ (heap_lt p.h4)).trans p.h4, (k.block _ (heap_lt p.h5)).trans p.h5, (k.block _ (heap_lt p.h6)).trans p.h6⟩
theorem below_grown {a b c : World} {row : Option Nat} (h : Below a.heap.size a b) (k : b.grownBy c row) : a.grownBy c row :=
  ⟨k.os.trans h.os, k.tape.trans h.tape, k.output.trans h.output, Nat.le_trans h.size k.size, fun i hi hne => (k.block i (Nat.lt_of_lt_of_le hi h.size) hne).trans (h.block i hi)⟩
/-- the block of the codes, the pointers named -/
structure CodesV (W : World) (gc ph0 pq0 pb0 po0 ph1 pq1 pb1 po1 ph2 pq2 pb2 po2 ph3 pq3 pb3 po3 ph4 pq4 pb4 po4 : Nat) : Prop where
  hc : W.heap[gc]? = some (.cells #[.func (.func 125) #[] #[.pointer (some ⟨po0, 0, none⟩), .pointer (some ⟨pb0, 0, none⟩), .pointer (some ⟨ph0, 0, none⟩), .pointer (some ⟨pq0, 0, none⟩)], .func (.func 127) #[] #[.pointer (some ⟨pb0, 0, none⟩), .pointer (some ⟨po0, 0, none⟩)], .func (.func 125) #[] #[.pointer (some ⟨po1, 0, none⟩), .pointer (some ⟨pb1, 0, none⟩), .pointer (some ⟨ph1, 0, none⟩), .pointer (some ⟨pq1, 0, none⟩)], .func (.func 127) #[] #[.pointer (some ⟨pb1, 0, none⟩), .pointer (some ⟨po1, 0, none⟩)], .func (.func 125) #[] #[.pointer (some ⟨po2, 0, none⟩), .pointer (some ⟨pb2, 0, none⟩), .pointer (some ⟨ph2, 0, none⟩), .pointer (some ⟨pq2, 0, none⟩)], .func (.func 127) #[] #[.pointer (some ⟨pb2, 0, none⟩), .pointer (some ⟨po2, 0, none⟩)], .func (.func 125) #[] #[.pointer (some ⟨po3, 0, none⟩), .pointer (some ⟨pb3, 0, none⟩), .pointer (some ⟨ph3, 0, none⟩), .pointer (some ⟨pq3, 0, none⟩)], .func (.func 127) #[] #[.pointer (some ⟨pb3, 0, none⟩), .pointer (some ⟨po3, 0, none⟩)], .func (.func 125) #[] #[.pointer (some ⟨po4, 0, none⟩), .pointer (some ⟨pb4, 0, none⟩), .pointer (some ⟨ph4, 0, none⟩), .pointer (some ⟨pq4, 0, none⟩)], .func (.func 127) #[] #[.pointer (some ⟨pb4, 0, none⟩), .pointer (some ⟨po4, 0, none⟩)]] 150 (0, 0))
  p0 : ClosP W ph0 pq0 pb0 po0 0 1 0 0
  p1 : ClosP W ph1 pq1 pb1 po1 2 2 7 63
  p2 : ClosP W ph2 pq2 pb2 po2 6 3 9 255
  p3 : ClosP W ph3 pq3 pb3 po3 14 4 12 2047
  p4 : ClosP W ph4 pq4 pb4 po4 15 4 42 2199023255552
theorem CodesV.below {W W' : World} {gc ph0 pq0 pb0 po0 ph1 pq1 pb1 po1 ph2 pq2 pb2 po2 ph3 pq3 pb3 po3 ph4 pq4 pb4 po4 : Nat} (p : CodesV W gc ph0 pq0 pb0 po0 ph1 pq1 pb1 po1 ph2 pq2 pb2 po2 ph3 pq3 pb3 po3 ph4 pq4 pb4 po4) (k : Below W.heap.size W W') : CodesV W' gc ph0 pq0 pb0 po0 ph1 pq1 pb1 po1 ph2 pq2 pb2 po2 ph3 pq3 pb3 po3 ph4 pq4 pb4 po4 :=
  ⟨(k.block _ (heap_lt p.hc)).trans p.hc, p.p0.below k, p.p1.below k, p.p2.below k, p.p3.below k, p.p4.below k⟩
theorem CodesAt.named {W : World} {gc : Nat} (p : CodesAt W gc) : ∃ ph0 pq0 pb0 po0 ph1 pq1 pb1 po1 ph2 pq2 pb2 po2 ph3 pq3 pb3 po3 ph4 pq4 pb4 po4, CodesV W gc ph0 pq0 pb0 po0 ph1 pq1 pb1 po1 ph2 pq2 pb2 po2 ph3 pq3 pb3 po3 ph4 pq4 pb4 po4 := by
  obtain ⟨a0, b0, a1, b1, a2, b2, a3, b3, a4, b4, h, c0, c1, c2, c3, c4⟩ := p
  obtain ⟨ph0, pq0, pb0, po0, rfl, rfl, x0, y0, z0, u0⟩ := c0.ex
  obtain ⟨ph1, pq1, pb1, po1, rfl, rfl, x1, y1, z1, u1⟩ := c1.ex
  obtain ⟨ph2, pq2, pb2, po2, rfl, rfl, x2, y2, z2, u2⟩ := c2.ex
  obtain ⟨ph3, pq3, pb3, po3, rfl, rfl, x3, y3, z3, u3⟩ := c3.ex
  obtain ⟨ph4, pq4, pb4, po4, rfl, rfl, x4, y4, z4, u4⟩ := c4.ex
  exact ⟨ph0, pq0, pb0, po0, ph1, pq1, pb1, po1, ph2, pq2, pb2, po2, ph3, pq3, pb3, po3, ph4, pq4, pb4, po4, ⟨h, ⟨x0, y0, z0, u0⟩, ⟨x1, y1, z1, u1⟩, ⟨x2, y2, z2, u2⟩, ⟨x3, y3, z3, u3⟩, ⟨x4, y4, z4, u4⟩⟩⟩
theorem CodesV.a0 {W : World} {gc ph0 pq0 pb0 po0 ph1 pq1 pb1 po1 ph2 pq2 pb2 po2 ph3 pq3 pb3 po3 ph4 pq4 pb4 po4 : Nat} (p : CodesV W gc ph0 pq0 pb0 po0 ph1 pq1 pb1 po1 ph2 pq2 pb2 po2 ph3 pq3 pb3 po3 ph4 pq4 pb4 po4) : W.cell? ⟨gc, 0, none⟩ = some (.func (.func 125) #[] #[.pointer (some ⟨po0, 0, none⟩), .pointer (some ⟨pb0, 0, none⟩), .pointer (some ⟨ph0, 0, none⟩), .pointer (some ⟨pq0, 0, none⟩)]) := by rw [cell_of_row W gc 0 _ _ _ p.hc]; rfl
theorem CodesV.b0 {W : World} {gc ph0 pq0 pb0 po0 ph1 pq1 pb1 po1 ph2 pq2 pb2 po2 ph3 pq3 pb3 po3 ph4 pq4 pb4 po4 : Nat} (p : CodesV W gc ph0 pq0 pb0 po0 ph1 pq1 pb1 po1 ph2 pq2 pb2 po2 ph3 pq3 pb3 po3 ph4 pq4 pb4 po4) : W.cell? ⟨gc, 1, none⟩ = some (.func (.func 127) #[] #[.pointer (some ⟨pb0, 0, none⟩), .pointer (some ⟨po0, 0, none⟩)]) := by rw [cell_of_row W gc 1 _ _ _ p.hc]; rfl
theorem CodesV.a1 {W : World} {gc ph0 pq0 pb0 po0 ph1 pq1 pb1 po1 ph2 pq2 pb2 po2 ph3 pq3 pb3 po3 ph4 pq4 pb4 po4 : Nat} (p : CodesV W gc ph0 pq0 pb0 po0 ph1 pq1 pb1 po1 ph2 pq2 pb2 po2 ph3 pq3 pb3 po3 ph4 pq4 pb4 po4) : W.cell? ⟨gc, 2, none⟩ = some (.func (.func 125) #[] #[.pointer (some ⟨po1, 0, none⟩), .pointer (some ⟨pb1, 0, none⟩), .pointer (some ⟨ph1, 0, none⟩), .pointer (some ⟨pq1, 0, none⟩)]) := by rw [cell_of_row W gc 2 _ _ _ p.hc]; rfl
theorem CodesV.b1 {W : World} {gc ph0 pq0 pb0 po0 ph1 pq1 pb1 po1 ph2 pq2 pb2 po2 ph3 pq3 pb3 po3 ph4 pq4 pb4 po4 : Nat} (p : CodesV W gc ph0 pq0 pb0 po0 ph1 pq1 pb1 po1 ph2 pq2 pb2 po2 ph3 pq3 pb3 po3 ph4 pq4 pb4 po4) : W.cell? ⟨gc, 3, none⟩ = some (.func (.func 127) #[] #[.pointer (some ⟨pb1, 0, none⟩), .pointer (some ⟨po1, 0, none⟩)]) := by rw [cell_of_row W gc 3 _ _ _ p.hc]; rfl
theorem CodesV.a2 {W : World} {gc ph0 pq0 pb0 po0 ph1 pq1 pb1 po1 ph2 pq2 pb2 po2 ph3 pq3 pb3 po3 ph4 pq4 pb4 po4 : Nat} (p : CodesV W gc ph0 pq0 pb0 po0 ph1 pq1 pb1 po1 ph2 pq2 pb2 po2 ph3 pq3 pb3 po3 ph4 pq4 pb4 po4) : W.cell? ⟨gc, 4, none⟩ = some (.func (.func 125) #[] #[.pointer (some ⟨po2, 0, none⟩), .pointer (some ⟨pb2, 0, none⟩), .pointer (some ⟨ph2, 0, none⟩), .pointer (some ⟨pq2, 0, none⟩)]) := by rw [cell_of_row W gc 4 _ _ _ p.hc]; rfl
theorem CodesV.b2 {W : World} {gc ph0 pq0 pb0 po0 ph1 pq1 pb1 po1 ph2 pq2 pb2 po2 ph3 pq3 pb3 po3 ph4 pq4 pb4 po4 : Nat} (p : CodesV W gc ph0 pq0 pb0 po0 ph1 pq1 pb1 po1 ph2 pq2 pb2 po2 ph3 pq3 pb3 po3 ph4 pq4 pb4 po4) : W.cell? ⟨gc, 5, none⟩ = some (.func (.func 127) #[] #[.pointer (some ⟨pb2, 0, none⟩), .pointer (some ⟨po2, 0, none⟩)]) := by rw [cell_of_row W gc 5 _ _ _ p.hc]; rfl
theorem CodesV.a3 {W : World} {gc ph0 pq0 pb0 po0 ph1 pq1 pb1 po1 ph2 pq2 pb2 po2 ph3 pq3 pb3 po3 ph4 pq4 pb4 po4 : Nat} (p : CodesV W gc ph0 pq0 pb0 po0 ph1 pq1 pb1 po1 ph2 pq2 pb2 po2 ph3 pq3 pb3 po3 ph4 pq4 pb4 po4) : W.cell? ⟨gc, 6, none⟩ = some (.func (.func 125) #[] #[.pointer (some ⟨po3, 0, none⟩), .pointer (some ⟨pb3, 0, none⟩), .pointer (some ⟨ph3, 0, none⟩), .pointer (some ⟨pq3, 0, none⟩)]) := by rw [cell_of_row W gc 6 _ _ _ p.hc]; rfl
theorem CodesV.b3 {W : World} {gc ph0 pq0 pb0 po0 ph1 pq1 pb1 po1 ph2 pq2 pb2 po2 ph3 pq3 pb3 po3 ph4 pq4 pb4 po4 : Nat} (p : CodesV W gc ph0 pq0 pb0 po0 ph1 pq1 pb1 po1 ph2 pq2 pb2 po2 ph3 pq3 pb3 po3 ph4 pq4 pb4 po4) : W.cell? ⟨gc, 7, none⟩ = some (.func (.func 127) #[] #[.pointer (some ⟨pb3, 0, none⟩), .pointer (some ⟨po3, 0, none⟩)]) := by rw [cell_of_row W gc 7 _ _ _ p.hc]; rfl
theorem CodesV.a4 {W : World} {gc ph0 pq0 pb0 po0 ph1 pq1 pb1 po1 ph2 pq2 pb2 po2 ph3 pq3 pb3 po3 ph4 pq4 pb4 po4 : Nat} (p : CodesV W gc ph0 pq0 pb0 po0 ph1 pq1 pb1 po1 ph2 pq2 pb2 po2 ph3 pq3 pb3 po3 ph4 pq4 pb4 po4) : W.cell? ⟨gc, 8, none⟩ = some (.func (.func 125) #[] #[.pointer (some ⟨po4, 0, none⟩), .pointer (some ⟨pb4, 0, none⟩), .pointer (some ⟨ph4, 0, none⟩), .pointer (some ⟨pq4, 0, none⟩)]) := by rw [cell_of_row W gc 8 _ _ _ p.hc]; rfl
theorem CodesV.b4 {W : World} {gc ph0 pq0 pb0 po0 ph1 pq1 pb1 po1 ph2 pq2 pb2 po2 ph3 pq3 pb3 po3 ph4 pq4 pb4 po4 : Nat} (p : CodesV W gc ph0 pq0 pb0 po0 ph1 pq1 pb1 po1 ph2 pq2 pb2 po2 ph3 pq3 pb3 po3 ph4 pq4 pb4 po4) : W.cell? ⟨gc, 9, none⟩ = some (.func (.func 127) #[] #[.pointer (some ⟨pb4, 0, none⟩), .pointer (some ⟨po4, 0, none⟩)]) := by rw [cell_of_row W gc 9 _ _ _ p.hc]; rfl

set_option maxRecDepth 100000 in
set_option maxHeartbeats 2000000 in
theorem codesPut_0 (g gc : Nat) (l : List Bool) (d : Int) (w : World) (hcs : CodesAt w gc) (hl : BitsAt w g l) (hr0 : -1000000000000 ≤ d) (hr1 : d ≤ 1000000000000) (hn : l.length + 46 ≤ 20000) (F0 : fitsB (d + 0) 0 = true)
    (L : List Bool) (hL : Hid ((l ++ BM.digits 0 1) ++ BM.digits (u64of (d + 0)) 0 = L)) :
    Calls Tryd.prog 99 #[.pointer (some ⟨gc, 0, none⟩), .pointer (some ⟨g, 0, none⟩), .int .i64 d] w (PutPost g L (.tuple #[]) w) := by
  obtain ⟨ph0, pq0, pb0, po0, ph1, pq1, pb1, po1, ph2, pq2, pb2, po2, ph3, pq3, pb3, po3, ph4, pq4, pb4, po4, hv⟩ := hcs.named
  have hs1 := fun (a : Addr) (c : Array Value) (w : World) => run_store Tryd.prog w a (.func (.func 125) #[] c) .plain rfl
  have hs2 := fun (a : Addr) (c : Array Value) (w : World) => run_store Tryd.prog w a (.func (.func 127) #[] c) .plain rfl
  have C0 := Lib.hid (fun (W : World) (q : ClosP W ph0 pq0 pb0 po0 0 1 0 0) (hl : BitsAt W g l) => putClos_yes ph0 pq0 pb0 po0 g 0 1 0 0 d l W q.h3 q.h4 q.h5 q.h6 hl (by unfold wrap64; omega) F0 (by decide) (by decide) (by decide) (by omega))
  have Hl := Lib.hid hl
  have HV := Lib.hid hv
  have HB := Lib.hid (Below.refl w.heap.size w)
  have hgc := heap_lt hv.hc
  have x0 := hv.a0
  have y0 := hv.b0
  clear hcs hl hv F0
  go_enter Tryd.func99, Tryd.ntmps99
  go_wp2_with fail
  refine wp_loop_rounds 1 ?_
  rw [rounds_succ]
  have k0 : Below w.heap.size w (w.alloc (.cells #[.func (.func 125) #[] #[.pointer (some ⟨po0, 0, none⟩), .pointer (some ⟨pb0, 0, none⟩), .pointer (some ⟨ph0, 0, none⟩), .pointer (some ⟨pq0, 0, none⟩)], .func (.func 127) #[] #[.pointer (some ⟨pb0, 0, none⟩), .pointer (some ⟨po0, 0, none⟩)]] 147)) := below1 w _
  have V0 := Lib.hid (HV.out.below k0)
  have B0 := Lib.hid (HB.out.trans (k0.mono HB.out.size))
  have L0 := Lib.hid (Hl.out.below k0)
  clear k0
  go_wp2_with fail
  refine (C0.out _ V0.out.p0 L0.out).mono ?_
  rintro e w9 ⟨rfl, hl9, hg9⟩
  have H9 := Lib.hid (below_grown B0.out hg9)
  have L9 := Lib.hid hl9
  clear hl9 hg9 x0 y0
  go_wp2_with fail
  go_end0
  exact ⟨rfl, hL.out ▸ L9.out, H9.out⟩

set_option maxRecDepth 100000 in
set_option maxHeartbeats 2000000 in
theorem codesPut_1 (g gc : Nat) (l : List Bool) (d : Int) (w : World) (hcs : CodesAt w gc) (hl : BitsAt w g l) (hr0 : -1000000000000 ≤ d) (hr1 : d ≤ 1000000000000) (hn : l.length + 46 ≤ 20000) (F0 : fitsB (d + 0) 0 = false) (F1 : fitsB (d + 63) 7 = true)
    (L : List Bool) (hL : Hid ((l ++ BM.digits 2 2) ++ BM.digits (u64of (d + 63)) 7 = L)) :
    Calls Tryd.prog 99 #[.pointer (some ⟨gc, 0, none⟩), .pointer (some ⟨g, 0, none⟩), .int .i64 d] w (PutPost g L (.tuple #[]) w) := by
  obtain ⟨ph0, pq0, pb0, po0, ph1, pq1, pb1, po1, ph2, pq2, pb2, po2, ph3, pq3, pb3, po3, ph4, pq4, pb4, po4, hv⟩ := hcs.named
  have hs1 := fun (a : Addr) (c : Array Value) (w : World) => run_store Tryd.prog w a (.func (.func 125) #[] c) .plain rfl
  have hs2 := fun (a : Addr) (c : Array Value) (w : World) => run_store Tryd.prog w a (.func (.func 127) #[] c) .plain rfl
  have C0 := Lib.hid (fun (p : Value) (W : World) (q : ClosP W ph0 pq0 pb0 po0 0 1 0 0) => putClos_no ph0 pq0 pb0 po0 0 1 0 0 p d W q.h3 q.h4 q.h5 q.h6 (by unfold wrap64; omega) F0)
  have C1 := Lib.hid (fun (W : World) (q : ClosP W ph1 pq1 pb1 po1 2 2 7 63) (hl : BitsAt W g l) => putClos_yes ph1 pq1 pb1 po1 g 2 2 7 63 d l W q.h3 q.h4 q.h5 q.h6 hl (by unfold wrap64; omega) F1 (by decide) (by decide) (by decide) (by omega))
  have Hl := Lib.hid hl
  have HV := Lib.hid hv
  have HB := Lib.hid (Below.refl w.heap.size w)
  have hgc := heap_lt hv.hc
  have x0 := hv.a0
  have y0 := hv.b0
  clear hcs hl hv F0 F1
  go_enter Tryd.func99, Tryd.ntmps99
  go_wp2_with fail
  refine wp_loop_rounds 2 ?_
  rw [rounds_succ]
  have k0 : Below w.heap.size w (w.alloc (.cells #[.func (.func 125) #[] #[.pointer (some ⟨po0, 0, none⟩), .pointer (some ⟨pb0, 0, none⟩), .pointer (some ⟨ph0, 0, none⟩), .pointer (some ⟨pq0, 0, none⟩)], .func (.func 127) #[] #[.pointer (some ⟨pb0, 0, none⟩), .pointer (some ⟨po0, 0, none⟩)]] 147)) := below1 w _
  have V0 := Lib.hid (HV.out.below k0)
  have B0 := Lib.hid (HB.out.trans (k0.mono HB.out.size))
  have L0 := Lib.hid (Hl.out.below k0)
  clear k0
  go_wp2_with fail
  refine (C0.out _ _ V0.out.p0).mono ?_
  rintro e w1 ⟨rfl, hb⟩
  clear x0 y0 hgc HV HB Hl
  have hv := V0.out.below hb
  have HB := Lib.hid (B0.out.trans (hb.mono B0.out.size))
  have Hl := Lib.hid (L0.out.below hb)
  have HV := Lib.hid hv
  have hgc := heap_lt hv.hc
  have x1 := hv.a1
  have y1 := hv.b1
  clear hv hb V0 B0 L0
  go_wp2_with fail
  rw [rounds_succ]
  have k1 : Below w1.heap.size w1 (w1.alloc (.cells #[.func (.func 125) #[] #[.pointer (some ⟨po1, 0, none⟩), .pointer (some ⟨pb1, 0, none⟩), .pointer (some ⟨ph1, 0, none⟩), .pointer (some ⟨pq1, 0, none⟩)], .func (.func 127) #[] #[.pointer (some ⟨pb1, 0, none⟩), .pointer (some ⟨po1, 0, none⟩)]] 147)) := below1 w1 _
  have V1 := Lib.hid (HV.out.below k1)
  have B1 := Lib.hid (HB.out.trans (k1.mono HB.out.size))
  have L1 := Lib.hid (Hl.out.below k1)
  clear k1
  go_wp2_with fail
  refine (C1.out _ V1.out.p1 L1.out).mono ?_
  rintro e w9 ⟨rfl, hl9, hg9⟩
  have H9 := Lib.hid (below_grown B1.out hg9)
  have L9 := Lib.hid hl9
  clear hl9 hg9 x1 y1
  go_wp2_with fail
  go_end0
  exact ⟨rfl, hL.out ▸ L9.out, H9.out⟩

set_option maxRecDepth 100000 in
set_option maxHeartbeats 2000000 in
theorem codesPut_2 (g gc : Nat) (l : List Bool) (d : Int) (w : World) (hcs : CodesAt w gc) (hl : BitsAt w g l) (hr0 : -1000000000000 ≤ d) (hr1 : d ≤ 1000000000000) (hn : l.length + 46 ≤ 20000) (F0 : fitsB (d + 0) 0 = false) (F1 : fitsB (d + 63) 7 = false) (F2 : fitsB (d + 255) 9 = true)
    (L : List Bool) (hL : Hid ((l ++ BM.digits 6 3) ++ BM.digits (u64of (d + 255)) 9 = L)) :
    Calls Tryd.prog 99 #[.pointer (some ⟨gc, 0, none⟩), .pointer (some ⟨g, 0, none⟩), .int .i64 d] w (PutPost g L (.tuple #[]) w) := by
  obtain ⟨ph0, pq0, pb0, po0, ph1, pq1, pb1, po1, ph2, pq2, pb2, po2, ph3, pq3, pb3, po3, ph4, pq4, pb4, po4, hv⟩ := hcs.named
  have hs1 := fun (a : Addr) (c : Array Value) (w : World) => run_store Tryd.prog w a (.func (.func 125) #[] c) .plain rfl
  have hs2 := fun (a : Addr) (c : Array Value) (w : World) => run_store Tryd.prog w a (.func (.func 127) #[] c) .plain rfl
  have C0 := Lib.hid (fun (p : Value) (W : World) (q : ClosP W ph0 pq0 pb0 po0 0 1 0 0) => putClos_no ph0 pq0 pb0 po0 0 1 0 0 p d W q.h3 q.h4 q.h5 q.h6 (by unfold wrap64; omega) F0)
  have C1 := Lib.hid (fun (p : Value) (W : World) (q : ClosP W ph1 pq1 pb1 po1 2 2 7 63) => putClos_no ph1 pq1 pb1 po1 2 2 7 63 p d W q.h3 q.h4 q.h5 q.h6 (by unfold wrap64; omega) F1)
  have C2 := Lib.hid (fun (W : World) (q : ClosP W ph2 pq2 pb2 po2 6 3 9 255) (hl : BitsAt W g l) => putClos_yes ph2 pq2 pb2 po2 g 6 3 9 255 d l W q.h3 q.h4 q.h5 q.h6 hl (by unfold wrap64; omega) F2 (by decide) (by decide) (by decide) (by omega))
  have Hl := Lib.hid hl
  have HV := Lib.hid hv
  have HB := Lib.hid (Below.refl w.heap.size w)
  have hgc := heap_lt hv.hc
  have x0 := hv.a0
  have y0 := hv.b0
  clear hcs hl hv F0 F1 F2
  go_enter Tryd.func99, Tryd.ntmps99
  go_wp2_with fail
  refine wp_loop_rounds 3 ?_
  rw [rounds_succ]
  have k0 : Below w.heap.size w (w.alloc (.cells #[.func (.func 125) #[] #[.pointer (some ⟨po0, 0, none⟩), .pointer (some ⟨pb0, 0, none⟩), .pointer (some ⟨ph0, 0, none⟩), .pointer (some ⟨pq0, 0, none⟩)], .func (.func 127) #[] #[.pointer (some ⟨pb0, 0, none⟩), .pointer (some ⟨po0, 0, none⟩)]] 147)) := below1 w _
  have V0 := Lib.hid (HV.out.below k0)
  have B0 := Lib.hid (HB.out.trans (k0.mono HB.out.size))
  have L0 := Lib.hid (Hl.out.below k0)
  clear k0
  go_wp2_with fail
  refine (C0.out _ _ V0.out.p0).mono ?_
  rintro e w1 ⟨rfl, hb⟩
  clear x0 y0 hgc HV HB Hl
  have hv := V0.out.below hb
  have HB := Lib.hid (B0.out.trans (hb.mono B0.out.size))
  have Hl := Lib.hid (L0.out.below hb)
  have HV := Lib.hid hv
  have hgc := heap_lt hv.hc
  have x1 := hv.a1
  have y1 := hv.b1
  clear hv hb V0 B0 L0
  go_wp2_with fail
  rw [rounds_succ]
  have k1 : Below w1.heap.size w1 (w1.alloc (.cells #[.func (.func 125) #[] #[.pointer (some ⟨po1, 0, none⟩), .pointer (some ⟨pb1, 0, none⟩), .pointer (some ⟨ph1, 0, none⟩), .pointer (some ⟨pq1, 0, none⟩)], .func (.func 127) #[] #[.pointer (some ⟨pb1, 0, none⟩), .pointer (some ⟨po1, 0, none⟩)]] 147)) := below1 w1 _
  have V1 := Lib.hid (HV.out.below k1)
  have B1 := Lib.hid (HB.out.trans (k1.mono HB.out.size))
  have L1 := Lib.hid (Hl.out.below k1)
  clear k1
  go_wp2_with fail
  refine (C1.out _ _ V1.out.p1).mono ?_
  rintro e w2 ⟨rfl, hb⟩
  clear x1 y1 hgc HV HB Hl
  have hv := V1.out.below hb
  have HB := Lib.hid (B1.out.trans (hb.mono B1.out.size))
  have Hl := Lib.hid (L1.out.below hb)
  have HV := Lib.hid hv
  have hgc := heap_lt hv.hc
  have x2 := hv.a2
  have y2 := hv.b2
  clear hv hb V1 B1 L1
  go_wp2_with fail
  rw [rounds_succ]
  have k2 : Below w2.heap.size w2 (w2.alloc (.cells #[.func (.func 125) #[] #[.pointer (some ⟨po2, 0, none⟩), .pointer (some ⟨pb2, 0, none⟩), .pointer (some ⟨ph2, 0, none⟩), .pointer (some ⟨pq2, 0, none⟩)], .func (.func 127) #[] #[.pointer (some ⟨pb2, 0, none⟩), .pointer (some ⟨po2, 0, none⟩)]] 147)) := below1 w2 _
  have V2 := Lib.hid (HV.out.below k2)
  have B2 := Lib.hid (HB.out.trans (k2.mono HB.out.size))
  have L2 := Lib.hid (Hl.out.below k2)
  clear k2
  go_wp2_with fail
  refine (C2.out _ V2.out.p2 L2.out).mono ?_
  rintro e w9 ⟨rfl, hl9, hg9⟩
  have H9 := Lib.hid (below_grown B2.out hg9)
  have L9 := Lib.hid hl9
  clear hl9 hg9 x2 y2
  go_wp2_with fail
  go_end0
  exact ⟨rfl, hL.out ▸ L9.out, H9.out⟩

set_option maxRecDepth 100000 in
set_option maxHeartbeats 2000000 in
theorem codesPut_3 (g gc : Nat) (l : List Bool) (d : Int) (w : World) (hcs : CodesAt w gc) (hl : BitsAt w g l) (hr0 : -1000000000000 ≤ d) (hr1 : d ≤ 1000000000000) (hn : l.length + 46 ≤ 20000) (F0 : fitsB (d + 0) 0 = false) (F1 : fitsB (d + 63) 7 = false) (F2 : fitsB (d + 255) 9 = false) (F3 : fitsB (d + 2047) 12 = true)
    (L : List Bool) (hL : Hid ((l ++ BM.digits 14 4) ++ BM.digits (u64of (d + 2047)) 12 = L)) :
    Calls Tryd.prog 99 #[.pointer (some ⟨gc, 0, none⟩), .pointer (some ⟨g, 0, none⟩), .int .i64 d] w (PutPost g L (.tuple #[]) w) := by
  obtain ⟨ph0, pq0, pb0, po0, ph1, pq1, pb1, po1, ph2, pq2, pb2, po2, ph3, pq3, pb3, po3, ph4, pq4, pb4, po4, hv⟩ := hcs.named
  have hs1 := fun (a : Addr) (c : Array Value) (w : World) => run_store Tryd.prog w a (.func (.func 125) #[] c) .plain rfl
  have hs2 := fun (a : Addr) (c : Array Value) (w : World) => run_store Tryd.prog w a (.func (.func 127) #[] c) .plain rfl
  have C0 := Lib.hid (fun (p : Value) (W : World) (q : ClosP W ph0 pq0 pb0 po0 0 1 0 0) => putClos_no ph0 pq0 pb0 po0 0 1 0 0 p d W q.h3 q.h4 q.h5 q.h6 (by unfold wrap64; omega) F0)
  have C1 := Lib.hid (fun (p : Value) (W : World) (q : ClosP W ph1 pq1 pb1 po1 2 2 7 63) => putClos_no ph1 pq1 pb1 po1 2 2 7 63 p d W q.h3 q.h4 q.h5 q.h6 (by unfold wrap64; omega) F1)
  have C2 := Lib.hid (fun (p : Value) (W : World) (q : ClosP W ph2 pq2 pb2 po2 6 3 9 255) => putClos_no ph2 pq2 pb2 po2 6 3 9 255 p d W q.h3 q.h4 q.h5 q.h6 (by unfold wrap64; omega) F2)
  have C3 := Lib.hid (fun (W : World) (q : ClosP W ph3 pq3 pb3 po3 14 4 12 2047) (hl : BitsAt W g l) => putClos_yes ph3 pq3 pb3 po3 g 14 4 12 2047 d l W q.h3 q.h4 q.h5 q.h6 hl (by unfold wrap64; omega) F3 (by decide) (by decide) (by decide) (by omega))
  have Hl := Lib.hid hl
  have HV := Lib.hid hv
  have HB := Lib.hid (Below.refl w.heap.size w)
  have hgc := heap_lt hv.hc
  have x0 := hv.a0
  have y0 := hv.b0
  clear hcs hl hv F0 F1 F2 F3
  go_enter Tryd.func99, Tryd.ntmps99
  go_wp2_with fail
  refine wp_loop_rounds 4 ?_
  rw [rounds_succ]
  have k0 : Below w.heap.size w (w.alloc (.cells #[.func (.func 125) #[] #[.pointer (some ⟨po0, 0, none⟩), .pointer (some ⟨pb0, 0, none⟩), .pointer (some ⟨ph0, 0, none⟩), .pointer (some ⟨pq0, 0, none⟩)], .func (.func 127) #[] #[.pointer (some ⟨pb0, 0, none⟩), .pointer (some ⟨po0, 0, none⟩)]] 147)) := below1 w _
  have V0 := Lib.hid (HV.out.below k0)
  have B0 := Lib.hid (HB.out.trans (k0.mono HB.out.size))
  have L0 := Lib.hid (Hl.out.below k0)
  clear k0
  go_wp2_with fail
  refine (C0.out _ _ V0.out.p0).mono ?_
  rintro e w1 ⟨rfl, hb⟩
  clear x0 y0 hgc HV HB Hl
  have hv := V0.out.below hb
  have HB := Lib.hid (B0.out.trans (hb.mono B0.out.size))
  have Hl := Lib.hid (L0.out.below hb)
  have HV := Lib.hid hv
  have hgc := heap_lt hv.hc
  have x1 := hv.a1
  have y1 := hv.b1
  clear hv hb V0 B0 L0
  go_wp2_with fail
  rw [rounds_succ]
  have k1 : Below w1.heap.size w1 (w1.alloc (.cells #[.func (.func 125) #[] #[.pointer (some ⟨po1, 0, none⟩), .pointer (some ⟨pb1, 0, none⟩), .pointer (some ⟨ph1, 0, none⟩), .pointer (some ⟨pq1, 0, none⟩)], .func (.func 127) #[] #[.pointer (some ⟨pb1, 0, none⟩), .pointer (some ⟨po1, 0, none⟩)]] 147)) := below1 w1 _
  have V1 := Lib.hid (HV.out.below k1)
  have B1 := Lib.hid (HB.out.trans (k1.mono HB.out.size))
  have L1 := Lib.hid (Hl.out.below k1)
  clear k1
  go_wp2_with fail
  refine (C1.out _ _ V1.out.p1).mono ?_
  rintro e w2 ⟨rfl, hb⟩
  clear x1 y1 hgc HV HB Hl
  have hv := V1.out.below hb
  have HB := Lib.hid (B1.out.trans (hb.mono B1.out.size))
  have Hl := Lib.hid (L1.out.below hb)
  have HV := Lib.hid hv
  have hgc := heap_lt hv.hc
  have x2 := hv.a2
  have y2 := hv.b2
  clear hv hb V1 B1 L1
  go_wp2_with fail
  rw [rounds_succ]
  have k2 : Below w2.heap.size w2 (w2.alloc (.cells #[.func (.func 125) #[] #[.pointer (some ⟨po2, 0, none⟩), .pointer (some ⟨pb2, 0, none⟩), .pointer (some ⟨ph2, 0, none⟩), .pointer (some ⟨pq2, 0, none⟩)], .func (.func 127) #[] #[.pointer (some ⟨pb2, 0, none⟩), .pointer (some ⟨po2, 0, none⟩)]] 147)) := below1 w2 _
  have V2 := Lib.hid (HV.out.below k2)
  have B2 := Lib.hid (HB.out.trans (k2.mono HB.out.size))
  have L2 := Lib.hid (Hl.out.below k2)
  clear k2
  go_wp2_with fail
  refine (C2.out _ _ V2.out.p2).mono ?_
  rintro e w3 ⟨rfl, hb⟩
  clear x2 y2 hgc HV HB Hl
  have hv := V2.out.below hb
  have HB := Lib.hid (B2.out.trans (hb.mono B2.out.size))
  have Hl := Lib.hid (L2.out.below hb)
  have HV := Lib.hid hv
  have hgc := heap_lt hv.hc
  have x3 := hv.a3
  have y3 := hv.b3
  clear hv hb V2 B2 L2
  go_wp2_with fail
  rw [rounds_succ]
  have k3 : Below w3.heap.size w3 (w3.alloc (.cells #[.func (.func 125) #[] #[.pointer (some ⟨po3, 0, none⟩), .pointer (some ⟨pb3, 0, none⟩), .pointer (some ⟨ph3, 0, none⟩), .pointer (some ⟨pq3, 0, none⟩)], .func (.func 127) #[] #[.pointer (some ⟨pb3, 0, none⟩), .pointer (some ⟨po3, 0, none⟩)]] 147)) := below1 w3 _
  have V3 := Lib.hid (HV.out.below k3)
  have B3 := Lib.hid (HB.out.trans (k3.mono HB.out.size))
  have L3 := Lib.hid (Hl.out.below k3)
  clear k3
  go_wp2_with fail
  refine (C3.out _ V3.out.p3 L3.out).mono ?_
  rintro e w9 ⟨rfl, hl9, hg9⟩
  have H9 := Lib.hid (below_grown B3.out hg9)
  have L9 := Lib.hid hl9
  clear hl9 hg9 x3 y3
  go_wp2_with fail
  go_end0
  exact ⟨rfl, hL.out ▸ L9.out, H9.out⟩

set_option maxRecDepth 100000 in
set_option maxHeartbeats 2000000 in
theorem codesPut_4 (g gc : Nat) (l : List Bool) (d : Int) (w : World) (hcs : CodesAt w gc) (hl : BitsAt w g l) (hr0 : -1000000000000 ≤ d) (hr1 : d ≤ 1000000000000) (hn : l.length + 46 ≤ 20000) (F0 : fitsB (d + 0) 0 = false) (F1 : fitsB (d + 63) 7 = false) (F2 : fitsB (d + 255) 9 = false) (F3 : fitsB (d + 2047) 12 = false) (F4 : fitsB (d + 2199023255552) 42 = true)
    (L : List Bool) (hL : Hid ((l ++ BM.digits 15 4) ++ BM.digits (u64of (d + 2199023255552)) 42 = L)) :
    Calls Tryd.prog 99 #[.pointer (some ⟨gc, 0, none⟩), .pointer (some ⟨g, 0, none⟩), .int .i64 d] w (PutPost g L (.tuple #[]) w) := by
  obtain ⟨ph0, pq0, pb0, po0, ph1, pq1, pb1, po1, ph2, pq2, pb2, po2, ph3, pq3, pb3, po3, ph4, pq4, pb4, po4, hv⟩ := hcs.named
  have hs1 := fun (a : Addr) (c : Array Value) (w : World) => run_store Tryd.prog w a (.func (.func 125) #[] c) .plain rfl
  have hs2 := fun (a : Addr) (c : Array Value) (w : World) => run_store Tryd.prog w a (.func (.func 127) #[] c) .plain rfl
  have C0 := Lib.hid (fun (p : Value) (W : World) (q : ClosP W ph0 pq0 pb0 po0 0 1 0 0) => putClos_no ph0 pq0 pb0 po0 0 1 0 0 p d W q.h3 q.h4 q.h5 q.h6 (by unfold wrap64; omega) F0)
  have C1 := Lib.hid (fun (p : Value) (W : World) (q : ClosP W ph1 pq1 pb1 po1 2 2 7 63) => putClos_no ph1 pq1 pb1 po1 2 2 7 63 p d W q.h3 q.h4 q.h5 q.h6 (by unfold wrap64; omega) F1)
  have C2 := Lib.hid (fun (p : Value) (W : World) (q : ClosP W ph2 pq2 pb2 po2 6 3 9 255) => putClos_no ph2 pq2 pb2 po2 6 3 9 255 p d W q.h3 q.h4 q.h5 q.h6 (by unfold wrap64; omega) F2)
  have C3 := Lib.hid (fun (p : Value) (W : World) (q : ClosP W ph3 pq3 pb3 po3 14 4 12 2047) => putClos_no ph3 pq3 pb3 po3 14 4 12 2047 p d W q.h3 q.h4 q.h5 q.h6 (by unfold wrap64; omega) F3)
  have C4 := Lib.hid (fun (W : World) (q : ClosP W ph4 pq4 pb4 po4 15 4 42 2199023255552) (hl : BitsAt W g l) => putClos_yes ph4 pq4 pb4 po4 g 15 4 42 2199023255552 d l W q.h3 q.h4 q.h5 q.h6 hl (by unfold wrap64; omega) F4 (by decide) (by decide) (by decide) (by omega))
  have Hl := Lib.hid hl
  have HV := Lib.hid hv
  have HB := Lib.hid (Below.refl w.heap.size w)
  have hgc := heap_lt hv.hc
  have x0 := hv.a0
  have y0 := hv.b0
  clear hcs hl hv F0 F1 F2 F3 F4
  go_enter Tryd.func99, Tryd.ntmps99
  go_wp2_with fail
  refine wp_loop_rounds 5 ?_
  rw [rounds_succ]
  have k0 : Below w.heap.size w (w.alloc (.cells #[.func (.func 125) #[] #[.pointer (some ⟨po0, 0, none⟩), .pointer (some ⟨pb0, 0, none⟩), .pointer (some ⟨ph0, 0, none⟩), .pointer (some ⟨pq0, 0, none⟩)], .func (.func 127) #[] #[.pointer (some ⟨pb0, 0, none⟩), .pointer (some ⟨po0, 0, none⟩)]] 147)) := below1 w _
  have V0 := Lib.hid (HV.out.below k0)
  have B0 := Lib.hid (HB.out.trans (k0.mono HB.out.size))
  have L0 := Lib.hid (Hl.out.below k0)
  clear k0
  go_wp2_with fail
  refine (C0.out _ _ V0.out.p0).mono ?_
  rintro e w1 ⟨rfl, hb⟩
  clear x0 y0 hgc HV HB Hl
  have hv := V0.out.below hb
  have HB := Lib.hid (B0.out.trans (hb.mono B0.out.size))
  have Hl := Lib.hid (L0.out.below hb)
  have HV := Lib.hid hv
  have hgc := heap_lt hv.hc
  have x1 := hv.a1
  have y1 := hv.b1
  clear hv hb V0 B0 L0
  go_wp2_with fail
  rw [rounds_succ]
  have k1 : Below w1.heap.size w1 (w1.alloc (.cells #[.func (.func 125) #[] #[.pointer (some ⟨po1, 0, none⟩), .pointer (some ⟨pb1, 0, none⟩), .pointer (some ⟨ph1, 0, none⟩), .pointer (some ⟨pq1, 0, none⟩)], .func (.func 127) #[] #[.pointer (some ⟨pb1, 0, none⟩), .pointer (some ⟨po1, 0, none⟩)]] 147)) := below1 w1 _
  have V1 := Lib.hid (HV.out.below k1)
  have B1 := Lib.hid (HB.out.trans (k1.mono HB.out.size))
  have L1 := Lib.hid (Hl.out.below k1)
  clear k1
  go_wp2_with fail
  refine (C1.out _ _ V1.out.p1).mono ?_
  rintro e w2 ⟨rfl, hb⟩
  clear x1 y1 hgc HV HB Hl
  have hv := V1.out.below hb
  have HB := Lib.hid (B1.out.trans (hb.mono B1.out.size))
  have Hl := Lib.hid (L1.out.below hb)
  have HV := Lib.hid hv
  have hgc := heap_lt hv.hc
  have x2 := hv.a2
  have y2 := hv.b2
  clear hv hb V1 B1 L1
  go_wp2_with fail
  rw [rounds_succ]
  have k2 : Below w2.heap.size w2 (w2.alloc (.cells #[.func (.func 125) #[] #[.pointer (some ⟨po2, 0, none⟩), .pointer (some ⟨pb2, 0, none⟩), .pointer (some ⟨ph2, 0, none⟩), .pointer (some ⟨pq2, 0, none⟩)], .func (.func 127) #[] #[.pointer (some ⟨pb2, 0, none⟩), .pointer (some ⟨po2, 0, none⟩)]] 147)) := below1 w2 _
  have V2 := Lib.hid (HV.out.below k2)
  have B2 := Lib.hid (HB.out.trans (k2.mono HB.out.size))
  have L2 := Lib.hid (Hl.out.below k2)
  clear k2
  go_wp2_with fail
  refine (C2.out _ _ V2.out.p2).mono ?_
  rintro e w3 ⟨rfl, hb⟩
  clear x2 y2 hgc HV HB Hl
  have hv := V2.out.below hb
  have HB := Lib.hid (B2.out.trans (hb.mono B2.out.size))
  have Hl := Lib.hid (L2.out.below hb)
  have HV := Lib.hid hv
  have hgc := heap_lt hv.hc
  have x3 := hv.a3
  have y3 := hv.b3
  clear hv hb V2 B2 L2
  go_wp2_with fail
  rw [rounds_succ]
  have k3 : Below w3.heap.size w3 (w3.alloc (.cells #[.func (.func 125) #[] #[.pointer (some ⟨po3, 0, none⟩), .pointer (some ⟨pb3, 0, none⟩), .pointer (some ⟨ph3, 0, none⟩), .pointer (some ⟨pq3, 0, none⟩)], .func (.func 127) #[] #[.pointer (some ⟨pb3, 0, none⟩), .pointer (some ⟨po3, 0, none⟩)]] 147)) := below1 w3 _
  have V3 := Lib.hid (HV.out.below k3)
  have B3 := Lib.hid (HB.out.trans (k3.mono HB.out.size))
  have L3 := Lib.hid (Hl.out.below k3)
  clear k3
  go_wp2_with fail
  refine (C3.out _ _ V3.out.p3).mono ?_
  rintro e w4 ⟨rfl, hb⟩
  clear x3 y3 hgc HV HB Hl
  have hv := V3.out.below hb
  have HB := Lib.hid (B3.out.trans (hb.mono B3.out.size))
  have Hl := Lib.hid (L3.out.below hb)
  have HV := Lib.hid hv
  have hgc := heap_lt hv.hc
  have x4 := hv.a4
  have y4 := hv.b4
  clear hv hb V3 B3 L3
  go_wp2_with fail
  rw [rounds_succ]
  have k4 : Below w4.heap.size w4 (w4.alloc (.cells #[.func (.func 125) #[] #[.pointer (some ⟨po4, 0, none⟩), .pointer (some ⟨pb4, 0, none⟩), .pointer (some ⟨ph4, 0, none⟩), .pointer (some ⟨pq4, 0, none⟩)], .func (.func 127) #[] #[.pointer (some ⟨pb4, 0, none⟩), .pointer (some ⟨po4, 0, none⟩)]] 147)) := below1 w4 _
  have V4 := Lib.hid (HV.out.below k4)
  have B4 := Lib.hid (HB.out.trans (k4.mono HB.out.size))
  have L4 := Lib.hid (Hl.out.below k4)
  clear k4
  go_wp2_with fail
  refine (C4.out _ V4.out.p4 L4.out).mono ?_
  rintro e w9 ⟨rfl, hl9, hg9⟩
  have H9 := Lib.hid (below_grown B4.out hg9)
  have L9 := Lib.hid hl9
  clear hl9 hg9 x4 y4
  go_wp2_with fail
  go_end0
  exact ⟨rfl, hL.out ▸ L9.out, H9.out⟩
end Go.Proofs.YtanoohfhifhhaaaDoor

/- The walk of the law FnExactPutBits. -/
set_option linter.unusedVariables false
set_option linter.unusedSimpArgs false
namespace Go.Proofs.YtanoohfhifhhaaaDoor
open Go.RowKit


end Go.Proofs.YtanoohfhifhhaaaDoor

/- Walks: the program's code of a step; the law FnExactCodeOf. -/
set_option linter.unusedVariables false
set_option linter.unusedSimpArgs false
namespace Go.Proofs.YtanoohfhifhhaaaDoor
open Go.RowKit

theorem fits0 (v : Int) : fitsB v 0 = decide (v = 0) := by
  unfold fitsB; apply decide_eq_decide.2
  rw [show (2 : Int) ^ (0 : Int).toNat = 1 by decide]; omega
theorem fits7 (v : Int) : fitsB v 7 = decide (0 ≤ v ∧ v < 128) := by
  unfold fitsB; apply decide_eq_decide.2
  rw [show (2 : Int) ^ (7 : Int).toNat = 128 by decide]; omega
theorem fits9 (v : Int) : fitsB v 9 = decide (0 ≤ v ∧ v < 512) := by
  unfold fitsB; apply decide_eq_decide.2
  rw [show (2 : Int) ^ (9 : Int).toNat = 512 by decide]; omega
theorem fits12 (v : Int) : fitsB v 12 = decide (0 ≤ v ∧ v < 4096) := by
  unfold fitsB; apply decide_eq_decide.2
  rw [show (2 : Int) ^ (12 : Int).toNat = 4096 by decide]; omega
theorem fits42 (v : Int) : fitsB v 42 = decide (0 ≤ v ∧ v < 4398046511104) := by
  unfold fitsB; apply decide_eq_decide.2
  rw [show (2 : Int) ^ (42 : Int).toNat = 4398046511104 by decide]; omega

set_option maxRecDepth 100000 in
set_option maxHeartbeats 1000000 in
theorem codesPut_out (g gc : Nat) (d : Int) (w : World) (hr : stepB d = false) :
    Calls Tryd.prog 99 #[.pointer (some ⟨gc, 0, none⟩), .pointer (some ⟨g, 0, none⟩), .int .i64 d] w fun e w' => e = .returned (.tuple #[]) ∧ w' = w := by
  have hh : d < -1000000000000 ∨ (¬ d < -1000000000000 ∧ 1000000000000 < d) := by
    have := mt stepB_iff.2 (by rw [hr]; decide : ¬ stepB d = true)
    omega
  clear hr
  rcases hh with hh | ⟨h1, h2⟩
  · go_enter Tryd.func99, Tryd.ntmps99
    go_wp2_with fail
    exact bodyPost_ret (results_none rfl _ _ _) rfl ⟨rfl, rfl⟩
  · go_enter Tryd.func99, Tryd.ntmps99
    go_wp2_with fail
    exact bodyPost_ret (results_none rfl _ _ _) rfl ⟨rfl, rfl⟩

theorem grownBy_rfl (w : World) (r : Option Nat) : w.grownBy w r := ⟨rfl, rfl, rfl, Nat.le_refl _, fun _ _ _ => rfl⟩
theorem codesPut_any (g gc : Nat) (l : List Bool) (d : Int) (w : World) (hcs : CodesAt w gc) (hl : BitsAt w g l) (hn : l.length + 46 ≤ 20000) :
    Calls Tryd.prog 99 #[.pointer (some ⟨gc, 0, none⟩), .pointer (some ⟨g, 0, none⟩), .int .i64 d] w (PutPost g (l ++ codeB d) (.tuple #[]) w) := by
  cases hs : stepB d with
  | false =>
    refine (codesPut_out g gc d w hs).mono ?_
    rintro e w' ⟨rfl, rfl⟩
    have hB : codeB d = [] := by unfold codeB; rw [hs]; rfl
    rw [hB, List.append_nil]
    exact ⟨rfl, hl, grownBy_rfl _ _⟩
  | true =>
    have hr := stepB_iff.1 hs
    have hB : codeB d = codeL d := by unfold codeB; rw [hs]; rfl
    rw [hB]
    unfold codeL
    split
    · rename_i h0
      subst h0
      exact codesPut_0 g gc l 0 w hcs hl hr.1 hr.2 hn (by rw [fits0]; decide) _ (Lib.hid (by rw [List.append_assoc]; rfl))
    · rename_i h0
      have F0 : fitsB (d + 0) 0 = false := by rw [fits0, decide_eq_false_iff_not]; omega
      split
      · rename_i h1
        exact codesPut_1 g gc l d w hcs hl hr.1 hr.2 hn F0 (by rw [fits7, decide_eq_true_iff]; omega) _ (Lib.hid (by rw [List.append_assoc]; rfl))
      · rename_i h1
        have F1 : fitsB (d + 63) 7 = false := by rw [fits7, decide_eq_false_iff_not]; omega
        split
        · rename_i h2
          exact codesPut_2 g gc l d w hcs hl hr.1 hr.2 hn F0 F1 (by rw [fits9, decide_eq_true_iff]; omega) _ (Lib.hid (by rw [List.append_assoc]; rfl))
        · rename_i h2
          have F2 : fitsB (d + 255) 9 = false := by rw [fits9, decide_eq_false_iff_not]; omega
          split
          · rename_i h3
            exact codesPut_3 g gc l d w hcs hl hr.1 hr.2 hn F0 F1 F2 (by rw [fits12, decide_eq_true_iff]; omega) _ (Lib.hid (by rw [List.append_assoc]; rfl))
          · rename_i h3
            have F3 : fitsB (d + 2047) 12 = false := by rw [fits12, decide_eq_false_iff_not]; omega
            exact codesPut_4 g gc l d w hcs hl hr.1 hr.2 hn F0 F1 F2 F3 (by rw [fits42, decide_eq_true_iff]; omega) _ (Lib.hid (by rw [List.append_assoc]; rfl))



end Go.Proofs.YtanoohfhifhhaaaDoor
