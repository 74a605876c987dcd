/- Walks: the program's codes of a step. -/
import Derived.Test.YtanoohfhifhhaaaDoorCa
import Derived.Test.YtanoohfhifhhaaaDoorWh
import Derived.Test.YtanoohfhifhhaaaDoorWj
import Derived.Test.YtanoohfhifhhaaaDoorWi
import Derived.LoopTactic
import Derived.LoopN
import Derived.Test.YtanoohfhifhhaaaDoorWo
import Derived.OpenShut
set_option linter.unusedVariables false
set_option linter.unusedSimpArgs false
namespace Go.Proofs.YtanoohfhifhhaaaDoor
open Go.RowKit

/-- the two function values of a code, and what they hold -/
structure ClosAt (W : World) (f1 f2 : Value) (h hb b o : Int) : Prop where
  ex : ∃ ph phb pb po : Nat, f1 = .func (.func 125) #[] #[.pointer (some ⟨po, 0, none⟩), .pointer (some ⟨pb, 0, none⟩), .pointer (some ⟨ph, 0, none⟩), .pointer (some ⟨phb, 0, none⟩)] ∧
    f2 = .func (.func 127) #[] #[.pointer (some ⟨pb, 0, none⟩), .pointer (some ⟨po, 0, none⟩)] ∧
    W.heap[ph]? = some (.cells #[.int .u64 h] 110 (0, 0)) ∧ W.heap[phb]? = some (.cells #[.int .i64 hb] 2 (0, 0)) ∧ W.heap[pb]? = some (.cells #[.int .i64 b] 2 (0, 0)) ∧ W.heap[po]? = some (.cells #[.int .i64 o] 2 (0, 0))
theorem heap_lt {w : World} {g : Nat} {o : Obj} (h : w.heap[g]? = some o) : g < w.heap.size := (Array.getElem?_eq_some_iff.1 h).1
theorem ClosAt.below {W W' : World} {f1 f2 : Value} {h hb b o : Int} (p : ClosAt W f1 f2 h hb b o) (k : Below W.heap.size W W') : ClosAt W' f1 f2 h hb b o := by
  obtain ⟨ph, phb, pb, po, h1, h2, h3, h4, h5, h6⟩ := p.ex
  exact ⟨ph, phb, pb, po, h1, h2, (k.block _ (heap_lt h3)).trans h3, (k.block _ (heap_lt h4)).trans h4, (k.block _ (heap_lt h5)).trans h5, (k.block _ (heap_lt h6)).trans h6⟩

theorem five_new (w : World) (A B C D E : Obj) :
    ((((((w.alloc A).alloc B).alloc C).alloc D).alloc E).heap[w.heap.size]? = some A) ∧ ((((((w.alloc A).alloc B).alloc C).alloc D).alloc E).heap[w.heap.size + 1]? = some B) ∧
    ((((((w.alloc A).alloc B).alloc C).alloc D).alloc E).heap[w.heap.size + 1 + 1]? = some C) ∧ ((((((w.alloc A).alloc B).alloc C).alloc D).alloc E).heap[w.heap.size + 1 + 1 + 1]? = some D) := by
  refine ⟨?_, ?_, ?_, ?_⟩
  · rw [Below.heap_alloc _ _ _ (by simp <;> omega), Below.heap_alloc _ _ _ (by simp <;> omega), Below.heap_alloc _ _ _ (by simp <;> omega), Below.heap_alloc _ _ _ (by simp)]
    exact heap_alloc_new w A
  · rw [Below.heap_alloc _ _ _ (by simp <;> omega), Below.heap_alloc _ _ _ (by simp <;> omega), Below.heap_alloc _ _ _ (by simp)]
    have := heap_alloc_new (w.alloc A) B
    rwa [World.size_alloc] at this
  · rw [Below.heap_alloc _ _ _ (by simp <;> omega), Below.heap_alloc _ _ _ (by simp)]
    have := heap_alloc_new ((w.alloc A).alloc B) C
    rwa [World.size_alloc, World.size_alloc] at this
  · rw [Below.heap_alloc _ _ _ (by simp)]
    have := heap_alloc_new (((w.alloc A).alloc B).alloc C) D
    rwa [World.size_alloc, World.size_alloc, World.size_alloc] at this

set_option maxRecDepth 100000 in
set_option maxHeartbeats 1000000 in
theorem offsetCode_any (h hb b o : Int) (w : World) :
    Calls Tryd.prog 116 #[.int .u64 h, .int .i64 hb, .int .i64 b, .int .i64 o] w fun e w' => ∃ f1 f2, e = .returned (.agg #[f1, f2]) ∧ ClosAt w' f1 f2 h hb b o ∧ Below w.heap.size w w' ∧ f1.oneCell' = true ∧ f2.oneCell' = true := by
  have hs1 := fun (a : Addr) (c : Array Value) (w : World) => run_store Tryd.prog w a (.func (.func 125) #[] c) .plain rfl
  have hs2 := fun (a : Addr) (c : Array Value) (w : World) => run_store Tryd.prog w a (.func (.func 127) #[] c) .plain rfl
  go_enter Tryd.func116, Tryd.ntmps116
  go_wp2_with fail
  obtain ⟨n1, n2, n3, n4⟩ := five_new w (.cells #[.int .u64 h] 110) (.cells #[.int .i64 hb] 2) (.cells #[.int .i64 b] 2) (.cells #[.int .i64 o] 2)
    (.cells #[.func (.func 125) #[] #[.pointer (some ⟨w.heap.size + 1 + 1 + 1, 0, none⟩), .pointer (some ⟨w.heap.size + 1 + 1, 0, none⟩), .pointer (some ⟨w.heap.size, 0, none⟩), .pointer (some ⟨w.heap.size + 1, 0, none⟩)], .func (.func 127) #[] #[.pointer (some ⟨w.heap.size + 1 + 1, 0, none⟩), .pointer (some ⟨w.heap.size + 1 + 1 + 1, 0, none⟩)]] 147)
  refine bodyPost_ret (v := .agg #[.func (.func 125) #[] #[.pointer (some ⟨w.heap.size + 1 + 1 + 1, 0, none⟩), .pointer (some ⟨w.heap.size + 1 + 1, 0, none⟩), .pointer (some ⟨w.heap.size, 0, none⟩), .pointer (some ⟨w.heap.size + 1, 0, none⟩)], .func (.func 127) #[] #[.pointer (some ⟨w.heap.size + 1 + 1, 0, none⟩), .pointer (some ⟨w.heap.size + 1 + 1 + 1, 0, none⟩)]]) (by simp [results, Tryd.results116, go_sem]) rfl ?_
  refine ⟨_, _, rfl, ⟨_, _, _, _, rfl, rfl, n1, n2, n3, n4⟩, ?_, rfl, rfl⟩
  exact (((((Below.refl w.heap.size w).alloc (Nat.le_refl _) _).alloc (by simp) _).alloc (by simp; omega) _).alloc (by simp; omega) _).alloc (by simp; omega) _

/-- a block of the five codes -/
def CodesAt (W : World) (g : Nat) : Prop :=
  ∃ a0 b0 a1 b1 a2 b2 a3 b3 a4 b4, W.heap[g]? = some (.cells #[a0, b0, a1, b1, a2, b2, a3, b3, a4, b4] 150 (0, 0)) ∧
    ClosAt W a0 b0 0 1 0 0 ∧ ClosAt W a1 b1 2 2 7 63 ∧ ClosAt W a2 b2 6 3 9 255 ∧ ClosAt W a3 b3 14 4 12 2047 ∧ ClosAt W a4 b4 15 4 42 2199023255552
theorem CodesAt.below {W W' : World} {g : Nat} (p : CodesAt W g) (k : Below W.heap.size W W') : CodesAt W' g := by
  obtain ⟨a0, b0, a1, b1, a2, b2, a3, b3, a4, b4, h, c0, c1, c2, c3, c4⟩ := p
  exact ⟨a0, b0, a1, b1, a2, b2, a3, b3, a4, b4, (k.block _ (heap_lt h)).trans h, c0.below k, c1.below k, c2.below k, c3.below k, c4.below k⟩

set_option maxRecDepth 100000 in
set_option maxHeartbeats 2000000 in
theorem newStepCodes_any (w : World) :
    Calls Tryd.prog 97 #[] w fun e w' => ∃ g, e = .returned (.pointer (some ⟨g, 0, none⟩)) ∧ CodesAt w' g ∧ w.heap.size ≤ g ∧ Below w.heap.size w w' := by
  go_enter Tryd.func97, Tryd.ntmps97
  go_wp2_with fail
  refine (offsetCode_any _ _ _ _ _).mono ?_
  rintro e w0 ⟨a0, b0, rfl, c0, k0, x0, y0⟩
  have C0 := Lib.hid c0
  have K0 := Lib.hid k0
  clear c0 k0
  go_wp2_with fail
  refine (offsetCode_any _ _ _ _ _).mono ?_
  rintro e w1 ⟨a1, b1, rfl, c1, k1, x1, y1⟩
  have C0 := Lib.hid (C0.out.below k1)
  have K0 := Lib.hid (K0.out.trans (k1.mono K0.out.size))
  have C1 := Lib.hid c1
  clear c1 k1
  go_wp2_with fail
  refine (offsetCode_any _ _ _ _ _).mono ?_
  rintro e w2 ⟨a2, b2, rfl, c2, k2, x2, y2⟩
  have C0 := Lib.hid (C0.out.below k2)
  have C1 := Lib.hid (C1.out.below k2)
  have K0 := Lib.hid (K0.out.trans (k2.mono K0.out.size))
  have C2 := Lib.hid c2
  clear c2 k2
  go_wp2_with fail
  refine (offsetCode_any _ _ _ _ _).mono ?_
  rintro e w3 ⟨a3, b3, rfl, c3, k3, x3, y3⟩
  have C0 := Lib.hid (C0.out.below k3)
  have C1 := Lib.hid (C1.out.below k3)
  have C2 := Lib.hid (C2.out.below k3)
  have K0 := Lib.hid (K0.out.trans (k3.mono K0.out.size))
  have C3 := Lib.hid c3
  clear c3 k3
  go_wp2_with fail
  refine (offsetCode_any _ _ _ _ _).mono ?_
  rintro e w4 ⟨a4, b4, rfl, c4, k4, x4, y4⟩
  have C0 := Lib.hid (C0.out.below k4)
  have C1 := Lib.hid (C1.out.below k4)
  have C2 := Lib.hid (C2.out.below k4)
  have C3 := Lib.hid (C3.out.below k4)
  have K0 := Lib.hid (K0.out.trans (k4.mono K0.out.size))
  have C4 := Lib.hid c4
  clear c4 k4
  have hst := fun (a : Addr) (v : Value) (w : World) (hv : v.oneCell' = true) => run_store Tryd.prog w a v .plain hv
  go_wp2_with fail
  have HB : Below w4.heap.size w4 (w4.alloc (.cells #[a0, b0, a1, b1, a2, b2, a3, b3, a4, b4] 150)) := below1 w4 _
  refine bodyPost_ret (v := .pointer (some ⟨w4.heap.size, 0, none⟩)) (by simp [results, Tryd.results97, go_sem]) rfl ?_
  exact ⟨_, rfl, ⟨_, _, _, _, _, _, _, _, _, _, heap_alloc_new w4 _, C0.out.below HB, C1.out.below HB, C2.out.below HB, C3.out.below HB, C4.out.below HB⟩, K0.out.size, K0.out.trans (HB.mono K0.out.size)⟩
end Go.Proofs.YtanoohfhifhhaaaDoor

/- Walks: the program appends a code. -/
set_option linter.unusedVariables false
set_option linter.unusedSimpArgs false
namespace Go.Proofs.YtanoohfhifhhaaaDoor
open Go.RowKit

/-- block g holds these bits -/
def BitsAt (w : World) (g : Nat) (l : List Bool) : Prop := ∃ ws, BaBlk w g ws (l.length : Int) ∧ BM.Words ws l
def PutPost (g : Nat) (l : List Bool) (v : Value) (w : World) (e : Ending) (w' : World) : Prop :=
  e = .returned v ∧ BitsAt w' g l ∧ w.grownBy w' (some g)
theorem put_bits (g : Nat) (l : List Bool) (v k : Nat) (w : World) (h : BitsAt w g l) (hn : l.length + k ≤ 20000) (hk : k ≤ 64) (hv : v < 2 ^ 64) :
    Calls Tryd.prog 98 #[.pointer (some ⟨g, 0, none⟩), .int .u64 (v : Int), .int .i64 (k : Int)] w (PutPost g (l ++ BM.digits v k) (.tuple #[]) w) := by
  obtain ⟨ws, hb, hw⟩ := h
  refine (put_any g ws l.length v k w hb hw.1 hw.2.1 hn hk hv).mono fun e w' ⟨h1, h2, h3⟩ => ⟨h1, ⟨_, ?_, BM.words_put hw v k hk hn⟩, h3⟩
  rw [List.length_append, BM.digits_length]; exact h2
theorem BitsAt.lt {w : World} {g : Nat} {l : List Bool} (h : BitsAt w g l) : g < w.heap.size := by obtain ⟨ws, hb, _⟩ := h; exact heap_lt hb
theorem BitsAt.below {w w' : World} {g : Nat} {l : List Bool} (h : BitsAt w g l) (hb : Below w.heap.size w w') : BitsAt w' g l := by
  obtain ⟨ws, h1, h2⟩ := h; exact ⟨ws, (hb.block g (heap_lt h1)).trans h1, h2⟩
theorem ClosAt.grown {W W' : World} {f1 f2 : Value} {h hb b o : Int} {row : Option Nat} (p : ClosAt W f1 f2 h hb b o) (k : W.grownBy W' row) (hr : ∀ g, row = some g → ∀ c ty, W.heap[g]? = some (.cells c ty (0, 0)) → c.size ≠ 1) : ClosAt W' f1 f2 h hb b o := by
  obtain ⟨ph, phb, pb, po, h1, h2, h3, h4, h5, h6⟩ := p.ex
  have hne : ∀ g c ty, W.heap[g]? = some (.cells #[c] ty (0, 0)) → some g ≠ row := fun g c ty hg he => hr g he.symm _ _ hg rfl
  exact ⟨ph, phb, pb, po, h1, h2, (k.block _ (heap_lt h3) (hne _ _ _ h3)).trans h3, (k.block _ (heap_lt h4) (hne _ _ _ h4)).trans h4, (k.block _ (heap_lt h5) (hne _ _ _ h5)).trans h5, (k.block _ (heap_lt h6) (hne _ _ _ h6)).trans h6⟩

set_option maxRecDepth 100000 in
set_option maxHeartbeats 1000000 in
theorem putClos_no (ph phb pb po : Nat) (h hb b o : Int) (p : Value) (d : Int) (w : World) (h3 : w.heap[ph]? = some (.cells #[.int .u64 h] 110 (0, 0))) (h4 : w.heap[phb]? = some (.cells #[.int .i64 hb] 2 (0, 0))) (h5 : w.heap[pb]? = some (.cells #[.int .i64 b] 2 (0, 0))) (h6 : w.heap[po]? = some (.cells #[.int .i64 o] 2 (0, 0)))
    (hw : wrap64 (d + o) = d + o) (hf : fitsB (d + o) b = false) :
    Calls Tryd.prog 125 #[p, .int .i64 d, .pointer (some ⟨po, 0, none⟩), .pointer (some ⟨pb, 0, none⟩), .pointer (some ⟨ph, 0, none⟩), .pointer (some ⟨phb, 0, none⟩)] w fun e w' => e = .returned (.bool false) ∧ Below w.heap.size w w' := by
  have c5 : w.cell? ⟨pb, 0, none⟩ = some (.int .i64 b) := by rw [cell_of_row w pb 0 _ _ _ h5]; rfl
  have c6 : w.cell? ⟨po, 0, none⟩ = some (.int .i64 o) := by rw [cell_of_row w po 0 _ _ _ h6]; rfl
  have hfi := fun W => fitsIn_any (d + o) b W
  rw [hf] at hfi
  have Hf := Lib.hid hfi
  clear hfi hf h3 h4 h5 h6
  go_enter Tryd.func125, Tryd.ntmps125
  go_wp2_with fail
  refine (Hf.out _).mono ?_
  rintro e w' ⟨rfl, rfl⟩
  go_wp2_with fail
  go_ret
  exact ⟨rfl, Below.refl _ _⟩

theorem wrap_u64of' (x : Int) : IntKind.u64.wrap x = ((u64of x : Nat) : Int) := by rw [IntKind.wrap_u64]; unfold u64of; omega
theorem u64of_lt2 (x : Int) : u64of x < 2 ^ 64 := by unfold u64of; omega
set_option maxRecDepth 100000 in
set_option maxHeartbeats 1000000 in
theorem putClos_yes (ph phb pb po g H HB B : Nat) (o d : Int) (l : List Bool) (w : World) (h3 : w.heap[ph]? = some (.cells #[.int .u64 (H : Int)] 110 (0, 0))) (h4 : w.heap[phb]? = some (.cells #[.int .i64 (HB : Int)] 2 (0, 0))) (h5 : w.heap[pb]? = some (.cells #[.int .i64 (B : Int)] 2 (0, 0))) (h6 : w.heap[po]? = some (.cells #[.int .i64 o] 2 (0, 0)))
    (hl : BitsAt w g l) (hw : wrap64 (d + o) = d + o) (hf : fitsB (d + o) B = true) (hH : H < 2 ^ 64) (hHB : HB ≤ 64) (hB : B ≤ 64) (hn : l.length + HB + B ≤ 20000) :
    Calls Tryd.prog 125 #[.pointer (some ⟨g, 0, none⟩), .int .i64 d, .pointer (some ⟨po, 0, none⟩), .pointer (some ⟨pb, 0, none⟩), .pointer (some ⟨ph, 0, none⟩), .pointer (some ⟨phb, 0, none⟩)] w (PutPost g ((l ++ BM.digits H HB) ++ BM.digits (u64of (d + o)) B) (.bool true) w) := by
  have c3 : w.cell? ⟨ph, 0, none⟩ = some (.int .u64 (H : Int)) := by rw [cell_of_row w ph 0 _ _ _ h3]; rfl
  have c4 : w.cell? ⟨phb, 0, none⟩ = some (.int .i64 (HB : Int)) := by rw [cell_of_row w phb 0 _ _ _ h4]; rfl
  have c5 : w.cell? ⟨pb, 0, none⟩ = some (.int .i64 (B : Int)) := by rw [cell_of_row w pb 0 _ _ _ h5]; rfl
  have c6 : w.cell? ⟨po, 0, none⟩ = some (.int .i64 o) := by rw [cell_of_row w po 0 _ _ _ h6]; rfl
  have hne : ∀ k v ty, w.heap[k]? = some (.cells #[v] ty (0, 0)) → some k ≠ some g := by
    intro k v ty hk he
    injection he with he
    subst he
    obtain ⟨ws, hb, hws⟩ := hl
    unfold BaBlk at hb
    rw [hk] at hb
    injection hb with hb
    injection hb with hb _ _
    have := congrArg Array.size hb
    rw [baCells_size _ _ hws.1] at this
    simp at this
  have e5 := Lib.hid (hne _ _ _ h5)
  have e6 := Lib.hid (hne _ _ _ h6)
  have hfi := fun W => fitsIn_any (d + o) B W
  rw [hf] at hfi
  have Hf := Lib.hid hfi
  have hcv := wrap_u64of' (d + o)
  have hlt := u64of_lt2 (d + o)
  generalize u64of (d + o) = U at *
  have Hlt := Lib.hid hlt
  have Hl := Lib.hid hl
  have HH := Lib.hid hH
  clear hfi hf h3 h4 h5 h6 hlt hl hH hne
  go_enter Tryd.func125, Tryd.ntmps125
  go_wp2_with fail
  refine (Hf.out _).mono ?_
  rintro e w ⟨rfl, rfl⟩
  go_wp2_with fail
  refine (put_bits g l H HB _ Hl.out (by omega) hHB HH.out).mono ?_
  rintro e w2 ⟨rfl, hl2, hg2⟩
  have d5 := hg2.cell c5 e5.out
  have d6 := hg2.cell c6 e6.out
  have Hl2 := Lib.hid hl2
  have Hg2 := Lib.hid hg2
  clear hl2 hg2 c3 c4 c5 c6 Hl
  go_wp2_with fail
  refine (put_bits g _ U B _ Hl2.out (by rw [List.length_append, BM.digits_length]; exact hn) hB Hlt.out).mono ?_
  rintro e w3 ⟨rfl, hl3, hg3⟩
  have Hg3 := Lib.hid (grownBy_trans Hg2.out hg3)
  have Hl3 := Lib.hid hl3
  clear hl3 hg3
  go_wp2_with fail
  go_ret
  exact ⟨rfl, Hl3.out, Hg3.out⟩

end Go.Proofs.YtanoohfhifhhaaaDoor

/- Walks: the program appends a code: the five codes in turn. -/
set_option linter.unusedVariables false
set_option linter.unusedSimpArgs false
namespace Go.Proofs.YtanoohfhifhhaaaDoor
open Go.RowKit

structure ClosP (W : World) (ph pq pb po : Nat) (h hb b o : Int) : Prop where
  h3 : W.heap[ph]? = some (.cells #[.int .u64 h] 110 (0, 0))
  h4 : W.heap[pq]? = some (.cells #[.int .i64 hb] 2 (0, 0))
  h5 : W.heap[pb]? = some (.cells #[.int .i64 b] 2 (0, 0))
  h6 : W.heap[po]? = some (.cells #[.int .i64 o] 2 (0, 0))
theorem ClosP.below {W W' : World} {ph pq pb po : Nat} {h hb b o : Int} (p : ClosP W ph pq pb po h hb b o) (k : Below W.heap.size W W') : ClosP W' ph pq pb po h hb b o :=
  ⟨(k.block _ (heap_lt p.h3)).trans p.h3, (k.block _ (heap_lt p.h4)).trans p.h4, (k.block _ (heap_lt p.h5)).trans p.h5, (k.block _ (heap_lt p.h6)).trans p.h6⟩
theorem below_grown {a b c : World} {row : Option Nat} (h : Below a.heap.size a b) (k : b.grownBy c row) : a.grownBy c row :=
  ⟨k.os.trans h.os, k.tape.trans h.tape, k.output.trans h.output, Nat.le_trans h.size k.size, fun i hi hne => (k.block i (Nat.lt_of_lt_of_le hi h.size) hne).trans (h.block i hi)⟩
/-- the block of the codes, the pointers named -/
structure CodesV (W : World) (gc ph0 pq0 pb0 po0 ph1 pq1 pb1 po1 ph2 pq2 pb2 po2 ph3 pq3 pb3 po3 ph4 pq4 pb4 po4 : Nat) : Prop where
  hc : W.heap[gc]? = some (.cells #[.func (.func 125) #[] #[.pointer (some ⟨po0, 0, none⟩), .pointer (some ⟨pb0, 0, none⟩), .pointer (some ⟨ph0, 0, none⟩), .pointer (some ⟨pq0, 0, none⟩)], .func (.func 127) #[] #[.pointer (some ⟨pb0, 0, none⟩), .pointer (some ⟨po0, 0, none⟩)], .func (.func 125) #[] #[.pointer (some ⟨po1, 0, none⟩), .pointer (some ⟨pb1, 0, none⟩), .pointer (some ⟨ph1, 0, none⟩), .pointer (some ⟨pq1, 0, none⟩)], .func (.func 127) #[] #[.pointer (some ⟨pb1, 0, none⟩), .pointer (some ⟨po1, 0, none⟩)], .func (.func 125) #[] #[.pointer (some ⟨po2, 0, none⟩), .pointer (some ⟨pb2, 0, none⟩), .pointer (some ⟨ph2, 0, none⟩), .pointer (some ⟨pq2, 0, none⟩)], .func (.func 127) #[] #[.pointer (some ⟨pb2, 0, none⟩), .pointer (some ⟨po2, 0, none⟩)], .func (.func 125) #[] #[.pointer (some ⟨po3, 0, none⟩), .pointer (some ⟨pb3, 0, none⟩), .pointer (some ⟨ph3, 0, none⟩), .pointer (some ⟨pq3, 0, none⟩)], .func (.func 127) #[] #[.pointer (some ⟨pb3, 0, none⟩), .pointer (some ⟨po3, 0, none⟩)], .func (.func 125) #[] #[.pointer (some ⟨po4, 0, none⟩), .pointer (some ⟨pb4, 0, none⟩), .pointer (some ⟨ph4, 0, none⟩), .pointer (some ⟨pq4, 0, none⟩)], .func (.func 127) #[] #[.pointer (some ⟨pb4, 0, none⟩), .pointer (some ⟨po4, 0, none⟩)]] 150 (0, 0))
  p0 : ClosP W ph0 pq0 pb0 po0 0 1 0 0
  p1 : ClosP W ph1 pq1 pb1 po1 2 2 7 63
  p2 : ClosP W ph2 pq2 pb2 po2 6 3 9 255
  p3 : ClosP W ph3 pq3 pb3 po3 14 4 12 2047
  p4 : ClosP W ph4 pq4 pb4 po4 15 4 42 2199023255552
theorem CodesV.below {W W' : World} {gc ph0 pq0 pb0 po0 ph1 pq1 pb1 po1 ph2 pq2 pb2 po2 ph3 pq3 pb3 po3 ph4 pq4 pb4 po4 : Nat} (p : CodesV W gc ph0 pq0 pb0 po0 ph1 pq1 pb1 po1 ph2 pq2 pb2 po2 ph3 pq3 pb3 po3 ph4 pq4 pb4 po4) (k : Below W.heap.size W W') : CodesV W' gc ph0 pq0 pb0 po0 ph1 pq1 pb1 po1 ph2 pq2 pb2 po2 ph3 pq3 pb3 po3 ph4 pq4 pb4 po4 :=
  ⟨(k.block _ (heap_lt p.hc)).trans p.hc, p.p0.below k, p.p1.below k, p.p2.below k, p.p3.below k, p.p4.below k⟩
theorem CodesAt.named {W : World} {gc : Nat} (p : CodesAt W gc) : ∃ ph0 pq0 pb0 po0 ph1 pq1 pb1 po1 ph2 pq2 pb2 po2 ph3 pq3 pb3 po3 ph4 pq4 pb4 po4, CodesV W gc ph0 pq0 pb0 po0 ph1 pq1 pb1 po1 ph2 pq2 pb2 po2 ph3 pq3 pb3 po3 ph4 pq4 pb4 po4 := by
  obtain ⟨a0, b0, a1, b1, a2, b2, a3, b3, a4, b4, h, c0, c1, c2, c3, c4⟩ := p
  obtain ⟨ph0, pq0, pb0, po0, rfl, rfl, x0, y0, z0, u0⟩ := c0.ex
  obtain ⟨ph1, pq1, pb1, po1, rfl, rfl, x1, y1, z1, u1⟩ := c1.ex
  obtain ⟨ph2, pq2, pb2, po2, rfl, rfl, x2, y2, z2, u2⟩ := c2.ex
  obtain ⟨ph3, pq3, pb3, po3, rfl, rfl, x3, y3, z3, u3⟩ := c3.ex
  obtain ⟨ph4, pq4, pb4, po4, rfl, rfl, x4, y4, z4, u4⟩ := c4.ex
  exact ⟨ph0, pq0, pb0, po0, ph1, pq1, pb1, po1, ph2, pq2, pb2, po2, ph3, pq3, pb3, po3, ph4, pq4, pb4, po4, ⟨h, ⟨x0, y0, z0, u0⟩, ⟨x1, y1, z1, u1⟩, ⟨x2, y2, z2, u2⟩, ⟨x3, y3, z3, u3⟩, ⟨x4, y4, z4, u4⟩⟩⟩
theorem CodesV.a0 {W : World} {gc ph0 pq0 pb0 po0 ph1 pq1 pb1 po1 ph2 pq2 pb2 po2 ph3 pq3 pb3 po3 ph4 pq4 pb4 po4 : Nat} (p : CodesV W gc ph0 pq0 pb0 po0 ph1 pq1 pb1 po1 ph2 pq2 pb2 po2 ph3 pq3 pb3 po3 ph4 pq4 pb4 po4) : W.cell? ⟨gc, 0, none⟩ = some (.func (.func 125) #[] #[.pointer (some ⟨po0, 0, none⟩), .pointer (some ⟨pb0, 0, none⟩), .pointer (some ⟨ph0, 0, none⟩), .pointer (some ⟨pq0, 0, none⟩)]) := by rw [cell_of_row W gc 0 _ _ _ p.hc]; rfl
theorem CodesV.b0 {W : World} {gc ph0 pq0 pb0 po0 ph1 pq1 pb1 po1 ph2 pq2 pb2 po2 ph3 pq3 pb3 po3 ph4 pq4 pb4 po4 : Nat} (p : CodesV W gc ph0 pq0 pb0 po0 ph1 pq1 pb1 po1 ph2 pq2 pb2 po2 ph3 pq3 pb3 po3 ph4 pq4 pb4 po4) : W.cell? ⟨gc, 1, none⟩ = some (.func (.func 127) #[] #[.pointer (some ⟨pb0, 0, none⟩), .pointer (some ⟨po0, 0, none⟩)]) := by rw [cell_of_row W gc 1 _ _ _ p.hc]; rfl
theorem CodesV.a1 {W : World} {gc ph0 pq0 pb0 po0 ph1 pq1 pb1 po1 ph2 pq2 pb2 po2 ph3 pq3 pb3 po3 ph4 pq4 pb4 po4 : Nat} (p : CodesV W gc ph0 pq0 pb0 po0 ph1 pq1 pb1 po1 ph2 pq2 pb2 po2 ph3 pq3 pb3 po3 ph4 pq4 pb4 po4) : W.cell? ⟨gc, 2, none⟩ = some (.func (.func 125) #[] #[.pointer (some ⟨po1, 0, none⟩), .pointer (some ⟨pb1, 0, none⟩), .pointer (some ⟨ph1, 0, none⟩), .pointer (some ⟨pq1, 0, none⟩)]) := by rw [cell_of_row W gc 2 _ _ _ p.hc]; rfl
theorem CodesV.b1 {W : World} {gc ph0 pq0 pb0 po0 ph1 pq1 pb1 po1 ph2 pq2 pb2 po2 ph3 pq3 pb3 po3 ph4 pq4 pb4 po4 : Nat} (p : CodesV W gc ph0 pq0 pb0 po0 ph1 pq1 pb1 po1 ph2 pq2 pb2 po2 ph3 pq3 pb3 po3 ph4 pq4 pb4 po4) : W.cell? ⟨gc, 3, none⟩ = some (.func (.func 127) #[] #[.pointer (some ⟨pb1, 0, none⟩), .pointer (some ⟨po1, 0, none⟩)]) := by rw [cell_of_row W gc 3 _ _ _ p.hc]; rfl
theorem CodesV.a2 {W : World} {gc ph0 pq0 pb0 po0 ph1 pq1 pb1 po1 ph2 pq2 pb2 po2 ph3 pq3 pb3 po3 ph4 pq4 pb4 po4 : Nat} (p : CodesV W gc ph0 pq0 pb0 po0 ph1 pq1 pb1 po1 ph2 pq2 pb2 po2 ph3 pq3 pb3 po3 ph4 pq4 pb4 po4) : W.cell? ⟨gc, 4, none⟩ = some (.func (.func 125) #[] #[.pointer (some ⟨po2, 0, none⟩), .pointer (some ⟨pb2, 0, none⟩), .pointer (some ⟨ph2, 0, none⟩), .pointer (some ⟨pq2, 0, none⟩)]) := by rw [cell_of_row W gc 4 _ _ _ p.hc]; rfl
theorem CodesV.b2 {W : World} {gc ph0 pq0 pb0 po0 ph1 pq1 pb1 po1 ph2 pq2 pb2 po2 ph3 pq3 pb3 po3 ph4 pq4 pb4 po4 : Nat} (p : CodesV W gc ph0 pq0 pb0 po0 ph1 pq1 pb1 po1 ph2 pq2 pb2 po2 ph3 pq3 pb3 po3 ph4 pq4 pb4 po4) : W.cell? ⟨gc, 5, none⟩ = some (.func (.func 127) #[] #[.pointer (some ⟨pb2, 0, none⟩), .pointer (some ⟨po2, 0, none⟩)]) := by rw [cell_of_row W gc 5 _ _ _ p.hc]; rfl
theorem CodesV.a3 {W : World} {gc ph0 pq0 pb0 po0 ph1 pq1 pb1 po1 ph2 pq2 pb2 po2 ph3 pq3 pb3 po3 ph4 pq4 pb4 po4 : Nat} (p : CodesV W gc ph0 pq0 pb0 po0 ph1 pq1 pb1 po1 ph2 pq2 pb2 po2 ph3 pq3 pb3 po3 ph4 pq4 pb4 po4) : W.cell? ⟨gc, 6, none⟩ = some (.func (.func 125) #[] #[.pointer (some ⟨po3, 0, none⟩), .pointer (some ⟨pb3, 0, none⟩), .pointer (some ⟨ph3, 0, none⟩), .pointer (some ⟨pq3, 0, none⟩)]) := by rw [cell_of_row W gc 6 _ _ _ p.hc]; rfl
theorem CodesV.b3 {W : World} {gc ph0 pq0 pb0 po0 ph1 pq1 pb1 po1 ph2 pq2 pb2 po2 ph3 pq3 pb3 po3 ph4 pq4 pb4 po4 : Nat} (p : CodesV W gc ph0 pq0 pb0 po0 ph1 pq1 pb1 po1 ph2 pq2 pb2 po2 ph3 pq3 pb3 po3 ph4 pq4 pb4 po4) : W.cell? ⟨gc, 7, none⟩ = some (.func (.func 127) #[] #[.pointer (some ⟨pb3, 0, none⟩), .pointer (some ⟨po3, 0, none⟩)]) := by rw [cell_of_row W gc 7 _ _ _ p.hc]; rfl
theorem CodesV.a4 {W : World} {gc ph0 pq0 pb0 po0 ph1 pq1 pb1 po1 ph2 pq2 pb2 po2 ph3 pq3 pb3 po3 ph4 pq4 pb4 po4 : Nat} (p : CodesV W gc ph0 pq0 pb0 po0 ph1 pq1 pb1 po1 ph2 pq2 pb2 po2 ph3 pq3 pb3 po3 ph4 pq4 pb4 po4) : W.cell? ⟨gc, 8, none⟩ = some (.func (.func 125) #[] #[.pointer (some ⟨po4, 0, none⟩), .pointer (some ⟨pb4, 0, none⟩), .pointer (some ⟨ph4, 0, none⟩), .pointer (some ⟨pq4, 0, none⟩)]) := by rw [cell_of_row W gc 8 _ _ _ p.hc]; rfl
theorem CodesV.b4 {W : World} {gc ph0 pq0 pb0 po0 ph1 pq1 pb1 po1 ph2 pq2 pb2 po2 ph3 pq3 pb3 po3 ph4 pq4 pb4 po4 : Nat} (p : CodesV W gc ph0 pq0 pb0 po0 ph1 pq1 pb1 po1 ph2 pq2 pb2 po2 ph3 pq3 pb3 po3 ph4 pq4 pb4 po4) : W.cell? ⟨gc, 9, none⟩ = some (.func (.func 127) #[] #[.pointer (some ⟨pb4, 0, none⟩), .pointer (some ⟨po4, 0, none⟩)]) := by rw [cell_of_row W gc 9 _ _ _ p.hc]; rfl

set_option maxRecDepth 100000 in
set_option maxHeartbeats 2000000 in
theorem codesPut_0 (g gc : Nat) (l : List Bool) (d : Int) (w : World) (hcs : CodesAt w gc) (hl : BitsAt w g l) (hr0 : -1000000000000 ≤ d) (hr1 : d ≤ 1000000000000) (hn : l.length + 46 ≤ 20000) (F0 : fitsB (d + 0) 0 = true)
    (L : List Bool) (hL : Hid ((l ++ BM.digits 0 1) ++ BM.digits (u64of (d + 0)) 0 = L)) :
    Calls Tryd.prog 99 #[.pointer (some ⟨gc, 0, none⟩), .pointer (some ⟨g, 0, none⟩), .int .i64 d] w (PutPost g L (.tuple #[]) w) := by
  obtain ⟨ph0, pq0, pb0, po0, ph1, pq1, pb1, po1, ph2, pq2, pb2, po2, ph3, pq3, pb3, po3, ph4, pq4, pb4, po4, hv⟩ := hcs.named
  have hs1 := fun (a : Addr) (c : Array Value) (w : World) => run_store Tryd.prog w a (.func (.func 125) #[] c) .plain rfl
  have hs2 := fun (a : Addr) (c : Array Value) (w : World) => run_store Tryd.prog w a (.func (.func 127) #[] c) .plain rfl
  have C0 := Lib.hid (fun (W : World) (q : ClosP W ph0 pq0 pb0 po0 0 1 0 0) (hl : BitsAt W g l) => putClos_yes ph0 pq0 pb0 po0 g 0 1 0 0 d l W q.h3 q.h4 q.h5 q.h6 hl (by unfold wrap64; omega) F0 (by decide) (by decide) (by decide) (by omega))
  have Hl := Lib.hid hl
  have HV := Lib.hid hv
  have HB := Lib.hid (Below.refl w.heap.size w)
  have hgc := heap_lt hv.hc
  have x0 := hv.a0
  have y0 := hv.b0
  clear hcs hl hv F0
  go_enter Tryd.func99, Tryd.ntmps99
  go_wp2_with fail
  refine wp_loop_rounds 1 ?_
  rw [rounds_succ]
  have k0 : Below w.heap.size w (w.alloc (.cells #[.func (.func 125) #[] #[.pointer (some ⟨po0, 0, none⟩), .pointer (some ⟨pb0, 0, none⟩), .pointer (some ⟨ph0, 0, none⟩), .pointer (some ⟨pq0, 0, none⟩)], .func (.func 127) #[] #[.pointer (some ⟨pb0, 0, none⟩), .pointer (some ⟨po0, 0, none⟩)]] 147)) := below1 w _
  have V0 := Lib.hid (HV.out.below k0)
  have B0 := Lib.hid (HB.out.trans (k0.mono HB.out.size))
  have L0 := Lib.hid (Hl.out.below k0)
  clear k0
  go_wp2_with fail
  refine (C0.out _ V0.out.p0 L0.out).mono ?_
  rintro e w9 ⟨rfl, hl9, hg9⟩
  have H9 := Lib.hid (below_grown B0.out hg9)
  have L9 := Lib.hid hl9
  clear hl9 hg9 x0 y0
  go_wp2_with fail
  go_end0
  exact ⟨rfl, hL.out ▸ L9.out, H9.out⟩

set_option maxRecDepth 100000 in
set_option maxHeartbeats 2000000 in
theorem codesPut_1 (g gc : Nat) (l : List Bool) (d : Int) (w : World) (hcs : CodesAt w gc) (hl : BitsAt w g l) (hr0 : -1000000000000 ≤ d) (hr1 : d ≤ 1000000000000) (hn : l.length + 46 ≤ 20000) (F0 : fitsB (d + 0) 0 = false) (F1 : fitsB (d + 63) 7 = true)
    (L : List Bool) (hL : Hid ((l ++ BM.digits 2 2) ++ BM.digits (u64of (d + 63)) 7 = L)) :
    Calls Tryd.prog 99 #[.pointer (some ⟨gc, 0, none⟩), .pointer (some ⟨g, 0, none⟩), .int .i64 d] w (PutPost g L (.tuple #[]) w) := by
  obtain ⟨ph0, pq0, pb0, po0, ph1, pq1, pb1, po1, ph2, pq2, pb2, po2, ph3, pq3, pb3, po3, ph4, pq4, pb4, po4, hv⟩ := hcs.named
  have hs1 := fun (a : Addr) (c : Array Value) (w : World) => run_store Tryd.prog w a (.func (.func 125) #[] c) .plain rfl
  have hs2 := fun (a : Addr) (c : Array Value) (w : World) => run_store Tryd.prog w a (.func (.func 127) #[] c) .plain rfl
  have C0 := Lib.hid (fun (p : Value) (W : World) (q : ClosP W ph0 pq0 pb0 po0 0 1 0 0) => putClos_no ph0 pq0 pb0 po0 0 1 0 0 p d W q.h3 q.h4 q.h5 q.h6 (by unfold wrap64; omega) F0)
  have C1 := Lib.hid (fun (W : World) (q : ClosP W ph1 pq1 pb1 po1 2 2 7 63) (hl : BitsAt W g l) => putClos_yes ph1 pq1 pb1 po1 g 2 2 7 63 d l W q.h3 q.h4 q.h5 q.h6 hl (by unfold wrap64; omega) F1 (by decide) (by decide) (by decide) (by omega))
  have Hl := Lib.hid hl
  have HV := Lib.hid hv
  have HB := Lib.hid (Below.refl w.heap.size w)
  have hgc := heap_lt hv.hc
  have x0 := hv.a0
  have y0 := hv.b0
  clear hcs hl hv F0 F1
  go_enter Tryd.func99, Tryd.ntmps99
  go_wp2_with fail
  refine wp_loop_rounds 2 ?_
  rw [rounds_succ]
  have k0 : Below w.heap.size w (w.alloc (.cells #[.func (.func 125) #[] #[.pointer (some ⟨po0, 0, none⟩), .pointer (some ⟨pb0, 0, none⟩), .pointer (some ⟨ph0, 0, none⟩), .pointer (some ⟨pq0, 0, none⟩)], .func (.func 127) #[] #[.pointer (some ⟨pb0, 0, none⟩), .pointer (some ⟨po0, 0, none⟩)]] 147)) := below1 w _
  have V0 := Lib.hid (HV.out.below k0)
  have B0 := Lib.hid (HB.out.trans (k0.mono HB.out.size))
  have L0 := Lib.hid (Hl.out.below k0)
  clear k0
  go_wp2_with fail
  refine (C0.out _ _ V0.out.p0).mono ?_
  rintro e w1 ⟨rfl, hb⟩
  clear x0 y0 hgc HV HB Hl
  have hv := V0.out.below hb
  have HB := Lib.hid (B0.out.trans (hb.mono B0.out.size))
  have Hl := Lib.hid (L0.out.below hb)
  have HV := Lib.hid hv
  have hgc := heap_lt hv.hc
  have x1 := hv.a1
  have y1 := hv.b1
  clear hv hb V0 B0 L0
  go_wp2_with fail
  rw [rounds_succ]
  have k1 : Below w1.heap.size w1 (w1.alloc (.cells #[.func (.func 125) #[] #[.pointer (some ⟨po1, 0, none⟩), .pointer (some ⟨pb1, 0, none⟩), .pointer (some ⟨ph1, 0, none⟩), .pointer (some ⟨pq1, 0, none⟩)], .func (.func 127) #[] #[.pointer (some ⟨pb1, 0, none⟩), .pointer (some ⟨po1, 0, none⟩)]] 147)) := below1 w1 _
  have V1 := Lib.hid (HV.out.below k1)
  have B1 := Lib.hid (HB.out.trans (k1.mono HB.out.size))
  have L1 := Lib.hid (Hl.out.below k1)
  clear k1
  go_wp2_with fail
  refine (C1.out _ V1.out.p1 L1.out).mono ?_
  rintro e w9 ⟨rfl, hl9, hg9⟩
  have H9 := Lib.hid (below_grown B1.out hg9)
  have L9 := Lib.hid hl9
  clear hl9 hg9 x1 y1
  go_wp2_with fail
  go_end0
  exact ⟨rfl, hL.out ▸ L9.out, H9.out⟩

set_option maxRecDepth 100000 in
set_option maxHeartbeats 2000000 in
theorem codesPut_2 (g gc : Nat) (l : List Bool) (d : Int) (w : World) (hcs : CodesAt w gc) (hl : BitsAt w g l) (hr0 : -1000000000000 ≤ d) (hr1 : d ≤ 1000000000000) (hn : l.length + 46 ≤ 20000) (F0 : fitsB (d + 0) 0 = false) (F1 : fitsB (d + 63) 7 = false) (F2 : fitsB (d + 255) 9 = true)
    (L : List Bool) (hL : Hid ((l ++ BM.digits 6 3) ++ BM.digits (u64of (d + 255)) 9 = L)) :
    Calls Tryd.prog 99 #[.pointer (some ⟨gc, 0, none⟩), .pointer (some ⟨g, 0, none⟩), .int .i64 d] w (PutPost g L (.tuple #[]) w) := by
  obtain ⟨ph0, pq0, pb0, po0, ph1, pq1, pb1, po1, ph2, pq2, pb2, po2, ph3, pq3, pb3, po3, ph4, pq4, pb4, po4, hv⟩ := hcs.named
  have hs1 := fun (a : Addr) (c : Array Value) (w : World) => run_store Tryd.prog w a (.func (.func 125) #[] c) .plain rfl
  have hs2 := fun (a : Addr) (c : Array Value) (w : World) => run_store Tryd.prog w a (.func (.func 127) #[] c) .plain rfl
  have C0 := Lib.hid (fun (p : Value) (W : World) (q : ClosP W ph0 pq0 pb0 po0 0 1 0 0) => putClos_no ph0 pq0 pb0 po0 0 1 0 0 p d W q.h3 q.h4 q.h5 q.h6 (by unfold wrap64; omega) F0)
  have C1 := Lib.hid (fun (p : Value) (W : World) (q : ClosP W ph1 pq1 pb1 po1 2 2 7 63) => putClos_no ph1 pq1 pb1 po1 2 2 7 63 p d W q.h3 q.h4 q.h5 q.h6 (by unfold wrap64; omega) F1)
  have C2 := Lib.hid (fun (W : World) (q : ClosP W ph2 pq2 pb2 po2 6 3 9 255) (hl : BitsAt W g l) => putClos_yes ph2 pq2 pb2 po2 g 6 3 9 255 d l W q.h3 q.h4 q.h5 q.h6 hl (by unfold wrap64; omega) F2 (by decide) (by decide) (by decide) (by omega))
  have Hl := Lib.hid hl
  have HV := Lib.hid hv
  have HB := Lib.hid (Below.refl w.heap.size w)
  have hgc := heap_lt hv.hc
  have x0 := hv.a0
  have y0 := hv.b0
  clear hcs hl hv F0 F1 F2
  go_enter Tryd.func99, Tryd.ntmps99
  go_wp2_with fail
  refine wp_loop_rounds 3 ?_
  rw [rounds_succ]
  have k0 : Below w.heap.size w (w.alloc (.cells #[.func (.func 125) #[] #[.pointer (some ⟨po0, 0, none⟩), .pointer (some ⟨pb0, 0, none⟩), .pointer (some ⟨ph0, 0, none⟩), .pointer (some ⟨pq0, 0, none⟩)], .func (.func 127) #[] #[.pointer (some ⟨pb0, 0, none⟩), .pointer (some ⟨po0, 0, none⟩)]] 147)) := below1 w _
  have V0 := Lib.hid (HV.out.below k0)
  have B0 := Lib.hid (HB.out.trans (k0.mono HB.out.size))
  have L0 := Lib.hid (Hl.out.below k0)
  clear k0
  go_wp2_with fail
  refine (C0.out _ _ V0.out.p0).mono ?_
  rintro e w1 ⟨rfl, hb⟩
  clear x0 y0 hgc HV HB Hl
  have hv := V0.out.below hb
  have HB := Lib.hid (B0.out.trans (hb.mono B0.out.size))
  have Hl := Lib.hid (L0.out.below hb)
  have HV := Lib.hid hv
  have hgc := heap_lt hv.hc
  have x1 := hv.a1
  have y1 := hv.b1
  clear hv hb V0 B0 L0
  go_wp2_with fail
  rw [rounds_succ]
  have k1 : Below w1.heap.size w1 (w1.alloc (.cells #[.func (.func 125) #[] #[.pointer (some ⟨po1, 0, none⟩), .pointer (some ⟨pb1, 0, none⟩), .pointer (some ⟨ph1, 0, none⟩), .pointer (some ⟨pq1, 0, none⟩)], .func (.func 127) #[] #[.pointer (some ⟨pb1, 0, none⟩), .pointer (some ⟨po1, 0, none⟩)]] 147)) := below1 w1 _
  have V1 := Lib.hid (HV.out.below k1)
  have B1 := Lib.hid (HB.out.trans (k1.mono HB.out.size))
  have L1 := Lib.hid (Hl.out.below k1)
  clear k1
  go_wp2_with fail
  refine (C1.out _ _ V1.out.p1).mono ?_
  rintro e w2 ⟨rfl, hb⟩
  clear x1 y1 hgc HV HB Hl
  have hv := V1.out.below hb
  have HB := Lib.hid (B1.out.trans (hb.mono B1.out.size))
  have Hl := Lib.hid (L1.out.below hb)
  have HV := Lib.hid hv
  have hgc := heap_lt hv.hc
  have x2 := hv.a2
  have y2 := hv.b2
  clear hv hb V1 B1 L1
  go_wp2_with fail
  rw [rounds_succ]
  have k2 : Below w2.heap.size w2 (w2.alloc (.cells #[.func (.func 125) #[] #[.pointer (some ⟨po2, 0, none⟩), .pointer (some ⟨pb2, 0, none⟩), .pointer (some ⟨ph2, 0, none⟩), .pointer (some ⟨pq2, 0, none⟩)], .func (.func 127) #[] #[.pointer (some ⟨pb2, 0, none⟩), .pointer (some ⟨po2, 0, none⟩)]] 147)) := below1 w2 _
  have V2 := Lib.hid (HV.out.below k2)
  have B2 := Lib.hid (HB.out.trans (k2.mono HB.out.size))
  have L2 := Lib.hid (Hl.out.below k2)
  clear k2
  go_wp2_with fail
  refine (C2.out _ V2.out.p2 L2.out).mono ?_
  rintro e w9 ⟨rfl, hl9, hg9⟩
  have H9 := Lib.hid (below_grown B2.out hg9)
  have L9 := Lib.hid hl9
  clear hl9 hg9 x2 y2
  go_wp2_with fail
  go_end0
  exact ⟨rfl, hL.out ▸ L9.out, H9.out⟩

set_option maxRecDepth 100000 in
set_option maxHeartbeats 2000000 in
theorem codesPut_3 (g gc : Nat) (l : List Bool) (d : Int) (w : World) (hcs : CodesAt w gc) (hl : BitsAt w g l) (hr0 : -1000000000000 ≤ d) (hr1 : d ≤ 1000000000000) (hn : l.length + 46 ≤ 20000) (F0 : fitsB (d + 0) 0 = false) (F1 : fitsB (d + 63) 7 = false) (F2 : fitsB (d + 255) 9 = false) (F3 : fitsB (d + 2047) 12 = true)
    (L : List Bool) (hL : Hid ((l ++ BM.digits 14 4) ++ BM.digits (u64of (d + 2047)) 12 = L)) :
    Calls Tryd.prog 99 #[.pointer (some ⟨gc, 0, none⟩), .pointer (some ⟨g, 0, none⟩), .int .i64 d] w (PutPost g L (.tuple #[]) w) := by
  obtain ⟨ph0, pq0, pb0, po0, ph1, pq1, pb1, po1, ph2, pq2, pb2, po2, ph3, pq3, pb3, po3, ph4, pq4, pb4, po4, hv⟩ := hcs.named
  have hs1 := fun (a : Addr) (c : Array Value) (w : World) => run_store Tryd.prog w a (.func (.func 125) #[] c) .plain rfl
  have hs2 := fun (a : Addr) (c : Array Value) (w : World) => run_store Tryd.prog w a (.func (.func 127) #[] c) .plain rfl
  have C0 := Lib.hid (fun (p : Value) (W : World) (q : ClosP W ph0 pq0 pb0 po0 0 1 0 0) => putClos_no ph0 pq0 pb0 po0 0 1 0 0 p d W q.h3 q.h4 q.h5 q.h6 (by unfold wrap64; omega) F0)
  have C1 := Lib.hid (fun (p : Value) (W : World) (q : ClosP W ph1 pq1 pb1 po1 2 2 7 63) => putClos_no ph1 pq1 pb1 po1 2 2 7 63 p d W q.h3 q.h4 q.h5 q.h6 (by unfold wrap64; omega) F1)
  have C2 := Lib.hid (fun (p : Value) (W : World) (q : ClosP W ph2 pq2 pb2 po2 6 3 9 255) => putClos_no ph2 pq2 pb2 po2 6 3 9 255 p d W q.h3 q.h4 q.h5 q.h6 (by unfold wrap64; omega) F2)
  have C3 := Lib.hid (fun (W : World) (q : ClosP W ph3 pq3 pb3 po3 14 4 12 2047) (hl : BitsAt W g l) => putClos_yes ph3 pq3 pb3 po3 g 14 4 12 2047 d l W q.h3 q.h4 q.h5 q.h6 hl (by unfold wrap64; omega) F3 (by decide) (by decide) (by decide) (by omega))
  have Hl := Lib.hid hl
  have HV := Lib.hid hv
  have HB := Lib.hid (Below.refl w.heap.size w)
  have hgc := heap_lt hv.hc
  have x0 := hv.a0
  have y0 := hv.b0
  clear hcs hl hv F0 F1 F2 F3
  go_enter Tryd.func99, Tryd.ntmps99
  go_wp2_with fail
  refine wp_loop_rounds 4 ?_
  rw [rounds_succ]
  have k0 : Below w.heap.size w (w.alloc (.cells #[.func (.func 125) #[] #[.pointer (some ⟨po0, 0, none⟩), .pointer (some ⟨pb0, 0, none⟩), .pointer (some ⟨ph0, 0, none⟩), .pointer (some ⟨pq0, 0, none⟩)], .func (.func 127) #[] #[.pointer (some ⟨pb0, 0, none⟩), .pointer (some ⟨po0, 0, none⟩)]] 147)) := below1 w _
  have V0 := Lib.hid (HV.out.below k0)
  have B0 := Lib.hid (HB.out.trans (k0.mono HB.out.size))
  have L0 := Lib.hid (Hl.out.below k0)
  clear k0
  go_wp2_with fail
  refine (C0.out _ _ V0.out.p0).mono ?_
  rintro e w1 ⟨rfl, hb⟩
  clear x0 y0 hgc HV HB Hl
  have hv := V0.out.below hb
  have HB := Lib.hid (B0.out.trans (hb.mono B0.out.size))
  have Hl := Lib.hid (L0.out.below hb)
  have HV := Lib.hid hv
  have hgc := heap_lt hv.hc
  have x1 := hv.a1
  have y1 := hv.b1
  clear hv hb V0 B0 L0
  go_wp2_with fail
  rw [rounds_succ]
  have k1 : Below w1.heap.size w1 (w1.alloc (.cells #[.func (.func 125) #[] #[.pointer (some ⟨po1, 0, none⟩), .pointer (some ⟨pb1, 0, none⟩), .pointer (some ⟨ph1, 0, none⟩), .pointer (some ⟨pq1, 0, none⟩)], .func (.func 127) #[] #[.pointer (some ⟨pb1, 0, none⟩), .pointer (some ⟨po1, 0, none⟩)]] 147)) := below1 w1 _
  have V1 := Lib.hid (HV.out.below k1)
  have B1 := Lib.hid (HB.out.trans (k1.mono HB.out.size))
  have L1 := Lib.hid (Hl.out.below k1)
  clear k1
  go_wp2_with fail
  refine (C1.out _ _ V1.out.p1).mono ?_
  rintro e w2 ⟨rfl, hb⟩
  clear x1 y1 hgc HV HB Hl
  have hv := V1.out.below hb
  have HB := Lib.hid (B1.out.trans (hb.mono B1.out.size))
  have Hl := Lib.hid (L1.out.below hb)
  have HV := Lib.hid hv
  have hgc := heap_lt hv.hc
  have x2 := hv.a2
  have y2 := hv.b2
  clear hv hb V1 B1 L1
  go_wp2_with fail
  rw [rounds_succ]
  have k2 : Below w2.heap.size w2 (w2.alloc (.cells #[.func (.func 125) #[] #[.pointer (some ⟨po2, 0, none⟩), .pointer (some ⟨pb2, 0, none⟩), .pointer (some ⟨ph2, 0, none⟩), .pointer (some ⟨pq2, 0, none⟩)], .func (.func 127) #[] #[.pointer (some ⟨pb2, 0, none⟩), .pointer (some ⟨po2, 0, none⟩)]] 147)) := below1 w2 _
  have V2 := Lib.hid (HV.out.below k2)
  have B2 := Lib.hid (HB.out.trans (k2.mono HB.out.size))
  have L2 := Lib.hid (Hl.out.below k2)
  clear k2
  go_wp2_with fail
  refine (C2.out _ _ V2.out.p2).mono ?_
  rintro e w3 ⟨rfl, hb⟩
  clear x2 y2 hgc HV HB Hl
  have hv := V2.out.below hb
  have HB := Lib.hid (B2.out.trans (hb.mono B2.out.size))
  have Hl := Lib.hid (L2.out.below hb)
  have HV := Lib.hid hv
  have hgc := heap_lt hv.hc
  have x3 := hv.a3
  have y3 := hv.b3
  clear hv hb V2 B2 L2
  go_wp2_with fail
  rw [rounds_succ]
  have k3 : Below w3.heap.size w3 (w3.alloc (.cells #[.func (.func 125) #[] #[.pointer (some ⟨po3, 0, none⟩), .pointer (some ⟨pb3, 0, none⟩), .pointer (some ⟨ph3, 0, none⟩), .pointer (some ⟨pq3, 0, none⟩)], .func (.func 127) #[] #[.pointer (some ⟨pb3, 0, none⟩), .pointer (some ⟨po3, 0, none⟩)]] 147)) := below1 w3 _
  have V3 := Lib.hid (HV.out.below k3)
  have B3 := Lib.hid (HB.out.trans (k3.mono HB.out.size))
  have L3 := Lib.hid (Hl.out.below k3)
  clear k3
  go_wp2_with fail
  refine (C3.out _ V3.out.p3 L3.out).mono ?_
  rintro e w9 ⟨rfl, hl9, hg9⟩
  have H9 := Lib.hid (below_grown B3.out hg9)
  have L9 := Lib.hid hl9
  clear hl9 hg9 x3 y3
  go_wp2_with fail
  go_end0
  exact ⟨rfl, hL.out ▸ L9.out, H9.out⟩

set_option maxRecDepth 100000 in
set_option maxHeartbeats 2000000 in
theorem codesPut_4 (g gc : Nat) (l : List Bool) (d : Int) (w : World) (hcs : CodesAt w gc) (hl : BitsAt w g l) (hr0 : -1000000000000 ≤ d) (hr1 : d ≤ 1000000000000) (hn : l.length + 46 ≤ 20000) (F0 : fitsB (d + 0) 0 = false) (F1 : fitsB (d + 63) 7 = false) (F2 : fitsB (d + 255) 9 = false) (F3 : fitsB (d + 2047) 12 = false) (F4 : fitsB (d + 2199023255552) 42 = true)
    (L : List Bool) (hL : Hid ((l ++ BM.digits 15 4) ++ BM.digits (u64of (d + 2199023255552)) 42 = L)) :
    Calls Tryd.prog 99 #[.pointer (some ⟨gc, 0, none⟩), .pointer (some ⟨g, 0, none⟩), .int .i64 d] w (PutPost g L (.tuple #[]) w) := by
  obtain ⟨ph0, pq0, pb0, po0, ph1, pq1, pb1, po1, ph2, pq2, pb2, po2, ph3, pq3, pb3, po3, ph4, pq4, pb4, po4, hv⟩ := hcs.named
  have hs1 := fun (a : Addr) (c : Array Value) (w : World) => run_store Tryd.prog w a (.func (.func 125) #[] c) .plain rfl
  have hs2 := fun (a : Addr) (c : Array Value) (w : World) => run_store Tryd.prog w a (.func (.func 127) #[] c) .plain rfl
  have C0 := Lib.hid (fun (p : Value) (W : World) (q : ClosP W ph0 pq0 pb0 po0 0 1 0 0) => putClos_no ph0 pq0 pb0 po0 0 1 0 0 p d W q.h3 q.h4 q.h5 q.h6 (by unfold wrap64; omega) F0)
  have C1 := Lib.hid (fun (p : Value) (W : World) (q : ClosP W ph1 pq1 pb1 po1 2 2 7 63) => putClos_no ph1 pq1 pb1 po1 2 2 7 63 p d W q.h3 q.h4 q.h5 q.h6 (by unfold wrap64; omega) F1)
  have C2 := Lib.hid (fun (p : Value) (W : World) (q : ClosP W ph2 pq2 pb2 po2 6 3 9 255) => putClos_no ph2 pq2 pb2 po2 6 3 9 255 p d W q.h3 q.h4 q.h5 q.h6 (by unfold wrap64; omega) F2)
  have C3 := Lib.hid (fun (p : Value) (W : World) (q : ClosP W ph3 pq3 pb3 po3 14 4 12 2047) => putClos_no ph3 pq3 pb3 po3 14 4 12 2047 p d W q.h3 q.h4 q.h5 q.h6 (by unfold wrap64; omega) F3)
  have C4 := Lib.hid (fun (W : World) (q : ClosP W ph4 pq4 pb4 po4 15 4 42 2199023255552) (hl : BitsAt W g l) => putClos_yes ph4 pq4 pb4 po4 g 15 4 42 2199023255552 d l W q.h3 q.h4 q.h5 q.h6 hl (by unfold wrap64; omega) F4 (by decide) (by decide) (by decide) (by omega))
  have Hl := Lib.hid hl
  have HV := Lib.hid hv
  have HB := Lib.hid (Below.refl w.heap.size w)
  have hgc := heap_lt hv.hc
  have x0 := hv.a0
  have y0 := hv.b0
  clear hcs hl hv F0 F1 F2 F3 F4
  go_enter Tryd.func99, Tryd.ntmps99
  go_wp2_with fail
  refine wp_loop_rounds 5 ?_
  rw [rounds_succ]
  have k0 : Below w.heap.size w (w.alloc (.cells #[.func (.func 125) #[] #[.pointer (some ⟨po0, 0, none⟩), .pointer (some ⟨pb0, 0, none⟩), .pointer (some ⟨ph0, 0, none⟩), .pointer (some ⟨pq0, 0, none⟩)], .func (.func 127) #[] #[.pointer (some ⟨pb0, 0, none⟩), .pointer (some ⟨po0, 0, none⟩)]] 147)) := below1 w _
  have V0 := Lib.hid (HV.out.below k0)
  have B0 := Lib.hid (HB.out.trans (k0.mono HB.out.size))
  have L0 := Lib.hid (Hl.out.below k0)
  clear k0
  go_wp2_with fail
  refine (C0.out _ _ V0.out.p0).mono ?_
  rintro e w1 ⟨rfl, hb⟩
  clear x0 y0 hgc HV HB Hl
  have hv := V0.out.below hb
  have HB := Lib.hid (B0.out.trans (hb.mono B0.out.size))
  have Hl := Lib.hid (L0.out.below hb)
  have HV := Lib.hid hv
  have hgc := heap_lt hv.hc
  have x1 := hv.a1
  have y1 := hv.b1
  clear hv hb V0 B0 L0
  go_wp2_with fail
  rw [rounds_succ]
  have k1 : Below w1.heap.size w1 (w1.alloc (.cells #[.func (.func 125) #[] #[.pointer (some ⟨po1, 0, none⟩), .pointer (some ⟨pb1, 0, none⟩), .pointer (some ⟨ph1, 0, none⟩), .pointer (some ⟨pq1, 0, none⟩)], .func (.func 127) #[] #[.pointer (some ⟨pb1, 0, none⟩), .pointer (some ⟨po1, 0, none⟩)]] 147)) := below1 w1 _
  have V1 := Lib.hid (HV.out.below k1)
  have B1 := Lib.hid (HB.out.trans (k1.mono HB.out.size))
  have L1 := Lib.hid (Hl.out.below k1)
  clear k1
  go_wp2_with fail
  refine (C1.out _ _ V1.out.p1).mono ?_
  rintro e w2 ⟨rfl, hb⟩
  clear x1 y1 hgc HV HB Hl
  have hv := V1.out.below hb
  have HB := Lib.hid (B1.out.trans (hb.mono B1.out.size))
  have Hl := Lib.hid (L1.out.below hb)
  have HV := Lib.hid hv
  have hgc := heap_lt hv.hc
  have x2 := hv.a2
  have y2 := hv.b2
  clear hv hb V1 B1 L1
  go_wp2_with fail
  rw [rounds_succ]
  have k2 : Below w2.heap.size w2 (w2.alloc (.cells #[.func (.func 125) #[] #[.pointer (some ⟨po2, 0, none⟩), .pointer (some ⟨pb2, 0, none⟩), .pointer (some ⟨ph2, 0, none⟩), .pointer (some ⟨pq2, 0, none⟩)], .func (.func 127) #[] #[.pointer (some ⟨pb2, 0, none⟩), .pointer (some ⟨po2, 0, none⟩)]] 147)) := below1 w2 _
  have V2 := Lib.hid (HV.out.below k2)
  have B2 := Lib.hid (HB.out.trans (k2.mono HB.out.size))
  have L2 := Lib.hid (Hl.out.below k2)
  clear k2
  go_wp2_with fail
  refine (C2.out _ _ V2.out.p2).mono ?_
  rintro e w3 ⟨rfl, hb⟩
  clear x2 y2 hgc HV HB Hl
  have hv := V2.out.below hb
  have HB := Lib.hid (B2.out.trans (hb.mono B2.out.size))
  have Hl := Lib.hid (L2.out.below hb)
  have HV := Lib.hid hv
  have hgc := heap_lt hv.hc
  have x3 := hv.a3
  have y3 := hv.b3
  clear hv hb V2 B2 L2
  go_wp2_with fail
  rw [rounds_succ]
  have k3 : Below w3.heap.size w3 (w3.alloc (.cells #[.func (.func 125) #[] #[.pointer (some ⟨po3, 0, none⟩), .pointer (some ⟨pb3, 0, none⟩), .pointer (some ⟨ph3, 0, none⟩), .pointer (some ⟨pq3, 0, none⟩)], .func (.func 127) #[] #[.pointer (some ⟨pb3, 0, none⟩), .pointer (some ⟨po3, 0, none⟩)]] 147)) := below1 w3 _
  have V3 := Lib.hid (HV.out.below k3)
  have B3 := Lib.hid (HB.out.trans (k3.mono HB.out.size))
  have L3 := Lib.hid (Hl.out.below k3)
  clear k3
  go_wp2_with fail
  refine (C3.out _ _ V3.out.p3).mono ?_
  rintro e w4 ⟨rfl, hb⟩
  clear x3 y3 hgc HV HB Hl
  have hv := V3.out.below hb
  have HB := Lib.hid (B3.out.trans (hb.mono B3.out.size))
  have Hl := Lib.hid (L3.out.below hb)
  have HV := Lib.hid hv
  have hgc := heap_lt hv.hc
  have x4 := hv.a4
  have y4 := hv.b4
  clear hv hb V3 B3 L3
  go_wp2_with fail
  rw [rounds_succ]
  have k4 : Below w4.heap.size w4 (w4.alloc (.cells #[.func (.func 125) #[] #[.pointer (some ⟨po4, 0, none⟩), .pointer (some ⟨pb4, 0, none⟩), .pointer (some ⟨ph4, 0, none⟩), .pointer (some ⟨pq4, 0, none⟩)], .func (.func 127) #[] #[.pointer (some ⟨pb4, 0, none⟩), .pointer (some ⟨po4, 0, none⟩)]] 147)) := below1 w4 _
  have V4 := Lib.hid (HV.out.below k4)
  have B4 := Lib.hid (HB.out.trans (k4.mono HB.out.size))
  have L4 := Lib.hid (Hl.out.below k4)
  clear k4
  go_wp2_with fail
  refine (C4.out _ V4.out.p4 L4.out).mono ?_
  rintro e w9 ⟨rfl, hl9, hg9⟩
  have H9 := Lib.hid (below_grown B4.out hg9)
  have L9 := Lib.hid hl9
  clear hl9 hg9 x4 y4
  go_wp2_with fail
  go_end0
  exact ⟨rfl, hL.out ▸ L9.out, H9.out⟩
end Go.Proofs.YtanoohfhifhhaaaDoor

/- The walk of the law FnExactPutBits. -/
set_option linter.unusedVariables false
set_option linter.unusedSimpArgs false
namespace Go.Proofs.YtanoohfhifhhaaaDoor
open Go.RowKit


end Go.Proofs.YtanoohfhifhhaaaDoor

/- Walks: the program's code of a step; the law FnExactCodeOf. -/
set_option linter.unusedVariables false
set_option linter.unusedSimpArgs false
namespace Go.Proofs.YtanoohfhifhhaaaDoor
open Go.RowKit

theorem fits0 (v : Int) : fitsB v 0 = decide (v = 0) := by
  unfold fitsB; apply decide_eq_decide.2
  rw [show (2 : Int) ^ (0 : Int).toNat = 1 by decide]; omega
theorem fits7 (v : Int) : fitsB v 7 = decide (0 ≤ v ∧ v < 128) := by
  unfold fitsB; apply decide_eq_decide.2
  rw [show (2 : Int) ^ (7 : Int).toNat = 128 by decide]; omega
theorem fits9 (v : Int) : fitsB v 9 = decide (0 ≤ v ∧ v < 512) := by
  unfold fitsB; apply decide_eq_decide.2
  rw [show (2 : Int) ^ (9 : Int).toNat = 512 by decide]; omega
theorem fits12 (v : Int) : fitsB v 12 = decide (0 ≤ v ∧ v < 4096) := by
  unfold fitsB; apply decide_eq_decide.2
  rw [show (2 : Int) ^ (12 : Int).toNat = 4096 by decide]; omega
theorem fits42 (v : Int) : fitsB v 42 = decide (0 ≤ v ∧ v < 4398046511104) := by
  unfold fitsB; apply decide_eq_decide.2
  rw [show (2 : Int) ^ (42 : Int).toNat = 4398046511104 by decide]; omega

set_option maxRecDepth 100000 in
set_option maxHeartbeats 1000000 in
theorem codesPut_out (g gc : Nat) (d : Int) (w : World) (hr : stepB d = false) :
    Calls Tryd.prog 99 #[.pointer (some ⟨gc, 0, none⟩), .pointer (some ⟨g, 0, none⟩), .int .i64 d] w fun e w' => e = .returned (.tuple #[]) ∧ w' = w := by
  have hh : d < -1000000000000 ∨ (¬ d < -1000000000000 ∧ 1000000000000 < d) := by
    have := mt stepB_iff.2 (by rw [hr]; decide : ¬ stepB d = true)
    omega
  clear hr
  rcases hh with hh | ⟨h1, h2⟩
  · go_enter Tryd.func99, Tryd.ntmps99
    go_wp2_with fail
    exact bodyPost_ret (results_none rfl _ _ _) rfl ⟨rfl, rfl⟩
  · go_enter Tryd.func99, Tryd.ntmps99
    go_wp2_with fail
    exact bodyPost_ret (results_none rfl _ _ _) rfl ⟨rfl, rfl⟩

theorem grownBy_rfl (w : World) (r : Option Nat) : w.grownBy w r := ⟨rfl, rfl, rfl, Nat.le_refl _, fun _ _ _ => rfl⟩
theorem codesPut_any (g gc : Nat) (l : List Bool) (d : Int) (w : World) (hcs : CodesAt w gc) (hl : BitsAt w g l) (hn : l.length + 46 ≤ 20000) :
    Calls Tryd.prog 99 #[.pointer (some ⟨gc, 0, none⟩), .pointer (some ⟨g, 0, none⟩), .int .i64 d] w (PutPost g (l ++ codeB d) (.tuple #[]) w) := by
  cases hs : stepB d with
  | false =>
    refine (codesPut_out g gc d w hs).mono ?_
    rintro e w' ⟨rfl, rfl⟩
    have hB : codeB d = [] := by unfold codeB; rw [hs]; rfl
    rw [hB, List.append_nil]
    exact ⟨rfl, hl, grownBy_rfl _ _⟩
  | true =>
    have hr := stepB_iff.1 hs
    have hB : codeB d = codeL d := by unfold codeB; rw [hs]; rfl
    rw [hB]
    unfold codeL
    split
    · rename_i h0
      subst h0
      exact codesPut_0 g gc l 0 w hcs hl hr.1 hr.2 hn (by rw [fits0]; decide) _ (Lib.hid (by rw [List.append_assoc]; rfl))
    · rename_i h0
      have F0 : fitsB (d + 0) 0 = false := by rw [fits0, decide_eq_false_iff_not]; omega
      split
      · rename_i h1
        exact codesPut_1 g gc l d w hcs hl hr.1 hr.2 hn F0 (by rw [fits7, decide_eq_true_iff]; omega) _ (Lib.hid (by rw [List.append_assoc]; rfl))
      · rename_i h1
        have F1 : fitsB (d + 63) 7 = false := by rw [fits7, decide_eq_false_iff_not]; omega
        split
        · rename_i h2
          exact codesPut_2 g gc l d w hcs hl hr.1 hr.2 hn F0 F1 (by rw [fits9, decide_eq_true_iff]; omega) _ (Lib.hid (by rw [List.append_assoc]; rfl))
        · rename_i h2
          have F2 : fitsB (d + 255) 9 = false := by rw [fits9, decide_eq_false_iff_not]; omega
          split
          · rename_i h3
            exact codesPut_3 g gc l d w hcs hl hr.1 hr.2 hn F0 F1 F2 (by rw [fits12, decide_eq_true_iff]; omega) _ (Lib.hid (by rw [List.append_assoc]; rfl))
          · rename_i h3
            have F3 : fitsB (d + 2047) 12 = false := by rw [fits12, decide_eq_false_iff_not]; omega
            exact codesPut_4 g gc l d w hcs hl hr.1 hr.2 hn F0 F1 F2 F3 (by rw [fits42, decide_eq_true_iff]; omega) _ (Lib.hid (by rw [List.append_assoc]; rfl))



end Go.Proofs.YtanoohfhifhhaaaDoor
