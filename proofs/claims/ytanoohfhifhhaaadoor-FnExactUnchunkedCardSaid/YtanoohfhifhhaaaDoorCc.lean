/- Walks: the program's codes of a step. -/
import Derived.Test.YtanoohfhifhhaaaDoorCa
import Derived.Test.YtanoohfhifhhaaaDoorWh
import Derived.Test.YtanoohfhifhhaaaDoorWj
import Derived.Test.YtanoohfhifhhaaaDoorWi
import Derived.LoopTactic
import Derived.LoopN
set_option linter.unusedVariables false
set_option linter.unusedSimpArgs false
namespace Go.Proofs.YtanoohfhifhhaaaDoor
open Go.RowKit

/-- the two function values of a code, and what they hold -/
structure ClosAt (W : World) (f1 f2 : Value) (h hb b o : Int) : Prop where
  ex : ∃ ph phb pb po : Nat, f1 = .func (.func 125) #[] #[.pointer (some ⟨po, 0, none⟩), .pointer (some ⟨pb, 0, none⟩), .pointer (some ⟨ph, 0, none⟩), .pointer (some ⟨phb, 0, none⟩)] ∧
    f2 = .func (.func 127) #[] #[.pointer (some ⟨pb, 0, none⟩), .pointer (some ⟨po, 0, none⟩)] ∧
    W.heap[ph]? = some (.cells #[.int .u64 h] 110 (0, 0)) ∧ W.heap[phb]? = some (.cells #[.int .i64 hb] 2 (0, 0)) ∧ W.heap[pb]? = some (.cells #[.int .i64 b] 2 (0, 0)) ∧ W.heap[po]? = some (.cells #[.int .i64 o] 2 (0, 0))
theorem heap_lt {w : World} {g : Nat} {o : Obj} (h : w.heap[g]? = some o) : g < w.heap.size := (Array.getElem?_eq_some_iff.1 h).1
theorem ClosAt.below {W W' : World} {f1 f2 : Value} {h hb b o : Int} (p : ClosAt W f1 f2 h hb b o) (k : Below W.heap.size W W') : ClosAt W' f1 f2 h hb b o := by
  obtain ⟨ph, phb, pb, po, h1, h2, h3, h4, h5, h6⟩ := p.ex
  exact ⟨ph, phb, pb, po, h1, h2, (k.block _ (heap_lt h3)).trans h3, (k.block _ (heap_lt h4)).trans h4, (k.block _ (heap_lt h5)).trans h5, (k.block _ (heap_lt h6)).trans h6⟩

theorem five_new (w : World) (A B C D E : Obj) :
    ((((((w.alloc A).alloc B).alloc C).alloc D).alloc E).heap[w.heap.size]? = some A) ∧ ((((((w.alloc A).alloc B).alloc C).alloc D).alloc E).heap[w.heap.size + 1]? = some B) ∧
    ((((((w.alloc A).alloc B).alloc C).alloc D).alloc E).heap[w.heap.size + 1 + 1]? = some C) ∧ ((((((w.alloc A).alloc B).alloc C).alloc D).alloc E).heap[w.heap.size + 1 + 1 + 1]? = some D) := by
  refine ⟨?_, ?_, ?_, ?_⟩
  · rw [Below.heap_alloc _ _ _ (by simp <;> omega), Below.heap_alloc _ _ _ (by simp <;> omega), Below.heap_alloc _ _ _ (by simp <;> omega), Below.heap_alloc _ _ _ (by simp)]
    exact heap_alloc_new w A
  · rw [Below.heap_alloc _ _ _ (by simp <;> omega), Below.heap_alloc _ _ _ (by simp <;> omega), Below.heap_alloc _ _ _ (by simp)]
    have := heap_alloc_new (w.alloc A) B
    rwa [World.size_alloc] at this
  · rw [Below.heap_alloc _ _ _ (by simp <;> omega), Below.heap_alloc _ _ _ (by simp)]
    have := heap_alloc_new ((w.alloc A).alloc B) C
    rwa [World.size_alloc, World.size_alloc] at this
  · rw [Below.heap_alloc _ _ _ (by simp)]
    have := heap_alloc_new (((w.alloc A).alloc B).alloc C) D
    rwa [World.size_alloc, World.size_alloc, World.size_alloc] at this

set_option maxRecDepth 100000 in
set_option maxHeartbeats 1000000 in
theorem offsetCode_any (h hb b o : Int) (w : World) :
    Calls Tryd.prog 116 #[.int .u64 h, .int .i64 hb, .int .i64 b, .int .i64 o] w fun e w' => ∃ f1 f2, e = .returned (.agg #[f1, f2]) ∧ ClosAt w' f1 f2 h hb b o ∧ Below w.heap.size w w' ∧ f1.oneCell' = true ∧ f2.oneCell' = true := by
  have hs1 := fun (a : Addr) (c : Array Value) (w : World) => run_store Tryd.prog w a (.func (.func 125) #[] c) .plain rfl
  have hs2 := fun (a : Addr) (c : Array Value) (w : World) => run_store Tryd.prog w a (.func (.func 127) #[] c) .plain rfl
  go_enter Tryd.func116, Tryd.ntmps116
  go_wp2_with fail
  obtain ⟨n1, n2, n3, n4⟩ := five_new w (.cells #[.int .u64 h] 110) (.cells #[.int .i64 hb] 2) (.cells #[.int .i64 b] 2) (.cells #[.int .i64 o] 2)
    (.cells #[.func (.func 125) #[] #[.pointer (some ⟨w.heap.size + 1 + 1 + 1, 0, none⟩), .pointer (some ⟨w.heap.size + 1 + 1, 0, none⟩), .pointer (some ⟨w.heap.size, 0, none⟩), .pointer (some ⟨w.heap.size + 1, 0, none⟩)], .func (.func 127) #[] #[.pointer (some ⟨w.heap.size + 1 + 1, 0, none⟩), .pointer (some ⟨w.heap.size + 1 + 1 + 1, 0, none⟩)]] 147)
  refine bodyPost_ret (v := .agg #[.func (.func 125) #[] #[.pointer (some ⟨w.heap.size + 1 + 1 + 1, 0, none⟩), .pointer (some ⟨w.heap.size + 1 + 1, 0, none⟩), .pointer (some ⟨w.heap.size, 0, none⟩), .pointer (some ⟨w.heap.size + 1, 0, none⟩)], .func (.func 127) #[] #[.pointer (some ⟨w.heap.size + 1 + 1, 0, none⟩), .pointer (some ⟨w.heap.size + 1 + 1 + 1, 0, none⟩)]]) (by simp [results, Tryd.results116, go_sem]) rfl ?_
  refine ⟨_, _, rfl, ⟨_, _, _, _, rfl, rfl, n1, n2, n3, n4⟩, ?_, rfl, rfl⟩
  exact (((((Below.refl w.heap.size w).alloc (Nat.le_refl _) _).alloc (by simp) _).alloc (by simp; omega) _).alloc (by simp; omega) _).alloc (by simp; omega) _

/-- a block of the five codes -/
def CodesAt (W : World) (g : Nat) : Prop :=
  ∃ a0 b0 a1 b1 a2 b2 a3 b3 a4 b4, W.heap[g]? = some (.cells #[a0, b0, a1, b1, a2, b2, a3, b3, a4, b4] 150 (0, 0)) ∧
    ClosAt W a0 b0 0 1 0 0 ∧ ClosAt W a1 b1 2 2 7 63 ∧ ClosAt W a2 b2 6 3 9 255 ∧ ClosAt W a3 b3 14 4 12 2047 ∧ ClosAt W a4 b4 15 4 42 2199023255552
theorem CodesAt.below {W W' : World} {g : Nat} (p : CodesAt W g) (k : Below W.heap.size W W') : CodesAt W' g := by
  obtain ⟨a0, b0, a1, b1, a2, b2, a3, b3, a4, b4, h, c0, c1, c2, c3, c4⟩ := p
  exact ⟨a0, b0, a1, b1, a2, b2, a3, b3, a4, b4, (k.block _ (heap_lt h)).trans h, c0.below k, c1.below k, c2.below k, c3.below k, c4.below k⟩

set_option maxRecDepth 100000 in
set_option maxHeartbeats 2000000 in
theorem newStepCodes_any (w : World) :
    Calls Tryd.prog 97 #[] w fun e w' => ∃ g, e = .returned (.pointer (some ⟨g, 0, none⟩)) ∧ CodesAt w' g ∧ w.heap.size ≤ g ∧ Below w.heap.size w w' := by
  go_enter Tryd.func97, Tryd.ntmps97
  go_wp2_with fail
  refine (offsetCode_any _ _ _ _ _).mono ?_
  rintro e w0 ⟨a0, b0, rfl, c0, k0, x0, y0⟩
  have C0 := Lib.hid c0
  have K0 := Lib.hid k0
  clear c0 k0
  go_wp2_with fail
  refine (offsetCode_any _ _ _ _ _).mono ?_
  rintro e w1 ⟨a1, b1, rfl, c1, k1, x1, y1⟩
  have C0 := Lib.hid (C0.out.below k1)
  have K0 := Lib.hid (K0.out.trans (k1.mono K0.out.size))
  have C1 := Lib.hid c1
  clear c1 k1
  go_wp2_with fail
  refine (offsetCode_any _ _ _ _ _).mono ?_
  rintro e w2 ⟨a2, b2, rfl, c2, k2, x2, y2⟩
  have C0 := Lib.hid (C0.out.below k2)
  have C1 := Lib.hid (C1.out.below k2)
  have K0 := Lib.hid (K0.out.trans (k2.mono K0.out.size))
  have C2 := Lib.hid c2
  clear c2 k2
  go_wp2_with fail
  refine (offsetCode_any _ _ _ _ _).mono ?_
  rintro e w3 ⟨a3, b3, rfl, c3, k3, x3, y3⟩
  have C0 := Lib.hid (C0.out.below k3)
  have C1 := Lib.hid (C1.out.below k3)
  have C2 := Lib.hid (C2.out.below k3)
  have K0 := Lib.hid (K0.out.trans (k3.mono K0.out.size))
  have C3 := Lib.hid c3
  clear c3 k3
  go_wp2_with fail
  refine (offsetCode_any _ _ _ _ _).mono ?_
  rintro e w4 ⟨a4, b4, rfl, c4, k4, x4, y4⟩
  have C0 := Lib.hid (C0.out.below k4)
  have C1 := Lib.hid (C1.out.below k4)
  have C2 := Lib.hid (C2.out.below k4)
  have C3 := Lib.hid (C3.out.below k4)
  have K0 := Lib.hid (K0.out.trans (k4.mono K0.out.size))
  have C4 := Lib.hid c4
  clear c4 k4
  have hst := fun (a : Addr) (v : Value) (w : World) (hv : v.oneCell' = true) => run_store Tryd.prog w a v .plain hv
  go_wp2_with fail
  have HB : Below w4.heap.size w4 (w4.alloc (.cells #[a0, b0, a1, b1, a2, b2, a3, b3, a4, b4] 150)) := below1 w4 _
  refine bodyPost_ret (v := .pointer (some ⟨w4.heap.size, 0, none⟩)) (by simp [results, Tryd.results97, go_sem]) rfl ?_
  exact ⟨_, rfl, ⟨_, _, _, _, _, _, _, _, _, _, heap_alloc_new w4 _, C0.out.below HB, C1.out.below HB, C2.out.below HB, C3.out.below HB, C4.out.below HB⟩, K0.out.size, K0.out.trans (HB.mono K0.out.size)⟩
end Go.Proofs.YtanoohfhifhhaaaDoor

/- Walks: the program appends a code. -/
set_option linter.unusedVariables false
set_option linter.unusedSimpArgs false
namespace Go.Proofs.YtanoohfhifhhaaaDoor
open Go.RowKit

/-- block g holds these bits -/
def BitsAt (w : World) (g : Nat) (l : List Bool) : Prop := ∃ ws, BaBlk w g ws (l.length : Int) ∧ BM.Words ws l
def PutPost (g : Nat) (l : List Bool) (v : Value) (w : World) (e : Ending) (w' : World) : Prop :=
  e = .returned v ∧ BitsAt w' g l ∧ w.grownBy w' (some g)
theorem put_bits (g : Nat) (l : List Bool) (v k : Nat) (w : World) (h : BitsAt w g l) (hn : l.length + k ≤ 20000) (hk : k ≤ 64) (hv : v < 2 ^ 64) :
    Calls Tryd.prog 98 #[.pointer (some ⟨g, 0, none⟩), .int .u64 (v : Int), .int .i64 (k : Int)] w (PutPost g (l ++ BM.digits v k) (.tuple #[]) w) := by
  obtain ⟨ws, hb, hw⟩ := h
  refine (put_any g ws l.length v k w hb hw.1 hw.2.1 hn hk hv).mono fun e w' ⟨h1, h2, h3⟩ => ⟨h1, ⟨_, ?_, BM.words_put hw v k hk hn⟩, h3⟩
  rw [List.length_append, BM.digits_length]; exact h2
theorem BitsAt.lt {w : World} {g : Nat} {l : List Bool} (h : BitsAt w g l) : g < w.heap.size := by obtain ⟨ws, hb, _⟩ := h; exact heap_lt hb
theorem BitsAt.below {w w' : World} {g : Nat} {l : List Bool} (h : BitsAt w g l) (hb : Below w.heap.size w w') : BitsAt w' g l := by
  obtain ⟨ws, h1, h2⟩ := h; exact ⟨ws, (hb.block g (heap_lt h1)).trans h1, h2⟩
theorem ClosAt.grown {W W' : World} {f1 f2 : Value} {h hb b o : Int} {row : Option Nat} (p : ClosAt W f1 f2 h hb b o) (k : W.grownBy W' row) (hr : ∀ g, row = some g → ∀ c ty, W.heap[g]? = some (.cells c ty (0, 0)) → c.size ≠ 1) : ClosAt W' f1 f2 h hb b o := by
  obtain ⟨ph, phb, pb, po, h1, h2, h3, h4, h5, h6⟩ := p.ex
  have hne : ∀ g c ty, W.heap[g]? = some (.cells #[c] ty (0, 0)) → some g ≠ row := fun g c ty hg he => hr g he.symm _ _ hg rfl
  exact ⟨ph, phb, pb, po, h1, h2, (k.block _ (heap_lt h3) (hne _ _ _ h3)).trans h3, (k.block _ (heap_lt h4) (hne _ _ _ h4)).trans h4, (k.block _ (heap_lt h5) (hne _ _ _ h5)).trans h5, (k.block _ (heap_lt h6) (hne _ _ _ h6)).trans h6⟩

set_option maxRecDepth 100000 in
set_option maxHeartbeats 1000000 in
theorem putClos_no (ph phb pb po : Nat) (h hb b o : Int) (p : Value) (d : Int) (w : World) (h3 : w.heap[ph]? = some (.cells #[.int .u64 h] 110 (0, 0))) (h4 : w.heap[phb]? = some (.cells #[.int .i64 hb] 2 (0, 0))) (h5 : w.heap[pb]? = some (.cells #[.int .i64 b] 2 (0, 0))) (h6 : w.heap[po]? = some (.cells #[.int .i64 o] 2 (0, 0)))
    (hw : wrap64 (d + o) = d + o) (hf : fitsB (d + o) b = false) :
    Calls Tryd.prog 125 #[p, .int .i64 d, .pointer (some ⟨po, 0, none⟩), .pointer (some ⟨pb, 0, none⟩), .pointer (some ⟨ph, 0, none⟩), .pointer (some ⟨phb, 0, none⟩)] w fun e w' => e = .returned (.bool false) ∧ Below w.heap.size w w' := by
  have c5 : w.cell? ⟨pb, 0, none⟩ = some (.int .i64 b) := by rw [cell_of_row w pb 0 _ _ _ h5]; rfl
  have c6 : w.cell? ⟨po, 0, none⟩ = some (.int .i64 o) := by rw [cell_of_row w po 0 _ _ _ h6]; rfl
  have hfi := fun W => fitsIn_any (d + o) b W
  rw [hf] at hfi
  have Hf := Lib.hid hfi
  clear hfi hf h3 h4 h5 h6
  go_enter Tryd.func125, Tryd.ntmps125
  go_wp2_with fail
  refine (Hf.out _).mono ?_
  rintro e w' ⟨rfl, rfl⟩
  go_wp2_with fail
  go_ret
  exact ⟨rfl, Below.refl _ _⟩

theorem wrap_u64of' (x : Int) : IntKind.u64.wrap x = ((u64of x : Nat) : Int) := by rw [IntKind.wrap_u64]; unfold u64of; omega
theorem u64of_lt2 (x : Int) : u64of x < 2 ^ 64 := by unfold u64of; omega
set_option maxRecDepth 100000 in
set_option maxHeartbeats 1000000 in
theorem putClos_yes (ph phb pb po g H HB B : Nat) (o d : Int) (l : List Bool) (w : World) (h3 : w.heap[ph]? = some (.cells #[.int .u64 (H : Int)] 110 (0, 0))) (h4 : w.heap[phb]? = some (.cells #[.int .i64 (HB : Int)] 2 (0, 0))) (h5 : w.heap[pb]? = some (.cells #[.int .i64 (B : Int)] 2 (0, 0))) (h6 : w.heap[po]? = some (.cells #[.int .i64 o] 2 (0, 0)))
    (hl : BitsAt w g l) (hw : wrap64 (d + o) = d + o) (hf : fitsB (d + o) B = true) (hH : H < 2 ^ 64) (hHB : HB ≤ 64) (hB : B ≤ 64) (hn : l.length + HB + B ≤ 20000) :
    Calls Tryd.prog 125 #[.pointer (some ⟨g, 0, none⟩), .int .i64 d, .pointer (some ⟨po, 0, none⟩), .pointer (some ⟨pb, 0, none⟩), .pointer (some ⟨ph, 0, none⟩), .pointer (some ⟨phb, 0, none⟩)] w (PutPost g ((l ++ BM.digits H HB) ++ BM.digits (u64of (d + o)) B) (.bool true) w) := by
  have c3 : w.cell? ⟨ph, 0, none⟩ = some (.int .u64 (H : Int)) := by rw [cell_of_row w ph 0 _ _ _ h3]; rfl
  have c4 : w.cell? ⟨phb, 0, none⟩ = some (.int .i64 (HB : Int)) := by rw [cell_of_row w phb 0 _ _ _ h4]; rfl
  have c5 : w.cell? ⟨pb, 0, none⟩ = some (.int .i64 (B : Int)) := by rw [cell_of_row w pb 0 _ _ _ h5]; rfl
  have c6 : w.cell? ⟨po, 0, none⟩ = some (.int .i64 o) := by rw [cell_of_row w po 0 _ _ _ h6]; rfl
  have hne : ∀ k v ty, w.heap[k]? = some (.cells #[v] ty (0, 0)) → some k ≠ some g := by
    intro k v ty hk he
    injection he with he
    subst he
    obtain ⟨ws, hb, hws⟩ := hl
    unfold BaBlk at hb
    rw [hk] at hb
    injection hb with hb
    injection hb with hb _ _
    have := congrArg Array.size hb
    rw [baCells_size _ _ hws.1] at this
    simp at this
  have e5 := Lib.hid (hne _ _ _ h5)
  have e6 := Lib.hid (hne _ _ _ h6)
  have hfi := fun W => fitsIn_any (d + o) B W
  rw [hf] at hfi
  have Hf := Lib.hid hfi
  have hcv := wrap_u64of' (d + o)
  have hlt := u64of_lt2 (d + o)
  generalize u64of (d + o) = U at *
  have Hlt := Lib.hid hlt
  have Hl := Lib.hid hl
  have HH := Lib.hid hH
  clear hfi hf h3 h4 h5 h6 hlt hl hH hne
  go_enter Tryd.func125, Tryd.ntmps125
  go_wp2_with fail
  refine (Hf.out _).mono ?_
  rintro e w ⟨rfl, rfl⟩
  go_wp2_with fail
  refine (put_bits g l H HB _ Hl.out (by omega) hHB HH.out).mono ?_
  rintro e w2 ⟨rfl, hl2, hg2⟩
  have d5 := hg2.cell c5 e5.out
  have d6 := hg2.cell c6 e6.out
  have Hl2 := Lib.hid hl2
  have Hg2 := Lib.hid hg2
  clear hl2 hg2 c3 c4 c5 c6 Hl
  go_wp2_with fail
  refine (put_bits g _ U B _ Hl2.out (by rw [List.length_append, BM.digits_length]; exact hn) hB Hlt.out).mono ?_
  rintro e w3 ⟨rfl, hl3, hg3⟩
  have Hg3 := Lib.hid (grownBy_trans Hg2.out hg3)
  have Hl3 := Lib.hid hl3
  clear hl3 hg3
  go_wp2_with fail
  go_ret
  exact ⟨rfl, Hl3.out, Hg3.out⟩

end Go.Proofs.YtanoohfhifhhaaaDoor
