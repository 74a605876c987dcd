/- Walks: Part of the model and of the program. -/
import Derived.Test.YtanoohfhifhhaaaDoorWo
import Derived.Deep.RegionLaw
import Derived.Deep.AppendLies
import Derived.Deep.RegionHeld3
import Derived.Shelf.Abstract
set_option linter.unusedVariables false
set_option linter.unusedSimpArgs false
namespace Go.Proofs.YtanoohfhifhhaaaDoor
open Go.RowKit

def partL (s : ByteArray) (N f n : Int) : List Bool := ((BM.listOf s.data.toList N.toNat).drop f.toNat).take n.toNat
def partS (s : ByteArray) (N f n : Int) : ByteArray := if hasB s N f n then ⟨(BM.pack (partL s N f n)).toArray⟩ else ⟨#[]⟩
def partN (s : ByteArray) (N f n : Int) : Int := if hasB s N f n then n else 0
theorem partS_bad {s : ByteArray} {N f n : Int} (h : hasB s N f n = false) : partS s N f n = ⟨#[]⟩ ∧ partN s N f n = 0 := by
  unfold partS partN; rw [h]; exact ⟨rfl, rfl⟩





end Go.Proofs.YtanoohfhifhhaaaDoor

/- Walks: Part of the program. -/
set_option linter.unusedVariables false
set_option linter.unusedSimpArgs false
namespace Go.Proofs.YtanoohfhifhhaaaDoor
open Go.RowKit

theorem below_setRow {B : Nat} {a w : World} (h : Below B a w) {g : Nat} (hg : B ≤ g) (cs : Array Value) : Below B a (w.setRow g cs) :=
  h.trans ⟨rfl, rfl, rfl, by simp, fun k hk => setRow_other w g k cs (by omega)⟩



end Go.Proofs.YtanoohfhifhhaaaDoor

/- Walks: Joined of the model. -/
set_option linter.unusedVariables false
set_option linter.unusedSimpArgs false
namespace Go.Proofs.YtanoohfhifhhaaaDoor
open Go.RowKit

def joinB (s : ByteArray) (N : Int) (t : ByteArray) (M : Int) : Bool := okB s N && (okB t M && decide (N + M ≤ 20000))
def joinL (s : ByteArray) (N : Int) (t : ByteArray) (M : Int) : List Bool := BM.listOf s.data.toList N.toNat ++ BM.listOf t.data.toList M.toNat
def joinS (s : ByteArray) (N : Int) (t : ByteArray) (M : Int) : ByteArray := if joinB s N t M then ⟨(BM.pack (joinL s N t M)).toArray⟩ else ⟨#[]⟩
def joinN (s : ByteArray) (N : Int) (t : ByteArray) (M : Int) : Int := if joinB s N t M then N + M else 0
theorem joinS_bad {s t : ByteArray} {N M : Int} (h : joinB s N t M = false) : joinS s N t M = ⟨#[]⟩ ∧ joinN s N t M = 0 := by
  unfold joinS joinN; rw [h]; exact ⟨rfl, rfl⟩

section
variable (w : World) (s : ByteArray) (N : Int) (t : ByteArray) (M : Int)
def J3 : World := ((w.alloc (.cells #[.string s, .int .i64 N] 77)).alloc (.cells #[.string t, .int .i64 M] 77)).alloc (.cells #[.string ⟨#[]⟩, .int .i64 0] 77)
structure JF (w w' : World) (s : ByteArray) (N : Int) (t : ByteArray) (M : Int) : Prop where
  a0 : w'.cell? ⟨w.heap.size, 0, none⟩ = some (.string s)
  a1 : w'.cell? ⟨w.heap.size, 1, none⟩ = some (.int .i64 N)
  b0 : w'.cell? ⟨w.heap.size + 1, 0, none⟩ = some (.string t)
  b1 : w'.cell? ⟨w.heap.size + 1, 1, none⟩ = some (.int .i64 M)
  r : ResBlk w' (w.heap.size + 2)
  z : w.heap.size + 3 ≤ w'.heap.size
  f : Below w.heap.size w w'
theorem JF.start : JF w (J3 w s N t M) s N t M := by
  unfold J3
  have h1 := heap_alloc2_new (w.alloc (.cells #[.string s, .int .i64 N] 77)) (.cells #[.string t, .int .i64 M] 77) (.cells #[.string ⟨#[]⟩, .int .i64 0] 77)
  have h2 := heap_alloc2_old (w.alloc (.cells #[.string s, .int .i64 N] 77)) (.cells #[.string t, .int .i64 M] 77) (.cells #[.string ⟨#[]⟩, .int .i64 0] 77)
  have h3 : (((w.alloc (.cells #[.string s, .int .i64 N] 77)).alloc (.cells #[.string t, .int .i64 M] 77)).alloc (.cells #[.string ⟨#[]⟩, .int .i64 0] 77)).heap[w.heap.size]? = some (.cells #[.string s, .int .i64 N] 77 (0, 0)) := by
    rw [Below.heap_alloc _ _ _ (by simp; omega), Below.heap_alloc _ _ _ (by simp)]
    exact heap_alloc_new w _
  rw [World.size_alloc] at h1 h2
  refine ⟨?_, ?_, ?_, ?_, h1, by simp, ((below1 w _).alloc (by simp) _).alloc (by simp; omega) _⟩
  · rw [cell_of_row _ _ _ _ _ _ h3]; rfl
  · rw [cell_of_row _ _ _ _ _ _ h3]; rfl
  · rw [cell_of_row _ _ _ _ _ _ h2]; rfl
  · rw [cell_of_row _ _ _ _ _ _ h2]; rfl
variable {w s N t M}
theorem JF.drew {w1 : World} (h : JF w w1 s N t M) : JF w w1.drew s N t M := ⟨h.a0, h.a1, h.b0, h.b1, h.r, h.z, h.f.drew⟩
theorem JF.below {w1 w2 : World} (h : JF w w1 s N t M) (hb : Below w1.heap.size w1 w2) : JF w w2 s N t M := by
  have hz := h.z
  have h0 : w.heap.size < w1.heap.size := by omega
  have h1 : w.heap.size + 1 < w1.heap.size := by omega
  exact ⟨(hb.cell (p := ⟨w.heap.size, 0, none⟩) h0).trans h.a0, (hb.cell (p := ⟨w.heap.size, 1, none⟩) h0).trans h.a1, (hb.cell (p := ⟨w.heap.size + 1, 0, none⟩) h1).trans h.b0, (hb.cell (p := ⟨w.heap.size + 1, 1, none⟩) h1).trans h.b1,
    h.r.below hb, Nat.le_trans hz hb.size, h.f.trans (hb.mono (by omega))⟩
theorem JF.grown {w1 w2 : World} {row : Option Nat} (h : JF w w1 s N t M) (hb : w1.grownBy w2 row) (hr : ∀ k, row = some k → w.heap.size + 3 ≤ k) : JF w w2 s N t M := by
  have hz := h.z
  have hn : ∀ i, i < w.heap.size + 3 → some i ≠ row := fun i hi he => by have := hr i he.symm; omega
  exact ⟨hb.cell h.a0 (hn w.heap.size (by omega)), hb.cell h.a1 (hn w.heap.size (by omega)), hb.cell h.b0 (hn (w.heap.size + 1) (by omega)), hb.cell h.b1 (hn (w.heap.size + 1) (by omega)),
    h.r.grown hb (hn (w.heap.size + 2) (by omega)), Nat.le_trans hz hb.size, h.f.grown hb (by omega) (fun k hk => by have := hr k hk; omega)⟩
end




def ListPost2 (base : Nat) (n : Nat) (l : List Bool) (w : World) (e : Ending) (w' : World) : Prop :=
  ∃ g c, e = .returned (.slice (some ⟨g, 0, none⟩) n c) ∧ w'.ownsRow base 2 1 (.slice (some ⟨g, 0, none⟩) n c) n (bitInts l) ∧ base ≤ g ∧ g < w'.heap.size ∧ Below w.heap.size w w'

theorem step_append_own {P : Program} (w : World) {ops : Array Oper} {o : Oper} {a : Act} {K : Act → World → Prop} {Q : Exit → Act → World → Prop} {E : Prop} (hgd : o.guard = none) (s x : Operand) (t : TypeId)
    (ho : o.op = .call { callee := .builtin .append, args := #[s, x], argTypes := #[t, t] })
    (base : Nat) (e : TypeId) (i : TypeInfo) (z : Value) (size bytes : Nat) (ht : P.underlying t = some (.slice e)) (hi : P.info? e = some i) (hz : i.zero = some z)
    (hsize : i.size = size) (hby : i.bytes = bytes) (hzs : z.cells.size = size) (hsz : 0 < size)
    (v : Value) (n : Nat) (xs : List Value) (hs : a.eval s = v) (hown : w.ownsRow base e size v n xs)
    (ad : Addr) (m c : Nat) (news : List Value) (hx : a.eval x = .slice (some ad) m c) (hl : news.length = m * size) (hnews : ∀ j u, news[j]? = some u → w.cell? (ad.add j) = some u) (h1 : ∀ u ∈ news, u.oneCell' = true)
    (h63 : n + m ≤ maxLen) (hbytes : (n + m) * bytes ≤ 140737488355328) (hbase : base ≤ w.heap.size)
    (h : ∀ v' w', w'.ownsRow base e size v' (n + m) (xs ++ news) → w.grownBy w' v.ownBlock → K (a.put o.dst v') w') :
    if Region.wanted o (yielded ops a.tmps) = true then Oper.wp P o a w K Q else E := by
  have hw : Region.wanted o (yielded ops a.tmps) = true := by simp [Region.wanted, hgd]
  rw [if_pos hw]
  exact wp_append_own w s x t ho base e i z size bytes ht hi hz hsize hby hzs hsz v n xs hs hown ad m c news hx hl hnews h1 h63 hbytes hbase fun v' w' h2 h3 _ => h v' w' h2 h3

theorem own_below {w w' : World} {base : Nat} {e : TypeId} {size : Nat} {v : Value} {n : Nat} {xs : List Value} (h : w.ownsRow base e size v n xs) (hb : Below w.heap.size w w') : w'.ownsRow base e size v n xs :=
  h.kept (row := none) ⟨hb.os, hb.tape, hb.output, hb.size, fun i hi _ => hb.block i hi⟩ (by by_cases hx : v.ownBlock = none; exact .inl hx; exact .inr hx)

theorem join_after {w wb w4 : World} {gA cA N M : Nat} {v' : Value} {LA LB : List Bool} {R : List UInt8} {s t : ByteArray} {N' M' : Int} {base : Nat}
    (hown4 : w4.ownsRow base 2 1 v' (N + M) (bitInts LA ++ bitInts LB)) (hgr4 : wb.grownBy w4 (Value.ownBlock (.slice (some ⟨gA, 0, none⟩) N cA)))
    (hlen : (LA ++ LB).length = N + M) (hR : BM.pack (LA ++ LB) = R) (hJ : JF w wb s N' t M') (hg : w.heap.size + 3 ≤ gA) (hl : N + M ≤ 20000) :
    ∃ A4 c4, v' = .slice A4 (N + M) c4 ∧ Hid (Calls Tryd.prog 80 #[.slice A4 (N + M) c4] w4 fun e w' => e = .returned (.agg #[.string ⟨R.toArray⟩, .int .i64 ((N : Int) + M)]) ∧ Below w4.heap.size w4 w') ∧ JF w w4 s N' t M' := by
  rw [bitInts_append] at hown4
  obtain ⟨A4, c4, hv, hA⟩ := ints_own hown4 (by rw [bitInts_length, hlen])
  have hpk := l1Pack_any A4 c4 _ w4 (by rw [hlen]; omega) hA
  rw [hlen, hR, Int.natCast_add] at hpk
  exact ⟨A4, c4, hv, hpk, hJ.grown hgr4 (fun k hk => by simp [Value.ownBlock] at hk; omega)⟩


end Go.Proofs.YtanoohfhifhhaaaDoor

/- Walks: Joined of the program, where it refuses. -/
set_option linter.unusedVariables false
set_option linter.unusedSimpArgs false
namespace Go.Proofs.YtanoohfhifhhaaaDoor
open Go.RowKit

set_option maxRecDepth 100000 in
set_option maxHeartbeats 1000000 in
theorem implJoined_bad0 (s : ByteArray) (N : Int) (t : ByteArray) (M : Int) (w : World) (hs : s.size ≤ maxLen) (h : okB s N = false) :
    Calls Tryd.prog 77 #[.agg #[.string s, .int .i64 N], .agg #[.string t, .int .i64 M]] w (BPost ⟨#[]⟩ 0 false w) := by
  have hok := fun W => implBitsOk_any s N W hs
  rw [h] at hok
  have Hok := Lib.hid hok
  have HJ := Lib.hid (JF.start w s N t M)
  unfold J3 at HJ
  clear hok h
  go_enter Tryd.func77, Tryd.ntmps77
  go_wp2_with fail
  refine (Hok.out _).mono ?_
  rintro e w1 ⟨rfl, hb1⟩
  have hj := HJ.out.below hb1
  have r0 := hj.r.c0
  have r1 := hj.r.c1
  have f0 := hj.r.f 0
  have f1 := hj.r.f 1
  have hf := hj.f
  clear hb1 hj
  go_wp2_with fail
  exact bodyPost_ret (v := .tuple #[.agg #[.string ⟨#[]⟩, .int .i64 0], .bool false]) (by simp [results, Tryd.results77, go_sem, r0, r1]) rfl
    ⟨rfl, (hf.setCell (by simp; omega) _).setCell (by simp; omega) _⟩

set_option maxRecDepth 100000 in
set_option maxHeartbeats 1000000 in
theorem implJoined_bad1 (s : ByteArray) (N : Int) (t : ByteArray) (M : Int) (w : World) (hs : s.size ≤ maxLen) (ht : t.size ≤ maxLen) (h : okB s N = true) (h2 : okB t M = false) :
    Calls Tryd.prog 77 #[.agg #[.string s, .int .i64 N], .agg #[.string t, .int .i64 M]] w (BPost ⟨#[]⟩ 0 false w) := by
  have hok := fun W => implBitsOk_any s N W hs
  rw [h] at hok
  have Hok := Lib.hid hok
  have hok2 := fun W => implBitsOk_any t M W ht
  rw [h2] at hok2
  have Hok2 := Lib.hid hok2
  have HJ := Lib.hid (JF.start w s N t M)
  unfold J3 at HJ
  clear hok h hok2 h2
  go_enter Tryd.func77, Tryd.ntmps77
  go_wp2_with fail
  refine (Hok.out _).mono ?_
  rintro e w1 ⟨rfl, hb1⟩
  have HJ1 := Lib.hid (HJ.out.below hb1)
  have b0 := HJ1.out.b0
  have b1 := HJ1.out.b1
  clear hb1
  go_wp2_with fail
  refine (Hok2.out _).mono ?_
  rintro e w2 ⟨rfl, hb1⟩
  have hj := HJ1.out.below hb1
  have r0 := hj.r.c0
  have r1 := hj.r.c1
  have f0 := hj.r.f 0
  have f1 := hj.r.f 1
  have hf := hj.f
  clear hb1 hj b0 b1
  go_wp2_with fail
  exact bodyPost_ret (v := .tuple #[.agg #[.string ⟨#[]⟩, .int .i64 0], .bool false]) (by simp [results, Tryd.results77, go_sem, r0, r1]) rfl
    ⟨rfl, (hf.setCell (by simp; omega) _).setCell (by simp; omega) _⟩

set_option maxRecDepth 100000 in
set_option maxHeartbeats 1000000 in
theorem implJoined_bad2 (s : ByteArray) (N : Int) (t : ByteArray) (M : Int) (w : World) (hs : s.size ≤ maxLen) (ht : t.size ≤ maxLen) (h : okB s N = true) (h2 : okB t M = true) (hl : ¬ N + M ≤ 20000) :
    Calls Tryd.prog 77 #[.agg #[.string s, .int .i64 N], .agg #[.string t, .int .i64 M]] w (BPost ⟨#[]⟩ 0 false w) := by
  have hok := fun W => implBitsOk_any s N W hs
  obtain ⟨hN0, hN1, _, _⟩ := okB_facts h
  obtain ⟨hM0, hM1, _, _⟩ := okB_facts h2
  rw [h] at hok
  have Hok := Lib.hid hok
  have hok2 := fun W => implBitsOk_any t M W ht
  rw [h2] at hok2
  have Hok2 := Lib.hid hok2
  have HJ := Lib.hid (JF.start w s N t M)
  unfold J3 at HJ
  have hd : decide (20000 < N + M) = true := by simp; omega
  clear hok h hok2 h2
  go_enter Tryd.func77, Tryd.ntmps77
  go_wp2_with fail
  refine (Hok.out _).mono ?_
  rintro e w1 ⟨rfl, hb1⟩
  have HJ1 := Lib.hid (HJ.out.below hb1)
  have b0 := HJ1.out.b0
  have b1 := HJ1.out.b1
  clear hb1
  go_wp2_with fail
  refine (Hok2.out _).mono ?_
  rintro e w2 ⟨rfl, hb1⟩
  have hj := HJ1.out.below hb1
  have a1 := hj.a1
  have b1 := hj.b1
  have r0 := hj.r.c0
  have r1 := hj.r.c1
  have f0 := hj.r.f 0
  have f1 := hj.r.f 1
  have hf := hj.f
  clear hb1 hj b0
  go_wp2_with fail
  exact bodyPost_ret (v := .tuple #[.agg #[.string ⟨#[]⟩, .int .i64 0], .bool false]) (by simp [results, Tryd.results77, go_sem, r0, r1]) rfl
    ⟨rfl, (hf.setCell (by simp; omega) _).setCell (by simp; omega) _⟩

end Go.Proofs.YtanoohfhifhhaaaDoor

/- Walks: impl.Joined where it joins. -/
namespace Go.Proofs.YtanoohfhifhhaaaDoor
open Go.RowKit

section
variable {ops : Array Oper} {d : Option Tmp} {ty : TypeId} {pos : String} {af : Array Edge} {a : Act} {w : World} {K : Act → World → Prop} {Q : Exit → Act → World → Prop}
theorem op_alloc_ba (h : ∀ g, g = w.heap.size → K (a.put d (.pointer (some ⟨g, 0, none⟩))) (w.alloc (.cells (baCells zeroWs 0) 113))) :
    Oper.wp Tryd.prog ⟨d, .alloc 113, ty, pos, af, none⟩ a w K Q := by
  unfold Oper.wp execOp
  simp only [run_alloc_ba, Sem.run_bind, Sem.run_pure, Result.andThen_ok]
  exact h _ rfl
theorem op_store_ba (x y : Operand) (g : Nat) (ws ws' : List Nat) (n n' : Int) (hb : BaBlk w g ws n) (hl : ws.length = 313) (hl' : ws'.length = 313) (hx : a.eval x = .pointer (some ⟨g, 0, none⟩)) (hy : a.eval y = baVal ws' n')
    (h : K (a.put d undef) (w.setRow g (baCells ws' n'))) :
    Oper.wp Tryd.prog ⟨d, .store 113 x y, ty, pos, af, none⟩ a w K Q := by
  unfold Oper.wp execOp
  simp only [hx, hy, run_store_ba hb (baCells_size _ _ hl) hl', Sem.run_bind, Sem.run_pure, Result.andThen_ok]
  exact h
set_option maxHeartbeats 1000000 in
theorem op_unpacked (x : Operand) (ty2 : Array TypeId) (s : ByteArray) (n : Int) (hs : s.size ≤ 2500) (hx : a.eval x = .agg #[.string s, .int .i64 n])
    (h : ∀ ws w', BM.WordsF ws (fun j => decide (j < 8 * s.size) && BM.bitAt s.data.toList j) → Below w.heap.size w w' → K (a.put d (baVal ws n)) w') :
    Oper.wp Tryd.prog ⟨d, .call { callee := .value (.func 90), args := #[x], argTypes := ty2 }, ty, pos, af, none⟩ a w K Q := by
  have he := enters_of Tryd.func90 (by kernel_rfl) rfl #[.agg #[.string s, .int .i64 n]] w
  unfold Oper.wp
  have hrun : (execOp a.eval ⟨d, .call { callee := .value (.func 90), args := #[x], argTypes := ty2 }, ty, pos, af, none⟩).run Tryd.prog w = .ok (.enter 90 #[.agg #[.string s, .int .i64 n]]) w := by
    have hf : a.eval (.func 90) = .func (.func 90) #[] #[] := rfl
    simp [execOp, resolve, Deferred.ofValue, hx, hf, invoke, he]
  rw [hrun, Oper.upon_enter]
  refine (unpacked_any s n w hs).mono ?_
  rintro e w' ⟨ws, rfl, hws, hb⟩
  exact h ws w' hws hb
end
theorem grown_setRow (w : World) (g : Nat) (c : Array Value) : w.grownBy (w.setRow g c) (some g) :=
  ⟨rfl, rfl, rfl, by simp, fun k _ hne => setRow_other w _ _ _ (fun e => hne (by rw [e]))⟩
theorem BaBlk.lt {w : World} {g : Nat} {ws : List Nat} {n : Int} (h : BaBlk w g ws n) : g < w.heap.size := (Array.getElem?_eq_some_iff.1 h).1
theorem BaBlk.below {w w' : World} {g : Nat} {ws : List Nat} {n : Int} (h : BaBlk w g ws n) (hb : Below w.heap.size w w') : BaBlk w' g ws n := (hb.block g h.lt).trans h
theorem BaBlk.new' {w : World} {ws : List Nat} {n : Int} {g : Nat} (hg : g = w.heap.size) : BaBlk (w.alloc (.cells (baCells ws n) 113)) g ws n := by subst hg; exact BaBlk.new w ws n
def JR (w : World) (s : ByteArray) (N : Int) (t : ByteArray) (M : Int) (gH gT : Nat) (w1 w2 : List Nat) (W : World) : Prop :=
  JF w W s N t M ∧ BaBlk W gH w1 N ∧ BaBlk W gT w2 M ∧ gT ≠ gH ∧ w.heap.size + 3 ≤ gH ∧ w.heap.size + 3 ≤ gT ∧
  BM.WordsF w1 (fun j => decide (j < 8 * s.size) && BM.bitAt s.data.toList j) ∧ BM.WordsF w2 (fun j => decide (j < 8 * t.size) && BM.bitAt t.data.toList j)
theorem jr_end {w W : World} {s : ByteArray} {N : Int} {t : ByteArray} {M : Int} {gH gT : Nat} {w1 w2 : List Nat} (hJ : JF w W s N t M) (hH : BaBlk W gH zeroWs 0) (hT : BaBlk W gT zeroWs 0) (hne : gT ≠ gH) (h1 : w.heap.size + 3 ≤ gH) (h2 : w.heap.size + 3 ≤ gT)
    (hw1 : BM.WordsF w1 (fun j => decide (j < 8 * s.size) && BM.bitAt s.data.toList j)) (hw2 : BM.WordsF w2 (fun j => decide (j < 8 * t.size) && BM.bitAt t.data.toList j)) :
    JR w s N t M gH gT w1 w2 ((W.setRow gH (baCells w1 N)).setRow gT (baCells w2 M)) := by
  have a1 : BaBlk (W.setRow gH (baCells w1 N)) gH w1 N := hH.setRow
  have a2 : BaBlk (W.setRow gH (baCells w1 N)) gT zeroWs 0 := (setRow_other _ _ _ _ hne).trans hT
  refine ⟨(hJ.grown (grown_setRow _ _ _) (fun k hk => by injection hk with hk; omega)).grown (grown_setRow _ _ _) (fun k hk => by injection hk with hk; omega), ?_, a2.setRow, hne, h1, h2, hw1, hw2⟩
  exact (setRow_other _ _ _ _ (fun e => hne e.symm)).trans a1

attribute [local irreducible] Oper.wp
set_option maxRecDepth 100000 in
set_option maxHeartbeats 8000000 in
theorem implJoined_good (s : ByteArray) (N : Nat) (t : ByteArray) (M : Nat) (w : World) (hs : s.size ≤ maxLen) (ht : t.size ≤ maxLen) (h : okB s N = true) (h2 : okB t M = true) (hl : N + M ≤ 20000)
    (R : List UInt8) (hR : Hid (BM.pack (BM.listOf s.data.toList N ++ BM.listOf t.data.toList M) = R)) :
    Calls Tryd.prog 77 #[.agg #[.string s, .int .i64 (N : Int)], .agg #[.string t, .int .i64 (M : Int)]] w (BPost ⟨R.toArray⟩ ((N : Int) + M) true w) := by
  have hok := fun W => implBitsOk_any s N W hs
  obtain ⟨hN0, hN1, hsN0, _⟩ := okB_facts h
  obtain ⟨hM0, hM1, htM0, _⟩ := okB_facts h2
  have hsN : s.size ≤ 2500 := by omega
  have htM : t.size ≤ 2500 := by omega
  have H1 := Lib.hid h
  have H2 := Lib.hid h2
  rw [h] at hok
  have Hok := Lib.hid hok
  have hok2 := fun W => implBitsOk_any t M W ht
  rw [h2] at hok2
  have Hok2 := Lib.hid hok2
  have HJ := Lib.hid (JF.start w s N t M)
  unfold J3 at HJ
  have hd : decide (20000 < (N : Int) + M) = false := by simp; omega
  clear hok h hok2 h2 hsN0 htM0
  go_enter Tryd.func77, Tryd.ntmps77
  go_wp2_with fail
  refine (Hok.out _).mono ?_
  rintro e w1 ⟨rfl, hb1⟩
  have HJ1 := Lib.hid (HJ.out.below hb1)
  have b0 := HJ1.out.b0
  have b1 := HJ1.out.b1
  clear hb1
  go_wp2_with fail
  refine (Hok2.out _).mono ?_
  rintro e w2 ⟨rfl, hb1⟩
  have hj := HJ1.out.below hb1
  have HJ2 := Lib.hid hj
  have a1 := hj.a1
  have b1 := hj.b1
  clear hb1 hj b0
  go_wp2_with fail
  clear a1 b1
  rename_i K' hK'
  refine (fun (hk : ∀ W gH gT ws1 ws2, JR w s (N : Int) t (M : Int) gH gT ws1 ws2 W → K' { tmps := #[.agg #[.string s, .int .i64 (N : Int)], .agg #[.string t, .int .i64 (M : Int)], .pointer (some ⟨w.heap.size, 0, none⟩), .pointer (some ⟨w.heap.size + 1, 0, none⟩), .pointer (some ⟨w.heap.size + 1 + 1, 0, none⟩), .bool false, .pointer (some ⟨gH, 0, none⟩), .pointer (some ⟨gT, 0, none⟩), .agg #[.string s, .int .i64 (N : Int)], .bool true, .bool false, .bool false, .agg #[.string t, .int .i64 (M : Int)], .bool true, .bool false, .bool false, .bool false, .pointer (some ⟨w.heap.size, 1, none⟩), .int .i64 (N : Int), .pointer (some ⟨w.heap.size + 1, 1, none⟩), .int .i64 (M : Int), .int .i64 ((N : Int) + (M : Int)), .bool false, .bool false, undef, .agg #[.string s, .int .i64 (N : Int)], baVal ws1 (N : Int), .agg #[.string t, .int .i64 (M : Int)], baVal ws2 (M : Int), undef, undef, undef, undef], defers := [] } W) => ?main) ?rest
  case main =>
    clear hK'
    have hJ0 := HJ2.out.drew
    refine wp_region_held_drew (S := fun W => JF w W s (N : Int) t (M : Int)) (by kernel_rfl) hJ0 ?_
    intro _
    refine wpAnyH_take (i := 0) (v := .agg #[.string s, .int .i64 (N : Int)]) rfl (by kernel_rfl) (by kernel_rfl) (by kernel_rfl) (fun _ _ _ h => h) (Or.inl ⟨by kernel_rfl, ?ld0⟩) hJ0 ?_
    case ld0 =>
      intro W hW
      have x0 := JF.a0 hW
      have x1 := JF.a1 hW
      clear hk HJ HJ1 HJ2 hJ0 hW
      go_simp
    refine wpAnyH_take (i := 2) (v := .agg #[.string t, .int .i64 (M : Int)]) rfl (by kernel_rfl) (by kernel_rfl) (by kernel_rfl) (fun _ _ _ h => h) (Or.inl ⟨by kernel_rfl, ?ld2⟩) hJ0 ?_
    case ld2 =>
      intro W hW
      have x0 := JF.b0 hW
      have x1 := JF.b1 hW
      clear hk HJ HJ1 HJ2 hJ0 hW
      go_simp
    refine wpAnyH_ready (rs := [1, 4, 5]) (by kernel_rfl) (by simp) ?_
    refine AllReadyH.cons rfl ?n1 (AllReadyH.cons rfl ?n2 (AllReadyH.cons rfl ?n3 (AllReadyH.nil)))
    case n1 =>
      intro K hK
      refine Eq.mpr (if_pos (by kernel_rfl)) ?_
      refine op_unpacked (.tmp 25) _ s (N : Int) hsN rfl ?_
      intro ws1 W4 hw1 hb4
      refine hK.out _ _ (JF.below hJ0 hb4) ?_
      intro hJ4
      refine wpAnyH_ready (rs := [3, 4, 5]) (by kernel_rfl) (by simp) ?_
      refine AllReadyH.cons rfl ?n5 (AllReadyH.cons rfl ?n6 (AllReadyH.cons rfl ?n7 (AllReadyH.nil)))
      case n5 =>
        intro K hK
        refine Eq.mpr (if_pos (by kernel_rfl)) ?_
        refine op_unpacked (.tmp 27) _ t (M : Int) htM rfl ?_
        intro ws2 W8 hw2 hb8
        refine hK.out _ _ (JF.below hJ4 hb8) ?_
        intro hJ8
        refine wpAnyH_ready (rs := [4, 5]) (by kernel_rfl) (by simp) ?_
        refine AllReadyH.cons rfl ?n9 (AllReadyH.cons rfl ?n10 (AllReadyH.nil))
        case n9 =>
          intro K hK
          refine Eq.mpr (if_pos (by kernel_rfl)) ?_
          refine op_alloc_ba ?_
          intro gH hgH
          have hz11 := JF.z hJ8
          have gbH : w.heap.size + 3 ≤ gH := by omega
          refine hK.out _ _ (JF.below hJ8 ((Below.refl _ _).alloc (Nat.le_refl _) _)) ?_
          intro hJ11
          have hH11 := BaBlk.new' (ws := zeroWs) (n := 0) hgH
          refine wpAnyH_ready (rs := [5]) (by kernel_rfl) (by simp) ?_
          refine AllReadyH.cons rfl ?n12 (AllReadyH.nil)
          case n12 =>
            intro K hK
            refine Eq.mpr (if_pos (by kernel_rfl)) ?_
            refine op_alloc_ba ?_
            intro gT hgT
            have hz13 := JF.z hJ11
            have gbT : w.heap.size + 3 ≤ gT := by omega
            refine hK.out _ _ (JF.below hJ11 ((Below.refl _ _).alloc (Nat.le_refl _) _)) ?_
            intro hJ13
            have hT13 := BaBlk.new' (ws := zeroWs) (n := 0) hgT
            have hl13 := BaBlk.lt hH11
            have hH13 := BaBlk.below hH11 ((Below.refl _ _).alloc (Nat.le_refl _) (.cells (baCells zeroWs 0) 113))
            have hne13 : gT ≠ gH := by omega
            refine wpAnyH_ready (rs := [6]) (by kernel_rfl) (by simp) ?_
            refine AllReadyH.cons rfl ?n14 (AllReadyH.nil)
            case n14 =>
              intro K hK
              refine Eq.mpr (if_pos (by kernel_rfl)) ?_
              refine op_store_ba (.tmp 6) (.tmp 26) gH zeroWs ws1 0 (N : Int) hH13 zeroWs_len hw1.1 (by simp [Act.eval, Act.put]) (by simp [Act.eval, Act.put]) ?_
              refine hK.out _ _ (JF.grown hJ13 (grown_setRow _ _ _) (fun k hk => by injection hk with hk; omega)) ?_
              intro hJ15
              have hT15 : BaBlk _ gT zeroWs 0 := (setRow_other _ _ _ (baCells ws1 (N : Int)) hne13).trans hT13
              refine wpAnyH_ready (rs := [7]) (by kernel_rfl) (by simp) ?_
              refine AllReadyH.cons rfl ?n16 (AllReadyH.nil)
              case n16 =>
                intro K hK
                refine Eq.mpr (if_pos (by kernel_rfl)) ?_
                refine op_store_ba (.tmp 7) (.tmp 28) gT zeroWs ws2 0 (M : Int) hT15 zeroWs_len hw2.1 (by simp [Act.eval, Act.put]) (by simp [Act.eval, Act.put]) ?_
                refine hK.out _ _ (JF.grown hJ15 (grown_setRow _ _ _) (fun k hk => by injection hk with hk; omega)) ?_
                intro _
                refine wpAnyH_done (by kernel_rfl) ?_ _
                exact hk _ gH gT ws1 ws2 (jr_end hJ13 hH13 hT13 hne13 gbH gbT hw1 hw2)
        case n10 =>
          intro K hK
          refine Eq.mpr (if_pos (by kernel_rfl)) ?_
          refine op_alloc_ba ?_
          intro gT hgT
          have hz17 := JF.z hJ8
          have gbT : w.heap.size + 3 ≤ gT := by omega
          refine hK.out _ _ (JF.below hJ8 ((Below.refl _ _).alloc (Nat.le_refl _) _)) ?_
          intro hJ17
          have hT17 := BaBlk.new' (ws := zeroWs) (n := 0) hgT
          refine wpAnyH_ready (rs := [4]) (by kernel_rfl) (by simp) ?_
          refine AllReadyH.cons rfl ?n18 (AllReadyH.nil)
          case n18 =>
            intro K hK
            refine Eq.mpr (if_pos (by kernel_rfl)) ?_
            refine op_alloc_ba ?_
            intro gH hgH
            have hz19 := JF.z hJ17
            have gbH : w.heap.size + 3 ≤ gH := by omega
            refine hK.out _ _ (JF.below hJ17 ((Below.refl _ _).alloc (Nat.le_refl _) _)) ?_
            intro hJ19
            have hH19 := BaBlk.new' (ws := zeroWs) (n := 0) hgH
            have hl19 := BaBlk.lt hT17
            have hT19 := BaBlk.below hT17 ((Below.refl _ _).alloc (Nat.le_refl _) (.cells (baCells zeroWs 0) 113))
            have hne19 : gT ≠ gH := by omega
            refine wpAnyH_ready (rs := [6]) (by kernel_rfl) (by simp) ?_
            refine AllReadyH.cons rfl ?n20 (AllReadyH.nil)
            case n20 =>
              intro K hK
              refine Eq.mpr (if_pos (by kernel_rfl)) ?_
              refine op_store_ba (.tmp 6) (.tmp 26) gH zeroWs ws1 0 (N : Int) hH19 zeroWs_len hw1.1 (by simp [Act.eval, Act.put]) (by simp [Act.eval, Act.put]) ?_
              refine hK.out _ _ (JF.grown hJ19 (grown_setRow _ _ _) (fun k hk => by injection hk with hk; omega)) ?_
              intro hJ21
              have hT21 : BaBlk _ gT zeroWs 0 := (setRow_other _ _ _ (baCells ws1 (N : Int)) hne19).trans hT19
              refine wpAnyH_ready (rs := [7]) (by kernel_rfl) (by simp) ?_
              refine AllReadyH.cons rfl ?n22 (AllReadyH.nil)
              case n22 =>
                intro K hK
                refine Eq.mpr (if_pos (by kernel_rfl)) ?_
                refine op_store_ba (.tmp 7) (.tmp 28) gT zeroWs ws2 0 (M : Int) hT21 zeroWs_len hw2.1 (by simp [Act.eval, Act.put]) (by simp [Act.eval, Act.put]) ?_
                refine hK.out _ _ (JF.grown hJ21 (grown_setRow _ _ _) (fun k hk => by injection hk with hk; omega)) ?_
                intro _
                refine wpAnyH_done (by kernel_rfl) ?_ _
                exact hk _ gH gT ws1 ws2 (jr_end hJ19 hH19 hT19 hne19 gbH gbT hw1 hw2)
      case n6 =>
        intro K hK
        refine Eq.mpr (if_pos (by kernel_rfl)) ?_
        refine op_alloc_ba ?_
        intro gH hgH
        have hz23 := JF.z hJ4
        have gbH : w.heap.size + 3 ≤ gH := by omega
        refine hK.out _ _ (JF.below hJ4 ((Below.refl _ _).alloc (Nat.le_refl _) _)) ?_
        intro hJ23
        have hH23 := BaBlk.new' (ws := zeroWs) (n := 0) hgH
        refine wpAnyH_ready (rs := [3, 5]) (by kernel_rfl) (by simp) ?_
        refine AllReadyH.cons rfl ?n24 (AllReadyH.cons rfl ?n25 (AllReadyH.nil))
        case n24 =>
          intro K hK
          refine Eq.mpr (if_pos (by kernel_rfl)) ?_
          refine op_unpacked (.tmp 27) _ t (M : Int) htM rfl ?_
          intro ws2 W26 hw2 hb26
          refine hK.out _ _ (JF.below hJ23 hb26) ?_
          intro hJ26
          have hH26 := BaBlk.below hH23 hb26
          refine wpAnyH_ready (rs := [5]) (by kernel_rfl) (by simp) ?_
          refine AllReadyH.cons rfl ?n27 (AllReadyH.nil)
          case n27 =>
            intro K hK
            refine Eq.mpr (if_pos (by kernel_rfl)) ?_
            refine op_alloc_ba ?_
            intro gT hgT
            have hz28 := JF.z hJ26
            have gbT : w.heap.size + 3 ≤ gT := by omega
            refine hK.out _ _ (JF.below hJ26 ((Below.refl _ _).alloc (Nat.le_refl _) _)) ?_
            intro hJ28
            have hT28 := BaBlk.new' (ws := zeroWs) (n := 0) hgT
            have hl28 := BaBlk.lt hH26
            have hH28 := BaBlk.below hH26 ((Below.refl _ _).alloc (Nat.le_refl _) (.cells (baCells zeroWs 0) 113))
            have hne28 : gT ≠ gH := by omega
            refine wpAnyH_ready (rs := [6]) (by kernel_rfl) (by simp) ?_
            refine AllReadyH.cons rfl ?n29 (AllReadyH.nil)
            case n29 =>
              intro K hK
              refine Eq.mpr (if_pos (by kernel_rfl)) ?_
              refine op_store_ba (.tmp 6) (.tmp 26) gH zeroWs ws1 0 (N : Int) hH28 zeroWs_len hw1.1 (by simp [Act.eval, Act.put]) (by simp [Act.eval, Act.put]) ?_
              refine hK.out _ _ (JF.grown hJ28 (grown_setRow _ _ _) (fun k hk => by injection hk with hk; omega)) ?_
              intro hJ30
              have hT30 : BaBlk _ gT zeroWs 0 := (setRow_other _ _ _ (baCells ws1 (N : Int)) hne28).trans hT28
              refine wpAnyH_ready (rs := [7]) (by kernel_rfl) (by simp) ?_
              refine AllReadyH.cons rfl ?n31 (AllReadyH.nil)
              case n31 =>
                intro K hK
                refine Eq.mpr (if_pos (by kernel_rfl)) ?_
                refine op_store_ba (.tmp 7) (.tmp 28) gT zeroWs ws2 0 (M : Int) hT30 zeroWs_len hw2.1 (by simp [Act.eval, Act.put]) (by simp [Act.eval, Act.put]) ?_
                refine hK.out _ _ (JF.grown hJ30 (grown_setRow _ _ _) (fun k hk => by injection hk with hk; omega)) ?_
                intro _
                refine wpAnyH_done (by kernel_rfl) ?_ _
                exact hk _ gH gT ws1 ws2 (jr_end hJ28 hH28 hT28 hne28 gbH gbT hw1 hw2)
        case n25 =>
          intro K hK
          refine Eq.mpr (if_pos (by kernel_rfl)) ?_
          refine op_alloc_ba ?_
          intro gT hgT
          have hz32 := JF.z hJ23
          have gbT : w.heap.size + 3 ≤ gT := by omega
          refine hK.out _ _ (JF.below hJ23 ((Below.refl _ _).alloc (Nat.le_refl _) _)) ?_
          intro hJ32
          have hT32 := BaBlk.new' (ws := zeroWs) (n := 0) hgT
          have hl32 := BaBlk.lt hH23
          have hH32 := BaBlk.below hH23 ((Below.refl _ _).alloc (Nat.le_refl _) (.cells (baCells zeroWs 0) 113))
          have hne32 : gT ≠ gH := by omega
          refine wpAnyH_ready (rs := [3]) (by kernel_rfl) (by simp) ?_
          refine AllReadyH.cons rfl ?n33 (AllReadyH.nil)
          case n33 =>
            intro K hK
            refine Eq.mpr (if_pos (by kernel_rfl)) ?_
            refine op_unpacked (.tmp 27) _ t (M : Int) htM rfl ?_
            intro ws2 W34 hw2 hb34
            refine hK.out _ _ (JF.below hJ32 hb34) ?_
            intro hJ34
            have hH34 := BaBlk.below hH32 hb34
            have hT34 := BaBlk.below hT32 hb34
            refine wpAnyH_ready (rs := [6]) (by kernel_rfl) (by simp) ?_
            refine AllReadyH.cons rfl ?n35 (AllReadyH.nil)
            case n35 =>
              intro K hK
              refine Eq.mpr (if_pos (by kernel_rfl)) ?_
              refine op_store_ba (.tmp 6) (.tmp 26) gH zeroWs ws1 0 (N : Int) hH34 zeroWs_len hw1.1 (by simp [Act.eval, Act.put]) (by simp [Act.eval, Act.put]) ?_
              refine hK.out _ _ (JF.grown hJ34 (grown_setRow _ _ _) (fun k hk => by injection hk with hk; omega)) ?_
              intro hJ36
              have hT36 : BaBlk _ gT zeroWs 0 := (setRow_other _ _ _ (baCells ws1 (N : Int)) hne32).trans hT34
              refine wpAnyH_ready (rs := [7]) (by kernel_rfl) (by simp) ?_
              refine AllReadyH.cons rfl ?n37 (AllReadyH.nil)
              case n37 =>
                intro K hK
                refine Eq.mpr (if_pos (by kernel_rfl)) ?_
                refine op_store_ba (.tmp 7) (.tmp 28) gT zeroWs ws2 0 (M : Int) hT36 zeroWs_len hw2.1 (by simp [Act.eval, Act.put]) (by simp [Act.eval, Act.put]) ?_
                refine hK.out _ _ (JF.grown hJ36 (grown_setRow _ _ _) (fun k hk => by injection hk with hk; omega)) ?_
                intro _
                refine wpAnyH_done (by kernel_rfl) ?_ _
                exact hk _ gH gT ws1 ws2 (jr_end hJ34 hH34 hT34 hne32 gbH gbT hw1 hw2)
      case n7 =>
        intro K hK
        refine Eq.mpr (if_pos (by kernel_rfl)) ?_
        refine op_alloc_ba ?_
        intro gT hgT
        have hz38 := JF.z hJ4
        have gbT : w.heap.size + 3 ≤ gT := by omega
        refine hK.out _ _ (JF.below hJ4 ((Below.refl _ _).alloc (Nat.le_refl _) _)) ?_
        intro hJ38
        have hT38 := BaBlk.new' (ws := zeroWs) (n := 0) hgT
        refine wpAnyH_ready (rs := [3, 4]) (by kernel_rfl) (by simp) ?_
        refine AllReadyH.cons rfl ?n39 (AllReadyH.cons rfl ?n40 (AllReadyH.nil))
        case n39 =>
          intro K hK
          refine Eq.mpr (if_pos (by kernel_rfl)) ?_
          refine op_unpacked (.tmp 27) _ t (M : Int) htM rfl ?_
          intro ws2 W41 hw2 hb41
          refine hK.out _ _ (JF.below hJ38 hb41) ?_
          intro hJ41
          have hT41 := BaBlk.below hT38 hb41
          refine wpAnyH_ready (rs := [4]) (by kernel_rfl) (by simp) ?_
          refine AllReadyH.cons rfl ?n42 (AllReadyH.nil)
          case n42 =>
            intro K hK
            refine Eq.mpr (if_pos (by kernel_rfl)) ?_
            refine op_alloc_ba ?_
            intro gH hgH
            have hz43 := JF.z hJ41
            have gbH : w.heap.size + 3 ≤ gH := by omega
            refine hK.out _ _ (JF.below hJ41 ((Below.refl _ _).alloc (Nat.le_refl _) _)) ?_
            intro hJ43
            have hH43 := BaBlk.new' (ws := zeroWs) (n := 0) hgH
            have hl43 := BaBlk.lt hT41
            have hT43 := BaBlk.below hT41 ((Below.refl _ _).alloc (Nat.le_refl _) (.cells (baCells zeroWs 0) 113))
            have hne43 : gT ≠ gH := by omega
            refine wpAnyH_ready (rs := [6]) (by kernel_rfl) (by simp) ?_
            refine AllReadyH.cons rfl ?n44 (AllReadyH.nil)
            case n44 =>
              intro K hK
              refine Eq.mpr (if_pos (by kernel_rfl)) ?_
              refine op_store_ba (.tmp 6) (.tmp 26) gH zeroWs ws1 0 (N : Int) hH43 zeroWs_len hw1.1 (by simp [Act.eval, Act.put]) (by simp [Act.eval, Act.put]) ?_
              refine hK.out _ _ (JF.grown hJ43 (grown_setRow _ _ _) (fun k hk => by injection hk with hk; omega)) ?_
              intro hJ45
              have hT45 : BaBlk _ gT zeroWs 0 := (setRow_other _ _ _ (baCells ws1 (N : Int)) hne43).trans hT43
              refine wpAnyH_ready (rs := [7]) (by kernel_rfl) (by simp) ?_
              refine AllReadyH.cons rfl ?n46 (AllReadyH.nil)
              case n46 =>
                intro K hK
                refine Eq.mpr (if_pos (by kernel_rfl)) ?_
                refine op_store_ba (.tmp 7) (.tmp 28) gT zeroWs ws2 0 (M : Int) hT45 zeroWs_len hw2.1 (by simp [Act.eval, Act.put]) (by simp [Act.eval, Act.put]) ?_
                refine hK.out _ _ (JF.grown hJ45 (grown_setRow _ _ _) (fun k hk => by injection hk with hk; omega)) ?_
                intro _
                refine wpAnyH_done (by kernel_rfl) ?_ _
                exact hk _ gH gT ws1 ws2 (jr_end hJ43 hH43 hT43 hne43 gbH gbT hw1 hw2)
        case n40 =>
          intro K hK
          refine Eq.mpr (if_pos (by kernel_rfl)) ?_
          refine op_alloc_ba ?_
          intro gH hgH
          have hz47 := JF.z hJ38
          have gbH : w.heap.size + 3 ≤ gH := by omega
          refine hK.out _ _ (JF.below hJ38 ((Below.refl _ _).alloc (Nat.le_refl _) _)) ?_
          intro hJ47
          have hH47 := BaBlk.new' (ws := zeroWs) (n := 0) hgH
          have hl47 := BaBlk.lt hT38
          have hT47 := BaBlk.below hT38 ((Below.refl _ _).alloc (Nat.le_refl _) (.cells (baCells zeroWs 0) 113))
          have hne47 : gT ≠ gH := by omega
          refine wpAnyH_ready (rs := [3]) (by kernel_rfl) (by simp) ?_
          refine AllReadyH.cons rfl ?n48 (AllReadyH.nil)
          case n48 =>
            intro K hK
            refine Eq.mpr (if_pos (by kernel_rfl)) ?_
            refine op_unpacked (.tmp 27) _ t (M : Int) htM rfl ?_
            intro ws2 W49 hw2 hb49
            refine hK.out _ _ (JF.below hJ47 hb49) ?_
            intro hJ49
            have hH49 := BaBlk.below hH47 hb49
            have hT49 := BaBlk.below hT47 hb49
            refine wpAnyH_ready (rs := [6]) (by kernel_rfl) (by simp) ?_
            refine AllReadyH.cons rfl ?n50 (AllReadyH.nil)
            case n50 =>
              intro K hK
              refine Eq.mpr (if_pos (by kernel_rfl)) ?_
              refine op_store_ba (.tmp 6) (.tmp 26) gH zeroWs ws1 0 (N : Int) hH49 zeroWs_len hw1.1 (by simp [Act.eval, Act.put]) (by simp [Act.eval, Act.put]) ?_
              refine hK.out _ _ (JF.grown hJ49 (grown_setRow _ _ _) (fun k hk => by injection hk with hk; omega)) ?_
              intro hJ51
              have hT51 : BaBlk _ gT zeroWs 0 := (setRow_other _ _ _ (baCells ws1 (N : Int)) hne47).trans hT49
              refine wpAnyH_ready (rs := [7]) (by kernel_rfl) (by simp) ?_
              refine AllReadyH.cons rfl ?n52 (AllReadyH.nil)
              case n52 =>
                intro K hK
                refine Eq.mpr (if_pos (by kernel_rfl)) ?_
                refine op_store_ba (.tmp 7) (.tmp 28) gT zeroWs ws2 0 (M : Int) hT51 zeroWs_len hw2.1 (by simp [Act.eval, Act.put]) (by simp [Act.eval, Act.put]) ?_
                refine hK.out _ _ (JF.grown hJ51 (grown_setRow _ _ _) (fun k hk => by injection hk with hk; omega)) ?_
                intro _
                refine wpAnyH_done (by kernel_rfl) ?_ _
                exact hk _ gH gT ws1 ws2 (jr_end hJ49 hH49 hT49 hne47 gbH gbT hw1 hw2)
    case n2 =>
      intro K hK
      refine Eq.mpr (if_pos (by kernel_rfl)) ?_
      refine op_alloc_ba ?_
      intro gH hgH
      have hz53 := JF.z hJ0
      have gbH : w.heap.size + 3 ≤ gH := by omega
      refine hK.out _ _ (JF.below hJ0 ((Below.refl _ _).alloc (Nat.le_refl _) _)) ?_
      intro hJ53
      have hH53 := BaBlk.new' (ws := zeroWs) (n := 0) hgH
      refine wpAnyH_ready (rs := [1, 5]) (by kernel_rfl) (by simp) ?_
      refine AllReadyH.cons rfl ?n54 (AllReadyH.cons rfl ?n55 (AllReadyH.nil))
      case n54 =>
        intro K hK
        refine Eq.mpr (if_pos (by kernel_rfl)) ?_
        refine op_unpacked (.tmp 25) _ s (N : Int) hsN rfl ?_
        intro ws1 W56 hw1 hb56
        refine hK.out _ _ (JF.below hJ53 hb56) ?_
        intro hJ56
        have hH56 := BaBlk.below hH53 hb56
        refine wpAnyH_ready (rs := [3, 5]) (by kernel_rfl) (by simp) ?_
        refine AllReadyH.cons rfl ?n57 (AllReadyH.cons rfl ?n58 (AllReadyH.nil))
        case n57 =>
          intro K hK
          refine Eq.mpr (if_pos (by kernel_rfl)) ?_
          refine op_unpacked (.tmp 27) _ t (M : Int) htM rfl ?_
          intro ws2 W59 hw2 hb59
          refine hK.out _ _ (JF.below hJ56 hb59) ?_
          intro hJ59
          have hH59 := BaBlk.below hH56 hb59
          refine wpAnyH_ready (rs := [5]) (by kernel_rfl) (by simp) ?_
          refine AllReadyH.cons rfl ?n60 (AllReadyH.nil)
          case n60 =>
            intro K hK
            refine Eq.mpr (if_pos (by kernel_rfl)) ?_
            refine op_alloc_ba ?_
            intro gT hgT
            have hz61 := JF.z hJ59
            have gbT : w.heap.size + 3 ≤ gT := by omega
            refine hK.out _ _ (JF.below hJ59 ((Below.refl _ _).alloc (Nat.le_refl _) _)) ?_
            intro hJ61
            have hT61 := BaBlk.new' (ws := zeroWs) (n := 0) hgT
            have hl61 := BaBlk.lt hH59
            have hH61 := BaBlk.below hH59 ((Below.refl _ _).alloc (Nat.le_refl _) (.cells (baCells zeroWs 0) 113))
            have hne61 : gT ≠ gH := by omega
            refine wpAnyH_ready (rs := [6]) (by kernel_rfl) (by simp) ?_
            refine AllReadyH.cons rfl ?n62 (AllReadyH.nil)
            case n62 =>
              intro K hK
              refine Eq.mpr (if_pos (by kernel_rfl)) ?_
              refine op_store_ba (.tmp 6) (.tmp 26) gH zeroWs ws1 0 (N : Int) hH61 zeroWs_len hw1.1 (by simp [Act.eval, Act.put]) (by simp [Act.eval, Act.put]) ?_
              refine hK.out _ _ (JF.grown hJ61 (grown_setRow _ _ _) (fun k hk => by injection hk with hk; omega)) ?_
              intro hJ63
              have hT63 : BaBlk _ gT zeroWs 0 := (setRow_other _ _ _ (baCells ws1 (N : Int)) hne61).trans hT61
              refine wpAnyH_ready (rs := [7]) (by kernel_rfl) (by simp) ?_
              refine AllReadyH.cons rfl ?n64 (AllReadyH.nil)
              case n64 =>
                intro K hK
                refine Eq.mpr (if_pos (by kernel_rfl)) ?_
                refine op_store_ba (.tmp 7) (.tmp 28) gT zeroWs ws2 0 (M : Int) hT63 zeroWs_len hw2.1 (by simp [Act.eval, Act.put]) (by simp [Act.eval, Act.put]) ?_
                refine hK.out _ _ (JF.grown hJ63 (grown_setRow _ _ _) (fun k hk => by injection hk with hk; omega)) ?_
                intro _
                refine wpAnyH_done (by kernel_rfl) ?_ _
                exact hk _ gH gT ws1 ws2 (jr_end hJ61 hH61 hT61 hne61 gbH gbT hw1 hw2)
        case n58 =>
          intro K hK
          refine Eq.mpr (if_pos (by kernel_rfl)) ?_
          refine op_alloc_ba ?_
          intro gT hgT
          have hz65 := JF.z hJ56
          have gbT : w.heap.size + 3 ≤ gT := by omega
          refine hK.out _ _ (JF.below hJ56 ((Below.refl _ _).alloc (Nat.le_refl _) _)) ?_
          intro hJ65
          have hT65 := BaBlk.new' (ws := zeroWs) (n := 0) hgT
          have hl65 := BaBlk.lt hH56
          have hH65 := BaBlk.below hH56 ((Below.refl _ _).alloc (Nat.le_refl _) (.cells (baCells zeroWs 0) 113))
          have hne65 : gT ≠ gH := by omega
          refine wpAnyH_ready (rs := [3]) (by kernel_rfl) (by simp) ?_
          refine AllReadyH.cons rfl ?n66 (AllReadyH.nil)
          case n66 =>
            intro K hK
            refine Eq.mpr (if_pos (by kernel_rfl)) ?_
            refine op_unpacked (.tmp 27) _ t (M : Int) htM rfl ?_
            intro ws2 W67 hw2 hb67
            refine hK.out _ _ (JF.below hJ65 hb67) ?_
            intro hJ67
            have hH67 := BaBlk.below hH65 hb67
            have hT67 := BaBlk.below hT65 hb67
            refine wpAnyH_ready (rs := [6]) (by kernel_rfl) (by simp) ?_
            refine AllReadyH.cons rfl ?n68 (AllReadyH.nil)
            case n68 =>
              intro K hK
              refine Eq.mpr (if_pos (by kernel_rfl)) ?_
              refine op_store_ba (.tmp 6) (.tmp 26) gH zeroWs ws1 0 (N : Int) hH67 zeroWs_len hw1.1 (by simp [Act.eval, Act.put]) (by simp [Act.eval, Act.put]) ?_
              refine hK.out _ _ (JF.grown hJ67 (grown_setRow _ _ _) (fun k hk => by injection hk with hk; omega)) ?_
              intro hJ69
              have hT69 : BaBlk _ gT zeroWs 0 := (setRow_other _ _ _ (baCells ws1 (N : Int)) hne65).trans hT67
              refine wpAnyH_ready (rs := [7]) (by kernel_rfl) (by simp) ?_
              refine AllReadyH.cons rfl ?n70 (AllReadyH.nil)
              case n70 =>
                intro K hK
                refine Eq.mpr (if_pos (by kernel_rfl)) ?_
                refine op_store_ba (.tmp 7) (.tmp 28) gT zeroWs ws2 0 (M : Int) hT69 zeroWs_len hw2.1 (by simp [Act.eval, Act.put]) (by simp [Act.eval, Act.put]) ?_
                refine hK.out _ _ (JF.grown hJ69 (grown_setRow _ _ _) (fun k hk => by injection hk with hk; omega)) ?_
                intro _
                refine wpAnyH_done (by kernel_rfl) ?_ _
                exact hk _ gH gT ws1 ws2 (jr_end hJ67 hH67 hT67 hne65 gbH gbT hw1 hw2)
      case n55 =>
        intro K hK
        refine Eq.mpr (if_pos (by kernel_rfl)) ?_
        refine op_alloc_ba ?_
        intro gT hgT
        have hz71 := JF.z hJ53
        have gbT : w.heap.size + 3 ≤ gT := by omega
        refine hK.out _ _ (JF.below hJ53 ((Below.refl _ _).alloc (Nat.le_refl _) _)) ?_
        intro hJ71
        have hT71 := BaBlk.new' (ws := zeroWs) (n := 0) hgT
        have hl71 := BaBlk.lt hH53
        have hH71 := BaBlk.below hH53 ((Below.refl _ _).alloc (Nat.le_refl _) (.cells (baCells zeroWs 0) 113))
        have hne71 : gT ≠ gH := by omega
        refine wpAnyH_ready (rs := [1]) (by kernel_rfl) (by simp) ?_
        refine AllReadyH.cons rfl ?n72 (AllReadyH.nil)
        case n72 =>
          intro K hK
          refine Eq.mpr (if_pos (by kernel_rfl)) ?_
          refine op_unpacked (.tmp 25) _ s (N : Int) hsN rfl ?_
          intro ws1 W73 hw1 hb73
          refine hK.out _ _ (JF.below hJ71 hb73) ?_
          intro hJ73
          have hH73 := BaBlk.below hH71 hb73
          have hT73 := BaBlk.below hT71 hb73
          refine wpAnyH_ready (rs := [3]) (by kernel_rfl) (by simp) ?_
          refine AllReadyH.cons rfl ?n74 (AllReadyH.nil)
          case n74 =>
            intro K hK
            refine Eq.mpr (if_pos (by kernel_rfl)) ?_
            refine op_unpacked (.tmp 27) _ t (M : Int) htM rfl ?_
            intro ws2 W75 hw2 hb75
            refine hK.out _ _ (JF.below hJ73 hb75) ?_
            intro hJ75
            have hH75 := BaBlk.below hH73 hb75
            have hT75 := BaBlk.below hT73 hb75
            refine wpAnyH_ready (rs := [6]) (by kernel_rfl) (by simp) ?_
            refine AllReadyH.cons rfl ?n76 (AllReadyH.nil)
            case n76 =>
              intro K hK
              refine Eq.mpr (if_pos (by kernel_rfl)) ?_
              refine op_store_ba (.tmp 6) (.tmp 26) gH zeroWs ws1 0 (N : Int) hH75 zeroWs_len hw1.1 (by simp [Act.eval, Act.put]) (by simp [Act.eval, Act.put]) ?_
              refine hK.out _ _ (JF.grown hJ75 (grown_setRow _ _ _) (fun k hk => by injection hk with hk; omega)) ?_
              intro hJ77
              have hT77 : BaBlk _ gT zeroWs 0 := (setRow_other _ _ _ (baCells ws1 (N : Int)) hne71).trans hT75
              refine wpAnyH_ready (rs := [7]) (by kernel_rfl) (by simp) ?_
              refine AllReadyH.cons rfl ?n78 (AllReadyH.nil)
              case n78 =>
                intro K hK
                refine Eq.mpr (if_pos (by kernel_rfl)) ?_
                refine op_store_ba (.tmp 7) (.tmp 28) gT zeroWs ws2 0 (M : Int) hT77 zeroWs_len hw2.1 (by simp [Act.eval, Act.put]) (by simp [Act.eval, Act.put]) ?_
                refine hK.out _ _ (JF.grown hJ77 (grown_setRow _ _ _) (fun k hk => by injection hk with hk; omega)) ?_
                intro _
                refine wpAnyH_done (by kernel_rfl) ?_ _
                exact hk _ gH gT ws1 ws2 (jr_end hJ75 hH75 hT75 hne71 gbH gbT hw1 hw2)
    case n3 =>
      intro K hK
      refine Eq.mpr (if_pos (by kernel_rfl)) ?_
      refine op_alloc_ba ?_
      intro gT hgT
      have hz79 := JF.z hJ0
      have gbT : w.heap.size + 3 ≤ gT := by omega
      refine hK.out _ _ (JF.below hJ0 ((Below.refl _ _).alloc (Nat.le_refl _) _)) ?_
      intro hJ79
      have hT79 := BaBlk.new' (ws := zeroWs) (n := 0) hgT
      refine wpAnyH_ready (rs := [1, 4]) (by kernel_rfl) (by simp) ?_
      refine AllReadyH.cons rfl ?n80 (AllReadyH.cons rfl ?n81 (AllReadyH.nil))
      case n80 =>
        intro K hK
        refine Eq.mpr (if_pos (by kernel_rfl)) ?_
        refine op_unpacked (.tmp 25) _ s (N : Int) hsN rfl ?_
        intro ws1 W82 hw1 hb82
        refine hK.out _ _ (JF.below hJ79 hb82) ?_
        intro hJ82
        have hT82 := BaBlk.below hT79 hb82
        refine wpAnyH_ready (rs := [3, 4]) (by kernel_rfl) (by simp) ?_
        refine AllReadyH.cons rfl ?n83 (AllReadyH.cons rfl ?n84 (AllReadyH.nil))
        case n83 =>
          intro K hK
          refine Eq.mpr (if_pos (by kernel_rfl)) ?_
          refine op_unpacked (.tmp 27) _ t (M : Int) htM rfl ?_
          intro ws2 W85 hw2 hb85
          refine hK.out _ _ (JF.below hJ82 hb85) ?_
          intro hJ85
          have hT85 := BaBlk.below hT82 hb85
          refine wpAnyH_ready (rs := [4]) (by kernel_rfl) (by simp) ?_
          refine AllReadyH.cons rfl ?n86 (AllReadyH.nil)
          case n86 =>
            intro K hK
            refine Eq.mpr (if_pos (by kernel_rfl)) ?_
            refine op_alloc_ba ?_
            intro gH hgH
            have hz87 := JF.z hJ85
            have gbH : w.heap.size + 3 ≤ gH := by omega
            refine hK.out _ _ (JF.below hJ85 ((Below.refl _ _).alloc (Nat.le_refl _) _)) ?_
            intro hJ87
            have hH87 := BaBlk.new' (ws := zeroWs) (n := 0) hgH
            have hl87 := BaBlk.lt hT85
            have hT87 := BaBlk.below hT85 ((Below.refl _ _).alloc (Nat.le_refl _) (.cells (baCells zeroWs 0) 113))
            have hne87 : gT ≠ gH := by omega
            refine wpAnyH_ready (rs := [6]) (by kernel_rfl) (by simp) ?_
            refine AllReadyH.cons rfl ?n88 (AllReadyH.nil)
            case n88 =>
              intro K hK
              refine Eq.mpr (if_pos (by kernel_rfl)) ?_
              refine op_store_ba (.tmp 6) (.tmp 26) gH zeroWs ws1 0 (N : Int) hH87 zeroWs_len hw1.1 (by simp [Act.eval, Act.put]) (by simp [Act.eval, Act.put]) ?_
              refine hK.out _ _ (JF.grown hJ87 (grown_setRow _ _ _) (fun k hk => by injection hk with hk; omega)) ?_
              intro hJ89
              have hT89 : BaBlk _ gT zeroWs 0 := (setRow_other _ _ _ (baCells ws1 (N : Int)) hne87).trans hT87
              refine wpAnyH_ready (rs := [7]) (by kernel_rfl) (by simp) ?_
              refine AllReadyH.cons rfl ?n90 (AllReadyH.nil)
              case n90 =>
                intro K hK
                refine Eq.mpr (if_pos (by kernel_rfl)) ?_
                refine op_store_ba (.tmp 7) (.tmp 28) gT zeroWs ws2 0 (M : Int) hT89 zeroWs_len hw2.1 (by simp [Act.eval, Act.put]) (by simp [Act.eval, Act.put]) ?_
                refine hK.out _ _ (JF.grown hJ89 (grown_setRow _ _ _) (fun k hk => by injection hk with hk; omega)) ?_
                intro _
                refine wpAnyH_done (by kernel_rfl) ?_ _
                exact hk _ gH gT ws1 ws2 (jr_end hJ87 hH87 hT87 hne87 gbH gbT hw1 hw2)
        case n84 =>
          intro K hK
          refine Eq.mpr (if_pos (by kernel_rfl)) ?_
          refine op_alloc_ba ?_
          intro gH hgH
          have hz91 := JF.z hJ82
          have gbH : w.heap.size + 3 ≤ gH := by omega
          refine hK.out _ _ (JF.below hJ82 ((Below.refl _ _).alloc (Nat.le_refl _) _)) ?_
          intro hJ91
          have hH91 := BaBlk.new' (ws := zeroWs) (n := 0) hgH
          have hl91 := BaBlk.lt hT82
          have hT91 := BaBlk.below hT82 ((Below.refl _ _).alloc (Nat.le_refl _) (.cells (baCells zeroWs 0) 113))
          have hne91 : gT ≠ gH := by omega
          refine wpAnyH_ready (rs := [3]) (by kernel_rfl) (by simp) ?_
          refine AllReadyH.cons rfl ?n92 (AllReadyH.nil)
          case n92 =>
            intro K hK
            refine Eq.mpr (if_pos (by kernel_rfl)) ?_
            refine op_unpacked (.tmp 27) _ t (M : Int) htM rfl ?_
            intro ws2 W93 hw2 hb93
            refine hK.out _ _ (JF.below hJ91 hb93) ?_
            intro hJ93
            have hH93 := BaBlk.below hH91 hb93
            have hT93 := BaBlk.below hT91 hb93
            refine wpAnyH_ready (rs := [6]) (by kernel_rfl) (by simp) ?_
            refine AllReadyH.cons rfl ?n94 (AllReadyH.nil)
            case n94 =>
              intro K hK
              refine Eq.mpr (if_pos (by kernel_rfl)) ?_
              refine op_store_ba (.tmp 6) (.tmp 26) gH zeroWs ws1 0 (N : Int) hH93 zeroWs_len hw1.1 (by simp [Act.eval, Act.put]) (by simp [Act.eval, Act.put]) ?_
              refine hK.out _ _ (JF.grown hJ93 (grown_setRow _ _ _) (fun k hk => by injection hk with hk; omega)) ?_
              intro hJ95
              have hT95 : BaBlk _ gT zeroWs 0 := (setRow_other _ _ _ (baCells ws1 (N : Int)) hne91).trans hT93
              refine wpAnyH_ready (rs := [7]) (by kernel_rfl) (by simp) ?_
              refine AllReadyH.cons rfl ?n96 (AllReadyH.nil)
              case n96 =>
                intro K hK
                refine Eq.mpr (if_pos (by kernel_rfl)) ?_
                refine op_store_ba (.tmp 7) (.tmp 28) gT zeroWs ws2 0 (M : Int) hT95 zeroWs_len hw2.1 (by simp [Act.eval, Act.put]) (by simp [Act.eval, Act.put]) ?_
                refine hK.out _ _ (JF.grown hJ95 (grown_setRow _ _ _) (fun k hk => by injection hk with hk; omega)) ?_
                intro _
                refine wpAnyH_done (by kernel_rfl) ?_ _
                exact hk _ gH gT ws1 ws2 (jr_end hJ93 hH93 hT93 hne91 gbH gbT hw1 hw2)
      case n81 =>
        intro K hK
        refine Eq.mpr (if_pos (by kernel_rfl)) ?_
        refine op_alloc_ba ?_
        intro gH hgH
        have hz97 := JF.z hJ79
        have gbH : w.heap.size + 3 ≤ gH := by omega
        refine hK.out _ _ (JF.below hJ79 ((Below.refl _ _).alloc (Nat.le_refl _) _)) ?_
        intro hJ97
        have hH97 := BaBlk.new' (ws := zeroWs) (n := 0) hgH
        have hl97 := BaBlk.lt hT79
        have hT97 := BaBlk.below hT79 ((Below.refl _ _).alloc (Nat.le_refl _) (.cells (baCells zeroWs 0) 113))
        have hne97 : gT ≠ gH := by omega
        refine wpAnyH_ready (rs := [1]) (by kernel_rfl) (by simp) ?_
        refine AllReadyH.cons rfl ?n98 (AllReadyH.nil)
        case n98 =>
          intro K hK
          refine Eq.mpr (if_pos (by kernel_rfl)) ?_
          refine op_unpacked (.tmp 25) _ s (N : Int) hsN rfl ?_
          intro ws1 W99 hw1 hb99
          refine hK.out _ _ (JF.below hJ97 hb99) ?_
          intro hJ99
          have hH99 := BaBlk.below hH97 hb99
          have hT99 := BaBlk.below hT97 hb99
          refine wpAnyH_ready (rs := [3]) (by kernel_rfl) (by simp) ?_
          refine AllReadyH.cons rfl ?n100 (AllReadyH.nil)
          case n100 =>
            intro K hK
            refine Eq.mpr (if_pos (by kernel_rfl)) ?_
            refine op_unpacked (.tmp 27) _ t (M : Int) htM rfl ?_
            intro ws2 W101 hw2 hb101
            refine hK.out _ _ (JF.below hJ99 hb101) ?_
            intro hJ101
            have hH101 := BaBlk.below hH99 hb101
            have hT101 := BaBlk.below hT99 hb101
            refine wpAnyH_ready (rs := [6]) (by kernel_rfl) (by simp) ?_
            refine AllReadyH.cons rfl ?n102 (AllReadyH.nil)
            case n102 =>
              intro K hK
              refine Eq.mpr (if_pos (by kernel_rfl)) ?_
              refine op_store_ba (.tmp 6) (.tmp 26) gH zeroWs ws1 0 (N : Int) hH101 zeroWs_len hw1.1 (by simp [Act.eval, Act.put]) (by simp [Act.eval, Act.put]) ?_
              refine hK.out _ _ (JF.grown hJ101 (grown_setRow _ _ _) (fun k hk => by injection hk with hk; omega)) ?_
              intro hJ103
              have hT103 : BaBlk _ gT zeroWs 0 := (setRow_other _ _ _ (baCells ws1 (N : Int)) hne97).trans hT101
              refine wpAnyH_ready (rs := [7]) (by kernel_rfl) (by simp) ?_
              refine AllReadyH.cons rfl ?n104 (AllReadyH.nil)
              case n104 =>
                intro K hK
                refine Eq.mpr (if_pos (by kernel_rfl)) ?_
                refine op_store_ba (.tmp 7) (.tmp 28) gT zeroWs ws2 0 (M : Int) hT103 zeroWs_len hw2.1 (by simp [Act.eval, Act.put]) (by simp [Act.eval, Act.put]) ?_
                refine hK.out _ _ (JF.grown hJ103 (grown_setRow _ _ _) (fun k hk => by injection hk with hk; omega)) ?_
                intro _
                refine wpAnyH_done (by kernel_rfl) ?_ _
                exact hk _ gH gT ws1 ws2 (jr_end hJ101 hH101 hT101 hne97 gbH gbT hw1 hw2)
  case rest =>
    intro W gH gT ws1 ws2 hP
    refine hK' _ _ ?_
    clear hK' K'
    obtain ⟨hJ, hH, hT, hne, gbH, gbT, hw1, hw2⟩ := hP
    have hW1 := ok_words H1.out hw1
    have hW2 := ok_words H2.out hw2
    have hpp := putPart_any gH gT ws1 ws2 (BM.listOf s.data.toList N) (BM.listOf t.data.toList M) 0 M W (by rw [BM.listOf_length]; exact hH) (by rw [BM.listOf_length]; exact hT) hne hW1 hW2 (by rw [BM.listOf_length]; omega) (by rw [BM.listOf_length]; exact hl)
    have hdt : ((BM.listOf t.data.toList M).drop 0).take M = BM.listOf t.data.toList M := by rw [List.drop_zero, List.take_of_length_le (by rw [BM.listOf_length]; omega)]
    rw [hdt] at hpp
    have hlen : ((BM.listOf s.data.toList N ++ BM.listOf t.data.toList M).length : Int) = (N : Int) + M := by rw [List.length_append, BM.listOf_length, BM.listOf_length, Int.natCast_add]
    have Hpp := Lib.hid hpp
    have Hlen := Lib.hid hlen
    have c313 := BaBlk.last hT hw2.1
    have HJ3 := Lib.hid hJ
    have HgbH := Lib.hid gbH
    clear hpp hlen hdt hW1 hW2 hw1 hw2 hJ hH hT hne gbH gbT HJ HJ1 HJ2 Hok Hok2 hd
    go_wp2_with fail
    refine Hpp.out.mono ?_
    rintro e w4 ⟨rfl, ws4, hB4, hW4, hg4⟩
    have hJ4 := HJ3.out.grown hg4 (fun k hk => by injection hk with hk; have := HgbH.out; omega)
    have hpk := packed_any gH ws4 _ w4 hB4 hW4
    rw [Hlen.out, hR.out] at hpk
    have Hpk := Lib.hid hpk
    clear hpk hW4 hB4 hg4 Hpp HJ3 c313
    go_wp2_with fail
    refine Hpk.out.mono ?_
    rintro e w5 ⟨rfl, hb5⟩
    have hJ5 := hJ4.below hb5
    have r0 := hJ5.r.c0
    have r1 := hJ5.r.c1
    have f0 := hJ5.r.f 0
    have f1 := hJ5.r.f 1
    have hf := hJ5.f
    clear hb5 hJ5 hJ4
    go_wp2_with fail
    exact bodyPost_ret (v := .tuple #[.agg #[.string ⟨R.toArray⟩, .int .i64 ((N : Int) + M)], .bool true]) (by simp [results, Tryd.results77, go_sem, r0, r1]) rfl
      ⟨rfl, (hf.setCell (by simp; omega) _).setCell (by simp; omega) _⟩

theorem implJoined_any (s : ByteArray) (N : Int) (t : ByteArray) (M : Int) (w : World) (hs : s.size ≤ maxLen) (ht : t.size ≤ maxLen) :
    Calls Tryd.prog 77 #[.agg #[.string s, .int .i64 N], .agg #[.string t, .int .i64 M]] w (BPost (joinS s N t M) (joinN s N t M) (joinB s N t M) w) := by
  cases h : okB s N with
  | false =>
    have hb : joinB s N t M = false := by unfold joinB; rw [h]; rfl
    rw [(joinS_bad hb).1, (joinS_bad hb).2, hb]
    exact implJoined_bad0 s N t M w hs h
  | true =>
    cases hk : okB t M with
    | false =>
      have hb : joinB s N t M = false := by unfold joinB; rw [h, hk]; rfl
      rw [(joinS_bad hb).1, (joinS_bad hb).2, hb]
      exact implJoined_bad1 s N t M w hs ht h hk
    | true =>
      by_cases hl : N + M ≤ 20000
      · have hb : joinB s N t M = true := by unfold joinB; rw [h, hk]; simp [hl]
        obtain ⟨hN0, _⟩ := okB_facts h
        obtain ⟨hM0, _⟩ := okB_facts hk
        obtain ⟨A, rfl⟩ := Int.eq_ofNat_of_zero_le hN0
        obtain ⟨B, rfl⟩ := Int.eq_ofNat_of_zero_le hM0
        unfold joinS joinN joinL
        rw [hb, if_pos rfl, if_pos rfl, Int.toNat_natCast, Int.toNat_natCast]
        exact implJoined_good s A t B w hs ht h hk (by omega) _ (Lib.hid rfl)
      · have hb : joinB s N t M = false := by unfold joinB; rw [h, hk]; simp [hl]
        rw [(joinS_bad hb).1, (joinS_bad hb).2, hb]
        exact implJoined_bad2 s N t M w hs ht h hk hl
end Go.Proofs.YtanoohfhifhhaaaDoor
