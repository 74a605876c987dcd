/- Walks: Part of the model and of the program. -/
import Derived.Test.YtanoohfhifhhaaaDoorWo
import Derived.Deep.RegionLaw
import Derived.Deep.AppendLies
set_option linter.unusedVariables false
set_option linter.unusedSimpArgs false
namespace Go.Proofs.YtanoohfhifhhaaaDoor
open Go.RowKit

def partL (s : ByteArray) (N f n : Int) : List Bool := ((BM.listOf s.data.toList N.toNat).drop f.toNat).take n.toNat
def partS (s : ByteArray) (N f n : Int) : ByteArray := if hasB s N f n then ⟨(BM.pack (partL s N f n)).toArray⟩ else ⟨#[]⟩
def partN (s : ByteArray) (N f n : Int) : Int := if hasB s N f n then n else 0
theorem partS_bad {s : ByteArray} {N f n : Int} (h : hasB s N f n = false) : partS s N f n = ⟨#[]⟩ ∧ partN s N f n = 0 := by
  unfold partS partN; rw [h]; exact ⟨rfl, rfl⟩





end Go.Proofs.YtanoohfhifhhaaaDoor

/- Walks: Part of the program. -/
set_option linter.unusedVariables false
set_option linter.unusedSimpArgs false
namespace Go.Proofs.YtanoohfhifhhaaaDoor
open Go.RowKit

theorem below_setRow {B : Nat} {a w : World} (h : Below B a w) {g : Nat} (hg : B ≤ g) (cs : Array Value) : Below B a (w.setRow g cs) :=
  h.trans ⟨rfl, rfl, rfl, by simp, fun k hk => setRow_other w g k cs (by omega)⟩



end Go.Proofs.YtanoohfhifhhaaaDoor

/- Walks: Joined of the model. -/
set_option linter.unusedVariables false
set_option linter.unusedSimpArgs false
namespace Go.Proofs.YtanoohfhifhhaaaDoor
open Go.RowKit

def joinB (s : ByteArray) (N : Int) (t : ByteArray) (M : Int) : Bool := okB s N && (okB t M && decide (N + M ≤ 20000))
def joinL (s : ByteArray) (N : Int) (t : ByteArray) (M : Int) : List Bool := BM.listOf s.data.toList N.toNat ++ BM.listOf t.data.toList M.toNat
def joinS (s : ByteArray) (N : Int) (t : ByteArray) (M : Int) : ByteArray := if joinB s N t M then ⟨(BM.pack (joinL s N t M)).toArray⟩ else ⟨#[]⟩
def joinN (s : ByteArray) (N : Int) (t : ByteArray) (M : Int) : Int := if joinB s N t M then N + M else 0
theorem joinS_bad {s t : ByteArray} {N M : Int} (h : joinB s N t M = false) : joinS s N t M = ⟨#[]⟩ ∧ joinN s N t M = 0 := by
  unfold joinS joinN; rw [h]; exact ⟨rfl, rfl⟩

section
variable (w : World) (s : ByteArray) (N : Int) (t : ByteArray) (M : Int)
def J3 : World := ((w.alloc (.cells #[.string s, .int .i64 N] 77)).alloc (.cells #[.string t, .int .i64 M] 77)).alloc (.cells #[.string ⟨#[]⟩, .int .i64 0] 77)
structure JF (w w' : World) (s : ByteArray) (N : Int) (t : ByteArray) (M : Int) : Prop where
  a0 : w'.cell? ⟨w.heap.size, 0, none⟩ = some (.string s)
  a1 : w'.cell? ⟨w.heap.size, 1, none⟩ = some (.int .i64 N)
  b0 : w'.cell? ⟨w.heap.size + 1, 0, none⟩ = some (.string t)
  b1 : w'.cell? ⟨w.heap.size + 1, 1, none⟩ = some (.int .i64 M)
  r : ResBlk w' (w.heap.size + 2)
  z : w.heap.size + 3 ≤ w'.heap.size
  f : Below w.heap.size w w'
theorem JF.start : JF w (J3 w s N t M) s N t M := by
  unfold J3
  have h1 := heap_alloc2_new (w.alloc (.cells #[.string s, .int .i64 N] 77)) (.cells #[.string t, .int .i64 M] 77) (.cells #[.string ⟨#[]⟩, .int .i64 0] 77)
  have h2 := heap_alloc2_old (w.alloc (.cells #[.string s, .int .i64 N] 77)) (.cells #[.string t, .int .i64 M] 77) (.cells #[.string ⟨#[]⟩, .int .i64 0] 77)
  have h3 : (((w.alloc (.cells #[.string s, .int .i64 N] 77)).alloc (.cells #[.string t, .int .i64 M] 77)).alloc (.cells #[.string ⟨#[]⟩, .int .i64 0] 77)).heap[w.heap.size]? = some (.cells #[.string s, .int .i64 N] 77 (0, 0)) := by
    rw [Below.heap_alloc _ _ _ (by simp; omega), Below.heap_alloc _ _ _ (by simp)]
    exact heap_alloc_new w _
  rw [World.size_alloc] at h1 h2
  refine ⟨?_, ?_, ?_, ?_, h1, by simp, ((below1 w _).alloc (by simp) _).alloc (by simp; omega) _⟩
  · rw [cell_of_row _ _ _ _ _ _ h3]; rfl
  · rw [cell_of_row _ _ _ _ _ _ h3]; rfl
  · rw [cell_of_row _ _ _ _ _ _ h2]; rfl
  · rw [cell_of_row _ _ _ _ _ _ h2]; rfl
variable {w s N t M}
theorem JF.drew {w1 : World} (h : JF w w1 s N t M) : JF w w1.drew s N t M := ⟨h.a0, h.a1, h.b0, h.b1, h.r, h.z, h.f.drew⟩
theorem JF.below {w1 w2 : World} (h : JF w w1 s N t M) (hb : Below w1.heap.size w1 w2) : JF w w2 s N t M := by
  have hz := h.z
  have h0 : w.heap.size < w1.heap.size := by omega
  have h1 : w.heap.size + 1 < w1.heap.size := by omega
  exact ⟨(hb.cell (p := ⟨w.heap.size, 0, none⟩) h0).trans h.a0, (hb.cell (p := ⟨w.heap.size, 1, none⟩) h0).trans h.a1, (hb.cell (p := ⟨w.heap.size + 1, 0, none⟩) h1).trans h.b0, (hb.cell (p := ⟨w.heap.size + 1, 1, none⟩) h1).trans h.b1,
    h.r.below hb, Nat.le_trans hz hb.size, h.f.trans (hb.mono (by omega))⟩
theorem JF.grown {w1 w2 : World} {row : Option Nat} (h : JF w w1 s N t M) (hb : w1.grownBy w2 row) (hr : ∀ k, row = some k → w.heap.size + 3 ≤ k) : JF w w2 s N t M := by
  have hz := h.z
  have hn : ∀ i, i < w.heap.size + 3 → some i ≠ row := fun i hi he => by have := hr i he.symm; omega
  exact ⟨hb.cell h.a0 (hn w.heap.size (by omega)), hb.cell h.a1 (hn w.heap.size (by omega)), hb.cell h.b0 (hn (w.heap.size + 1) (by omega)), hb.cell h.b1 (hn (w.heap.size + 1) (by omega)),
    h.r.grown hb (hn (w.heap.size + 2) (by omega)), Nat.le_trans hz hb.size, h.f.grown hb (by omega) (fun k hk => by have := hr k hk; omega)⟩
end




def ListPost2 (base : Nat) (n : Nat) (l : List Bool) (w : World) (e : Ending) (w' : World) : Prop :=
  ∃ g c, e = .returned (.slice (some ⟨g, 0, none⟩) n c) ∧ w'.ownsRow base 2 1 (.slice (some ⟨g, 0, none⟩) n c) n (bitInts l) ∧ base ≤ g ∧ g < w'.heap.size ∧ Below w.heap.size w w'

theorem step_append_own {P : Program} (w : World) {ops : Array Oper} {o : Oper} {a : Act} {K : Act → World → Prop} {Q : Exit → Act → World → Prop} {E : Prop} (hgd : o.guard = none) (s x : Operand) (t : TypeId)
    (ho : o.op = .call { callee := .builtin .append, args := #[s, x], argTypes := #[t, t] })
    (base : Nat) (e : TypeId) (i : TypeInfo) (z : Value) (size bytes : Nat) (ht : P.underlying t = some (.slice e)) (hi : P.info? e = some i) (hz : i.zero = some z)
    (hsize : i.size = size) (hby : i.bytes = bytes) (hzs : z.cells.size = size) (hsz : 0 < size)
    (v : Value) (n : Nat) (xs : List Value) (hs : a.eval s = v) (hown : w.ownsRow base e size v n xs)
    (ad : Addr) (m c : Nat) (news : List Value) (hx : a.eval x = .slice (some ad) m c) (hl : news.length = m * size) (hnews : ∀ j u, news[j]? = some u → w.cell? (ad.add j) = some u) (h1 : ∀ u ∈ news, u.oneCell' = true)
    (h63 : n + m ≤ maxLen) (hbytes : (n + m) * bytes ≤ 140737488355328) (hbase : base ≤ w.heap.size)
    (h : ∀ v' w', w'.ownsRow base e size v' (n + m) (xs ++ news) → w.grownBy w' v.ownBlock → K (a.put o.dst v') w') :
    if Region.wanted o (yielded ops a.tmps) = true then Oper.wp P o a w K Q else E := by
  have hw : Region.wanted o (yielded ops a.tmps) = true := by simp [Region.wanted, hgd]
  rw [if_pos hw]
  exact wp_append_own w s x t ho base e i z size bytes ht hi hz hsize hby hzs hsz v n xs hs hown ad m c news hx hl hnews h1 h63 hbytes hbase fun v' w' h2 h3 _ => h v' w' h2 h3

theorem own_below {w w' : World} {base : Nat} {e : TypeId} {size : Nat} {v : Value} {n : Nat} {xs : List Value} (h : w.ownsRow base e size v n xs) (hb : Below w.heap.size w w') : w'.ownsRow base e size v n xs :=
  h.kept (row := none) ⟨hb.os, hb.tape, hb.output, hb.size, fun i hi _ => hb.block i hi⟩ (by by_cases hx : v.ownBlock = none; exact .inl hx; exact .inr hx)

theorem join_after {w wb w4 : World} {gA cA N M : Nat} {v' : Value} {LA LB : List Bool} {R : List UInt8} {s t : ByteArray} {N' M' : Int} {base : Nat}
    (hown4 : w4.ownsRow base 2 1 v' (N + M) (bitInts LA ++ bitInts LB)) (hgr4 : wb.grownBy w4 (Value.ownBlock (.slice (some ⟨gA, 0, none⟩) N cA)))
    (hlen : (LA ++ LB).length = N + M) (hR : BM.pack (LA ++ LB) = R) (hJ : JF w wb s N' t M') (hg : w.heap.size + 3 ≤ gA) (hl : N + M ≤ 20000) :
    ∃ A4 c4, v' = .slice A4 (N + M) c4 ∧ Hid (Calls Tryd.prog 80 #[.slice A4 (N + M) c4] w4 fun e w' => e = .returned (.agg #[.string ⟨R.toArray⟩, .int .i64 ((N : Int) + M)]) ∧ Below w4.heap.size w4 w') ∧ JF w w4 s N' t M' := by
  rw [bitInts_append] at hown4
  obtain ⟨A4, c4, hv, hA⟩ := ints_own hown4 (by rw [bitInts_length, hlen])
  have hpk := l1Pack_any A4 c4 _ w4 (by rw [hlen]; omega) hA
  rw [hlen, hR, Int.natCast_add] at hpk
  exact ⟨A4, c4, hv, hpk, hJ.grown hgr4 (fun k hk => by simp [Value.ownBlock] at hk; omega)⟩


end Go.Proofs.YtanoohfhifhhaaaDoor

/- Walks: Joined of the program, where it refuses. -/
set_option linter.unusedVariables false
set_option linter.unusedSimpArgs false
namespace Go.Proofs.YtanoohfhifhhaaaDoor
open Go.RowKit

set_option maxRecDepth 100000 in
set_option maxHeartbeats 1000000 in
theorem implJoined_bad0 (s : ByteArray) (N : Int) (t : ByteArray) (M : Int) (w : World) (hs : s.size ≤ maxLen) (h : okB s N = false) :
    Calls Tryd.prog 77 #[.agg #[.string s, .int .i64 N], .agg #[.string t, .int .i64 M]] w (BPost ⟨#[]⟩ 0 false w) := by
  have hok := fun W => implBitsOk_any s N W hs
  rw [h] at hok
  have Hok := Lib.hid hok
  have HJ := Lib.hid (JF.start w s N t M)
  unfold J3 at HJ
  clear hok h
  go_enter Tryd.func77, Tryd.ntmps77
  go_wp2_with fail
  refine (Hok.out _).mono ?_
  rintro e w1 ⟨rfl, hb1⟩
  have hj := HJ.out.below hb1
  have r0 := hj.r.c0
  have r1 := hj.r.c1
  have f0 := hj.r.f 0
  have f1 := hj.r.f 1
  have hf := hj.f
  clear hb1 hj
  go_wp2_with fail
  exact bodyPost_ret (v := .tuple #[.agg #[.string ⟨#[]⟩, .int .i64 0], .bool false]) (by simp [results, Tryd.results77, go_sem, r0, r1]) rfl
    ⟨rfl, (hf.setCell (by simp; omega) _).setCell (by simp; omega) _⟩

set_option maxRecDepth 100000 in
set_option maxHeartbeats 1000000 in
theorem implJoined_bad1 (s : ByteArray) (N : Int) (t : ByteArray) (M : Int) (w : World) (hs : s.size ≤ maxLen) (ht : t.size ≤ maxLen) (h : okB s N = true) (h2 : okB t M = false) :
    Calls Tryd.prog 77 #[.agg #[.string s, .int .i64 N], .agg #[.string t, .int .i64 M]] w (BPost ⟨#[]⟩ 0 false w) := by
  have hok := fun W => implBitsOk_any s N W hs
  rw [h] at hok
  have Hok := Lib.hid hok
  have hok2 := fun W => implBitsOk_any t M W ht
  rw [h2] at hok2
  have Hok2 := Lib.hid hok2
  have HJ := Lib.hid (JF.start w s N t M)
  unfold J3 at HJ
  clear hok h hok2 h2
  go_enter Tryd.func77, Tryd.ntmps77
  go_wp2_with fail
  refine (Hok.out _).mono ?_
  rintro e w1 ⟨rfl, hb1⟩
  have HJ1 := Lib.hid (HJ.out.below hb1)
  have b0 := HJ1.out.b0
  have b1 := HJ1.out.b1
  clear hb1
  go_wp2_with fail
  refine (Hok2.out _).mono ?_
  rintro e w2 ⟨rfl, hb1⟩
  have hj := HJ1.out.below hb1
  have r0 := hj.r.c0
  have r1 := hj.r.c1
  have f0 := hj.r.f 0
  have f1 := hj.r.f 1
  have hf := hj.f
  clear hb1 hj b0 b1
  go_wp2_with fail
  exact bodyPost_ret (v := .tuple #[.agg #[.string ⟨#[]⟩, .int .i64 0], .bool false]) (by simp [results, Tryd.results77, go_sem, r0, r1]) rfl
    ⟨rfl, (hf.setCell (by simp; omega) _).setCell (by simp; omega) _⟩

set_option maxRecDepth 100000 in
set_option maxHeartbeats 1000000 in
theorem implJoined_bad2 (s : ByteArray) (N : Int) (t : ByteArray) (M : Int) (w : World) (hs : s.size ≤ maxLen) (ht : t.size ≤ maxLen) (h : okB s N = true) (h2 : okB t M = true) (hl : ¬ N + M ≤ 20000) :
    Calls Tryd.prog 77 #[.agg #[.string s, .int .i64 N], .agg #[.string t, .int .i64 M]] w (BPost ⟨#[]⟩ 0 false w) := by
  have hok := fun W => implBitsOk_any s N W hs
  obtain ⟨hN0, hN1, _, _⟩ := okB_facts h
  obtain ⟨hM0, hM1, _, _⟩ := okB_facts h2
  rw [h] at hok
  have Hok := Lib.hid hok
  have hok2 := fun W => implBitsOk_any t M W ht
  rw [h2] at hok2
  have Hok2 := Lib.hid hok2
  have HJ := Lib.hid (JF.start w s N t M)
  unfold J3 at HJ
  have hd : decide (20000 < N + M) = true := by simp; omega
  clear hok h hok2 h2
  go_enter Tryd.func77, Tryd.ntmps77
  go_wp2_with fail
  refine (Hok.out _).mono ?_
  rintro e w1 ⟨rfl, hb1⟩
  have HJ1 := Lib.hid (HJ.out.below hb1)
  have b0 := HJ1.out.b0
  have b1 := HJ1.out.b1
  clear hb1
  go_wp2_with fail
  refine (Hok2.out _).mono ?_
  rintro e w2 ⟨rfl, hb1⟩
  have hj := HJ1.out.below hb1
  have a1 := hj.a1
  have b1 := hj.b1
  have r0 := hj.r.c0
  have r1 := hj.r.c1
  have f0 := hj.r.f 0
  have f1 := hj.r.f 1
  have hf := hj.f
  clear hb1 hj b0
  go_wp2_with fail
  exact bodyPost_ret (v := .tuple #[.agg #[.string ⟨#[]⟩, .int .i64 0], .bool false]) (by simp [results, Tryd.results77, go_sem, r0, r1]) rfl
    ⟨rfl, (hf.setCell (by simp; omega) _).setCell (by simp; omega) _⟩

end Go.Proofs.YtanoohfhifhhaaaDoor
