/- Walks: the program appends a change. -/
import Derived.Test.YtanoohfhifhhaaaDoorEa
import Derived.Deep.RegionLaw
import Derived.Deep.QuietTactic
import Derived.Deep.RegionHeld3
import Derived.Test.YtanoohfhifhhaaaDoorIb
set_option linter.unusedVariables false
set_option linter.unusedSimpArgs false
namespace Go.Proofs.YtanoohfhifhhaaaDoor
open Go.RowKit

theorem eb_lt {w : World} {g : Nat} {o : Obj} (h : w.heap[g]? = some o) : g < w.heap.size := (Array.getElem?_eq_some_iff.1 h).1
def BitsV (w : World) (g : Nat) (l : List Bool) : Prop := ∃ ws, BaBlk w g ws (l.length : Int) ∧ BM.Words ws l
theorem put_bitsV (g : Nat) (l : List Bool) (v k : Nat) (w : World) (h : BitsV w g l) (hn : l.length + k ≤ 20000) (hk : k ≤ 64) (hv : v < 2 ^ 64) :
    Calls Tryd.prog 98 #[.pointer (some ⟨g, 0, none⟩), .int .u64 (v : Int), .int .i64 (k : Int)] w (fun e w' => e = .returned (.tuple #[]) ∧ BitsV w' g (l ++ BM.digits v k) ∧ w.grownBy w' (some g)) := by
  obtain ⟨ws, hb, hw⟩ := h
  refine (put_any g ws l.length v k w hb hw.1 hw.2.1 hn hk hv).mono fun e w' ⟨h1, h2, h3⟩ => ⟨h1, ⟨_, ?_, BM.words_put hw v k hk hn⟩, h3⟩
  rw [List.length_append, BM.digits_length]; exact h2
theorem Tab.below {w w' : World} (h : Tab w) (hb : Below w.heap.size w w') : Tab w' := fun j hj => by
  have h0 := h j hj
  exact (hb.cell (p := ⟨0, j, none⟩) (World.block_lt_of_cell? w _ h0)).trans h0
theorem eb_below1 (w : World) (o : Obj) : Below w.heap.size w (w.alloc o) := (Below.refl _ w).alloc (Nat.le_refl _) _
theorem eb_drewN {B : Nat} {a w : World} (h : Below B a w) (n : Nat) : Below B a (w.drewN n) := ⟨h.os, h.tape, h.output, h.size, h.block⟩
theorem BitsV.lt {w : World} {g : Nat} {l : List Bool} (h : BitsV w g l) : g < w.heap.size := by obtain ⟨ws, hb, _⟩ := h; exact eb_lt hb
theorem BitsV.below {w w' : World} {g : Nat} {l : List Bool} (h : BitsV w g l) (hb : Below w.heap.size w w') : BitsV w' g l := by
  obtain ⟨ws, h1, h2⟩ := h; exact ⟨ws, (hb.block g (eb_lt h1)).trans h1, h2⟩

set_option maxRecDepth 100000 in
set_option maxHeartbeats 1000000 in
theorem after_any (b s : Int) (w : World) (h0 : 0 ≤ b) (h1 : b ≤ 64) (h2 : 0 ≤ s) (h3 : s ≤ 64) :
    Calls Tryd.prog 120 #[.agg #[.int .i64 b, .int .i64 s]] w fun e w' => e = .returned (.int .i64 (64 - b - s)) ∧ Below w.heap.size w w' := by
  go_enter Tryd.func120, Tryd.ntmps120
  go_wp2_with fail
  go_ret
  exact ⟨rfl, (Below.refl _ _).alloc (Nat.le_refl _) _⟩

set_option maxRecDepth 100000 in
set_option maxHeartbeats 1000000 in
theorem windowOf_any (x : Int) (w : World) (hT : Tab w) (hx : x ≠ 0) (h0 : -9223372036854775808 ≤ x) (h1 : x ≤ 9223372036854775807) :
    Calls Tryd.prog 119 #[.int .i64 x] w fun e w' => e = .returned (wv (min 31 (leadK x)) (trailK x)) ∧ Below w.heap.size w w' := by
  obtain ⟨ha, hb, hab⟩ := nzK hx h0 h1
  have hl := Lib.hid (fun W => implLead_any x W)
  have ht := Lib.hid (fun W h => implTrail_any x W h)
  rw [ha] at hl
  rw [hb] at ht
  have HT := Lib.hid hT
  have hwv : wv (min 31 (leadK x)) (trailK x) = .agg #[.int .i64 ((min 31 (leadK x) : Nat) : Int), .int .i64 (64 - ((min 31 (leadK x) : Nat) : Int) - (trailK x : Int))] := by
    unfold wv; rw [if_pos (by omega)]; congr; omega
  have Hwv := Lib.hid hwv
  clear hwv ha hb hT
  generalize leadK x = A at *
  generalize trailK x = B at *
  have hm : min (A : Int) 31 = ((min 31 A : Nat) : Int) := by omega
  have hmle : min 31 A ≤ 31 := by omega
  have hmb : min 31 A + B ≤ 63 := by omega
  generalize min 31 A = m at *
  have hr0 : (w.alloc (.cells #[.int .i64 0, .int .i64 0] 128)).heap[w.heap.size]? = some (.cells #[.int .i64 0, .int .i64 0] 128 (0, 0)) := heap_alloc_new w _
  go_enter Tryd.func119, Tryd.ntmps119
  go_wp2_with fail
  refine (hl.out _).mono ?_
  rintro e w ⟨rfl, rfl⟩
  go_wp2_with fail
  refine (ht.out _ (HT.out.below (eb_below1 w _))).mono ?_
  rintro e w ⟨rfl, rfl⟩
  go_wp2_with fail
  rw [Hwv.out]
  exact bodyPost_ret (v := .agg #[.int .i64 (m : Int), .int .i64 (64 - (m : Int) - (B : Int))]) (by simp [results, Tryd.results119, go_sem]) rfl ⟨rfl, eb_below1 w _⟩

set_option maxRecDepth 100000 in
set_option maxHeartbeats 1000000 in
theorem holds_any (b s x : Int) (w : World) (hT : Tab w) (h0 : 0 ≤ b) (h1 : b ≤ 64) (h2 : 0 ≤ s) (h3 : s ≤ 64) :
    Calls Tryd.prog 118 #[.agg #[.int .i64 b, .int .i64 s], .int .i64 x] w fun e w' => e = .returned (.bool (decide (b ≤ leadN x) && decide (64 - b - s ≤ trailN x))) ∧ Below w.heap.size w w' := by
  have hl := Lib.hid (fun W => implLead_any x W)
  have ht := Lib.hid (fun W h => implTrail_any x W h)
  have haf := Lib.hid (fun W => after_any b s W h0 h1 h2 h3)
  have HT := Lib.hid hT
  clear hT
  generalize leadN x = A at *
  generalize trailN x = B at *
  cases hc : decide (b ≤ A) with
  | false =>
    go_enter Tryd.func118, Tryd.ntmps118
    go_wp2_with fail
    go_quiet ((go_at_call 128; exact Calls.quiet_of_same ((hl.out _).mono fun _ _ ⟨h, h'⟩ => ⟨h, h'.symm⟩)))
    go_wp2_with fail
    go_ret
    exact ⟨rfl, eb_drewN (eb_below1 w _) _⟩
  | true =>
    go_enter Tryd.func118, Tryd.ntmps118
    go_wp2_with fail
    go_region_law (first
      | (go_simp; go_at_call 128; (refine (hl.out _).mono ?_); rintro e w3 ⟨rfl, rfl⟩)
      | (go_simp; go_at_call 129; (refine (ht.out _ (by first | exact HT.out.below (eb_below1 w _) | exact HT.out.below ((eb_below1 w _).drew))).mono ?_); rintro e w3 ⟨rfl, rfl⟩)
      | (go_simp; go_at_call 120; (refine (haf.out _).mono ?_); rintro e w3 ⟨rfl, hb3⟩))
    all_goals
      have hb4 : Below w.heap.size w w3 := (by first | exact ((eb_below1 w _).drew).trans (hb3.mono (by simp)) | exact (eb_below1 w _).trans (hb3.mono (by simp)) | exact (((eb_below1 w _).drew).drew).trans (hb3.mono (by simp)))
      clear hb3
      go_simp
      go_wp2_with fail
      go_ret
      exact ⟨by rw [Bool.true_and]; rfl, hb4⟩

/-- the window's box -/
def WB (w : World) (g : Nat) (b s : Int) : Prop := w.heap[g]? = some (.cells #[.int .i64 b, .int .i64 s] 128 (0, 0))
theorem WB.c0 {w : World} {g : Nat} {b s : Int} (h : WB w g b s) : w.cell? ⟨g, 0, none⟩ = some (.int .i64 b) := by rw [cell_of_row w g 0 _ _ _ h]; rfl
theorem WB.c1 {w : World} {g : Nat} {b s : Int} (h : WB w g b s) : w.cell? ⟨g, 1, none⟩ = some (.int .i64 s) := by rw [cell_of_row w g 1 _ _ _ h]; rfl
theorem WB.f {w : World} {g : Nat} {b s : Int} (h : WB w g b s) (i : Nat) : w.frozen? ⟨g, i, none⟩ = false := frozen_of_row w g i _ _ h
theorem WB.lt {w : World} {g : Nat} {b s : Int} (h : WB w g b s) : g < w.heap.size := eb_lt h
theorem WB.below {w w' : World} {g : Nat} {b s : Int} (h : WB w g b s) (k : Below w.heap.size w w') : WB w' g b s := (k.block g h.lt).trans h
theorem WB.grown {w w' : World} {g r : Nat} {b s : Int} (h : WB w g b s) (k : w.grownBy w' (some r)) (hne : g ≠ r) : WB w' g b s := (k.block g h.lt (by intro he; injection he with he; omega)).trans h
theorem eb_trans {a b c : World} {row : Option Nat} (h : a.grownBy b row) (k : b.grownBy c row) : a.grownBy c row :=
  ⟨k.os.trans h.os, k.tape.trans h.tape, k.output.trans h.output, Nat.le_trans h.size k.size, fun i hi hne => (k.block i (Nat.lt_of_lt_of_le hi h.size) hne).trans (h.block i hi hne)⟩
theorem eb_gb {a b c : World} {row : Option Nat} (h : a.grownBy b row) (k : Below b.heap.size b c) : a.grownBy c row :=
  ⟨k.os.trans h.os, k.tape.trans h.tape, k.output.trans h.output, Nat.le_trans h.size k.size, fun i hi hne => (k.block i (Nat.lt_of_lt_of_le hi h.size)).trans (h.block i hi hne)⟩
def PCPost (g : Nat) (L : List Bool) (v : Value) (w : World) (e : Ending) (w' : World) : Prop := e = .returned v ∧ BitsV w' g L ∧ w.grownBy w' (some g)

theorem Tab.grown {w W : World} {g : Nat} {L : List Bool} (h : Tab w) (hL : BitsV w g L) (k : w.grownBy W (some g)) : Tab W := by
  intro j hj
  have h0 := h j hj
  refine k.cell h0 ?_
  intro he
  injection he with he
  obtain ⟨ws, hb, hw⟩ := hL
  have h1 := hb.word j (by have := hw.1; omega)
  change 0 = g at he
  rw [he, h1] at h0
  injection h0 with h0
  injection h0 with h0 _
  cases h0
structure PB (w : World) (g : Nat) (L : List Bool) (b s : Int) (W : World) : Prop where
  l : BitsV W g L
  x : WB W w.heap.size b s
  r : WB W (w.heap.size + 1) 0 0
  k : w.grownBy W (some g)
theorem PB.start {w : World} {g : Nat} {L : List Bool} (h : BitsV w g L) (b s : Int) : PB w g L b s ((w.alloc (.cells #[.int .i64 b, .int .i64 s] 128)).alloc (.cells #[.int .i64 0, .int .i64 0] 128)) := by
  have h2 : Below w.heap.size w ((w.alloc (.cells #[.int .i64 b, .int .i64 s] 128)).alloc (.cells #[.int .i64 0, .int .i64 0] 128)) := ((Below.refl _ w).alloc (Nat.le_refl _) _).alloc (by simp) _
  refine ⟨h.below h2, heap_alloc2_old w _ _, heap_alloc2_new w _ _, h2.os, h2.tape, h2.output, h2.size, fun i hi _ => h2.block i hi⟩
theorem PB.put {w W W' : World} {g : Nat} {L L' : List Bool} {b s : Int} (p : PB w g L b s W) (hg : g < w.heap.size) (h : BitsV W' g L') (k : W.grownBy W' (some g)) : PB w g L' b s W' :=
  ⟨h, p.x.grown k (by omega), p.r.grown k (by omega), eb_trans p.k k⟩
theorem PB.drew {w W : World} {g : Nat} {L : List Bool} {b s : Int} (p : PB w g L b s W) : PB w g L b s W.drew := by
  obtain ⟨ws, h1, h2⟩ := p.l
  exact ⟨⟨ws, h1, h2⟩, p.x, p.r, p.k.os, p.k.tape, p.k.output, p.k.size, p.k.block⟩
theorem PB.x0 {w W : World} {g : Nat} {L : List Bool} {b s : Int} (p : PB w g L b s W) : W.cell? ⟨w.heap.size, 0, none⟩ = some (.int .i64 b) := p.x.c0
theorem PB.x1 {w W : World} {g : Nat} {L : List Bool} {b s : Int} (p : PB w g L b s W) : W.cell? ⟨w.heap.size, 1, none⟩ = some (.int .i64 s) := p.x.c1
theorem PB.below {w W W' : World} {g : Nat} {L : List Bool} {b s : Int} (p : PB w g L b s W) (k : Below W.heap.size W W') : PB w g L b s W' :=
  ⟨p.l.below k, p.x.below k, p.r.below k, eb_gb p.k k⟩
theorem WB.set {W : World} {g : Nat} {b s b' s' : Int} (h : WB W g b s) : WB ((W.setCell ⟨g, 0, none⟩ (.int .i64 b')).setCell ⟨g, 1, none⟩ (.int .i64 s')) g b' s' := by
  unfold WB at h ⊢
  rw [heap_setCell_same _ g 1 _ _ _ (heap_setCell_same _ g 0 _ _ _ h)]
  rfl
theorem gb_set {a W : World} {row : Option Nat} (h : a.grownBy W row) {g : Nat} (hg : a.heap.size ≤ g) (u v : Value) : a.grownBy ((W.setCell ⟨g, 0, none⟩ u).setCell ⟨g, 1, none⟩ v) row :=
  ⟨h.os, h.tape, h.output, by simpa [World.setCell] using h.size, fun k hk hne => (Below.heap_setCell _ _ _ k (show k ≠ g by omega)).trans ((Below.heap_setCell W _ _ k (show k ≠ g by omega)).trans (h.block k hk hne))⟩
theorem PB.set {w W : World} {g : Nat} {L : List Bool} {b s b' s' : Int} (p : PB w g L b s W) (hg : g < w.heap.size) : PB w g L b' s' ((W.setCell ⟨w.heap.size, 0, none⟩ (.int .i64 b')).setCell ⟨w.heap.size, 1, none⟩ (.int .i64 s')) := by
  obtain ⟨ws, h1, h2⟩ := p.l
  exact ⟨⟨ws, (Below.heap_setCell _ _ _ _ (show g ≠ w.heap.size by omega)).trans ((Below.heap_setCell _ _ _ _ (show g ≠ w.heap.size by omega)).trans h1), h2⟩, p.x.set,
    (Below.heap_setCell _ _ _ _ (show w.heap.size + 1 ≠ w.heap.size by omega)).trans ((Below.heap_setCell _ _ _ _ (show w.heap.size + 1 ≠ w.heap.size by omega)).trans p.r), gb_set p.k (Nat.le_refl _) _ _⟩
/-- the end: the result is stored into its box -/
theorem PB.fin {w W : World} {g : Nat} {L : List Bool} {b s b' s' : Int} (p : PB w g L b s W) (hg : g < w.heap.size) : BitsV ((W.setCell ⟨w.heap.size + 1, 0, none⟩ (.int .i64 b')).setCell ⟨w.heap.size + 1, 1, none⟩ (.int .i64 s')) g L ∧ w.grownBy ((W.setCell ⟨w.heap.size + 1, 0, none⟩ (.int .i64 b')).setCell ⟨w.heap.size + 1, 1, none⟩ (.int .i64 s')) (some g) := by
  obtain ⟨ws, h1, h2⟩ := p.l
  exact ⟨⟨ws, (Below.heap_setCell _ _ _ _ (show g ≠ w.heap.size + 1 by omega)).trans ((Below.heap_setCell _ _ _ _ (show g ≠ w.heap.size + 1 by omega)).trans h1), h2⟩, gb_set p.k (by omega) _ _⟩

set_option maxRecDepth 100000 in
set_option maxHeartbeats 1000000 in
theorem pc_zero (g : Nat) (L : List Bool) (b s : Int) (w : World) (hL : BitsV w g L) (hn : L.length + 77 ≤ 20000) :
    Calls Tryd.prog 101 #[.pointer (some ⟨g, 0, none⟩), .int .i64 0, .agg #[.int .i64 b, .int .i64 s]] w (PCPost g (L ++ [false]) (.agg #[.int .i64 b, .int .i64 s]) w) := by
  have hgl := hL.lt
  have P0 := Lib.hid (PB.start hL b s)
  have hp := Lib.hid (fun W h => put_bitsV g L 0 1 W h (by omega) (by omega) (by omega))
  clear hL
  go_enter Tryd.func101, Tryd.ntmps101
  go_wp2_with fail
  refine (hp.out _ P0.out.l).mono ?_
  rintro e w1 ⟨rfl, hl, hg⟩
  have P1 := Lib.hid (P0.out.put hgl hl hg)
  clear hl hg
  have c0 := P1.out.x.c0
  have c1 := P1.out.x.c1
  have cf0 := P1.out.x.f 0
  have cf1 := P1.out.x.f 1
  have r0 := P1.out.r.c0
  have r1 := P1.out.r.c1
  have rf0 := P1.out.r.f 0
  have rf1 := P1.out.r.f 1
  have clt := P1.out.r.lt
  go_wp2_with fail
  have hfin := P1.out.fin (b' := b) (s' := s) hgl
  exact bodyPost_ret (v := .agg #[.int .i64 b, .int .i64 s]) (by simp [results, Tryd.results101, go_sem, r0, r1]) rfl ⟨rfl, hfin.1, hfin.2⟩

end Go.Proofs.YtanoohfhifhhaaaDoor

/- Walks: the program appends a change: within the window, and with a new one. -/
set_option linter.unusedVariables false
set_option linter.unusedSimpArgs false
namespace Go.Proofs.YtanoohfhifhhaaaDoor
open Go.RowKit

set_option maxRecDepth 100000 in
set_option maxHeartbeats 400000 in
theorem pc_in (g : Nat) (L : List Bool) (b t s V : Nat) (x : Int) (w : World) (hL : BitsV w g L) (hn : L.length + 77 ≤ 20000) (hT : Tab w) (hx : x ≠ 0) (hb : b + t ≤ 63) (hs : s = 64 - b - t)
    (hB : (decide ((b : Int) ≤ leadN x) && decide (64 - (b : Int) - (s : Int) ≤ trailN x)) = true) (hV : IntKind.u64.wrap x / 2 ^ t = (V : Int)) (hV2 : V < 2 ^ 64) :
    Calls Tryd.prog 101 #[.pointer (some ⟨g, 0, none⟩), .int .i64 x, .agg #[.int .i64 (b : Int), .int .i64 (s : Int)]] w (PCPost g ((L ++ BM.digits 2 2) ++ BM.digits V s) (.agg #[.int .i64 (b : Int), .int .i64 (s : Int)]) w) := by
  have hgl := hL.lt
  have P0 := Lib.hid (PB.start hL (b : Int) (s : Int))
  have HT := Lib.hid (hT.grown hL P0.out.k)
  have hh := Lib.hid (fun W h => holds_any (b : Int) (s : Int) x W h (by omega) (by omega) (by omega) (by omega))
  rw [hB] at hh
  have haf := Lib.hid (fun W => after_any (b : Int) (s : Int) W (by omega) (by omega) (by omega) (by omega))
  rw [show 64 - (b : Int) - (s : Int) = (t : Int) by omega] at haf
  have hp := Lib.hid (fun W h => put_bitsV g L 2 2 W h (by omega) (by omega) (by omega))
  have hq := Lib.hid (fun W h => put_bitsV g (L ++ BM.digits 2 2) V s W h (by rw [List.length_append, BM.digits_length]; omega) (by omega) hV2)
  have hx0 : (x == 0) = false := by simpa using hx
  have HV := Lib.hid hV
  have hb64 : b ≤ 64 := by omega
  have hs64 : s ≤ 64 := by omega
  have ht64 : t ≤ 64 := by omega
  clear hs hb hx hV
  clear hL hT hB hV2
  go_enter Tryd.func101, Tryd.ntmps101
  go_wp2_with fail
  refine (hh.out _ HT.out).mono ?_
  rintro e w1 ⟨rfl, hb1⟩
  have P1 := Lib.hid (P0.out.below hb1)
  clear hb1
  have c0 := P1.out.x.c0
  have c1 := P1.out.x.c1
  have cf0 := P1.out.x.f 0
  have cf1 := P1.out.x.f 1
  have r0 := P1.out.r.c0
  have r1 := P1.out.r.c1
  have rf0 := P1.out.r.f 0
  have rf1 := P1.out.r.f 1
  have clt := P1.out.r.lt
  go_wp2_with fail
  refine (hp.out _ P1.out.l).mono ?_
  rintro e w2 ⟨rfl, hl, hg⟩
  have P2 := Lib.hid (P1.out.put hgl hl hg)
  clear hl hg c0 c1 cf0 cf1 r0 r1 rf0 rf1 clt
  have c0 := P2.out.x.c0
  have c1 := P2.out.x.c1
  have cf0 := P2.out.x.f 0
  have cf1 := P2.out.x.f 1
  have r0 := P2.out.r.c0
  have r1 := P2.out.r.c1
  have rf0 := P2.out.r.f 0
  have rf1 := P2.out.r.f 1
  have clt := P2.out.r.lt
  go_wp2_with fail
  have hS0 := P2.out.drew
  clear c0 c1 cf0 cf1 r0 r1 rf0 rf1 clt P0 P1 hh hp HT
  refine wp_region_held_drew (S := fun W => WB W w.heap.size (b : Int) (s : Int)) (by kernel_rfl) hS0.x ?_
  intro hS
  refine wpAnyH_take (i := 0) (v := .pointer (some ⟨g, 0, none⟩)) rfl (by kernel_rfl) (by kernel_rfl) (by kernel_rfl) (fun _ _ _ h => h) (Or.inl ⟨by kernel_rfl, ?t0⟩) hS ?_
  case t0 =>
    intro W hW
    have x0 := WB.c0 hW
    have x1 := WB.c1 hW
    clear hW hS hS0 P2
    go_simp
  refine wpAnyH_take (i := 1) (v := .int .i64 x) rfl (by kernel_rfl) (by kernel_rfl) (by kernel_rfl) (fun _ _ _ h => h) (Or.inl ⟨by kernel_rfl, ?t1⟩) hS ?_
  case t1 =>
    intro W hW
    have x0 := WB.c0 hW
    have x1 := WB.c1 hW
    clear hW hS hS0 P2
    go_simp
  refine wpAnyH_take (i := 2) (v := .int .u64 (IntKind.u64.wrap x)) rfl (by kernel_rfl) (by kernel_rfl) (by kernel_rfl) (fun _ _ _ h => h) (Or.inl ⟨by kernel_rfl, ?t2⟩) hS ?_
  case t2 =>
    intro W hW
    have x0 := WB.c0 hW
    have x1 := WB.c1 hW
    clear hW hS hS0 P2
    go_simp
  refine wpAnyH_take (i := 3) (v := .agg #[.int .i64 (b : Int), .int .i64 (s : Int)]) rfl (by kernel_rfl) (by kernel_rfl) (by kernel_rfl) (fun _ _ _ h => h) (Or.inl ⟨by kernel_rfl, ?t3⟩) hS ?_
  case t3 =>
    intro W hW
    have x0 := WB.c0 hW
    have x1 := WB.c1 hW
    clear hW hS hS0 P2
    go_simp
  refine wpAnyH_take (i := 6) (v := .pointer (some ⟨w.heap.size, 1, none⟩)) rfl (by kernel_rfl) (by kernel_rfl) (by kernel_rfl) (fun _ _ _ h => h) (Or.inl ⟨by kernel_rfl, ?t6⟩) hS ?_
  case t6 =>
    intro W hW
    have x0 := WB.c0 hW
    have x1 := WB.c1 hW
    clear hW hS hS0 P2
    go_simp
  refine wpAnyH_take (i := 7) (v := .int .i64 (s : Int)) rfl (by kernel_rfl) (by kernel_rfl) (by kernel_rfl) (fun _ _ _ h => h) (Or.inl ⟨by kernel_rfl, ?t7⟩) hS ?_
  case t7 =>
    intro W hW
    have x0 := WB.c0 hW
    have x1 := WB.c1 hW
    clear hW hS hS0 P2
    go_simp
  refine wpAnyH_ready (rs := [4]) (by kernel_rfl) (by simp) ?_
  refine AllReadyH.cons rfl ?n4 AllReadyH.nil
  case n4 =>
    intro K hK
    refine Eq.mpr (if_pos (by kernel_rfl)) ?_
    go_simp
    refine (haf.out _).mono ?_
    rintro e w3 ⟨rfl, hb3⟩
    have P3 := hS0.below hb3
    have hS3 := P3.x
    go_simp
    refine hK.out _ _ hS3 ?_
    intro _
    refine wpAnyH_take (i := 5) (v := .int .u64 (V : Int)) rfl (by kernel_rfl) (by kernel_rfl) (by kernel_rfl) (fun _ _ _ h => h) (Or.inl ⟨by kernel_rfl, ?t5⟩) hS3 ?_
    case t5 =>
      intro W hW
      have hV : IntKind.u64.wrap x / 2 ^ (min t 64) = (V : Int) := by rw [Nat.min_eq_left (by omega)]; exact HV.out
      clear hW hS hS0 P2 hS3 hK hb3 P3
      go_simp
      try exact HV.out
    refine wpAnyH_ready (rs := [8]) (by kernel_rfl) (by simp) ?_
    refine AllReadyH.cons rfl ?n8 AllReadyH.nil
    case n8 =>
      intro K8 hK8
      refine Eq.mpr (if_pos (by kernel_rfl)) ?_
      go_simp
      refine (hq.out _ P3.l).mono ?_
      rintro e w4 ⟨rfl, hl, hg⟩
      have P4 := P3.put hgl hl hg
      go_simp
      refine hK8.out _ _ P4.x ?_
      intro _
      refine wpAnyH_done (by kernel_rfl) ?_ _
      have hfin := P4.fin (b' := (b : Int)) (s' := (s : Int)) hgl
      have r0 := P4.r.c0
      have r1 := P4.r.c1
      have rf0 := P4.r.f 0
      have rf1 := P4.r.f 1
      have c0 := P4.x.c0
      have c1 := P4.x.c1
      clear hS hS0 P2 hS3 hK hb3 P3 P4 hK8 hl hg
      go_simp
      go_wp2_with fail
      exact bodyPost_ret (v := .agg #[.int .i64 (b : Int), .int .i64 (s : Int)]) (by simp [results, Tryd.results101, go_sem, r0, r1]) rfl ⟨rfl, hfin.1, hfin.2⟩
end Go.Proofs.YtanoohfhifhhaaaDoor

/- Walks: the program appends a change: with a new window. -/
set_option linter.unusedVariables false
set_option linter.unusedSimpArgs false
namespace Go.Proofs.YtanoohfhifhhaaaDoor
open Go.RowKit

set_option maxRecDepth 100000 in
set_option maxHeartbeats 1000000 in
theorem pc_new (g : Nat) (L : List Bool) (b0 s0 : Int) (b t s V : Nat) (x : Int) (w : World) (hL : BitsV w g L) (hn : L.length + 77 ≤ 20000) (hT : Tab w) (hx : x ≠ 0) (hx0 : -9223372036854775808 ≤ x) (hx1 : x ≤ 9223372036854775807)
    (hb0 : 0 ≤ b0 ∧ b0 ≤ 64 ∧ 0 ≤ s0 ∧ s0 ≤ 64) (hb : b + t ≤ 63) (hb31 : b ≤ 31) (hs : s = 64 - b - t) (hwv : wv (min 31 (leadK x)) (trailK x) = .agg #[.int .i64 (b : Int), .int .i64 (s : Int)])
    (hB : (decide (b0 ≤ leadN x) && decide (64 - b0 - s0 ≤ trailN x)) = false) (hV : IntKind.u64.wrap x / 2 ^ t = (V : Int)) (hV2 : V < 2 ^ 64) :
    Calls Tryd.prog 101 #[.pointer (some ⟨g, 0, none⟩), .int .i64 x, .agg #[.int .i64 b0, .int .i64 s0]] w (PCPost g ((((L ++ BM.digits 3 2) ++ BM.digits b 5) ++ BM.digits (s - 1) 6) ++ BM.digits V s) (.agg #[.int .i64 (b : Int), .int .i64 (s : Int)]) w) := by
  have hgl := hL.lt
  have P0 := Lib.hid (PB.start hL b0 s0)
  have HTw := Lib.hid hT
  have HLw := Lib.hid hL
  have hh := Lib.hid (fun W h => holds_any b0 s0 x W h hb0.1 hb0.2.1 hb0.2.2.1 hb0.2.2.2)
  rw [hB] at hh
  have hwo := Lib.hid (fun W h => windowOf_any x W h hx hx0 hx1)
  rw [hwv] at hwo
  have haf := Lib.hid (fun W => after_any (b : Int) (s : Int) W (by omega) (by omega) (by omega) (by omega))
  rw [show 64 - (b : Int) - (s : Int) = (t : Int) by omega] at haf
  have hp := Lib.hid (fun W h => put_bitsV g L 3 2 W h (by omega) (by omega) (by omega))
  have hp2 := Lib.hid (fun W h => put_bitsV g (L ++ BM.digits 3 2) b 5 W h (by rw [List.length_append, BM.digits_length]; omega) (by omega) (by omega))
  have hp3 := Lib.hid (fun W h => put_bitsV g ((L ++ BM.digits 3 2) ++ BM.digits b 5) (s - 1) 6 W h (by rw [List.length_append, List.length_append, BM.digits_length, BM.digits_length]; omega) (by omega) (by omega))
  have hq := Lib.hid (fun W h => put_bitsV g (((L ++ BM.digits 3 2) ++ BM.digits b 5) ++ BM.digits (s - 1) 6) V s W h (by rw [List.length_append, List.length_append, List.length_append, BM.digits_length, BM.digits_length, BM.digits_length]; omega) (by omega) hV2)
  have hxz : (x == 0) = false := by simpa using hx
  have HV := Lib.hid hV
  have hb64 : b ≤ 64 := by omega
  have hs64 : s ≤ 64 := by omega
  have ht64 : t ≤ 64 := by omega
  have hs1 : 1 ≤ s := by omega
  have hw1 : IntKind.u64.wrap (b : Int) = (b : Int) := by rw [IntKind.wrap_u64]; omega
  have hw2 : IntKind.u64.wrap ((s : Int) - 1) = ((s - 1 : Nat) : Int) := by rw [IntKind.wrap_u64]; omega
  clear hs hb hx hV hL hT hB hV2 hb0 hwv hx0 hx1
  go_enter Tryd.func101, Tryd.ntmps101
  go_wp2_with fail
  refine (hh.out _ (HTw.out.grown HLw.out P0.out.k)).mono ?_
  rintro e w1 ⟨rfl, hb1⟩
  have P1 := Lib.hid (P0.out.below hb1)
  clear hb1
  have c0 := P1.out.x.c0
  have c1 := P1.out.x.c1
  have cf0 := P1.out.x.f 0
  have cf1 := P1.out.x.f 1
  have r0 := P1.out.r.c0
  have r1 := P1.out.r.c1
  have rf0 := P1.out.r.f 0
  have rf1 := P1.out.r.f 1
  have clt := P1.out.r.lt
  go_wp2_with fail
  refine (hwo.out _ (HTw.out.grown HLw.out P1.out.k)).mono ?_
  rintro e w2 ⟨rfl, hb2⟩
  have P2 := Lib.hid (P1.out.below hb2)
  clear hb2
  clear c0 c1 cf0 cf1 r0 r1 rf0 rf1 clt
  have c0 := P2.out.x.c0
  have c1 := P2.out.x.c1
  have cf0 := P2.out.x.f 0
  have cf1 := P2.out.x.f 1
  have r0 := P2.out.r.c0
  have r1 := P2.out.r.c1
  have rf0 := P2.out.r.f 0
  have rf1 := P2.out.r.f 1
  have clt := P2.out.r.lt
  have P2s := Lib.hid (P2.out.set (b' := (b : Int)) (s' := (s : Int)) hgl)
  go_wp2_with fail
  refine (hp.out _ P2s.out.l).mono ?_
  rintro e w3 ⟨rfl, hl, hg⟩
  have P3 := Lib.hid (P2s.out.put hgl hl hg)
  clear hl hg P2s
  clear c0 c1 cf0 cf1 r0 r1 rf0 rf1 clt
  have c0 := P3.out.x.c0
  have c1 := P3.out.x.c1
  have cf0 := P3.out.x.f 0
  have cf1 := P3.out.x.f 1
  have r0 := P3.out.r.c0
  have r1 := P3.out.r.c1
  have rf0 := P3.out.r.f 0
  have rf1 := P3.out.r.f 1
  have clt := P3.out.r.lt
  go_wp2_with fail
  refine (hp2.out _ P3.out.l).mono ?_
  rintro e w4 ⟨rfl, hl, hg⟩
  have P4 := Lib.hid (P3.out.put hgl hl hg)
  clear hl hg
  clear c0 c1 cf0 cf1 r0 r1 rf0 rf1 clt
  have c0 := P4.out.x.c0
  have c1 := P4.out.x.c1
  have cf0 := P4.out.x.f 0
  have cf1 := P4.out.x.f 1
  have r0 := P4.out.r.c0
  have r1 := P4.out.r.c1
  have rf0 := P4.out.r.f 0
  have rf1 := P4.out.r.f 1
  have clt := P4.out.r.lt
  go_wp2_with fail
  refine (hp3.out _ P4.out.l).mono ?_
  rintro e w5 ⟨rfl, hl, hg⟩
  have P5 := Lib.hid (P4.out.put hgl hl hg)
  clear hl hg
  clear c0 c1 cf0 cf1 r0 r1 rf0 rf1 clt
  have c0 := P5.out.x.c0
  have c1 := P5.out.x.c1
  have cf0 := P5.out.x.f 0
  have cf1 := P5.out.x.f 1
  have r0 := P5.out.r.c0
  have r1 := P5.out.r.c1
  have rf0 := P5.out.r.f 0
  have rf1 := P5.out.r.f 1
  have clt := P5.out.r.lt
  go_wp2_with fail
  have hS0 := P5.out.drew
  clear c0 c1 cf0 cf1 r0 r1 rf0 rf1 clt P0 P1 P2 P3 P4 hh hp hp2 hp3 HTw HLw hwo hw1 hw2
  refine wp_region_held_drew (S := fun W => WB W w.heap.size (b : Int) (s : Int)) (by kernel_rfl) hS0.x ?_
  intro hS
  refine wpAnyH_take (i := 0) (v := .pointer (some ⟨g, 0, none⟩)) rfl (by kernel_rfl) (by kernel_rfl) (by kernel_rfl) (fun _ _ _ h => h) (Or.inl ⟨by kernel_rfl, ?t0⟩) hS ?_
  case t0 =>
    intro W hW
    have x0 := WB.c0 hW
    have x1 := WB.c1 hW
    clear hW hS hS0 P5
    go_simp
  refine wpAnyH_take (i := 1) (v := .int .i64 x) rfl (by kernel_rfl) (by kernel_rfl) (by kernel_rfl) (fun _ _ _ h => h) (Or.inl ⟨by kernel_rfl, ?t1⟩) hS ?_
  case t1 =>
    intro W hW
    have x0 := WB.c0 hW
    have x1 := WB.c1 hW
    clear hW hS hS0 P5
    go_simp
  refine wpAnyH_take (i := 2) (v := .int .u64 (IntKind.u64.wrap x)) rfl (by kernel_rfl) (by kernel_rfl) (by kernel_rfl) (fun _ _ _ h => h) (Or.inl ⟨by kernel_rfl, ?t2⟩) hS ?_
  case t2 =>
    intro W hW
    have x0 := WB.c0 hW
    have x1 := WB.c1 hW
    clear hW hS hS0 P5
    go_simp
  refine wpAnyH_take (i := 3) (v := .agg #[.int .i64 (b : Int), .int .i64 (s : Int)]) rfl (by kernel_rfl) (by kernel_rfl) (by kernel_rfl) (fun _ _ _ h => h) (Or.inl ⟨by kernel_rfl, ?t3⟩) hS ?_
  case t3 =>
    intro W hW
    have x0 := WB.c0 hW
    have x1 := WB.c1 hW
    clear hW hS hS0 P5
    go_simp
  refine wpAnyH_take (i := 6) (v := .pointer (some ⟨w.heap.size, 1, none⟩)) rfl (by kernel_rfl) (by kernel_rfl) (by kernel_rfl) (fun _ _ _ h => h) (Or.inl ⟨by kernel_rfl, ?t6⟩) hS ?_
  case t6 =>
    intro W hW
    have x0 := WB.c0 hW
    have x1 := WB.c1 hW
    clear hW hS hS0 P5
    go_simp
  refine wpAnyH_take (i := 7) (v := .int .i64 (s : Int)) rfl (by kernel_rfl) (by kernel_rfl) (by kernel_rfl) (fun _ _ _ h => h) (Or.inl ⟨by kernel_rfl, ?t7⟩) hS ?_
  case t7 =>
    intro W hW
    have x0 := WB.c0 hW
    have x1 := WB.c1 hW
    clear hW hS hS0 P5
    go_simp
  refine wpAnyH_ready (rs := [4]) (by kernel_rfl) (by simp) ?_
  refine AllReadyH.cons rfl ?n4 AllReadyH.nil
  case n4 =>
    intro K hK
    refine Eq.mpr (if_pos (by kernel_rfl)) ?_
    go_simp
    refine (haf.out _).mono ?_
    rintro e w6 ⟨rfl, hb3⟩
    have P6 := hS0.below hb3
    have hS6 := P6.x
    go_simp
    refine hK.out _ _ hS6 ?_
    intro _
    refine wpAnyH_take (i := 5) (v := .int .u64 (V : Int)) rfl (by kernel_rfl) (by kernel_rfl) (by kernel_rfl) (fun _ _ _ h => h) (Or.inl ⟨by kernel_rfl, ?t5⟩) hS6 ?_
    case t5 =>
      intro W hW
      have hV : IntKind.u64.wrap x / 2 ^ (min t 64) = (V : Int) := by rw [Nat.min_eq_left (by omega)]; exact HV.out
      clear hW hS hS0 P5 hS6 hK hb3 P6
      go_simp
      try exact HV.out
    refine wpAnyH_ready (rs := [8]) (by kernel_rfl) (by simp) ?_
    refine AllReadyH.cons rfl ?n8 AllReadyH.nil
    case n8 =>
      intro K8 hK8
      refine Eq.mpr (if_pos (by kernel_rfl)) ?_
      go_simp
      refine (hq.out _ P6.l).mono ?_
      rintro e w7 ⟨rfl, hl, hg⟩
      have P7 := P6.put hgl hl hg
      go_simp
      refine hK8.out _ _ P7.x ?_
      intro _
      refine wpAnyH_done (by kernel_rfl) ?_ _
      have hfin := P7.fin (b' := (b : Int)) (s' := (s : Int)) hgl
      have r0 := P7.r.c0
      have r1 := P7.r.c1
      have rf0 := P7.r.f 0
      have rf1 := P7.r.f 1
      have c0 := P7.x.c0
      have c1 := P7.x.c1
      clear hS hS0 P5 hS6 hK hb3 P6 P7 hK8 hl hg
      go_simp
      go_wp2_with fail
      exact bodyPost_ret (v := .agg #[.int .i64 (b : Int), .int .i64 (s : Int)]) (by simp [results, Tryd.results101, go_sem, r0, r1]) rfl ⟨rfl, hfin.1, hfin.2⟩
end Go.Proofs.YtanoohfhifhhaaaDoor

/- Walks: the program appends a change: all cases; its bits of values. -/
set_option linter.unusedVariables false
set_option linter.unusedSimpArgs false
namespace Go.Proofs.YtanoohfhifhhaaaDoor
open Go.RowKit

theorem wv_form {l t : Nat} (h : OKS l t) : ∃ b s : Nat, wv l t = .agg #[.int .i64 (b : Int), .int .i64 (s : Int)] ∧ b ≤ 64 ∧ s ≤ 64 ∧ ((l + t ≤ 63 ∧ b = l ∧ s = 64 - l - t) ∨ (l = 64 ∧ t = 64 ∧ b = 0 ∧ s = 0)) := by
  unfold wv
  rcases h with ⟨rfl, rfl⟩ | h
  · exact ⟨0, 0, by rw [if_neg (by omega)]; rfl, by omega, by omega, .inr ⟨rfl, rfl, rfl, rfl⟩⟩
  · exact ⟨l, 64 - l - t, by rw [if_pos (by omega)], by omega, by omega, .inl ⟨h, rfl, rfl⟩⟩
theorem shr_val (x : Int) (t : Nat) : IntKind.u64.wrap x / 2 ^ t = ((u64of x / 2 ^ t : Nat) : Int) := by
  rw [u64n_wrap]; show ((u64of x : Nat) : Int) / 2 ^ t = _; simp
theorem shr_lt (x : Int) (t : Nat) : u64of x / 2 ^ t < 2 ^ 64 := Nat.lt_of_le_of_lt (Nat.div_le_self _ _) (u64of_lt x)
theorem putChange_any (g : Nat) (L : List Bool) (l t : Nat) (x : Int) (w : World) (hL : BitsV w g L) (hn : L.length + 77 ≤ 20000) (hT : Tab w) (hO : OKS l t) (h0 : -9223372036854775808 ≤ x) (h1 : x ≤ 9223372036854775807) :
    Calls Tryd.prog 101 #[.pointer (some ⟨g, 0, none⟩), .int .i64 x, wv l t] w (PCPost g (L ++ stepL x l t) (wv (stepS x l t).1 (stepS x l t).2) w) := by
  obtain ⟨b, s, hwv, hb, hs, hc⟩ := wv_form hO
  by_cases hx : x = 0
  · subst hx
    have e1 : stepL 0 l t = [false] := by unfold stepL; rw [if_pos rfl]
    have e2 : stepS 0 l t = (l, t) := by unfold stepS; rw [if_pos rfl]
    rw [e1, e2, hwv]
    exact pc_zero g L b s w hL hn
  · obtain ⟨ha, hb', hab⟩ := nzK hx h0 h1
    cases hi : inW x l t with
    | true =>
      have hi' := hi
      unfold inW at hi'
      rw [decide_eq_true_iff] at hi'
      have hc2 : l + t ≤ 63 ∧ b = l ∧ s = 64 - l - t := by rcases hc with hc | hc <;> omega
      obtain ⟨hc3, rfl, rfl⟩ := hc2
      have e1 : stepL x b t = [true, false] ++ winL x b t := by unfold stepL; rw [if_neg hx, if_pos hi]
      have e2 : stepS x b t = (b, t) := by unfold stepS; rw [if_neg hx, if_pos hi]
      rw [e1, e2, hwv]
      have := pc_in g L b t (64 - b - t) (u64of x / 2 ^ t) x w hL hn hT hx hc3 rfl (by
        rw [ha, hb', Bool.and_eq_true, decide_eq_true_iff, decide_eq_true_iff]; omega) (shr_val x t) (shr_lt x t)
      rw [List.append_assoc] at this
      exact this
    | false =>
      have hi' := hi
      unfold inW at hi'
      rw [decide_eq_false_iff_not] at hi'
      have e1 : stepL x l t = newL x (min 31 (leadK x)) (trailK x) := by unfold stepL; rw [if_neg hx, if_neg (by rw [hi]; decide)]
      have e2 : stepS x l t = (min 31 (leadK x), trailK x) := by unfold stepS; rw [if_neg hx, if_neg (by rw [hi]; decide)]
      rw [e1, e2]
      show Calls _ _ _ _ (PCPost g (L ++ newL x (min 31 (leadK x)) (trailK x)) (wv (min 31 (leadK x)) (trailK x)) w)
      have hwn : wv (min 31 (leadK x)) (trailK x) = .agg #[.int .i64 ((min 31 (leadK x) : Nat) : Int), .int .i64 ((64 - min 31 (leadK x) - trailK x : Nat) : Int)] := by
        unfold wv; rw [if_pos (by omega)]
      have := pc_new g L (b : Int) (s : Int) (min 31 (leadK x)) (trailK x) (64 - min 31 (leadK x) - trailK x) (u64of x / 2 ^ trailK x) x w hL hn hT hx h0 h1 (by omega) (by omega) (by omega) rfl hwn (by
        rw [ha, hb', Bool.and_eq_false_iff, decide_eq_false_iff_not, decide_eq_false_iff_not]; omega) (shr_val x _) (shr_lt x _)
      rw [hwv, hwn]
      have e3 : L ++ newL x (min 31 (leadK x)) (trailK x) = (((L ++ BM.digits 3 2) ++ BM.digits (min 31 (leadK x)) 5) ++ BM.digits (64 - min 31 (leadK x) - trailK x - 1) 6) ++ BM.digits (u64of x / 2 ^ trailK x) (64 - min 31 (leadK x) - trailK x) := by
        unfold newL winL
        rw [show 64 - min 31 (leadK x) - trailK x - 1 = 63 - min 31 (leadK x) - trailK x by omega, show BM.digits 3 2 = [true, true] from rfl]
        simp only [List.append_assoc]
      rw [e3]
      exact this

/-- the exclusive or of a value and the one ahead of it -/
def xr (xs : List Int) (k : Nat) : Int := bits .xor .i64 (xs.getD k 0) (xs.getD (k - 1) 0)
theorem xor_rng (a b : Int) : -9223372036854775808 ≤ bits .xor .i64 a b ∧ bits .xor .i64 a b ≤ 9223372036854775807 := by
  show -9223372036854775808 ≤ IntKind.i64.wrap _ ∧ IntKind.i64.wrap _ ≤ 9223372036854775807
  rw [u_i64_wrap]; exact uz_wrap64_bd _
def valTo (xs : List Int) : Nat → List Bool × Nat × Nat
  | 0 => ([], 64, 64)
  | k + 1 => if k = 0 then (BM.digits (u64of (xs.getD 0 0)) 64, 64, 64) else ((valTo xs k).1 ++ stepL (xr xs k) (valTo xs k).2.1 (valTo xs k).2.2, stepS (xr xs k) (valTo xs k).2.1 (valTo xs k).2.2)
theorem valTo_ok (xs : List Int) (k : Nat) : OKS (valTo xs k).2.1 (valTo xs k).2.2 ∧ (valTo xs k).1.length ≤ 77 * k := by
  induction k with
  | zero => exact ⟨.inl ⟨rfl, rfl⟩, by simp [valTo]⟩
  | succ k ih =>
    rw [valTo]
    split
    · rename_i h0; subst h0; exact ⟨.inl ⟨rfl, rfl⟩, by simp [BM.digits_length]⟩
    · have hr := xor_rng (xs.getD k 0) (xs.getD (k - 1) 0)
      refine ⟨stepS_ok ih.1 hr.1 hr.2, ?_⟩
      have := stepL_le (xr xs k) (valTo xs k).2.1 (valTo xs k).2.2
      rw [List.length_append]; omega
theorem valTo_one (xs : List Int) : valTo xs (0 + 1) = (BM.digits (u64of (xs.getD 0 0)) 64, 64, 64) := rfl
theorem valTo_succ {xs : List Int} {k : Nat} (h : ¬ k = 0) : valTo xs (k + 1) = ((valTo xs k).1 ++ stepL (xr xs k) (valTo xs k).2.1 (valTo xs k).2.2, stepS (xr xs k) (valTo xs k).2.1 (valTo xs k).2.2) := by
  rw [valTo, if_neg h]
end Go.Proofs.YtanoohfhifhhaaaDoor
