/- Walks: PutBits of the model. -/
import Derived.Test.YtoajpbainmbhlaaWm
namespace Go.Proofs.Ytoajpbainmbhlaa
open Go.RowKit

def BPost (R : ByteArray) (M : Int) (B : Bool) (w : World) (e : Ending) (w' : World) : Prop :=
  e = .returned (.tuple #[.agg #[.string R, .int .i64 M], .bool B]) ∧ Below w.heap.size w w'

/-- block g holds the struct's zero value, to be the result -/
def ResBlk (w : World) (g : Nat) : Prop := w.heap[g]? = some (.cells #[.string ⟨#[]⟩, .int .i64 0] 25 (0, 0))
theorem ResBlk.lt {w : World} {g : Nat} (h : ResBlk w g) : g < w.heap.size := by
  unfold ResBlk at h
  rcases Nat.lt_or_ge g w.heap.size with h1 | h1
  · exact h1
  · rw [Array.getElem?_eq_none h1] at h; cases h
theorem ResBlk.c0 {w : World} {g : Nat} (h : ResBlk w g) : w.cell? ⟨g, 0, none⟩ = some (.string ⟨#[]⟩) := by rw [cell_of_row w g 0 _ _ _ h]; rfl
theorem ResBlk.c1 {w : World} {g : Nat} (h : ResBlk w g) : w.cell? ⟨g, 1, none⟩ = some (.int .i64 0) := by rw [cell_of_row w g 1 _ _ _ h]; rfl
theorem ResBlk.f {w : World} {g : Nat} (h : ResBlk w g) (i : Nat) : w.frozen? ⟨g, i, none⟩ = false := frozen_of_row w g i _ _ h
theorem ResBlk.below {w w' : World} {g : Nat} (h : ResBlk w g) (hb : Below w.heap.size w w') : ResBlk w' g := (hb.block g h.lt).trans h
theorem ResBlk.grown {w w' : World} {g : Nat} {row : Option Nat} (h : ResBlk w g) (hb : w.grownBy w' row) (hr : some g ≠ row) : ResBlk w' g := (hb.block g h.lt hr).trans h

theorem start2 (w : World) (s : ByteArray) (N : Int) :
    ResBlk ((w.alloc (.cells #[.string s, .int .i64 N] 25)).alloc (.cells #[.string ⟨#[]⟩, .int .i64 0] 25)) (w.heap.size + 1) :=
  heap_alloc2_new w _ _
theorem below2 (w : World) (a b : Obj) : Below w.heap.size w ((w.alloc a).alloc b) := ((Below.refl _ _).alloc (Nat.le_refl _) _).alloc (by simp) _
theorem below1 (w : World) (a : Obj) : Below w.heap.size w (w.alloc a) := (Below.refl _ _).alloc (Nat.le_refl _) _

def putB (s : ByteArray) (N v k : Int) : Bool := okB s N && (fitsB v k && decide (N + k ≤ 20000))
def putL (s : ByteArray) (N v k : Int) : List Bool := BM.listOf s.data.toList N.toNat ++ BM.digits (u64of v) k.toNat
def putS (s : ByteArray) (N v k : Int) : ByteArray := if putB s N v k then ⟨(BM.pack (putL s N v k)).toArray⟩ else ⟨#[]⟩
def putN (s : ByteArray) (N v k : Int) : Int := if putB s N v k then N + k else 0
theorem putS_bad {s : ByteArray} {N v k : Int} (h : putB s N v k = false) : putS s N v k = ⟨#[]⟩ ∧ putN s N v k = 0 := by
  unfold putS putN; rw [h]; exact ⟨rfl, rfl⟩

set_option maxRecDepth 100000 in
set_option maxHeartbeats 1000000 in
theorem specPutBits_bad0 (s : ByteArray) (N v k : Int) (w : World) (hs : s.size ≤ maxLen) (h : okB s N = false) :
    Calls Try.prog 18 #[.agg #[.string s, .int .i64 N], .int .i64 v, .int .i64 k] w (BPost ⟨#[]⟩ 0 false w) := by
  have hok := fun W => specBitsOk_any s N W hs
  rw [h] at hok
  have Hok := Lib.hid hok
  have HR := Lib.hid (start2 w s N)
  clear hok h
  go_enter Try.func18, Try.ntmps18
  go_wp2_with fail
  refine (Hok.out _).mono ?_
  rintro e w1 ⟨rfl, hb1⟩
  have hr1 := HR.out.below hb1
  have hf := (below2 w _ _).trans (hb1.mono (by simp; try omega))
  have r0 := hr1.c0
  have r1 := hr1.c1
  have f0 := hr1.f 0
  have f1 := hr1.f 1
  clear hb1 hr1
  go_wp2_with fail
  exact bodyPost_ret (v := .tuple #[.agg #[.string ⟨#[]⟩, .int .i64 0], .bool false]) (by simp [results, Try.results18, go_sem, r0, r1]) rfl
    ⟨rfl, (hf.setCell (by simp) _).setCell (by simp) _⟩

set_option maxRecDepth 100000 in
set_option maxHeartbeats 1000000 in
theorem specPutBits_bad1 (s : ByteArray) (N v k : Int) (w : World) (hs : s.size ≤ maxLen) (h : okB s N = true) (hv : v < 2 ^ 63) (hk : fitsB v k = false) :
    Calls Try.prog 18 #[.agg #[.string s, .int .i64 N], .int .i64 v, .int .i64 k] w (BPost ⟨#[]⟩ 0 false w) := by
  have hok := fun W => specBitsOk_any s N W hs
  rw [h] at hok
  have Hok := Lib.hid hok
  have hft := fun W => l1Fits_any v k W hv
  rw [hk] at hft
  have Hft := Lib.hid hft
  have HR := Lib.hid (start2 w s N)
  clear hok h hft hk hv
  go_enter Try.func18, Try.ntmps18
  go_wp2_with fail
  refine (Hok.out _).mono ?_
  rintro e w1 ⟨rfl, hb1⟩
  have hr1 := HR.out.below hb1
  have hf := (below2 w _ _).trans (hb1.mono (by simp; try omega))
  have r0 := hr1.c0
  have r1 := hr1.c1
  have f0 := hr1.f 0
  have f1 := hr1.f 1
  clear hb1 hr1
  go_wp2_with fail
  refine (Hft.out _).mono ?_
  rintro e w' ⟨rfl, rfl⟩
  go_wp2_with fail
  exact bodyPost_ret (v := .tuple #[.agg #[.string ⟨#[]⟩, .int .i64 0], .bool false]) (by simp [results, Try.results18, go_sem, r0, r1]) rfl
    ⟨rfl, (hf.setCell (by simp) _).setCell (by simp) _⟩

theorem start2b (w : World) (s : ByteArray) (N : Int) (o : Obj) :
    ((w.alloc (.cells #[.string s, .int .i64 N] 25)).alloc o).cell? ⟨w.heap.size, 0, none⟩ = some (.string s) ∧
    ((w.alloc (.cells #[.string s, .int .i64 N] 25)).alloc o).cell? ⟨w.heap.size, 1, none⟩ = some (.int .i64 N) ∧
    w.heap.size < ((w.alloc (.cells #[.string s, .int .i64 N] 25)).alloc o).heap.size := by
  refine ⟨?_, ?_, by simp; omega⟩
  · go_simp
  · go_simp

set_option maxRecDepth 100000 in
set_option maxHeartbeats 1000000 in
theorem specPutBits_bad2 (s : ByteArray) (N v k : Int) (w : World) (hs : s.size ≤ maxLen) (h : okB s N = true) (hv : v < 2 ^ 63) (hk : fitsB v k = true) (hl : ¬ N + k ≤ 20000) :
    Calls Try.prog 18 #[.agg #[.string s, .int .i64 N], .int .i64 v, .int .i64 k] w (BPost ⟨#[]⟩ 0 false w) := by
  have hok := fun W => specBitsOk_any s N W hs
  obtain ⟨hN0, hN1, _, _⟩ := okB_facts h
  rw [h] at hok
  have Hok := Lib.hid hok
  have hk2 : 0 ≤ k ∧ k ≤ 64 := by
    have hk' := hk
    unfold fitsB at hk'; rw [decide_eq_true_iff] at hk'; omega
  obtain ⟨hk0, hk1⟩ := hk2
  have hft := fun W => l1Fits_any v k W hv
  rw [hk] at hft
  have Hft := Lib.hid hft
  have HR := Lib.hid (start2 w s N)
  have HR2 := Lib.hid (start2b w s N (.cells #[.string ⟨#[]⟩, .int .i64 0] 25))
  have hd : decide (20000 < N + k) = true := by simp; omega
  clear hok h hft hk hv
  go_enter Try.func18, Try.ntmps18
  go_wp2_with fail
  refine (Hok.out _).mono ?_
  rintro e w1 ⟨rfl, hb1⟩
  have hr1 := HR.out.below hb1
  obtain ⟨x0, x1, hg⟩ := kept2' hb1 HR2.out.2.2 HR2.out.1 HR2.out.2.1
  have hf := (below2 w _ _).trans (hb1.mono (by simp; try omega))
  have r0 := hr1.c0
  have r1 := hr1.c1
  have f0 := hr1.f 0
  have f1 := hr1.f 1
  clear hb1 hr1
  go_wp2_with fail
  refine (Hft.out _).mono ?_
  rintro e w' ⟨rfl, rfl⟩
  go_wp2_with fail
  exact bodyPost_ret (v := .tuple #[.agg #[.string ⟨#[]⟩, .int .i64 0], .bool false]) (by simp [results, Try.results18, go_sem, r0, r1]) rfl
    ⟨rfl, (hf.setCell (by simp) _).setCell (by simp) _⟩

/-- a row of the call's own that is not nil -/
theorem own_form {w : World} {base : Nat} {e : TypeId} {v : Value} {n : Nat} {xs : List Value} (h : w.ownsRow base e 1 v n xs) (hn : v ≠ .slice none 0 0) :
    ∃ g cap, v = .slice (some ⟨g, 0, none⟩) n cap ∧ base ≤ g ∧ g < w.heap.size ∧ ∀ j u, xs[j]? = some u → w.cell? ((⟨g, 0, none⟩ : Addr).add j) = some u := by
  rcases h.2 with ⟨hv, _⟩ | ⟨g, cap, cur, hv, hb, hg, _⟩
  · exact absurd hv hn
  · refine ⟨g, cap, hv, hb, (Array.getElem?_eq_some_iff.1 hg).1, ?_⟩
    subst hv
    exact h.cells rfl

theorem bitInts_append (l m : List Bool) : bitInts l ++ bitInts m = bitInts (l ++ m) := by simp [bitInts]
theorem bitInts_one (l : List Bool) : ∀ u ∈ bitInts l, u.oneCell' = true := by
  intro u hu
  simp only [bitInts, List.mem_map] at hu
  obtain ⟨b, _, rfl⟩ := hu
  rfl

set_option maxRecDepth 100000 in
set_option maxHeartbeats 1000000 in
theorem specPutBits_good (s : ByteArray) (N k : Nat) (v : Int) (w : World) (hs : s.size ≤ maxLen) (h : okB s N = true) (hv : v < 2 ^ 63) (hk : fitsB v k = true) (hl : N + k ≤ 20000)
    (R : List UInt8) (hR : Hid (BM.pack (BM.listOf s.data.toList N ++ BM.digits (u64of v) k) = R)) :
    Calls Try.prog 18 #[.agg #[.string s, .int .i64 N], .int .i64 v, .int .i64 k] w (BPost ⟨R.toArray⟩ ((N : Int) + k) true w) := by
  obtain ⟨i0, hi, hz0, hz1, hz2⟩ := info_parts info_i64
  have hok := fun W => specBitsOk_any s N W hs
  obtain ⟨hN0, hN1, hN2, _⟩ := okB_facts h
  rw [h] at hok
  have Hok := Lib.hid hok
  have hk1 : k ≤ 64 := by
    have hk' := hk
    unfold fitsB at hk'; rw [decide_eq_true_iff] at hk'; omega
  have hft := fun W => l1Fits_any v k W hv
  rw [hk] at hft
  have Hft := Lib.hid hft
  have hli := fun W => l1List_any s N W (by omega) (by omega) hs
  have Hli := Lib.hid hli
  have hdi := fun W => l1Digits_any v k W hk1
  have Hdi := Lib.hid hdi
  have HR := Lib.hid (start2 w s N)
  have HR2 := Lib.hid (start2b w s N (.cells #[.string ⟨#[]⟩, .int .i64 0] 25))
  have HN2 := Lib.hid hN2
  clear hok h hft hk hv hli hdi hN2
  go_enter Try.func18, Try.ntmps18
  go_wp2_with fail
  refine (Hok.out _).mono ?_
  rintro e w1 ⟨rfl, hb1⟩
  have hr1 := HR.out.below hb1
  obtain ⟨x0, x1, hg⟩ := kept2' hb1 HR2.out.2.2 HR2.out.1 HR2.out.2.1
  have hf := (below2 w _ _).trans (hb1.mono (by simp; try omega))
  have hz := hb1.size
  clear hb1
  go_wp2_with fail
  refine (Hft.out _).mono ?_
  rintro e w' ⟨rfl, rfl⟩
  go_wp2_with fail
  refine (Hli.out _).mono ?_
  rintro e w2 ⟨v1, rfl, hown, hb2, hvn⟩
  have hr2 := hr1.below hb2
  have hf2 := hf.trans (hb2.mono (by omega))
  have hz2' := hb2.size
  have Hvn := Lib.hid hvn
  clear hr1 hf x0 x1 hvn hb2
  go_wp2_with fail
  refine (Hdi.out _).mono ?_
  rintro e w3 ⟨v2, rfl, hown2, hb3, hvn2⟩
  have hr3 := hr2.below hb3
  have hf3 := hf2.trans (hb3.mono (by omega))
  have hown3 := hown.kept (w' := w3) (row := none) ⟨hb3.os, hb3.tape, hb3.output, hb3.size, fun i hi _ => hb3.block i hi⟩ (by by_cases hx : v1.ownBlock = none; exact .inl hx; exact .inr hx)
  have hz3 := hb3.size
  obtain ⟨g2, c2, rfl, hg2, hg2', hc2⟩ := own_form hown2 hvn2
  rw [BM.digits_length] at hown2
  clear hr2 hf2 hb3 hvn2 hown
  rw [BM.listOf_length] at hown3
  go_wp2_with (at_builtin; refine wpList_append_own _ rfl _ _ 44 rfl w1.heap.size 2 i0 (.int .i64 0) 1 8 Try.underlying44 hi hz0 hz1 hz2 rfl (by decide) _ _ _ rfl hown3 ⟨g2, 0, none⟩ _ _ (bitInts (BM.digits (u64of v) k)) rfl ?c0 hc2 ?c2 ?c3 ?c4 ?c5 ?_)
  case c0 => rw [bitInts_length]; simp
  case c2 => exact bitInts_one _
  case c3 => rw [BM.digits_length]; unfold maxLen; omega
  case c4 => rw [BM.digits_length]; omega
  case c5 => omega
  intro v' w4 hown4 hgr4 _
  rw [bitInts_append, BM.digits_length] at hown4
  have hlen : (BM.listOf s.data.toList N ++ BM.digits (u64of v) k).length = N + k := by rw [List.length_append, BM.listOf_length, BM.digits_length]
  obtain ⟨A, c, rfl, hA⟩ := ints_own hown4 (by rw [bitInts_length, hlen])
  have hbl := fun kk hkk => (hown3.lt kk hkk).1
  have hszw : w.heap.size + 2 ≤ w1.heap.size := by simpa using hz
  have hr4 := hr3.grown hgr4 (by intro he; have := hbl _ he.symm; omega)
  have hf4 := hf3.grown hgr4 (by omega) (fun kk hkk => by have := hbl _ hkk; omega)
  have hz4 := hgr4.size
  have hpk := l1Pack_any A c _ w4 (by rw [hlen]; omega) hA
  rw [hlen, hR.out] at hpk
  have Hpk := Lib.hid hpk
  clear hpk hA hown4 hgr4 hr3 hf3 hown3 hown2 hc2 hbl hlen
  go_wp2_with fail
  refine Hpk.out.mono ?_
  rintro e w5 ⟨rfl, hb5⟩
  have hr5 := hr4.below hb5
  have hf5 := hf4.trans (hb5.mono (by omega))
  have r0 := hr5.c0
  have r1 := hr5.c1
  have f0 := hr5.f 0
  have f1 := hr5.f 1
  clear hb5 hr5 hr4 hf4
  rw [show ((N + k : Nat) : Int) = (N : Int) + (k : Int) from Int.natCast_add N k]
  go_wp2_with fail
  exact bodyPost_ret (v := .tuple #[.agg #[.string ⟨R.toArray⟩, .int .i64 ((N : Int) + k)], .bool true]) (by simp [results, Try.results18, go_sem, r0, r1]) rfl
    ⟨rfl, (hf5.setCell (by simp) _).setCell (by simp) _⟩

theorem specPutBits_any (s : ByteArray) (N v k : Int) (w : World) (hs : s.size ≤ maxLen) (hv : v < 2 ^ 63) :
    Calls Try.prog 18 #[.agg #[.string s, .int .i64 N], .int .i64 v, .int .i64 k] w (BPost (putS s N v k) (putN s N v k) (putB s N v k) w) := by
  cases h : okB s N with
  | false =>
    have hb : putB s N v k = false := by unfold putB; rw [h]; rfl
    rw [(putS_bad hb).1, (putS_bad hb).2, hb]
    exact specPutBits_bad0 s N v k w hs h
  | true =>
    cases hk : fitsB v k with
    | false =>
      have hb : putB s N v k = false := by unfold putB; rw [h, hk]; rfl
      rw [(putS_bad hb).1, (putS_bad hb).2, hb]
      exact specPutBits_bad1 s N v k w hs h hv hk
    | true =>
      by_cases hl : N + k ≤ 20000
      · have hb : putB s N v k = true := by unfold putB; rw [h, hk]; simp [hl]
        obtain ⟨hN0, _⟩ := okB_facts h
        have hk0 : 0 ≤ k := by unfold fitsB at hk; rw [decide_eq_true_iff] at hk; omega
        obtain ⟨K, rfl⟩ := Int.eq_ofNat_of_zero_le hk0
        obtain ⟨M, rfl⟩ := Int.eq_ofNat_of_zero_le hN0
        unfold putS putN putL
        rw [hb, if_pos rfl, if_pos rfl, Int.toNat_natCast, Int.toNat_natCast]
        exact specPutBits_good s M K v w hs h hv hk (by omega) _ rfl
      · have hb : putB s N v k = false := by unfold putB; rw [h, hk]; simp [hl]
        rw [(putS_bad hb).1, (putS_bad hb).2, hb]
        exact specPutBits_bad2 s N v k w hs h hv hk hl
end Go.Proofs.Ytoajpbainmbhlaa
