/- Walks: DrawBitsOk, DrawPutBits, DrawGetBits. -/
import Derived.Test.YtbgogpfhdfgjeaaRd
import Derived.Deep.RegionLaw
import Derived.Test.YtbgogpfhdfgjeaaCe
import Derived.Test.YtbgogpfhdfgjeaaRc
import Derived.Test.YtbgogpfhdfgjeaaWn
import Derived.Test.YtbgogpfhdfgjeaaWr
import Derived.Test.YtbgogpfhdfgjeaaIa
import Derived.Test.YtbgogpfhdfgjeaaHk
import Derived.Test.YtbgogpfhdfgjeaaWq
import Derived.OpenShut
import Derived.Test.YtbgogpfhdfgjeaaHn
import Derived.Test.YtbgogpfhdfgjeaaWt
import Derived.Deep.RegionHeld3
import Derived.Deep.DeepCutAuto
set_option linter.unusedVariables false
set_option linter.unusedSimpArgs false
namespace Go.Proofs.Ytbgogpfhdfgjeaa
open Go.RowKit

def IsI (v : Value) : Prop := IsI64 v
/-- a fresh struct variable's block -/
def SB (w : World) (g : Nat) (s : ByteArray) (N : Int) : Prop := w.heap[g]? = some (.cells #[.string s, .int .i64 N] 26 (0, 0))
theorem SB.lt {w : World} {g : Nat} {s : ByteArray} {N : Int} (h : SB w g s N) : g < w.heap.size := by
  unfold SB at h
  rcases Nat.lt_or_ge g w.heap.size with h1 | h1
  · exact h1
  · rw [Array.getElem?_eq_none h1] at h; cases h
theorem SB.c0 {w : World} {g : Nat} {s : ByteArray} {N : Int} (h : SB w g s N) : w.cell? ⟨g, 0, none⟩ = some (.string s) := by rw [cell_of_row w g 0 _ _ _ h]; rfl
theorem SB.c1 {w : World} {g : Nat} {s : ByteArray} {N : Int} (h : SB w g s N) : w.cell? ⟨g, 1, none⟩ = some (.int .i64 N) := by rw [cell_of_row w g 1 _ _ _ h]; rfl
theorem SB.f {w : World} {g : Nat} {s : ByteArray} {N : Int} (h : SB w g s N) (i : Nat) : w.frozen? ⟨g, i, none⟩ = false := frozen_of_row w g i _ _ h
theorem SB.below {w w' : World} {g : Nat} {s : ByteArray} {N : Int} (h : SB w g s N) (hb : Below w.heap.size w w') : SB w' g s N := (hb.block g h.lt).trans h
theorem SB.grown {w w' : World} {g : Nat} {row : Option Nat} {s : ByteArray} {N : Int} (h : SB w g s N) (hb : w.grownBy w' row) (hr : some g ≠ row) : SB w' g s N := (hb.block g h.lt hr).trans h
theorem SB.drew {w : World} {g : Nat} {s : ByteArray} {N : Int} (h : SB w g s N) : SB w.drew g s N := h
theorem SB.new (w : World) (s : ByteArray) (N : Int) : SB (w.alloc (.cells #[.string s, .int .i64 N] 26)) w.heap.size s N := heap_alloc_new w _
theorem SB.res {w : World} {g : Nat} (h : SB w g ⟨#[]⟩ 0) : ResBlk w g := h

def TripPost (w : World) (e : Ending) (w' : World) : Prop :=
  ∃ (s : ByteArray) (N v k : Int), e = .returned (.tuple #[.agg #[.string s, .int .i64 N], .int .i64 v, .int .i64 k]) ∧ s.size ≤ 1000 ∧ IsI64 (.int .i64 N) ∧ IsI64 (.int .i64 v) ∧ IsI64 (.int .i64 k) ∧ Below w.heap.size w w'

end Go.Proofs.Ytbgogpfhdfgjeaa

/- Walks: drawn steps. -/
set_option linter.unusedVariables false
set_option linter.unusedSimpArgs false
namespace Go.Proofs.Ytbgogpfhdfgjeaa
open Go.RowKit

set_option maxRecDepth 100000 in
set_option maxHeartbeats 4000000 in
theorem delta_any (B g : Nat) (w : World) (h : Rd w B g) :
    Calls Try.prog 43 #[.pointer (some ⟨g, 0, none⟩)] w (RdPost (IntIn (-1000000000001) 1000000000001) B g w) := by
  have H := Lib.hid h
  clear h
  go_enter Try.func43, Try.ntmps43
  go_wp2_with fail
  have hlt := H.out.lt
  refine (below_any B g 10 _ (Rd.alloc H.out _) (by omega) (by omega)).mono ?_
  rintro e w2 ⟨v, rfl, ⟨x, rfl, hx0, hx1⟩, hrd2, hgr2⟩
  obtain ⟨m, rfl⟩ : ∃ m : Nat, x = (m : Int) := ⟨x.toNat, by omega⟩
  have hm : m < 10 := by omega
  have hblk : w2.heap[w.heap.size]? = some (.cells #[.int .i64 0, .int .i64 1, .int .i64 63, .int .i64 64, .int .i64 255, .int .i64 256, .int .i64 2047, .int .i64 2048, .int .i64 5000, .int .i64 1000000000000] 2 (0, 0)) := by
    rw [hgr2.block _ (by simp) (by intro he; injection he with he; omega)]; exact heap_alloc_new w _
  obtain ⟨k, hk, hk0, hk1⟩ : ∃ k : Int, w2.cell? ⟨w.heap.size, m, none⟩ = some (.int .i64 k) ∧ 0 ≤ k ∧ k ≤ 1000000000000 := by
    rw [cell_of_row w2 _ m _ _ _ hblk]
    have : m = 0 ∨ m = 1 ∨ m = 2 ∨ m = 3 ∨ m = 4 ∨ m = 5 ∨ m = 6 ∨ m = 7 ∨ m = 8 ∨ m = 9 := by omega
    rcases this with rfl | rfl | rfl | rfl | rfl | rfl | rfl | rfl | rfl | rfl <;> exact ⟨_, rfl, by omega, by omega⟩
  have Hrd2 := Lib.hid hrd2
  have G2 := Lib.hid (grown_trans' (World.grownBy_alloc w _ (some g)) hgr2)
  clear hrd2 hgr2 hblk H hx0 hx1
  go_wp2_with fail
  refine (once_any B g 2 _ Hrd2.out (by omega) (by omega)).mono ?_
  rintro e w3 ⟨v, rfl, ⟨b, rfl⟩, hrd3, hgr3⟩
  have Hrd3 := Lib.hid hrd3
  have G3 := Lib.hid (grown_trans' G2.out hgr3)
  clear hrd3 hgr3 G2 hk
  cases b
  all_goals
    go_wp2_with fail
    try (go_region_law (first | (go_simp; go_at_call 51; skip)))
    refine (below_any B g 3 _ (by first | exact Hrd3.out | exact Hrd3.out.drew) (by omega) (by omega)).mono ?_
    rintro e w4 ⟨v, rfl, ⟨y, rfl, hy0, hy1⟩, hrd4, hgr4⟩
    have Hrd4 := Lib.hid hrd4
    have hgr5 := grown_trans' G3.out hgr4
    clear hrd4 hgr4
    go_wp2_with fail
    go_ret
    exact ⟨_, rfl, ⟨_, rfl, by omega, by omega⟩, Hrd4.out, hgr5⟩

set_option maxRecDepth 100000 in
set_option maxHeartbeats 1000000 in
theorem DrawCodeOf_any (A : Option Addr) (n c : Nat) (w : World) (h : CodeAt w A n c) :
    Calls Try.prog 10 #[.slice A n c] w fun e w' => (∃ d : Int, e = .returned (.int .i64 d) ∧ -1000000000001 ≤ d ∧ d ≤ 1000000000001) ∧ Below w.heap.size w w' := by
  have H := Lib.hid h
  clear h
  go_enter Try.func10, Try.ntmps10
  go_wp2_with fail
  refine (open_any A n c _ H.out).mono ?_
  rintro e w1 ⟨rfl, hrd1, hb1⟩
  have Hrd1 := Lib.hid hrd1
  have Hb1 := Lib.hid hb1
  clear hrd1 hb1
  go_wp2_with fail
  refine (delta_any _ _ _ Hrd1.out).mono ?_
  rintro e w2 ⟨v, rfl, ⟨d, rfl, h0, h1⟩, hrd2, hgr⟩
  have hb2 := Hb1.out.grown hgr Hb1.out.size (fun k hk => by injection hk with hk; omega)
  clear hrd2 hgr
  go_wp2_with fail
  go_ret
  exact ⟨⟨d, rfl, h0, h1⟩, hb2⟩
end Go.Proofs.Ytbgogpfhdfgjeaa

/- Walks: drawn bits, few of them. -/
set_option linter.unusedVariables false
set_option linter.unusedSimpArgs false
namespace Go.Proofs.Ytbgogpfhdfgjeaa
open Go.RowKit

def IsFew (v : Value) : Prop := ∃ (s : ByteArray) (N : Int), v = .agg #[.string s, .int .i64 N] ∧ s.size ≤ 127 ∧ -9223372036854775808 ≤ N ∧ N ≤ 9223372036854775807

set_option maxRecDepth 100000 in
set_option maxHeartbeats 1000000 in
theorem few_any (B g : Nat) (most : Int) (w : World) (h : Rd w B g) (h1 : 1 ≤ most) (h2 : most ≤ 1000) :
    Calls Try.prog 48 #[.pointer (some ⟨g, 0, none⟩), .int .i64 most] w (RdPost IsFew B g w) := by
  obtain ⟨i0, hi, hz0, hz1, hz2⟩ := info_parts info_i64
  have hgl := h.lt
  have H := Lib.hid h
  clear h
  go_enter Try.func48, Try.ntmps48
  go_wp2_with fail
  refine (below_any B g (most + 1) _ (Rd.alloc (Rd.alloc H.out _) _) (by omega) (by omega)).mono ?_
  rintro e w1 ⟨v, rfl, ⟨x, rfl, hx0, hx1⟩, hrd, hgr⟩
  have hres : ResBlk w1 w.heap.size := by
    unfold ResBlk
    rw [hgr.block _ (by simp; omega) (by intro he; injection he with he; omega)]; exact heap_alloc2_old w _ _
  have hown : w1.ownsRow (w.heap.size + 1) 2 1 (.slice (some ⟨w.heap.size + 1, 0, none⟩) 0 0) 0 (bitInts []) := by
    have h0 := World.ownsRow_made (w.alloc (.cells #[.string ⟨#[]⟩, .int .i64 0] 26)) (base := w.heap.size + 1) (e := 2) (size := 1) #[] 0 (by simp) (by simp [maxLen]) rfl
    rw [World.size_alloc] at h0
    exact h0.kept hgr (.inr (by simp [Value.ownBlock]; omega))
  have hgr1 : w.grownBy w1 (some g) := grown_trans' (World.grownBy_alloc w _ _) (grown_trans' (World.grownBy_alloc _ _ _) hgr)
  have hz1' : w.heap.size + 2 ≤ w1.heap.size := by have := hgr.size; simpa using this
  have Hrd := Lib.hid hrd
  clear hrd hgr
  go_wp2_with fail
  go_loopw [5, 6] (fun u i wr => ∃ (j : Int) (L : List Bool), i = .int .i64 j ∧ 0 ≤ j ∧ (L.length : Int) + j ≤ most ∧ wr.ownsRow (w.heap.size + 1) 2 1 u L.length (bitInts L) ∧ u ≠ .slice none 0 0 ∧
      Hid (ResBlk wr w.heap.size) ∧ Hid (Rd wr B g) ∧ w.grownBy wr (some g) ∧ w.heap.size + 2 ≤ wr.heap.size)
    (fun _ i _ => (intOf i).toNat)
  case atStart => exact ⟨x, [], rfl, hx0, by simp; omega, hown, by simp, hres, Hrd, hgr1, hz1'⟩
  case round =>
    clear hown hres Hrd hgr1 hz1' H
    obtain ⟨j, L, rfl, hj0, hj1, hown, hvn, Hres, Hrd, hgr, hz⟩ := hrel
    have Hvn := Lib.hid hvn
    clear hvn
    by_cases hlt : 0 < j
    · go_wp2_with fail
      refine (below_any B g 2 _ Hrd.out (by omega) (by omega)).mono ?_
      rintro e w2 ⟨v, rfl, ⟨y, rfl, hy0, hy1⟩, hrd2, hgr2⟩
      obtain ⟨b, rfl⟩ := bitOfInt hy0 (by omega)
      have hownB := fun k hk => (hown.lt k hk)
      have hown2 := hown.kept hgr2 (by
        by_cases hx : u5.ownBlock = none
        · exact .inl hx
        · right; intro he; have := (hownB g he).1; omega)
      have hgr3 := grown_trans' hgr hgr2
      have Hres2 := Lib.hid (Hres.out.grown hgr2 (by intro he; injection he with he; omega))
      have Hrd2 := Lib.hid hrd2
      have hz2' : w.heap.size + 2 ≤ w2.heap.size := Nat.le_trans hz hgr2.size
      generalize hB : ((b.toNat : Nat) : Int) = Bv at *
      have HB := Lib.hid hB
      clear hB hrd2 hgr2 hgr hown
      go_wp2_with (at_builtin; refine wpList_append_own _ rfl _ _ 35 rfl (w.heap.size + 1) 2 i0 (.int .i64 0) 1 8 Try.underlying35 hi hz0 hz1 hz2 rfl (by decide) _ _ _ rfl (hown2.alloc _) ⟨w2.heap.size, 0, none⟩ 1 1 [.int .i64 Bv] rfl rfl ?c1 ?c2 ?c3 ?c4 ?c5 ?_)
      case c1 => exact cell_one_new _ _ _
      case c2 => intro u hu; simp at hu; subst hu; rfl
      case c3 => unfold maxLen; omega
      case c4 => omega
      case c5 => simp; omega
      intro v' w3 hown3 hgrow hnn
      have Hnn : Hid (v' ≠ .slice none 0 0) := by first | exact hnn | exact fun h => by have := (hnn.1 h).2; omega
      have hown4 : w3.ownsRow (w.heap.size + 1) 2 1 v' (L ++ [b]).length (bitInts (L ++ [b])) := by
        have e : bitInts (L ++ [b]) = bitInts L ++ [.int .i64 Bv] := by rw [← HB.out]; simp [bitInts]
        rw [e]; simpa using hown3
      have hrow : ∀ k, u5.ownBlock = some k → w.heap.size + 1 ≤ k := fun k hk => (hown2.lt k hk).1
      have hgr5 : w.grownBy w3 (some g) := by
        refine ⟨hgrow.os.trans hgr3.os, hgrow.tape.trans hgr3.tape, hgrow.output.trans hgr3.output, by have := hgrow.size; simp at this; omega, fun i hi hne => ?_⟩
        rw [hgrow.block i (by simp; omega) (by intro he; have := hrow i he.symm; omega), Below.heap_alloc _ _ _ (by omega)]
        exact hgr3.block i hi hne
      have Hres5 : Hid (ResBlk w3 w.heap.size) := by
        unfold Hid ResBlk
        rw [hgrow.block _ (by simp; omega) (by intro he; have := hrow _ he.symm; omega), Below.heap_alloc _ _ _ (by omega)]
        exact Hres2.out
      have Hrd5 : Hid (Rd w3 B g) := (Rd.alloc Hrd2.out _).grown hgrow (fun k hk => by have := hrow k hk; have := Rd.B_le Hrd2.out; omega)
      have hz5 : w.heap.size + 2 ≤ w3.heap.size := by have := hgrow.size; simp at this; omega
      clear hown3 hgrow hnn hown2 hgr3 hrow hownB Hrd2 Hres2 hz2'
      go_wp2_with fail
      go_roundw
      case rel => exact ⟨j - 1, L ++ [b], by congr 1, by omega, by simp; omega, hown4, Hnn.out, Hres5, Hrd5, hgr5, hz5⟩
      case measure => simp [intOf]; omega
    · obtain ⟨A5, c5, rfl, hA5⟩ := ints_own hown (bitInts_length L).symm
      have hll : (L.length : Int) ≤ 1000 := by omega
      have hpk := l1Pack_any A5 c5 L wr (by omega) hA5
      have Hpk := Lib.hid hpk
      have hgl2 : g < wr.heap.size := Rd.lt Hrd.out
      clear hpk hA5 hown Hvn
      go_wp2_with fail
      refine Hpk.out.mono ?_
      rintro e w2 ⟨rfl, hb2⟩
      have hsR : (BM.pack L).length ≤ 126 := by rw [BM.pack_length]; unfold BM.bytesOf; omega
      obtain ⟨R, hR⟩ : ∃ R : ByteArray, R = ⟨(BM.pack L).toArray⟩ := ⟨_, rfl⟩
      have hRs : R.size ≤ 126 := by rw [hR]; simpa [ByteArray.size] using hsR
      rw [← hR]
      have Hres2 := Lib.hid (Hres.out.below hb2)
      have Hrd2 := Lib.hid (Hrd.out.below hb2)
      have hgr2 : w.grownBy w2 (some g) := ⟨hb2.os.trans hgr.os, hb2.tape.trans hgr.tape, hb2.output.trans hgr.output, Nat.le_trans hgr.size hb2.size, fun i hi hne => (hb2.block i (Nat.lt_of_lt_of_le hi hgr.size)).trans (hgr.block i hi hne)⟩
      have hz2' : w.heap.size + 2 ≤ w2.heap.size := Nat.le_trans hz hb2.size
      clear hb2 hgr hR hsR Hpk
      go_wp2_with fail
      refine (below_any B g 40 _ (Rd.alloc Hrd2.out _) (by omega) (by omega)).mono ?_
      rintro e w3 ⟨v, rfl, ⟨y, rfl, hy0, hy1⟩, hrd3, hgr3⟩
      have hblk : w3.heap[w2.heap.size]? = some (.cells #[.string R, .int .i64 (L.length : Int)] 26 (0, 0)) := by
        rw [hgr3.block _ (by simp) (by intro he; injection he with he; omega)]; exact heap_alloc_new w2 _
      have hk0 : w3.cell? ⟨w2.heap.size, 0, none⟩ = some (.string R) := by rw [cell_of_row w3 _ 0 _ _ _ hblk]; rfl
      have hk1 : w3.cell? ⟨w2.heap.size, 1, none⟩ = some (.int .i64 (L.length : Int)) := by rw [cell_of_row w3 _ 1 _ _ _ hblk]; rfl
      have hkf0 : w3.frozen? ⟨w2.heap.size, 0, none⟩ = false := frozen_of_row w3 _ 0 _ _ hblk
      have hkf1 : w3.frozen? ⟨w2.heap.size, 1, none⟩ = false := frozen_of_row w3 _ 1 _ _ hblk
      have hres3 : ResBlk w3 w.heap.size := by
        unfold ResBlk
        rw [hgr3.block _ (by simp; omega) (by intro he; injection he with he; omega), Below.heap_alloc _ _ _ (by omega)]
        exact Hres2.out
      have hgr4 := grown_trans' hgr2 (grown_trans' (World.grownBy_alloc w2 _ _) hgr3)
      have hz3 : w2.heap.size + 1 ≤ w3.heap.size := by have := hgr3.size; simpa using this
      have Hrd3 := Lib.hid hrd3
      have Hblk := Lib.hid hblk
      clear hrd3 hgr3 hgr2 Hres2 Hrd2 hblk
      have hwle : w.heap.size ≤ w3.heap.size := by omega
      by_cases hy38 : y = 38
      · subst hy38
        have Hres3 := Lib.hid hres3
        clear hres3
        go_wp2_with fail
        refine (off_any B g 0 (L.length : Int) _ Hrd3.out (by omega) (by omega) (by omega) (by omega)).mono ?_
        rintro e w4 ⟨v, rfl, ⟨z, rfl, hz0', hz1'⟩, hrd4, hgr5⟩
        have hblk4 : w4.heap[w2.heap.size]? = some (.cells #[.string R, .int .i64 (L.length : Int)] 26 (0, 0)) := by
          rw [hgr5.block _ (by omega) (by intro he; injection he with he; omega)]; exact Hblk.out
        have k0 : w4.cell? ⟨w2.heap.size, 0, none⟩ = some (.string R) := by rw [cell_of_row w4 _ 0 _ _ _ hblk4]; rfl
        have k1 : w4.cell? ⟨w2.heap.size, 1, none⟩ = some (.int .i64 (L.length : Int)) := by rw [cell_of_row w4 _ 1 _ _ _ hblk4]; rfl
        have kf1 : w4.frozen? ⟨w2.heap.size, 1, none⟩ = false := frozen_of_row w4 _ 1 _ _ hblk4
        have hres4 := Hres3.out.grown hgr5 (by intro he; injection he with he; omega)
        have r0 := hres4.c0
        have r1 := hres4.c1
        have f0 := hres4.f 0
        have f1 := hres4.f 1
        have hgr6 := grown_trans' hgr4 hgr5
        have hne2 : w.heap.size ≠ w2.heap.size := by omega
        have Hrd4 := Lib.hid hrd4
        clear hrd4 hgr5 hgr4 hk0 hk1 hkf0 hkf1 hblk4 hres4
        go_wp2_with fail
        have hBg := Rd.B_le Hrd4.out
        exact bodyPost_ret (v := .agg #[.string R, .int .i64 z]) (by simp [results, Try.results48, go_sem, r0, r1, k1, hne2]) rfl
          ⟨_, rfl, ⟨R, z, rfl, by omega, hz0', hz1'⟩, ((Rd.setCell Hrd4.out (by simp; omega) (by simp; omega) _).setCell (by simp; omega) (by simp; omega) _).setCell (by simp; omega) (by simp; omega) _,
            grown_setNew (grown_setNew (grown_setNew hgr6 (by simp; omega) _) (by simp) _) (by simp) _⟩
      · by_cases hy39 : y = 39
        · subst hy39
          have r0 := hres3.c0
          have r1 := hres3.c1
          have f0 := hres3.f 0
          have f1 := hres3.f 1
          have hne2 : w.heap.size ≠ w2.heap.size := by omega
          have hBg := Rd.B_le Hrd3.out
          clear hres3
          go_wp2_with fail
          have hsz : (R ++ (⟨#[0]⟩ : ByteArray)).size ≤ 127 := by rw [ByteArray.size_append]; show R.size + 1 ≤ 127; omega
          exact bodyPost_ret (v := .agg #[.string (R ++ ⟨#[0]⟩), .int .i64 (L.length : Int)]) (by simp [results, Try.results48, go_sem, r0, r1, hk1, hne2]) rfl
            ⟨_, rfl, ⟨R ++ ⟨#[0]⟩, L.length, rfl, hsz, by omega, by omega⟩, ((Rd.setCell Hrd3.out (by simp; omega) (by simp; omega) _).setCell (by simp; omega) (by simp; omega) _).setCell (by simp; omega) (by simp; omega) _,
              grown_setNew (grown_setNew (grown_setNew hgr4 (by simp; omega) _) (by simp) _) (by simp) _⟩
        · have e38 : (y == 38) = false := by simpa using hy38
          have e39 : (y == 39) = false := by simpa using hy39
          have r0 := hres3.c0
          have r1 := hres3.c1
          have f0 := hres3.f 0
          have f1 := hres3.f 1
          have hne2 : w.heap.size ≠ w2.heap.size := by omega
          have hBg := Rd.B_le Hrd3.out
          clear hres3
          go_wp2_with fail
          exact bodyPost_ret (v := .agg #[.string R, .int .i64 (L.length : Int)]) (by simp [results, Try.results48, go_sem, r0, r1, hne2]) rfl
            ⟨_, rfl, ⟨R, L.length, rfl, by omega, by omega, by omega⟩, (Rd.setCell Hrd3.out (by simp; omega) (by simp; omega) _).setCell (by simp; omega) (by simp; omega) _,
              grown_setNew (grown_setNew hgr4 (by simp) _) (by simp) _⟩
end Go.Proofs.Ytbgogpfhdfgjeaa

/- Walks: DrawReadCode. -/
set_option linter.unusedVariables false
set_option linter.unusedSimpArgs false
namespace Go.Proofs.Ytbgogpfhdfgjeaa
open Go.RowKit

theorem qg_pack_size (l : List Bool) : (ByteArray.mk (BM.pack l).toArray).size = (l.length + 7) / 8 := by
  have h : (ByteArray.mk (BM.pack l).toArray).size = (BM.pack l).length := List.size_toArray
  rw [h, BM.pack_length]; unfold BM.bytesOf; omega
theorem listOf_le (d : List UInt8) (n : Nat) : (BM.listOf d n).length = n := BM.listOf_length d n
theorem join_small (s : ByteArray) (N : Int) (t : ByteArray) (M : Int) (hs : s.size ≤ 127) (ht : t.size ≤ 127) : (joinS s N t M).size ≤ 1000 ∧ Rng (joinN s N t M) := by
  unfold joinS joinN
  cases h : joinB s N t M with
  | false => rw [if_neg (by decide), if_neg (by decide)]; exact ⟨by decide, by unfold Rng; omega⟩
  | true =>
    have h' := h
    unfold joinB at h'
    simp only [Bool.and_eq_true, decide_eq_true_eq] at h'
    obtain ⟨h1, h2, h3⟩ := h'
    obtain ⟨a0, a1, a2, _⟩ := okB_facts h1
    obtain ⟨b0, b1, b2, _⟩ := okB_facts h2
    rw [if_pos rfl, if_pos rfl, qg_pack_size]
    unfold joinL
    rw [List.length_append, BM.listOf_length, BM.listOf_length]
    refine ⟨?_, by unfold Rng; omega⟩
    omega
def CutC (w : World) (e : Ending) (w' : World) : Prop :=
  ∃ (s : ByteArray) (N v : Int), e = .returned (.tuple #[.agg #[.string s, .int .i64 N], .int .i64 v]) ∧ s.size ≤ 1000 ∧ Rng N ∧ Rng v ∧ Below w.heap.size w w'

set_option maxRecDepth 100000 in
set_option maxHeartbeats 4000000 in
theorem DrawReadCode_any (A : Option Addr) (n c : Nat) (w : World) (h : CodeAt w A n c) :
    Calls Try.prog 12 #[.slice A n c] w (CutC w) := by
  have h1 := h.below (below1 w (.cells #[.string ⟨#[]⟩, .int .i64 0] 26))
  have hsb := SB.new w ⟨#[]⟩ 0
  have H1 := Lib.hid h1
  have Hsb := Lib.hid hsb
  clear h h1 hsb
  go_enter Try.func12, Try.ntmps12
  go_wp2_with fail
  refine (open_any A n c _ H1.out).mono ?_
  rintro e w1 ⟨rfl, hrd, hb1⟩
  have Hres1 := Lib.hid (Hsb.out.below hb1)
  have Hf1 := Lib.hid ((below1 w (.cells #[.string ⟨#[]⟩, .int .i64 0] 26)).trans (hb1.mono (by simp)))
  rw [World.size_alloc] at hrd
  have Hrd := Lib.hid hrd
  have hz1 : w.heap.size + 1 ≤ w1.heap.size := by have := hb1.size; simpa using this
  clear hrd hb1 Hsb H1
  go_wp2_with fail
  refine (once_any _ _ 3 _ Hrd.out (by omega) (by omega)).mono ?_
  rintro e w2 ⟨q, rfl, ⟨b, rfl⟩, hrd2, hgr2⟩
  have Hrd2 := Lib.hid hrd2
  have Hres2 := Lib.hid (Hres1.out.grown hgr2 (by intro he; injection he with he; omega))
  have Hf2 := Lib.hid (Hf1.out.grown hgr2 (by omega) (fun k hk => by injection hk with hk; omega))
  have hz2 : w.heap.size + 1 < w2.heap.size := Rd.lt hrd2
  clear hrd2 hgr2 Hrd Hres1 Hf1 hz1
  cases b with
  | true =>
    go_wp2_with fail
    refine (few_any _ _ 60 _ Hrd2.out (by omega) (by omega)).mono ?_
    rintro e w3 ⟨v, rfl, ⟨s, N, rfl, hs, hN0, hN1⟩, hrd3, hgr3⟩
    have Hrd3 := Lib.hid hrd3
    have Hres3 := Lib.hid (Hres2.out.grown hgr3 (by intro he; injection he with he; omega))
    have Hf3 := Lib.hid (Hf2.out.grown hgr3 (by omega) (fun k hk => by injection hk with hk; omega))
    have hz3 : w.heap.size + 1 < w3.heap.size := Rd.lt hrd3
    clear hrd3 hgr3 Hrd2 Hres2 Hf2 hz2
    go_wp2_with fail
    refine (off_any _ _ 0 8 _ Hrd3.out (by omega) (by omega) (by omega) (by omega)).mono ?_
    rintro e w4 ⟨v, rfl, ⟨x, rfl, hx0, hx1⟩, hrd4, hgr4⟩
    have Hres4 := Lib.hid (Hres3.out.grown hgr4 (by intro he; injection he with he; omega))
    have Hf4 := Lib.hid (Hf3.out.grown hgr4 (by omega) (fun k hk => by injection hk with hk; omega))
    have r0 := Hres4.out.c0
    have r1 := Hres4.out.c1
    have g0 := Hres4.out.f 0
    have g1 := Hres4.out.f 1
    clear hrd4 hgr4 Hrd3 Hres3 Hf3
    go_wp2_with fail
    apply bodyPost_ret
    · simp [results, Try.results12, go_sem, r0, r1]; rfl
    · rfl
    · exact ⟨s, N, _, rfl, by omega, ⟨hN0, hN1⟩, ⟨hx0, hx1⟩, (Hf4.out.setCell (by simp) _).setCell (by simp) _⟩
  | false =>
    go_wp2_with fail
    refine (few_any _ _ 5 _ Hrd2.out (by omega) (by omega)).mono ?_
    rintro e w3 ⟨v, rfl, ⟨s, N, rfl, hs, hN0, hN1⟩, hrd3, hgr3⟩
    have Hrd3 := Lib.hid hrd3
    have Hres3 := Lib.hid (Hres2.out.grown hgr3 (by intro he; injection he with he; omega))
    have Hf3 := Lib.hid (Hf2.out.grown hgr3 (by omega) (fun k hk => by injection hk with hk; omega))
    have hz3 : w.heap.size + 1 < w3.heap.size := Rd.lt hrd3
    clear hrd3 hgr3 Hrd2 Hres2 Hf2 hz2
    go_wp2_with fail
    refine (delta_any _ _ _ Hrd3.out).mono ?_
    rintro e w4 ⟨v, rfl, ⟨d, rfl, hd0, hd1⟩, hrd4, hgr4⟩
    have Hrd4 := Lib.hid hrd4
    have Hres4 := Lib.hid (Hres3.out.grown hgr4 (by intro he; injection he with he; omega))
    have Hf4 := Lib.hid (Hf3.out.grown hgr4 (by omega) (fun k hk => by injection hk with hk; omega))
    have hz4 : w.heap.size + 1 < w4.heap.size := Rd.lt hrd4
    clear hrd4 hgr4 Hrd3 Hres3 Hf3 hz3
    go_wp2_with fail
    refine (specCodeOf_any d _).mono ?_
    rintro e w5 ⟨rfl, hb5⟩
    have Hrd5 := Lib.hid (Hrd4.out.below hb5)
    have Hres5 := Lib.hid (Hres4.out.below hb5)
    have Hf5 := Lib.hid (Hf4.out.trans (hb5.mono (by omega)))
    have hz5 : w.heap.size + 1 < w5.heap.size := by have := hb5.size; omega
    have ht : (⟨(BM.pack (codeB d)).toArray⟩ : ByteArray).size ≤ 127 := by rw [qg_pack_size]; have := codeB_le d; omega
    clear hb5 Hrd4 Hres4 Hf4 hz4
    obtain ⟨hj1, hj2⟩ := join_small s N ⟨(BM.pack (codeB d)).toArray⟩ ((codeB d).length : Int) hs ht
    have HJ := Lib.hid (fun W => specJoined_any s N ⟨(BM.pack (codeB d)).toArray⟩ ((codeB d).length : Int) W (by unfold maxLen; omega) (by unfold maxLen; omega))
    generalize joinB s N ⟨(BM.pack (codeB d)).toArray⟩ ((codeB d).length : Int) = jb at *
    generalize joinS s N ⟨(BM.pack (codeB d)).toArray⟩ ((codeB d).length : Int) = js at *
    generalize joinN s N ⟨(BM.pack (codeB d)).toArray⟩ ((codeB d).length : Int) = jn at *
    generalize (⟨(BM.pack (codeB d)).toArray⟩ : ByteArray) = t at *
    generalize ((codeB d).length : Int) = M at *
    go_wp2_with fail
    refine (HJ.out _).mono ?_
    rintro e w6 ⟨rfl, hb6⟩
    have hz6 := hb6.size
    have HD := Lib.hid (show SB (w6.alloc (.cells #[.string js, .int .i64 jn] 26)) w.heap.size ⟨#[]⟩ 0 ∧ SB (w6.alloc (.cells #[.string js, .int .i64 jn] 26)) w6.heap.size js jn ∧
        Rd (w6.alloc (.cells #[.string js, .int .i64 jn] 26)) (w.heap.size + 1) (w.heap.size + 1) ∧ Below w.heap.size w (w6.alloc (.cells #[.string js, .int .i64 jn] 26)) from
      ⟨(Hres5.out.below hb6).below (below1 _ _), SB.new _ _ _, (Hrd5.out.below hb6).alloc _, (Hf5.out.trans (hb6.mono (by omega))).trans ((below1 _ _).mono (by omega))⟩)
    have hlt6 : w.heap.size + 1 < w6.heap.size := by omega
    clear hb6 Hrd5 Hres5 Hf5
    go_wp2_with fail
    generalize w6.alloc (.cells #[.string js, .int .i64 jn] 26) = w7 at *
    generalize w6.heap.size = bb at *
    obtain ⟨D1, D2, D3, D4⟩ := HD.out
    have k0 := D2.c0
    have k1 := D2.c1
    clear D1 D2 D3 D4
    go_region_law (first
      | (go_simp; go_at_call 51; (refine (below_any (w.heap.size + 1) (w.heap.size + 1) 7 _ (by first | exact HD.out.2.2.1 | exact HD.out.2.2.1.drew) (by omega) (by omega)).mono ?_); rintro e W5 ⟨_, rfl, ⟨y, rfl, hy0, hy1⟩, hrdX, hgrX⟩; have HDY : SB W5 w.heap.size ⟨#[]⟩ 0 ∧ SB W5 bb js jn ∧ Below w.heap.size w W5 := (by first | exact ⟨HD.out.1.grown hgrX (by intro he; injection he with he; omega), HD.out.2.1.grown hgrX (by intro he; injection he with he; omega), HD.out.2.2.2.grown hgrX HD.out.2.2.2.size (fun k hk => by injection hk with hk; omega)⟩ | exact ⟨HD.out.1.drew.grown hgrX (by intro he; injection he with he; omega), HD.out.2.1.drew.grown hgrX (by intro he; injection he with he; omega), HD.out.2.2.2.drew.grown hgrX HD.out.2.2.2.size (fun k hk => by injection hk with hk; omega)⟩); have HF := Lib.hid HDY.2.2; have k0 := HDY.2.1.c0; have k1 := HDY.2.1.c1; have r0 := HDY.1.c0; have r1 := HDY.1.c1; have g0 := HDY.1.f 0; have g1 := HDY.1.f 1; clear hrdX hgrX HDY))
    all_goals
      have hF := HF.out
      clear HF
      go_wp2_with fail
      apply bodyPost_ret
      · simp [results, Try.results12, go_sem, r0, r1]; rfl
      · rfl
      · exact ⟨js, jn, _, rfl, hj1, hj2, by unfold Rng; omega, (hF.setCell (by simp) _).setCell (by simp) _⟩
end Go.Proofs.Ytbgogpfhdfgjeaa

/- What the code's reader gives of a code, and that what it reads is the code of what it gives. -/
set_option linter.unusedVariables false
set_option linter.unusedSimpArgs false
namespace Go.Proofs.Ytbgogpfhdfgjeaa
open Go.RowKit

theorem numL_mid (A C : List Bool) (v n : Nat) (hv : v < 2 ^ n) : numL (A ++ (BM.digits v n ++ C)) A.length n = v := by
  unfold numL
  rw [← BM.ofBits_testBit v n hv]
  rw [BM.ofBits_testBit v n hv]
  refine Eq.trans (BM.ofBits_congr (g := fun i => v.testBit (n - 1 - i)) fun i hi => ?_) (BM.ofBits_testBit v n hv)
  simp only [List.getD_eq_getElem?_getD]
  rw [List.getElem?_append_right (by omega), Nat.add_sub_cancel_left, List.getElem?_append_left (by rw [BM.digits_length]; exact hi)]
  have h := BM.digits_getD v n i
  rw [if_pos hi, List.getD_eq_getElem?_getD] at h
  exact h
theorem bit_at (A C : List Bool) (b : Bool) : numL (A ++ b :: C) A.length 1 = b.toNat := by
  have h := numL_mid A C b.toNat 1 (by cases b <;> decide)
  have e : BM.digits b.toNat 1 = [b] := by cases b <;> decide
  rw [e] at h
  simpa using h
theorem onesL_zero (m : Nat) : ∀ (j i : Nat) (A C : List Bool), onesL (A ++ (List.replicate j true ++ false :: C)) (j + 1 + m) i A.length = some (i + j, A.length + j + 1) := by
  intro j
  induction j with
  | zero =>
    intro i A C
    rw [show 0 + 1 + m = m + 1 by omega, onesL, if_pos (by simp)]
    rw [List.replicate_zero, List.nil_append, bit_at A C false, if_pos (by decide)]
    simp
  | succ j ih =>
    intro i A C
    have h := ih (i + 1) (A ++ [true]) C
    rw [List.replicate_succ, List.cons_append, show j + 1 + 1 + m = (j + 1 + m) + 1 by omega, onesL, if_pos (by simp), bit_at A _ true, if_neg (by decide)]
    simp only [List.append_assoc, List.singleton_append, List.length_append, List.length_cons, List.length_nil, Nat.zero_add] at h
    rw [h]
    simp; omega
theorem onesL_all : ∀ (j i : Nat) (A C : List Bool), onesL (A ++ (List.replicate j true ++ C)) j i A.length = some (i + j, A.length + j) := by
  intro j
  induction j with
  | zero => intro i A C; rfl
  | succ j ih =>
    intro i A C
    have h := ih (i + 1) (A ++ [true]) C
    rw [List.replicate_succ, List.cons_append, onesL, if_pos (by simp), bit_at A _ true, if_neg (by decide)]
    simp only [List.append_assoc, List.singleton_append, List.length_append, List.length_cons, List.length_nil, Nat.zero_add] at h
    rw [h]
    simp; omega
theorem codeB_eq {d : Int} (hs : stepB d = true) : codeB d = codeL d := by unfold codeB; rw [hs]; rfl
theorem getL_code {d : Int} (hs : stepB d = true) (A C : List Bool) : getL (A ++ (codeL d ++ C)) A.length = some (d, A.length + (codeL d).length) := by
  have lim := stepB_iff.1 hs
  have key : ∀ (i : Nat) (pre : List Bool), codeL d = pre ++ BM.digits (u64of (d + offI i)) (bitsI i) → onesL (A ++ (codeL d ++ C)) 4 0 A.length = some (i, A.length + pre.length) → 0 ≤ d + offI i → d + offI i < (2 ^ bitsI i : Nat) → bitsI i ≤ 42 →
      getL (A ++ (codeL d ++ C)) A.length = some (d, A.length + (codeL d).length) := by
    intro i pre h hones h0 h1 hle
    have hu : u64of (d + offI i) = (d + offI i).toNat := by
      have : (2 : Nat) ^ bitsI i ≤ 2 ^ 42 := Nat.pow_le_pow_right (by omega) hle
      unfold u64of; omega
    have hn : numL (A ++ (codeL d ++ C)) (A.length + pre.length) (bitsI i) = (d + offI i).toNat := by
      have hm := numL_mid (A ++ pre) C (u64of (d + offI i)) (bitsI i) (by rw [hu]; omega)
      rw [List.length_append] at hm
      rw [h, List.append_assoc pre, ← List.append_assoc A, hm, hu]
    have hl : (codeL d).length = pre.length + bitsI i := by rw [h, List.length_append, BM.digits_length]
    have hd : ((d + offI i).toNat : Int) - offI i = d := by omega
    unfold getL
    rw [hones]
    simp only
    rw [hn, hd, codeB_eq hs, if_pos (by simp [hl]; omega), if_pos (by rw [hl]; omega), hl]
    simp; omega
  have hc : codeL d = if d = 0 then [false]
      else if -63 ≤ d ∧ d ≤ 64 then [true, false] ++ BM.digits (u64of (d + 63)) 7
      else if -255 ≤ d ∧ d ≤ 256 then [true, true, false] ++ BM.digits (u64of (d + 255)) 9
      else if -2047 ≤ d ∧ d ≤ 2048 then [true, true, true, false] ++ BM.digits (u64of (d + 2047)) 12
      else [true, true, true, true] ++ BM.digits (u64of (d + 2199023255552)) 42 := rfl
  split at hc
  · refine key 0 [false] (by rw [hc]; rfl) ?_ (by simp [offI]; omega) (by simp [offI, bitsI]; omega) (by decide)
    rw [hc]; exact (onesL_zero 3 0 0 A _).trans (by simp)
  · split at hc
    · refine key 1 [true, false] hc ?_ (by simp [offI]; omega) (by simp [offI, bitsI]; omega) (by decide)
      rw [hc]; exact (onesL_zero 2 1 0 A _).trans (by simp)
    · split at hc
      · refine key 2 [true, true, false] hc ?_ (by simp [offI]; omega) (by simp [offI, bitsI]; omega) (by decide)
        rw [hc]; exact (onesL_zero 1 2 0 A _).trans (by simp)
      · split at hc
        · refine key 3 [true, true, true, false] hc ?_ (by simp [offI]; omega) (by simp [offI, bitsI]; omega) (by decide)
          rw [hc]; exact (onesL_zero 0 3 0 A _).trans (by simp)
        · refine key 4 [true, true, true, true] hc ?_ (by simp [offI]; omega) (by simp [offI, bitsI]; omega) (by decide)
          rw [hc]; exact (onesL_all 4 0 A _).trans (by simp)

theorem numL_bit (L : List Bool) (p : Nat) (hp : p < L.length) : numL L p 1 = (L[p]'hp).toNat := by
  have e : L.getD p false = L[p] := by simp [List.getD_eq_getElem?_getD, hp]
  have h := BM.digits_ofBits (fun j => L.getD (p + j) false) 1
  unfold numL
  have hl := BM.ofBits_lt (fun j => L.getD (p + j) false) 1
  generalize hv : BM.ofBits (fun j => L.getD (p + j) false) 1 = v at *
  have hv2 : v = 0 ∨ v = 1 := by omega
  have h' : (BM.digits v 1) = [L[p]] := by rw [h]; simp [e, hp]
  rcases hv2 with rfl | rfl
  · have : [false] = [L[p]] := h'
    injection this with t
    rw [← t]; rfl
  · have : [true] = [L[p]] := h'
    injection this with t
    rw [← t]; rfl
theorem take_digits (L : List Bool) (r n : Nat) (h : r + n ≤ L.length) : (L.drop r).take n = BM.digits (numL L r n) n := by
  unfold numL
  rw [BM.digits_ofBits]
  apply List.ext_getElem?
  intro j
  by_cases hj : j < n
  · rw [List.getElem?_take, if_pos hj, List.getElem?_drop, List.getElem?_map, List.getElem?_range hj]
    simp [List.getD_eq_getElem?_getD, show r + j < L.length by omega]
  · rw [List.getElem?_take, if_neg hj, List.getElem?_eq_none (by simp; omega)]
theorem drop_cons_at (L : List Bool) (p : Nat) (hp : p < L.length) : L.drop p = L[p] :: L.drop (p + 1) := List.drop_eq_getElem_cons hp
theorem onesL_conv (L : List Bool) : ∀ (k i p j r : Nat), onesL L k i p = some (j, r) → p ≤ L.length →
    i ≤ j ∧ j ≤ i + k ∧ r ≤ L.length ∧ L.drop p = (if j = i + k then List.replicate k true else List.replicate (j - i) true ++ [false]) ++ L.drop r ∧ r = p + (if j = i + k then k else j - i + 1) := by
  intro k
  induction k with
  | zero =>
    intro i p j r h hp
    simp only [onesL, Option.some.injEq, Prod.mk.injEq] at h
    obtain ⟨rfl, rfl⟩ := h
    simp [hp]
  | succ k ih =>
    intro i p j r h hp
    rw [onesL] at h
    split at h
    · rename_i hlt
      have hp' : p < L.length := by omega
      rw [numL_bit L p hp'] at h
      have hd := drop_cons_at L p hp'
      generalize L[p] = b at *
      cases b with
      | false =>
        rw [if_pos (by decide)] at h
        simp only [Option.some.injEq, Prod.mk.injEq] at h
        obtain ⟨rfl, rfl⟩ := h
        have hne : ¬ i = i + (k + 1) := by omega
        rw [if_neg hne, if_neg hne]
        exact ⟨Nat.le_refl _, by omega, by omega, by rw [hd]; simp, by omega⟩
      | true =>
        rw [if_neg (by decide)] at h
        obtain ⟨h1, h2, h3, h4, h5⟩ := ih (i + 1) (p + 1) j r h (by omega)
        refine ⟨by omega, by omega, h3, ?_, ?_⟩
        · rw [hd, h4]
          by_cases e : j = i + 1 + k
          · rw [if_pos e, if_pos (by omega)]; rfl
          · rw [if_neg e, if_neg (by omega), show j - i = (j - (i + 1)) + 1 by omega, List.replicate_succ]; rfl
        · by_cases e : j = i + 1 + k
          · rw [if_pos e] at h5; rw [if_pos (by omega)]; omega
          · rw [if_neg e] at h5; rw [if_neg (by omega)]; omega
    · cases h
theorem getL_conv {L : List Bool} {p q : Nat} {d : Int} (h : getL L p = some (d, q)) (hp : p ≤ L.length) :
    stepB d = true ∧ (L.drop p).take (q - p) = codeL d ∧ q = p + (codeL d).length ∧ q ≤ L.length := by
  unfold getL at h
  split at h
  · cases h
  · rename_i i r ho
    obtain ⟨_, hi, hr, hd, hrp⟩ := onesL_conv L 4 0 p i r ho hp
    split at h
    · rename_i hle
      split at h
      · rename_i hlen
        simp only [Option.some.injEq, Prod.mk.injEq] at h
        obtain ⟨rfl, rfl⟩ := h
        have ht := take_digits L r (bitsI i) hle
        have hv : numL L r (bitsI i) < 2 ^ bitsI i := BM.ofBits_lt _ _
        generalize numL L r (bitsI i) = V at *
        have hpos : (codeB ((V : Int) - offI i)).length ≠ 0 := by
          rw [hlen]
          split at hrp <;> omega
        have hst : stepB ((V : Int) - offI i) = true := by
          unfold codeB at hpos
          cases hs : stepB ((V : Int) - offI i) with
          | true => rfl
          | false => rw [hs] at hpos; simp at hpos
        have hcb : codeB ((V : Int) - offI i) = codeL ((V : Int) - offI i) := by unfold codeB; rw [hst]; rfl
        rw [hcb] at hlen
        have hcode : codeL ((V : Int) - offI i) = (if i = 0 + 4 then List.replicate 4 true else List.replicate (i - 0) true ++ [false]) ++ BM.digits V (bitsI i) := by
          have hi5 : i = 0 ∨ i = 1 ∨ i = 2 ∨ i = 3 ∨ i = 4 := by omega
          clear ht hd hcb hst hpos hle ho hr
          rcases hi5 with rfl | rfl | rfl | rfl | rfl
          all_goals
            simp only [bitsI, offI] at *
            simp at hrp
            unfold codeL at hlen ⊢
            split at hlen
            all_goals try split at hlen
            all_goals try split at hlen
            all_goals try split at hlen
            all_goals simp [BM.digits_length] at hlen
            all_goals first
              | (exfalso; omega)
              | skip
          · rw [if_pos (by assumption)]; rfl
          · rw [if_neg (by assumption), if_pos (by assumption), show u64of ((V : Int) - 63 + 63) = V by unfold u64of; omega]; rfl
          · rw [if_neg (by assumption), if_neg (by assumption), if_pos (by assumption), show u64of ((V : Int) - 255 + 255) = V by unfold u64of; omega]; rfl
          · rw [if_neg (by assumption), if_neg (by assumption), if_neg (by assumption), if_pos (by assumption), show u64of ((V : Int) - 2047 + 2047) = V by unfold u64of; omega]; rfl
          · rw [if_neg (by assumption), if_neg (by assumption), if_neg (by assumption), if_neg (by assumption), show u64of ((V : Int) - 2199023255552 + 2199023255552) = V by unfold u64of; omega]; rfl
        refine ⟨hst, ?_, ?_, hle⟩
        · rw [hcode, hd]
          have hpl : (if i = 0 + 4 then List.replicate 4 true else List.replicate (i - 0) true ++ [false]).length = r - p := by
            split at hrp
            · rename_i e; rw [if_pos e]; simp; omega
            · rename_i e; rw [if_neg e]; simp; omega
          have hrp' : p ≤ r := by split at hrp <;> omega
          generalize (if i = 0 + 4 then List.replicate 4 true else List.replicate (i - 0) true ++ [false]) = pre at *
          rw [show r + bitsI i - p = pre.length + bitsI i by omega, List.take_length_add_append, ht]
        · rw [hlen]; split at hrp <;> omega
      · cases h
    · cases h
end Go.Proofs.Ytbgogpfhdfgjeaa

/- Plain facts on codes: their lengths, a code in front, the part that was read. -/
set_option linter.unusedVariables false
set_option linter.unusedSimpArgs false
namespace Go.Proofs.Ytbgogpfhdfgjeaa
open Go.RowKit

theorem codeL_length (d : Int) : (codeL d).length = if d = 0 then 1 else if -63 ≤ d ∧ d ≤ 64 then 9 else if -255 ≤ d ∧ d ≤ 256 then 12 else if -2047 ≤ d ∧ d ≤ 2048 then 16 else 46 := by
  unfold codeL
  repeat' split
  all_goals simp [BM.digits_length]
theorem tdiv_two (d : Int) : (0 ≤ d → 0 ≤ Int.tdiv d 2 ∧ Int.tdiv d 2 ≤ d ∧ (Int.tdiv d 2 = d → d = 0)) ∧ (d < 0 → d ≤ Int.tdiv d 2 ∧ Int.tdiv d 2 ≤ 0) := by
  constructor
  · intro h
    rw [Int.tdiv_eq_ediv_of_nonneg h]; omega
  · intro h
    have e : Int.tdiv d 2 = -((-d) / 2) := by
      have h1 := Int.neg_tdiv (-d) 2
      rw [Int.neg_neg] at h1
      rw [h1, Int.tdiv_eq_ediv_of_nonneg (by omega)]
    rw [e]; omega
theorem half_len (d : Int) : stepB d = true → (codeB (Int.tdiv d 2)).length ≤ (codeB d).length := by
  intro h
  have lim := stepB_iff.1 h
  have ht := tdiv_two d
  have hs : stepB (Int.tdiv d 2) = true := stepB_iff.2 (by omega)
  rw [codeB_eq h, codeB_eq hs, codeL_length, codeL_length]
  repeat' split
  all_goals omega
theorem one_len {d : Int} (h : stepB d = true) : ((codeB d).length = 1) ↔ d = 0 := by
  rw [codeB_eq h, codeL_length]
  repeat' split
  all_goals omega
theorem code_none {d : Int} (h : (codeB d).length = 0) : stepB d = false := by
  cases hs : stepB d with
  | false => rfl
  | true => rw [codeB_eq hs] at h; have := codeL_pos d; omega
theorem code_some {d : Int} (h : ¬ (codeB d).length = 0) : stepB d = true := by
  cases hs : stepB d with
  | true => rfl
  | false => exfalso; apply h; unfold codeB; rw [hs]; rfl
theorem qh_pack_list (l : List Bool) : (ByteArray.mk (BM.pack l).toArray).data.toList = BM.pack l := by simp
theorem qh_okB_pack (l : List Bool) (h : l.length ≤ 20000) : okB ⟨(BM.pack l).toArray⟩ (l.length : Int) = true := by
  unfold okB
  apply decide_eq_true
  refine ⟨by omega, by omega, ?_, ?_⟩
  · have h1 : (ByteArray.mk (BM.pack l).toArray).size = (BM.pack l).length := List.size_toArray
    rw [h1, BM.pack_length]; unfold BM.bytesOf; omega
  · rw [Int.toNat_natCast, qh_pack_list, BM.listOf_pack]
def rvO (s : ByteArray) (N a : Int) : Option (Int × Nat) := if hasB s N a 0 = true then getL (BM.listOf s.data.toList N.toNat) a.toNat else none
theorem readV_o (s : ByteArray) (N a : Int) : readV s N a = readT (rvO s N a) := by
  unfold readV rvO; split <;> rfl
/-- what was read is the part of the bits where it was read -/
theorem part_read {s : ByteArray} {N a : Int} {d : Int} {q : Nat} (h : rvO s N a = some (d, q)) :
    0 ≤ a ∧ a ≤ (q : Int) ∧ (q : Int) ≤ 20000 ∧ partS s N a ((q : Int) - a) = ⟨(BM.pack (codeB d)).toArray⟩ ∧ partN s N a ((q : Int) - a) = ((codeB d).length : Int) := by
  unfold rvO at h
  split at h
  · rename_i hb
    have hb' := hb
    unfold hasB at hb'
    simp only [Bool.and_eq_true, decide_eq_true_eq] at hb'
    obtain ⟨hok, _, h1, h2⟩ := hb'
    obtain ⟨f0, f1, _, _⟩ := okB_facts hok
    obtain ⟨hst, hd, hq, hle⟩ := getL_conv h (by rw [BM.listOf_length]; omega)
    rw [BM.listOf_length] at hle
    have hcb := codeB_eq hst
    have hp : hasB s N a ((q : Int) - a) = true := by
      unfold hasB
      rw [hok, Bool.true_and, decide_eq_true_iff]
      omega
    refine ⟨h1, by omega, by omega, ?_, ?_⟩
    · unfold partS partL
      rw [hp, if_pos rfl, hcb, ← hd]
      rw [show ((q : Int) - a).toNat = q - a.toNat by omega]
    · unfold partN
      rw [hp, if_pos rfl, hcb]; omega
  · cases h
/-- a code in front of other bits is read -/
theorem read_front {d : Int} (h : stepB d = true) {s : ByteArray} {N : Int} (hj : joinB ⟨(BM.pack (codeB d)).toArray⟩ ((codeB d).length : Int) s N = true) :
    rvO (joinS ⟨(BM.pack (codeB d)).toArray⟩ ((codeB d).length : Int) s N) (joinN ⟨(BM.pack (codeB d)).toArray⟩ ((codeB d).length : Int) s N) 0 = some (d, (codeB d).length) := by
  have hj' := hj
  unfold joinB at hj'
  simp only [Bool.and_eq_true, decide_eq_true_eq] at hj'
  obtain ⟨_, h2, h3⟩ := hj'
  obtain ⟨f0, f1, _, _⟩ := okB_facts h2
  have hjl : joinL ⟨(BM.pack (codeB d)).toArray⟩ ((codeB d).length : Int) s N = codeL d ++ BM.listOf s.data.toList N.toNat := by
    unfold joinL
    rw [qh_pack_list, Int.toNat_natCast, BM.listOf_pack, codeB_eq h]
  have hlen : (joinL ⟨(BM.pack (codeB d)).toArray⟩ ((codeB d).length : Int) s N).length = ((codeB d).length + N).toNat := by
    rw [hjl, List.length_append, BM.listOf_length, ← codeB_eq h]; omega
  unfold joinS joinN rvO
  rw [hj, if_pos rfl, if_pos rfl]
  have hN : ((codeB d).length : Int) + N = ((joinL ⟨(BM.pack (codeB d)).toArray⟩ ((codeB d).length : Int) s N).length : Int) := by rw [hlen]; omega
  have hle : (joinL ⟨(BM.pack (codeB d)).toArray⟩ ((codeB d).length : Int) s N).length ≤ 20000 := by rw [hlen]; omega
  rw [hN]
  have hb : hasB ⟨(BM.pack (joinL ⟨(BM.pack (codeB d)).toArray⟩ ((codeB d).length : Int) s N)).toArray⟩ ((joinL ⟨(BM.pack (codeB d)).toArray⟩ ((codeB d).length : Int) s N).length : Int) 0 0 = true := by
    unfold hasB
    rw [qh_okB_pack _ hle, Bool.true_and, decide_eq_true_iff]; omega
  rw [if_pos hb, qh_pack_list, Int.toNat_natCast, BM.listOf_pack, hjl]
  have := getL_code h [] (BM.listOf s.data.toList N.toNat)
  simpa [codeB_eq h] using this
theorem join_lim (s : ByteArray) (N : Int) (t : ByteArray) (M : Int) : (joinS s N t M).size ≤ 2501 := by
  unfold joinS
  cases h : joinB s N t M with
  | false => rw [if_neg (by decide)]; decide
  | true =>
    have h' := h
    unfold joinB at h'
    simp only [Bool.and_eq_true, decide_eq_true_eq] at h'
    obtain ⟨h1, h2, h3⟩ := h'
    obtain ⟨a0, a1, a2, _⟩ := okB_facts h1
    obtain ⟨b0, b1, b2, _⟩ := okB_facts h2
    rw [if_pos rfl]
    have e : (ByteArray.mk (BM.pack (joinL s N t M)).toArray).size = (BM.pack (joinL s N t M)).length := List.size_toArray
    rw [e, BM.pack_length]
    unfold BM.bytesOf joinL
    rw [List.length_append, BM.listOf_length, BM.listOf_length]
    omega
end Go.Proofs.Ytbgogpfhdfgjeaa

/- Walks: big; the drawn code as it came in. -/
set_option linter.unusedVariables false
set_option linter.unusedSimpArgs false
namespace Go.Proofs.Ytbgogpfhdfgjeaa
open Go.RowKit

set_option maxRecDepth 100000 in
set_option maxHeartbeats 400000 in
theorem big_any (A : Option Addr) (n c : Nat) (w : World) :
    Calls Try.prog 9 #[.slice A n c] w fun e w' => e = .returned (.bool (decide (1048576 < (n : Int)))) ∧ w = w' := by
  go_enter Try.func9, Try.ntmps9
  go_wp2
  go_ret
  exact ⟨rfl, rfl⟩

theorem codeAt_of (x : Addr) (n c : Nat) (zs : List Int) (w : World) (hn : n ≤ 1048576) (hl : n ≤ c) (hz : zs.length = c)
    (hcell : ∀ i, i < zs.length → w.cell? (x.add i) = some (.int .u8 (zs.getD i 0))) (hwz : ∀ k ∈ zs, (Lit.int .u8 k).wf = true) : CodeAt w (some x) n c := by
  refine ⟨hn, hl, ?_⟩
  by_cases h0 : n = 0
  · exact .inl h0
  · right
    obtain ⟨b, off, spot⟩ := x
    have hc := hcell 0 (by omega)
    have hspot : spot = none := by simpa [Addr.add] using World.cell?_spot hc
    subst hspot
    refine ⟨b, off, rfl, ?_, fun j hj => ?_⟩
    · have h1 : w.cell? ⟨b, off, none⟩ = some (.int .u8 (zs.getD 0 0)) := by simpa [Addr.add] using hc
      exact World.block_lt_of_cell? w _ h1
    · have hj' : j < zs.length := by omega
      have h2 := hcell j hj'
      have hadd : (⟨b, off, none⟩ : Addr).add j = ⟨b, off + j, none⟩ := by unfold Addr.add; split <;> simp_all
      rw [hadd] at h2
      have hm : zs.getD j 0 ∈ zs := by
        rw [List.getD_eq_getElem?_getD, List.getElem?_eq_getElem hj']; exact List.getElem_mem hj'
      have hb := bounds_u8 (hwz _ hm)
      refine ⟨(zs.getD j 0).toNat, by omega, ?_⟩
      rw [h2, show (((zs.getD j 0).toNat : Nat) : Int) = zs.getD j 0 by omega]

end Go.Proofs.Ytbgogpfhdfgjeaa

/- Walks: the law FnCodes. -/
set_option linter.unusedVariables false
set_option linter.unusedSimpArgs false
namespace Go.Proofs.Ytbgogpfhdfgjeaa
open Go.RowKit

/-- the block of the code, the block of the drawn bits -/
structure CQ (w : World) (gc gb : Nat) (cs : ByteArray) (cn : Int) (s : ByteArray) (N : Int) (W : World) : Prop where
  c : SB W gc cs cn
  b : SB W gb s N
  f : Below w.heap.size w W
theorem CQ.next {w : World} {gc gb : Nat} {cs s : ByteArray} {cn N : Int} {W W' : World} (h : CQ w gc gb cs cn s N W) (hb : Below W.heap.size W W') : CQ w gc gb cs cn s N W' :=
  ⟨h.c.below hb, h.b.below hb, h.f.trans (hb.mono h.f.size)⟩
theorem CQ.drew {w : World} {gc gb : Nat} {cs s : ByteArray} {cn N : Int} {W : World} (h : CQ w gc gb cs cn s N W) : CQ w gc gb cs cn s N W.drew := ⟨h.c.drew, h.b.drew, h.f.drew⟩

/-- the state, with the code's cells -/
def CS (w : World) (gc gb : Nat) (cs : ByteArray) (cn : Int) (s : ByteArray) (N : Int) (W : World) : Prop :=
  CQ w gc gb cs cn s N W ∧ W.cell? ⟨gc, 0, none⟩ = some (.string cs) ∧ W.cell? ⟨gc, 1, none⟩ = some (.int .i64 cn)
theorem CS.of {w : World} {gc gb : Nat} {cs s : ByteArray} {cn N : Int} {W : World} (h : CQ w gc gb cs cn s N W) : CS w gc gb cs cn s N W := ⟨h, h.c.c0, h.c.c1⟩

/-- the state, with the part's block and its cells -/
def CP (w : World) (gc gb : Nat) (cs : ByteArray) (cn : Int) (s : ByteArray) (N : Int) (gp : Nat) (sx : ByteArray) (Lx : Int) (W : World) : Prop :=
  CQ w gc gb cs cn s N W ∧ SB W gp sx Lx ∧ W.cell? ⟨gp, 0, none⟩ = some (.string sx) ∧ W.cell? ⟨gp, 1, none⟩ = some (.int .i64 Lx)
theorem CP.of {w : World} {gc gb gp : Nat} {cs s sx : ByteArray} {cn N Lx : Int} {W : World} (h : CQ w gc gb cs cn s N W) (k : SB W gp sx Lx) : CP w gc gb cs cn s N gp sx Lx W := ⟨h, k, k.c0, k.c1⟩

set_option maxRecDepth 100000 in
set_option maxHeartbeats 8000000 in
theorem walkFnCodes (A : Option Addr) (n c : Nat) (w : World) (h : n ≤ 1048576 → CodeAt w A n c) :
    Calls Try.prog 3 #[.slice A n c] w fun e w' => e = .returned (.bool true) ∧ Below w.heap.size w w' := by
  have hbig := fun W => big_any A n c W
  by_cases hn : n ≤ 1048576
  · have H := Lib.hid (h hn)
    have hd : decide (1048576 < (n : Int)) = false := by simp; omega
    rw [hd] at hbig
    have Hbig := Lib.hid hbig
    clear hbig hd h
    go_enter Try.func3, Try.ntmps3
    go_wp2_with fail
    refine (Hbig.out _).mono ?_
    rintro e w' ⟨rfl, rfl⟩
    go_wp2_with fail
    refine (DrawCodeOf_any A n c _ H.out).mono ?_
    rintro e w1 ⟨⟨d, rfl, hd0, hd1⟩, hb1⟩
    have C1 := Lib.hid (H.out.below hb1)
    have B1 := Lib.hid hb1
    clear hb1 H
    have hcl := codeB_le d
    have hcs : (⟨(BM.pack (codeB d)).toArray⟩ : ByteArray).size ≤ 127 := by rw [qg_pack_size]; omega
    have HI := Lib.hid (fun W => implCodeOf_any d W)
    have HS := Lib.hid (fun W => specCodeOf_any d W)
    have HRF := Lib.hid (fun (hs : stepB d = true) s N => @read_front d hs s N)
    have HJ := Lib.hid (fun s N W hs ht => implJoined_any ⟨(BM.pack (codeB d)).toArray⟩ ((codeB d).length : Int) s N W hs ht)
    have HL0 := Lib.hid (@code_none d)
    have HL1 := Lib.hid (@code_some d)
    have HH := Lib.hid (half_len d)
    have H1 := Lib.hid (@one_len d)
    have HF2 := Lib.hid (fun W => implCodeOf_any (Int.tdiv d 2) W)
    generalize (codeB d).length = L at *
    generalize (⟨(BM.pack (codeB d)).toArray⟩ : ByteArray) = cs at *
    go_wp2_with fail
    refine (HI.out _).mono ?_
    rintro e w2 ⟨rfl, hb2⟩
    have ha : Below w2.heap.size w2 (w2.alloc (.cells #[.string cs, .int .i64 (L : Int)] 26)) := below1 w2 _
    have C2 := Lib.hid ((C1.out.below hb2).below ha)
    have B2 := Lib.hid ((B1.out.trans (hb2.mono B1.out.size)).trans (ha.mono (B1.out.trans (hb2.mono B1.out.size)).size))
    have S2 := Lib.hid (SB.new w2 cs (L : Int))
    clear hb2 ha C1 B1
    go_wp2_with fail
    generalize w2.alloc (.cells #[.string cs, .int .i64 (L : Int)] 26) = w3 at *
    generalize w2.heap.size = gc at *
    refine (DrawReadCode_any A n c _ C2.out).mono ?_
    rintro e w4 ⟨s, N, a, rfl, hs, hN, hA, hb4⟩
    have hss : s.size ≤ maxLen := by unfold maxLen; omega
    have HQ := Lib.hid (show CQ w gc w4.heap.size cs (L : Int) s N (w4.alloc (.cells #[.string s, .int .i64 N] 26)) from
      ⟨(S2.out.below hb4).below (below1 _ _), SB.new _ _ _, (B2.out.trans (hb4.mono B2.out.size)).trans ((below1 _ _).mono (B2.out.trans (hb4.mono B2.out.size)).size)⟩)
    clear hb4 C2 B2 S2
    have hr1 := fun W => implReadCode_any s N a W hss
    have hr2 := fun W => specReadCode_any s N a W hss
    rw [readV_o] at hr1 hr2
    have HPR := Lib.hid (fun x q (h : rvO s N a = some (x, q)) => part_read h)
    have HRF2 := Lib.hid (fun hs => HRF.out hs s N)
    generalize rvO s N a = r at *
    have HR1 := Lib.hid hr1
    have HR2 := Lib.hid hr2
    clear hr1 hr2 HRF
    have b0 := HQ.out.b.c0
    have b1 := HQ.out.b.c1
    go_wp2_with fail
    generalize w4.alloc (.cells #[.string s, .int .i64 N] 26) = w5 at *
    generalize w4.heap.size = gb at *
    refine (HR1.out _).mono ?_
    rintro e w6 ⟨rfl, hb6⟩
    have HQ6 := Lib.hid (HQ.out.next hb6)
    clear hb6 HQ b0 b1
    have b0 := HQ6.out.b.c0
    have b1 := HQ6.out.b.c1
    have hs7 : s.size ≤ 1000 := hs
    have hs7 : s.size ≤ 1000 := hs
    cases r with
    | none =>
      unfold readT at HR2
      unfold readT
      go_wp2_with fail
      refine (HR2.out _).mono ?_
      rintro e w7 ⟨rfl, hb7⟩
      have HQ7 := Lib.hid (HQ6.out.next hb7)
      clear hb7 HQ6 b0 b1
      have b0 := HQ7.out.b.c0
      have b1 := HQ7.out.b.c1
      have c0 := HQ7.out.c.c0
      have c1 := HQ7.out.c.c1
      go_wp2_with fail
      clear b0 b1 c0 c1
      have hS0 : CS w gc gb cs (L : Int) s N w7 := CS.of HQ7.out
      clear HQ7
      unfold CS at hS0
      go_region_held3 (fun W => CQ w gc gb cs (L : Int) s N W ∧ W.cell? ⟨gc, 0, none⟩ = some (.string cs) ∧ W.cell? ⟨gc, 1, none⟩ = some (.int .i64 (L : Int)))
        (first | assumption | (exact CS.of (CQ.next (by assumption) (by assumption))) | (exact CS.of (CQ.next (And.left (by assumption)) (by assumption))) | (exact CS.of (CQ.drew (by assumption))) | (exact CS.of (CQ.drew (And.left (by assumption)))) | go_keep)
        (first | (go_at_call 15; (refine (HS.out _).mono ?_); rintro e W8 ⟨rfl, hb8⟩))
      rename_i hS8
      have HQ := Lib.hid hS8.1
      clear hS8 hS0
      have c0 := HQ.out.c.c0
      have c1 := HQ.out.c.c1
      have b0 := HQ.out.b.c0
      have b1 := HQ.out.b.c1
      by_cases hL : L = 0
      · have hz : ((L : Int) == 0) = true := by simp [hL]
        have hz2 : decide ((L : Int) = 0) = true := by simp [hL]
        go_wp2_with fail
        go_ret
        exact ⟨rfl, HQ.out.f⟩
      · have hz : ((L : Int) == 0) = false := by simp [hL]
        have hz2 : decide ((L : Int) = 0) = false := by simp [hL]
        have hst := HL1.out hL
        have hhf := HH.out hst
        have h1d := H1.out hst
        have hrf := HRF2.out hst
        have hjs := join_lim cs (L : Int) s N
        have HJ2 := Lib.hid (fun W => HJ.out s N W (by unfold maxLen; omega) hss)
        generalize joinB cs (L : Int) s N = jb at *
        generalize joinS cs (L : Int) s N = js at *
        generalize joinN cs (L : Int) s N = jn at *
        have hrj := fun W => implReadCode_any js jn 0 W (by unfold maxLen; omega)
        rw [readV_o] at hrj
        generalize rvO js jn 0 = rj at *
        obtain ⟨zv, qv, gv, hrT, hgv⟩ : ∃ zv qv gv, readT rj = .tuple #[.int .i64 zv, .int .i64 qv, .bool gv] ∧ (rj = some (d, L) → zv = d ∧ qv = (L : Int) ∧ gv = true) := by
          cases rj with
          | none => exact ⟨0, 0, false, rfl, fun h => by cases h⟩
          | some x => exact ⟨x.1, x.2, true, rfl, fun h => by cases h; exact ⟨rfl, rfl, rfl⟩⟩
        rw [hrT] at hrj
        have HRJ := Lib.hid hrj
        have HGV := Lib.hid (fun h => hgv (hrf h))
        have HHF := Lib.hid hhf
        have H1D := Lib.hid h1d
        have HJS := Lib.hid hjs
        clear hrj hrT hgv hrf hhf h1d hjs
        go_wp2_with fail
        refine (HJ2.out _).mono ?_
        rintro e wj ⟨rfl, hbj⟩
        have ha : Below wj.heap.size wj (wj.alloc (.cells #[.string js, .int .i64 jn] 26)) := below1 wj _
        have HQ2 := Lib.hid ((HQ.out.next hbj).next ha)
        have SJ := Lib.hid (SB.new wj js jn)
        clear hbj ha HQ c0 c1 b0 b1
        have j0 := SJ.out.c0
        have j1 := SJ.out.c1
        go_wp2_with fail
        refine (HRJ.out _).mono ?_
        rintro e wk ⟨rfl, hbk⟩
        have HQ3 := Lib.hid (HQ2.out.next hbk)
        clear hbk HQ2 SJ j0 j1
        go_wp2_with fail
        refine (HF2.out _).mono ?_
        rintro e wh ⟨rfl, hbh⟩
        have hhl := HHF.out
        generalize (codeB (Int.tdiv d 2)).length = Lh at *
        generalize (⟨(BM.pack (codeB (Int.tdiv d 2))).toArray⟩ : ByteArray) = sh at *
        have ha : Below wh.heap.size wh (wh.alloc (.cells #[.string sh, .int .i64 (Lh : Int)] 26)) := below1 wh _
        have HQ4 := Lib.hid ((HQ3.out.next hbh).next ha)
        have SH := Lib.hid (SB.new wh sh (Lh : Int))
        clear hbh ha HQ3
        have c0 := HQ4.out.c.c0
        have c1 := HQ4.out.c.c1
        have h0 := SH.out.c0
        have h1 := SH.out.c1
        have hle : decide ((Lh : Int) ≤ (L : Int)) = true := by simp; omega
        have hle2 : (Lh : Int) ≤ (L : Int) := by omega
        have h1i : ((L : Int) = 1) ↔ d = 0 := ⟨fun h => H1D.out.1 (by omega), fun h => by have := H1D.out.2 h; omega⟩
        have HQE := Lib.hid (show ((L : Int) == 1) = (d == 0) from by rw [Bool.eq_iff_iff, beq_iff_eq, beq_iff_eq]; exact h1i)
        clear h1i
        cases jb with
        | false =>
          go_wp2_with fail
          go_ret
          exact ⟨by simp [HQE.out], HQ4.out.f⟩
        | true =>
          obtain ⟨rfl, rfl, rfl⟩ := HGV.out rfl
          go_wp2_with fail
          go_ret
          exact ⟨by simp [HQE.out], HQ4.out.f⟩
    | some xq =>
      obtain ⟨x, q⟩ := xq
      obtain ⟨hp0, hp1, hp2, hpS, hpN⟩ := HPR.out x q rfl
      unfold readT at HR2
      unfold readT
      have hip := fun W => implPart_any s N a ((q : Int) - a) W hss (by omega)
      rw [hpS, hpN] at hip
      have HX := Lib.hid (fun W => implCodeOf_any x W)
      generalize (codeB x).length = Lx at *
      generalize (⟨(BM.pack (codeB x)).toArray⟩ : ByteArray) = sx at *
      generalize hasB s N a ((q : Int) - a) = pb at *
      have HIP := Lib.hid hip
      clear hip hpS hpN
      go_wp2_with fail
      refine (HR2.out _).mono ?_
      rintro e w7 ⟨rfl, hb7⟩
      have HQ7 := Lib.hid (HQ6.out.next hb7)
      clear hb7 HQ6 b0 b1
      have b0 := HQ7.out.b.c0
      have b1 := HQ7.out.b.c1
      have c0 := HQ7.out.c.c0
      have c1 := HQ7.out.c.c1
      go_wp2_with fail
      clear b0 b1 c0 c1
      have hS0 : CS w gc gb cs (L : Int) s N w7 := CS.of HQ7.out
      clear HQ7
      unfold CS at hS0
      go_region_held3 (fun W => CQ w gc gb cs (L : Int) s N W ∧ W.cell? ⟨gc, 0, none⟩ = some (.string cs) ∧ W.cell? ⟨gc, 1, none⟩ = some (.int .i64 (L : Int)))
        (first | assumption | (exact CS.of (CQ.next (by assumption) (by assumption))) | (exact CS.of (CQ.next (And.left (by assumption)) (by assumption))) | (exact CS.of (CQ.drew (by assumption))) | (exact CS.of (CQ.drew (And.left (by assumption)))) | go_keep)
        (first | (go_at_call 15; (refine (HS.out _).mono ?_); rintro e W8 ⟨rfl, hb8⟩))
      rename_i hS8
      have HQ := Lib.hid hS8.1
      clear hS8 hS0
      have b0 := HQ.out.b.c0
      have b1 := HQ.out.b.c1
      have e1 : wrap64 ((q : Int) - a) = (q : Int) - a := by unfold wrap64; omega
      go_wp2_with fail
      refine (HIP.out _).mono ?_
      rintro e wp ⟨rfl, hbp⟩
      have ha : Below wp.heap.size wp (wp.alloc (.cells #[.string sx, .int .i64 (Lx : Int)] 26)) := below1 wp _
      have HQp := Lib.hid ((HQ.out.next hbp).next ha)
      have SP := Lib.hid (SB.new wp sx (Lx : Int))
      clear hbp ha HQ b0 b1
      go_wp2_with fail
      generalize wp.alloc (.cells #[.string sx, .int .i64 (Lx : Int)] 26) = wq at *
      generalize wp.heap.size = gp at *
      have hS0 : CP w gc gb cs (L : Int) s N gp sx (Lx : Int) wq := CP.of HQp.out SP.out
      clear HQp SP
      unfold CP at hS0
      go_region_held3 (fun W => CQ w gc gb cs (L : Int) s N W ∧ SB W gp sx (Lx : Int) ∧ W.cell? ⟨gp, 0, none⟩ = some (.string sx) ∧ W.cell? ⟨gp, 1, none⟩ = some (.int .i64 (Lx : Int)))
        (first | assumption | (exact CP.of (CQ.next (by assumption) (by assumption)) (SB.below (by assumption) (by assumption))) | (exact CP.of (CQ.next (And.left (by assumption)) (by assumption)) (SB.below (And.left (And.right (by assumption))) (by assumption))) | (exact CP.of (CQ.drew (by assumption)) (SB.drew (by assumption))) | (exact CP.of (CQ.drew (And.left (by assumption))) (SB.drew (And.left (And.right (by assumption))))) | go_keep)
        (first | (go_at_call 11; (refine (HX.out _).mono ?_); rintro e W9 ⟨rfl, hb9⟩))
      rename_i hS9
      have HQ := Lib.hid hS9.1
      clear hS9 hS0
      have c0 := HQ.out.c.c0
      have c1 := HQ.out.c.c1
      have b0 := HQ.out.b.c0
      have b1 := HQ.out.b.c1
      by_cases hL : L = 0
      · have hz : ((L : Int) == 0) = true := by simp [hL]
        have hz2 : decide ((L : Int) = 0) = true := by simp [hL]
        go_wp2_with fail
        go_ret
        exact ⟨rfl, HQ.out.f⟩
      · have hz : ((L : Int) == 0) = false := by simp [hL]
        have hz2 : decide ((L : Int) = 0) = false := by simp [hL]
        have hst := HL1.out hL
        have hhf := HH.out hst
        have h1d := H1.out hst
        have hrf := HRF2.out hst
        have hjs := join_lim cs (L : Int) s N
        have HJ2 := Lib.hid (fun W => HJ.out s N W (by unfold maxLen; omega) hss)
        generalize joinB cs (L : Int) s N = jb at *
        generalize joinS cs (L : Int) s N = js at *
        generalize joinN cs (L : Int) s N = jn at *
        have hrj := fun W => implReadCode_any js jn 0 W (by unfold maxLen; omega)
        rw [readV_o] at hrj
        generalize rvO js jn 0 = rj at *
        obtain ⟨zv, qv, gv, hrT, hgv⟩ : ∃ zv qv gv, readT rj = .tuple #[.int .i64 zv, .int .i64 qv, .bool gv] ∧ (rj = some (d, L) → zv = d ∧ qv = (L : Int) ∧ gv = true) := by
          cases rj with
          | none => exact ⟨0, 0, false, rfl, fun h => by cases h⟩
          | some x => exact ⟨x.1, x.2, true, rfl, fun h => by cases h; exact ⟨rfl, rfl, rfl⟩⟩
        rw [hrT] at hrj
        have HRJ := Lib.hid hrj
        have HGV := Lib.hid (fun h => hgv (hrf h))
        have HHF := Lib.hid hhf
        have H1D := Lib.hid h1d
        have HJS := Lib.hid hjs
        clear hrj hrT hgv hrf hhf h1d hjs
        go_wp2_with fail
        refine (HJ2.out _).mono ?_
        rintro e wj ⟨rfl, hbj⟩
        have ha : Below wj.heap.size wj (wj.alloc (.cells #[.string js, .int .i64 jn] 26)) := below1 wj _
        have HQ2 := Lib.hid ((HQ.out.next hbj).next ha)
        have SJ := Lib.hid (SB.new wj js jn)
        clear hbj ha HQ c0 c1 b0 b1
        have j0 := SJ.out.c0
        have j1 := SJ.out.c1
        go_wp2_with fail
        refine (HRJ.out _).mono ?_
        rintro e wk ⟨rfl, hbk⟩
        have HQ3 := Lib.hid (HQ2.out.next hbk)
        clear hbk HQ2 SJ j0 j1
        go_wp2_with fail
        refine (HF2.out _).mono ?_
        rintro e wh ⟨rfl, hbh⟩
        have hhl := HHF.out
        generalize (codeB (Int.tdiv d 2)).length = Lh at *
        generalize (⟨(BM.pack (codeB (Int.tdiv d 2))).toArray⟩ : ByteArray) = sh at *
        have ha : Below wh.heap.size wh (wh.alloc (.cells #[.string sh, .int .i64 (Lh : Int)] 26)) := below1 wh _
        have HQ4 := Lib.hid ((HQ3.out.next hbh).next ha)
        have SH := Lib.hid (SB.new wh sh (Lh : Int))
        clear hbh ha HQ3
        have c0 := HQ4.out.c.c0
        have c1 := HQ4.out.c.c1
        have h0 := SH.out.c0
        have h1 := SH.out.c1
        have hle : decide ((Lh : Int) ≤ (L : Int)) = true := by simp; omega
        have hle2 : (Lh : Int) ≤ (L : Int) := by omega
        have h1i : ((L : Int) = 1) ↔ d = 0 := ⟨fun h => H1D.out.1 (by omega), fun h => by have := H1D.out.2 h; omega⟩
        have HQE := Lib.hid (show ((L : Int) == 1) = (d == 0) from by rw [Bool.eq_iff_iff, beq_iff_eq, beq_iff_eq]; exact h1i)
        clear h1i
        cases jb with
        | false =>
          go_wp2_with fail
          go_ret
          exact ⟨by simp [HQE.out], HQ4.out.f⟩
        | true =>
          obtain ⟨rfl, rfl, rfl⟩ := HGV.out rfl
          go_wp2_with fail
          go_ret
          exact ⟨by simp [HQE.out], HQ4.out.f⟩
  · have hd : decide (1048576 < (n : Int)) = true := by simp; omega
    rw [hd] at hbig
    have Hbig := Lib.hid hbig
    clear hbig hd h
    go_enter Try.func3, Try.ntmps3
    go_wp2_with fail
    refine (Hbig.out _).mono ?_
    rintro e w' ⟨rfl, rfl⟩
    go_wp2_with fail
    go_ret
    exact ⟨rfl, Below.refl _ _⟩
end Go.Proofs.Ytbgogpfhdfgjeaa
