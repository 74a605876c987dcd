/- Walks: drawn bits. -/
import Derived.Test.YtbgogpfhdfgjeaaRc
import Derived.Test.YtbgogpfhdfgjeaaWn
set_option linter.unusedVariables false
set_option linter.unusedSimpArgs false
namespace Go.Proofs.Ytbgogpfhdfgjeaa
open Go.RowKit

def IsBits (v : Value) : Prop := ∃ (s : ByteArray) (N : Int), v = .agg #[.string s, .int .i64 N] ∧ s.size ≤ 1000 ∧ -9223372036854775808 ≤ N ∧ N ≤ 9223372036854775807

theorem bitOfInt {x : Int} (h0 : 0 ≤ x) (h1 : x ≤ 1) : ∃ b : Bool, x = (b.toNat : Int) := by
  have : x = 0 ∨ x = 1 := by omega
  rcases this with rfl | rfl
  · exact ⟨false, rfl⟩
  · exact ⟨true, rfl⟩

theorem Rd.B_le {w : World} {B g : Nat} (h : Rd w B g) : B ≤ g := by obtain ⟨A, n, c, p, h⟩ := h; exact h.2.2.2.2.1

theorem grown_setNew {a w : World} {row : Option Nat} (h : a.grownBy w row) {p : Addr} (hp : a.heap.size ≤ p.block) (u : Value) : a.grownBy (w.setCell p u) row :=
  ⟨h.os, h.tape, h.output, by simpa [World.setCell] using h.size, fun k hk hne => (Below.heap_setCell w p u k (by omega)).trans (h.block k hk hne)⟩

set_option maxRecDepth 100000 in
set_option maxHeartbeats 1000000 in
theorem bits_any (B g : Nat) (most : Int) (w : World) (h : Rd w B g) (h1 : 1 ≤ most) (h2 : most ≤ 1000) :
    Calls Try.prog 48 #[.pointer (some ⟨g, 0, none⟩), .int .i64 most] w (RdPost IsBits B g w) := by
  obtain ⟨i0, hi, hz0, hz1, hz2⟩ := info_parts info_i64
  have hgl := h.lt
  have H := Lib.hid h
  clear h
  go_enter Try.func48, Try.ntmps48
  go_wp2_with fail
  refine (below_any B g (most + 1) _ (Rd.alloc (Rd.alloc H.out _) _) (by omega) (by omega)).mono ?_
  rintro e w1 ⟨v, rfl, ⟨x, rfl, hx0, hx1⟩, hrd, hgr⟩
  have hres : ResBlk w1 w.heap.size := by
    unfold ResBlk
    rw [hgr.block _ (by simp; omega) (by intro he; injection he with he; omega)]; exact heap_alloc2_old w _ _
  have hown : w1.ownsRow (w.heap.size + 1) 2 1 (.slice (some ⟨w.heap.size + 1, 0, none⟩) 0 0) 0 (bitInts []) := by
    have h0 := World.ownsRow_made (w.alloc (.cells #[.string ⟨#[]⟩, .int .i64 0] 26)) (base := w.heap.size + 1) (e := 2) (size := 1) #[] 0 (by simp) (by simp [maxLen]) rfl
    rw [World.size_alloc] at h0
    exact h0.kept hgr (.inr (by simp [Value.ownBlock]; omega))
  have hgr1 : w.grownBy w1 (some g) := grown_trans' (World.grownBy_alloc w _ _) (grown_trans' (World.grownBy_alloc _ _ _) hgr)
  have hz1' : w.heap.size + 2 ≤ w1.heap.size := by have := hgr.size; simpa using this
  have Hrd := Lib.hid hrd
  clear hrd hgr
  go_wp2_with fail
  go_loopw [5, 6] (fun u i wr => ∃ (j : Int) (L : List Bool), i = .int .i64 j ∧ 0 ≤ j ∧ (L.length : Int) + j ≤ most ∧ wr.ownsRow (w.heap.size + 1) 2 1 u L.length (bitInts L) ∧ u ≠ .slice none 0 0 ∧
      Hid (ResBlk wr w.heap.size) ∧ Hid (Rd wr B g) ∧ w.grownBy wr (some g) ∧ w.heap.size + 2 ≤ wr.heap.size)
    (fun _ i _ => (intOf i).toNat)
  case atStart => exact ⟨x, [], rfl, hx0, by simp; omega, hown, by simp, hres, Hrd, hgr1, hz1'⟩
  case round =>
    clear hown hres Hrd hgr1 hz1' H
    obtain ⟨j, L, rfl, hj0, hj1, hown, hvn, Hres, Hrd, hgr, hz⟩ := hrel
    have Hvn := Lib.hid hvn
    clear hvn
    by_cases hlt : 0 < j
    · go_wp2_with fail
      refine (below_any B g 2 _ Hrd.out (by omega) (by omega)).mono ?_
      rintro e w2 ⟨v, rfl, ⟨y, rfl, hy0, hy1⟩, hrd2, hgr2⟩
      obtain ⟨b, rfl⟩ := bitOfInt hy0 (by omega)
      have hownB := fun k hk => (hown.lt k hk)
      have hown2 := hown.kept hgr2 (by
        by_cases hx : u5.ownBlock = none
        · exact .inl hx
        · right; intro he; have := (hownB g he).1; omega)
      have hgr3 := grown_trans' hgr hgr2
      have Hres2 := Lib.hid (Hres.out.grown hgr2 (by intro he; injection he with he; omega))
      have Hrd2 := Lib.hid hrd2
      have hz2' : w.heap.size + 2 ≤ w2.heap.size := Nat.le_trans hz hgr2.size
      generalize hB : ((b.toNat : Nat) : Int) = Bv at *
      have HB := Lib.hid hB
      clear hB hrd2 hgr2 hgr hown
      go_wp2_with (at_builtin; refine wpList_append_own _ rfl _ _ 35 rfl (w.heap.size + 1) 2 i0 (.int .i64 0) 1 8 Try.underlying35 hi hz0 hz1 hz2 rfl (by decide) _ _ _ rfl (hown2.alloc _) ⟨w2.heap.size, 0, none⟩ 1 1 [.int .i64 Bv] rfl rfl ?c1 ?c2 ?c3 ?c4 ?c5 ?_)
      case c1 => exact cell_one_new _ _ _
      case c2 => intro u hu; simp at hu; subst hu; rfl
      case c3 => unfold maxLen; omega
      case c4 => omega
      case c5 => simp; omega
      intro v' w3 hown3 hgrow hnn
      have Hnn : Hid (v' ≠ .slice none 0 0) := by first | exact hnn | exact fun h => by have := (hnn.1 h).2; omega
      have hown4 : w3.ownsRow (w.heap.size + 1) 2 1 v' (L ++ [b]).length (bitInts (L ++ [b])) := by
        have e : bitInts (L ++ [b]) = bitInts L ++ [.int .i64 Bv] := by rw [← HB.out]; simp [bitInts]
        rw [e]; simpa using hown3
      have hrow : ∀ k, u5.ownBlock = some k → w.heap.size + 1 ≤ k := fun k hk => (hown2.lt k hk).1
      have hgr5 : w.grownBy w3 (some g) := by
        refine ⟨hgrow.os.trans hgr3.os, hgrow.tape.trans hgr3.tape, hgrow.output.trans hgr3.output, by have := hgrow.size; simp at this; omega, fun i hi hne => ?_⟩
        rw [hgrow.block i (by simp; omega) (by intro he; have := hrow i he.symm; omega), Below.heap_alloc _ _ _ (by omega)]
        exact hgr3.block i hi hne
      have Hres5 : Hid (ResBlk w3 w.heap.size) := by
        unfold Hid ResBlk
        rw [hgrow.block _ (by simp; omega) (by intro he; have := hrow _ he.symm; omega), Below.heap_alloc _ _ _ (by omega)]
        exact Hres2.out
      have Hrd5 : Hid (Rd w3 B g) := (Rd.alloc Hrd2.out _).grown hgrow (fun k hk => by have := hrow k hk; have := Rd.B_le Hrd2.out; omega)
      have hz5 : w.heap.size + 2 ≤ w3.heap.size := by have := hgrow.size; simp at this; omega
      clear hown3 hgrow hnn hown2 hgr3 hrow hownB Hrd2 Hres2 hz2'
      go_wp2_with fail
      go_roundw
      case rel => exact ⟨j - 1, L ++ [b], by congr 1, by omega, by simp; omega, hown4, Hnn.out, Hres5, Hrd5, hgr5, hz5⟩
      case measure => simp [intOf]; omega
    · obtain ⟨A5, c5, rfl, hA5⟩ := ints_own hown (bitInts_length L).symm
      have hll : (L.length : Int) ≤ 1000 := by omega
      have hpk := l1Pack_any A5 c5 L wr (by omega) hA5
      have Hpk := Lib.hid hpk
      have hgl2 : g < wr.heap.size := Rd.lt Hrd.out
      clear hpk hA5 hown Hvn
      go_wp2_with fail
      refine Hpk.out.mono ?_
      rintro e w2 ⟨rfl, hb2⟩
      have hsR : (BM.pack L).length ≤ 126 := by rw [BM.pack_length]; unfold BM.bytesOf; omega
      obtain ⟨R, hR⟩ : ∃ R : ByteArray, R = ⟨(BM.pack L).toArray⟩ := ⟨_, rfl⟩
      have hRs : R.size ≤ 126 := by rw [hR]; simpa [ByteArray.size] using hsR
      rw [← hR]
      have Hres2 := Lib.hid (Hres.out.below hb2)
      have Hrd2 := Lib.hid (Hrd.out.below hb2)
      have hgr2 : w.grownBy w2 (some g) := ⟨hb2.os.trans hgr.os, hb2.tape.trans hgr.tape, hb2.output.trans hgr.output, Nat.le_trans hgr.size hb2.size, fun i hi hne => (hb2.block i (Nat.lt_of_lt_of_le hi hgr.size)).trans (hgr.block i hi hne)⟩
      have hz2' : w.heap.size + 2 ≤ w2.heap.size := Nat.le_trans hz hb2.size
      clear hb2 hgr hR hsR Hpk
      go_wp2_with fail
      refine (below_any B g 40 _ (Rd.alloc Hrd2.out _) (by omega) (by omega)).mono ?_
      rintro e w3 ⟨v, rfl, ⟨y, rfl, hy0, hy1⟩, hrd3, hgr3⟩
      have hblk : w3.heap[w2.heap.size]? = some (.cells #[.string R, .int .i64 (L.length : Int)] 26 (0, 0)) := by
        rw [hgr3.block _ (by simp) (by intro he; injection he with he; omega)]; exact heap_alloc_new w2 _
      have hk0 : w3.cell? ⟨w2.heap.size, 0, none⟩ = some (.string R) := by rw [cell_of_row w3 _ 0 _ _ _ hblk]; rfl
      have hk1 : w3.cell? ⟨w2.heap.size, 1, none⟩ = some (.int .i64 (L.length : Int)) := by rw [cell_of_row w3 _ 1 _ _ _ hblk]; rfl
      have hkf0 : w3.frozen? ⟨w2.heap.size, 0, none⟩ = false := frozen_of_row w3 _ 0 _ _ hblk
      have hkf1 : w3.frozen? ⟨w2.heap.size, 1, none⟩ = false := frozen_of_row w3 _ 1 _ _ hblk
      have hres3 : ResBlk w3 w.heap.size := by
        unfold ResBlk
        rw [hgr3.block _ (by simp; omega) (by intro he; injection he with he; omega), Below.heap_alloc _ _ _ (by omega)]
        exact Hres2.out
      have hgr4 := grown_trans' hgr2 (grown_trans' (World.grownBy_alloc w2 _ _) hgr3)
      have hz3 : w2.heap.size + 1 ≤ w3.heap.size := by have := hgr3.size; simpa using this
      have Hrd3 := Lib.hid hrd3
      have Hblk := Lib.hid hblk
      clear hrd3 hgr3 hgr2 Hres2 Hrd2 hblk
      have hwle : w.heap.size ≤ w3.heap.size := by omega
      by_cases hy38 : y = 38
      · subst hy38
        have Hres3 := Lib.hid hres3
        clear hres3
        go_wp2_with fail
        refine (off_any B g 0 (L.length : Int) _ Hrd3.out (by omega) (by omega) (by omega) (by omega)).mono ?_
        rintro e w4 ⟨v, rfl, ⟨z, rfl, hz0', hz1'⟩, hrd4, hgr5⟩
        have hblk4 : w4.heap[w2.heap.size]? = some (.cells #[.string R, .int .i64 (L.length : Int)] 26 (0, 0)) := by
          rw [hgr5.block _ (by omega) (by intro he; injection he with he; omega)]; exact Hblk.out
        have k0 : w4.cell? ⟨w2.heap.size, 0, none⟩ = some (.string R) := by rw [cell_of_row w4 _ 0 _ _ _ hblk4]; rfl
        have k1 : w4.cell? ⟨w2.heap.size, 1, none⟩ = some (.int .i64 (L.length : Int)) := by rw [cell_of_row w4 _ 1 _ _ _ hblk4]; rfl
        have kf1 : w4.frozen? ⟨w2.heap.size, 1, none⟩ = false := frozen_of_row w4 _ 1 _ _ hblk4
        have hres4 := Hres3.out.grown hgr5 (by intro he; injection he with he; omega)
        have r0 := hres4.c0
        have r1 := hres4.c1
        have f0 := hres4.f 0
        have f1 := hres4.f 1
        have hgr6 := grown_trans' hgr4 hgr5
        have hne2 : w.heap.size ≠ w2.heap.size := by omega
        have Hrd4 := Lib.hid hrd4
        clear hrd4 hgr5 hgr4 hk0 hk1 hkf0 hkf1 hblk4 hres4
        go_wp2_with fail
        have hBg := Rd.B_le Hrd4.out
        exact bodyPost_ret (v := .agg #[.string R, .int .i64 z]) (by simp [results, Try.results48, go_sem, r0, r1, k1, hne2]) rfl
          ⟨_, rfl, ⟨R, z, rfl, by omega, hz0', hz1'⟩, ((Rd.setCell Hrd4.out (by simp; omega) (by simp; omega) _).setCell (by simp; omega) (by simp; omega) _).setCell (by simp; omega) (by simp; omega) _,
            grown_setNew (grown_setNew (grown_setNew hgr6 (by simp; omega) _) (by simp) _) (by simp) _⟩
      · by_cases hy39 : y = 39
        · subst hy39
          have r0 := hres3.c0
          have r1 := hres3.c1
          have f0 := hres3.f 0
          have f1 := hres3.f 1
          have hne2 : w.heap.size ≠ w2.heap.size := by omega
          have hBg := Rd.B_le Hrd3.out
          clear hres3
          go_wp2_with fail
          have hsz : (R ++ (⟨#[0]⟩ : ByteArray)).size ≤ 1000 := by rw [ByteArray.size_append]; show R.size + 1 ≤ 1000; omega
          exact bodyPost_ret (v := .agg #[.string (R ++ ⟨#[0]⟩), .int .i64 (L.length : Int)]) (by simp [results, Try.results48, go_sem, r0, r1, hk1, hne2]) rfl
            ⟨_, rfl, ⟨R ++ ⟨#[0]⟩, L.length, rfl, hsz, by omega, by omega⟩, ((Rd.setCell Hrd3.out (by simp; omega) (by simp; omega) _).setCell (by simp; omega) (by simp; omega) _).setCell (by simp; omega) (by simp; omega) _,
              grown_setNew (grown_setNew (grown_setNew hgr4 (by simp; omega) _) (by simp) _) (by simp) _⟩
        · have e38 : (y == 38) = false := by simpa using hy38
          have e39 : (y == 39) = false := by simpa using hy39
          have r0 := hres3.c0
          have r1 := hres3.c1
          have f0 := hres3.f 0
          have f1 := hres3.f 1
          have hne2 : w.heap.size ≠ w2.heap.size := by omega
          have hBg := Rd.B_le Hrd3.out
          clear hres3
          go_wp2_with fail
          exact bodyPost_ret (v := .agg #[.string R, .int .i64 (L.length : Int)]) (by simp [results, Try.results48, go_sem, r0, r1, hne2]) rfl
            ⟨_, rfl, ⟨R, L.length, rfl, by omega, by omega, by omega⟩, (Rd.setCell Hrd3.out (by simp; omega) (by simp; omega) _).setCell (by simp; omega) (by simp; omega) _,
              grown_setNew (grown_setNew hgr4 (by simp) _) (by simp) _⟩
end Go.Proofs.Ytbgogpfhdfgjeaa
