/- Walks: drawn strings. -/
import Derived.Test.YtpnfkmhhilnglabRc
import Derived.Deep.RegionLaw
namespace Go.Proofs.Ytpnfkmhhilnglab
open Go.RowKit

def IsStr (m : Int) (v : Value) : Prop := ∃ s : ByteArray, v = .string s ∧ (s.size : Int) ≤ m

theorem rd_append {w wr w1 : World} {B g : Nat} {e : TypeId} {v : Value} {n : Nat} {xs : List Value} {o : Obj} (hgr : w.grownBy wr (some g)) (hgl : g < w.heap.size) (hrd : Rd wr B g) (hown : wr.ownsRow w.heap.size e 1 v n xs)
    (hgrow : (wr.alloc o).grownBy w1 v.ownBlock) : w.grownBy w1 (some g) ∧ Rd w1 B g := by
  have hrow : ∀ k, v.ownBlock = some k → w.heap.size ≤ k := fun k hk => (hown.lt k hk).1
  have hz := hgr.size
  have hB : B ≤ g := by obtain ⟨A, n, c, p, h⟩ := hrd; exact h.2.2.2.2.1
  refine ⟨⟨hgrow.os.trans hgr.os, hgrow.tape.trans hgr.tape, hgrow.output.trans hgr.output, by have := hgrow.size; simp at this; omega, fun i hi hne => ?_⟩, (Rd.alloc hrd _).grown hgrow (fun k hk => by have := hrow k hk; omega)⟩
  rw [hgrow.block i (by simp; omega) (by intro he; have := hrow i he.symm; omega), Below.heap_alloc _ _ _ (by omega)]
  exact hgr.block i hi hne
theorem rd_row {w wr w2 : World} {g : Nat} {e : TypeId} {v : Value} {n : Nat} {xs : List Value} (hgl : g < w.heap.size) (hown : wr.ownsRow w.heap.size e 1 v n xs) (hg2 : wr.grownBy w2 (some g)) : w2.ownsRow w.heap.size e 1 v n xs :=
  hown.kept hg2 (by
    by_cases hx : v.ownBlock = none
    · exact .inl hx
    · right; intro he; have := (hown.lt g he).1; omega)

set_option maxRecDepth 100000 in
set_option maxHeartbeats 1000000 in
theorem bytes_any (B g : Nat) (most : Int) (w : World) (h : Rd w B g) (h1 : 1 ≤ most) (h2 : most ≤ 1000) :
    Calls Try.prog 38 #[.pointer (some ⟨g, 0, none⟩), .int .i64 most] w (RdPost (IsStr most) B g w) := by
  obtain ⟨i0, hi, hz0, hz1, hz2⟩ := info_parts u_info_u8
  have hgl := h.lt
  have H := Lib.hid h
  clear h
  go_enter Try.func38, Try.ntmps38
  go_wp2_with fail
  refine (below_any B g (most + 1) _ (Rd.alloc H.out _) (by omega) (by omega)).mono ?_
  rintro e w1 ⟨v, rfl, ⟨x, rfl, hx0, hx1⟩, hrd, hgr⟩
  have hgr1 : w.grownBy w1 (some g) := grown_trans' (World.grownBy_alloc w _ _) hgr
  have hown : w1.ownsRow w.heap.size 5 1 (.slice (some ⟨w.heap.size, 0, none⟩) 0 0) 0 (byteCells []) := by
    have h0 := World.ownsRow_made w (base := w.heap.size) (e := 5) (size := 1) #[] 0 (Nat.le_refl _) (by simp [maxLen]) rfl
    exact h0.kept hgr (.inr (by simp [Value.ownBlock]; omega))
  have Hrd := Lib.hid hrd
  clear hrd hgr
  go_wp2_with fail
  go_loopw [5, 6] (fun u i wr => ∃ (j : Int) (L : List Nat), i = .int .i64 j ∧ 0 ≤ j ∧ (L.length : Int) + j ≤ most ∧ (∀ y ∈ L, y < 256) ∧ wr.ownsRow w.heap.size 5 1 u L.length (byteCells L) ∧ Hid (Rd wr B g) ∧ w.grownBy wr (some g))
    (fun _ i _ => (intOf i).toNat)
  case atStart => exact ⟨x, [], rfl, hx0, by simp; omega, fun _ h => (by cases h), hown, Hrd, hgr1⟩
  case round =>
    clear hown Hrd hgr1 H
    obtain ⟨j, L, rfl, hj0, hj1, hL, hown, Hrd, hgr⟩ := hrel
    have HL := Lib.hid hL
    clear hL
    by_cases hlt : 0 < j
    · go_wp2_with fail
      refine (below_any B g 256 _ Hrd.out (by omega) (by omega)).mono ?_
      rintro e w2 ⟨v, rfl, ⟨y, rfl, hy0, hy1⟩, hrd2, hgr2⟩
      obtain ⟨Y, rfl⟩ := Int.eq_ofNat_of_zero_le hy0
      have hown2 := rd_row hgl hown hgr2
      have hgr3 := grown_trans' hgr hgr2
      have hz := hgr3.size
      have Hrd2 := Lib.hid hrd2
      clear hrd2 hgr2 hgr hown
      go_wp2_with (at_builtin; refine wpList_append_own _ rfl _ _ 22 rfl w.heap.size 5 i0 (.int .u8 0) 1 1 Try.underlying22 hi hz0 hz1 hz2 rfl (by decide) _ _ _ rfl (hown2.alloc _) ⟨w2.heap.size, 0, none⟩ 1 1 [.int .u8 (Y : Int)] rfl rfl ?c1 ?c2 ?c3 ?c4 ?c5 ?_)
      case c1 => exact cell_one_new _ _ _
      case c2 => intro u hu; simp at hu; subst hu; rfl
      case c3 => unfold maxLen; omega
      case c4 => omega
      case c5 => simp; omega
      intro v' w3 hown3 hgrow _
      obtain ⟨hgr5, hrd5⟩ := rd_append hgr3 hgl Hrd2.out hown2 hgrow
      have hown4 : w3.ownsRow w.heap.size 5 1 v' (L ++ [Y]).length (byteCells (L ++ [Y])) := by
        rw [byteCells_append]; simpa [byteCells] using hown3
      have Hrd5 := Lib.hid hrd5
      clear hown3 hgrow hown2 hgr3 Hrd2 hrd5
      go_wp2_with fail
      go_roundw
      case rel => exact ⟨j - 1, L ++ [Y], by congr 1, by omega, by simp; omega, fun z hz => by
        rcases List.mem_append.1 hz with hz | hz
        · exact HL.out z hz
        · obtain rfl : z = Y := by simpa using hz
          omega, hown4, Hrd5, hgr5⟩
      case measure => simp [intOf]; omega
    · have hconv := conv_own hown
      have hll : (L.length : Int) ≤ most := by omega
      clear hown
      go_wp2_with fail
      go_ret
      exact ⟨_, rfl, ⟨_, rfl, by show (((L.map UInt8.ofNat).toArray.size : Nat) : Int) ≤ most; simpa using hll⟩, Hrd.out, hgr⟩

def arr8 : Array Value := #[.string ⟨#[97]⟩, .string ⟨#[61]⟩, .string ⟨#[32]⟩, .string ⟨#[49]⟩, .string ⟨#[10]⟩, .string ⟨#[48]⟩, .string ⟨#[128]⟩, .string ⟨#[44]⟩]
def arr4 : Array Value := #[.string ⟨#[97]⟩, .string ⟨#[10]⟩, .string ⟨#[49]⟩, .string ⟨#[0]⟩]
theorem str8 (Y : Nat) (h : Y < 8) : ∃ T : ByteArray, arr8[Y]? = some (.string T) ∧ T.size = 1 := by
  have : Y = 0 ∨ Y = 1 ∨ Y = 2 ∨ Y = 3 ∨ Y = 4 ∨ Y = 5 ∨ Y = 6 ∨ Y = 7 := by omega
  rcases this with rfl | rfl | rfl | rfl | rfl | rfl | rfl | rfl <;> exact ⟨_, rfl, rfl⟩
theorem str4 (Y : Nat) (h : Y < 4) : ∃ T : ByteArray, arr4[Y]? = some (.string T) ∧ T.size = 1 := by
  have : Y = 0 ∨ Y = 1 ∨ Y = 2 ∨ Y = 3 := by omega
  rcases this with rfl | rfl | rfl | rfl <;> exact ⟨_, rfl, rfl⟩
theorem str_cell0 (W : World) {arr : Array Value} {t : TypeId} {Y : Nat} {v : Value} (hT : arr[Y]? = some v) : (W.alloc (.cells arr t)).cell? ⟨W.heap.size, Y, none⟩ = some v := by
  rw [cell_of_row _ _ _ _ _ _ (heap_alloc_new W _)]; exact hT
theorem str_cell {W w3 : World} {g : Nat} {arr : Array Value} {t : TypeId} {Y : Nat} {v : Value} (hg : (W.alloc (.cells arr t)).grownBy w3 (some g)) (hgl : g < W.heap.size) (hT : arr[Y]? = some v) :
    w3.cell? ⟨W.heap.size, Y, none⟩ = some v :=
  hg.cell (str_cell0 W hT) (by intro e; injection e with e; simp at e; omega)

theorem str_cell_d {W w3 : World} {g : Nat} {arr : Array Value} {t : TypeId} {Y : Nat} {v : Value} (hg : (W.alloc (.cells arr t)).drew.grownBy w3 (some g)) (hgl : g < W.heap.size) (hT : arr[Y]? = some v) :
    w3.cell? ⟨W.heap.size, Y, none⟩ = some v :=
  str_cell ⟨hg.os, hg.tape, hg.output, hg.size, hg.block⟩ hgl hT

theorem extract_size_le (s : ByteArray) (a b : Nat) : (s.extract a b).size ≤ s.size := by rw [ByteArray.size_extract]; omega

set_option maxRecDepth 100000 in
set_option maxHeartbeats 2000000 in
theorem hurt_any (B g : Nat) (s : ByteArray) (w : World) (h : Rd w B g) (hs : s.size ≤ 1000000) :
    Calls Try.prog 37 #[.pointer (some ⟨g, 0, none⟩), .string s] w (RdPost (IsStr (s.size + 1)) B g w) := by
  have hgl := h.lt
  have H := Lib.hid h
  clear h
  go_enter Try.func37, Try.ntmps37
  go_wp2_with fail
  refine (below_any B g 6 _ H.out (by omega) (by omega)).mono ?_
  rintro e w1 ⟨v, rfl, ⟨x, rfl, hx0, hx1⟩, hrd, hgr⟩
  have Hrd := Lib.hid hrd
  clear hrd H
  have hx : x = 1 ∨ x = 2 ∨ x = 3 ∨ (x ≠ 1 ∧ x ≠ 2 ∧ x ≠ 3) := by omega
  rcases hx with rfl | rfl | rfl | ⟨e1, e2, e3⟩
  · go_wp2_with fail
    refine (below_any B g ((s.size : Int) + 1) _ Hrd.out (by omega) (by omega)).mono ?_
    rintro e w2 ⟨v, rfl, ⟨y, rfl, hy0, hy1⟩, hrd2, hgr2⟩
    have Hrd2 := Lib.hid hrd2
    have hgr3 := grown_trans' hgr hgr2
    clear hrd2 hgr hgr2
    obtain ⟨Y, rfl⟩ := Int.eq_ofNat_of_zero_le hy0
    have hyY : (Y : Int) ≤ s.size := by omega
    go_wp2_with fail
    go_ret
    exact ⟨_, rfl, ⟨_, rfl, by have := extract_size_le s 0 Y; omega⟩, Hrd2.out, hgr3⟩
  · by_cases hs0 : 0 < s.size
    · go_wp2_with fail
      refine (below_any B g (s.size : Int) _ Hrd.out (by omega) (by omega)).mono ?_
      rintro e w2 ⟨v, rfl, ⟨y, rfl, hy0, hy1⟩, hrd2, hgr2⟩
      have Hrd2 := Lib.hid hrd2
      have hgr3 := grown_trans' hgr hgr2
      clear hrd2 hgr hgr2
      obtain ⟨Y, rfl⟩ := Int.eq_ofNat_of_zero_le hy0
      have hyY : (Y : Int) < s.size := by omega
      go_wp2_with fail
      have hgl2 : g < w2.heap.size := Nat.lt_of_lt_of_le hgl hgr3.size
      have e1 : IntKind.i64.wrap ((Y : Int) + 1) = (Y : Int) + 1 := IntWalk.i64_in _ (by omega)
      have e2 : (0 : Int) ≤ (Y : Int) + 1 := by omega
      have e3 : ((Y : Int) + 1).toNat = Y + 1 := by omega
      have e4 : (Y : Int) + 1 ≤ (s.size : Int) := by omega
      have e5 : (Y : Int) ≤ (s.size : Int) := by omega
      have hx1 : (s.extract 0 Y).size ≤ 1000000 := by have := extract_size_le s 0 Y; omega
      have hx2 : (s.extract (Y + 1) s.size).size ≤ 1000000 := by have := extract_size_le s (Y + 1) s.size; omega
      go_region_law (go_simp; go_at_call 41; refine (below_any B g 8 _ (by repeat (first | exact Hrd2.out | apply Rd.drew | apply Rd.alloc)) (by omega) (by omega)).mono ?_; rintro e w3 ⟨v, rfl, ⟨y2, rfl, hy20, hy21⟩, hrd3, hgr4⟩; obtain ⟨Y2, rfl⟩ := Int.eq_ofNat_of_zero_le hy20; obtain ⟨T, hT, hTs⟩ := str8 Y2 (by omega); have hlt8 : (Y2 : Int) < 8 := (by omega); have hTl : T.size ≤ 1 := (by omega); have hx3 : ¬ 9223372036854775807 < min Y s.size + T.size := (by omega); have hx4 : ¬ 9223372036854775807 < min Y s.size + T.size + (s.size - (Y + 1)) := (by omega); have HTs := Lib.hid hTs; clear hTs; (first | have hcell := str_cell_d (arr := arr8) hgr4 hgl2 hT | have hcell := str_cell (arr := arr8) hgr4 (by simpa using hgl2) hT | skip); have Hrd3 := Lib.hid hrd3; clear hrd3; unfold arr8 at hT)
      all_goals
        have hsz : (((s.extract 0 Y ++ T ++ s.extract (Y + 1) s.size).size : Nat) : Int) ≤ (s.size : Int) + 1 := by
          rw [ByteArray.size_append, ByteArray.size_append, ByteArray.size_extract, ByteArray.size_extract, HTs.out]; omega
        have Hsz := Lib.hid hsz
        clear hT e1 e2 e3 e4 e5 hx1 hx2 hx3 hx4 hsz
        go_simp
        go_wp2_with fail
        go_ret
        first
          | exact ⟨_, rfl, ⟨_, rfl, Hsz.out⟩, Hrd3.out, grown_trans' hgr3 (grown_trans' (grown_drew (World.grownBy_alloc w2 _ _)) hgr4)⟩
          | exact ⟨_, rfl, ⟨_, rfl, Hsz.out⟩, Rd.alloc Hrd3.out _, grown_trans' hgr3 (grown_trans' (grown_trans' (grown_drew (World.grownBy.refl _ _)) hgr4) (World.grownBy_alloc _ _ _))⟩
    · go_wp2_with fail
      go_ret
      exact ⟨_, rfl, ⟨_, rfl, by omega⟩, Hrd.out, hgr⟩
  · go_wp2_with fail
    refine (below_any B g 4 _ (by repeat (first | exact Hrd.out | apply Rd.alloc)) (by omega) (by omega)).mono ?_
    rintro e w2 ⟨v, rfl, ⟨y, rfl, hy0, hy1⟩, hrd2, hgr2⟩
    obtain ⟨Y, rfl⟩ := Int.eq_ofNat_of_zero_le hy0
    obtain ⟨T, hT, hTs⟩ := str4 Y (by omega)
    have hcell := str_cell (arr := arr4) hgr2 (Nat.lt_of_lt_of_le hgl hgr.size) hT
    have Hrd2 := Lib.hid hrd2
    have hgr3 := grown_trans' hgr (grown_trans' (World.grownBy_alloc w1 _ _) hgr2)
    have hY4 : (Y : Int) < 4 := by omega
    have HTs := Lib.hid hTs
    have hTl : T.size ≤ 1 := by omega
    clear hrd2 hgr hgr2 hT hTs
    go_wp2_with fail
    go_ret
    exact ⟨_, rfl, ⟨_, rfl, by rw [ByteArray.size_append, HTs.out]; omega⟩, Hrd2.out, hgr3⟩
  · have d1 : (x == 1) = false := by simpa using e1
    have d2 : (x == 2) = false := by simpa using e2
    have d3 : (x == 3) = false := by simpa using e3
    go_wp2_with fail
    go_ret
    exact ⟨_, rfl, ⟨_, rfl, by omega⟩, Hrd.out, hgr⟩
end Go.Proofs.Ytpnfkmhhilnglab
