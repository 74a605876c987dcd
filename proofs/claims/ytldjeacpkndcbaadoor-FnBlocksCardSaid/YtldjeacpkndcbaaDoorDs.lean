/- Walks: drawn strings. -/
import Derived.Test.YtldjeacpkndcbaaDoorRc
import Derived.Deep.RegionLaw
import Derived.OpenShut
import Derived.Test.YtldjeacpkndcbaaDoorDj
import Derived.Test.YtldjeacpkndcbaaDoorDd
import Derived.Test.YtldjeacpkndcbaaDoorFa
set_option linter.unusedVariables false
set_option linter.unusedSimpArgs false
namespace Go.Proofs.YtldjeacpkndcbaaDoor
open Go.RowKit

def IsStr (m : Int) (v : Value) : Prop := ∃ s : ByteArray, v = .string s ∧ (s.size : Int) ≤ m

theorem rd_append {w wr w1 : World} {B g : Nat} {e : TypeId} {v : Value} {n : Nat} {xs : List Value} {o : Obj} (hgr : w.grownBy wr (some g)) (hgl : g < w.heap.size) (hrd : Rd wr B g) (hown : wr.ownsRow w.heap.size e 1 v n xs)
    (hgrow : (wr.alloc o).grownBy w1 v.ownBlock) : w.grownBy w1 (some g) ∧ Rd w1 B g := by
  have hrow : ∀ k, v.ownBlock = some k → w.heap.size ≤ k := fun k hk => (hown.lt k hk).1
  have hz := hgr.size
  have hB : B ≤ g := by obtain ⟨A, n, c, p, h⟩ := hrd; exact h.2.2.2.2.1
  refine ⟨⟨hgrow.os.trans hgr.os, hgrow.tape.trans hgr.tape, hgrow.output.trans hgr.output, by have := hgrow.size; simp at this; omega, fun i hi hne => ?_⟩, (Rd.alloc hrd _).grown hgrow (fun k hk => by have := hrow k hk; omega)⟩
  rw [hgrow.block i (by simp; omega) (by intro he; have := hrow i he.symm; omega), Below.heap_alloc _ _ _ (by omega)]
  exact hgr.block i hi hne
theorem rd_row {w wr w2 : World} {g : Nat} {e : TypeId} {v : Value} {n : Nat} {xs : List Value} (hgl : g < w.heap.size) (hown : wr.ownsRow w.heap.size e 1 v n xs) (hg2 : wr.grownBy w2 (some g)) : w2.ownsRow w.heap.size e 1 v n xs :=
  hown.kept hg2 (by
    by_cases hx : v.ownBlock = none
    · exact .inl hx
    · right; intro he; have := (hown.lt g he).1; omega)


def arr8 : Array Value := #[.string ⟨#[97]⟩, .string ⟨#[61]⟩, .string ⟨#[32]⟩, .string ⟨#[49]⟩, .string ⟨#[10]⟩, .string ⟨#[48]⟩, .string ⟨#[128]⟩, .string ⟨#[44]⟩]
def arr4 : Array Value := #[.string ⟨#[97]⟩, .string ⟨#[10]⟩, .string ⟨#[49]⟩, .string ⟨#[0]⟩]
theorem str8 (Y : Nat) (h : Y < 8) : ∃ T : ByteArray, arr8[Y]? = some (.string T) ∧ T.size = 1 := by
  have : Y = 0 ∨ Y = 1 ∨ Y = 2 ∨ Y = 3 ∨ Y = 4 ∨ Y = 5 ∨ Y = 6 ∨ Y = 7 := by omega
  rcases this with rfl | rfl | rfl | rfl | rfl | rfl | rfl | rfl <;> exact ⟨_, rfl, rfl⟩
theorem str4 (Y : Nat) (h : Y < 4) : ∃ T : ByteArray, arr4[Y]? = some (.string T) ∧ T.size = 1 := by
  have : Y = 0 ∨ Y = 1 ∨ Y = 2 ∨ Y = 3 := by omega
  rcases this with rfl | rfl | rfl | rfl <;> exact ⟨_, rfl, rfl⟩
theorem str_cell0 (W : World) {arr : Array Value} {t : TypeId} {Y : Nat} {v : Value} (hT : arr[Y]? = some v) : (W.alloc (.cells arr t)).cell? ⟨W.heap.size, Y, none⟩ = some v := by
  rw [cell_of_row _ _ _ _ _ _ (heap_alloc_new W _)]; exact hT
theorem str_cell {W w3 : World} {g : Nat} {arr : Array Value} {t : TypeId} {Y : Nat} {v : Value} (hg : (W.alloc (.cells arr t)).grownBy w3 (some g)) (hgl : g < W.heap.size) (hT : arr[Y]? = some v) :
    w3.cell? ⟨W.heap.size, Y, none⟩ = some v :=
  hg.cell (str_cell0 W hT) (by intro e; injection e with e; simp at e; omega)

theorem str_cell_d {W w3 : World} {g : Nat} {arr : Array Value} {t : TypeId} {Y : Nat} {v : Value} (hg : (W.alloc (.cells arr t)).drew.grownBy w3 (some g)) (hgl : g < W.heap.size) (hT : arr[Y]? = some v) :
    w3.cell? ⟨W.heap.size, Y, none⟩ = some v :=
  str_cell ⟨hg.os, hg.tape, hg.output, hg.size, hg.block⟩ hgl hT

theorem extract_size_le (s : ByteArray) (a b : Nat) : (s.extract a b).size ≤ s.size := by rw [ByteArray.size_extract]; omega

set_option maxRecDepth 100000 in
set_option maxHeartbeats 2000000 in
theorem hurt_any (B g : Nat) (s : ByteArray) (w : World) (h : Rd w B g) (hs : s.size ≤ 1000000) :
    Calls Tryd.prog 71 #[.pointer (some ⟨g, 0, none⟩), .string s] w (RdPost (IsStr (s.size + 1)) B g w) := by
  have hgl := h.lt
  have H := Lib.hid h
  clear h
  go_enter Tryd.func71, Tryd.ntmps71
  go_wp2_with fail
  refine (below_any B g 6 _ H.out (by omega) (by omega)).mono ?_
  rintro e w1 ⟨v, rfl, ⟨x, rfl, hx0, hx1⟩, hrd, hgr⟩
  have Hrd := Lib.hid hrd
  clear hrd H
  have hx : x = 1 ∨ x = 2 ∨ x = 3 ∨ (x ≠ 1 ∧ x ≠ 2 ∧ x ≠ 3) := by omega
  rcases hx with rfl | rfl | rfl | ⟨e1, e2, e3⟩
  · go_wp2_with fail
    refine (below_any B g ((s.size : Int) + 1) _ Hrd.out (by omega) (by omega)).mono ?_
    rintro e w2 ⟨v, rfl, ⟨y, rfl, hy0, hy1⟩, hrd2, hgr2⟩
    have Hrd2 := Lib.hid hrd2
    have hgr3 := grown_trans' hgr hgr2
    clear hrd2 hgr hgr2
    obtain ⟨Y, rfl⟩ := Int.eq_ofNat_of_zero_le hy0
    have hyY : (Y : Int) ≤ s.size := by omega
    go_wp2_with fail
    go_ret
    exact ⟨_, rfl, ⟨_, rfl, by have := extract_size_le s 0 Y; omega⟩, Hrd2.out, hgr3⟩
  · by_cases hs0 : 0 < s.size
    · go_wp2_with fail
      refine (below_any B g (s.size : Int) _ Hrd.out (by omega) (by omega)).mono ?_
      rintro e w2 ⟨v, rfl, ⟨y, rfl, hy0, hy1⟩, hrd2, hgr2⟩
      have Hrd2 := Lib.hid hrd2
      have hgr3 := grown_trans' hgr hgr2
      clear hrd2 hgr hgr2
      obtain ⟨Y, rfl⟩ := Int.eq_ofNat_of_zero_le hy0
      have hyY : (Y : Int) < s.size := by omega
      go_wp2_with fail
      have hgl2 : g < w2.heap.size := Nat.lt_of_lt_of_le hgl hgr3.size
      have e1 : IntKind.i64.wrap ((Y : Int) + 1) = (Y : Int) + 1 := IntWalk.i64_in _ (by omega)
      have e2 : (0 : Int) ≤ (Y : Int) + 1 := by omega
      have e3 : ((Y : Int) + 1).toNat = Y + 1 := by omega
      have e4 : (Y : Int) + 1 ≤ (s.size : Int) := by omega
      have e5 : (Y : Int) ≤ (s.size : Int) := by omega
      have hx1 : (s.extract 0 Y).size ≤ 1000000 := by have := extract_size_le s 0 Y; omega
      have hx2 : (s.extract (Y + 1) s.size).size ≤ 1000000 := by have := extract_size_le s (Y + 1) s.size; omega
      go_region_law (go_simp; go_at_call 54; refine (below_any B g 8 _ (by repeat (first | exact Hrd2.out | apply Rd.drew | apply Rd.alloc)) (by omega) (by omega)).mono ?_; rintro e w3 ⟨v, rfl, ⟨y2, rfl, hy20, hy21⟩, hrd3, hgr4⟩; obtain ⟨Y2, rfl⟩ := Int.eq_ofNat_of_zero_le hy20; obtain ⟨T, hT, hTs⟩ := str8 Y2 (by omega); have hlt8 : (Y2 : Int) < 8 := (by omega); have hTl : T.size ≤ 1 := (by omega); have hx3 : ¬ 9223372036854775807 < min Y s.size + T.size := (by omega); have hx4 : ¬ 9223372036854775807 < min Y s.size + T.size + (s.size - (Y + 1)) := (by omega); have HTs := Lib.hid hTs; clear hTs; (first | have hcell := str_cell_d (arr := arr8) hgr4 hgl2 hT | have hcell := str_cell (arr := arr8) hgr4 (by simpa using hgl2) hT | skip); have Hrd3 := Lib.hid hrd3; clear hrd3; unfold arr8 at hT)
      all_goals
        have hsz : (((s.extract 0 Y ++ T ++ s.extract (Y + 1) s.size).size : Nat) : Int) ≤ (s.size : Int) + 1 := by
          rw [ByteArray.size_append, ByteArray.size_append, ByteArray.size_extract, ByteArray.size_extract, HTs.out]; omega
        have Hsz := Lib.hid hsz
        clear hT e1 e2 e3 e4 e5 hx1 hx2 hx3 hx4 hsz
        go_simp
        go_wp2_with fail
        go_ret
        first
          | exact ⟨_, rfl, ⟨_, rfl, Hsz.out⟩, Hrd3.out, grown_trans' hgr3 (grown_trans' (grown_drew (World.grownBy_alloc w2 _ _)) hgr4)⟩
          | exact ⟨_, rfl, ⟨_, rfl, Hsz.out⟩, Rd.alloc Hrd3.out _, grown_trans' hgr3 (grown_trans' (grown_trans' (grown_drew (World.grownBy.refl _ _)) hgr4) (World.grownBy_alloc _ _ _))⟩
    · go_wp2_with fail
      go_ret
      exact ⟨_, rfl, ⟨_, rfl, by omega⟩, Hrd.out, hgr⟩
  · go_wp2_with fail
    refine (below_any B g 4 _ (by repeat (first | exact Hrd.out | apply Rd.alloc)) (by omega) (by omega)).mono ?_
    rintro e w2 ⟨v, rfl, ⟨y, rfl, hy0, hy1⟩, hrd2, hgr2⟩
    obtain ⟨Y, rfl⟩ := Int.eq_ofNat_of_zero_le hy0
    obtain ⟨T, hT, hTs⟩ := str4 Y (by omega)
    have hcell := str_cell (arr := arr4) hgr2 (Nat.lt_of_lt_of_le hgl hgr.size) hT
    have Hrd2 := Lib.hid hrd2
    have hgr3 := grown_trans' hgr (grown_trans' (World.grownBy_alloc w1 _ _) hgr2)
    have hY4 : (Y : Int) < 4 := by omega
    have HTs := Lib.hid hTs
    have hTl : T.size ≤ 1 := by omega
    clear hrd2 hgr hgr2 hT hTs
    go_wp2_with fail
    go_ret
    exact ⟨_, rfl, ⟨_, rfl, by rw [ByteArray.size_append, HTs.out]; omega⟩, Hrd2.out, hgr3⟩
  · have d1 : (x == 1) = false := by simpa using e1
    have d2 : (x == 2) = false := by simpa using e2
    have d3 : (x == 3) = false := by simpa using e3
    go_wp2_with fail
    go_ret
    exact ⟨_, rfl, ⟨_, rfl, by omega⟩, Hrd.out, hgr⟩
end Go.Proofs.YtldjeacpkndcbaaDoor

/- Walks: big; the drawn code as it came in. -/
set_option linter.unusedVariables false
set_option linter.unusedSimpArgs false
namespace Go.Proofs.YtldjeacpkndcbaaDoor
open Go.RowKit

set_option maxRecDepth 100000 in
set_option maxHeartbeats 400000 in
theorem big_any (A : Option Addr) (n c : Nat) (w : World) :
    Calls Tryd.prog 10 #[.slice A n c] w fun e w' => e = .returned (.bool (decide (1048576 < (n : Int)))) ∧ w = w' := by
  go_enter Tryd.func10, Tryd.ntmps10
  go_wp2
  go_ret
  exact ⟨rfl, rfl⟩

theorem codeAt_of (x : Addr) (n c : Nat) (zs : List Int) (w : World) (hn : n ≤ 1048576) (hl : n ≤ c) (hz : zs.length = c)
    (hcell : ∀ i, i < zs.length → w.cell? (x.add i) = some (.int .u8 (zs.getD i 0))) (hwz : ∀ k ∈ zs, (Lit.int .u8 k).wf = true) : CodeAt w (some x) n c := by
  refine ⟨hn, hl, ?_⟩
  by_cases h0 : n = 0
  · exact .inl h0
  · right
    obtain ⟨b, off, spot⟩ := x
    have hc := hcell 0 (by omega)
    have hspot : spot = none := by simpa [Addr.add] using World.cell?_spot hc
    subst hspot
    refine ⟨b, off, rfl, ?_, fun j hj => ?_⟩
    · have h1 : w.cell? ⟨b, off, none⟩ = some (.int .u8 (zs.getD 0 0)) := by simpa [Addr.add] using hc
      exact World.block_lt_of_cell? w _ h1
    · have hj' : j < zs.length := by omega
      have h2 := hcell j hj'
      have hadd : (⟨b, off, none⟩ : Addr).add j = ⟨b, off + j, none⟩ := by unfold Addr.add; split <;> simp_all
      rw [hadd] at h2
      have hm : zs.getD j 0 ∈ zs := by
        rw [List.getD_eq_getElem?_getD, List.getElem?_eq_getElem hj']; exact List.getElem_mem hj'
      have hb := bounds_u8 (hwz _ hm)
      refine ⟨(zs.getD j 0).toNat, by omega, ?_⟩
      rw [h2, show (((zs.getD j 0).toNat : Nat) : Int) = zs.getD j 0 by omega]

end Go.Proofs.YtldjeacpkndcbaaDoor

/- Walks: drawn points and blocks. -/
set_option linter.unusedVariables false
set_option linter.unusedSimpArgs false
namespace Go.Proofs.YtldjeacpkndcbaaDoor
open Go.RowKit

theorem rng_all {xs : List Int} (h : ∀ y ∈ xs, Rng y) (j : Nat) : Rng (xs.getD j 0) := by
  rw [List.getD_eq_getElem?_getD]
  cases hg : xs[j]? with
  | none => exact rng_zero
  | some y => exact h y (List.mem_of_getElem? hg)
/-- drawn points: a row of their own, the reader, nothing else changed -/
def DPts (m : Nat) (B g : Nat) (w : World) (e : Ending) (w' : World) : Prop :=
  ∃ v xs, e = .returned v ∧ w'.ownsRow w.heap.size 89 2 v xs.length (prs xs) ∧ Rd w' B g ∧ w.grownBy w' (some g) ∧ xs.length ≤ m ∧ ∀ j, Rng (xs.getD j (0, 0)).1 ∧ Rng (xs.getD j (0, 0)).2
theorem zip_min (ts vs : List Int) : (ts.zip vs).length = min ts.length vs.length := by simp
theorem zip_rng2 {ts vs : List Int} (ht : ∀ j, Rng (ts.getD j 0)) (hv : ∀ j, Rng (vs.getD j 0)) (j : Nat) : Rng ((ts.zip vs).getD j (0, 0)).1 ∧ Rng ((ts.zip vs).getD j (0, 0)).2 := by
  by_cases h : j < (ts.zip vs).length
  · rw [zip_min] at h
    rw [zip_getD ts vs j (by omega) (by omega)]
    exact ⟨ht j, hv j⟩
  · rw [List.getD_eq_getElem?_getD, List.getElem?_eq_none (by omega)]
    exact ⟨rng_zero, rng_zero⟩

set_option maxRecDepth 100000 in
set_option maxHeartbeats 4000000 in
theorem drawnPts_any (m : Nat) (hm : m ≤ 100) (B g : Nat) (w : World) (h : Rd w B g) :
    Calls Tryd.prog 63 #[.pointer (some ⟨g, 0, none⟩), .int .i64 (m : Int)] w (DPts m B g w) := by
  have hgl := h.lt
  obtain ⟨i0, hi, hz0, hz1, hz2⟩ := info_parts info_pt
  have HT := Lib.hid (drawnTimesM_any m hm B g w h)
  have HV := Lib.hid (fun W h => drawnValsM_any m hm B g W h)
  clear h
  go_enter Tryd.func63, Tryd.ntmps63
  go_wp2_with fail
  refine HT.out.mono ?_
  rintro e w2 ⟨v1, ts, rfl, ht, htl, htr⟩
  have HO2 := Lib.hid ht.own
  have HG2 := Lib.hid ht.gr
  have HR2 := Lib.hid ht.rd
  clear ht
  go_wp2_with fail
  refine (HV.out _ HR2.out).mono ?_
  rintro e w3 ⟨v2, vs, rfl, hv, hvl, hvr⟩
  have HG3 := Lib.hid (grown_trans' HG2.out hv.gr)
  have HR3 := Lib.hid hv.rd
  have I1 := IL.of_own (own_grown HO2.out hv.gr hgl) rfl (rng_all htr) (by omega)
  have I2 := IL.of_own hv.own rfl (rng_all hvr) (by omega)
  have HRz := Lib.hid (zip_rng2 (rng_all htr) (rng_all hvr))
  have HZl := Lib.hid (zip_min ts vs)
  have hws : w.heap.size ≤ w3.heap.size := HG3.out.size
  obtain ⟨_, _, At, ct, rfl, ht3⟩ := I1
  obtain ⟨_, _, Av, cv, rfl, hv3⟩ := I2
  have HT3 := Lib.hid ht3
  have HV3 := Lib.hid hv3
  have hown0 : (w3.alloc (.cells #[] 89)).ownsRow w3.heap.size 89 2 (.slice (some ⟨w3.heap.size, 0, none⟩) 0 0) 0 (prs ((ts.zip vs).take 0)) := by
    have h9 := World.ownsRow_made w3 (base := w3.heap.size) (e := 89) (size := 2) #[] 0 (Nat.le_refl _) (by simp [maxLen]) rfl
    simpa [prs] using h9
  have H0 := Lib.hid hown0
  have HBa := Lib.hid (below1 w3 (.cells #[] 89))
  clear hown0 ht3 hv3 hv htr hvr
  go_wp2_with fail
  go_loopw [7, 8] (fun u i wr => ∃ k : Nat, k ≤ (ts.zip vs).length ∧ i = .int .i64 (k : Int) ∧ wr.ownsRow w3.heap.size 89 2 u k (prs ((ts.zip vs).take k)) ∧ Below w3.heap.size w3 wr)
    (fun _ i _ => ts.length - (intOf i).toNat)
  case atStart => exact ⟨0, Nat.zero_le _, by simp, H0.out, HBa.out⟩
  case round =>
    clear H0 HBa
    obtain ⟨k, hk, rfl, hown, hb⟩ := hrel
    have Hb := Lib.hid hb
    have hzb := hb.size
    have HO := Lib.hid hown
    rw [HZl.out] at hk
    by_cases hk1 : k < ts.length
    · by_cases hk2 : k < vs.length
      · obtain ⟨bt, ot, rfl, hbt, hct⟩ : ∃ b off, At = some ⟨b, off, none⟩ ∧ b < w3.heap.size ∧ ∀ j, j < ts.length → w3.cell? ⟨b, off + j, none⟩ = some (.int .i64 (ts.getD j 0)) := by
          rcases HT3.out with h9 | h9
          · rw [h9] at hk1; simp at hk1
          · exact h9
        obtain ⟨bv, ov, rfl, hbv, hcv⟩ : ∃ b off, Av = some ⟨b, off, none⟩ ∧ b < w3.heap.size ∧ ∀ j, j < vs.length → w3.cell? ⟨b, off + j, none⟩ = some (.int .i64 (vs.getD j 0)) := by
          rcases HV3.out with h9 | h9
          · rw [h9] at hk2; simp at hk2
          · exact h9
        have hx : wr.cell? ⟨bt, ot + k, none⟩ = some (.int .i64 (ts.getD k 0)) := (hb.cell (p := ⟨bt, ot + k, none⟩) hbt).trans (hct k hk1)
        have hy : wr.cell? ⟨bv, ov + k, none⟩ = some (.int .i64 (vs.getD k 0)) := (hb.cell (p := ⟨bv, ov + k, none⟩) hbv).trans (hcv k hk2)
        obtain ⟨x, hX⟩ : ∃ x, ts.getD k 0 = x := ⟨_, rfl⟩
        obtain ⟨y, hY⟩ : ∃ y, vs.getD k 0 = y := ⟨_, rfl⟩
        have HTk := Lib.hid (zip_take (ts.zip vs) k x y (by rw [HZl.out]; omega) (by rw [zip_getD ts vs k hk1 hk2, hX, hY]))
        have HK1 : Hid (k + 1 ≤ (ts.zip vs).length) := Lib.hid (by rw [HZl.out]; omega)
        rw [hX] at hx
        rw [hY] at hy
        clear hX hY hown hb hct hcv
        go_wp2_with fail
        have hbt2 : bt < wr.heap.size := by omega
        have hbv2 : bv < wr.heap.size := by omega
        have hS0 : (fun W : World => W.cell? ⟨bt, ot + k, none⟩ = some (.int .i64 x) ∧ W.cell? ⟨bv, ov + k, none⟩ = some (.int .i64 y)) wr.drew := ⟨hx, hy⟩
        refine wp_region_held_drew (S := fun W : World => W.cell? ⟨bt, ot + k, none⟩ = some (.int .i64 x) ∧ W.cell? ⟨bv, ov + k, none⟩ = some (.int .i64 y)) (by kernel_rfl) hS0 ?_
        intro _
        refine wpAnyH_take (i := 0) (v := u7) rfl (by kernel_rfl) (by kernel_rfl) (by kernel_rfl) (fun _ _ _ h => h) (Or.inl ⟨by kernel_rfl, ?t0⟩) (by assumption) ?_
        case t0 =>
          intro W hW
          clear hW
          go_simp
        refine wpAnyH_take (i := 1) (v := .slice (some ⟨bt, ot, none⟩) ts.length ct) rfl (by kernel_rfl) (by kernel_rfl) (by kernel_rfl) (fun _ _ _ h => h) (Or.inl ⟨by kernel_rfl, ?t1⟩) (by assumption) ?_
        case t1 =>
          intro W hW
          clear hW
          go_simp
        refine wpAnyH_take (i := 2) (v := .int .i64 (k : Int)) rfl (by kernel_rfl) (by kernel_rfl) (by kernel_rfl) (fun _ _ _ h => h) (Or.inl ⟨by kernel_rfl, ?t2⟩) (by assumption) ?_
        case t2 =>
          intro W hW
          clear hW
          go_simp
        refine wpAnyH_take (i := 3) (v := .pointer (some ⟨bt, ot + k, none⟩)) rfl (by kernel_rfl) (by kernel_rfl) (by kernel_rfl) (fun _ _ _ h => h) (Or.inl ⟨by kernel_rfl, ?t3⟩) (by assumption) ?_
        case t3 =>
          intro W hW
          clear hW
          go_simp
        refine wpAnyH_take (i := 4) (v := .int .i64 x) rfl (by kernel_rfl) (by kernel_rfl) (by kernel_rfl) (fun _ _ _ h => h) (Or.inl ⟨by kernel_rfl, ?t4⟩) (by assumption) ?_
        case t4 =>
          intro W hW
          obtain ⟨z0, z1⟩ := hW
          go_simp
        refine wpAnyH_take (i := 5) (v := .slice (some ⟨bv, ov, none⟩) vs.length cv) rfl (by kernel_rfl) (by kernel_rfl) (by kernel_rfl) (fun _ _ _ h => h) (Or.inl ⟨by kernel_rfl, ?t5⟩) (by assumption) ?_
        case t5 =>
          intro W hW
          clear hW
          go_simp
        refine wpAnyH_take (i := 6) (v := .int .i64 (k : Int)) rfl (by kernel_rfl) (by kernel_rfl) (by kernel_rfl) (fun _ _ _ h => h) (Or.inl ⟨by kernel_rfl, ?t6⟩) (by assumption) ?_
        case t6 =>
          intro W hW
          clear hW
          go_simp
        refine wpAnyH_take (i := 7) (v := .pointer (some ⟨bv, ov + k, none⟩)) rfl (by kernel_rfl) (by kernel_rfl) (by kernel_rfl) (fun _ _ _ h => h) (Or.inl ⟨by kernel_rfl, ?t7⟩) (by assumption) ?_
        case t7 =>
          intro W hW
          clear hW
          go_simp
        refine wpAnyH_take (i := 8) (v := .int .i64 y) rfl (by kernel_rfl) (by kernel_rfl) (by kernel_rfl) (fun _ _ _ h => h) (Or.inl ⟨by kernel_rfl, ?t8⟩) (by assumption) ?_
        case t8 =>
          intro W hW
          obtain ⟨z0, z1⟩ := hW
          go_simp
        refine wpAnyH_take (i := 9) (v := .agg #[.int .i64 x, .int .i64 y]) rfl (by kernel_rfl) (by kernel_rfl) (by kernel_rfl) (fun _ _ _ h => h) (Or.inl ⟨by kernel_rfl, ?t9⟩) (by assumption) ?_
        case t9 =>
          intro W hW
          clear hW
          go_simp
        refine wpAnyH_ready (rs := [10]) (by kernel_rfl) (by simp) ?_
        refine AllReadyH.cons rfl (fun K10 hK10 => ?_) AllReadyH.nil
        go_simp
        refine hK10.out _ _ (by exact ⟨(World.cell?_alloc_lt _ _ _ (by simpa using hbt2)).trans hx, (World.cell?_alloc_lt _ _ _ (by simpa using hbv2)).trans hy⟩) (fun _ => ?_)
        clear hK10 K10
        refine wpAnyH_ready (rs := [11]) (by kernel_rfl) (by simp) ?_
        refine AllReadyH.cons rfl (fun K11 hK11 => ?_) AllReadyH.nil
        refine step_append_ownQ _ rfl _ _ 35 rfl w3.heap.size 89 i0 (.agg #[.int .i64 0, .int .i64 0]) 2 16 Tryd.underlying35 hi hz0 hz1 hz2 rfl (by decide) _ k (prs ((ts.zip vs).take k)) rfl ((show wr.drew.ownsRow w3.heap.size 89 2 u7 k (prs ((ts.zip vs).take k)) from HO.out).alloc _) ⟨wr.heap.size, 0, none⟩ 1 1 [.int .i64 x, .int .i64 y] rfl rfl (cells_pair wr.drew _ _ _) (by simp [Value.oneCell']) (by unfold maxLen; omega) (by omega) (by simp; omega) ?_
        intro v' w5 hown' hgrow _
        have hb5 : Below w3.heap.size w3 w5 := (Hb.out.drew.alloc (by simpa using hzb) _).grown hgrow (by simp; omega) (fun k hk => (HO.out.lt _ hk).1)
        have hown5 : w5.ownsRow w3.heap.size 89 2 v' (k + 1) (prs ((ts.zip vs).take (k + 1))) := by rw [HTk.out, prs_append]; exact hown'
        clear hown' hgrow
        have hS5 : w5.cell? ⟨bt, ot + k, none⟩ = some (.int .i64 x) ∧ w5.cell? ⟨bv, ov + k, none⟩ = some (.int .i64 y) := ⟨(hb5.cell (p := ⟨bt, ot + k, none⟩) hbt).trans ((Hb.out.cell (p := ⟨bt, ot + k, none⟩) hbt).symm.trans hx), (hb5.cell (p := ⟨bv, ov + k, none⟩) hbv).trans ((Hb.out.cell (p := ⟨bv, ov + k, none⟩) hbv).symm.trans hy)⟩
        refine hK11.out _ _ hS5 (fun _ => ?_)
        clear hK11 K11
        refine wpAnyH_ready (rs := [12]) (by kernel_rfl) (by simp) ?_
        refine AllReadyH.cons rfl (fun K12 hK12 => ?_) AllReadyH.nil
        go_simp
        refine hK12.out _ _ hS5 (fun _ => ?_)
        clear hK12 K12
        refine wpAnyH_done (by kernel_rfl) ?_ _
        have HB5 := Lib.hid hb5
        have HO5 := Lib.hid hown5
        clear hb5 hown5 hS5 hS0 hx hy
        go_wp2_with fail
        first
        | (go_roundw; (case rel => exact ⟨k + 1, HK1.out, by go_num, HO5.out, HB5.out⟩); (case measure => simp [intOf]; omega))
        | exact ⟨⟨k + 1, HK1.out, by go_num, HO5.out, HB5.out⟩, by simp [intOf]; omega⟩
      · have he : k = (ts.zip vs).length := by rw [HZl.out]; omega
        have HE := Lib.hid he
        clear he hown hb
        go_wp2_with fail
        go_ret
        exact ⟨_, _, rfl, by rw [← HE.out]; have h9 := u_ownsRow_base HO.out hws; rw [show (ts.zip vs).take k = ts.zip vs from by rw [HE.out, List.take_length]] at h9; exact h9, Rd.below HR3.out Hb.out, grown_below2 HG3.out Hb.out, by rw [← HE.out]; omega, HRz.out⟩
    · have he : k = (ts.zip vs).length := by rw [HZl.out]; omega
      have HE := Lib.hid he
      clear he hown hb
      go_wp2_with fail
      go_ret
      exact ⟨_, _, rfl, by rw [← HE.out]; have h9 := u_ownsRow_base HO.out hws; rw [show (ts.zip vs).take k = ts.zip vs from by rw [HE.out, List.take_length]] at h9; exact h9, Rd.below HR3.out Hb.out, grown_below2 HG3.out Hb.out, by rw [← HE.out]; omega, HRz.out⟩
end Go.Proofs.YtldjeacpkndcbaaDoor
