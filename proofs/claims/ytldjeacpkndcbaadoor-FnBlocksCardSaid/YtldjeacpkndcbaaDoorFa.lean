/- The table out of the row's condition; the walk of the law FnExactTrail. -/
import Derived.Test.YtldjeacpkndcbaaDoorVt
import Derived.Test.YtldjeacpkndcbaaDoorRows
import Derived.LaidMore
import Derived.Stop.Joined
import Derived.ProofKit
import Derived.Test.YtldjeacpkndcbaaDoorEh
import Derived.Test.YtldjeacpkndcbaaDoorRc
set_option linter.unusedVariables false
set_option linter.unusedSimpArgs false
namespace Go.Proofs.YtldjeacpkndcbaaDoor
open Go.RowKit Go.ChangeShapes Go.WideShapes

theorem gTab : Tryd.prog.globalNamed "math/bits.deBruijn64tab" = some 0 := by kernel_rfl
theorem tTab : (Tryd.prog.globals[0]?).map (·.type) = some 157 := by kernel_rfl
theorem tab_of {W : World} (h : laidMetH Tryd.prog [("math/bits.deBruijn64tab", Rows.laid_math_bits_deBruijn64tab)] W) : Tab W := by
  rw [MakeChecks.laidMetH_plain _ _ _ (by kernel_rfl)] at h
  obtain ⟨ps, ⟨g0, t0, cs0, f0, p0, q0, hg0, ht0, hv0, hd0, _⟩, _⟩ := h
  obtain rfl := Option.some.inj (gTab.symm.trans hg0)
  obtain rfl := Option.some.inj (tTab.symm.trans ht0)
  obtain ⟨xs, m1, rfl, hx1, hlen, hn3, hel⟩ := DataW.trod_array Tryd.underlying157 hd0
  have c5 : Tryd.prog.cellsOf 5 = 1 := by kernel_rfl
  intro j hj
  have h0 := hel j hj
  rw [c5, Nat.mul_one] at h0
  have hxj : j < xs.length := by omega
  rw [List.getElem?_eq_getElem hxj] at h0
  obtain ⟨k, e1, e2, _⟩ := DataW.trod_int Tryd.underlying5 h0
  have hl : Rows.laid_math_bits_deBruijn64tab (H := Unit) = .agg (Lib.deBruijn64tab.map fun y : Nat => .lit (.int .u8 (y : Int))) := rfl
  have hm : Lib.deBruijn64tab.map (fun y : Nat => (DataW.lit (Lit.int .u8 (y : Int)) : DataW Unit)) = xs.map (·.1) := by
    have := congrArg Prod.fst hx1
    rw [hl] at this
    simpa using this
  have hj2 : (Lib.deBruijn64tab.map (fun y : Nat => (DataW.lit (Lit.int .u8 (y : Int)) : DataW Unit)))[j]? = (xs.map (·.1))[j]? := by rw [hm]
  have htl : j < Lib.deBruijn64tab.length := by simpa [Lib.deBruijn64tab] using hj
  rw [List.getElem?_map, List.getElem?_map, List.getElem?_eq_getElem htl, List.getElem?_eq_getElem hxj, e2] at hj2
  have hk : k = ((Lib.deBruijn64tab[j] : Nat) : Int) := by simpa using hj2.symm
  have hcell := World.var?_cell gTab hv0 j
  have hd : cs0.toList[j]? = some (.int .u8 k) := by
    have h3 : (List.take 1 (List.drop j cs0.toList))[0]? = some (.int .u8 k) := by rw [e1]; rfl
    simpa using h3
  rw [hcell, show cs0[j]? = cs0.toList[j]? by simp, hd, hk, List.getD_eq_getElem?_getD, List.getElem?_eq_getElem htl]
  rfl

end Go.Proofs.YtldjeacpkndcbaaDoor

/- Walks: drawn values. -/
set_option linter.unusedVariables false
set_option linter.unusedSimpArgs false
namespace Go.Proofs.YtldjeacpkndcbaaDoor
open Go.RowKit

/-- the drawn list's row, the reader's block, and nothing else changed -/
structure TDv (w : World) (B g : Nat) (u : Value) (L : List Int) (wr : World) : Prop where
  own : wr.ownsRow w.heap.size 2 1 u L.length (ints L)
  rd : Rd wr B g
  gr : w.grownBy wr (some g)
theorem TDv.read {w wr w2 : World} {B g : Nat} {u : Value} {L : List Int} (p : TDv w B g u L wr) (hgl : g < w.heap.size) (hrd : Rd w2 B g) (hg2 : wr.grownBy w2 (some g)) : TDv w B g u L w2 :=
  ⟨p.own.kept hg2 (by
    by_cases hx : u.ownBlock = none
    · exact .inl hx
    · right; intro he; have := (p.own.lt g he).1; omega), hrd, grown_trans' p.gr hg2⟩
theorem TDv.app {w wr w1 : World} {B g : Nat} {u v' : Value} {L : List Int} {y : Int} {o : Obj} (p : TDv w B g u L wr) (hgl : g < w.heap.size)
    (hown : w1.ownsRow w.heap.size 2 1 v' (L.length + 1) (ints L ++ [.int .i64 y])) (hgrow : (wr.alloc o).grownBy w1 u.ownBlock) : TDv w B g v' (L ++ [y]) w1 := by
  have hrow : ∀ k, u.ownBlock = some k → w.heap.size ≤ k := fun k hk => (p.own.lt k hk).1
  have hz := p.gr.size
  have hB : B ≤ g := (by obtain ⟨A, n, c, q, h⟩ := p.rd; exact h.2.2.2.2.1)
  refine ⟨?_, (Rd.alloc p.rd _).grown hgrow (fun k hk => by have := hrow k hk; omega), hgrow.os.trans p.gr.os, hgrow.tape.trans p.gr.tape, hgrow.output.trans p.gr.output, by have := hgrow.size; simp at this; omega, fun i hi hne => ?_⟩
  · rw [ints_append]; simpa [ints] using hown
  · rw [hgrow.block i (by simp; omega) (by intro he; have := hrow i he.symm; omega), Below.heap_alloc _ _ _ (by omega)]
    exact p.gr.block i hi hne

def ValsPost (most : Nat) (B g : Nat) (w : World) (e : Ending) (w' : World) : Prop :=
  ∃ v xs, e = .returned v ∧ TDv w B g v xs w' ∧ xs.length ≤ most ∧ ∀ y ∈ xs, Rng y

set_option maxRecDepth 100000 in
set_option maxHeartbeats 4000000 in
theorem drawnValsM_any (m : Nat) (hm : m ≤ 100) (B g : Nat) (w : World) (h : Rd w B g) :
    Calls Tryd.prog 46 #[.pointer (some ⟨g, 0, none⟩), .int .i64 (m : Int)] w (ValsPost m B g w) := by
  obtain ⟨i0, hi, hz0, hz1, hz2⟩ := info_parts info_i64
  have hgl := h.lt
  have H := Lib.hid h
  clear h
  go_enter Tryd.func46, Tryd.ntmps46
  go_wp2_with fail
  refine (num_any B g _ (Rd.alloc H.out _)).mono ?_
  rintro e w1 ⟨v, rfl, ⟨a0, rfl, ha0, ha1⟩, hrd1, hgr1⟩
  have hown : w1.ownsRow w.heap.size 2 1 (.slice (some ⟨w.heap.size, 0, none⟩) 0 0) 0 (ints []) := by
    have h0 := World.ownsRow_made w (base := w.heap.size) (e := 2) (size := 1) #[] 0 (Nat.le_refl _) (by simp [maxLen]) rfl
    exact h0.kept hgr1 (.inr (by simp [Value.ownBlock]; omega))
  have T1 := Lib.hid (show TDv w B g (.slice (some ⟨w.heap.size, 0, none⟩) 0 0) [] w1 from ⟨hown, hrd1, grown_trans' (World.grownBy_alloc w _ _) hgr1⟩)
  clear hown hrd1 hgr1 H
  go_wp2_with fail
  refine (below_any B g ((m : Int) + 1) _ T1.out.rd (by omega) (by omega)).mono ?_
  rintro e w2 ⟨v, rfl, ⟨x, rfl, hx0, hx1⟩, hrd2, hgr2⟩
  have T2 := Lib.hid (T1.out.read hgl hrd2 hgr2)
  clear hrd2 hgr2 T1
  go_wp2_with fail
  go_loopw [5, 6, 7] (fun u a i wr => ∃ (j v : Int) (L : List Int), i = .int .i64 j ∧ a = .int .i64 v ∧ 0 ≤ j ∧ (L.length : Int) + j ≤ (m : Int) ∧ Rng v ∧ Hid (∀ y ∈ L, Rng y) ∧ Hid (TDv w B g u L wr))
    (fun _ _ i _ => (intOf i).toNat)
  case atStart => exact ⟨x, a0, [], rfl, rfl, hx0, by simp; omega, ⟨ha0, ha1⟩, Lib.hid (fun _ h => by cases h), T2⟩
  case round =>
    clear T2
    obtain ⟨j, v, L, rfl, rfl, hj0, hj1, hv, HL, T⟩ := hrel
    have Hv := Lib.hid hv
    clear hv
    by_cases hlt : 0 < j
    · have hown := T.out.own
      have hz := T.out.gr.size
      go_wp2_with (at_builtin; refine wpList_append_own _ rfl _ _ 24 rfl w.heap.size 2 i0 (.int .i64 0) 1 8 Tryd.underlying24 hi hz0 hz1 hz2 rfl (by decide) _ _ _ rfl (hown.alloc _) ⟨wr.heap.size, 0, none⟩ 1 1 [.int .i64 v] rfl rfl ?c1 ?c2 ?c3 ?c4 ?c5 ?_)
      case c1 => exact cell_one_new _ _ _
      case c2 => intro q hq; simp at hq; subst hq; rfl
      case c3 => unfold maxLen; omega
      case c4 => omega
      case c5 => simp; omega
      intro v' w4 hown3 hgrow _
      have T4 := Lib.hid (T.out.app hgl hown3 hgrow)
      have HL4 : Hid (∀ y ∈ L ++ [v], Rng y) := Lib.hid (fun y hy => by
        rcases List.mem_append.1 hy with hy | hy
        · exact HL.out y hy
        · obtain rfl : y = v := by simpa using hy
          exact Hv.out)
      have hlen : ((L ++ [v]).length : Int) = (L.length : Int) + 1 := by simp
      generalize hLL : L ++ [v] = L4 at *
      clear hLL
      clear hown3 hgrow hown T HL
      go_wp2_with fail
      refine (below_any B g 4 _ T4.out.rd (by omega) (by omega)).mono ?_
      rintro e w5 ⟨_, rfl, ⟨c, rfl, hc0, hc1⟩, hrd, hgr⟩
      have T5 := Lib.hid (T4.out.read hgl hrd hgr)
      clear hrd hgr T4
      rcases (show c = 0 ∨ c = 1 ∨ c = 2 ∨ 3 ≤ c by omega) with rfl | rfl | rfl | hc3
      · go_wp2_with fail
        refine (below_any B g 9 _ T5.out.rd (by omega) (by omega)).mono ?_
        rintro e w6 ⟨_, rfl, ⟨d, rfl, hd0, hd1⟩, hrd, hgr⟩
        have T6 := Lib.hid (T5.out.read hgl hrd hgr)
        clear hrd hgr T5
        go_wp2_with fail
        refine ⟨⟨j - 1, _, L4, rfl, rfl, by omega, by omega, ?_, HL4, T6⟩, by simp [intOf]; omega⟩
        first | exact uz_wrap64_bd _ | exact xor_rng _ _
      · go_wp2_with fail
        refine (below_any B g 64 _ T5.out.rd (by omega) (by omega)).mono ?_
        rintro e w6 ⟨_, rfl, ⟨d, rfl, hd0, hd1⟩, hrd, hgr⟩
        have T6 := Lib.hid (T5.out.read hgl hrd hgr)
        clear hrd hgr T5
        go_wp2_with fail
        refine ⟨⟨j - 1, _, L4, rfl, rfl, by omega, by omega, ?_, HL4, T6⟩, by simp [intOf]; omega⟩
        first | exact uz_wrap64_bd _ | exact xor_rng _ _
      · go_wp2_with fail
        refine (once_any B g 3 _ T5.out.rd (by omega) (by omega)).mono ?_
        rintro e w6 ⟨_, rfl, ⟨b, rfl⟩, hrd, hgr⟩
        have T6 := Lib.hid (T5.out.read hgl hrd hgr)
        clear hrd hgr T5
        cases b with
        | false =>
          go_wp2_with fail
          exact ⟨⟨j - 1, v, L4, rfl, rfl, by omega, by omega, Hv.out, HL4, T6⟩, by simp [intOf]; omega⟩
        | true =>
          go_wp2_with fail
          refine (num_any B g _ T6.out.rd).mono ?_
          rintro e w7 ⟨_, rfl, ⟨d, rfl, hd0, hd1⟩, hrd, hgr⟩
          have T7 := Lib.hid (T6.out.read hgl hrd hgr)
          clear hrd hgr T6
          go_wp2_with fail
          exact ⟨⟨j - 1, d, L4, rfl, rfl, by omega, by omega, ⟨hd0, hd1⟩, HL4, T7⟩, by simp [intOf]; omega⟩
      · have e0 : (c == 0) = false := by simp; omega
        have e1 : (c == 1) = false := by simp; omega
        have e2 : (c == 2) = false := by simp; omega
        go_wp2_with fail
        exact ⟨⟨j - 1, v, L4, rfl, rfl, by omega, by omega, Hv.out, HL4, T5⟩, by simp [intOf]; omega⟩
    · go_wp2_with fail
      go_ret
      exact ⟨u5, L, rfl, T.out, by omega, HL.out⟩
theorem drawnVals_any (B g : Nat) (w : World) (h : Rd w B g) :
    Calls Tryd.prog 46 #[.pointer (some ⟨g, 0, none⟩), .int .i64 8] w (ValsPost 8 B g w) := drawnValsM_any 8 (by omega) B g w h

def IntsPost8v (w : World) (e : Ending) (w' : World) : Prop :=
  ∃ v xs, e = .returned v ∧ w'.ownsRow w.heap.size 2 1 v xs.length (ints xs) ∧ xs.length ≤ 8 ∧ (∀ x ∈ xs, Rng x) ∧ Below w.heap.size w w'
set_option maxRecDepth 100000 in
set_option maxHeartbeats 1000000 in
theorem DrawValuesBits_any (A : Option Addr) (n c : Nat) (w : World) (h : CodeAt w A n c) :
    Calls Tryd.prog 11 #[.slice A n c] w (IntsPost8v w) := by
  have H := Lib.hid h
  clear h
  go_enter Tryd.func11, Tryd.ntmps11
  go_wp2_with fail
  refine (open_any A n c _ H.out).mono ?_
  rintro e w1 ⟨rfl, hrd1, hb1⟩
  have Hrd1 := Lib.hid hrd1
  have Hb1 := Lib.hid hb1
  clear hrd1 hb1
  go_wp2_with fail
  refine (drawnVals_any _ _ _ Hrd1.out).mono ?_
  rintro e w2 ⟨v, xs, rfl, ht, hxl, hxr⟩
  have hown := u_ownsRow_base ht.own Hb1.out.size
  have hb2 := Hb1.out.grown ht.gr Hb1.out.size (fun k hk => by injection hk with hk; omega)
  have Hxr := Lib.hid hxr
  clear ht hxr
  go_wp2_with fail
  go_ret
  exact ⟨v, xs, rfl, hown, hxl, Hxr.out, hb2⟩
end Go.Proofs.YtldjeacpkndcbaaDoor
