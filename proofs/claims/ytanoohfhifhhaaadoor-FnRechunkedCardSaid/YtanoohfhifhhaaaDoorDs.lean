/- Walks: drawn times. -/
import Derived.Test.YtanoohfhifhhaaaDoorDb
import Derived.Test.YtanoohfhifhhaaaDoorRc
import Derived.Test.YtanoohfhifhhaaaDoorVt
import Derived.Test.YtanoohfhifhhaaaDoorRows
import Derived.LaidMore
import Derived.Stop.Joined
import Derived.ProofKit
import Derived.Test.YtanoohfhifhhaaaDoorEh
import Derived.Deep.RegionLaw
import Derived.OpenShut
import Derived.Test.YtanoohfhifhhaaaDoorDj
set_option linter.unusedVariables false
set_option linter.unusedSimpArgs false
namespace Go.Proofs.YtanoohfhifhhaaaDoor
open Go.RowKit

set_option maxRecDepth 100000 in
set_option maxHeartbeats 1000000 in
theorem below_big (B g : Nat) (w : World) (h : Rd w B g) :
    Calls Tryd.prog 55 #[.pointer (some ⟨g, 0, none⟩), .int .i64 1073741824] w (RdPost (IntIn 0 1073741823) B g w) := by
  have H := Lib.hid h
  clear h
  go_enter Tryd.func55, Tryd.ntmps55
  go_wp2_with fail
  refine (next_any B g _ H.out).mono ?_
  rintro e w1 ⟨v, rfl, ⟨x, rfl, hx0, hx1⟩, hrd, hgr⟩
  have Hrd := Lib.hid hrd
  clear hrd
  go_wp2_with fail
  refine (next_any B g _ Hrd.out).mono ?_
  rintro e w2 ⟨v, rfl, ⟨y, rfl, hy0, hy1⟩, hrd2, hgr2⟩
  have Hrd2 := Lib.hid hrd2
  clear hrd2
  have hm0 := Int.emod_nonneg (x * 256 + y) (b := 1073741824) (by omega)
  have hm1 := Int.emod_lt_of_pos (x * 256 + y) (b := 1073741824) (by omega)
  have hgr3 := grown_trans' hgr hgr2
  clear hgr hgr2
  go_wp2_with fail
  go_ret
  exact ⟨_, rfl, ⟨(x * 256 + y) % 1073741824, rfl, hm0, by omega⟩, Hrd2.out, hgr3⟩

/-- the drawn list's row, the reader's block, and nothing else changed -/
structure TD (w : World) (B g : Nat) (u : Value) (L : List Int) (wr : World) : Prop where
  own : wr.ownsRow w.heap.size 2 1 u L.length (ints L)
  rd : Rd wr B g
  gr : w.grownBy wr (some g)
theorem TD.read {w wr w2 : World} {B g : Nat} {u : Value} {L : List Int} (p : TD w B g u L wr) (hgl : g < w.heap.size) (hrd : Rd w2 B g) (hg2 : wr.grownBy w2 (some g)) : TD w B g u L w2 :=
  ⟨p.own.kept hg2 (by
    by_cases hx : u.ownBlock = none
    · exact .inl hx
    · right; intro he; have := (p.own.lt g he).1; omega), hrd, grown_trans' p.gr hg2⟩
theorem TD.app {w wr w1 : World} {B g : Nat} {u v' : Value} {L : List Int} {y : Int} {o : Obj} (p : TD w B g u L wr) (hgl : g < w.heap.size)
    (hown : w1.ownsRow w.heap.size 2 1 v' (L.length + 1) (ints L ++ [.int .i64 y])) (hgrow : (wr.alloc o).grownBy w1 u.ownBlock) : TD w B g v' (L ++ [y]) w1 := by
  have hrow : ∀ k, u.ownBlock = some k → w.heap.size ≤ k := fun k hk => (p.own.lt k hk).1
  have hz := p.gr.size
  have hB : B ≤ g := (by obtain ⟨A, n, c, q, h⟩ := p.rd; exact h.2.2.2.2.1)
  refine ⟨?_, (Rd.alloc p.rd _).grown hgrow (fun k hk => by have := hrow k hk; omega), hgrow.os.trans p.gr.os, hgrow.tape.trans p.gr.tape, hgrow.output.trans p.gr.output, by have := hgrow.size; simp at this; omega, fun i hi hne => ?_⟩
  · rw [ints_append]; simpa [ints] using hown
  · rw [hgrow.block i (by simp; omega) (by intro he; have := hrow i he.symm; omega), Below.heap_alloc _ _ _ (by omega)]
    exact p.gr.block i hi hne
theorem grown_setNew' {a w : World} {row : Option Nat} (h : a.grownBy w row) {p : Addr} (hp : a.heap.size ≤ p.block) (u : Value) : a.grownBy (w.setCell p u) row :=
  ⟨h.os, h.tape, h.output, by simpa [World.setCell] using h.size, fun k hk hne => (Below.heap_setCell w p u k (by omega)).trans (h.block k hk hne)⟩
def TimesPost (most : Nat) (B g : Nat) (w : World) (e : Ending) (w' : World) : Prop :=
  ∃ v xs, e = .returned v ∧ TD w B g v xs w' ∧ xs.length ≤ most ∧ ∀ y ∈ xs, Rng y

set_option maxRecDepth 100000 in
set_option maxHeartbeats 4000000 in
theorem drawnTimesM_any (m : Nat) (hm : m ≤ 100) (B g : Nat) (w : World) (h : Rd w B g) :
    Calls Tryd.prog 68 #[.pointer (some ⟨g, 0, none⟩), .int .i64 (m : Int)] w (TimesPost m B g w) := by
  obtain ⟨i0, hi, hz0, hz1, hz2⟩ := info_parts info_i64
  have hgl := h.lt
  have H := Lib.hid h
  clear h
  go_enter Tryd.func68, Tryd.ntmps68
  go_wp2_with fail
  refine (below_any B g 1000 _ (Rd.alloc H.out _) (by omega) (by omega)).mono ?_
  rintro e w1 ⟨v, rfl, ⟨a0, rfl, ha0, ha1⟩, hrd1, hgr1⟩
  have hown : w1.ownsRow w.heap.size 2 1 (.slice (some ⟨w.heap.size, 0, none⟩) 0 0) 0 (ints []) := by
    have h0 := World.ownsRow_made w (base := w.heap.size) (e := 2) (size := 1) #[] 0 (Nat.le_refl _) (by simp [maxLen]) rfl
    exact h0.kept hgr1 (.inr (by simp [Value.ownBlock]; omega))
  have T1 := Lib.hid (show TD w B g (.slice (some ⟨w.heap.size, 0, none⟩) 0 0) [] w1 from ⟨hown, hrd1, grown_trans' (World.grownBy_alloc w _ _) hgr1⟩)
  clear hown hrd1 hgr1 H
  go_wp2_with fail
  refine (below_any B g ((m : Int) + 1) _ T1.out.rd (by omega) (by omega)).mono ?_
  rintro e w2 ⟨v, rfl, ⟨x, rfl, hx0, hx1⟩, hrd2, hgr2⟩
  have T2 := Lib.hid (T1.out.read hgl hrd2 hgr2)
  clear hrd2 hgr2 T1
  go_wp2_with fail
  go_loopw [5, 6, 7, 8] (fun u a s i wr => ∃ (j at_ st : Int) (L : List Int), i = .int .i64 j ∧ a = .int .i64 at_ ∧ s = .int .i64 st ∧ 0 ≤ j ∧ (L.length : Int) + j ≤ (m : Int) ∧ 0 ≤ at_ ∧ at_ ≤ 1000 + 1073741824 * (L.length : Int) ∧ 0 ≤ st ∧ st ≤ 1073741824 ∧ Hid (∀ y ∈ L, Rng y) ∧ Hid (TD w B g u L wr))
    (fun _ _ _ i _ => (intOf i).toNat)
  case atStart => exact ⟨x, a0, 10, [], rfl, rfl, rfl, hx0, by simp; omega, ha0, by simp; omega, by omega, by omega, Lib.hid (fun _ h => by cases h), T2⟩
  case round =>
    clear T2
    obtain ⟨j, at_, st, L, rfl, rfl, rfl, hj0, hj1, ha0, ha1, hs0, hs1, HL, T⟩ := hrel
    by_cases hlt : 0 < j
    · have hown := T.out.own
      have hz := T.out.gr.size
      have hwa : wrap64 (at_ + st) = at_ + st := by unfold wrap64; omega
      go_wp2_with (at_builtin; refine wpList_append_own _ rfl _ _ 94 rfl w.heap.size 2 i0 (.int .i64 0) 1 8 Tryd.underlying94 hi hz0 hz1 hz2 rfl (by decide) _ _ _ rfl (hown.alloc _) ⟨wr.heap.size, 0, none⟩ 1 1 [.int .i64 at_] rfl rfl ?c1 ?c2 ?c3 ?c4 ?c5 ?_)
      case c1 => exact cell_one_new _ _ _
      case c2 => intro q hq; simp at hq; subst hq; rfl
      case c3 => unfold maxLen; omega
      case c4 => omega
      case c5 => simp; omega
      intro v' w4 hown3 hgrow _
      have T4 := Lib.hid (T.out.app hgl hown3 hgrow)
      have HL4 : Hid (∀ y ∈ L ++ [at_], Rng y) := Lib.hid (fun y hy => by
        rcases List.mem_append.1 hy with hy | hy
        · exact HL.out y hy
        · obtain rfl : y = at_ := by simpa using hy
          exact ⟨by omega, by omega⟩)
      have hlen : ((L ++ [at_]).length : Int) = (L.length : Int) + 1 := by simp
      generalize hLL : L ++ [at_] = L4 at *
      clear hLL
      clear hown3 hgrow hown T HL
      go_wp2_with fail
      refine (below_any B g 6 _ T4.out.rd (by omega) (by omega)).mono ?_
      rintro e w5 ⟨v, rfl, ⟨c, rfl, hc0, hc1⟩, hrd, hgr⟩
      have T5 := Lib.hid (T4.out.read hgl hrd hgr)
      clear hrd hgr T4
      rcases (show c = 0 ∨ c = 1 ∨ c = 2 ∨ 3 ≤ c by omega) with rfl | rfl | rfl | hc3
      · go_wp2_with fail
        refine (below_any B g 100 _ T5.out.rd (by omega) (by omega)).mono ?_
        rintro e w6 ⟨v, rfl, ⟨d, rfl, hd0, hd1⟩, hrd, hgr⟩
        have T6 := Lib.hid (T5.out.read hgl hrd hgr)
        have hwd : wrap64 (at_ + (1 + d)) = at_ + (1 + d) := by unfold wrap64; omega
        clear hrd hgr T5
        go_wp2_with fail
        refine ⟨⟨j - 1, at_ + (1 + d), (1 + d), L4, rfl, rfl, rfl, by omega, by omega, by omega, by omega, by omega, by omega, HL4, T6⟩, by simp [intOf]; omega⟩
      · go_wp2_with fail
        refine (below_any B g 5000 _ T5.out.rd (by omega) (by omega)).mono ?_
        rintro e w6 ⟨v, rfl, ⟨d, rfl, hd0, hd1⟩, hrd, hgr⟩
        have T6 := Lib.hid (T5.out.read hgl hrd hgr)
        have hwd : wrap64 (at_ + (1 + d)) = at_ + (1 + d) := by unfold wrap64; omega
        clear hrd hgr T5
        go_wp2_with fail
        refine ⟨⟨j - 1, at_ + (1 + d), (1 + d), L4, rfl, rfl, rfl, by omega, by omega, by omega, by omega, by omega, by omega, HL4, T6⟩, by simp [intOf]; omega⟩
      · go_wp2_with fail
        refine (once_any B g 4 _ T5.out.rd (by omega) (by omega)).mono ?_
        rintro e w6 ⟨v, rfl, ⟨b, rfl⟩, hrd, hgr⟩
        have T6 := Lib.hid (T5.out.read hgl hrd hgr)
        clear hrd hgr T5
        cases b with
        | false =>
          go_wp2_with fail
          refine ⟨⟨j - 1, at_ + st, st, L4, rfl, rfl, rfl, by omega, by omega, by omega, by omega, by omega, by omega, HL4, T6⟩, by simp [intOf]; omega⟩
        | true =>
          go_wp2_with fail
          refine (below_big B g _ T6.out.rd).mono ?_
          rintro e w7 ⟨v, rfl, ⟨d, rfl, hd0, hd1⟩, hrd, hgr⟩
          have T7 := Lib.hid (T6.out.read hgl hrd hgr)
          have hwd : wrap64 (at_ + d) = at_ + d := by unfold wrap64; omega
          clear hrd hgr T6
          go_wp2_with fail
          refine ⟨⟨j - 1, at_ + d, d, L4, rfl, rfl, rfl, by omega, by omega, by omega, by omega, by omega, by omega, HL4, T7⟩, by simp [intOf]; omega⟩
      · have e0 : (c == 0) = false := by simp; omega
        have e1 : (c == 1) = false := by simp; omega
        have e2 : (c == 2) = false := by simp; omega
        go_wp2_with fail
        refine ⟨⟨j - 1, at_ + st, st, L4, rfl, rfl, rfl, by omega, by omega, by omega, by omega, by omega, by omega, HL4, T5⟩, by simp [intOf]; omega⟩
    · go_wp2_with fail
      refine (once_any B g 30 _ T.out.rd (by omega) (by omega)).mono ?_
      rintro e w6 ⟨v, rfl, ⟨b, rfl⟩, hrd, hgr⟩
      have T6 := Lib.hid (T.out.read hgl hrd hgr)
      clear hrd hgr T
      cases b with
      | false =>
        go_wp2_with fail
        go_ret
        exact ⟨_, L, rfl, T6.out, by omega, HL.out⟩
      | true =>
        rcases Go.Joins.ownsRow_forms T6.out.own with ⟨rfl, hL0⟩ | ⟨ga, ca, rfl⟩
        · go_wp2_with fail
          go_ret
          exact ⟨_, L, rfl, T6.out, by omega, HL.out⟩
        · by_cases hl1 : 1 < L.length
          · go_wp2_with fail
            refine (off_any B g 0 1000000000000 _ T6.out.rd (by omega) (by omega) (by omega) (by omega)).mono ?_
            rintro e w7 ⟨v, rfl, ⟨z, rfl, hz0', hz1'⟩, hrd, hgr⟩
            have T7 := Lib.hid (T6.out.read hgl hrd hgr)
            clear hrd hgr T6
            have hown := T7.out.own
            have hcell : w7.cell? ⟨ga, 1, none⟩ = some (.int .i64 (L.getD 1 0)) := by
              rw [hown.cellAt _ (by omega)]; exact ints_get _ _ (by omega)
            have hfro : w7.frozen? ⟨ga, 1, none⟩ = false := hown.frozenAt _
            have hst := (hown.stored 1 (.int .i64 z)).1
            rw [ints_set] at hst
            have hbase := (hown.lt ga rfl).1
            have hBg : B ≤ g := by obtain ⟨A, n, c, q, h⟩ := T7.out.rd; exact h.2.2.2.2.1
            have T8 : Hid (TD w B g (.slice (some ⟨ga, 0, none⟩) L.length ca) (L.set 1 z) (w7.setCell ⟨ga, 1, none⟩ (.int .i64 z))) :=
              Lib.hid ⟨by simpa using hst, Rd.setCell T7.out.rd (show B ≤ ga by omega) (show g ≠ ga by omega) _, grown_setNew' T7.out.gr hbase _⟩
            have HL8 : Hid (∀ y ∈ L.set 1 z, Rng y) := Lib.hid (fun y hy => by
              rcases List.mem_or_eq_of_mem_set hy with hy | rfl
              · exact HL.out y hy
              · exact ⟨hz0', hz1'⟩)
            clear hown hst hbase
            go_wp2_with fail
            go_ret
            exact ⟨_, L.set 1 z, rfl, T8.out, by simp; omega, HL8.out⟩
          · go_wp2_with fail
            go_ret
            exact ⟨_, L, rfl, T6.out, by omega, HL.out⟩
theorem drawnTimes_any (B g : Nat) (w : World) (h : Rd w B g) :
    Calls Tryd.prog 68 #[.pointer (some ⟨g, 0, none⟩), .int .i64 8] w (TimesPost 8 B g w) := drawnTimesM_any 8 (by omega) B g w h

def IntsPost8 (w : World) (e : Ending) (w' : World) : Prop :=
  ∃ v xs, e = .returned v ∧ w'.ownsRow w.heap.size 2 1 v xs.length (ints xs) ∧ xs.length ≤ 8 ∧ (∀ x ∈ xs, Rng x) ∧ Below w.heap.size w w'
end Go.Proofs.YtanoohfhifhhaaaDoor

/- The table out of the row's condition; the walk of the law FnExactTrail. -/
set_option linter.unusedVariables false
set_option linter.unusedSimpArgs false
namespace Go.Proofs.YtanoohfhifhhaaaDoor
open Go.RowKit Go.ChangeShapes Go.WideShapes

theorem gTab : Tryd.prog.globalNamed "math/bits.deBruijn64tab" = some 0 := by kernel_rfl
theorem tTab : (Tryd.prog.globals[0]?).map (·.type) = some 157 := by kernel_rfl
theorem tab_of {W : World} (h : laidMetH Tryd.prog [("math/bits.deBruijn64tab", Rows.laid_math_bits_deBruijn64tab)] W) : Tab W := by
  rw [MakeChecks.laidMetH_plain _ _ _ (by kernel_rfl)] at h
  obtain ⟨ps, ⟨g0, t0, cs0, f0, p0, q0, hg0, ht0, hv0, hd0, _⟩, _⟩ := h
  obtain rfl := Option.some.inj (gTab.symm.trans hg0)
  obtain rfl := Option.some.inj (tTab.symm.trans ht0)
  obtain ⟨xs, m1, rfl, hx1, hlen, hn3, hel⟩ := DataW.trod_array Tryd.underlying157 hd0
  have c5 : Tryd.prog.cellsOf 5 = 1 := by kernel_rfl
  intro j hj
  have h0 := hel j hj
  rw [c5, Nat.mul_one] at h0
  have hxj : j < xs.length := by omega
  rw [List.getElem?_eq_getElem hxj] at h0
  obtain ⟨k, e1, e2, _⟩ := DataW.trod_int Tryd.underlying5 h0
  have hl : Rows.laid_math_bits_deBruijn64tab (H := Unit) = .agg (Lib.deBruijn64tab.map fun y : Nat => .lit (.int .u8 (y : Int))) := rfl
  have hm : Lib.deBruijn64tab.map (fun y : Nat => (DataW.lit (Lit.int .u8 (y : Int)) : DataW Unit)) = xs.map (·.1) := by
    have := congrArg Prod.fst hx1
    rw [hl] at this
    simpa using this
  have hj2 : (Lib.deBruijn64tab.map (fun y : Nat => (DataW.lit (Lit.int .u8 (y : Int)) : DataW Unit)))[j]? = (xs.map (·.1))[j]? := by rw [hm]
  have htl : j < Lib.deBruijn64tab.length := by simpa [Lib.deBruijn64tab] using hj
  rw [List.getElem?_map, List.getElem?_map, List.getElem?_eq_getElem htl, List.getElem?_eq_getElem hxj, e2] at hj2
  have hk : k = ((Lib.deBruijn64tab[j] : Nat) : Int) := by simpa using hj2.symm
  have hcell := World.var?_cell gTab hv0 j
  have hd : cs0.toList[j]? = some (.int .u8 k) := by
    have h3 : (List.take 1 (List.drop j cs0.toList))[0]? = some (.int .u8 k) := by rw [e1]; rfl
    simpa using h3
  rw [hcell, show cs0[j]? = cs0.toList[j]? by simp, hd, hk, List.getD_eq_getElem?_getD, List.getElem?_eq_getElem htl]
  rfl

end Go.Proofs.YtanoohfhifhhaaaDoor

/- Walks: drawn values. -/
set_option linter.unusedVariables false
set_option linter.unusedSimpArgs false
namespace Go.Proofs.YtanoohfhifhhaaaDoor
open Go.RowKit

/-- the drawn list's row, the reader's block, and nothing else changed -/
structure TDv (w : World) (B g : Nat) (u : Value) (L : List Int) (wr : World) : Prop where
  own : wr.ownsRow w.heap.size 2 1 u L.length (ints L)
  rd : Rd wr B g
  gr : w.grownBy wr (some g)
theorem TDv.read {w wr w2 : World} {B g : Nat} {u : Value} {L : List Int} (p : TDv w B g u L wr) (hgl : g < w.heap.size) (hrd : Rd w2 B g) (hg2 : wr.grownBy w2 (some g)) : TDv w B g u L w2 :=
  ⟨p.own.kept hg2 (by
    by_cases hx : u.ownBlock = none
    · exact .inl hx
    · right; intro he; have := (p.own.lt g he).1; omega), hrd, grown_trans' p.gr hg2⟩
theorem TDv.app {w wr w1 : World} {B g : Nat} {u v' : Value} {L : List Int} {y : Int} {o : Obj} (p : TDv w B g u L wr) (hgl : g < w.heap.size)
    (hown : w1.ownsRow w.heap.size 2 1 v' (L.length + 1) (ints L ++ [.int .i64 y])) (hgrow : (wr.alloc o).grownBy w1 u.ownBlock) : TDv w B g v' (L ++ [y]) w1 := by
  have hrow : ∀ k, u.ownBlock = some k → w.heap.size ≤ k := fun k hk => (p.own.lt k hk).1
  have hz := p.gr.size
  have hB : B ≤ g := (by obtain ⟨A, n, c, q, h⟩ := p.rd; exact h.2.2.2.2.1)
  refine ⟨?_, (Rd.alloc p.rd _).grown hgrow (fun k hk => by have := hrow k hk; omega), hgrow.os.trans p.gr.os, hgrow.tape.trans p.gr.tape, hgrow.output.trans p.gr.output, by have := hgrow.size; simp at this; omega, fun i hi hne => ?_⟩
  · rw [ints_append]; simpa [ints] using hown
  · rw [hgrow.block i (by simp; omega) (by intro he; have := hrow i he.symm; omega), Below.heap_alloc _ _ _ (by omega)]
    exact p.gr.block i hi hne

def ValsPost (most : Nat) (B g : Nat) (w : World) (e : Ending) (w' : World) : Prop :=
  ∃ v xs, e = .returned v ∧ TDv w B g v xs w' ∧ xs.length ≤ most ∧ ∀ y ∈ xs, Rng y

set_option maxRecDepth 100000 in
set_option maxHeartbeats 4000000 in
theorem drawnValsM_any (m : Nat) (hm : m ≤ 100) (B g : Nat) (w : World) (h : Rd w B g) :
    Calls Tryd.prog 69 #[.pointer (some ⟨g, 0, none⟩), .int .i64 (m : Int)] w (ValsPost m B g w) := by
  obtain ⟨i0, hi, hz0, hz1, hz2⟩ := info_parts info_i64
  have hgl := h.lt
  have H := Lib.hid h
  clear h
  go_enter Tryd.func69, Tryd.ntmps69
  go_wp2_with fail
  refine (num_any B g _ (Rd.alloc H.out _)).mono ?_
  rintro e w1 ⟨v, rfl, ⟨a0, rfl, ha0, ha1⟩, hrd1, hgr1⟩
  have hown : w1.ownsRow w.heap.size 2 1 (.slice (some ⟨w.heap.size, 0, none⟩) 0 0) 0 (ints []) := by
    have h0 := World.ownsRow_made w (base := w.heap.size) (e := 2) (size := 1) #[] 0 (Nat.le_refl _) (by simp [maxLen]) rfl
    exact h0.kept hgr1 (.inr (by simp [Value.ownBlock]; omega))
  have T1 := Lib.hid (show TDv w B g (.slice (some ⟨w.heap.size, 0, none⟩) 0 0) [] w1 from ⟨hown, hrd1, grown_trans' (World.grownBy_alloc w _ _) hgr1⟩)
  clear hown hrd1 hgr1 H
  go_wp2_with fail
  refine (below_any B g ((m : Int) + 1) _ T1.out.rd (by omega) (by omega)).mono ?_
  rintro e w2 ⟨v, rfl, ⟨x, rfl, hx0, hx1⟩, hrd2, hgr2⟩
  have T2 := Lib.hid (T1.out.read hgl hrd2 hgr2)
  clear hrd2 hgr2 T1
  go_wp2_with fail
  go_loopw [5, 6, 7] (fun u a i wr => ∃ (j v : Int) (L : List Int), i = .int .i64 j ∧ a = .int .i64 v ∧ 0 ≤ j ∧ (L.length : Int) + j ≤ (m : Int) ∧ Rng v ∧ Hid (∀ y ∈ L, Rng y) ∧ Hid (TDv w B g u L wr))
    (fun _ _ i _ => (intOf i).toNat)
  case atStart => exact ⟨x, a0, [], rfl, rfl, hx0, by simp; omega, ⟨ha0, ha1⟩, Lib.hid (fun _ h => by cases h), T2⟩
  case round =>
    clear T2
    obtain ⟨j, v, L, rfl, rfl, hj0, hj1, hv, HL, T⟩ := hrel
    have Hv := Lib.hid hv
    clear hv
    by_cases hlt : 0 < j
    · have hown := T.out.own
      have hz := T.out.gr.size
      go_wp2_with (at_builtin; refine wpList_append_own _ rfl _ _ 94 rfl w.heap.size 2 i0 (.int .i64 0) 1 8 Tryd.underlying94 hi hz0 hz1 hz2 rfl (by decide) _ _ _ rfl (hown.alloc _) ⟨wr.heap.size, 0, none⟩ 1 1 [.int .i64 v] rfl rfl ?c1 ?c2 ?c3 ?c4 ?c5 ?_)
      case c1 => exact cell_one_new _ _ _
      case c2 => intro q hq; simp at hq; subst hq; rfl
      case c3 => unfold maxLen; omega
      case c4 => omega
      case c5 => simp; omega
      intro v' w4 hown3 hgrow _
      have T4 := Lib.hid (T.out.app hgl hown3 hgrow)
      have HL4 : Hid (∀ y ∈ L ++ [v], Rng y) := Lib.hid (fun y hy => by
        rcases List.mem_append.1 hy with hy | hy
        · exact HL.out y hy
        · obtain rfl : y = v := by simpa using hy
          exact Hv.out)
      have hlen : ((L ++ [v]).length : Int) = (L.length : Int) + 1 := by simp
      generalize hLL : L ++ [v] = L4 at *
      clear hLL
      clear hown3 hgrow hown T HL
      go_wp2_with fail
      refine (below_any B g 4 _ T4.out.rd (by omega) (by omega)).mono ?_
      rintro e w5 ⟨_, rfl, ⟨c, rfl, hc0, hc1⟩, hrd, hgr⟩
      have T5 := Lib.hid (T4.out.read hgl hrd hgr)
      clear hrd hgr T4
      rcases (show c = 0 ∨ c = 1 ∨ c = 2 ∨ 3 ≤ c by omega) with rfl | rfl | rfl | hc3
      · go_wp2_with fail
        refine (below_any B g 9 _ T5.out.rd (by omega) (by omega)).mono ?_
        rintro e w6 ⟨_, rfl, ⟨d, rfl, hd0, hd1⟩, hrd, hgr⟩
        have T6 := Lib.hid (T5.out.read hgl hrd hgr)
        clear hrd hgr T5
        go_wp2_with fail
        refine ⟨⟨j - 1, _, L4, rfl, rfl, by omega, by omega, ?_, HL4, T6⟩, by simp [intOf]; omega⟩
        first | exact uz_wrap64_bd _ | exact xor_rng _ _
      · go_wp2_with fail
        refine (below_any B g 64 _ T5.out.rd (by omega) (by omega)).mono ?_
        rintro e w6 ⟨_, rfl, ⟨d, rfl, hd0, hd1⟩, hrd, hgr⟩
        have T6 := Lib.hid (T5.out.read hgl hrd hgr)
        clear hrd hgr T5
        go_wp2_with fail
        refine ⟨⟨j - 1, _, L4, rfl, rfl, by omega, by omega, ?_, HL4, T6⟩, by simp [intOf]; omega⟩
        first | exact uz_wrap64_bd _ | exact xor_rng _ _
      · go_wp2_with fail
        refine (once_any B g 3 _ T5.out.rd (by omega) (by omega)).mono ?_
        rintro e w6 ⟨_, rfl, ⟨b, rfl⟩, hrd, hgr⟩
        have T6 := Lib.hid (T5.out.read hgl hrd hgr)
        clear hrd hgr T5
        cases b with
        | false =>
          go_wp2_with fail
          exact ⟨⟨j - 1, v, L4, rfl, rfl, by omega, by omega, Hv.out, HL4, T6⟩, by simp [intOf]; omega⟩
        | true =>
          go_wp2_with fail
          refine (num_any B g _ T6.out.rd).mono ?_
          rintro e w7 ⟨_, rfl, ⟨d, rfl, hd0, hd1⟩, hrd, hgr⟩
          have T7 := Lib.hid (T6.out.read hgl hrd hgr)
          clear hrd hgr T6
          go_wp2_with fail
          exact ⟨⟨j - 1, d, L4, rfl, rfl, by omega, by omega, ⟨hd0, hd1⟩, HL4, T7⟩, by simp [intOf]; omega⟩
      · have e0 : (c == 0) = false := by simp; omega
        have e1 : (c == 1) = false := by simp; omega
        have e2 : (c == 2) = false := by simp; omega
        go_wp2_with fail
        exact ⟨⟨j - 1, v, L4, rfl, rfl, by omega, by omega, Hv.out, HL4, T5⟩, by simp [intOf]; omega⟩
    · go_wp2_with fail
      go_ret
      exact ⟨u5, L, rfl, T.out, by omega, HL.out⟩
theorem drawnVals_any (B g : Nat) (w : World) (h : Rd w B g) :
    Calls Tryd.prog 69 #[.pointer (some ⟨g, 0, none⟩), .int .i64 8] w (ValsPost 8 B g w) := drawnValsM_any 8 (by omega) B g w h

def IntsPost8v (w : World) (e : Ending) (w' : World) : Prop :=
  ∃ v xs, e = .returned v ∧ w'.ownsRow w.heap.size 2 1 v xs.length (ints xs) ∧ xs.length ≤ 8 ∧ (∀ x ∈ xs, Rng x) ∧ Below w.heap.size w w'
end Go.Proofs.YtanoohfhifhhaaaDoor

/- Walks: drawn strings. -/
set_option linter.unusedVariables false
set_option linter.unusedSimpArgs false
namespace Go.Proofs.YtanoohfhifhhaaaDoor
open Go.RowKit

def IsStr (m : Int) (v : Value) : Prop := ∃ s : ByteArray, v = .string s ∧ (s.size : Int) ≤ m

theorem rd_append {w wr w1 : World} {B g : Nat} {e : TypeId} {v : Value} {n : Nat} {xs : List Value} {o : Obj} (hgr : w.grownBy wr (some g)) (hgl : g < w.heap.size) (hrd : Rd wr B g) (hown : wr.ownsRow w.heap.size e 1 v n xs)
    (hgrow : (wr.alloc o).grownBy w1 v.ownBlock) : w.grownBy w1 (some g) ∧ Rd w1 B g := by
  have hrow : ∀ k, v.ownBlock = some k → w.heap.size ≤ k := fun k hk => (hown.lt k hk).1
  have hz := hgr.size
  have hB : B ≤ g := by obtain ⟨A, n, c, p, h⟩ := hrd; exact h.2.2.2.2.1
  refine ⟨⟨hgrow.os.trans hgr.os, hgrow.tape.trans hgr.tape, hgrow.output.trans hgr.output, by have := hgrow.size; simp at this; omega, fun i hi hne => ?_⟩, (Rd.alloc hrd _).grown hgrow (fun k hk => by have := hrow k hk; omega)⟩
  rw [hgrow.block i (by simp; omega) (by intro he; have := hrow i he.symm; omega), Below.heap_alloc _ _ _ (by omega)]
  exact hgr.block i hi hne
theorem rd_row {w wr w2 : World} {g : Nat} {e : TypeId} {v : Value} {n : Nat} {xs : List Value} (hgl : g < w.heap.size) (hown : wr.ownsRow w.heap.size e 1 v n xs) (hg2 : wr.grownBy w2 (some g)) : w2.ownsRow w.heap.size e 1 v n xs :=
  hown.kept hg2 (by
    by_cases hx : v.ownBlock = none
    · exact .inl hx
    · right; intro he; have := (hown.lt g he).1; omega)


def arr8 : Array Value := #[.string ⟨#[97]⟩, .string ⟨#[61]⟩, .string ⟨#[32]⟩, .string ⟨#[49]⟩, .string ⟨#[10]⟩, .string ⟨#[48]⟩, .string ⟨#[128]⟩, .string ⟨#[44]⟩]
def arr4 : Array Value := #[.string ⟨#[97]⟩, .string ⟨#[10]⟩, .string ⟨#[49]⟩, .string ⟨#[0]⟩]
theorem str8 (Y : Nat) (h : Y < 8) : ∃ T : ByteArray, arr8[Y]? = some (.string T) ∧ T.size = 1 := by
  have : Y = 0 ∨ Y = 1 ∨ Y = 2 ∨ Y = 3 ∨ Y = 4 ∨ Y = 5 ∨ Y = 6 ∨ Y = 7 := by omega
  rcases this with rfl | rfl | rfl | rfl | rfl | rfl | rfl | rfl <;> exact ⟨_, rfl, rfl⟩
theorem str4 (Y : Nat) (h : Y < 4) : ∃ T : ByteArray, arr4[Y]? = some (.string T) ∧ T.size = 1 := by
  have : Y = 0 ∨ Y = 1 ∨ Y = 2 ∨ Y = 3 := by omega
  rcases this with rfl | rfl | rfl | rfl <;> exact ⟨_, rfl, rfl⟩
theorem str_cell0 (W : World) {arr : Array Value} {t : TypeId} {Y : Nat} {v : Value} (hT : arr[Y]? = some v) : (W.alloc (.cells arr t)).cell? ⟨W.heap.size, Y, none⟩ = some v := by
  rw [cell_of_row _ _ _ _ _ _ (heap_alloc_new W _)]; exact hT
theorem str_cell {W w3 : World} {g : Nat} {arr : Array Value} {t : TypeId} {Y : Nat} {v : Value} (hg : (W.alloc (.cells arr t)).grownBy w3 (some g)) (hgl : g < W.heap.size) (hT : arr[Y]? = some v) :
    w3.cell? ⟨W.heap.size, Y, none⟩ = some v :=
  hg.cell (str_cell0 W hT) (by intro e; injection e with e; simp at e; omega)

theorem str_cell_d {W w3 : World} {g : Nat} {arr : Array Value} {t : TypeId} {Y : Nat} {v : Value} (hg : (W.alloc (.cells arr t)).drew.grownBy w3 (some g)) (hgl : g < W.heap.size) (hT : arr[Y]? = some v) :
    w3.cell? ⟨W.heap.size, Y, none⟩ = some v :=
  str_cell ⟨hg.os, hg.tape, hg.output, hg.size, hg.block⟩ hgl hT

theorem extract_size_le (s : ByteArray) (a b : Nat) : (s.extract a b).size ≤ s.size := by rw [ByteArray.size_extract]; omega

set_option maxRecDepth 100000 in
set_option maxHeartbeats 2000000 in
theorem hurt_any (B g : Nat) (s : ByteArray) (w : World) (h : Rd w B g) (hs : s.size ≤ 1000000) :
    Calls Tryd.prog 83 #[.pointer (some ⟨g, 0, none⟩), .string s] w (RdPost (IsStr (s.size + 1)) B g w) := by
  have hgl := h.lt
  have H := Lib.hid h
  clear h
  go_enter Tryd.func83, Tryd.ntmps83
  go_wp2_with fail
  refine (below_any B g 6 _ H.out (by omega) (by omega)).mono ?_
  rintro e w1 ⟨v, rfl, ⟨x, rfl, hx0, hx1⟩, hrd, hgr⟩
  have Hrd := Lib.hid hrd
  clear hrd H
  have hx : x = 1 ∨ x = 2 ∨ x = 3 ∨ (x ≠ 1 ∧ x ≠ 2 ∧ x ≠ 3) := by omega
  rcases hx with rfl | rfl | rfl | ⟨e1, e2, e3⟩
  · go_wp2_with fail
    refine (below_any B g ((s.size : Int) + 1) _ Hrd.out (by omega) (by omega)).mono ?_
    rintro e w2 ⟨v, rfl, ⟨y, rfl, hy0, hy1⟩, hrd2, hgr2⟩
    have Hrd2 := Lib.hid hrd2
    have hgr3 := grown_trans' hgr hgr2
    clear hrd2 hgr hgr2
    obtain ⟨Y, rfl⟩ := Int.eq_ofNat_of_zero_le hy0
    have hyY : (Y : Int) ≤ s.size := by omega
    go_wp2_with fail
    go_ret
    exact ⟨_, rfl, ⟨_, rfl, by have := extract_size_le s 0 Y; omega⟩, Hrd2.out, hgr3⟩
  · by_cases hs0 : 0 < s.size
    · go_wp2_with fail
      refine (below_any B g (s.size : Int) _ Hrd.out (by omega) (by omega)).mono ?_
      rintro e w2 ⟨v, rfl, ⟨y, rfl, hy0, hy1⟩, hrd2, hgr2⟩
      have Hrd2 := Lib.hid hrd2
      have hgr3 := grown_trans' hgr hgr2
      clear hrd2 hgr hgr2
      obtain ⟨Y, rfl⟩ := Int.eq_ofNat_of_zero_le hy0
      have hyY : (Y : Int) < s.size := by omega
      go_wp2_with fail
      have hgl2 : g < w2.heap.size := Nat.lt_of_lt_of_le hgl hgr3.size
      have e1 : IntKind.i64.wrap ((Y : Int) + 1) = (Y : Int) + 1 := IntWalk.i64_in _ (by omega)
      have e2 : (0 : Int) ≤ (Y : Int) + 1 := by omega
      have e3 : ((Y : Int) + 1).toNat = Y + 1 := by omega
      have e4 : (Y : Int) + 1 ≤ (s.size : Int) := by omega
      have e5 : (Y : Int) ≤ (s.size : Int) := by omega
      have hx1 : (s.extract 0 Y).size ≤ 1000000 := by have := extract_size_le s 0 Y; omega
      have hx2 : (s.extract (Y + 1) s.size).size ≤ 1000000 := by have := extract_size_le s (Y + 1) s.size; omega
      go_region_law (go_simp; go_at_call 55; refine (below_any B g 8 _ (by repeat (first | exact Hrd2.out | apply Rd.drew | apply Rd.alloc)) (by omega) (by omega)).mono ?_; rintro e w3 ⟨v, rfl, ⟨y2, rfl, hy20, hy21⟩, hrd3, hgr4⟩; obtain ⟨Y2, rfl⟩ := Int.eq_ofNat_of_zero_le hy20; obtain ⟨T, hT, hTs⟩ := str8 Y2 (by omega); have hlt8 : (Y2 : Int) < 8 := (by omega); have hTl : T.size ≤ 1 := (by omega); have hx3 : ¬ 9223372036854775807 < min Y s.size + T.size := (by omega); have hx4 : ¬ 9223372036854775807 < min Y s.size + T.size + (s.size - (Y + 1)) := (by omega); have HTs := Lib.hid hTs; clear hTs; (first | have hcell := str_cell_d (arr := arr8) hgr4 hgl2 hT | have hcell := str_cell (arr := arr8) hgr4 (by simpa using hgl2) hT | skip); have Hrd3 := Lib.hid hrd3; clear hrd3; unfold arr8 at hT)
      all_goals
        have hsz : (((s.extract 0 Y ++ T ++ s.extract (Y + 1) s.size).size : Nat) : Int) ≤ (s.size : Int) + 1 := by
          rw [ByteArray.size_append, ByteArray.size_append, ByteArray.size_extract, ByteArray.size_extract, HTs.out]; omega
        have Hsz := Lib.hid hsz
        clear hT e1 e2 e3 e4 e5 hx1 hx2 hx3 hx4 hsz
        go_simp
        go_wp2_with fail
        go_ret
        first
          | exact ⟨_, rfl, ⟨_, rfl, Hsz.out⟩, Hrd3.out, grown_trans' hgr3 (grown_trans' (grown_drew (World.grownBy_alloc w2 _ _)) hgr4)⟩
          | exact ⟨_, rfl, ⟨_, rfl, Hsz.out⟩, Rd.alloc Hrd3.out _, grown_trans' hgr3 (grown_trans' (grown_trans' (grown_drew (World.grownBy.refl _ _)) hgr4) (World.grownBy_alloc _ _ _))⟩
    · go_wp2_with fail
      go_ret
      exact ⟨_, rfl, ⟨_, rfl, by omega⟩, Hrd.out, hgr⟩
  · go_wp2_with fail
    refine (below_any B g 4 _ (by repeat (first | exact Hrd.out | apply Rd.alloc)) (by omega) (by omega)).mono ?_
    rintro e w2 ⟨v, rfl, ⟨y, rfl, hy0, hy1⟩, hrd2, hgr2⟩
    obtain ⟨Y, rfl⟩ := Int.eq_ofNat_of_zero_le hy0
    obtain ⟨T, hT, hTs⟩ := str4 Y (by omega)
    have hcell := str_cell (arr := arr4) hgr2 (Nat.lt_of_lt_of_le hgl hgr.size) hT
    have Hrd2 := Lib.hid hrd2
    have hgr3 := grown_trans' hgr (grown_trans' (World.grownBy_alloc w1 _ _) hgr2)
    have hY4 : (Y : Int) < 4 := by omega
    have HTs := Lib.hid hTs
    have hTl : T.size ≤ 1 := by omega
    clear hrd2 hgr hgr2 hT hTs
    go_wp2_with fail
    go_ret
    exact ⟨_, rfl, ⟨_, rfl, by rw [ByteArray.size_append, HTs.out]; omega⟩, Hrd2.out, hgr3⟩
  · have d1 : (x == 1) = false := by simpa using e1
    have d2 : (x == 2) = false := by simpa using e2
    have d3 : (x == 3) = false := by simpa using e3
    go_wp2_with fail
    go_ret
    exact ⟨_, rfl, ⟨_, rfl, by omega⟩, Hrd.out, hgr⟩
end Go.Proofs.YtanoohfhifhhaaaDoor

/- Walks: big; the drawn code as it came in. -/
set_option linter.unusedVariables false
set_option linter.unusedSimpArgs false
namespace Go.Proofs.YtanoohfhifhhaaaDoor
open Go.RowKit

set_option maxRecDepth 100000 in
set_option maxHeartbeats 400000 in
theorem big_any (A : Option Addr) (n c : Nat) (w : World) :
    Calls Tryd.prog 13 #[.slice A n c] w fun e w' => e = .returned (.bool (decide (1048576 < (n : Int)))) ∧ w = w' := by
  go_enter Tryd.func13, Tryd.ntmps13
  go_wp2
  go_ret
  exact ⟨rfl, rfl⟩

theorem codeAt_of (x : Addr) (n c : Nat) (zs : List Int) (w : World) (hn : n ≤ 1048576) (hl : n ≤ c) (hz : zs.length = c)
    (hcell : ∀ i, i < zs.length → w.cell? (x.add i) = some (.int .u8 (zs.getD i 0))) (hwz : ∀ k ∈ zs, (Lit.int .u8 k).wf = true) : CodeAt w (some x) n c := by
  refine ⟨hn, hl, ?_⟩
  by_cases h0 : n = 0
  · exact .inl h0
  · right
    obtain ⟨b, off, spot⟩ := x
    have hc := hcell 0 (by omega)
    have hspot : spot = none := by simpa [Addr.add] using World.cell?_spot hc
    subst hspot
    refine ⟨b, off, rfl, ?_, fun j hj => ?_⟩
    · have h1 : w.cell? ⟨b, off, none⟩ = some (.int .u8 (zs.getD 0 0)) := by simpa [Addr.add] using hc
      exact World.block_lt_of_cell? w _ h1
    · have hj' : j < zs.length := by omega
      have h2 := hcell j hj'
      have hadd : (⟨b, off, none⟩ : Addr).add j = ⟨b, off + j, none⟩ := by unfold Addr.add; split <;> simp_all
      rw [hadd] at h2
      have hm : zs.getD j 0 ∈ zs := by
        rw [List.getD_eq_getElem?_getD, List.getElem?_eq_getElem hj']; exact List.getElem_mem hj'
      have hb := bounds_u8 (hwz _ hm)
      refine ⟨(zs.getD j 0).toNat, by omega, ?_⟩
      rw [h2, show (((zs.getD j 0).toNat : Nat) : Int) = zs.getD j 0 by omega]

end Go.Proofs.YtanoohfhifhhaaaDoor

/- Walks: drawn points and blocks. -/
set_option linter.unusedVariables false
set_option linter.unusedSimpArgs false
namespace Go.Proofs.YtanoohfhifhhaaaDoor
open Go.RowKit

theorem rng_all {xs : List Int} (h : ∀ y ∈ xs, Rng y) (j : Nat) : Rng (xs.getD j 0) := by
  rw [List.getD_eq_getElem?_getD]
  cases hg : xs[j]? with
  | none => exact rng_zero
  | some y => exact h y (List.mem_of_getElem? hg)
/-- drawn points: a row of their own, the reader, nothing else changed -/
def DPts (m : Nat) (B g : Nat) (w : World) (e : Ending) (w' : World) : Prop :=
  ∃ v xs, e = .returned v ∧ w'.ownsRow w.heap.size 41 2 v xs.length (prs xs) ∧ Rd w' B g ∧ w.grownBy w' (some g) ∧ xs.length ≤ m ∧ ∀ j, Rng (xs.getD j (0, 0)).1 ∧ Rng (xs.getD j (0, 0)).2
theorem zip_min (ts vs : List Int) : (ts.zip vs).length = min ts.length vs.length := by simp
theorem zip_rng2 {ts vs : List Int} (ht : ∀ j, Rng (ts.getD j 0)) (hv : ∀ j, Rng (vs.getD j 0)) (j : Nat) : Rng ((ts.zip vs).getD j (0, 0)).1 ∧ Rng ((ts.zip vs).getD j (0, 0)).2 := by
  by_cases h : j < (ts.zip vs).length
  · rw [zip_min] at h
    rw [zip_getD ts vs j (by omega) (by omega)]
    exact ⟨ht j, hv j⟩
  · rw [List.getD_eq_getElem?_getD, List.getElem?_eq_none (by omega)]
    exact ⟨rng_zero, rng_zero⟩

set_option maxRecDepth 100000 in
set_option maxHeartbeats 4000000 in
theorem drawnPts_any (m : Nat) (hm : m ≤ 100) (B g : Nat) (w : World) (h : Rd w B g) :
    Calls Tryd.prog 44 #[.pointer (some ⟨g, 0, none⟩), .int .i64 (m : Int)] w (DPts m B g w) := by
  have hgl := h.lt
  obtain ⟨i0, hi, hz0, hz1, hz2⟩ := info_parts info_pt
  have HT := Lib.hid (drawnTimesM_any m hm B g w h)
  have HV := Lib.hid (fun W h => drawnValsM_any m hm B g W h)
  clear h
  go_enter Tryd.func44, Tryd.ntmps44
  go_wp2_with fail
  refine HT.out.mono ?_
  rintro e w2 ⟨v1, ts, rfl, ht, htl, htr⟩
  have HO2 := Lib.hid ht.own
  have HG2 := Lib.hid ht.gr
  have HR2 := Lib.hid ht.rd
  clear ht
  go_wp2_with fail
  refine (HV.out _ HR2.out).mono ?_
  rintro e w3 ⟨v2, vs, rfl, hv, hvl, hvr⟩
  have HG3 := Lib.hid (grown_trans' HG2.out hv.gr)
  have HR3 := Lib.hid hv.rd
  have I1 := IL.of_own (own_grown HO2.out hv.gr hgl) rfl (rng_all htr) (by omega)
  have I2 := IL.of_own hv.own rfl (rng_all hvr) (by omega)
  have HRz := Lib.hid (zip_rng2 (rng_all htr) (rng_all hvr))
  have HZl := Lib.hid (zip_min ts vs)
  have hws : w.heap.size ≤ w3.heap.size := HG3.out.size
  obtain ⟨_, _, At, ct, rfl, ht3⟩ := I1
  obtain ⟨_, _, Av, cv, rfl, hv3⟩ := I2
  have HT3 := Lib.hid ht3
  have HV3 := Lib.hid hv3
  have hown0 : (w3.alloc (.cells #[] 41)).ownsRow w3.heap.size 41 2 (.slice (some ⟨w3.heap.size, 0, none⟩) 0 0) 0 (prs ((ts.zip vs).take 0)) := by
    have h9 := World.ownsRow_made w3 (base := w3.heap.size) (e := 41) (size := 2) #[] 0 (Nat.le_refl _) (by simp [maxLen]) rfl
    simpa [prs] using h9
  have H0 := Lib.hid hown0
  have HBa := Lib.hid (below1 w3 (.cells #[] 41))
  clear hown0 ht3 hv3 hv htr hvr
  go_wp2_with fail
  go_loopw [7, 8] (fun u i wr => ∃ k : Nat, k ≤ (ts.zip vs).length ∧ i = .int .i64 (k : Int) ∧ wr.ownsRow w3.heap.size 41 2 u k (prs ((ts.zip vs).take k)) ∧ Below w3.heap.size w3 wr)
    (fun _ i _ => ts.length - (intOf i).toNat)
  case atStart => exact ⟨0, Nat.zero_le _, by simp, H0.out, HBa.out⟩
  case round =>
    clear H0 HBa
    obtain ⟨k, hk, rfl, hown, hb⟩ := hrel
    have Hb := Lib.hid hb
    have hzb := hb.size
    have HO := Lib.hid hown
    rw [HZl.out] at hk
    by_cases hk1 : k < ts.length
    · by_cases hk2 : k < vs.length
      · obtain ⟨bt, ot, rfl, hbt, hct⟩ : ∃ b off, At = some ⟨b, off, none⟩ ∧ b < w3.heap.size ∧ ∀ j, j < ts.length → w3.cell? ⟨b, off + j, none⟩ = some (.int .i64 (ts.getD j 0)) := by
          rcases HT3.out with h9 | h9
          · rw [h9] at hk1; simp at hk1
          · exact h9
        obtain ⟨bv, ov, rfl, hbv, hcv⟩ : ∃ b off, Av = some ⟨b, off, none⟩ ∧ b < w3.heap.size ∧ ∀ j, j < vs.length → w3.cell? ⟨b, off + j, none⟩ = some (.int .i64 (vs.getD j 0)) := by
          rcases HV3.out with h9 | h9
          · rw [h9] at hk2; simp at hk2
          · exact h9
        have hx : wr.cell? ⟨bt, ot + k, none⟩ = some (.int .i64 (ts.getD k 0)) := (hb.cell (p := ⟨bt, ot + k, none⟩) hbt).trans (hct k hk1)
        have hy : wr.cell? ⟨bv, ov + k, none⟩ = some (.int .i64 (vs.getD k 0)) := (hb.cell (p := ⟨bv, ov + k, none⟩) hbv).trans (hcv k hk2)
        obtain ⟨x, hX⟩ : ∃ x, ts.getD k 0 = x := ⟨_, rfl⟩
        obtain ⟨y, hY⟩ : ∃ y, vs.getD k 0 = y := ⟨_, rfl⟩
        have HTk := Lib.hid (zip_take (ts.zip vs) k x y (by rw [HZl.out]; omega) (by rw [zip_getD ts vs k hk1 hk2, hX, hY]))
        have HK1 : Hid (k + 1 ≤ (ts.zip vs).length) := Lib.hid (by rw [HZl.out]; omega)
        rw [hX] at hx
        rw [hY] at hy
        clear hX hY hown hb hct hcv
        go_wp2_with fail
        have hbt2 : bt < wr.heap.size := by omega
        have hbv2 : bv < wr.heap.size := by omega
        have hS0 : (fun W : World => W.cell? ⟨bt, ot + k, none⟩ = some (.int .i64 x) ∧ W.cell? ⟨bv, ov + k, none⟩ = some (.int .i64 y)) wr.drew := ⟨hx, hy⟩
        refine wp_region_held_drew (S := fun W : World => W.cell? ⟨bt, ot + k, none⟩ = some (.int .i64 x) ∧ W.cell? ⟨bv, ov + k, none⟩ = some (.int .i64 y)) (by kernel_rfl) hS0 ?_
        intro _
        refine wpAnyH_take (i := 0) (v := u7) rfl (by kernel_rfl) (by kernel_rfl) (by kernel_rfl) (fun _ _ _ h => h) (Or.inl ⟨by kernel_rfl, ?t0⟩) (by assumption) ?_
        case t0 =>
          intro W hW
          clear hW
          go_simp
        refine wpAnyH_take (i := 1) (v := .slice (some ⟨bt, ot, none⟩) ts.length ct) rfl (by kernel_rfl) (by kernel_rfl) (by kernel_rfl) (fun _ _ _ h => h) (Or.inl ⟨by kernel_rfl, ?t1⟩) (by assumption) ?_
        case t1 =>
          intro W hW
          clear hW
          go_simp
        refine wpAnyH_take (i := 2) (v := .int .i64 (k : Int)) rfl (by kernel_rfl) (by kernel_rfl) (by kernel_rfl) (fun _ _ _ h => h) (Or.inl ⟨by kernel_rfl, ?t2⟩) (by assumption) ?_
        case t2 =>
          intro W hW
          clear hW
          go_simp
        refine wpAnyH_take (i := 3) (v := .pointer (some ⟨bt, ot + k, none⟩)) rfl (by kernel_rfl) (by kernel_rfl) (by kernel_rfl) (fun _ _ _ h => h) (Or.inl ⟨by kernel_rfl, ?t3⟩) (by assumption) ?_
        case t3 =>
          intro W hW
          clear hW
          go_simp
        refine wpAnyH_take (i := 4) (v := .int .i64 x) rfl (by kernel_rfl) (by kernel_rfl) (by kernel_rfl) (fun _ _ _ h => h) (Or.inl ⟨by kernel_rfl, ?t4⟩) (by assumption) ?_
        case t4 =>
          intro W hW
          obtain ⟨z0, z1⟩ := hW
          go_simp
        refine wpAnyH_take (i := 5) (v := .slice (some ⟨bv, ov, none⟩) vs.length cv) rfl (by kernel_rfl) (by kernel_rfl) (by kernel_rfl) (fun _ _ _ h => h) (Or.inl ⟨by kernel_rfl, ?t5⟩) (by assumption) ?_
        case t5 =>
          intro W hW
          clear hW
          go_simp
        refine wpAnyH_take (i := 6) (v := .int .i64 (k : Int)) rfl (by kernel_rfl) (by kernel_rfl) (by kernel_rfl) (fun _ _ _ h => h) (Or.inl ⟨by kernel_rfl, ?t6⟩) (by assumption) ?_
        case t6 =>
          intro W hW
          clear hW
          go_simp
        refine wpAnyH_take (i := 7) (v := .pointer (some ⟨bv, ov + k, none⟩)) rfl (by kernel_rfl) (by kernel_rfl) (by kernel_rfl) (fun _ _ _ h => h) (Or.inl ⟨by kernel_rfl, ?t7⟩) (by assumption) ?_
        case t7 =>
          intro W hW
          clear hW
          go_simp
        refine wpAnyH_take (i := 8) (v := .int .i64 y) rfl (by kernel_rfl) (by kernel_rfl) (by kernel_rfl) (fun _ _ _ h => h) (Or.inl ⟨by kernel_rfl, ?t8⟩) (by assumption) ?_
        case t8 =>
          intro W hW
          obtain ⟨z0, z1⟩ := hW
          go_simp
        refine wpAnyH_take (i := 9) (v := .agg #[.int .i64 x, .int .i64 y]) rfl (by kernel_rfl) (by kernel_rfl) (by kernel_rfl) (fun _ _ _ h => h) (Or.inl ⟨by kernel_rfl, ?t9⟩) (by assumption) ?_
        case t9 =>
          intro W hW
          clear hW
          go_simp
        refine wpAnyH_ready (rs := [10]) (by kernel_rfl) (by simp) ?_
        refine AllReadyH.cons rfl (fun K10 hK10 => ?_) AllReadyH.nil
        go_simp
        refine hK10.out _ _ (by exact ⟨(World.cell?_alloc_lt _ _ _ (by simpa using hbt2)).trans hx, (World.cell?_alloc_lt _ _ _ (by simpa using hbv2)).trans hy⟩) (fun _ => ?_)
        clear hK10 K10
        refine wpAnyH_ready (rs := [11]) (by kernel_rfl) (by simp) ?_
        refine AllReadyH.cons rfl (fun K11 hK11 => ?_) AllReadyH.nil
        refine step_append_ownQ _ rfl _ _ 24 rfl w3.heap.size 41 i0 (.agg #[.int .i64 0, .int .i64 0]) 2 16 Tryd.underlying24 hi hz0 hz1 hz2 rfl (by decide) _ k (prs ((ts.zip vs).take k)) rfl ((show wr.drew.ownsRow w3.heap.size 41 2 u7 k (prs ((ts.zip vs).take k)) from HO.out).alloc _) ⟨wr.heap.size, 0, none⟩ 1 1 [.int .i64 x, .int .i64 y] rfl rfl (cells_pair wr.drew _ _ _) (by simp [Value.oneCell']) (by unfold maxLen; omega) (by omega) (by simp; omega) ?_
        intro v' w5 hown' hgrow _
        have hb5 : Below w3.heap.size w3 w5 := (Hb.out.drew.alloc (by simpa using hzb) _).grown hgrow (by simp; omega) (fun k hk => (HO.out.lt _ hk).1)
        have hown5 : w5.ownsRow w3.heap.size 41 2 v' (k + 1) (prs ((ts.zip vs).take (k + 1))) := by rw [HTk.out, prs_append]; exact hown'
        clear hown' hgrow
        have hS5 : w5.cell? ⟨bt, ot + k, none⟩ = some (.int .i64 x) ∧ w5.cell? ⟨bv, ov + k, none⟩ = some (.int .i64 y) := ⟨(hb5.cell (p := ⟨bt, ot + k, none⟩) hbt).trans ((Hb.out.cell (p := ⟨bt, ot + k, none⟩) hbt).symm.trans hx), (hb5.cell (p := ⟨bv, ov + k, none⟩) hbv).trans ((Hb.out.cell (p := ⟨bv, ov + k, none⟩) hbv).symm.trans hy)⟩
        refine hK11.out _ _ hS5 (fun _ => ?_)
        clear hK11 K11
        refine wpAnyH_ready (rs := [12]) (by kernel_rfl) (by simp) ?_
        refine AllReadyH.cons rfl (fun K12 hK12 => ?_) AllReadyH.nil
        go_simp
        refine hK12.out _ _ hS5 (fun _ => ?_)
        clear hK12 K12
        refine wpAnyH_done (by kernel_rfl) ?_ _
        have HB5 := Lib.hid hb5
        have HO5 := Lib.hid hown5
        clear hb5 hown5 hS5 hS0 hx hy
        go_wp2_with fail
        first
        | (go_roundw; (case rel => exact ⟨k + 1, HK1.out, by go_num, HO5.out, HB5.out⟩); (case measure => simp [intOf]; omega))
        | exact ⟨⟨k + 1, HK1.out, by go_num, HO5.out, HB5.out⟩, by simp [intOf]; omega⟩
      · have he : k = (ts.zip vs).length := by rw [HZl.out]; omega
        have HE := Lib.hid he
        clear he hown hb
        go_wp2_with fail
        go_ret
        exact ⟨_, _, rfl, by rw [← HE.out]; have h9 := u_ownsRow_base HO.out hws; rw [show (ts.zip vs).take k = ts.zip vs from by rw [HE.out, List.take_length]] at h9; exact h9, Rd.below HR3.out Hb.out, grown_below2 HG3.out Hb.out, by rw [← HE.out]; omega, HRz.out⟩
    · have he : k = (ts.zip vs).length := by rw [HZl.out]; omega
      have HE := Lib.hid he
      clear he hown hb
      go_wp2_with fail
      go_ret
      exact ⟨_, _, rfl, by rw [← HE.out]; have h9 := u_ownsRow_base HO.out hws; rw [show (ts.zip vs).take k = ts.zip vs from by rw [HE.out, List.take_length]] at h9; exact h9, Rd.below HR3.out Hb.out, grown_below2 HG3.out Hb.out, by rw [← HE.out]; omega, HRz.out⟩
end Go.Proofs.YtanoohfhifhhaaaDoor
