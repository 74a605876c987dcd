/- Walks: drawn times. -/
import Derived.Test.YtldjeacpkndcbaaDoorDb
import Derived.Test.YtldjeacpkndcbaaDoorRc
set_option linter.unusedVariables false
set_option linter.unusedSimpArgs false
namespace Go.Proofs.YtldjeacpkndcbaaDoor
open Go.RowKit

set_option maxRecDepth 100000 in
set_option maxHeartbeats 1000000 in
theorem below_big (B g : Nat) (w : World) (h : Rd w B g) :
    Calls Tryd.prog 54 #[.pointer (some ⟨g, 0, none⟩), .int .i64 1073741824] w (RdPost (IntIn 0 1073741823) B g w) := by
  have H := Lib.hid h
  clear h
  go_enter Tryd.func54, Tryd.ntmps54
  go_wp2_with fail
  refine (next_any B g _ H.out).mono ?_
  rintro e w1 ⟨v, rfl, ⟨x, rfl, hx0, hx1⟩, hrd, hgr⟩
  have Hrd := Lib.hid hrd
  clear hrd
  go_wp2_with fail
  refine (next_any B g _ Hrd.out).mono ?_
  rintro e w2 ⟨v, rfl, ⟨y, rfl, hy0, hy1⟩, hrd2, hgr2⟩
  have Hrd2 := Lib.hid hrd2
  clear hrd2
  have hm0 := Int.emod_nonneg (x * 256 + y) (b := 1073741824) (by omega)
  have hm1 := Int.emod_lt_of_pos (x * 256 + y) (b := 1073741824) (by omega)
  have hgr3 := grown_trans' hgr hgr2
  clear hgr hgr2
  go_wp2_with fail
  go_ret
  exact ⟨_, rfl, ⟨(x * 256 + y) % 1073741824, rfl, hm0, by omega⟩, Hrd2.out, hgr3⟩

/-- the drawn list's row, the reader's block, and nothing else changed -/
structure TD (w : World) (B g : Nat) (u : Value) (L : List Int) (wr : World) : Prop where
  own : wr.ownsRow w.heap.size 2 1 u L.length (ints L)
  rd : Rd wr B g
  gr : w.grownBy wr (some g)
theorem TD.read {w wr w2 : World} {B g : Nat} {u : Value} {L : List Int} (p : TD w B g u L wr) (hgl : g < w.heap.size) (hrd : Rd w2 B g) (hg2 : wr.grownBy w2 (some g)) : TD w B g u L w2 :=
  ⟨p.own.kept hg2 (by
    by_cases hx : u.ownBlock = none
    · exact .inl hx
    · right; intro he; have := (p.own.lt g he).1; omega), hrd, grown_trans' p.gr hg2⟩
theorem TD.app {w wr w1 : World} {B g : Nat} {u v' : Value} {L : List Int} {y : Int} {o : Obj} (p : TD w B g u L wr) (hgl : g < w.heap.size)
    (hown : w1.ownsRow w.heap.size 2 1 v' (L.length + 1) (ints L ++ [.int .i64 y])) (hgrow : (wr.alloc o).grownBy w1 u.ownBlock) : TD w B g v' (L ++ [y]) w1 := by
  have hrow : ∀ k, u.ownBlock = some k → w.heap.size ≤ k := fun k hk => (p.own.lt k hk).1
  have hz := p.gr.size
  have hB : B ≤ g := (by obtain ⟨A, n, c, q, h⟩ := p.rd; exact h.2.2.2.2.1)
  refine ⟨?_, (Rd.alloc p.rd _).grown hgrow (fun k hk => by have := hrow k hk; omega), hgrow.os.trans p.gr.os, hgrow.tape.trans p.gr.tape, hgrow.output.trans p.gr.output, by have := hgrow.size; simp at this; omega, fun i hi hne => ?_⟩
  · rw [ints_append]; simpa [ints] using hown
  · rw [hgrow.block i (by simp; omega) (by intro he; have := hrow i he.symm; omega), Below.heap_alloc _ _ _ (by omega)]
    exact p.gr.block i hi hne
theorem grown_setNew' {a w : World} {row : Option Nat} (h : a.grownBy w row) {p : Addr} (hp : a.heap.size ≤ p.block) (u : Value) : a.grownBy (w.setCell p u) row :=
  ⟨h.os, h.tape, h.output, by simpa [World.setCell] using h.size, fun k hk hne => (Below.heap_setCell w p u k (by omega)).trans (h.block k hk hne)⟩
def TimesPost (most : Nat) (B g : Nat) (w : World) (e : Ending) (w' : World) : Prop :=
  ∃ v xs, e = .returned v ∧ TD w B g v xs w' ∧ xs.length ≤ most ∧ ∀ y ∈ xs, Rng y

set_option maxRecDepth 100000 in
set_option maxHeartbeats 4000000 in
theorem drawnTimesM_any (m : Nat) (hm : m ≤ 100) (B g : Nat) (w : World) (h : Rd w B g) :
    Calls Tryd.prog 106 #[.pointer (some ⟨g, 0, none⟩), .int .i64 (m : Int)] w (TimesPost m B g w) := by
  obtain ⟨i0, hi, hz0, hz1, hz2⟩ := info_parts info_i64
  have hgl := h.lt
  have H := Lib.hid h
  clear h
  go_enter Tryd.func106, Tryd.ntmps106
  go_wp2_with fail
  refine (below_any B g 1000 _ (Rd.alloc H.out _) (by omega) (by omega)).mono ?_
  rintro e w1 ⟨v, rfl, ⟨a0, rfl, ha0, ha1⟩, hrd1, hgr1⟩
  have hown : w1.ownsRow w.heap.size 2 1 (.slice (some ⟨w.heap.size, 0, none⟩) 0 0) 0 (ints []) := by
    have h0 := World.ownsRow_made w (base := w.heap.size) (e := 2) (size := 1) #[] 0 (Nat.le_refl _) (by simp [maxLen]) rfl
    exact h0.kept hgr1 (.inr (by simp [Value.ownBlock]; omega))
  have T1 := Lib.hid (show TD w B g (.slice (some ⟨w.heap.size, 0, none⟩) 0 0) [] w1 from ⟨hown, hrd1, grown_trans' (World.grownBy_alloc w _ _) hgr1⟩)
  clear hown hrd1 hgr1 H
  go_wp2_with fail
  refine (below_any B g ((m : Int) + 1) _ T1.out.rd (by omega) (by omega)).mono ?_
  rintro e w2 ⟨v, rfl, ⟨x, rfl, hx0, hx1⟩, hrd2, hgr2⟩
  have T2 := Lib.hid (T1.out.read hgl hrd2 hgr2)
  clear hrd2 hgr2 T1
  go_wp2_with fail
  go_loopw [5, 6, 7, 8] (fun u a s i wr => ∃ (j at_ st : Int) (L : List Int), i = .int .i64 j ∧ a = .int .i64 at_ ∧ s = .int .i64 st ∧ 0 ≤ j ∧ (L.length : Int) + j ≤ (m : Int) ∧ 0 ≤ at_ ∧ at_ ≤ 1000 + 1073741824 * (L.length : Int) ∧ 0 ≤ st ∧ st ≤ 1073741824 ∧ Hid (∀ y ∈ L, Rng y) ∧ Hid (TD w B g u L wr))
    (fun _ _ _ i _ => (intOf i).toNat)
  case atStart => exact ⟨x, a0, 10, [], rfl, rfl, rfl, hx0, by simp; omega, ha0, by simp; omega, by omega, by omega, Lib.hid (fun _ h => by cases h), T2⟩
  case round =>
    clear T2
    obtain ⟨j, at_, st, L, rfl, rfl, rfl, hj0, hj1, ha0, ha1, hs0, hs1, HL, T⟩ := hrel
    by_cases hlt : 0 < j
    · have hown := T.out.own
      have hz := T.out.gr.size
      have hwa : wrap64 (at_ + st) = at_ + st := by unfold wrap64; omega
      go_wp2_with (at_builtin; refine wpList_append_own _ rfl _ _ 24 rfl w.heap.size 2 i0 (.int .i64 0) 1 8 Tryd.underlying24 hi hz0 hz1 hz2 rfl (by decide) _ _ _ rfl (hown.alloc _) ⟨wr.heap.size, 0, none⟩ 1 1 [.int .i64 at_] rfl rfl ?c1 ?c2 ?c3 ?c4 ?c5 ?_)
      case c1 => exact cell_one_new _ _ _
      case c2 => intro q hq; simp at hq; subst hq; rfl
      case c3 => unfold maxLen; omega
      case c4 => omega
      case c5 => simp; omega
      intro v' w4 hown3 hgrow _
      have T4 := Lib.hid (T.out.app hgl hown3 hgrow)
      have HL4 : Hid (∀ y ∈ L ++ [at_], Rng y) := Lib.hid (fun y hy => by
        rcases List.mem_append.1 hy with hy | hy
        · exact HL.out y hy
        · obtain rfl : y = at_ := by simpa using hy
          exact ⟨by omega, by omega⟩)
      have hlen : ((L ++ [at_]).length : Int) = (L.length : Int) + 1 := by simp
      generalize hLL : L ++ [at_] = L4 at *
      clear hLL
      clear hown3 hgrow hown T HL
      go_wp2_with fail
      refine (below_any B g 6 _ T4.out.rd (by omega) (by omega)).mono ?_
      rintro e w5 ⟨v, rfl, ⟨c, rfl, hc0, hc1⟩, hrd, hgr⟩
      have T5 := Lib.hid (T4.out.read hgl hrd hgr)
      clear hrd hgr T4
      rcases (show c = 0 ∨ c = 1 ∨ c = 2 ∨ 3 ≤ c by omega) with rfl | rfl | rfl | hc3
      · go_wp2_with fail
        refine (below_any B g 100 _ T5.out.rd (by omega) (by omega)).mono ?_
        rintro e w6 ⟨v, rfl, ⟨d, rfl, hd0, hd1⟩, hrd, hgr⟩
        have T6 := Lib.hid (T5.out.read hgl hrd hgr)
        have hwd : wrap64 (at_ + (1 + d)) = at_ + (1 + d) := by unfold wrap64; omega
        clear hrd hgr T5
        go_wp2_with fail
        refine ⟨⟨j - 1, at_ + (1 + d), (1 + d), L4, rfl, rfl, rfl, by omega, by omega, by omega, by omega, by omega, by omega, HL4, T6⟩, by simp [intOf]; omega⟩
      · go_wp2_with fail
        refine (below_any B g 5000 _ T5.out.rd (by omega) (by omega)).mono ?_
        rintro e w6 ⟨v, rfl, ⟨d, rfl, hd0, hd1⟩, hrd, hgr⟩
        have T6 := Lib.hid (T5.out.read hgl hrd hgr)
        have hwd : wrap64 (at_ + (1 + d)) = at_ + (1 + d) := by unfold wrap64; omega
        clear hrd hgr T5
        go_wp2_with fail
        refine ⟨⟨j - 1, at_ + (1 + d), (1 + d), L4, rfl, rfl, rfl, by omega, by omega, by omega, by omega, by omega, by omega, HL4, T6⟩, by simp [intOf]; omega⟩
      · go_wp2_with fail
        refine (once_any B g 4 _ T5.out.rd (by omega) (by omega)).mono ?_
        rintro e w6 ⟨v, rfl, ⟨b, rfl⟩, hrd, hgr⟩
        have T6 := Lib.hid (T5.out.read hgl hrd hgr)
        clear hrd hgr T5
        cases b with
        | false =>
          go_wp2_with fail
          refine ⟨⟨j - 1, at_ + st, st, L4, rfl, rfl, rfl, by omega, by omega, by omega, by omega, by omega, by omega, HL4, T6⟩, by simp [intOf]; omega⟩
        | true =>
          go_wp2_with fail
          refine (below_big B g _ T6.out.rd).mono ?_
          rintro e w7 ⟨v, rfl, ⟨d, rfl, hd0, hd1⟩, hrd, hgr⟩
          have T7 := Lib.hid (T6.out.read hgl hrd hgr)
          have hwd : wrap64 (at_ + d) = at_ + d := by unfold wrap64; omega
          clear hrd hgr T6
          go_wp2_with fail
          refine ⟨⟨j - 1, at_ + d, d, L4, rfl, rfl, rfl, by omega, by omega, by omega, by omega, by omega, by omega, HL4, T7⟩, by simp [intOf]; omega⟩
      · have e0 : (c == 0) = false := by simp; omega
        have e1 : (c == 1) = false := by simp; omega
        have e2 : (c == 2) = false := by simp; omega
        go_wp2_with fail
        refine ⟨⟨j - 1, at_ + st, st, L4, rfl, rfl, rfl, by omega, by omega, by omega, by omega, by omega, by omega, HL4, T5⟩, by simp [intOf]; omega⟩
    · go_wp2_with fail
      refine (once_any B g 30 _ T.out.rd (by omega) (by omega)).mono ?_
      rintro e w6 ⟨v, rfl, ⟨b, rfl⟩, hrd, hgr⟩
      have T6 := Lib.hid (T.out.read hgl hrd hgr)
      clear hrd hgr T
      cases b with
      | false =>
        go_wp2_with fail
        go_ret
        exact ⟨_, L, rfl, T6.out, by omega, HL.out⟩
      | true =>
        rcases Go.Joins.ownsRow_forms T6.out.own with ⟨rfl, hL0⟩ | ⟨ga, ca, rfl⟩
        · go_wp2_with fail
          go_ret
          exact ⟨_, L, rfl, T6.out, by omega, HL.out⟩
        · by_cases hl1 : 1 < L.length
          · go_wp2_with fail
            refine (off_any B g 0 1000000000000 _ T6.out.rd (by omega) (by omega) (by omega) (by omega)).mono ?_
            rintro e w7 ⟨v, rfl, ⟨z, rfl, hz0', hz1'⟩, hrd, hgr⟩
            have T7 := Lib.hid (T6.out.read hgl hrd hgr)
            clear hrd hgr T6
            have hown := T7.out.own
            have hcell : w7.cell? ⟨ga, 1, none⟩ = some (.int .i64 (L.getD 1 0)) := by
              rw [hown.cellAt _ (by omega)]; exact ints_get _ _ (by omega)
            have hfro : w7.frozen? ⟨ga, 1, none⟩ = false := hown.frozenAt _
            have hst := (hown.stored 1 (.int .i64 z)).1
            rw [ints_set] at hst
            have hbase := (hown.lt ga rfl).1
            have hBg : B ≤ g := by obtain ⟨A, n, c, q, h⟩ := T7.out.rd; exact h.2.2.2.2.1
            have T8 : Hid (TD w B g (.slice (some ⟨ga, 0, none⟩) L.length ca) (L.set 1 z) (w7.setCell ⟨ga, 1, none⟩ (.int .i64 z))) :=
              Lib.hid ⟨by simpa using hst, Rd.setCell T7.out.rd (show B ≤ ga by omega) (show g ≠ ga by omega) _, grown_setNew' T7.out.gr hbase _⟩
            have HL8 : Hid (∀ y ∈ L.set 1 z, Rng y) := Lib.hid (fun y hy => by
              rcases List.mem_or_eq_of_mem_set hy with hy | rfl
              · exact HL.out y hy
              · exact ⟨hz0', hz1'⟩)
            clear hown hst hbase
            go_wp2_with fail
            go_ret
            exact ⟨_, L.set 1 z, rfl, T8.out, by simp; omega, HL8.out⟩
          · go_wp2_with fail
            go_ret
            exact ⟨_, L, rfl, T6.out, by omega, HL.out⟩
theorem drawnTimes_any (B g : Nat) (w : World) (h : Rd w B g) :
    Calls Tryd.prog 106 #[.pointer (some ⟨g, 0, none⟩), .int .i64 8] w (TimesPost 8 B g w) := drawnTimesM_any 8 (by omega) B g w h

def IntsPost8 (w : World) (e : Ending) (w' : World) : Prop :=
  ∃ v xs, e = .returned v ∧ w'.ownsRow w.heap.size 2 1 v xs.length (ints xs) ∧ xs.length ≤ 8 ∧ (∀ x ∈ xs, Rng x) ∧ Below w.heap.size w w'
end Go.Proofs.YtldjeacpkndcbaaDoor
