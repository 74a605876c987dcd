/- Walks: DrawBitsOk, DrawPutBits, DrawGetBits. -/
import Derived.Test.YtbgogpfhdfgjeaaRd
import Derived.Deep.RegionLaw
import Derived.Test.YtbgogpfhdfgjeaaDb
import Derived.Test.YtbgogpfhdfgjeaaRc
import Derived.Test.YtbgogpfhdfgjeaaSd
import Derived.Test.YtbgogpfhdfgjeaaIb
import Derived.OpenShut
import Derived.Test.YtbgogpfhdfgjeaaSf
set_option linter.unusedVariables false
set_option linter.unusedSimpArgs false
namespace Go.Proofs.Ytbgogpfhdfgjeaa
open Go.RowKit

def IsI (v : Value) : Prop := IsI64 v
/-- a fresh struct variable's block -/
def SB (w : World) (g : Nat) (s : ByteArray) (N : Int) : Prop := w.heap[g]? = some (.cells #[.string s, .int .i64 N] 26 (0, 0))
theorem SB.lt {w : World} {g : Nat} {s : ByteArray} {N : Int} (h : SB w g s N) : g < w.heap.size := by
  unfold SB at h
  rcases Nat.lt_or_ge g w.heap.size with h1 | h1
  · exact h1
  · rw [Array.getElem?_eq_none h1] at h; cases h
theorem SB.c0 {w : World} {g : Nat} {s : ByteArray} {N : Int} (h : SB w g s N) : w.cell? ⟨g, 0, none⟩ = some (.string s) := by rw [cell_of_row w g 0 _ _ _ h]; rfl
theorem SB.c1 {w : World} {g : Nat} {s : ByteArray} {N : Int} (h : SB w g s N) : w.cell? ⟨g, 1, none⟩ = some (.int .i64 N) := by rw [cell_of_row w g 1 _ _ _ h]; rfl
theorem SB.f {w : World} {g : Nat} {s : ByteArray} {N : Int} (h : SB w g s N) (i : Nat) : w.frozen? ⟨g, i, none⟩ = false := frozen_of_row w g i _ _ h
theorem SB.below {w w' : World} {g : Nat} {s : ByteArray} {N : Int} (h : SB w g s N) (hb : Below w.heap.size w w') : SB w' g s N := (hb.block g h.lt).trans h
theorem SB.grown {w w' : World} {g : Nat} {row : Option Nat} {s : ByteArray} {N : Int} (h : SB w g s N) (hb : w.grownBy w' row) (hr : some g ≠ row) : SB w' g s N := (hb.block g h.lt hr).trans h
theorem SB.drew {w : World} {g : Nat} {s : ByteArray} {N : Int} (h : SB w g s N) : SB w.drew g s N := h
theorem SB.new (w : World) (s : ByteArray) (N : Int) : SB (w.alloc (.cells #[.string s, .int .i64 N] 26)) w.heap.size s N := heap_alloc_new w _
theorem SB.res {w : World} {g : Nat} (h : SB w g ⟨#[]⟩ 0) : ResBlk w g := h

def TripPost (w : World) (e : Ending) (w' : World) : Prop :=
  ∃ (s : ByteArray) (N v k : Int), e = .returned (.tuple #[.agg #[.string s, .int .i64 N], .int .i64 v, .int .i64 k]) ∧ s.size ≤ 1000 ∧ IsI64 (.int .i64 N) ∧ IsI64 (.int .i64 v) ∧ IsI64 (.int .i64 k) ∧ Below w.heap.size w w'

end Go.Proofs.Ytbgogpfhdfgjeaa

/- Walks: drawn times. -/
set_option linter.unusedVariables false
set_option linter.unusedSimpArgs false
namespace Go.Proofs.Ytbgogpfhdfgjeaa
open Go.RowKit

set_option maxRecDepth 100000 in
set_option maxHeartbeats 1000000 in
theorem below_big (B g : Nat) (w : World) (h : Rd w B g) :
    Calls Try.prog 51 #[.pointer (some ⟨g, 0, none⟩), .int .i64 1073741824] w (RdPost (IntIn 0 1073741823) B g w) := by
  have H := Lib.hid h
  clear h
  go_enter Try.func51, Try.ntmps51
  go_wp2_with fail
  refine (next_any B g _ H.out).mono ?_
  rintro e w1 ⟨v, rfl, ⟨x, rfl, hx0, hx1⟩, hrd, hgr⟩
  have Hrd := Lib.hid hrd
  clear hrd
  go_wp2_with fail
  refine (next_any B g _ Hrd.out).mono ?_
  rintro e w2 ⟨v, rfl, ⟨y, rfl, hy0, hy1⟩, hrd2, hgr2⟩
  have Hrd2 := Lib.hid hrd2
  clear hrd2
  have hm0 := Int.emod_nonneg (x * 256 + y) (b := 1073741824) (by omega)
  have hm1 := Int.emod_lt_of_pos (x * 256 + y) (b := 1073741824) (by omega)
  have hgr3 := grown_trans' hgr hgr2
  clear hgr hgr2
  go_wp2_with fail
  go_ret
  exact ⟨_, rfl, ⟨(x * 256 + y) % 1073741824, rfl, hm0, by omega⟩, Hrd2.out, hgr3⟩

/-- the drawn list's row, the reader's block, and nothing else changed -/
structure TD (w : World) (B g : Nat) (u : Value) (L : List Int) (wr : World) : Prop where
  own : wr.ownsRow w.heap.size 2 1 u L.length (ints L)
  rd : Rd wr B g
  gr : w.grownBy wr (some g)
theorem TD.read {w wr w2 : World} {B g : Nat} {u : Value} {L : List Int} (p : TD w B g u L wr) (hgl : g < w.heap.size) (hrd : Rd w2 B g) (hg2 : wr.grownBy w2 (some g)) : TD w B g u L w2 :=
  ⟨p.own.kept hg2 (by
    by_cases hx : u.ownBlock = none
    · exact .inl hx
    · right; intro he; have := (p.own.lt g he).1; omega), hrd, grown_trans' p.gr hg2⟩
theorem TD.app {w wr w1 : World} {B g : Nat} {u v' : Value} {L : List Int} {y : Int} {o : Obj} (p : TD w B g u L wr) (hgl : g < w.heap.size)
    (hown : w1.ownsRow w.heap.size 2 1 v' (L.length + 1) (ints L ++ [.int .i64 y])) (hgrow : (wr.alloc o).grownBy w1 u.ownBlock) : TD w B g v' (L ++ [y]) w1 := by
  have hrow : ∀ k, u.ownBlock = some k → w.heap.size ≤ k := fun k hk => (p.own.lt k hk).1
  have hz := p.gr.size
  have hB : B ≤ g := (by obtain ⟨A, n, c, q, h⟩ := p.rd; exact h.2.2.2.2.1)
  refine ⟨?_, (Rd.alloc p.rd _).grown hgrow (fun k hk => by have := hrow k hk; omega), hgrow.os.trans p.gr.os, hgrow.tape.trans p.gr.tape, hgrow.output.trans p.gr.output, by have := hgrow.size; simp at this; omega, fun i hi hne => ?_⟩
  · rw [ints_append]; simpa [ints] using hown
  · rw [hgrow.block i (by simp; omega) (by intro he; have := hrow i he.symm; omega), Below.heap_alloc _ _ _ (by omega)]
    exact p.gr.block i hi hne
theorem grown_setNew' {a w : World} {row : Option Nat} (h : a.grownBy w row) {p : Addr} (hp : a.heap.size ≤ p.block) (u : Value) : a.grownBy (w.setCell p u) row :=
  ⟨h.os, h.tape, h.output, by simpa [World.setCell] using h.size, fun k hk hne => (Below.heap_setCell w p u k (by omega)).trans (h.block k hk hne)⟩
def TimesPost (most : Nat) (B g : Nat) (w : World) (e : Ending) (w' : World) : Prop :=
  ∃ v xs, e = .returned v ∧ TD w B g v xs w' ∧ xs.length ≤ most ∧ ∀ y ∈ xs, Rng y

set_option maxRecDepth 100000 in
set_option maxHeartbeats 4000000 in
theorem drawnTimes_any (B g : Nat) (w : World) (h : Rd w B g) :
    Calls Try.prog 66 #[.pointer (some ⟨g, 0, none⟩), .int .i64 8] w (TimesPost 8 B g w) := by
  obtain ⟨i0, hi, hz0, hz1, hz2⟩ := info_parts info_i64
  have hgl := h.lt
  have H := Lib.hid h
  clear h
  go_enter Try.func66, Try.ntmps66
  go_wp2_with fail
  refine (below_any B g 1000 _ (Rd.alloc H.out _) (by omega) (by omega)).mono ?_
  rintro e w1 ⟨v, rfl, ⟨a0, rfl, ha0, ha1⟩, hrd1, hgr1⟩
  have hown : w1.ownsRow w.heap.size 2 1 (.slice (some ⟨w.heap.size, 0, none⟩) 0 0) 0 (ints []) := by
    have h0 := World.ownsRow_made w (base := w.heap.size) (e := 2) (size := 1) #[] 0 (Nat.le_refl _) (by simp [maxLen]) rfl
    exact h0.kept hgr1 (.inr (by simp [Value.ownBlock]; omega))
  have T1 := Lib.hid (show TD w B g (.slice (some ⟨w.heap.size, 0, none⟩) 0 0) [] w1 from ⟨hown, hrd1, grown_trans' (World.grownBy_alloc w _ _) hgr1⟩)
  clear hown hrd1 hgr1 H
  go_wp2_with fail
  refine (below_any B g 9 _ T1.out.rd (by omega) (by omega)).mono ?_
  rintro e w2 ⟨v, rfl, ⟨x, rfl, hx0, hx1⟩, hrd2, hgr2⟩
  have T2 := Lib.hid (T1.out.read hgl hrd2 hgr2)
  clear hrd2 hgr2 T1
  go_wp2_with fail
  go_loopw [5, 6, 7, 8] (fun u a s i wr => ∃ (j at_ st : Int) (L : List Int), i = .int .i64 j ∧ a = .int .i64 at_ ∧ s = .int .i64 st ∧ 0 ≤ j ∧ (L.length : Int) + j ≤ 8 ∧ 0 ≤ at_ ∧ at_ ≤ 1000 + 1073741824 * (L.length : Int) ∧ 0 ≤ st ∧ st ≤ 1073741824 ∧ Hid (∀ y ∈ L, Rng y) ∧ Hid (TD w B g u L wr))
    (fun _ _ _ i _ => (intOf i).toNat)
  case atStart => exact ⟨x, a0, 10, [], rfl, rfl, rfl, hx0, by simp; omega, ha0, by simp; omega, by omega, by omega, Lib.hid (fun _ h => by cases h), T2⟩
  case round =>
    clear T2
    obtain ⟨j, at_, st, L, rfl, rfl, rfl, hj0, hj1, ha0, ha1, hs0, hs1, HL, T⟩ := hrel
    by_cases hlt : 0 < j
    · have hown := T.out.own
      have hz := T.out.gr.size
      have hwa : wrap64 (at_ + st) = at_ + st := by unfold wrap64; omega
      go_wp2_with (at_builtin; refine wpList_append_own _ rfl _ _ 35 rfl w.heap.size 2 i0 (.int .i64 0) 1 8 Try.underlying35 hi hz0 hz1 hz2 rfl (by decide) _ _ _ rfl (hown.alloc _) ⟨wr.heap.size, 0, none⟩ 1 1 [.int .i64 at_] rfl rfl ?c1 ?c2 ?c3 ?c4 ?c5 ?_)
      case c1 => exact cell_one_new _ _ _
      case c2 => intro q hq; simp at hq; subst hq; rfl
      case c3 => unfold maxLen; omega
      case c4 => omega
      case c5 => simp; omega
      intro v' w4 hown3 hgrow _
      have T4 := Lib.hid (T.out.app hgl hown3 hgrow)
      have HL4 : Hid (∀ y ∈ L ++ [at_], Rng y) := Lib.hid (fun y hy => by
        rcases List.mem_append.1 hy with hy | hy
        · exact HL.out y hy
        · obtain rfl : y = at_ := by simpa using hy
          exact ⟨by omega, by omega⟩)
      have hlen : ((L ++ [at_]).length : Int) = (L.length : Int) + 1 := by simp
      generalize hLL : L ++ [at_] = L4 at *
      clear hLL
      clear hown3 hgrow hown T HL
      go_wp2_with fail
      refine (below_any B g 6 _ T4.out.rd (by omega) (by omega)).mono ?_
      rintro e w5 ⟨v, rfl, ⟨c, rfl, hc0, hc1⟩, hrd, hgr⟩
      have T5 := Lib.hid (T4.out.read hgl hrd hgr)
      clear hrd hgr T4
      rcases (show c = 0 ∨ c = 1 ∨ c = 2 ∨ 3 ≤ c by omega) with rfl | rfl | rfl | hc3
      · go_wp2_with fail
        refine (below_any B g 100 _ T5.out.rd (by omega) (by omega)).mono ?_
        rintro e w6 ⟨v, rfl, ⟨d, rfl, hd0, hd1⟩, hrd, hgr⟩
        have T6 := Lib.hid (T5.out.read hgl hrd hgr)
        have hwd : wrap64 (at_ + (1 + d)) = at_ + (1 + d) := by unfold wrap64; omega
        clear hrd hgr T5
        go_wp2_with fail
        refine ⟨⟨j - 1, at_ + (1 + d), (1 + d), L4, rfl, rfl, rfl, by omega, by omega, by omega, by omega, by omega, by omega, HL4, T6⟩, by simp [intOf]; omega⟩
      · go_wp2_with fail
        refine (below_any B g 5000 _ T5.out.rd (by omega) (by omega)).mono ?_
        rintro e w6 ⟨v, rfl, ⟨d, rfl, hd0, hd1⟩, hrd, hgr⟩
        have T6 := Lib.hid (T5.out.read hgl hrd hgr)
        have hwd : wrap64 (at_ + (1 + d)) = at_ + (1 + d) := by unfold wrap64; omega
        clear hrd hgr T5
        go_wp2_with fail
        refine ⟨⟨j - 1, at_ + (1 + d), (1 + d), L4, rfl, rfl, rfl, by omega, by omega, by omega, by omega, by omega, by omega, HL4, T6⟩, by simp [intOf]; omega⟩
      · go_wp2_with fail
        refine (once_any B g 4 _ T5.out.rd (by omega) (by omega)).mono ?_
        rintro e w6 ⟨v, rfl, ⟨b, rfl⟩, hrd, hgr⟩
        have T6 := Lib.hid (T5.out.read hgl hrd hgr)
        clear hrd hgr T5
        cases b with
        | false =>
          go_wp2_with fail
          refine ⟨⟨j - 1, at_ + st, st, L4, rfl, rfl, rfl, by omega, by omega, by omega, by omega, by omega, by omega, HL4, T6⟩, by simp [intOf]; omega⟩
        | true =>
          go_wp2_with fail
          refine (below_big B g _ T6.out.rd).mono ?_
          rintro e w7 ⟨v, rfl, ⟨d, rfl, hd0, hd1⟩, hrd, hgr⟩
          have T7 := Lib.hid (T6.out.read hgl hrd hgr)
          have hwd : wrap64 (at_ + d) = at_ + d := by unfold wrap64; omega
          clear hrd hgr T6
          go_wp2_with fail
          refine ⟨⟨j - 1, at_ + d, d, L4, rfl, rfl, rfl, by omega, by omega, by omega, by omega, by omega, by omega, HL4, T7⟩, by simp [intOf]; omega⟩
      · have e0 : (c == 0) = false := by simp; omega
        have e1 : (c == 1) = false := by simp; omega
        have e2 : (c == 2) = false := by simp; omega
        go_wp2_with fail
        refine ⟨⟨j - 1, at_ + st, st, L4, rfl, rfl, rfl, by omega, by omega, by omega, by omega, by omega, by omega, HL4, T5⟩, by simp [intOf]; omega⟩
    · go_wp2_with fail
      refine (once_any B g 30 _ T.out.rd (by omega) (by omega)).mono ?_
      rintro e w6 ⟨v, rfl, ⟨b, rfl⟩, hrd, hgr⟩
      have T6 := Lib.hid (T.out.read hgl hrd hgr)
      clear hrd hgr T
      cases b with
      | false =>
        go_wp2_with fail
        go_ret
        exact ⟨_, L, rfl, T6.out, by omega, HL.out⟩
      | true =>
        rcases Go.Joins.ownsRow_forms T6.out.own with ⟨rfl, hL0⟩ | ⟨ga, ca, rfl⟩
        · go_wp2_with fail
          go_ret
          exact ⟨_, L, rfl, T6.out, by omega, HL.out⟩
        · by_cases hl1 : 1 < L.length
          · go_wp2_with fail
            refine (off_any B g 0 1000000000000 _ T6.out.rd (by omega) (by omega) (by omega) (by omega)).mono ?_
            rintro e w7 ⟨v, rfl, ⟨z, rfl, hz0', hz1'⟩, hrd, hgr⟩
            have T7 := Lib.hid (T6.out.read hgl hrd hgr)
            clear hrd hgr T6
            have hown := T7.out.own
            have hcell : w7.cell? ⟨ga, 1, none⟩ = some (.int .i64 (L.getD 1 0)) := by
              rw [hown.cellAt _ (by omega)]; exact ints_get _ _ (by omega)
            have hfro : w7.frozen? ⟨ga, 1, none⟩ = false := hown.frozenAt _
            have hst := (hown.stored 1 (.int .i64 z)).1
            rw [ints_set] at hst
            have hbase := (hown.lt ga rfl).1
            have hBg : B ≤ g := by obtain ⟨A, n, c, q, h⟩ := T7.out.rd; exact h.2.2.2.2.1
            have T8 : Hid (TD w B g (.slice (some ⟨ga, 0, none⟩) L.length ca) (L.set 1 z) (w7.setCell ⟨ga, 1, none⟩ (.int .i64 z))) :=
              Lib.hid ⟨by simpa using hst, Rd.setCell T7.out.rd (show B ≤ ga by omega) (show g ≠ ga by omega) _, grown_setNew' T7.out.gr hbase _⟩
            have HL8 : Hid (∀ y ∈ L.set 1 z, Rng y) := Lib.hid (fun y hy => by
              rcases List.mem_or_eq_of_mem_set hy with hy | rfl
              · exact HL.out y hy
              · exact ⟨hz0', hz1'⟩)
            clear hown hst hbase
            go_wp2_with fail
            go_ret
            exact ⟨_, L.set 1 z, rfl, T8.out, by simp; omega, HL8.out⟩
          · go_wp2_with fail
            go_ret
            exact ⟨_, L, rfl, T6.out, by omega, HL.out⟩

def IntsPost8 (w : World) (e : Ending) (w' : World) : Prop :=
  ∃ v xs, e = .returned v ∧ w'.ownsRow w.heap.size 2 1 v xs.length (ints xs) ∧ xs.length ≤ 8 ∧ (∀ x ∈ xs, Rng x) ∧ Below w.heap.size w w'
set_option maxRecDepth 100000 in
set_option maxHeartbeats 1000000 in
theorem DrawTimesOk_any (A : Option Addr) (n c : Nat) (w : World) (h : CodeAt w A n c) :
    Calls Try.prog 24 #[.slice A n c] w (IntsPost8 w) := by
  have H := Lib.hid h
  clear h
  go_enter Try.func24, Try.ntmps24
  go_wp2_with fail
  refine (open_any A n c _ H.out).mono ?_
  rintro e w1 ⟨rfl, hrd1, hb1⟩
  have Hrd1 := Lib.hid hrd1
  have Hb1 := Lib.hid hb1
  clear hrd1 hb1
  go_wp2_with fail
  refine (drawnTimes_any _ _ _ Hrd1.out).mono ?_
  rintro e w2 ⟨v, xs, rfl, ht, hxl, hxr⟩
  have hown := u_ownsRow_base ht.own Hb1.out.size
  have hb2 := Hb1.out.grown ht.gr Hb1.out.size (fun k hk => by injection hk with hk; omega)
  have Hxr := Lib.hid hxr
  clear ht hxr
  go_wp2_with fail
  go_ret
  exact ⟨v, xs, rfl, hown, hxl, Hxr.out, hb2⟩
set_option maxRecDepth 100000 in
set_option maxHeartbeats 1000000 in
theorem DrawTimesBits_any (A : Option Addr) (n c : Nat) (w : World) (h : CodeAt w A n c) :
    Calls Try.prog 18 #[.slice A n c] w (IntsPost8 w) := by
  have H := Lib.hid (DrawTimesOk_any A n c w h)
  clear h
  go_enter Try.func18, Try.ntmps18
  go_wp2_with fail
  refine H.out.mono ?_
  rintro e w2 ⟨v, xs, rfl, hown, hxl, hxr, hb2⟩
  have Hxr := Lib.hid hxr
  clear hxr
  go_wp2_with fail
  go_ret
  exact ⟨v, xs, rfl, hown, hxl, Hxr.out, hb2⟩
end Go.Proofs.Ytbgogpfhdfgjeaa

/- Walks: DrawReadTimes. -/
set_option linter.unusedVariables false
set_option linter.unusedSimpArgs false
namespace Go.Proofs.Ytbgogpfhdfgjeaa
open Go.RowKit

theorem tbL_short (xs : List Int) (h : xs.length ≤ 8) : (tbL xs).length ≤ 368 := by
  unfold tbL
  split
  · have := timesTo_le xs xs.length
    unfold timesL; omega
  · simp
theorem tbS_short (xs : List Int) (h : xs.length ≤ 8) : (tbS xs).size ≤ 1000 := by
  have := tbL_short xs h
  have e : (tbS xs).size = ((tbL xs).length + 7) / 8 := by
    show (BM.pack (tbL xs)).toArray.size = _
    simp [BM.pack_length, BM.bytesOf]
  rw [e]; omega
theorem q_wrap (x : Int) : Rng (IntKind.i64.wrap x) := by rw [IntWalk.i64_left x]; unfold Rng wrap64; omega
def CutT (w : World) (e : Ending) (w' : World) : Prop :=
  ∃ (s : ByteArray) (N v k : Int), e = .returned (.tuple #[.agg #[.string s, .int .i64 N], .int .i64 v, .int .i64 k]) ∧ s.size ≤ 1000 ∧ Rng N ∧ Rng v ∧ Rng k ∧ Below w.heap.size w w'
theorem q_set2 {w : World} {g : Nat} {s s' : ByteArray} {N N' : Int} (h : SB w g s N) : SB ((w.setCell ⟨g, 0, none⟩ (.string s')).setCell ⟨g, 1, none⟩ (.int .i64 N')) g s' N' := by
  unfold SB at h ⊢
  simp only [World.setCell, Array.getElem?_modify, if_pos, h, Option.map_some]
  rfl
theorem q_other {w : World} {g : Nat} {s : ByteArray} {N : Int} (h : SB w g s N) {a : Addr} (ha : g ≠ a.block) (v : Value) : SB (w.setCell a v) g s N := by
  have ha' : ¬ a.block = g := fun e => ha e.symm
  unfold SB at h ⊢
  simp only [World.setCell, Array.getElem?_modify, if_neg ha', h]
/-- the draw's state: the result's block, the bits' block, the reader -/
structure DT (w : World) (b : Nat) (s : ByteArray) (N : Int) (W : World) : Prop where
  hb : w.heap.size + 1 < b
  r : SB W w.heap.size ⟨#[]⟩ 0
  v : SB W b s N
  rd : Rd W (w.heap.size + 1) (w.heap.size + 1)
  f : Below w.heap.size w W
theorem DT.drew {w : World} {b : Nat} {s : ByteArray} {N : Int} {W : World} (h : DT w b s N W) : DT w b s N W.drew := ⟨h.hb, h.r.drew, h.v.drew, h.rd.drew, h.f.drew⟩
theorem DT.read {w : World} {b : Nat} {s : ByteArray} {N : Int} {W W' : World} (h : DT w b s N W) (hrd : Rd W' (w.heap.size + 1) (w.heap.size + 1)) (hg : W.grownBy W' (some (w.heap.size + 1))) : DT w b s N W' :=
  ⟨h.hb, h.r.grown hg (by intro he; injection he with he; omega), h.v.grown hg (by intro he; injection he with he; have := h.hb; omega), hrd, h.f.grown hg h.f.size (fun k hk => by injection hk with hk; omega)⟩
theorem DT.set {w : World} {b : Nat} {s s' : ByteArray} {N N' : Int} {W : World} (h : DT w b s N W) : DT w b s' N' ((W.setCell ⟨b, 0, none⟩ (.string s')).setCell ⟨b, 1, none⟩ (.int .i64 N')) := by
  have := h.hb
  exact ⟨h.hb, q_other (q_other h.r (by show w.heap.size ≠ b; omega) _) (by show w.heap.size ≠ b; omega) _, q_set2 h.v, (h.rd.setCell (by show w.heap.size + 1 ≤ b; omega) (by show w.heap.size + 1 ≠ b; omega) _).setCell (by show w.heap.size + 1 ≤ b; omega) (by show w.heap.size + 1 ≠ b; omega) _,
    (h.f.setCell (by show w.heap.size ≤ b; omega) _).setCell (by show w.heap.size ≤ b; omega) _⟩

set_option maxRecDepth 100000 in
set_option maxHeartbeats 4000000 in
theorem DrawReadTimes_any (A : Option Addr) (n c : Nat) (w : World) (h : CodeAt w A n c) :
    Calls Try.prog 21 #[.slice A n c] w (CutT w) := by
  have h1 := h.below (below1 w (.cells #[.string ⟨#[]⟩, .int .i64 0] 26))
  have hsb := SB.new w ⟨#[]⟩ 0
  have H1 := Lib.hid h1
  have Hsb := Lib.hid hsb
  clear h h1 hsb
  go_enter Try.func21, Try.ntmps21
  go_wp2_with fail
  refine (open_any A n c _ H1.out).mono ?_
  rintro e w1 ⟨rfl, hrd, hb1⟩
  have Hres1 := Lib.hid (Hsb.out.below hb1)
  have Hf1 := Lib.hid ((below1 w (.cells #[.string ⟨#[]⟩, .int .i64 0] 26)).trans (hb1.mono (by simp)))
  rw [World.size_alloc] at hrd
  have Hrd := Lib.hid hrd
  have hz1 : w.heap.size + 1 ≤ w1.heap.size := by have := hb1.size; simpa using this
  clear hrd hb1 Hsb H1
  go_wp2_with fail
  refine (drawnTimes_any _ _ _ Hrd.out).mono ?_
  rintro e w2 ⟨v, xs, rfl, ht, hxl, hxr⟩
  have hxr' : ∀ j, Rng (xs.getD j 0) := fun j => by
    rw [List.getD_eq_getElem?_getD]
    cases hg : xs[j]? with
    | none => exact rng_zero
    | some y => exact hxr y (List.mem_of_getElem? hg)
  have HIL := Lib.hid (IL.of_own ht.own rfl hxr' (by omega))
  have Hres2 := Lib.hid (Hres1.out.grown ht.gr (by intro he; injection he with he; omega))
  have Hf2 := Lib.hid (Hf1.out.grown ht.gr (by omega) (fun k hk => by injection hk with hk; omega))
  have Hrd2 := Lib.hid ht.rd
  have hz2 : w.heap.size + 1 < w2.heap.size := Rd.lt ht.rd
  clear ht hxr hxr' Hres1 Hf1 Hrd hz1
  go_wp2_with fail
  refine (specTimesBits_any v xs w2 HIL.out).mono ?_
  rintro e w3 ⟨rfl, hb3⟩
  obtain ⟨_, _, A2, c2, rfl, _⟩ := HIL.out
  have hs := tbS_short xs hxl
  have hN : Rng ((tbL xs).length : Int) := by have := tbL_short xs hxl; unfold Rng; omega
  have hz3 := hb3.size
  have HD := Lib.hid (show DT w w3.heap.size (tbS xs) ((tbL xs).length : Int) (w3.alloc (.cells #[.string (tbS xs), .int .i64 ((tbL xs).length : Int)] 26)) from
    ⟨by omega, (Hres2.out.below hb3).below (below1 _ _), SB.new _ _ _, (Hrd2.out.below hb3).alloc _, (Hf2.out.trans (hb3.mono (by omega))).trans ((below1 _ _).mono (by omega))⟩)
  clear hb3 Hres2 Hrd2 Hf2 HIL
  generalize tbS xs = s at *
  generalize ((tbL xs).length : Int) = N at *
  go_wp2_with fail
  refine (once_any _ _ 4 _ HD.out.rd (by omega) (by omega)).mono ?_
  rintro e w4 ⟨q, rfl, ⟨b, rfl⟩, hrd4, hgr4⟩
  have HD4 := Lib.hid (HD.out.read hrd4 hgr4)
  clear hrd4 hgr4 HD hz3 hz2
  generalize w3.heap.size = bb at *
  cases b with
  | true =>
    go_wp2_with fail
    refine (bits_any _ _ 90 _ HD4.out.rd (by omega) (by omega)).mono ?_
    rintro e w5 ⟨q, rfl, ⟨s5, N5, rfl, hs5, hN5, hN5'⟩, hrd5, hgr5⟩
    have HDX := Lib.hid (HD4.out.read hrd5 hgr5)
    have f0 := HDX.out.v.f 0
    have f1 := HDX.out.v.f 1
    have c0 := HDX.out.v.c0
    have c1 := HDX.out.v.c1
    clear hrd5 hgr5 HD4
    go_wp2_with fail
    have HDX2 := Lib.hid (HDX.out.set (s' := s5) (N' := N5))
    clear HDX f0 f1 c0 c1
    have HDX := HDX2
    clear HDX2
    have k0 := HDX.out.v.c0
    have k1 := HDX.out.v.c1
    have r0 := HDX.out.r.c0
    have r1 := HDX.out.r.c1
    have g0 := HDX.out.r.f 0
    have g1 := HDX.out.r.f 1
    go_region_law (first
      | (go_simp; go_at_call 51; (refine (below_any (w.heap.size + 1) (w.heap.size + 1) _ _ (by first | exact HDX.out.rd | exact HDX.out.drew.rd) (by omega) (by omega)).mono ?_); rintro e W5 ⟨_, rfl, ⟨y, rfl, hy0, hy1⟩, hrdX, hgrX⟩; have HDY : DT w bb s5 N5 W5 := (by first | exact HDX.out.read hrdX hgrX | exact HDX.out.drew.read hrdX hgrX); clear HDX; have HDX := Lib.hid HDY; have k0 := HDY.v.c0; have k1 := HDY.v.c1; have r0 := HDY.r.c0; have r1 := HDY.r.c1; have g0 := HDY.r.f 0; have g1 := HDY.r.f 1; have HY0 := Lib.hid hy0; have HY1 := Lib.hid hy1; clear hrdX hgrX HDY hy0 hy1))
    all_goals
      have hF := HDX.out.f
      clear HDX
      go_wp2_with fail
      apply bodyPost_ret
      · simp [results, Try.results21, go_sem, r0, r1]; rfl
      · rfl
      · exact ⟨s5, N5, _, _, rfl, hs5, ⟨hN5, hN5'⟩, q_wrap _, q_wrap _, (hF.setCell (by simp) _).setCell (by simp) _⟩
  | false =>
    have HDX := HD4
    clear HD4
    go_wp2_with fail
    have k0 := HDX.out.v.c0
    have k1 := HDX.out.v.c1
    have r0 := HDX.out.r.c0
    have r1 := HDX.out.r.c1
    have g0 := HDX.out.r.f 0
    have g1 := HDX.out.r.f 1
    go_region_law (first
      | (go_simp; go_at_call 51; (refine (below_any (w.heap.size + 1) (w.heap.size + 1) _ _ (by first | exact HDX.out.rd | exact HDX.out.drew.rd) (by omega) (by omega)).mono ?_); rintro e W5 ⟨_, rfl, ⟨y, rfl, hy0, hy1⟩, hrdX, hgrX⟩; have HDY : DT w bb s N W5 := (by first | exact HDX.out.read hrdX hgrX | exact HDX.out.drew.read hrdX hgrX); clear HDX; have HDX := Lib.hid HDY; have k0 := HDY.v.c0; have k1 := HDY.v.c1; have r0 := HDY.r.c0; have r1 := HDY.r.c1; have g0 := HDY.r.f 0; have g1 := HDY.r.f 1; have HY0 := Lib.hid hy0; have HY1 := Lib.hid hy1; clear hrdX hgrX HDY hy0 hy1))
    all_goals
      have hF := HDX.out.f
      clear HDX
      go_wp2_with fail
      apply bodyPost_ret
      · simp [results, Try.results21, go_sem, r0, r1]; rfl
      · rfl
      · exact ⟨s, N, _, _, rfl, hs, hN, q_wrap _, q_wrap _, (hF.setCell (by simp) _).setCell (by simp) _⟩
end Go.Proofs.Ytbgogpfhdfgjeaa

/- Round trips: what the code's reader gives of a code, what the times' reader gives of a list's bits. -/
set_option linter.unusedVariables false
set_option linter.unusedSimpArgs false
namespace Go.Proofs.Ytbgogpfhdfgjeaa
open Go.RowKit

theorem numL_mid (A C : List Bool) (v n : Nat) (hv : v < 2 ^ n) : numL (A ++ (BM.digits v n ++ C)) A.length n = v := by
  unfold numL
  rw [← BM.ofBits_testBit v n hv]
  rw [BM.ofBits_testBit v n hv]
  refine Eq.trans (BM.ofBits_congr (g := fun i => v.testBit (n - 1 - i)) fun i hi => ?_) (BM.ofBits_testBit v n hv)
  simp only [List.getD_eq_getElem?_getD]
  rw [List.getElem?_append_right (by omega), Nat.add_sub_cancel_left, List.getElem?_append_left (by rw [BM.digits_length]; exact hi)]
  have h := BM.digits_getD v n i
  rw [if_pos hi, List.getD_eq_getElem?_getD] at h
  exact h
theorem bit_at (A C : List Bool) (b : Bool) : numL (A ++ b :: C) A.length 1 = b.toNat := by
  have h := numL_mid A C b.toNat 1 (by cases b <;> decide)
  have e : BM.digits b.toNat 1 = [b] := by cases b <;> decide
  rw [e] at h
  simpa using h
theorem onesL_zero (m : Nat) : ∀ (j i : Nat) (A C : List Bool), onesL (A ++ (List.replicate j true ++ false :: C)) (j + 1 + m) i A.length = some (i + j, A.length + j + 1) := by
  intro j
  induction j with
  | zero =>
    intro i A C
    rw [show 0 + 1 + m = m + 1 by omega, onesL, if_pos (by simp)]
    rw [List.replicate_zero, List.nil_append, bit_at A C false, if_pos (by decide)]
    simp
  | succ j ih =>
    intro i A C
    have h := ih (i + 1) (A ++ [true]) C
    rw [List.replicate_succ, List.cons_append, show j + 1 + 1 + m = (j + 1 + m) + 1 by omega, onesL, if_pos (by simp), bit_at A _ true, if_neg (by decide)]
    simp only [List.append_assoc, List.singleton_append, List.length_append, List.length_cons, List.length_nil, Nat.zero_add] at h
    rw [h]
    simp; omega
theorem onesL_all : ∀ (j i : Nat) (A C : List Bool), onesL (A ++ (List.replicate j true ++ C)) j i A.length = some (i + j, A.length + j) := by
  intro j
  induction j with
  | zero => intro i A C; rfl
  | succ j ih =>
    intro i A C
    have h := ih (i + 1) (A ++ [true]) C
    rw [List.replicate_succ, List.cons_append, onesL, if_pos (by simp), bit_at A _ true, if_neg (by decide)]
    simp only [List.append_assoc, List.singleton_append, List.length_append, List.length_cons, List.length_nil, Nat.zero_add] at h
    rw [h]
    simp; omega
theorem codeB_eq {d : Int} (hs : stepB d = true) : codeB d = codeL d := by unfold codeB; rw [hs]; rfl
theorem getL_code {d : Int} (hs : stepB d = true) (A C : List Bool) : getL (A ++ (codeL d ++ C)) A.length = some (d, A.length + (codeL d).length) := by
  have lim := stepB_iff.1 hs
  have key : ∀ (i : Nat) (pre : List Bool), codeL d = pre ++ BM.digits (u64of (d + offI i)) (bitsI i) → onesL (A ++ (codeL d ++ C)) 4 0 A.length = some (i, A.length + pre.length) → 0 ≤ d + offI i → d + offI i < (2 ^ bitsI i : Nat) → bitsI i ≤ 42 →
      getL (A ++ (codeL d ++ C)) A.length = some (d, A.length + (codeL d).length) := by
    intro i pre h hones h0 h1 hle
    have hu : u64of (d + offI i) = (d + offI i).toNat := by
      have : (2 : Nat) ^ bitsI i ≤ 2 ^ 42 := Nat.pow_le_pow_right (by omega) hle
      unfold u64of; omega
    have hn : numL (A ++ (codeL d ++ C)) (A.length + pre.length) (bitsI i) = (d + offI i).toNat := by
      have hm := numL_mid (A ++ pre) C (u64of (d + offI i)) (bitsI i) (by rw [hu]; omega)
      rw [List.length_append] at hm
      rw [h, List.append_assoc pre, ← List.append_assoc A, hm, hu]
    have hl : (codeL d).length = pre.length + bitsI i := by rw [h, List.length_append, BM.digits_length]
    have hd : ((d + offI i).toNat : Int) - offI i = d := by omega
    unfold getL
    rw [hones]
    simp only
    rw [hn, hd, codeB_eq hs, if_pos (by simp [hl]; omega), if_pos (by rw [hl]; omega), hl]
    simp; omega
  have hc : codeL d = if d = 0 then [false]
      else if -63 ≤ d ∧ d ≤ 64 then [true, false] ++ BM.digits (u64of (d + 63)) 7
      else if -255 ≤ d ∧ d ≤ 256 then [true, true, false] ++ BM.digits (u64of (d + 255)) 9
      else if -2047 ≤ d ∧ d ≤ 2048 then [true, true, true, false] ++ BM.digits (u64of (d + 2047)) 12
      else [true, true, true, true] ++ BM.digits (u64of (d + 2199023255552)) 42 := rfl
  split at hc
  · refine key 0 [false] (by rw [hc]; rfl) ?_ (by simp [offI]; omega) (by simp [offI, bitsI]; omega) (by decide)
    rw [hc]; exact (onesL_zero 3 0 0 A _).trans (by simp)
  · split at hc
    · refine key 1 [true, false] hc ?_ (by simp [offI]; omega) (by simp [offI, bitsI]; omega) (by decide)
      rw [hc]; exact (onesL_zero 2 1 0 A _).trans (by simp)
    · split at hc
      · refine key 2 [true, true, false] hc ?_ (by simp [offI]; omega) (by simp [offI, bitsI]; omega) (by decide)
        rw [hc]; exact (onesL_zero 1 2 0 A _).trans (by simp)
      · split at hc
        · refine key 3 [true, true, true, false] hc ?_ (by simp [offI]; omega) (by simp [offI, bitsI]; omega) (by decide)
          rw [hc]; exact (onesL_zero 0 3 0 A _).trans (by simp)
        · refine key 4 [true, true, true, true] hc ?_ (by simp [offI]; omega) (by simp [offI, bitsI]; omega) (by decide)
          rw [hc]; exact (onesL_all 4 0 A _).trans (by simp)

theorem timesTo_split (xs : List Int) {k n : Nat} (hk : k ≤ n) : ∃ R, timesTo xs n = timesTo xs k ++ R := by
  induction n with
  | zero => obtain rfl : k = 0 := by omega
            exact ⟨[], by simp⟩
  | succ n ih =>
    by_cases e : k = n + 1
    · subst e; exact ⟨[], by simp⟩
    · obtain ⟨R, hR⟩ := ih (by omega)
      exact ⟨R ++ timesPart xs n, by rw [timesTo, hR, List.append_assoc]⟩
theorem q_stepAt_take {xs : List Int} {n k : Nat} (hk : k < n) : stepAt (xs.take n) k = stepAt xs k := by
  unfold stepAt
  split
  · rfl
  · simp only [List.getD_eq_getElem?_getD, List.getElem?_take]
    rw [if_pos hk, if_pos (by omega)]
theorem q_take_succ (xs : List Int) (k : Nat) (hk : k < xs.length) : xs.take (k + 1) = xs.take k ++ [xs.getD k 0] := by
  rw [List.take_add_one, List.getD_eq_getElem?_getD]
  congr 1
  rw [List.getElem?_eq_getElem hk]; rfl
theorem good_rng {xs : List Int} (h : goodTo xs xs.length = true) {k : Nat} (hk : k < xs.length) : 0 ≤ xs.getD k 0 ∧ xs.getD k 0 ≤ 1000000000000 ∧ (k = 0 ∨ xs.getD (k - 1) 0 < xs.getD k 0) := by
  have hg := goodTo_at h hk
  unfold goodAt at hg
  simp only [Bool.and_eq_true, Bool.or_eq_true, decide_eq_true_eq] at hg
  exact ⟨hg.1.1, hg.1.2, hg.2⟩
theorem good_diff {xs : List Int} (h : goodTo xs xs.length = true) {k : Nat} (hk : k < xs.length) : stepB (stepAt xs k - stepAt xs (k - 1)) = true := by
  have g0 := good_rng h hk
  rw [stepB_iff]
  unfold stepAt
  by_cases e0 : k = 0
  · subst e0; simp
  · have g1 := good_rng h (show k - 1 < xs.length by omega)
    by_cases e1 : k - 1 = 0
    · rw [if_neg e0, if_pos e1]; omega
    · have g2 := good_rng h (show k - 1 - 1 < xs.length by omega)
      rw [if_neg e0, if_neg e1]; omega
theorem timesG_back {xs : List Int} (h : goodTo xs xs.length = true) (A C : List Bool) : ∀ k, k ≤ xs.length →
    timesG (fL (A ++ (timesTo xs xs.length ++ C))) (getL (A ++ (timesTo xs xs.length ++ C))) k A.length = some (xs.take k, A.length + (timesTo xs k).length) := by
  intro k
  induction k with
  | zero => intro _; simp [timesG, timesTo]
  | succ k ih =>
    intro hk
    rw [timesG_step (ih (by omega))]
    obtain ⟨R, hR⟩ := timesTo_split xs (show k + 1 ≤ xs.length from hk)
    have hL : A ++ (timesTo xs xs.length ++ C) = (A ++ timesTo xs k) ++ (timesPart xs k ++ (R ++ C)) := by
      rw [hR, timesTo]; simp only [List.append_assoc]
    have hlen : A.length + (timesTo xs k).length = (A ++ timesTo xs k).length := by simp
    have g0 := good_rng h (show k < xs.length by omega)
    have hl1 : A.length + (timesTo xs (k + 1)).length = (A ++ timesTo xs k).length + (timesPart xs k).length := by rw [timesTo]; simp; omega
    rw [hL, hlen, hl1, q_take_succ xs k (by omega)]
    by_cases e : k = 0
    · subst e
      have hu : u64of (xs.getD 0 0) = (xs.getD 0 0).toNat := by unfold u64of; omega
      have hp : timesPart xs 0 = BM.digits (u64of (xs.getD 0 0)) 40 := rfl
      rw [if_pos rfl, hp]
      have hf : fL ((A ++ timesTo xs 0) ++ (BM.digits (u64of (xs.getD 0 0)) 40 ++ (R ++ C))) (A ++ timesTo xs 0).length = some (xs.getD 0 0, (A ++ timesTo xs 0).length + 40) := by
        unfold fL
        rw [numL_mid _ _ _ 40 (by rw [hu]; omega), hu, if_pos (by simp [BM.digits_length]; omega)]
        congr 2
        omega
      rw [hf]
      simp [BM.digits_length]
    · have hst := good_diff h (show k < xs.length by omega)
      have hp : timesPart xs k = codeL (stepAt xs k - stepAt xs (k - 1)) := by
        unfold timesPart; rw [if_neg e, codeB_eq hst]
      rw [if_neg e, hp, getL_code hst]
      simp only [if_neg e]
      have ht : (xs.take k).getD (k - 1) 0 = xs.getD (k - 1) 0 := by
        simp only [List.getD_eq_getElem?_getD, List.getElem?_take]
        rw [if_pos (by omega)]
      rw [ht, q_stepAt_take (by omega)]
      have hs : stepAt xs k = xs.getD k 0 - xs.getD (k - 1) 0 := by unfold stepAt; rw [if_neg e]
      rw [show xs.getD (k - 1) 0 + (stepAt xs (k - 1) + (stepAt xs k - stepAt xs (k - 1))) = xs.getD k 0 by rw [hs]; omega]
/-- the bits of a list of times, wherever they begin, give the list -/
theorem timesB_back {xs : List Int} (h : timesOkB xs = true) (A C : List Bool) : timesB (A ++ (timesL xs ++ C)) xs.length A.length = some (xs, A.length + (timesL xs).length) := by
  have hg : goodTo xs xs.length = true := by unfold timesOkB at h; rw [Bool.and_eq_true] at h; exact h.2
  unfold timesB timesL
  rw [timesG_back hg A C xs.length (Nat.le_refl _), List.take_length]
  simp only [timesFin]
  rw [if_pos h]
end Go.Proofs.Ytbgogpfhdfgjeaa

/- Round trips: the bits of a list of times, read; the bits of times at even steps. -/
set_option linter.unusedVariables false
set_option linter.unusedSimpArgs false
namespace Go.Proofs.Ytbgogpfhdfgjeaa
open Go.RowKit

theorem q_pack_list (l : List Bool) : (ByteArray.mk (BM.pack l).toArray).data.toList = BM.pack l := by simp
theorem q_okB_pack (l : List Bool) (h : l.length ≤ 20000) : okB ⟨(BM.pack l).toArray⟩ (l.length : Int) = true := by
  unfold okB
  apply decide_eq_true
  refine ⟨by omega, by omega, ?_, ?_⟩
  · have h1 : (ByteArray.mk (BM.pack l).toArray).size = (BM.pack l).length := List.size_toArray
    rw [h1, BM.pack_length]; unfold BM.bytesOf; omega
  · rw [Int.toNat_natCast, q_pack_list, BM.listOf_pack]
theorem readTs_back {xs : List Int} (h : timesOkB xs = true) : readTs (tbS xs) ((tbL xs).length : Int) 0 (xs.length : Int) = some (xs, (tbL xs).length) := by
  have hl : xs.length ≤ 120 := by unfold timesOkB at h; simp only [Bool.and_eq_true, decide_eq_true_eq] at h; exact h.1
  have ht : tbL xs = timesL xs := by unfold tbL; rw [if_pos h]
  have hle : (tbL xs).length ≤ 5520 := by
    have := timesTo_le xs xs.length
    rw [ht]; unfold timesL; omega
  have hb := timesB_back h [] []
  unfold readTs hasB tbS
  rw [q_okB_pack _ (by omega), if_pos ⟨by omega, by simp⟩, Int.toNat_natCast, Int.toNat_natCast, q_pack_list, BM.listOf_pack, ht]
  simpa using hb
/-- times at even steps of ten -/
def evenL (c : Int) (m : Nat) : List Int := (List.range m).map fun (i : Nat) => 10 * (i : Int) + c
theorem evenL_len (c : Int) (m : Nat) : (evenL c m).length = m := by simp [evenL]
theorem evenL_get (c : Int) (m j : Nat) (hj : j < m) : (evenL c m).getD j 0 = 10 * (j : Int) + c := by
  simp [evenL, List.getD_eq_getElem?_getD, hj]
theorem evenL_succ (c : Int) (m : Nat) : evenL c (m + 1) = evenL c m ++ [10 * (m : Int) + c] := by
  unfold evenL; rw [List.range_succ, List.map_append]; rfl
theorem even_good {c : Int} (h0 : 0 ≤ c) (h1 : c < 7) (m : Nat) (hm : m ≤ 120) : timesOkB (evenL c m) = true := by
  unfold timesOkB goodTo
  rw [evenL_len, Bool.and_eq_true, decide_eq_true_iff, List.all_eq_true]
  refine ⟨hm, fun j hj => ?_⟩
  have hj' : j < m := by simpa using hj
  unfold goodAt
  rw [evenL_get c m j hj']
  simp only [Bool.and_eq_true, Bool.or_eq_true, decide_eq_true_eq]
  refine ⟨by omega, ?_⟩
  by_cases e : j = 0
  · exact .inl e
  · right; rw [evenL_get c m (j - 1) (by omega)]; omega
theorem even_step {c : Int} {m k : Nat} (hk : k < m) : stepAt (evenL c m) k = if k = 0 then 0 else 10 := by
  unfold stepAt
  by_cases e : k = 0
  · rw [if_pos e, if_pos e]
  · rw [if_neg e, if_neg e, evenL_get c m k hk, evenL_get c m (k - 1) (by omega)]; omega
theorem even_part {c : Int} {m k : Nat} (hk : k < m) : (timesPart (evenL c m) k).length = if k = 0 then 40 else if k = 1 then 9 else 1 := by
  unfold timesPart
  by_cases e : k = 0
  · rw [if_pos e, if_pos e, BM.digits_length]
  · rw [if_neg e, if_neg e, even_step hk, even_step (show k - 1 < m by omega), if_neg e]
    by_cases e1 : k = 1
    · rw [if_pos (show k - 1 = 0 by omega), if_pos e1]
      rfl
    · rw [if_neg (show ¬ k - 1 = 0 by omega), if_neg e1]
      rfl
theorem even_to {c : Int} {m : Nat} : ∀ k, k ≤ m → 2 ≤ k → (timesTo (evenL c m) k).length = 49 + (k - 2) := by
  intro k
  induction k with
  | zero => intro _ h; omega
  | succ k ih =>
    intro hk h2
    rw [timesTo, List.length_append, even_part (show k < m by omega)]
    by_cases e : k = 1
    · subst e
      rw [if_neg (by decide), if_pos rfl, show timesTo (evenL c m) 1 = timesTo (evenL c m) 0 ++ timesPart (evenL c m) 0 from rfl, List.length_append, even_part (show 0 < m by omega), if_pos rfl]
      rfl
    · rw [ih (by omega) (by omega), if_neg (by omega), if_neg e]; omega
theorem even_len {c : Int} (h0 : 0 ≤ c) (h1 : c < 7) {m : Nat} (hm : m ≤ 120) (h2 : 2 ≤ m) : (tbL (evenL c m)).length = 49 + (m - 2) := by
  unfold tbL timesL
  rw [if_pos (even_good h0 h1 m hm), evenL_len]
  exact even_to m (Nat.le_refl _) h2
end Go.Proofs.Ytbgogpfhdfgjeaa

/- Walks: sameInts. -/
set_option linter.unusedVariables false
set_option linter.unusedSimpArgs false
namespace Go.Proofs.Ytbgogpfhdfgjeaa
open Go.RowKit

set_option maxRecDepth 100000 in
set_option maxHeartbeats 1000000 in
theorem sameInts_any (v u : Value) (xs ys : List Int) (w : World) (h : IL w w.heap.size v xs) (h' : IL w w.heap.size u ys) :
    Calls Try.prog 25 #[v, u] w (BoolPost (decide (xs = ys)) w) := by
  obtain ⟨hr, hlen, A, c, rfl, h3⟩ := h
  obtain ⟨hr', hlen', A', c', rfl, h3'⟩ := h'
  by_cases hl : xs.length = ys.length
  · have Hl := Lib.hid hl
    have hne : decide ((xs.length : Int) = (ys.length : Int)) = true := by simp; omega
    have hbne : ((xs.length : Int) != (ys.length : Int)) = false := by simp; omega
    clear hl
    go_enter Try.func25, Try.ntmps25
    go_wp2_with fail
    go_loopw [5] (fun i wr => ∃ k : Nat, k ≤ xs.length ∧ i = .int .i64 k ∧ (∀ j, j < k → xs.getD j 0 = ys.getD j 0) ∧ Below w.heap.size w wr) (fun i _ => xs.length - (intOf i).toNat)
    case atStart => exact ⟨0, Nat.zero_le _, rfl, fun j hj => by omega, Below.refl _ _⟩
    case round =>
      obtain ⟨k, hk, rfl, hag, hb⟩ := hrel
      have Hag := Lib.hid hag
      clear hag
      by_cases hlt : k < xs.length
      · have hlt' : k < ys.length := by have := Hl.out; omega
        rcases h3 with h3 | ⟨b, off, rfl, hbl, hc⟩
        · subst h3; simp at hlt
        rcases h3' with h3' | ⟨b', off', rfl, hbl', hc'⟩
        · subst h3'; simp at hlt'
        have hx : wr.cell? ⟨b, off + k, none⟩ = some (.int .i64 (xs.getD k 0)) := (hb.cell (p := ⟨b, off + k, none⟩) hbl).trans (hc k hlt)
        have hy : wr.cell? ⟨b', off' + k, none⟩ = some (.int .i64 (ys.getD k 0)) := (hb.cell (p := ⟨b', off' + k, none⟩) hbl').trans (hc' k hlt')
        have Hr := Lib.hid hr
        have Hr' := Lib.hid hr'
        by_cases e : xs.getD k 0 = ys.getD k 0
        · have E := Lib.hid e
          rw [← e] at hy
          generalize hX : xs.getD k 0 = x at hx hy
          have HX := Lib.hid hX
          clear hX hc hc' hr hr' e
          go_wp2_with fail
          go_region
          go_wp2_with fail
          go_roundw
          case rel =>
            refine ⟨k + 1, by omega, by go_num, fun j hj => ?_, by first | exact hb.drew | exact hb.drew.drew⟩
            by_cases e : j = k
            · subst e; exact E.out
            · exact Hag.out j (by omega)
          case measure => simp [intOf]; omega
        · have E := Lib.hid (ne_of_get k e)
          generalize hX : xs.getD k 0 = x at hx e
          generalize hY : ys.getD k 0 = y at hy e
          have HX := Lib.hid hX
          have HY := Lib.hid hY
          have hxy : decide (x = y) = false := by simpa using e
          have hxy' : (x != y) = true := by simpa using e
          clear hX hY hc hc' hr hr' e
          go_wp2_with fail
          go_region
          go_wp2_with fail
          go_ret
          exact ⟨by rw [E.out]; rfl, by first | exact hb.drew | exact hb.drew.drew⟩
      · obtain rfl : k = xs.length := by omega
        have e : xs = ys := ints_ext Hl.out (fun j hj => Hag.out j hj)
        have E := Lib.hid (show decide (xs = ys) = true from by simp [e])
        clear e
        go_wp2_with fail
        go_ret
        exact ⟨by rw [E.out]; rfl, hb⟩
  · have E := Lib.hid (ne_of_len hl)
    have hbne : ((xs.length : Int) != (ys.length : Int)) = true := by simp; omega
    have hbne2 : decide ((xs.length : Int) = (ys.length : Int)) = false := by simp; omega
    clear hl
    go_enter Try.func25, Try.ntmps25
    go_wp2_with fail
    go_ret
    exact ⟨by rw [E.out]; rfl, Below.refl _ _⟩

end Go.Proofs.Ytbgogpfhdfgjeaa

/- Walks: big; the drawn code as it came in. -/
set_option linter.unusedVariables false
set_option linter.unusedSimpArgs false
namespace Go.Proofs.Ytbgogpfhdfgjeaa
open Go.RowKit

set_option maxRecDepth 100000 in
set_option maxHeartbeats 400000 in
theorem big_any (A : Option Addr) (n c : Nat) (w : World) :
    Calls Try.prog 9 #[.slice A n c] w fun e w' => e = .returned (.bool (decide (1048576 < (n : Int)))) ∧ w = w' := by
  go_enter Try.func9, Try.ntmps9
  go_wp2
  go_ret
  exact ⟨rfl, rfl⟩

theorem codeAt_of (x : Addr) (n c : Nat) (zs : List Int) (w : World) (hn : n ≤ 1048576) (hl : n ≤ c) (hz : zs.length = c)
    (hcell : ∀ i, i < zs.length → w.cell? (x.add i) = some (.int .u8 (zs.getD i 0))) (hwz : ∀ k ∈ zs, (Lit.int .u8 k).wf = true) : CodeAt w (some x) n c := by
  refine ⟨hn, hl, ?_⟩
  by_cases h0 : n = 0
  · exact .inl h0
  · right
    obtain ⟨b, off, spot⟩ := x
    have hc := hcell 0 (by omega)
    have hspot : spot = none := by simpa [Addr.add] using World.cell?_spot hc
    subst hspot
    refine ⟨b, off, rfl, ?_, fun j hj => ?_⟩
    · have h1 : w.cell? ⟨b, off, none⟩ = some (.int .u8 (zs.getD 0 0)) := by simpa [Addr.add] using hc
      exact World.block_lt_of_cell? w _ h1
    · have hj' : j < zs.length := by omega
      have h2 := hcell j hj'
      have hadd : (⟨b, off, none⟩ : Addr).add j = ⟨b, off + j, none⟩ := by unfold Addr.add; split <;> simp_all
      rw [hadd] at h2
      have hm : zs.getD j 0 ∈ zs := by
        rw [List.getD_eq_getElem?_getD, List.getElem?_eq_getElem hj']; exact List.getElem_mem hj'
      have hb := bounds_u8 (hwz _ hm)
      refine ⟨(zs.getD j 0).toNat, by omega, ?_⟩
      rw [h2, show (((zs.getD j 0).toNat : Nat) : Int) = zs.getD j 0 by omega]

end Go.Proofs.Ytbgogpfhdfgjeaa

/- Walks: the law FnTimes. -/
set_option linter.unusedVariables false
set_option linter.unusedSimpArgs false
namespace Go.Proofs.Ytbgogpfhdfgjeaa
open Go.RowKit

/-- what the law's later calls need of a world: the list, the block of its bits, what was read, the other list -/
structure TQ (w : World) (v : Value) (xs : List Int) (gb gw : Nat) (N : Int) (vx vy vz : Value) (X Z : List Int) (W : World) : Prop where
  i : IL W W.heap.size v xs
  b : SB W gb (tbS xs) N
  c : SB W gw (tbS xs) N
  x : IL W W.heap.size vx X
  y : IL W W.heap.size vy X
  z : IL W W.heap.size vz Z
  f : Below w.heap.size w W
theorem TQ.next {w : World} {v : Value} {xs : List Int} {gb gw : Nat} {N : Int} {vx vy vz : Value} {X Z : List Int} {W W' : World} (h : TQ w v xs gb gw N vx vy vz X Z W) (hb : Below W.heap.size W W') : TQ w v xs gb gw N vx vy vz X Z W' :=
  ⟨(h.i.below hb).up hb.size, h.b.below hb, h.c.below hb, (h.x.below hb).up hb.size, (h.y.below hb).up hb.size, (h.z.below hb).up hb.size, h.f.trans (hb.mono h.f.size)⟩

set_option maxRecDepth 100000 in
set_option maxHeartbeats 4000000 in
theorem walkFnTimes (A : Option Addr) (n c : Nat) (w : World) (h : n ≤ 1048576 → CodeAt w A n c) :
    Calls Try.prog 4 #[.slice A n c] w fun e w' => e = .returned (.bool true) ∧ Below w.heap.size w w' := by
  have hbig := fun W => big_any A n c W
  by_cases hn : n ≤ 1048576
  · have H := Lib.hid (h hn)
    have hd : decide (1048576 < (n : Int)) = false := by simp; omega
    rw [hd] at hbig
    have Hbig := Lib.hid hbig
    obtain ⟨i0, hi, hz0, hz1, hz2⟩ := info_parts info_i64
    clear hbig hd h
    go_enter Try.func4, Try.ntmps4
    go_wp2_with fail
    refine (Hbig.out _).mono ?_
    rintro e w' ⟨rfl, rfl⟩
    go_wp2_with fail
    refine (DrawTimesBits_any A n c _ H.out).mono ?_
    rintro e w1 ⟨v, xs, rfl, hown, hxl, hxr, hb1⟩
    have I1 := Lib.hid (IL.of_own hown rfl (rng_of hxr) (by omega))
    have B1 := Lib.hid hb1
    have C1 := Lib.hid (H.out.below hb1)
    clear hown hxr hb1 H
    obtain ⟨A1, c1, rfl⟩ : ∃ A1 c1, v = .slice A1 xs.length c1 := by obtain ⟨_, _, A1, c1, rfl, _⟩ := I1.out; exact ⟨A1, c1, rfl⟩
    have him := Lib.hid (fun v W h => implTimesBits_any v xs W h)
    have hsp := Lib.hid (fun v W h => specTimesBits_any v xs W h)
    have hsz := tbS_short xs hxl
    have hlb := tbL_short xs hxl
    have HRB := Lib.hid (@readTs_back xs)
    generalize hN : ((tbL xs).length : Int) = N at *
    generalize hT : timesOkB xs = T at *
    have HN := Lib.hid hN
    clear hN hT
    go_wp2_with fail
    refine (him.out _ _ I1.out).mono ?_
    rintro e w2 ⟨rfl, hb2⟩
    have ha : Below w2.heap.size w2 (w2.alloc (.cells #[.string (tbS xs), .int .i64 N] 26)) := below1 w2 _
    have I2 := Lib.hid ((((I1.out.below hb2).up hb2.size).below ha).up ha.size)
    have C2 := Lib.hid ((C1.out.below hb2).below ha)
    have B2 := Lib.hid ((B1.out.trans (hb2.mono B1.out.size)).trans (ha.mono (B1.out.trans (hb2.mono B1.out.size)).size))
    have S2 := Lib.hid (SB.new w2 (tbS xs) N)
    clear hb2 ha I1 B1 C1
    go_wp2_with fail
    refine (hsp.out _ _ I2.out).mono ?_
    rintro e w3 ⟨rfl, hb3⟩
    have ha : Below w3.heap.size w3 (w3.alloc (.cells #[.string (tbS xs), .int .i64 N] 26)) := below1 w3 _
    have I3 := Lib.hid ((((I2.out.below hb3).up hb3.size).below ha).up ha.size)
    have C3 := Lib.hid ((C2.out.below hb3).below ha)
    have B3 := Lib.hid ((B2.out.trans (hb3.mono B2.out.size)).trans (ha.mono (B2.out.trans (hb3.mono B2.out.size)).size))
    have S3 := Lib.hid ((S2.out.below hb3).below ha)
    have W3 := Lib.hid (SB.new w3 (tbS xs) N)
    have hlt3 : w2.heap.size < w3.heap.size := by have := hb3.size; simp at this; omega
    clear hb3 ha I2 B2 S2 C2
    go_wp2_with fail
    generalize w2.heap.size = gb at *
    generalize w3.alloc (.cells #[.string (tbS xs), .int .i64 N] 26) = w4 at *
    generalize w3.heap.size = gw at *
    refine (DrawReadTimes_any A n c _ C3.out).mono ?_
    rintro e w5 ⟨s, M, at_, k, rfl, hs, hM, hat, hk, hb5⟩
    have hss : s.size ≤ maxLen := by unfold maxLen; omega
    have ha : Below w5.heap.size w5 (w5.alloc (.cells #[.string s, .int .i64 M] 26)) := below1 w5 _
    have I5 := Lib.hid ((((I3.out.below hb5).up hb5.size).below ha).up ha.size)
    have C5 := Lib.hid ((C3.out.below hb5).below ha)
    have B5 := Lib.hid ((B3.out.trans (hb5.mono B3.out.size)).trans (ha.mono (B3.out.trans (hb5.mono B3.out.size)).size))
    have S5 := Lib.hid ((S3.out.below hb5).below ha)
    have W5 := Lib.hid ((W3.out.below hb5).below ha)
    have D5 := Lib.hid (SB.new w5 s M)
    clear hb5 ha I3 B3 S3 W3 C3
    obtain ⟨hrng0, hlen⟩ := rt_ok s M at_ k
    have hrng := Lib.hid hrng0
    have h1 := Lib.hid (fun W => specReadTimes_any s M at_ k W hss)
    have h2 := Lib.hid (fun W => implReadTimes_t s M at_ k W hss)
    clear hrng0
    unfold TOut at h1 h2
    generalize rtX (readTs s M at_ k) = X at *
    generalize rtQ (readTs s M at_ k) = Q at *
    generalize rtB (readTs s M at_ k) = R at *
    have d0 := D5.out.c0
    have d1 := D5.out.c1
    go_wp2_with fail
    generalize w5.alloc (.cells #[.string s, .int .i64 M] 26) = w6 at *
    generalize w5.heap.size = gc at *
    refine (h2.out _).mono ?_
    rintro e w7 ⟨vx, rfl, hown1, hb7⟩
    have X7 := Lib.hid (IL.of_own hown1 rfl hrng.out (by omega))
    have I7 := Lib.hid ((I5.out.below hb7).up hb7.size)
    have C7 := Lib.hid (C5.out.below hb7)
    have B7 := Lib.hid (B5.out.trans (hb7.mono B5.out.size))
    have S7 := Lib.hid (S5.out.below hb7)
    have W7 := Lib.hid (W5.out.below hb7)
    have D7 := Lib.hid (D5.out.below hb7)
    clear hb7 hown1 I5 C5 B5 S5 W5 D5 d0 d1
    have d0 := D7.out.c0
    have d1 := D7.out.c1
    go_wp2_with fail
    refine (h1.out _).mono ?_
    rintro e w8 ⟨vy, rfl, hown2, hb8⟩
    have Y8 := Lib.hid (IL.of_own hown2 rfl hrng.out (by omega))
    have X8 := Lib.hid ((X7.out.below hb8).up hb8.size)
    have I8 := Lib.hid ((I7.out.below hb8).up hb8.size)
    have C8 := Lib.hid (C7.out.below hb8)
    have B8 := Lib.hid (B7.out.trans (hb8.mono B7.out.size))
    have S8 := Lib.hid (S7.out.below hb8)
    have W8 := Lib.hid (W7.out.below hb8)
    clear hb8 hown2 I7 C7 B7 S7 W7 D7 d0 d1 X7
    go_wp2_with fail
    refine (DrawTimesOk_any A n c _ C8.out).mono ?_
    rintro e w9 ⟨vz, zs, rfl, hown3, hzl, hzr, hb9⟩
    have HQ := Lib.hid (show TQ w (.slice A1 xs.length c1) xs gb gw N vx vy vz X zs w9 from ⟨(I8.out.below hb9).up hb9.size, S8.out.below hb9, W8.out.below hb9, (X8.out.below hb9).up hb9.size, (Y8.out.below hb9).up hb9.size, IL.of_own hown3 rfl (rng_of hzr) (by omega), B8.out.trans (hb9.mono B8.out.size)⟩)
    clear hb9 hown3 hzr I8 C8 B8 S8 W8 X8 Y8
    have hsi := Lib.hid (fun v u W h h' => sameInts_any v u X X W h h')
    rw [decide_eq_true rfl] at hsi
    have hsl := Lib.hid (fun v u W h h' => sameInts_any v u xs xs W h h')
    rw [decide_eq_true rfl] at hsl
    have hit := Lib.hid (fun v W h => implTimesOk_any v zs W h)
    have hst := Lib.hid (fun v W h => specTimesOk_any v zs W h)
    generalize timesOkB zs = Zb at *
    have b0 := HQ.out.b.c0
    have b1 := HQ.out.b.c1
    have c0 := HQ.out.c.c0
    have c1' := HQ.out.c.c1
    go_wp2_with fail
    refine (hsi.out _ _ _ HQ.out.x HQ.out.y).mono ?_
    rintro e w10 ⟨rfl, hb10⟩
    have HQT := Lib.hid (HQ.out.next hb10)
    clear HQ hb10 b0 b1 c0 c1'
    have HQ := HQT
    clear HQT
    have b0 := HQ.out.b.c0
    have b1 := HQ.out.b.c1
    have c0 := HQ.out.c.c0
    have c1' := HQ.out.c.c1
    go_wp2_with fail
    refine (hit.out _ _ HQ.out.z).mono ?_
    rintro e w11 ⟨rfl, hb11⟩
    have HQT := Lib.hid (HQ.out.next hb11)
    clear HQ hb11 b0 b1 c0 c1'
    have HQ := HQT
    clear HQT
    have b0 := HQ.out.b.c0
    have b1 := HQ.out.b.c1
    have c0 := HQ.out.c.c0
    have c1' := HQ.out.c.c1
    go_wp2_with fail
    refine (hst.out _ _ HQ.out.z).mono ?_
    rintro e w12 ⟨rfl, hb12⟩
    have HQT := Lib.hid (HQ.out.next hb12)
    clear HQ hb12 b0 b1 c0 c1'
    have HQ := HQT
    clear HQT
    have b0 := HQ.out.b.c0
    have b1 := HQ.out.b.c1
    have c0 := HQ.out.c.c0
    have c1' := HQ.out.c.c1
    cases T with
    | false =>
      go_wp2_with fail
      refine (hsi.out _ _ _ HQ.out.x HQ.out.y).mono ?_
      rintro e w13 ⟨rfl, hb13⟩
      have HQT := Lib.hid (HQ.out.next hb13)
      clear HQ hb13 b0 b1 c0 c1'
      have HQ := HQT
      clear HQT
      have b0 := HQ.out.b.c0
      have b1 := HQ.out.b.c1
      have c0 := HQ.out.c.c0
      have c1' := HQ.out.c.c1
      go_wp2_with fail
      refine (hit.out _ _ HQ.out.z).mono ?_
      rintro e w14 ⟨rfl, hb14⟩
      have HQT := Lib.hid (HQ.out.next hb14)
      clear HQ hb14 b0 b1 c0 c1'
      have HQ := HQT
      clear HQT
      have b0 := HQ.out.b.c0
      have b1 := HQ.out.b.c1
      have c0 := HQ.out.c.c0
      have c1' := HQ.out.c.c1
      go_wp2_with fail
      refine (hst.out _ _ HQ.out.z).mono ?_
      rintro e w15 ⟨rfl, hb15⟩
      have HQT := Lib.hid (HQ.out.next hb15)
      clear HQ hb15 b0 b1 c0 c1'
      have HQ := HQT
      clear HQT
      have b0 := HQ.out.b.c0
      have b1 := HQ.out.b.c1
      have c0 := HQ.out.c.c0
      have c1' := HQ.out.c.c1
      go_wp2_with fail
      go_ret
      exact ⟨by simp, HQ.out.f⟩
    | true =>
      have h3 := fun W => implReadTimes_t (tbS xs) N 0 (xs.length : Int) W (by unfold maxLen; omega)
      rw [HRB.out rfl] at h3
      simp only [rtX, rtQ, rtB] at h3
      rw [HN.out] at h3
      unfold TOut at h3
      have H3 := Lib.hid h3
      have HE := Lib.hid (fun m (h1 : 2 ≤ m) (h2 : m ≤ 120) => @even_len ((n : Int) % 7) (by omega) (by omega) m h2 h1)
      have HG := Lib.hid (fun m (h2 : m ≤ 120) => @even_good ((n : Int) % 7) (by omega) (by omega) m h2)
      clear h3 h1 h2 hsp hit hst hsi HRB
      go_wp2_with fail
      refine (H3.out _).mono ?_
      rintro e w13 ⟨vb, rfl, hownb, hb13⟩
      have KB := Lib.hid (IL.of_own hownb rfl HQ.out.i.1 (by omega))
      have HQT := Lib.hid (HQ.out.next hb13)
      clear HQ hb13 hownb b0 b1 c0 c1'
      have hown0 : (w13.alloc (.cells #[] 2)).ownsRow w13.heap.size 2 1 (.slice (some ⟨w13.heap.size, 0, none⟩) 0 0) 0 (ints []) :=
        World.ownsRow_made w13 (base := w13.heap.size) (e := 2) (size := 1) #[] 0 (by simp) (by simp [maxLen]) rfl
      have hb0 : Below w13.heap.size w13 (w13.alloc (.cells #[] 2)) := below1 _ _
      have H0 := Lib.hid hown0
      have HB0 := Lib.hid hb0
      clear hown0 hb0
      go_wp2_with fail
      go_loopw [21, 22] (fun u i wr => ∃ k : Nat, k ≤ xs.length ∧ i = .int .i64 (k : Int) ∧ wr.ownsRow w13.heap.size 2 1 u k (ints (evenL ((n : Int) % 7) k)) ∧ Below w13.heap.size w13 wr)
        (fun _ i _ => xs.length - (intOf i).toNat)
      case atStart => exact ⟨0, Nat.zero_le _, by simp, by simpa [evenL] using H0.out, HB0.out⟩
      case round =>
        clear H0 HB0
        obtain ⟨k', hk', rfl, hown, hb⟩ := hrel
        have Hb := Lib.hid hb
        have hzb := hb.size
        clear hb
        by_cases hlt : k' < xs.length
        · have hT := Lib.hid (ints_append (evenL ((n : Int) % 7) k') [10 * (k' : Int) + (n : Int) % 7])
          rw [← evenL_succ] at hT
          go_wp2_with (at_builtin; refine wpList_append_own _ rfl _ _ 35 rfl w13.heap.size 2 i0 (.int .i64 0) 1 8 Try.underlying35 hi hz0 hz1 hz2 rfl (by decide) _ _ _ rfl (hown.alloc _) ⟨wr.heap.size, 0, none⟩ 1 1 [.int .i64 (10 * (k' : Int) + (n : Int) % 7)] rfl rfl (cell_one_new _ _ _) ?c2 ?c3 ?c4 ?c5 ?_)
          try (case c2 => first | rfl | (intro q hq; simp at hq; subst hq; rfl))
          try (case c3 => unfold maxLen; omega)
          try (case c4 => omega)
          try (case c5 => first | omega | (simp; omega))
          intro v' w5 hown3 hgrow _
          have hown4 : w5.ownsRow w13.heap.size 2 1 v' (k' + 1) (ints (evenL ((n : Int) % 7) (k' + 1))) := by rw [hT.out]; exact hown3
          have hb5 : Below w13.heap.size w13 w5 := (Hb.out.alloc (by omega) _).grown hgrow (by simp; omega) (fun k hk => (hown.lt _ hk).1)
          clear hgrow hown hown3
          go_wp2_with fail
          first
          | (go_roundw; (case rel => exact ⟨k' + 1, by omega, by go_num, hown4, hb5⟩); (case measure => simp [intOf]; omega))
          | exact ⟨⟨k' + 1, by omega, by go_num, hown4, hb5⟩, by simp [intOf]; omega⟩
        · obtain rfl : k' = xs.length := by omega
          have hrE : ∀ j, Rng ((evenL ((n : Int) % 7) xs.length).getD j 0) := fun j => by
            by_cases hj : j < xs.length
            · rw [evenL_get _ _ _ hj]; unfold Rng; omega
            · rw [List.getD_eq_getElem?_getD, List.getElem?_eq_none (by rw [evenL_len]; omega)]; exact rng_zero
          have IE := Lib.hid (IL.of_own hown (evenL_len _ _).symm hrE (by rw [evenL_len]; omega))
          have HQ := Lib.hid (HQT.out.next Hb.out)
          have KB2 := Lib.hid ((KB.out.below Hb.out).up hzb)
          have HE2 := Lib.hid (HE.out xs.length)
          have hIE := Lib.hid (fun v W h => implTimesBits_any v (evenL ((n : Int) % 7) xs.length) W h)
          clear hown Hb hzb hrE HQT KB HE HG
          generalize evenL ((n : Int) % 7) xs.length = E at *
          generalize hNE : ((tbL E).length : Int) = NE at *
          generalize timesOkB E = TE at *
          generalize tbS E = sE at *
          have HNE := Lib.hid hNE
          clear hNE
          go_wp2_with fail
          refine (hIE.out _ _ IE.out).mono ?_
          rintro e w15 ⟨rfl, hb15⟩
          have ha : Below w15.heap.size w15 (w15.alloc (.cells #[.string sE, .int .i64 NE] 26)) := below1 w15 _
          have HQ2 := Lib.hid ((HQ.out.next hb15).next ha)
          have KB3 := Lib.hid ((((KB2.out.below hb15).up hb15.size).below ha).up ha.size)
          have SE := Lib.hid (SB.new w15 sE NE)
          clear hb15 ha HQ KB2 IE
          go_wp2_with fail
          refine (hsl.out _ _ _ KB3.out HQ2.out.i).mono ?_
          rintro e w16 ⟨rfl, hb16⟩
          have HQ3 := Lib.hid (HQ2.out.next hb16)
          have SE3 := Lib.hid (SE.out.below hb16)
          have b0 := HQ3.out.b.c0
          have b1 := HQ3.out.b.c1
          have q0 := SE3.out.c0
          have q1 := SE3.out.c1
          clear hb16 HQ2 SE KB3
          by_cases h2 : xs.length < 2
          · have hd2 : decide ((xs.length : Int) < 2) = true := by simp; omega
            go_wp2_with fail
            go_ret
            exact ⟨rfl, HQ3.out.f⟩
          · have hd2 : decide ((xs.length : Int) < 2) = false := by simp; omega
            have f1 : wrap64 ((xs.length : Int) - 2) = (xs.length : Int) - 2 := by unfold wrap64; omega
            have f2 : NE = 49 + ((xs.length : Int) - 2) := by
              have := HE2.out (by omega) (by omega)
              have h4 := HNE.out
              omega
            have F2 := Lib.hid f2
            clear f2
            go_wp2_with fail
            go_ret
            exact ⟨by first | (simp; exact F2.out) | (simp [F2.out]), HQ3.out.f⟩
  · have hd : decide (1048576 < (n : Int)) = true := by simp; omega
    rw [hd] at hbig
    have Hbig := Lib.hid hbig
    clear hbig hd h
    go_enter Try.func4, Try.ntmps4
    go_wp2_with fail
    refine (Hbig.out _).mono ?_
    rintro e w' ⟨rfl, rfl⟩
    go_wp2_with fail
    go_ret
    exact ⟨rfl, Below.refl _ _⟩
end Go.Proofs.Ytbgogpfhdfgjeaa
