/- Walks: drawn chunks. -/
import Derived.Deep.DeepCutAuto
import Derived.Test.YtanoohfhifhhaaaDoorEp
import Derived.Test.YtanoohfhifhhaaaDoorDs
import Derived.Test.YtanoohfhifhhaaaDoorEn
import Derived.Test.YtanoohfhifhhaaaDoorEj
import Derived.Deep.QuietTactic
set_option linter.unusedVariables false
set_option linter.unusedSimpArgs false
namespace Go.Proofs.YtanoohfhifhhaaaDoor
open Go.RowKit

/-- drawn blocks: a row of their own, the reader, nothing else changed -/
structure DB (w : World) (B g : Nat) (v : Value) (bs : List (Int × ByteArray)) (W : World) : Prop where
  own : W.ownsRow w.heap.size 36 2 v bs.length (bks bs)
  rd : Rd W B g
  gr : w.grownBy W (some g)
  len : bs.length ≤ 12
  rng : ∀ j, Rng (bs.getD j (0, emB)).1 ∧ (bs.getD j (0, emB)).2.size ≤ 2000
theorem DB.read {w wr w2 : World} {B g : Nat} {u : Value} {L : List (Int × ByteArray)} (p : DB w B g u L wr) (hgl : g < w.heap.size) (hrd : Rd w2 B g) (hg2 : wr.grownBy w2 (some g)) : DB w B g u L w2 :=
  ⟨p.own.kept hg2 (by
    by_cases hx : u.ownBlock = none
    · exact .inl hx
    · right; intro he; have := (p.own.lt g he).1; omega), hrd, grown_trans' p.gr hg2, p.len, p.rng⟩
theorem rng_snocB {L : List (Int × ByteArray)} {x : Int} {y : ByteArray} (h : ∀ j, Rng (L.getD j (0, emB)).1 ∧ (L.getD j (0, emB)).2.size ≤ 2000) (hx : Rng x) (hy : y.size ≤ 2000) : ∀ j, Rng ((L ++ [(x, y)]).getD j (0, emB)).1 ∧ ((L ++ [(x, y)]).getD j (0, emB)).2.size ≤ 2000 := by
  intro j
  by_cases hj : j < L.length
  · have e : (L ++ [(x, y)]).getD j (0, emB) = L.getD j (0, emB) := by simp [List.getD_eq_getElem?_getD, List.getElem?_append_left hj]
    rw [e]; exact h j
  · by_cases e0 : j = L.length
    · subst e0
      have e : (L ++ [(x, y)]).getD L.length (0, emB) = (x, y) := by simp [List.getD_eq_getElem?_getD]
      rw [e]; exact ⟨hx, hy⟩
    · rw [List.getD_eq_getElem?_getD, List.getElem?_eq_none (by simp; omega)]; exact ⟨rng_zero, Nat.zero_le _⟩
theorem DB.app {w wr w1 : World} {B g : Nat} {u v' : Value} {L : List (Int × ByteArray)} {x : Int} {y : ByteArray} {o : Obj} (p : DB w B g u L wr) (hgl : g < w.heap.size) (hl : L.length ≤ 11) (hx : Rng x) (hy : y.size ≤ 2000)
    (hown : w1.ownsRow w.heap.size 36 2 v' (L.length + 1) (bks L ++ [.int .i64 x, .string y])) (hgrow : (wr.alloc o).grownBy w1 u.ownBlock) : DB w B g v' (L ++ [(x, y)]) w1 := by
  have hrow : ∀ k, u.ownBlock = some k → w.heap.size ≤ k := fun k hk => (p.own.lt k hk).1
  have hz := p.gr.size
  have hB : B ≤ g := (by obtain ⟨A, n, c, q, h⟩ := p.rd; exact h.2.2.2.2.1)
  refine ⟨?_, (Rd.alloc p.rd _).grown hgrow (fun k hk => by have := hrow k hk; omega), ⟨hgrow.os.trans p.gr.os, hgrow.tape.trans p.gr.tape, hgrow.output.trans p.gr.output, by have := hgrow.size; simp at this; omega, fun i hi hne => ?_⟩, by simp; omega, rng_snocB p.rng hx hy⟩
  · rw [bks_append, List.length_append]; exact hown
  · rw [hgrow.block i (by simp; omega) (by intro he; have := hrow i he.symm; omega), Below.heap_alloc _ _ _ (by omega)]
    exact p.gr.block i hi hne
theorem bks_set1 (L : List (Int × ByteArray)) (h : 0 < L.length) (d : ByteArray) : (bks L).set 1 (.string d) = bks (L.set 0 ((L.getD 0 (0, emB)).1, d)) := by
  cases L with
  | nil => simp at h
  | cons p L => rfl
theorem DB.set {w wr : World} {B g b c : Nat} {L : List (Int × ByteArray)} {d : ByteArray} (p : DB w B g (.slice (some ⟨b, 0, none⟩) L.length c) L wr) (hgl : g < w.heap.size) (h : 0 < L.length) (hd : d.size ≤ 2001) : ∃ L', L'.length = L.length ∧ (wr.setCell ⟨b, 1, none⟩ (.string d)).ownsRow w.heap.size 36 2 (.slice (some ⟨b, 0, none⟩) L.length c) L.length (bks L') ∧ Rd (wr.setCell ⟨b, 1, none⟩ (.string d)) B g ∧ w.grownBy (wr.setCell ⟨b, 1, none⟩ (.string d)) (some g) ∧ ∀ j, Rng (L'.getD j (0, emB)).1 ∧ (L'.getD j (0, emB)).2.size ≤ 2001 := by
  have hlt := (p.own.lt b rfl).1
  have hB : B ≤ g := (by obtain ⟨A, n, c, q, h⟩ := p.rd; exact h.2.2.2.2.1)
  have hs := p.own.stored 1 (.string d)
  refine ⟨L.set 0 ((L.getD 0 (0, emB)).1, d), by simp, ?_, p.rd.setCell (a := ⟨b, 1, none⟩) (show B ≤ b by omega) (show g ≠ b by omega) _, ⟨hs.2.os.trans p.gr.os, hs.2.tape.trans p.gr.tape, hs.2.output.trans p.gr.output, Nat.le_trans p.gr.size hs.2.size, fun i hi hne => (hs.2.block i (by have := p.gr.size; omega) (by simp [Value.ownBlock]; omega)).trans (p.gr.block i hi hne)⟩, fun j => ?_⟩
  · have h1 := hs.1
    rw [bks_set1 L h d] at h1
    exact h1
  · rw [getD_set_bk L 0 j _ h]
    by_cases e : j = 0
    · rw [if_pos e]; exact ⟨(p.rng 0).1, hd⟩
    · rw [if_neg e]; exact ⟨(p.rng j).1, by have := (p.rng j).2; omega⟩
theorem DB.shape {w wr : World} {B g : Nat} {u : Value} {L : List (Int × ByteArray)} (p : DB w B g u L wr) : ∃ A c, u = .slice A L.length c := by
  rcases p.own.2 with ⟨rfl, h0⟩ | ⟨g', cap, cur, rfl, _⟩
  · exact ⟨none, 0, by rw [h0]⟩
  · exact ⟨_, _, rfl⟩
/-- what is drawn of blocks -/
def DBPost (w : World) (B g : Nat) (v : Value) (bs : List (Int × ByteArray)) (W : World) : Prop :=
  W.ownsRow w.heap.size 36 2 v bs.length (bks bs) ∧ Rd W B g ∧ w.grownBy W (some g) ∧ bs.length ≤ 12 ∧ ∀ j, Rng (bs.getD j (0, emB)).1 ∧ (bs.getD j (0, emB)).2.size ≤ 2001
theorem grew_below_es {w w' : World} (h : Below w.heap.size w w') (row : Option Nat) : w.grownBy w' row := ⟨h.os, h.tape, h.output, h.size, fun i hi _ => h.block i hi⟩
theorem chsM_small (xs : List (Int × Int)) (z : Int) : (∀ j, Rng ((chsM xs z).getD j (0, emB)).1 ∧ ((chsM xs z).getD j (0, emB)).2.size ≤ 2000) ∧ (chsM xs z).length ≤ xs.length := by
  have h0 : ∀ j, Rng (([] : List (Int × ByteArray)).getD j (0, emB)).1 ∧ (([] : List (Int × ByteArray)).getD j (0, emB)).2.size ≤ 2000 := fun j => ⟨by simpa using rng_zero, by simp; exact Nat.zero_le _⟩
  cases hb : chsB xs z with
  | false =>
    have e : chsM xs z = [] := by unfold chsM; rw [hb]; rfl
    rw [e]; exact ⟨h0, Nat.zero_le _⟩
  | true =>
    have e : chsM xs z = chkT xs z.toNat (nCh xs.length z.toNat) := by unfold chsM; rw [hb]; rfl
    have h1 := (chsM_ok xs z).1
    rw [e] at h1 ⊢
    unfold chsB at hb
    rw [Bool.and_eq_true] at hb
    have hz : 1 ≤ z ∧ z ≤ 120 := by have := hb.2; unfold vIn at this; simpa using this
    have hn := nCh_le (n := xs.length) (s := z.toNat) (by omega)
    refine ⟨fun j => ⟨(h1 j).1, ?_⟩, by rw [chkT_len]; omega⟩
    by_cases hj : j < nCh xs.length z.toNat
    · have e2 : (chkT xs z.toNat (nCh xs.length z.toNat)).getD j (0, emB) = bkOf (chk xs z.toNat (j * z.toNat)) := by
        simp [chkT, List.getD_eq_getElem?_getD, hj]
      rw [e2]
      have h1 := bkD_size (chk xs z.toNat (j * z.toNat))
      show (bkD _).size ≤ 2000; omega
    · rw [List.getD_eq_getElem?_getD, List.getElem?_eq_none (by rw [chkT_len]; omega)]; exact Nat.zero_le _

set_option maxRecDepth 100000 in
set_option maxHeartbeats 4000000 in
theorem chunks_any (B g : Nat) (w : World) (h : Rd w B g) :
    Calls Tryd.prog 52 #[.pointer (some ⟨g, 0, none⟩)] w fun e w' => ∃ v bs, e = .returned v ∧ DBPost w B g v bs w' := by
  have hgl := h.lt
  obtain ⟨i0, hi, hz0, hz1, hz2⟩ := info_parts info_bk
  have HPt := Lib.hid (drawnPts_any 10 (by omega) B g w h)
  have HC := Lib.hid (fun v xs z W h hc => specChunks_any v xs z W h hc)
  unfold DPts at HPt
  unfold BOutF at HC
  clear h
  go_enter Tryd.func52, Tryd.ntmps52
  go_wp2_with fail
  refine HPt.out.mono ?_
  rintro e w1 ⟨v1, xs, rfl, ho1, hrd1, hg1, hxl, hxr⟩
  have ho1' : w1.ownsRow w.heap.size 41 2 v1 xs.length (prs xs) := ho1
  have O1 := Lib.hid ho1'
  have R1 := Lib.hid hrd1
  have G1 := Lib.hid hg1
  have XR := Lib.hid hxr
  have hgl1 := hrd1.lt
  clear ho1 ho1' hrd1 hg1 hxr
  go_wp2_with fail
  refine (below_any B g 4 _ R1.out (by omega) (by omega)).mono ?_
  rintro e w2 ⟨_, rfl, ⟨y, rfl, hy0, hy1⟩, hrd2, hgr2⟩
  have ho2 : w2.ownsRow w.heap.size 41 2 v1 xs.length (prs xs) := O1.out.kept hgr2 (by right; intro e; have := (O1.out.lt g e).1; omega)
  have HP2 := Lib.hid (PL.of_own ho2 rfl XR.out (by omega))
  have HK2 := Lib.hid (CapOk.of_own ho2)
  have R2 := Lib.hid hrd2
  have G2 := Lib.hid (grown_trans' G1.out hgr2)
  have eY : IntKind.i64.wrap (1 + y) = 1 + y := IntWalk.i64_in _ (by omega)
  obtain ⟨z, hz⟩ : ∃ z, 1 + y = z := ⟨_, rfl⟩
  rw [hz] at eY
  clear ho2 hrd2 hgr2 O1 R1 G1
  go_wp2_with fail
  refine (HC.out _ xs _ _ HP2.out HK2.out).mono ?_
  rintro e w3 ⟨v3, rfl, ho3, hb3⟩
  obtain ⟨hsr, hsl⟩ := chsM_small xs z
  have D3 := Lib.hid (show DB w B g v3 (chsM xs z) w3 from ⟨u_ownsRow_base ho3 G2.out.size, R2.out.below hb3, grown_trans' G2.out (grew_below_es hb3 _), by omega, hsr⟩)
  have D3len := Lib.hid (show (chsM xs z).length ≤ 11 by omega)
  clear ho3 hb3 hsr hsl HP2 HK2 R2 G2 XR
  generalize chsM xs z = bs at *
  generalize chsB xs z = fb at *
  obtain ⟨A3, c3, rfl⟩ := D3.out.shape
  go_upto_region 2 with fail
  go_cut [20] (fun cv W => ∃ b : Bool, cv = .bool b ∧ (b = true → 1 < bs.length) ∧ DB w B g (.slice A3 bs.length c3) bs W)
  case first =>
    go_wp2_with fail
    refine (once_any B g 12 _ D3.out.rd (by omega) (by omega)).mono ?_
    rintro e w5 ⟨_, rfl, hbo, hrd5, hgr5⟩
    obtain ⟨bo, rfl⟩ := hbo
    have D5 := Lib.hid (D3.out.read hgl hrd5 hgr5)
    clear hrd5 hgr5 D3
    cases bo with
    | false =>
      go_wp2_with fail
      go_meet
      case rel => exact ⟨false, rfl, (fun h => by cases h), D5.out⟩
    | true =>
      by_cases h1 : 1 < bs.length
      · have d1 : decide (1 < (bs.length : Int)) = true := decide_eq_true (by omega)
        have d1' : decide (1 < bs.length) = true := decide_eq_true h1
        have H1 := Lib.hid h1
        go_wp2_with fail
        go_meet
        case rel => exact ⟨true, rfl, (fun _ => H1.out), D5.out⟩
      · have d1 : decide (1 < (bs.length : Int)) = false := decide_eq_false (by omega)
        have d1' : decide (1 < bs.length) = false := decide_eq_false h1
        go_wp2_with fail
        go_meet
        case rel => exact ⟨false, rfl, (fun h => by cases h), D5.out⟩
  case rest =>
  obtain ⟨b, rfl, hb1, hD5⟩ := hcut
  have D5 := Lib.hid hD5
  clear hD5 D3
  obtain ⟨w5, hw5⟩ : ∃ w5, w5 = wc := ⟨_, rfl⟩
  rw [← hw5] at D5 ⊢
  clear hw5
  go_upto_if 20 with fail
  go_cut [3] (fun v W => ∃ bs' : List (Int × ByteArray), DB w B g v bs' W)
  case first =>
    cases b with
    | false =>
      go_wp2_with fail
      go_meet
      case rel => exact ⟨_, D5.out⟩
    | true =>
      have h1 : 1 < bs.length := hb1 rfl
      have hbl := D3len.out
      obtain ⟨gb, cb, hv⟩ := own_form2 D5.out.own (by omega)
      injection hv with e1 _ _
      subst e1
      have q0 := bks_get0 bs 0 (by omega)
      have q1 := bks_get1 bs 0 (by omega)
      have c0 : w5.cell? ⟨gb, 0, none⟩ = some (.int .i64 (bs.getD 0 (0, emB)).1) := by rw [D5.out.own.cellAt 0 (by omega)]; exact q0
      have c1 : w5.cell? ⟨gb, 1, none⟩ = some (.string (bs.getD 0 (0, emB)).2) := by rw [D5.out.own.cellAt 1 (by omega)]; exact q1
      have hr0 := D5.out.rng 0
      generalize (bs.getD 0 (0, emB)).1 = x at *
      generalize (bs.getD 0 (0, emB)).2 = y at *
      have hgb : gb < w5.heap.size := World.block_lt_of_cell? w5 _ c0
      have hws := D5.out.gr.size
      have hl0 : 0 < bs.length := by omega
      clear q0 q1 hb1 h1
      go_wp2_with (at_builtin; refine wpList_append_own _ rfl _ _ 27 rfl w.heap.size 36 i0 (.agg #[.int .i64 0, .string emB]) 2 24 Tryd.underlying27 hi hz0 hz1 hz2 rfl (by decide) _ _ _ rfl (D5.out.own.alloc _) ⟨w5.heap.size, 0, none⟩ 1 1 [.int .i64 x, .string y] rfl rfl (two_cellsB (by go_simp) (by go_simp)) ?c2 ?c3 ?c4 ?c5 ?_)
      case c2 => first | rfl | exact ⟨rfl, rfl⟩ | (intro u hu; simp at hu; rcases hu with rfl | rfl <;> rfl)
      case c3 => unfold maxLen; omega
      case c4 => omega
      case c5 => first | omega | (simp; omega)
      intro v' w4 hown' hgrow _
      have D6 := Lib.hid (D5.out.app hgl hbl hr0.1 hr0.2 hown' hgrow)
      clear hown' hgrow
      go_wp2_with fail
      go_meet
      case rel => exact ⟨_, D6.out⟩
  case rest =>
    clear D5 D3len hb1
    obtain ⟨bs', D4⟩ := hcut
    have D4 := Lib.hid D4
    go_wp2_with fail
    refine (once_any B g 20 _ D4.out.rd (by omega) (by omega)).mono ?_
    rintro e w5 ⟨_, rfl, hbo, hrd5, hgr5⟩
    obtain ⟨bo, rfl⟩ := hbo
    have D5 := Lib.hid (D4.out.read hgl hrd5 hgr5)
    clear hrd5 hgr5 D4
    obtain ⟨A3, c3, rfl⟩ := D5.out.shape
    have HFIN := Lib.hid (show DBPost w B g (.slice A3 bs'.length c3) bs' w5 from ⟨D5.out.own, D5.out.rd, D5.out.gr, D5.out.len, fun j => ⟨(D5.out.rng j).1, by have := (D5.out.rng j).2; omega⟩⟩)
    cases bo with
    | false =>
      go_wp2_with fail
      go_ret
      exact ⟨_, _, rfl, HFIN.out⟩
    | true =>
      by_cases h1 : 0 < bs'.length
      · have d1 : decide (0 < (bs'.length : Int)) = true := decide_eq_true (by omega)
        have d1' : decide (0 < bs'.length) = true := decide_eq_true h1
        obtain ⟨gb, cb, hv⟩ := own_form2 D5.out.own h1
        injection hv with e1 _ e3
        subst e1
        subst e3
        have q1 := bks_get1 bs' 0 h1
        have c1 : w5.cell? ⟨gb, 1, none⟩ = some (.string (bs'.getD 0 (0, emB)).2) := by rw [D5.out.own.cellAt 1 (by omega)]; exact q1
        have hr0 := D5.out.rng 0
        generalize (bs'.getD 0 (0, emB)).2 = y at *
        clear q1 HFIN
        go_wp2_with fail
        refine (hurt_any B g y _ D5.out.rd (by omega)).mono ?_
        rintro e w6 ⟨_, rfl, ⟨d, rfl, hd⟩, hrd6, hgr6⟩
        have D6 := Lib.hid (D5.out.read hgl hrd6 hgr6)
        have c2 : w6.cell? ⟨gb, 1, none⟩ = some (.string (bs'.getD 0 (0, emB)).2) := by rw [D6.out.own.cellAt 1 (by omega)]; exact bks_get1 bs' 0 h1
        have f2 : w6.frozen? ⟨gb, 1, none⟩ = false := D6.out.own.frozenAt _
        obtain ⟨L', hL1, hL2, hL3, hL4, hL5⟩ := D6.out.set (d := d) hgl h1 (by omega)
        have HF := Lib.hid (show DBPost w B g (.slice (some ⟨gb, 0, none⟩) bs'.length _) L' (w6.setCell ⟨gb, 1, none⟩ (.string d)) from ⟨by rw [hL1]; exact hL2, hL3, hL4, by rw [hL1]; exact D6.out.len, hL5⟩)
        generalize (bs'.getD 0 (0, emB)).2 = y2 at *
        clear hL1 hL2 hL3 hL4 hL5 hrd6 hgr6
        go_wp2_with fail
        go_ret
        exact ⟨_, _, rfl, HF.out⟩
      · have d1 : decide (0 < (bs'.length : Int)) = false := decide_eq_false (by omega)
        have d1' : decide (0 < bs'.length) = false := decide_eq_false h1
        go_wp2_with fail
        go_ret
        exact ⟨_, _, rfl, HFIN.out⟩
end Go.Proofs.YtanoohfhifhhaaaDoor

/- Walks: drawn chunks: what the laws draw. -/
set_option linter.unusedVariables false
set_option linter.unusedSimpArgs false
namespace Go.Proofs.YtanoohfhifhhaaaDoor
open Go.RowKit

theorem below_of_gr {w w1 w2 : World} {g : Nat} (h : Below w.heap.size w w1) (hg : w.heap.size ≤ g) (k : w1.grownBy w2 (some g)) : Below w.heap.size w w2 :=
  h.grown k h.size (fun q e => by injection e with e; omega)
def DCPost (w : World) (e : Ending) (w' : World) : Prop :=
  ∃ v xs z, e = .returned (.tuple #[v, .int .i64 z]) ∧ w'.ownsRow w.heap.size 41 2 v xs.length (prs xs) ∧ xs.length ≤ 10 ∧ (∀ j, Rng (xs.getD j (0, 0)).1 ∧ Rng (xs.getD j (0, 0)).2) ∧ Rng z ∧ Below w.heap.size w w'
def DUPost (w : World) (e : Ending) (w' : World) : Prop :=
  ∃ v bs, e = .returned v ∧ w'.ownsRow w.heap.size 36 2 v bs.length (bks bs) ∧ bs.length ≤ 12 ∧ (∀ j, Rng (bs.getD j (0, emB)).1 ∧ (bs.getD j (0, emB)).2.size ≤ 2001) ∧ Below w.heap.size w w'
def DRPost (w : World) (e : Ending) (w' : World) : Prop :=
  ∃ v bs z, e = .returned (.tuple #[v, .int .i64 z]) ∧ w'.ownsRow w.heap.size 36 2 v bs.length (bks bs) ∧ bs.length ≤ 12 ∧ (∀ j, Rng (bs.getD j (0, emB)).1 ∧ (bs.getD j (0, emB)).2.size ≤ 2001) ∧ Rng z ∧ Below w.heap.size w w'

set_option maxRecDepth 100000 in
set_option maxHeartbeats 4000000 in
theorem DrawChunks_any (A : Option Addr) (n c : Nat) (w : World) (h : CodeAt w A n c) :
    Calls Tryd.prog 14 #[.slice A n c] w (DCPost w) := by
  go_enter Tryd.func14, Tryd.ntmps14
  go_wp2_with fail
  refine (open_any A n c _ h).mono ?_
  rintro e w1 ⟨rfl, hrd, hb1⟩
  have Hrd := Lib.hid hrd
  have B1 := Lib.hid hb1
  have hgl := hrd.lt
  obtain ⟨g, hg⟩ : ∃ g, w.heap.size = g := ⟨_, rfl⟩
  have HG := Lib.hid hg
  rw [hg] at Hrd ⊢
  clear hrd hb1
  have HPt := Lib.hid (drawnPts_any 10 (by omega) g g w1 Hrd.out)
  unfold DPts at HPt
  go_wp2_with fail
  refine HPt.out.mono ?_
  rintro e w2 ⟨v, xs, rfl, hown, hrd2, hgr2, hxl, hxr⟩
  have O2 := Lib.hid (show w2.ownsRow w1.heap.size 41 2 v xs.length (prs xs) from hown)
  have XR := Lib.hid hxr
  have R2 := Lib.hid hrd2
  have G2 := Lib.hid hgr2
  clear hown hrd2 hgr2 hxr
  go_wp2_with fail
  refine (off_any g g 1 5 _ R2.out (by omega) (by omega) (by omega) (by omega)).mono ?_
  rintro e w3 ⟨_, rfl, ⟨z, rfl, hz0, hz1⟩, hrd3, hgr3⟩
  have O3 := Lib.hid (O2.out.kept hgr3 (by right; intro e; have := (O2.out.lt g e).1; omega))
  have B3 := Lib.hid (below_of_gr B1.out (by have := HG.out; omega) (grown_trans' G2.out hgr3))
  have hs1 := B1.out.size
  clear hgr3 hrd3
  go_wp2_with fail
  go_ret2
  exact ⟨_, _, _, rfl, u_ownsRow_base O3.out hs1, hxl, XR.out, ⟨hz0, hz1⟩, B3.out⟩

set_option maxRecDepth 100000 in
set_option maxHeartbeats 4000000 in
theorem DrawUnchunked_any (A : Option Addr) (n c : Nat) (w : World) (h : CodeAt w A n c) :
    Calls Tryd.prog 17 #[.slice A n c] w (DUPost w) := by
  go_enter Tryd.func17, Tryd.ntmps17
  go_wp2_with fail
  refine (open_any A n c _ h).mono ?_
  rintro e w1 ⟨rfl, hrd, hb1⟩
  have Hrd := Lib.hid hrd
  have B1 := Lib.hid hb1
  have hgl := hrd.lt
  obtain ⟨g, hg⟩ : ∃ g, w.heap.size = g := ⟨_, rfl⟩
  have HG := Lib.hid hg
  rw [hg] at Hrd ⊢
  clear hrd hb1
  go_wp2_with fail
  refine (chunks_any g g w1 Hrd.out).mono ?_
  rintro e w2 ⟨v, bs, rfl, hown, hrd2, hgr2, hbl, hbr⟩
  have O2 := Lib.hid (show w2.ownsRow w1.heap.size 36 2 v bs.length (bks bs) from hown)
  have BR := Lib.hid hbr
  have R2 := Lib.hid hrd2
  have G2 := Lib.hid hgr2
  clear hown hrd2 hgr2 hbr
  have B3 := Lib.hid (below_of_gr B1.out (by have := HG.out; omega) G2.out)
  have hs1 := B1.out.size
  go_wp2_with fail
  go_ret
  exact ⟨_, _, rfl, u_ownsRow_base O2.out hs1, hbl, BR.out, B3.out⟩

set_option maxRecDepth 100000 in
set_option maxHeartbeats 4000000 in
theorem DrawRechunked_any (A : Option Addr) (n c : Nat) (w : World) (h : CodeAt w A n c) :
    Calls Tryd.prog 30 #[.slice A n c] w (DRPost w) := by
  go_enter Tryd.func30, Tryd.ntmps30
  go_wp2_with fail
  refine (open_any A n c _ h).mono ?_
  rintro e w1 ⟨rfl, hrd, hb1⟩
  have Hrd := Lib.hid hrd
  have B1 := Lib.hid hb1
  have hgl := hrd.lt
  obtain ⟨g, hg⟩ : ∃ g, w.heap.size = g := ⟨_, rfl⟩
  have HG := Lib.hid hg
  rw [hg] at Hrd ⊢
  clear hrd hb1
  go_wp2_with fail
  refine (chunks_any g g w1 Hrd.out).mono ?_
  rintro e w2 ⟨v, bs, rfl, hown, hrd2, hgr2, hbl, hbr⟩
  have O2 := Lib.hid (show w2.ownsRow w1.heap.size 36 2 v bs.length (bks bs) from hown)
  have BR := Lib.hid hbr
  have R2 := Lib.hid hrd2
  have G2 := Lib.hid hgr2
  clear hown hrd2 hgr2 hbr
  go_wp2_with fail
  refine (off_any g g 1 6 _ R2.out (by omega) (by omega) (by omega) (by omega)).mono ?_
  rintro e w3 ⟨_, rfl, ⟨z, rfl, hz0, hz1⟩, hrd3, hgr3⟩
  have O3 := Lib.hid (O2.out.kept hgr3 (by right; intro e; have := (O2.out.lt g e).1; omega))
  have B3 := Lib.hid (below_of_gr B1.out (by have := HG.out; omega) (grown_trans' G2.out hgr3))
  have hs1 := B1.out.size
  clear hgr3 hrd3
  go_wp2_with fail
  go_ret2
  exact ⟨_, _, _, rfl, u_ownsRow_base O3.out hs1, hbl, BR.out, ⟨hz0, hz1⟩, B3.out⟩
end Go.Proofs.YtanoohfhifhhaaaDoor

/- Walks: blocks made of blocks' points, both. -/
set_option linter.unusedVariables false
set_option linter.unusedSimpArgs false
namespace Go.Proofs.YtanoohfhifhhaaaDoor
open Go.RowKit

def rchM (bs : List (Int × ByteArray)) (z : Int) : List (Int × ByteArray) := match uncO bs with
  | none => []
  | some xs => chsM xs z
def rchB (bs : List (Int × ByteArray)) (z : Int) : Bool := match uncO bs with
  | none => false
  | some xs => chsB xs z
theorem uncO_some {bs : List (Int × ByteArray)} {xs : List (Int × Int)} (h : uncO bs = some xs) : (∀ j, Rng (xs.getD j (0, 0)).1 ∧ Rng (xs.getD j (0, 0)).2) ∧ xs.length ≤ 1048576 ∧ ptsOkB xs = true ∧ bs.length ≤ 120 ∧ uncT bs bs.length = some xs := by
  unfold uncO at h
  split at h
  · rename_i hl
    cases hu : uncT bs bs.length with
    | none => rw [hu] at h; cases h
    | some ys =>
      rw [hu] at h
      dsimp only at h
      split at h
      · rename_i hk
        obtain rfl := Option.some.inj h
        obtain ⟨q1, q2⟩ := uncT_ok hu
        exact ⟨q2, by omega, hk, hl, rfl⟩
      · cases h
  · cases h

set_option maxRecDepth 100000 in
set_option maxHeartbeats 4000000 in
theorem specRechunked_any (v : Value) (bs : List (Int × ByteArray)) (z : Int) (w : World) (h : BL w w.heap.size v bs) (hsz : ∀ j, (bs.getD j (0, emB)).2.size ≤ 1048576) :
    Calls Tryd.prog 32 #[v, .int .i64 z] w (BOutF w.heap.size (rchM bs z) (rchB bs z) w) := by
  have HU := Lib.hid (specUnchunked_any v bs w h hsz)
  have HC := Lib.hid (fun v xs W h hc => specChunks_any v xs z W h hc)
  unfold POutF at HU
  unfold BOutF at HC

  obtain ⟨_, _, A, c, rfl, _⟩ := h
  clear hsz
  cases hu : uncO bs with
  | none =>
    have E1 := Lib.hid (show rchM bs z = [] by unfold rchM; rw [hu])
    have E2 := Lib.hid (show rchB bs z = false by unfold rchB; rw [hu])
    rw [hu] at HU
    clear hu
    go_enter Tryd.func32, Tryd.ntmps32
    go_wp2_with fail
    refine HU.out.mono ?_
    rintro e w1 ⟨v1, rfl, ho1, hb1⟩
    go_wp2_with fail
    go_ret2
    rw [E1.out, E2.out]
    exact ⟨_, rfl, World.ownsRow_nil _ _ _ _, hb1⟩
  | some xs =>
    obtain ⟨hr, hl, _⟩ := uncO_some hu
    have E1 := Lib.hid (show rchM bs z = chsM xs z by unfold rchM; rw [hu])
    have E2 := Lib.hid (show rchB bs z = chsB xs z by unfold rchB; rw [hu])
    rw [hu] at HU
    clear hu
    go_enter Tryd.func32, Tryd.ntmps32
    go_wp2_with fail
    refine HU.out.mono ?_
    rintro e w1 ⟨v1, rfl, ho1, hb1⟩
    have ho1' : w1.ownsRow _ 41 2 v1 xs.length (prs xs) := ho1
    have HP := Lib.hid (PL.of_own ho1' rfl hr hl)
    have HK := Lib.hid (CapOk.of_own ho1')
    have HB := Lib.hid hb1
    clear ho1 ho1' hb1 hr
    go_wp2_with fail
    refine (HC.out _ xs _ HP.out HK.out).mono ?_
    rintro e w2 ⟨v2, rfl, ho2, hb2⟩
    have hs1 := HB.out.size
    go_wp2_with fail
    go_ret2
    rw [E1.out, E2.out]
    exact ⟨_, rfl, u_ownsRow_base ho2 hs1, HB.out.trans (hb2.mono hs1)⟩

set_option maxRecDepth 100000 in
set_option maxHeartbeats 4000000 in
theorem implRechunked_any (v : Value) (bs : List (Int × ByteArray)) (z : Int) (w : World) (h : BL w w.heap.size v bs) (hsz : ∀ j, (bs.getD j (0, emB)).2.size ≤ 1048576) (hT : Tab w) :
    Calls Tryd.prog 31 #[v, .int .i64 z] w (BOutF w.heap.size (rchM bs z) (rchB bs z) w) := by
  have HU := Lib.hid (implUnchunked_any v bs w h hsz hT)
  have HC := Lib.hid (fun v xs W h hc hT => implChunks_any v xs z W h hc hT)
  unfold POutF at HU
  unfold BOutF at HC
  have HTab := Lib.hid hT
  obtain ⟨_, _, A, c, rfl, _⟩ := h
  clear hsz hT
  cases hu : uncO bs with
  | none =>
    have E1 := Lib.hid (show rchM bs z = [] by unfold rchM; rw [hu])
    have E2 := Lib.hid (show rchB bs z = false by unfold rchB; rw [hu])
    rw [hu] at HU
    clear hu
    go_enter Tryd.func31, Tryd.ntmps31
    go_wp2_with fail
    refine HU.out.mono ?_
    rintro e w1 ⟨v1, rfl, ho1, hb1⟩
    go_wp2_with fail
    go_ret2
    rw [E1.out, E2.out]
    exact ⟨_, rfl, World.ownsRow_nil _ _ _ _, hb1⟩
  | some xs =>
    obtain ⟨hr, hl, _⟩ := uncO_some hu
    have E1 := Lib.hid (show rchM bs z = chsM xs z by unfold rchM; rw [hu])
    have E2 := Lib.hid (show rchB bs z = chsB xs z by unfold rchB; rw [hu])
    rw [hu] at HU
    clear hu
    go_enter Tryd.func31, Tryd.ntmps31
    go_wp2_with fail
    refine HU.out.mono ?_
    rintro e w1 ⟨v1, rfl, ho1, hb1⟩
    have ho1' : w1.ownsRow _ 41 2 v1 xs.length (prs xs) := ho1
    have HP := Lib.hid (PL.of_own ho1' rfl hr hl)
    have HK := Lib.hid (CapOk.of_own ho1')
    have HB := Lib.hid hb1
    clear ho1 ho1' hb1 hr
    go_wp2_with fail
    refine (HC.out _ xs _ HP.out HK.out (HTab.out.below HB.out)).mono ?_
    rintro e w2 ⟨v2, rfl, ho2, hb2⟩
    have hs1 := HB.out.size
    go_wp2_with fail
    go_ret2
    rw [E1.out, E2.out]
    exact ⟨_, rfl, u_ownsRow_base ho2 hs1, HB.out.trans (hb2.mono hs1)⟩
end Go.Proofs.YtanoohfhifhhaaaDoor

/- Walks: chunks: plain facts on their points; sameBlocks, samePoints. -/
set_option linter.unusedVariables false
set_option linter.unusedSimpArgs false
namespace Go.Proofs.YtanoohfhifhhaaaDoor
open Go.RowKit

theorem ptsK_at {l : List (Int × Int)} (h : ptsOkB l = true) {j : Nat} (hj : j < l.length) : (0 ≤ (l.getD j (0, 0)).1 ∧ (l.getD j (0, 0)).1 ≤ 1000000000000) ∧ (j = 0 ∨ (l.getD (j - 1) (0, 0)).1 < (l.getD j (0, 0)).1) := by
  have hm : ∀ i, (l.map Prod.fst).getD i 0 = (l.getD i (0, 0)).1 := fun i => by
    simp only [List.getD_eq_getElem?_getD, List.getElem?_map]
    cases l[i]? <;> rfl
  unfold ptsOkB timesOkB at h
  rw [Bool.and_eq_true] at h
  have h2 := h.2
  unfold goodTo at h2
  have h3 := List.all_eq_true.1 h2 j (by simpa using hj)
  unfold goodAt at h3
  rw [hm, hm, Bool.and_eq_true, decide_eq_true_iff, Bool.or_eq_true, decide_eq_true_iff, decide_eq_true_iff] at h3
  exact h3
theorem ptsK_of {l : List (Int × Int)} (hl : l.length ≤ 120) (h : ∀ j, j < l.length → (0 ≤ (l.getD j (0, 0)).1 ∧ (l.getD j (0, 0)).1 ≤ 1000000000000) ∧ (j = 0 ∨ (l.getD (j - 1) (0, 0)).1 < (l.getD j (0, 0)).1)) : ptsOkB l = true := by
  have hm : ∀ i, (l.map Prod.fst).getD i 0 = (l.getD i (0, 0)).1 := fun i => by
    simp only [List.getD_eq_getElem?_getD, List.getElem?_map]
    cases l[i]? <;> rfl
  unfold ptsOkB timesOkB
  rw [Bool.and_eq_true, decide_eq_true_iff, List.length_map]
  refine ⟨hl, ?_⟩
  unfold goodTo
  rw [List.all_eq_true]
  intro j hj
  unfold goodAt
  rw [hm, hm, Bool.and_eq_true, decide_eq_true_iff, Bool.or_eq_true, decide_eq_true_iff, decide_eq_true_iff]
  exact h j (by simpa using hj)
theorem chk_ok {xs : List (Int × Int)} (h : ptsOkB xs = true) {s i : Nat} (hs : 1 ≤ s) (hi : i < xs.length) : bkB (chk xs s i) = true ∧ bkN (chk xs s i) = ((min s (xs.length - i) : Nat) : Int) := by
  have hl := ptsOk_len h
  have hc := chk_len xs s i
  have h1 : ptsOkB (chk xs s i) = true := ptsK_of (by omega) (fun j hj => by
    have h2 := ptsK_at h (j := i + j) (by omega)
    rw [chk_get xs s i j hj]
    refine ⟨h2.1, ?_⟩
    by_cases e : j = 0
    · exact .inl e
    · right
      rw [chk_get xs s i (j - 1) (by omega)]
      rcases h2.2 with h3 | h3
      · omega
      · rw [show i + (j - 1) = i + j - 1 by omega]; exact h3)
  have hb : bkB (chk xs s i) = true := by unfold bkB; rw [h1, decide_eq_true (by omega)]; rfl
  exact ⟨hb, by unfold bkN; rw [if_pos hb, hc]⟩
theorem chkT_get (xs : List (Int × Int)) (s : Nat) {m j : Nat} (hj : j < m) : (chkT xs s m).getD j (0, emB) = bkOf (chk xs s (j * s)) := by
  simp [chkT, List.getD_eq_getElem?_getD, hj]
/-- the points of chunks are the points -/
theorem uncT_chk {xs : List (Int × Int)} (hr : ∀ j, Rng (xs.getD j (0, 0)).1 ∧ Rng (xs.getD j (0, 0)).2) (h : ptsOkB xs = true) {s : Nat} (hs : 1 ≤ s) : ∀ k, k ≤ nCh xs.length s → uncT (chkT xs s (nCh xs.length s)) k = some (xs.take (k * s))
  | 0, _ => by rw [Nat.zero_mul, List.take_zero]; rfl
  | k + 1, hk => by
    have ih := uncT_chk hr h hs k (by omega)
    have hi : k * s < xs.length := (nCh_lt hs).2 (by omega)
    obtain ⟨hb, hn⟩ := chk_ok h hs hi
    have hr2 : ∀ j, Rng ((chk xs s (k * s)).getD j (0, 0)).1 ∧ Rng ((chk xs s (k * s)).getD j (0, 0)).2 := fun j => by
      by_cases hj : j < (chk xs s (k * s)).length
      · rw [chk_get xs s _ j hj]; exact hr _
      · rw [List.getD_eq_getElem?_getD, List.getElem?_eq_none (by omega)]; exact ⟨rng_zero, rng_zero⟩
    rw [uncT_step ih, chkT_get xs s (by omega)]
    show (match ptsB (bkD (chk xs s (k * s))) (bkN (chk xs s (k * s))) with
      | none => none
      | some ys => some (xs.take (k * s) ++ ys)) = _
    rw [ptsB_back hr2 hb rfl rfl]
    show some (xs.take (k * s) ++ (xs.drop (k * s)).take s) = _
    rw [Nat.succ_mul, List.take_add]
theorem uncO_chk {xs : List (Int × Int)} (hr : ∀ j, Rng (xs.getD j (0, 0)).1 ∧ Rng (xs.getD j (0, 0)).2) {z : Int} (hb : chsB xs z = true) : uncO (chsM xs z) = some xs := by
  have e : chsM xs z = chkT xs z.toNat (nCh xs.length z.toNat) := by unfold chsM; rw [hb]; rfl
  unfold chsB at hb
  rw [Bool.and_eq_true] at hb
  have hz : 1 ≤ z ∧ z ≤ 120 := by have := hb.2; unfold vIn at this; simpa using this
  have hl := ptsOk_len hb.1
  have hn := nCh_le (n := xs.length) (s := z.toNat) (by omega)
  have h1 := uncT_chk hr hb.1 (s := z.toNat) (by omega) _ (Nat.le_refl _)
  have h2 : xs.length ≤ nCh xs.length z.toNat * z.toNat := by
    have := @nCh_lt xs.length z.toNat (nCh xs.length z.toNat) (by omega)
    omega
  rw [List.take_of_length_le h2] at h1
  rw [e]
  unfold uncO
  rw [chkT_len, if_pos (by omega), h1]
  dsimp only
  rw [if_pos hb.1]
/-- the sizes of chunks -/
theorem chs_sizes {xs : List (Int × Int)} {z : Int} (hb : chsB xs z = true) : (1 ≤ z ∧ z ≤ 120) ∧ ∀ j, j < (chsM xs z).length → ((chsM xs z).getD j (0, emB)).1 ≤ z ∧ (j + 1 < (chsM xs z).length → ((chsM xs z).getD j (0, emB)).1 = z) := by
  have e : chsM xs z = chkT xs z.toNat (nCh xs.length z.toNat) := by unfold chsM; rw [hb]; rfl
  unfold chsB at hb
  rw [Bool.and_eq_true] at hb
  have hz : 1 ≤ z ∧ z ≤ 120 := by have := hb.2; unfold vIn at this; simpa using this
  refine ⟨hz, fun j hj => ?_⟩
  rw [e, chkT_len] at hj
  rw [e, chkT_get xs _ hj, chkT_len]
  have hi : j * z.toNat < xs.length := (nCh_lt (by omega)).2 hj
  have hn := (chk_ok hb.1 (s := z.toNat) (by omega) hi).2
  show bkN (chk xs z.toNat (j * z.toNat)) ≤ z ∧ (_ → bkN (chk xs z.toNat (j * z.toNat)) = z)
  rw [hn]
  refine ⟨by omega, fun hj2 => ?_⟩
  have hi2 : (j + 1) * z.toNat < xs.length := (nCh_lt (by omega)).2 hj2
  rw [Nat.succ_mul] at hi2
  omega
theorem rch_facts {bs : List (Int × ByteArray)} {z : Int} (hb : rchB bs z = true) : ∃ xs, uncO bs = some xs ∧ (∀ j, Rng (xs.getD j (0, 0)).1 ∧ Rng (xs.getD j (0, 0)).2) ∧ xs.length ≤ 120 ∧ rchM bs z = chsM xs z ∧ uncO (rchM bs z) = some xs ∧ rchM (rchM bs z) z = rchM bs z ∧ rchB (rchM bs z) z = true := by
  cases hu : uncO bs with
  | none => unfold rchB at hb; rw [hu] at hb; cases hb
  | some xs =>
    obtain ⟨hr, _, hk, _⟩ := uncO_some hu
    have e1 : rchM bs z = chsM xs z := by unfold rchM; rw [hu]
    have hc : chsB xs z = true := by unfold rchB at hb; rw [hu] at hb; exact hb
    have e2 := uncO_chk hr hc
    refine ⟨xs, rfl, hr, ptsOk_len hk, e1, by rw [e1]; exact e2, ?_, ?_⟩
    · rw [e1]; unfold rchM; rw [e2]
    · rw [e1]; unfold rchB; rw [e2]; exact hc

set_option maxRecDepth 100000 in
set_option maxHeartbeats 2000000 in
theorem samePointsK_any (v u : Value) (xs : List (Int × Int)) (w : World) (h : PL w w.heap.size v xs) (h' : PL w w.heap.size u xs) :
    Calls Tryd.prog 21 #[v, u] w fun e w' => e = .returned (.bool true) ∧ Below w.heap.size w w' := by
  obtain ⟨_, hlen, A, c, rfl, h3⟩ := h
  obtain ⟨_, _, A', c', rfl, h3'⟩ := h'
  go_enter Tryd.func21, Tryd.ntmps21
  go_wp2_with fail
  go_loopw [5] (fun i wr => ∃ (j k : Nat), j ≤ xs.length ∧ i = .int .i64 j ∧ wr = w.drewN k) (fun i _ => xs.length - (intOf i).toNat)
  case atStart => exact ⟨0, 0, Nat.zero_le _, rfl, rfl⟩
  case round =>
    obtain ⟨j, k, hk, rfl, rfl⟩ := hrel
    by_cases hlt : j < xs.length
    · rcases h3 with h3 | ⟨b, off, rfl, hbl, hc⟩
      · subst h3; simp at hlt
      rcases h3' with h3' | ⟨b', off', rfl, hbl', hc'⟩
      · subst h3'; simp at hlt
      have hx0 : w.cell? ⟨b, off + j * 2, none⟩ = some (.int .i64 (xs.getD j (0, 0)).1) := (hc j hlt).1
      have hy0 : w.cell? ⟨b', off' + j * 2, none⟩ = some (.int .i64 (xs.getD j (0, 0)).1) := (hc' j hlt).1
      have hx1 : w.cell? ⟨b, off + j * 2 + 1, none⟩ = some (.int .i64 (xs.getD j (0, 0)).2) := (hc j hlt).2
      have hy1 : w.cell? ⟨b', off' + j * 2 + 1, none⟩ = some (.int .i64 (xs.getD j (0, 0)).2) := (hc' j hlt).2
      clear hc hc'
      generalize (xs.getD j (0, 0)).1 = z0 at *
      generalize (xs.getD j (0, 0)).2 = z1 at *
      go_wp2_with fail
      go_quiet (fail)
      go_wp2_with fail
      go_roundw
      case rel => exact ⟨j + 1, _, by omega, by go_num, rfl⟩
      case measure => simp [intOf]; omega
    · obtain rfl : j = xs.length := by omega
      go_wp2_with fail
      go_ret
      exact ⟨rfl, bl_below_drewN (Below.refl _ _) _⟩

set_option maxRecDepth 100000 in
set_option maxHeartbeats 2000000 in
theorem sameBlocks_any (v u : Value) (xs : List (Int × ByteArray)) (w : World) (h : BL w w.heap.size v xs) (h' : BL w w.heap.size u xs) :
    Calls Tryd.prog 20 #[v, u] w fun e w' => e = .returned (.bool true) ∧ Below w.heap.size w w' := by
  obtain ⟨_, hlen, A, c, rfl, h3⟩ := h
  obtain ⟨_, _, A', c', rfl, h3'⟩ := h'
  go_enter Tryd.func20, Tryd.ntmps20
  go_wp2_with fail
  go_loopw [5] (fun i wr => ∃ (j k : Nat), j ≤ xs.length ∧ i = .int .i64 j ∧ wr = w.drewN k) (fun i _ => xs.length - (intOf i).toNat)
  case atStart => exact ⟨0, 0, Nat.zero_le _, rfl, rfl⟩
  case round =>
    obtain ⟨j, k, hk, rfl, rfl⟩ := hrel
    by_cases hlt : j < xs.length
    · rcases h3 with h3 | ⟨b, off, rfl, hbl, hc⟩
      · subst h3; simp at hlt
      rcases h3' with h3' | ⟨b', off', rfl, hbl', hc'⟩
      · subst h3'; simp at hlt
      have hx0 : w.cell? ⟨b, off + j * 2, none⟩ = some (.int .i64 (xs.getD j (0, emB)).1) := (hc j hlt).1
      have hy0 : w.cell? ⟨b', off' + j * 2, none⟩ = some (.int .i64 (xs.getD j (0, emB)).1) := (hc' j hlt).1
      have hx1 : w.cell? ⟨b, off + j * 2 + 1, none⟩ = some (.string (xs.getD j (0, emB)).2) := (hc j hlt).2
      have hy1 : w.cell? ⟨b', off' + j * 2 + 1, none⟩ = some (.string (xs.getD j (0, emB)).2) := (hc' j hlt).2
      clear hc hc'
      generalize (xs.getD j (0, emB)).1 = z0 at *
      generalize (xs.getD j (0, emB)).2 = z1 at *
      have hzz : (z1.toList == z1.toList) = true := by simp
      go_wp2_with fail
      go_quiet (fail)
      go_wp2_with fail
      go_roundw
      case rel => exact ⟨j + 1, _, by omega, by go_num, rfl⟩
      case measure => simp [intOf]; omega
    · obtain rfl : j = xs.length := by omega
      go_wp2_with fail
      go_ret
      exact ⟨rfl, bl_below_drewN (Below.refl _ _) _⟩
end Go.Proofs.YtanoohfhifhhaaaDoor

/- Walks: the law FnExactRechunked. -/
set_option linter.unusedVariables false
set_option linter.unusedSimpArgs false
namespace Go.Proofs.YtanoohfhifhhaaaDoor
open Go.RowKit

theorem rchM_ok (bs : List (Int × ByteArray)) (z : Int) : (∀ j, Rng ((rchM bs z).getD j (0, emB)).1 ∧ ((rchM bs z).getD j (0, emB)).2.size ≤ maxLen) ∧ (rchM bs z).length ≤ 1048576 := by
  unfold rchM
  cases uncO bs with
  | none => exact ⟨fun j => ⟨by simpa using rng_zero, by simp; exact Nat.zero_le _⟩, Nat.zero_le _⟩
  | some xs => exact chsM_ok xs z

set_option maxRecDepth 100000 in
set_option maxHeartbeats 4000000 in
theorem walkFnExactRechunked (A : Option Addr) (n c : Nat) (z : Int) (w : World) (hT : Tab w) (hn : n ≤ maxLen) (hx : n ≤ 1048576 → ∃ xs : List (Int × ByteArray), xs.length = n ∧ BL w w.heap.size (.slice A n c) xs) (r_z : Rng z) :
    Calls Tryd.prog 12 #[.slice A n c, .int .i64 z] w fun e w' => e = .returned (.bool true) ∧ Below w.heap.size w w' := by
  by_cases hbig : (1048576 : Int) < n
  · clear hx
    have hsz := Lib.hid (fun W => szBlockS_big A n c W hbig hn)
    unfold maxLen at hn
    go_enter Tryd.func12, Tryd.ntmps12
    go_wp2_with fail
    refine (hsz.out _).mono ?_
    rintro e w1 ⟨rfl, hb1⟩
    have HF := Lib.hid hb1
    clear hb1
    go_wp2_with fail
    go_ret
    exact ⟨rfl, HF.out⟩
  · obtain ⟨xs, rfl, hil⟩ := hx (by omega)
    have Hil := Lib.hid hil
    have Hrng := Lib.hid hil.1
    have HTab := Lib.hid hT
    unfold maxLen at hn
    go_enter Tryd.func12, Tryd.ntmps12
    go_wp2_with fail
    refine (szBlockS_any _ xs w hil).mono ?_
    rintro e w0 ⟨hz, hb0⟩
    have B0 := Lib.hid hb0
    have Hil0 := Lib.hid ((Hil.out.below hb0).up hb0.size)
    clear Hil hb0 hil hx hT
    rcases hz with rfl | ⟨L, rfl, hL0, hsz⟩
    · go_wp2_with fail
      go_ret
      exact ⟨rfl, B0.out⟩
    have e1 : ¬ L < 0 := by omega
    have hsp := Lib.hid (fun v W h => specRechunked_any v xs z W h hsz)
    have him := Lib.hid (fun v W h hT => implRechunked_any v xs z W h hsz hT)
    unfold BOutF at hsp him
    clear hsz hL0
    obtain ⟨yr, hyl⟩ := rchM_ok xs z
    have YR := Lib.hid yr
    have hcp := Lib.hid (fun v W h => toBlockS_any v xs W h)
    have heqA := Lib.hid (fun v u W h h' => eqBlockS_any v u xs xs W h h')
    rw [decide_eq_true rfl] at heqA
    have hmkA : Hid (∀ (base : Nat) (v : Value) (W : World), base ≤ W.heap.size → W.ownsRow base 36 2 v xs.length (bks xs) → Calls Tryd.prog 38 #[v, .int .i64 1] W (MarkPostK base v xs.length 1 W)) := Lib.hid (fun base v W hb h => markBlockS_any base v 1 xs W (by omega) (by omega) (by omega) hb h)
    unfold MarkPostK at hmkA
    clear yr
    generalize (rchM xs z) = ys at *
    have heqR := Lib.hid (fun v u W h h' => eqBlockS_any v u ys ys W h h')
    rw [decide_eq_true rfl] at heqR
    have hmkR : Hid (∀ (base : Nat) (v : Value) (W : World), base ≤ W.heap.size → W.ownsRow base 36 2 v ys.length (bks ys) → Calls Tryd.prog 38 #[v, .int .i64 1] W (fun e w' => e = .returned (.int .i64 (1 + 2 * (ys.length : Int))) ∧ w'.ownsRow base 36 2 v ys.length (bks (mkBs 1 ys.length)) ∧ Below base W w' ∧ W.grownBy w' v.ownBlock)) := Lib.hid (fun base v W hb h => markBlockS_full base v 1 ys W (by omega) (by omega) hyl hb h)
    have hhdR : Hid (∀ (v : Value) (W : World), BL W W.heap.size v (mkBs 1 ys.length) → Calls Tryd.prog 39 #[v, .int .i64 1] W (fun e w' => e = .returned (.int .i64 (1 + 2 * (ys.length : Int))) ∧ Below W.heap.size W w')) := Lib.hid (fun v W h => heldBlockS_any v 1 ys.length W (by omega) (by omega) hyl h)
    have hmr := Lib.hid (mkBs_rng 1 ys.length (by omega) hyl)
    generalize rchB xs z = fb at *
    cases fb
    all_goals
      go_wp2_with fail
      refine (hcp.out _ _ Hil0.out).mono ?_
      rintro e w1 ⟨v1, rfl, hown1, hb1⟩
      have H1 := Lib.hid (BL.of_own hown1 rfl Hrng.out (by omega))
      have Hil1 := Lib.hid ((Hil0.out.below hb1).up hb1.size)
      have B1 := Lib.hid (B0.out.trans (hb1.mono B0.out.size))
      clear hown1 hb1 Hil0 B0 e1
      go_wp2_with fail
      refine (hsp.out _ _ H1.out).mono ?_
      rintro e w2 ⟨v2, rfl, hown2, hb2⟩
      have R2 := Lib.hid (BL.of_own hown2 rfl YR.out hyl)
      have Hil2 := Lib.hid ((Hil1.out.below hb2).up hb2.size)
      have B2 := Lib.hid (B1.out.trans (hb2.mono B1.out.size))
      clear hown2 hb2 Hil1 B1 H1
      go_wp2_with fail
      refine (hcp.out _ _ Hil2.out).mono ?_
      rintro e w3 ⟨v3, rfl, hown3, hb3⟩
      have S0 := B2.out.size
      have S3 := hb3.size
      have O3 := Lib.hid hown3
      have Q3 := Lib.hid hown3.lt
      have R3 := Lib.hid (R2.out.below hb3)
      have Hil3 := Lib.hid (Hil2.out.below hb3)
      have B3 := Lib.hid (B2.out.trans (hb3.mono S0))
      clear hown3 hb3 Hil2 B2 R2
      go_wp2_with fail
      refine (him.out _ _ (BL.of_own O3.out rfl Hrng.out (by omega)) (HTab.out.below B3.out)).mono ?_
      rintro e w4 ⟨v4, rfl, hown4, hb4⟩
      have S4 := hb4.size
      have O4 := Lib.hid hown4
      have P4 := Lib.hid (u_own_below O3.out hb4)
      have R4 := Lib.hid (R3.out.below (hb4.mono S3))
      have Hil4 := Lib.hid (Hil3.out.below (hb4.mono S3))
      have B4 := Lib.hid (B3.out.trans (hb4.mono (by omega)))
      clear hown4 hb4 Hil3 B3 R3 O3
      go_wp2_with fail
      refine (heqR.out _ _ _ (BL.of_own O4.out rfl YR.out hyl) (R4.out.up (by omega))).mono ?_
      rintro e w5 ⟨rfl, hb5⟩
      have S5 := hb5.size
      have O5 := Lib.hid (u_own_below O4.out hb5)
      have P5 := Lib.hid (u_own_below P4.out hb5)
      have R5 := Lib.hid (R4.out.below (hb5.mono (by omega)))
      have Hil5 := Lib.hid (Hil4.out.below (hb5.mono (by omega)))
      have B5 := Lib.hid (B4.out.trans (hb5.mono (by omega)))
      clear hb5 Hil4 B4 R4 O4 P4
      go_wp2_with fail
      refine (hcp.out _ _ (Hil5.out.up (by omega))).mono ?_
      rintro e w6 ⟨v6, rfl, hown6, hb6⟩
      have S6 := hb6.size
      have H6 := Lib.hid (BL.of_own hown6 rfl Hrng.out (by omega))
      have O6 := Lib.hid (u_own_below O5.out hb6)
      have P6 := Lib.hid (u_own_below P5.out hb6)
      have R6' := Lib.hid (R5.out.below (hb6.mono (by omega)))
      have Hil6 := Lib.hid (Hil5.out.below (hb6.mono (by omega)))
      have B6 := Lib.hid (B5.out.trans (hb6.mono (by omega)))
      clear hb6 hown6 Hil5 B5 R5 O5 P5
      go_wp2_with fail
      refine (heqA.out _ _ _ (BL.of_own P6.out rfl Hrng.out (by omega)) H6.out).mono ?_
      rintro e w7 ⟨rfl, hb7⟩
      have S7 := hb7.size
      have O7 := Lib.hid (u_own_below O6.out hb7)
      have P7 := Lib.hid (u_own_below P6.out hb7)
      have R7 := Lib.hid (R6'.out.below (hb7.mono (by omega)))
      have Hil7 := Lib.hid (Hil6.out.below (hb7.mono (by omega)))
      have B7 := Lib.hid (B6.out.trans (hb7.mono (by omega)))
      clear hb7 Hil6 B6 R6' O6 P6 H6
      go_wp2_with fail
      refine (hmkA.out _ _ _ (by omega) P7.out).mono ?_
      rintro e w8 ⟨rfl, hb8, hg8⟩
      have S8 := hg8.size
      have hne : v4.ownBlock = none ∨ v4.ownBlock ≠ v3.ownBlock := by
        cases h4 : v4.ownBlock with
        | none => exact .inl rfl
        | some k4 =>
          right
          intro h3
          have q4 := (O7.out.lt k4 h4).1
          have q3 := (Q3.out k4 h3.symm).2
          omega
      have O8 := Lib.hid (O7.out.kept hg8 hne)
      have R8 := Lib.hid (R7.out.below hb8)
      have Hil8 := Lib.hid (Hil7.out.below hb8)
      have B8 := Lib.hid (B7.out.trans (hb8.mono (by omega)))
      clear hb8 hg8 hne Hil7 B7 R7 O7 P7 Q3
      go_wp2_with fail
      refine (heqR.out _ _ _ (BL.of_own O8.out rfl YR.out hyl) (R8.out.up (by omega))).mono ?_
      rintro e w9 ⟨rfl, hb9⟩
      have S9 := hb9.size
      have O9 := Lib.hid (u_own_below O8.out hb9)
      have R9 := Lib.hid (R8.out.below (hb9.mono (by omega)))
      have Hil9 := Lib.hid (Hil8.out.below (hb9.mono (by omega)))
      have B9 := Lib.hid (B8.out.trans (hb9.mono (by omega)))
      clear hb9 Hil8 B8 R8 O8
      go_wp2_with fail
      refine (hmkR.out _ _ _ (by omega) O9.out).mono ?_
      rintro e w10 ⟨rfl, hown10, hb10, hg10⟩
      have S10 := hg10.size
      have G10 := Lib.hid (BL.of_own hown10 (mkBs_len _ _).symm hmr.out (by rw [mkBs_len]; exact hyl))
      have R10 := Lib.hid (R9.out.below (hb10.mono (by omega)))
      have Hil10 := Lib.hid (Hil9.out.below (hb10.mono (by omega)))
      have B10 := Lib.hid (B9.out.trans (hb10.mono (by omega)))
      clear hown10 hb10 hg10 Hil9 B9 R9 O9
      go_wp2_with fail
      refine (hhdR.out _ _ G10.out).mono ?_
      rintro e wh ⟨rfl, hbh⟩
      have SH := hbh.size
      have GH := Lib.hid ((G10.out.below hbh).up hbh.size)
      have RH := Lib.hid (R10.out.below (hbh.mono (by omega)))
      have HilH := Lib.hid (Hil10.out.below (hbh.mono (by omega)))
      have BH := Lib.hid (B10.out.trans (hbh.mono (by omega)))
      clear hbh Hil10 B10 R10 G10
      go_wp2_with fail
      refine (hcp.out _ _ (HilH.out.up (by omega))).mono ?_
      rintro e w11 ⟨v11, rfl, hown11, hb11⟩
      have S11 := hb11.size
      have H11 := Lib.hid (BL.of_own hown11 rfl Hrng.out (by omega))
      have G11 := Lib.hid ((GH.out.below hb11).up hb11.size)
      have R11 := Lib.hid (RH.out.below (hb11.mono (by omega)))
      have B11 := Lib.hid (BH.out.trans (hb11.mono (by omega)))
      clear hown11 hb11 HilH BH RH GH
      go_wp2_with fail
      refine (him.out _ _ H11.out (HTab.out.below B11.out)).mono ?_
      rintro e w12 ⟨v12, rfl, hown12, hb12⟩
      have S12 := hb12.size
      have J12 := Lib.hid (BL.of_own hown12 rfl YR.out hyl)
      have G12 := Lib.hid ((G11.out.below hb12).up hb12.size)
      have R12 := Lib.hid (R11.out.below (hb12.mono (by omega)))
      have B12 := Lib.hid (B11.out.trans (hb12.mono (by omega)))
      clear hown12 hb12 B11 R11 G11 H11
      go_wp2_with fail
      refine (heqR.out _ _ _ J12.out (R12.out.up (by omega))).mono ?_
      rintro e w13 ⟨rfl, hb13⟩
      have G13 := Lib.hid ((G12.out.below hb13).up hb13.size)
      have B13 := Lib.hid (B12.out.trans (hb13.mono (by omega)))
      clear hb13 B12 R12 G12 J12
      go_wp2_with fail
      refine (hhdR.out _ _ G13.out).mono ?_
      rintro e w14 ⟨rfl, hb14⟩
      go_wp2_with fail
      go_ret
      exact ⟨rfl, B13.out.trans (hb14.mono (by have := B13.out.size; omega))⟩
end Go.Proofs.YtanoohfhifhhaaaDoor

/- Walks: the law FnRechunked. -/
set_option linter.unusedVariables false
set_option linter.unusedSimpArgs false
namespace Go.Proofs.YtanoohfhifhhaaaDoor
open Go.RowKit

theorem rchM_small (bs : List (Int × ByteArray)) (z : Int) : ∀ j, ((rchM bs z).getD j (0, emB)).2.size ≤ 1048576 := by
  intro j
  unfold rchM
  cases uncO bs with
  | none => simp; exact Nat.zero_le _
  | some xs => have := ((chsM_small xs z).1 j).2; simp only; omega

set_option maxRecDepth 100000 in
set_option maxHeartbeats 8000000 in
theorem walkFnRechunked (A : Option Addr) (n c : Nat) (w : World) (h : n ≤ 1048576 → CodeAt w A n c) (hT : Tab w) :
    Calls Tryd.prog 6 #[.slice A n c] w fun e w' => e = .returned (.bool true) ∧ Below w.heap.size w w' := by
  have hbig := fun W => big_any A n c W
  have HTab := Lib.hid hT
  clear hT
  by_cases hn : n ≤ 1048576
  case neg =>
    have hd : decide (1048576 < (n : Int)) = true := by simp; omega
    rw [hd] at hbig
    have Hbig := Lib.hid hbig
    clear hbig hd h
    go_enter Tryd.func6, Tryd.ntmps6
    go_wp2_with fail
    refine (Hbig.out _).mono ?_
    rintro e w' ⟨rfl, rfl⟩
    go_wp2_with fail
    go_ret
    exact ⟨rfl, Below.refl _ _⟩
  case pos =>
    have H := Lib.hid (h hn)
    have hd : decide (1048576 < (n : Int)) = false := by simp; omega
    rw [hd] at hbig
    have Hbig := Lib.hid hbig
    clear hbig hd h
    go_enter Tryd.func6, Tryd.ntmps6
    go_wp2_with fail
    refine (Hbig.out _).mono ?_
    rintro e w' ⟨rfl, rfl⟩
    go_wp2_with fail
    refine (DrawRechunked_any A n c _ H.out).mono ?_
    rintro e w1 ⟨vb, bs, z, rfl, ho1, hbl, hbr, hrz, hb1⟩
    have OB1 := Lib.hid (show w1.ownsRow w.heap.size 36 2 vb bs.length (bks bs) from ho1)
    have B1 := Lib.hid hb1
    have RB := Lib.hid (show ∀ j, Rng (bs.getD j (0, emB)).1 ∧ (bs.getD j (0, emB)).2.size ≤ maxLen from fun j => ⟨(hbr j).1, by have := (hbr j).2; unfold maxLen; omega⟩)
    have hsz : ∀ j, (bs.getD j (0, emB)).2.size ≤ 1048576 := fun j => by have := (hbr j).2; omega
    have HIR := Lib.hid (fun W h hT => implRechunked_any vb bs z W h hsz hT)
    have HSR := Lib.hid (fun W h => specRechunked_any vb bs z W h hsz)
    have HIU := Lib.hid (fun W h hT => implUnchunked_any vb bs W h hsz hT)
    obtain ⟨rm, hml⟩ := rchM_ok bs z
    have RM := Lib.hid rm
    have hszm := rchM_small bs z
    have HIU2 := Lib.hid (fun v W h hT => implUnchunked_any v (rchM bs z) W h hszm hT)
    have HIR2 := Lib.hid (fun v W h hT => implRechunked_any v (rchM bs z) z W h hszm hT)
    have HSB := Lib.hid (fun v u W h h' => sameBlocks_any v u (rchM bs z) W h h')
    have HFC := Lib.hid (fun h => rch_facts (bs := bs) (z := z) h)
    unfold BOutF at HIR HSR HIR2
    unfold POutF at HIU HIU2
    obtain ⟨ms, hms⟩ : ∃ ms, rchM bs z = ms := ⟨_, rfl⟩
    obtain ⟨fb, hfb⟩ : ∃ fb, rchB bs z = fb := ⟨_, rfl⟩
    rw [hms] at RM hml HIU2 HIR2 HSB HFC HIR HSR
    rw [hfb] at HIR HSR HFC
    clear ho1 hb1 hbr hsz hszm rm hms hfb H Hbig hrz
    go_wp2_with fail
    refine (HIR.out _ (BL.of_own OB1.out rfl RB.out (by omega)) (HTab.out.below B1.out)).mono ?_
    rintro e w2 ⟨v2, rfl, ho2, hb2⟩
    have OM2 := Lib.hid (show w2.ownsRow w1.heap.size 36 2 v2 ms.length (bks ms) from ho2)
    have OB2 := Lib.hid (u_own_below OB1.out hb2)
    have B2 := Lib.hid (B1.out.trans (hb2.mono B1.out.size))
    clear hb2 ho2 OB1 B1
    go_wp2_with fail
    refine (HSR.out _ (BL.of_own OB2.out rfl RB.out (by omega))).mono ?_
    rintro e w3 ⟨v3, rfl, ho3, hb3⟩
    have OS3 := Lib.hid (show w3.ownsRow w2.heap.size 36 2 v3 ms.length (bks ms) from ho3)
    have OB3 := Lib.hid (u_own_below OB2.out hb3)
    have OM3 := Lib.hid (u_own_below OM2.out hb3)
    have B3 := Lib.hid (B2.out.trans (hb3.mono B2.out.size))
    clear hb3 ho3 OB2 OM2 B2
    cases fb with
    | false =>
      go_wp2_with fail
      refine (HSB.out _ _ _ (BL.of_own OM3.out rfl RM.out (by omega)) (BL.of_own OS3.out rfl RM.out (by omega))).mono ?_
      rintro e w4 ⟨rfl, hb4⟩
      have OB4 := Lib.hid (u_own_below OB3.out hb4)
      have OM4 := Lib.hid (u_own_below OM3.out hb4)
      have OS4 := Lib.hid (u_own_below OS3.out hb4)
      have B4 := Lib.hid (B3.out.trans (hb4.mono B3.out.size))
      clear hb4 OB3 OM3 OS3 B3
      go_wp2_with fail
      refine (HSB.out _ _ _ (BL.of_own OM4.out rfl RM.out (by omega)) (BL.of_own OS4.out rfl RM.out (by omega))).mono ?_
      rintro e w5 ⟨rfl, hb5⟩
      have OB5 := Lib.hid (u_own_below OB4.out hb5)
      have OM5 := Lib.hid (u_own_below OM4.out hb5)
      have OS5 := Lib.hid (u_own_below OS4.out hb5)
      have B5 := Lib.hid (B4.out.trans (hb5.mono B4.out.size))
      clear hb5 OB4 OM4 OS4 B4
      go_wp2_with fail
      go_ret
      exact ⟨rfl, B5.out⟩
    | true =>
      go_wp2_with fail
      refine (HSB.out _ _ _ (BL.of_own OM3.out rfl RM.out (by omega)) (BL.of_own OS3.out rfl RM.out (by omega))).mono ?_
      rintro e w4 ⟨rfl, hb4⟩
      have OB4 := Lib.hid (u_own_below OB3.out hb4)
      have OM4 := Lib.hid (u_own_below OM3.out hb4)
      have OS4 := Lib.hid (u_own_below OS3.out hb4)
      have B4 := Lib.hid (B3.out.trans (hb4.mono B3.out.size))
      clear hb4 OB3 OM3 OS3 B3
      obtain ⟨xs, hu1, hxr, hxl, _, hu2, hr2, hr3⟩ := HFC.out (by first | rfl | trivial)
      rw [hu1] at HIU
      rw [hu2] at HIU2
      rw [hr2, hr3] at HIR2
      have XR := Lib.hid hxr
      have HSP := Lib.hid (fun v u W h h' => samePointsK_any v u xs W h h')
      clear HFC hu1 hxr hu2 hr2 hr3
      go_wp2_with fail
      refine (HIU.out _ (BL.of_own OB4.out rfl RB.out (by omega)) (HTab.out.below B4.out)).mono ?_
      rintro e w5 ⟨v5, rfl, ho5, hb5⟩
      have OX5 := Lib.hid (show w5.ownsRow w4.heap.size 41 2 v5 xs.length (prs xs) from ho5)
      have OB5 := Lib.hid (u_own_below OB4.out hb5)
      have OM5 := Lib.hid (u_own_below OM4.out hb5)
      have OS5 := Lib.hid (u_own_below OS4.out hb5)
      have B5 := Lib.hid (B4.out.trans (hb5.mono B4.out.size))
      clear hb5 ho5 OB4 OM4 OS4 B4
      go_wp2_with fail
      refine (HIU2.out _ _ (BL.of_own OM5.out rfl RM.out (by omega)) (HTab.out.below B5.out)).mono ?_
      rintro e w6 ⟨v6, rfl, ho6, hb6⟩
      have OY6 := Lib.hid (show w6.ownsRow w5.heap.size 41 2 v6 xs.length (prs xs) from ho6)
      have OB6 := Lib.hid (u_own_below OB5.out hb6)
      have OM6 := Lib.hid (u_own_below OM5.out hb6)
      have OS6 := Lib.hid (u_own_below OS5.out hb6)
      have OX6 := Lib.hid (u_own_below OX5.out hb6)
      have B6 := Lib.hid (B5.out.trans (hb6.mono B5.out.size))
      clear hb6 ho6 OB5 OM5 OS5 OX5 B5
      go_wp2_with fail
      refine (HIR2.out _ _ (BL.of_own OM6.out rfl RM.out (by omega)) (HTab.out.below B6.out)).mono ?_
      rintro e w7 ⟨v7, rfl, ho7, hb7⟩
      have OZ7 := Lib.hid (show w7.ownsRow w6.heap.size 36 2 v7 ms.length (bks ms) from ho7)
      have OB7 := Lib.hid (u_own_below OB6.out hb7)
      have OM7 := Lib.hid (u_own_below OM6.out hb7)
      have OS7 := Lib.hid (u_own_below OS6.out hb7)
      have OX7 := Lib.hid (u_own_below OX6.out hb7)
      have OY7 := Lib.hid (u_own_below OY6.out hb7)
      have B7 := Lib.hid (B6.out.trans (hb7.mono B6.out.size))
      clear hb7 ho7 OB6 OM6 OS6 OX6 OY6 B6
      go_wp2_with fail
      refine (HSP.out _ _ _ (PL.of_own OX7.out rfl XR.out (by omega)) (PL.of_own OY7.out rfl XR.out (by omega))).mono ?_
      rintro e w8 ⟨rfl, hb8⟩
      have OB8 := Lib.hid (u_own_below OB7.out hb8)
      have OM8 := Lib.hid (u_own_below OM7.out hb8)
      have OS8 := Lib.hid (u_own_below OS7.out hb8)
      have OX8 := Lib.hid (u_own_below OX7.out hb8)
      have OY8 := Lib.hid (u_own_below OY7.out hb8)
      have OZ8 := Lib.hid (u_own_below OZ7.out hb8)
      have B8 := Lib.hid (B7.out.trans (hb8.mono B7.out.size))
      clear hb8 OB7 OM7 OS7 OX7 OY7 OZ7 B7
      go_wp2_with fail
      refine (HSB.out _ _ _ (BL.of_own OZ8.out rfl RM.out (by omega)) (BL.of_own OM8.out rfl RM.out (by omega))).mono ?_
      rintro e w9 ⟨rfl, hb9⟩
      have OB9 := Lib.hid (u_own_below OB8.out hb9)
      have OM9 := Lib.hid (u_own_below OM8.out hb9)
      have OS9 := Lib.hid (u_own_below OS8.out hb9)
      have OX9 := Lib.hid (u_own_below OX8.out hb9)
      have OY9 := Lib.hid (u_own_below OY8.out hb9)
      have OZ9 := Lib.hid (u_own_below OZ8.out hb9)
      have B9 := Lib.hid (B8.out.trans (hb9.mono B8.out.size))
      clear hb9 OB8 OM8 OS8 OX8 OY8 OZ8 B8
      go_wp2_with fail
      go_ret
      exact ⟨rfl, B9.out⟩
end Go.Proofs.YtanoohfhifhhaaaDoor
