/- Walks: the program's reader of times. -/
import Derived.Test.YtanoohfhifhhaaaDoorHf
import Derived.Test.YtanoohfhifhhaaaDoorTa
import Derived.Test.YtanoohfhifhhaaaDoorDa
import Derived.Deep.RegionLaw
import Derived.Test.YtanoohfhifhhaaaDoorHj
set_option linter.unusedVariables false
set_option linter.unusedSimpArgs false
namespace Go.Proofs.YtanoohfhifhhaaaDoor
open Go.RowKit

/-- k times from the place p on, by a reader of the first and a reader of a step's change -/
def timesG (f g : Nat → Option (Int × Nat)) : Nat → Nat → Option (List Int × Nat)
  | 0, p => some ([], p)
  | k + 1, p => match timesG f g k p with
    | none => none
    | some (xs, q) => match (if k = 0 then f q else g q) with
      | none => none
      | some (d, q') => some (xs ++ [if k = 0 then d else xs.getD (k - 1) 0 + (stepAt xs (k - 1) + d)], q')
theorem timesG_none {f g : Nat → Option (Int × Nat)} {k p : Nat} (h : timesG f g k p = none) : ∀ n, k ≤ n → timesG f g n p = none := by
  intro n
  induction n with
  | zero => intro hk; obtain rfl : k = 0 := by omega
            exact h
  | succ n ih =>
    intro hk
    by_cases e : k = n + 1
    · subst e; exact h
    · rw [timesG, ih (by omega)]
theorem timesG_step {f g : Nat → Option (Int × Nat)} {k p q : Nat} {xs : List Int} (h : timesG f g k p = some (xs, q)) :
    timesG f g (k + 1) p = match (if k = 0 then f q else g q) with
      | none => none
      | some (d, q') => some (xs ++ [if k = 0 then d else xs.getD (k - 1) 0 + (stepAt xs (k - 1) + d)], q') := by
  rw [timesG, h]
/-- what the two readers give -/
structure RdOk (f g : Nat → Option (Int × Nat)) (N : Nat) : Prop where
  f : ∀ p d q, p ≤ N → f p = some (d, q) → 0 ≤ d ∧ d < 1099511627776 ∧ p ≤ q ∧ q ≤ N
  g : ∀ p d q, p ≤ N → g p = some (d, q) → -1000000000000 ≤ d ∧ d ≤ 1000000000000 ∧ p ≤ q ∧ q ≤ N
theorem getD_snoc (xs : List Int) (y : Int) (j : Nat) : (xs ++ [y]).getD j 0 = if j < xs.length then xs.getD j 0 else if j = xs.length then y else 0 := by
  simp only [List.getD_eq_getElem?_getD]
  by_cases h : j < xs.length
  · rw [if_pos h, List.getElem?_append_left h]
  · rw [if_neg h, List.getElem?_append_right (by omega)]
    by_cases e : j = xs.length
    · rw [if_pos e, e]; simp
    · rw [if_neg e, List.getElem?_eq_none (by simp; omega)]; rfl
structure TG (xs : List Int) (k p q N : Nat) : Prop where
  len : xs.length = k
  pq : p ≤ q
  qN : q ≤ N
  rng : ∀ j, Rng (xs.getD j 0)
  last : 0 < k → -(1099511627776 + 120000000000000 * (k : Int)) ≤ xs.getD (k - 1) 0 ∧ xs.getD (k - 1) 0 ≤ 1099511627776 + 120000000000000 * (k : Int)
  step : -(1000000000000 * (k : Int)) ≤ stepAt xs (k - 1) ∧ stepAt xs (k - 1) ≤ 1000000000000 * (k : Int)
theorem timesG_ok {f g : Nat → Option (Int × Nat)} {N : Nat} (R : RdOk f g N) {p : Nat} (hp : p ≤ N) : ∀ (k : Nat) (xs : List Int) (q : Nat), k ≤ 120 → timesG f g k p = some (xs, q) → TG xs k p q N := by
  intro k
  induction k with
  | zero =>
    intro xs q _ h
    simp only [timesG, Option.some.injEq, Prod.mk.injEq] at h
    obtain ⟨rfl, rfl⟩ := h
    exact ⟨rfl, Nat.le_refl _, hp, fun j => by simpa using rng_zero, fun h => by omega, by simp [stepAt]⟩
  | succ k ih =>
    intro xs q hk h
    rw [timesG] at h
    cases h0 : timesG f g k p with
    | none => rw [h0] at h; cases h
    | some a =>
      obtain ⟨ys, m⟩ := a
      have T := ih ys m (by omega) h0
      rw [h0] at h
      by_cases e : k = 0
      · subst e
        have hy : ys = [] := List.eq_nil_of_length_eq_zero T.len
        subst hy
        simp only [if_true] at h
        cases h1 : f m with
        | none => rw [h1] at h; cases h
        | some b =>
          obtain ⟨d, q'⟩ := b
          rw [h1] at h
          simp only [Option.some.injEq, Prod.mk.injEq, List.nil_append] at h
          obtain ⟨rfl, rfl⟩ := h
          have hf := R.f m d q' T.qN h1
          refine ⟨rfl, by have := T.pq; omega, hf.2.2.2, fun j => ?_, fun _ => by simp; omega, by simp [stepAt]⟩
          cases j with
          | zero => simp [Rng]; omega
          | succ j => simpa using rng_zero
      · simp only [if_neg e] at h
        cases h1 : g m with
        | none => rw [h1] at h; cases h
        | some b =>
          obtain ⟨d, q'⟩ := b
          rw [h1] at h
          simp only [Option.some.injEq, Prod.mk.injEq] at h
          obtain ⟨rfl, rfl⟩ := h
          have hg := R.g m d q' T.qN h1
          have hl := T.last (by omega)
          have hs := T.step
          have hk0 : 0 < k := by omega
          have e1 : k + 1 - 1 = k := rfl
          have hn : (ys ++ [ys.getD (k - 1) 0 + (stepAt ys (k - 1) + d)]).getD k 0 = ys.getD (k - 1) 0 + (stepAt ys (k - 1) + d) := by
            rw [getD_snoc, T.len, if_neg (by omega), if_pos rfl]
          have ho : (ys ++ [ys.getD (k - 1) 0 + (stepAt ys (k - 1) + d)]).getD (k - 1) 0 = ys.getD (k - 1) 0 := by
            rw [getD_snoc, T.len, if_pos (by omega)]
          have hst : stepAt (ys ++ [ys.getD (k - 1) 0 + (stepAt ys (k - 1) + d)]) k = stepAt ys (k - 1) + d := by
            unfold stepAt at *
            rw [if_neg e, hn, ho]; omega
          refine ⟨by simp [T.len], by have := T.pq; omega, hg.2.2.2, fun j => ?_, fun _ => ?_, ?_⟩
          · rw [getD_snoc, T.len]
            split
            · exact T.rng j
            · split
              · unfold Rng; omega
              · exact rng_zero
          · rw [e1, hn]; omega
          · rw [e1, hst]; omega
theorem stepAt_snoc {ys : List Int} {k : Nat} {d : Int} (hl : ys.length = k) (e : ¬ k = 0) : stepAt (ys ++ [ys.getD (k - 1) 0 + (stepAt ys (k - 1) + d)]) k = stepAt ys (k - 1) + d := by
  have hn : (ys ++ [ys.getD (k - 1) 0 + (stepAt ys (k - 1) + d)]).getD k 0 = ys.getD (k - 1) 0 + (stepAt ys (k - 1) + d) := by
    rw [getD_snoc, hl, if_neg (by omega), if_pos rfl]
  have ho : (ys ++ [ys.getD (k - 1) 0 + (stepAt ys (k - 1) + d)]).getD (k - 1) 0 = ys.getD (k - 1) 0 := by
    rw [getD_snoc, hl, if_pos (by omega)]
  unfold stepAt at *
  rw [if_neg e, hn, ho]; omega
def fW (ws : List Nat) (N q : Nat) : Option (Int × Nat) := if q + 40 ≤ N then some ((BM.getW ws q 40 : Int), q + 40) else none
def timesW (ws : List Nat) (N : Nat) (k p : Nat) : Option (List Int × Nat) := timesG (fW ws N) (getR ws N) k p
def timesFin (r : Option (List Int × Nat)) : Option (List Int × Nat) := match r with
  | none => none
  | some (xs, q) => if timesOkB xs = true then some (xs, q) else none
theorem codeB_lim {d : Int} (h : (codeB d).length ≠ 0) : -1000000000000 ≤ d ∧ d ≤ 1000000000000 := by
  unfold codeB at h
  cases hs : stepB d with
  | false => rw [hs] at h; simp at h
  | true =>
    unfold stepB vIn at hs
    exact of_decide_eq_true hs
theorem onesR_lt (ws : List Nat) (N : Nat) : ∀ (k i p j q : Nat), 0 < k → onesR ws N k i p = some (j, q) → p < q
  | k + 1, i, p, j, q, _, h => by
    rw [onesR] at h
    split at h
    · split at h
      · simp only [Option.some.injEq, Prod.mk.injEq] at h; omega
      · cases k with
        | zero => simp only [onesR, Option.some.injEq, Prod.mk.injEq] at h; omega
        | succ k => have := onesR_lt ws N (k + 1) (i + 1) (p + 1) j q (by omega) h; omega
    · cases h
theorem rdOk_W {ws : List Nat} {N : Nat} (hw : RdW ws N) : RdOk (fW ws N) (getR ws N) N where
  f := fun p d q hp h => by
    unfold fW at h
    split at h
    · simp only [Option.some.injEq, Prod.mk.injEq] at h
      have := hw.v p 40 (by omega)
      omega
    · cases h
  g := fun p d q hp h => by
    unfold getR at h
    cases h1 : onesR ws N 4 0 p with
    | none => rw [h1] at h; cases h
    | some a =>
      obtain ⟨i, m⟩ := a
      rw [h1] at h
      have hm := onesR_lt ws N 4 0 p i m (by omega) h1
      simp only at h
      split at h
      · split at h
        · rename_i hc hn
          simp only [Option.some.injEq, Prod.mk.injEq] at h
          obtain ⟨rfl, rfl⟩ := h
          have := codeB_lim (d := (BM.getW ws m (bitsI i) : Int) - offI i) (by omega)
          omega
        · cases h
      · cases h
end Go.Proofs.YtanoohfhifhhaaaDoor

/- Walks: the program's reader of times: the walk. -/
set_option linter.unusedVariables false
set_option linter.unusedSimpArgs false
namespace Go.Proofs.YtanoohfhifhhaaaDoor
open Go.RowKit

/-- how the reader of a list ends: with a list of its own and the place behind it, or with a panic of the text's own -/
def ListOut (g : Nat) (ws : List Nat) (N : Nat) (r : Option (List Int × Nat)) (w : World) (e : Ending) (w' : World) : Prop :=
  w.grownBy w' (some g) ∧ match r with
    | some (xs, q) => ∃ v, e = .returned v ∧ w'.ownsRow w.heap.size 2 1 v xs.length (ints xs) ∧ RK w' g ws (N : Int) (q : Int) ∧ (∀ j, Rng (xs.getD j 0)) ∧ xs.length ≤ 120
    | none => Cry e
theorem ListOut.some' {g : Nat} {ws : List Nat} {N : Nat} {r : Option (List Int × Nat)} {w : World} {e : Ending} {w' : World} {xs : List Int} {q : Nat} (h : ListOut g ws N r w e w') (hr : r = some (xs, q)) :
    (∃ v, e = .returned v ∧ w'.ownsRow w.heap.size 2 1 v xs.length (ints xs)) ∧ RK w' g ws (N : Int) (q : Int) ∧ w.grownBy w' (some g) ∧ (∀ j, Rng (xs.getD j 0)) ∧ xs.length ≤ 120 := by
  subst hr; obtain ⟨h1, v, h2, h3, h4, h5, h6⟩ := h; exact ⟨⟨v, h2, h3⟩, h4, h1, h5, h6⟩
theorem ListOut.none' {g : Nat} {ws : List Nat} {N : Nat} {r : Option (List Int × Nat)} {w : World} {e : Ending} {w' : World} (h : ListOut g ws N r w e w') (hr : r = none) : Cry e ∧ w.grownBy w' (some g) := by
  subst hr; exact ⟨h.2, h.1⟩
/-- an append to one's own row changes nothing that was there when the row's base was the heap's end -/
theorem grown_app {w1 wr w' : World} {g B : Nat} {e : TypeId} {v : Value} {n : Nat} {xs : List Value} {o : Obj} (h : w1.grownBy wr (some g)) (hB : w1.heap.size ≤ B) (ho : wr.ownsRow B e 1 v n xs) (k : (wr.alloc o).grownBy w' v.ownBlock) : w1.grownBy w' (some g) :=
  have k2 : wr.grownBy w' v.ownBlock := ⟨k.os, k.tape, k.output, Nat.le_trans (by simp) k.size, fun i hi hne => (k.block i (by simp; omega) hne).trans (by
    exact heap_alloc_old _ _ hi)⟩
  ⟨k2.os.trans h.os, k2.tape.trans h.tape, k2.output.trans h.output, Nat.le_trans h.size k2.size, fun i hi hne => (k2.block i (Nat.lt_of_lt_of_le hi h.size) (fun hk => by have := (ho.lt _ hk.symm).1; omega)).trans (h.block i hi hne)⟩
theorem RK.app {wr w' : World} {g B : Nat} {e : TypeId} {v : Value} {n : Nat} {xs : List Value} {o : Obj} {ws : List Nat} {N p : Int} (h : RK wr g ws N p) (hB : g < B) (ho : wr.ownsRow B e 1 v n xs) (k : (wr.alloc o).grownBy w' v.ownBlock) : RK w' g ws N p := by
  have hlt := h.lt
  unfold RK at *
  rw [k.block g (by simp; omega) (fun hk => by have := (ho.lt _ hk.symm).1; omega), heap_alloc_old _ _ hlt]
  exact h

theorem below_grownT {a b c : World} {g : Nat} (h : Below a.heap.size a b) (k : b.grownBy c (some g)) : a.grownBy c (some g) :=
  ⟨k.os.trans h.os, k.tape.trans h.tape, k.output.trans h.output, Nat.le_trans h.size k.size, fun i hi hne => (k.block i (Nat.lt_of_lt_of_le hi h.size) hne).trans (h.block i hi)⟩
theorem grown_below2 {a b c : World} {row : Option Nat} (h : a.grownBy b row) (k : Below b.heap.size b c) : a.grownBy c row :=
  ⟨k.os.trans h.os, k.tape.trans h.tape, k.output.trans h.output, Nat.le_trans h.size k.size, fun i hi hne => (k.block i (Nat.lt_of_lt_of_le hi h.size)).trans (h.block i hi hne)⟩
/-- a row above g's block is not touched by what changes only g's block -/
theorem own_grown {w1 w2 : World} {B g : Nat} {e : TypeId} {size : Nat} {v : Value} {n : Nat} {xs : List Value} (h : w1.ownsRow B e size v n xs) (k : w1.grownBy w2 (some g)) (hg : g < B) : w2.ownsRow B e size v n xs := by
  obtain ⟨h1, h2⟩ := h
  refine ⟨h1, ?_⟩
  rcases h2 with h2 | ⟨b, cap, cur, rfl, hb, hh, rest⟩
  · exact .inl h2
  · exact .inr ⟨b, cap, cur, rfl, hb, (k.block b (Array.getElem?_eq_some_iff.1 hh).1 (by intro he; injection he with he; omega)).trans hh, rest⟩

set_option maxRecDepth 100000 in
set_option maxHeartbeats 4000000 in
theorem times_any (g : Nat) (ws : List Nat) (N p n : Nat) (w : World) (h : RK w g ws (N : Int) (p : Int)) (hw : RdW ws N) (hp : p ≤ N) (hn : n ≤ 120) :
    Calls Tryd.prog 91 #[.pointer (some ⟨g, 0, none⟩), .int .i64 (n : Int)] w (ListOut g ws N (timesFin (timesW ws N n p)) w) := by
  have T := Lib.hid (fun (W : World) (q : Nat) (hk : RK W g ws (N : Int) (q : Int)) (hq : q ≤ N) => take_any g ws N q 40 W hk hw (by omega) hq)
  have G := Lib.hid (fun (W : World) (gc q : Nat) (hcs : CodesAt W gc) (hk : RK W g ws (N : Int) (q : Int)) (hq : q ≤ N) => codesGet_any gc g ws N q W hcs hk hw hq)
  have HK := Lib.hid h
  have hglt := h.lt
  have HW := Lib.hid hw
  have HC := Lib.hid (fun W => newStepCodes_any W)
  have HT := Lib.hid (fun v xs W h => implTimesOk_any v xs W h)
  have HF := Lib.hid (fun W => fail_any g W)
  have HO := Lib.hid (fun k xs q hk h => timesG_ok (rdOk_W hw) (p := p) hp k xs q hk h)
  obtain ⟨i0, hi, hz0, hz1, hz2⟩ := info_parts u_info_i64
  clear h hw
  go_enter Tryd.func91, Tryd.ntmps91
  go_wp2_with fail
  refine (HC.out _).mono ?_
  rintro e w1 ⟨gc, rfl, hcs, hgc, hb1⟩
  have hk1 : RK w1 g ws (N : Int) (p : Int) := (hb1.block g hglt).trans HK.out
  have HCS := Lib.hid hcs
  have HB1 := Lib.hid hb1
  have HK1 := Lib.hid hk1
  clear hcs hb1 hk1
  go_wp2_with fail
  go_loopw [5, 6, 7, 12] (fun v la st i wr => ∃ (k : Nat) (xs : List Int) (q : Nat), k ≤ n ∧ i = .int .i64 k ∧ timesW ws N k p = some (xs, q) ∧ la = .int .i64 (if k = 0 then 0 else xs.getD (k - 1) 0) ∧ st = .int .i64 (stepAt xs (k - 1)) ∧
      wr.ownsRow w1.heap.size 2 1 v k (ints xs) ∧ RK wr g ws (N : Int) (q : Int) ∧ w1.grownBy wr (some g))
    (fun _ _ _ i _ => n - (intOf i).toNat)
  case atStart => exact ⟨0, [], p, Nat.zero_le _, rfl, rfl, rfl, rfl, World.ownsRow_nil _ _ _ _, HK1.out, World.grownBy.refl _ _⟩
  case round =>
    obtain ⟨k, xs, q, hk, rfl, ht, rfl, rfl, hown, hkr, hgr⟩ := hrel
    have hT := HO.out k xs q (by omega) ht
    have HTw := Lib.hid ht
    have HG := Lib.hid hgr
    have HO1 := Lib.hid hown
    have HKr := Lib.hid hkr
    have hqN := hT.qN
    have hB : w.heap.size ≤ w1.heap.size := HB1.out.size
    have hcs : CodesAt wr gc := HCS.out.grown HK1.out (by rw [rdCells_size HW.out.l]; omega) (by omega) hgr
    have HCr := Lib.hid hcs
    clear hown hkr hgr ht hcs
    by_cases hlt : k < n
    · by_cases hk0 : k = 0
      · subst hk0
        rw [if_pos rfl]
        rw [show stepAt xs (0 - 1) = 0 from rfl]
        go_wp2_with fail
        refine (T.out _ q HKr.out hqN).mono ?_
        rintro e w2 h2
        by_cases c : q + 40 ≤ N
        · obtain ⟨rfl, hk2, hg2⟩ := h2.some' (v := .int .u64 (BM.getW ws q 40 : Int)) (q := q + 40) (by unfold takeR; rw [if_pos c])
          have hV := HW.out.v q 40 (by omega)
          have hn1 := Lib.hid (show timesW ws N (0 + 1) p = some (xs ++ [(BM.getW ws q 40 : Int)], q + 40) from by
            unfold timesW; rw [timesG_step HTw.out]; simp only [if_true]; unfold fW; rw [if_pos c])
          have hs1 : stepAt (xs ++ [(BM.getW ws q 40 : Int)]) 0 = 0 := rfl
          have hl1 : (xs ++ [(BM.getW ws q 40 : Int)]).getD 0 0 = (BM.getW ws q 40 : Int) := by
            rw [List.eq_nil_of_length_eq_zero hT.len]; rfl
          have hgg := grown_trans HG.out hg2
          have hown2 : w2.ownsRow w1.heap.size 2 1 _ 0 (ints xs) := own_grown HO1.out hg2 (by omega)
          generalize BM.getW ws q 40 = V at *
          have HO2 := Lib.hid hown2
          have HK2 := Lib.hid hk2
          have HG2 := Lib.hid hgg
          have hsz2 : w1.heap.size ≤ w2.heap.size := hgg.size
          have eV : wrap64 (V : Int) = (V : Int) := by unfold wrap64; omega
          clear hown2 hk2 hgg hg2 h2 HO1 HKr HG HCr
          go_wp2_with (at_builtin; refine wpList_append_own _ rfl _ _ 94 rfl w1.heap.size 2 i0 (.int .i64 0) 1 8 Tryd.underlying94 hi hz0 hz1 hz2 rfl (by decide) _ _ _ rfl (HO2.out.alloc _) ⟨w2.heap.size, 0, none⟩ 1 1 [.int .i64 (V : Int)] rfl rfl ?c1 ?c2 ?c3 ?c4 ?c5 ?_)
          case c1 => exact cell_one_new _ _ _
          case c2 => intro q hq; simp at hq; subst hq; rfl
          case c3 => unfold maxLen; omega
          case c4 => omega
          case c5 => simp; omega
          intro v' w4 hown' hgrow _
          have hg4 := grown_app HG2.out (Nat.le_refl _) HO2.out hgrow
          have hk4 := HK2.out.app (B := w1.heap.size) (by omega) HO2.out hgrow
          have hown5 : w4.ownsRow w1.heap.size 2 1 v' (0 + 1) (ints (xs ++ [(V : Int)])) := by rw [ints_append]; exact hown'
          clear hown' hgrow
          go_wp2_with fail
          go_roundw
          case rel => exact ⟨0 + 1, _, _, by omega, by go_num, hn1.out, by rw [if_neg (by omega)]; exact congrArg _ hl1.symm, by rw [hs1], hown5, hk4, hg4⟩
          case measure => simp [intOf]; omega
        · obtain ⟨⟨u, pv, rfl⟩, hg2⟩ := h2.none' (by unfold takeR; rw [if_neg c])
          have E := Lib.hid (show timesFin (timesW ws N n p) = none from by
            have h1 : timesW ws N 1 p = none := by
              unfold timesW; rw [timesG_step HTw.out]; simp only [if_true]; unfold fW; rw [if_neg c]
            unfold timesW at h1 ⊢
            rw [timesG_none h1 n (by omega)]; rfl)
          have hgg := grown_trans HG.out hg2
          clear hg2 h2
          go_wp2_with fail
          rw [E.out]
          exact ⟨rfl, below_grownT HB1.out hgg, ⟨_, _, rfl⟩⟩
      · rw [if_neg hk0]
        have hst := hT.step
        have hla := hT.last (by omega)
        have hki : ¬ (k : Int) = 0 := by omega
        have hkb : ((k : Int) == 0) = false := by rw [beq_eq_false_iff_ne]; exact hki
        have hkd : decide ((k : Int) = 0) = false := decide_eq_false hki
        obtain ⟨la, hla1⟩ : ∃ la, xs.getD (k - 1) 0 = la := ⟨_, rfl⟩
        obtain ⟨st, hst1⟩ : ∃ st, stepAt xs (k - 1) = st := ⟨_, rfl⟩
        rw [hla1] at hla ⊢
        rw [hst1] at hst ⊢
        have HLA := Lib.hid hla1
        have HST := Lib.hid hst1
        clear hla1 hst1
        go_wp2_with fail
        refine (G.out _ gc q HCr.out HKr.out hqN).mono ?_
        rintro e w2 h2
        cases hr : getR ws N q with
        | none =>
          obtain ⟨⟨u, pv, rfl⟩, hg2⟩ := h2.none' (by rw [hr]; rfl)
          have E := Lib.hid (show timesFin (timesW ws N n p) = none from by
            have h1 : timesW ws N (k + 1) p = none := by
              unfold timesW; rw [timesG_step HTw.out]; simp only [if_neg hk0]; rw [hr]
            unfold timesW at h1 ⊢
            rw [timesG_none h1 n (by omega)]; rfl)
          have hgg := grown_trans HG.out hg2
          clear hg2 h2 hr
          go_wp2_with fail
          rw [E.out]
          exact ⟨rfl, below_grownT HB1.out hgg, ⟨_, _, rfl⟩⟩
        | some dq =>
          obtain ⟨d, q2⟩ := dq
          obtain ⟨rfl, hk2, hg2⟩ := h2.some' (v := .int .i64 d) (q := q2) (by rw [hr]; rfl)
          have hd := (rdOk_W HW.out).g q d q2 hqN hr
          have hn1 := Lib.hid (show timesW ws N (k + 1) p = some (xs ++ [la + (st + d)], q2) from by
            unfold timesW; rw [timesG_step HTw.out]; simp only [if_neg hk0]; rw [hr, HLA.out, HST.out])
          have hs1 : stepAt (xs ++ [la + (st + d)]) k = st + d := by
            have := stepAt_snoc (ys := xs) (k := k) (d := d) hT.len hk0
            rw [HLA.out, HST.out] at this; exact this
          have hl1 : (xs ++ [la + (st + d)]).getD k 0 = la + (st + d) := by
            rw [getD_snoc, hT.len, if_neg (by omega), if_pos rfl]
          have HS1 := Lib.hid hs1
          have HL1 := Lib.hid hl1
          have hgg := grown_trans HG.out hg2
          have hown2 : w2.ownsRow w1.heap.size 2 1 _ k (ints xs) := own_grown HO1.out hg2 (by omega)
          have HO2 := Lib.hid hown2
          have HK2 := Lib.hid hk2
          have HG2 := Lib.hid hgg
          have hsz2 : w1.heap.size ≤ w2.heap.size := hgg.size
          have e1 : wrap64 (st + d) = st + d := by unfold wrap64; omega
          have e2 : wrap64 (la + (st + d)) = la + (st + d) := by unfold wrap64; omega
          clear hown2 hk2 hgg hg2 h2 HO1 HKr HG HCr hs1 hl1 hr
          go_wp2_with (at_builtin; refine wpList_append_own _ rfl _ _ 94 rfl w1.heap.size 2 i0 (.int .i64 0) 1 8 Tryd.underlying94 hi hz0 hz1 hz2 rfl (by decide) _ _ _ rfl (HO2.out.alloc _) ⟨w2.heap.size, 0, none⟩ 1 1 [.int .i64 (la + (st + d))] rfl rfl ?c1 ?c2 ?c3 ?c4 ?c5 ?_)
          case c1 => exact cell_one_new _ _ _
          case c2 => intro q hq; simp at hq; subst hq; rfl
          case c3 => unfold maxLen; omega
          case c4 => omega
          case c5 => simp; omega
          intro v' w4 hown' hgrow _
          have hg4 := grown_app HG2.out (Nat.le_refl _) HO2.out hgrow
          have hk4 := HK2.out.app (B := w1.heap.size) (by omega) HO2.out hgrow
          have hown5 : w4.ownsRow w1.heap.size 2 1 v' (k + 1) (ints (xs ++ [la + (st + d)])) := by rw [ints_append]; exact hown'
          clear hown' hgrow
          go_wp2_with fail
          go_roundw
          case rel => exact ⟨k + 1, _, _, by omega, by go_num, hn1.out, by rw [if_neg (by omega)]; exact congrArg _ HL1.out.symm, by rw [show k + 1 - 1 = k from rfl, HS1.out], hown5, hk4, hg4⟩
          case measure => simp [intOf]; omega
    · obtain rfl : k = n := by omega
      have hlen : xs.length = k := hT.len
      have HI := Lib.hid (IL.of_own HO1.out hlen.symm hT.rng (by omega))
      have HOk := Lib.hid (HT.out _ xs wr HI.out)
      generalize (if k = 0 then (0 : Int) else xs.getD (k - 1) 0) = la
      generalize stepAt xs (k - 1) = st
      cases hb : timesOkB xs with
      | true =>
        have E := Lib.hid (show timesFin (timesW ws N k p) = some (xs, q) from by rw [HTw.out]; unfold timesFin; simp only; rw [if_pos hb])
        rw [hb] at HOk
        clear hb
        go_wp2_with fail
        refine HOk.out.mono ?_
        rintro e w5 ⟨rfl, hb5⟩
        have ho5 := u_own_below HO1.out hb5
        have hk5 : RK w5 g ws (N : Int) (q : Int) := (hb5.block g HKr.out.lt).trans HKr.out
        have hg5 := grown_below2 HG.out hb5
        go_wp2_with fail
        go_ret
        rw [E.out]
        exact ⟨below_grownT HB1.out hg5, _, rfl, by rw [hlen]; exact u_ownsRow_base ho5 hB, hk5, hT.rng, by omega⟩
      | false =>
        have E := Lib.hid (show timesFin (timesW ws N k p) = none from by rw [HTw.out]; unfold timesFin; simp only; rw [if_neg (by simp [hb])])
        rw [hb] at HOk
        clear hb
        go_wp2_with fail
        refine HOk.out.mono ?_
        rintro e w5 ⟨rfl, hb5⟩
        have hg5 := grown_below2 HG.out hb5
        go_wp2_with fail
        refine (HF.out _).mono ?_
        rintro e w6 ⟨⟨u, pv, rfl⟩, rfl⟩
        go_wp2_with fail
        rw [E.out]
        exact ⟨rfl, below_grownT HB1.out hg5, ⟨_, _, rfl⟩⟩
end Go.Proofs.YtanoohfhifhhaaaDoor

/- Walks: the program reads a list from bits: readFrom with a reader of its own. -/
set_option linter.unusedVariables false
set_option linter.unusedSimpArgs false
namespace Go.Proofs.YtanoohfhifhhaaaDoor
open Go.RowKit

/-- what a read of a list returns -/
def ReadOut (r : Option (List Int × Nat)) (w : World) (e : Ending) (w' : World) : Prop := match r with
  | some (xs, q) => ∃ v, e = .returned (.tuple #[v, .int .i64 (q : Int), .bool true]) ∧ w'.ownsRow w.heap.size 2 1 v xs.length (ints xs) ∧ (∀ j, Rng (xs.getD j 0)) ∧ xs.length ≤ 120
  | none => e = .returned (.tuple #[.slice none 0 0, .int .i64 0, .bool false])
theorem own_setCell {w : World} {B g i : Nat} {e : TypeId} {size : Nat} {v : Value} {n : Nat} {xs : List Value} {u : Value} (h : w.ownsRow B e size v n xs) (hg : g < B) : (w.setCell ⟨g, i, none⟩ u).ownsRow B e size v n xs :=
  own_grown h (grown_set (World.grownBy.refl w (some g)) i u) hg



end Go.Proofs.YtanoohfhifhhaaaDoor
