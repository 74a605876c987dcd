/- Walks: the document's reader of times. -/
import Derived.Test.YtbgogpfhdfgjeaaSd
import Derived.Test.YtbgogpfhdfgjeaaHn
set_option linter.unusedVariables false
set_option linter.unusedSimpArgs false
namespace Go.Proofs.Ytbgogpfhdfgjeaa
open Go.RowKit

def BackOut (r : Option (List Int × Nat)) (w : World) (e : Ending) (w' : World) : Prop := match r with
  | some (xs, q) => ∃ v, e = .returned (.tuple #[v, .int .i64 (q : Int), .bool (timesOkB xs)]) ∧ w'.ownsRow w.heap.size 2 1 v xs.length (ints xs)
  | none => e = .returned (.tuple #[.slice none 0 0, .int .i64 0, .bool false])

theorem onesL_lt (L : List Bool) : ∀ (k i p j q : Nat), 0 < k → onesL L k i p = some (j, q) → p < q
  | k + 1, i, p, j, q, _, h => by
    rw [onesL] at h
    split at h
    · split at h
      · simp only [Option.some.injEq, Prod.mk.injEq] at h; omega
      · cases k with
        | zero => simp only [onesL, Option.some.injEq, Prod.mk.injEq] at h; omega
        | succ k => have := onesL_lt L (k + 1) (i + 1) (p + 1) j q (by omega) h; omega
    · cases h
theorem rdOk_L (L : List Bool) : RdOk (fL L) (getL L) L.length where
  f := fun p d q hp h => by
    unfold fL at h
    split at h
    · simp only [Option.some.injEq, Prod.mk.injEq] at h
      have : numL L p 40 < 2 ^ 40 := BM.ofBits_lt _ _
      omega
    · cases h
  g := fun p d q hp h => by
    unfold getL at h
    cases h1 : onesL L 4 0 p with
    | none => rw [h1] at h; cases h
    | some a =>
      obtain ⟨i, m⟩ := a
      rw [h1] at h
      have hm := onesL_lt L 4 0 p i m (by omega) h1
      simp only at h
      split at h
      · split at h
        · rename_i hc hn
          simp only [Option.some.injEq, Prod.mk.injEq] at h
          obtain ⟨rfl, rfl⟩ := h
          have := codeB_lim (d := (numL L m (bitsI i) : Int) - offI i) (by omega)
          omega
        · cases h
      · cases h

set_option maxRecDepth 100000 in
set_option maxHeartbeats 4000000 in
theorem l3Back_any (s : ByteArray) (N p n : Nat) (w : World) (hs : s.size ≤ maxLen) (hN : N ≤ 20000) (h8 : N ≤ 8 * s.size) (hp : p ≤ N) (hn : n ≤ 120) (L : List Bool) (hL : BM.listOf s.data.toList N = L) :
    Calls Try.prog 70 #[.agg #[.string s, .int .i64 (N : Int)], .int .i64 (p : Int), .int .i64 (n : Int)] w fun e w' => BackOut (timesG (fL L) (getL L) n p) w e w' ∧ Below w.heap.size w w' := by
  have hlen : L.length = N := by rw [← hL]; exact BM.listOf_length _ _
  have HNum := Lib.hid (fun q (hq : q + 40 ≤ N) => (numL_take (s := s) (n := N) (a := q) (k := 40) hq).symm)
  rw [hL] at HNum
  have HTk := Lib.hid (fun (q : Nat) W (hq : q + 40 ≤ N) => l1Take_any s (N : Int) q 40 W (by omega) (by omega) hs)
  have HRd := Lib.hid (fun (q : Nat) W (hq : q ≤ N) => l3Read_any s N q W hs hN h8 hq)
  rw [hL] at HRd
  have HT := Lib.hid (fun v xs W h => specTimesOk_any v xs W h)
  have HO := Lib.hid (fun k xs q hk h => timesG_ok (rdOk_L L) (p := p) (by omega) k xs q hk h)
  rw [hlen] at HO
  have HfL := Lib.hid (show ∀ q, fL L q = if q + 40 ≤ N then some ((numL L q 40 : Int), q + 40) else none from fun q => by unfold fL; rw [hlen])
  obtain ⟨i0, hi, hz0, hz1, hz2⟩ := info_parts u_info_i64
  have hB0 : Below w.heap.size w (w.alloc (.cells #[.string s, .int .i64 (N : Int)] 26)) := below1 w _
  have hx0 : (w.alloc (.cells #[.string s, .int .i64 (N : Int)] 26)).cell? ⟨w.heap.size, 0, none⟩ = some (.string s) := by go_simp
  have hx1 : (w.alloc (.cells #[.string s, .int .i64 (N : Int)] 26)).cell? ⟨w.heap.size, 1, none⟩ = some (.int .i64 (N : Int)) := by go_simp
  have hsz0 : (w.alloc (.cells #[.string s, .int .i64 (N : Int)] 26)).heap.size = w.heap.size + 1 := by simp
  have hown0 : ((w.alloc (.cells #[.string s, .int .i64 (N : Int)] 26)).alloc (.cells #[] 2)).ownsRow (w.heap.size + 1) 2 1 (.slice (some ⟨w.heap.size + 1, 0, none⟩) 0 0) 0 (ints []) := by
    have := World.ownsRow_made (w.alloc (.cells #[.string s, .int .i64 (N : Int)] 26)) (base := w.heap.size + 1) (e := 2) (size := 1) #[] 0 (by rw [hsz0]; omega) (by simp [maxLen]) rfl
    rw [hsz0] at this
    simpa [ints] using this
  have HB0 := Lib.hid hB0
  have HX0 := Lib.hid hx0
  have HX1 := Lib.hid hx1
  have HZ0 := Lib.hid hsz0
  have HOw := Lib.hid hown0
  have HLn := Lib.hid hlen
  clear hB0 hx0 hx1 hsz0 hown0 hL hlen
  go_enter Try.func70, Try.ntmps70
  go_wp2_with fail
  have hb0 : Below (w.heap.size + 1) (w.alloc (.cells #[.string s, .int .i64 (N : Int)] 26)) ((w.alloc (.cells #[.string s, .int .i64 (N : Int)] 26)).alloc (.cells #[] 2)) := (Below.refl _ _).alloc (by rw [HZ0.out]; omega) _
  generalize w.alloc (.cells #[.string s, .int .i64 (N : Int)] 26) = w0 at *
  go_loopw [1, 9, 10, 11] (fun a v st i wr => ∃ (k : Nat) (xs : List Int) (q : Nat), k ≤ n ∧ i = .int .i64 k ∧ timesG (fL L) (getL L) k p = some (xs, q) ∧ a = .int .i64 (q : Int) ∧ st = .int .i64 (stepAt xs (k - 1)) ∧
      wr.ownsRow (w.heap.size + 1) 2 1 v k (ints xs) ∧ Below (w.heap.size + 1) w0 wr)
    (fun _ _ _ i _ => n - (intOf i).toNat)
  case atStart => exact ⟨0, [], p, Nat.zero_le _, rfl, rfl, rfl, rfl, HOw.out, hb0⟩
  case round =>
    clear hb0
    obtain ⟨k, xs, q, hk, rfl, ht, rfl, rfl, hown, hb⟩ := hrel
    have hT := HO.out k xs q (by omega) ht
    have HTw := Lib.hid ht
    have hqN := hT.qN
    have x0 : wr.cell? ⟨w.heap.size, 0, none⟩ = some (.string s) := (hb.cell (p := ⟨w.heap.size, 0, none⟩) (by simp)).trans HX0.out
    have x1 : wr.cell? ⟨w.heap.size, 1, none⟩ = some (.int .i64 (N : Int)) := (hb.cell (p := ⟨w.heap.size, 1, none⟩) (by simp)).trans HX1.out
    have hsz : w.heap.size + 1 ≤ wr.heap.size := by have := hb.size; have := HZ0.out; omega
    have HBr := Lib.hid hb
    have HOr := Lib.hid hown
    clear ht hb hown
    by_cases hlt : k < n
    · by_cases hk0 : k = 0
      · subst hk0
        rw [show stepAt xs (0 - 1) = 0 from rfl]
        by_cases c : q + 40 ≤ N
        · have ci : ¬ (N : Int) < (q : Int) + 40 := by omega
          have e40 : wrap64 ((q : Int) + 40) = ((q + 40 : Nat) : Int) := by unfold wrap64; omega
          have hn1 := Lib.hid (show timesG (fL L) (getL L) (0 + 1) p = some (xs ++ [(numL L q 40 : Int)], q + 40) from by
            rw [timesG_step HTw.out]; simp only [if_true]; rw [HfL.out, if_pos c])
          have HTk2 := Lib.hid (fun W => HTk.out q W c)
          rw [HNum.out q c] at HTk2
          have hV : numL L q 40 < 2 ^ 40 := BM.ofBits_lt _ _
          generalize numL L q 40 = V at *
          rw [show wrap64 (V : Int) = (V : Int) by unfold wrap64; omega] at HTk2
          have hs1 : stepAt (xs ++ [(V : Int)]) 0 = 0 := rfl
          clear HNum HTk
          go_wp2_with fail
          refine (HTk2.out _).mono ?_
          rintro e w2 ⟨rfl, hb2⟩
          have ho2 := u_own_below HOr.out hb2
          have hb3 := HBr.out.trans (hb2.mono hsz)
          have hsz2 : w.heap.size + 1 ≤ w2.heap.size := Nat.le_trans hsz hb2.size
          clear hb2 x0 x1 e40
          go_wp2_with (at_builtin; refine wpList_append_own _ rfl _ _ 35 rfl (w.heap.size + 1) 2 i0 (.int .i64 0) 1 8 Try.underlying35 hi hz0 hz1 hz2 rfl (by decide) _ _ _ rfl (ho2.alloc _) ⟨w2.heap.size, 0, none⟩ 1 1 [.int .i64 (V : Int)] rfl rfl ?c1 ?c2 ?c3 ?c4 ?c5 ?_)
          case c1 => exact cell_one_new _ _ _
          case c2 => intro q hq; simp at hq; subst hq; rfl
          case c3 => unfold maxLen; omega
          case c4 => omega
          case c5 => simp; omega
          intro v' w4 hown' hgrow _
          have hb4 := u_below_append hb3 (Nat.le_refl _) hsz2 ho2 hgrow
          have hown5 : w4.ownsRow (w.heap.size + 1) 2 1 v' (0 + 1) (ints (xs ++ [(V : Int)])) := by rw [ints_append]; exact hown'
          clear hown' hgrow
          go_wp2_with fail
          exact ⟨⟨0 + 1, _, q + 40, by omega, rfl, hn1.out, by rw [show ((q + 40 : Nat) : Int) = (q : Int) + 40 by omega], by rw [hs1], hown5, hb4⟩, by simp [intOf]; omega⟩
        · have ci : (N : Int) < (q : Int) + 40 := by omega
          have E := Lib.hid (show timesG (fL L) (getL L) n p = none from by
            have h1 : timesG (fL L) (getL L) 1 p = none := by
              rw [timesG_step HTw.out]; simp only [if_true]; rw [HfL.out, if_neg c]
            exact timesG_none h1 n (by omega))
          go_wp2_with fail
          go_ret3
          rw [E.out]
          exact ⟨rfl, HB0.out.trans (HBr.out.mono (by omega))⟩
      · have hst := hT.step
        have hla := hT.last (by omega)
        have hki : ¬ (k : Int) = 0 := by omega
        have hkb : ((k : Int) == 0) = false := by rw [beq_eq_false_iff_ne]; exact hki
        have hkd : decide ((k : Int) = 0) = false := decide_eq_false hki
        have HRd2 := Lib.hid (fun W => HRd.out q W hqN)
        cases hr : getL L q with
        | none =>
          have E := Lib.hid (show timesG (fL L) (getL L) n p = none from by
            have h1 : timesG (fL L) (getL L) (k + 1) p = none := by
              rw [timesG_step HTw.out]; simp only [if_neg hk0]; rw [hr]
            exact timesG_none h1 n (by omega))
          rw [hr, show readT none = .tuple #[.int .i64 0, .int .i64 0, .bool false] from rfl] at HRd2
          clear hr HRd
          generalize stepAt xs (k - 1) = st at *
          go_wp2_with fail
          refine (HRd2.out _).mono ?_
          rintro e w2 ⟨rfl, hb2⟩
          go_wp2_with fail
          go_ret3
          rw [E.out]
          exact ⟨rfl, HB0.out.trans ((HBr.out.trans (hb2.mono hsz)).mono (by omega))⟩
        | some dq =>
          obtain ⟨d, q2⟩ := dq
          have hd := (rdOk_L L).g q d q2 (by have : L.length = N := HLn.out; omega) hr
          obtain ⟨la, hla1⟩ : ∃ la, xs.getD (k - 1) 0 = la := ⟨_, rfl⟩
          obtain ⟨st, hst1⟩ : ∃ st, stepAt xs (k - 1) = st := ⟨_, rfl⟩
          have hn1 := Lib.hid (show timesG (fL L) (getL L) (k + 1) p = some (xs ++ [la + (st + d)], q2) from by
            rw [timesG_step HTw.out]; simp only [if_neg hk0]; rw [hr, hla1, hst1])
          have hs1 : stepAt (xs ++ [la + (st + d)]) k = st + d := by
            have := stepAt_snoc (ys := xs) (k := k) (d := d) hT.len hk0
            rw [hla1, hst1] at this; exact this
          have HS1 := Lib.hid hs1
          have hlen : xs.length = k := hT.len
          have hget : (ints xs)[k - 1]? = some (.int .i64 la) := by rw [ints_get _ _ (by omega), hla1]
          rw [hla1] at hla
          rw [hst1] at hst ⊢
          rw [hr, show readT (some (d, q2)) = .tuple #[.int .i64 d, .int .i64 (q2 : Int), .bool true] from rfl] at HRd2
          clear hr HRd hs1 hla1 hst1
          have e1 : wrap64 (st + d) = st + d := by unfold wrap64; omega
          have e2 : wrap64 (la + (st + d)) = la + (st + d) := by unfold wrap64; omega
          have e3 : IntKind.i64.wrap ((k : Int) - 1) = (k : Int) - 1 := IntWalk.i64_in _ (by omega)
          have e4 : (0 : Int) ≤ (k : Int) - 1 := by omega
          have e5 : ((k : Int) - 1).toNat = k - 1 := by omega
          have e6 : (k : Int) - 1 < (k : Int) := by omega
          have e7 : (1 : Int) ≤ (k : Int) := by omega
          rcases HOr.out.2 with ⟨_, h0⟩ | ⟨gO, cO, cuO, rfl, hgO, hcO, hnO, _⟩
          · omega
          have hcl : wr.cell? ⟨gO, k - 1, none⟩ = some (.int .i64 la) := by rw [HOr.out.cellAt _ (by omega)]; exact hget
          have hgO2 : gO < wr.heap.size := (Array.getElem?_eq_some_iff.1 hcO).1
          go_wp2_with fail
          refine (HRd2.out _).mono ?_
          rintro e w2 ⟨rfl, hb2⟩
          have hcl2 : w2.cell? ⟨gO, k - 1, none⟩ = some (.int .i64 la) := (hb2.cell (p := ⟨gO, k - 1, none⟩) hgO2).trans hcl
          have ho2 := u_own_below HOr.out hb2
          have hb3 := HBr.out.trans (hb2.mono hsz)
          have hsz2 : w.heap.size + 1 ≤ w2.heap.size := Nat.le_trans hsz hb2.size
          clear hb2 x0 x1 hcl hget
          go_wp2_with (at_builtin; refine wpList_append_own _ rfl _ _ 35 rfl (w.heap.size + 1) 2 i0 (.int .i64 0) 1 8 Try.underlying35 hi hz0 hz1 hz2 rfl (by decide) _ _ _ rfl (ho2.alloc _) ⟨w2.heap.size, 0, none⟩ 1 1 [.int .i64 (la + (st + d))] rfl rfl ?c1 ?c2 ?c3 ?c4 ?c5 ?_)
          case c1 => exact cell_one_new _ _ _
          case c2 => intro q hq; simp at hq; subst hq; rfl
          case c3 => unfold maxLen; omega
          case c4 => omega
          case c5 => simp; omega
          intro v' w4 hown' hgrow _
          have hb4 := u_below_append hb3 (Nat.le_refl _) hsz2 ho2 hgrow
          have hown5 : w4.ownsRow (w.heap.size + 1) 2 1 v' (k + 1) (ints (xs ++ [la + (st + d)])) := by rw [ints_append]; exact hown'
          clear hown' hgrow hcl2
          go_wp2_with fail
          go_roundw
          case rel => exact ⟨k + 1, _, _, by omega, by go_num, hn1.out, rfl, by rw [show k + 1 - 1 = k from rfl, HS1.out], hown5, hb4⟩
          case measure => simp [intOf]; omega
    · obtain rfl : k = n := by omega
      have HI := Lib.hid (IL.of_own HOr.out hT.len.symm hT.rng (by have := hT.len; omega))
      have HOk := Lib.hid (HT.out _ xs wr HI.out)
      generalize stepAt xs (k - 1) = st
      go_wp2_with fail
      refine HOk.out.mono ?_
      rintro e w5 ⟨rfl, hb5⟩
      have ho5 := u_own_below HOr.out hb5
      go_wp2_with fail
      go_ret3
      rw [HTw.out]
      exact ⟨⟨_, rfl, by rw [hT.len]; exact u_ownsRow_base ho5 (by omega)⟩, (HB0.out.trans (HBr.out.mono (by omega))).trans (hb5.mono (by omega))⟩
end Go.Proofs.Ytbgogpfhdfgjeaa

/- Walks: the document's ReadTimes; the law FnExactReadTimes. -/
set_option linter.unusedVariables false
set_option linter.unusedSimpArgs false
namespace Go.Proofs.Ytbgogpfhdfgjeaa
open Go.RowKit

/-- a list, the place behind it, and whether it is there -/
def TOut (xs : List Int) (q : Int) (b : Bool) (w : World) (e : Ending) (w' : World) : Prop :=
  ∃ v, e = .returned (.tuple #[v, .int .i64 q, .bool b]) ∧ w'.ownsRow w.heap.size 2 1 v xs.length (ints xs) ∧ Below w.heap.size w w'
def rtX (r : Option (List Int × Nat)) : List Int := match r with | some (xs, _) => xs | none => []
def rtQ (r : Option (List Int × Nat)) : Int := match r with | some (_, q) => (q : Int) | none => 0
def rtB (r : Option (List Int × Nat)) : Bool := match r with | some _ => true | none => false
theorem TOut.of_read {r : Option (List Int × Nat)} {w : World} {e : Ending} {w' : World} (h : ReadOut r w e w' ∧ Below w.heap.size w w') : TOut (rtX r) (rtQ r) (rtB r) w e w' := by
  obtain ⟨h, hb⟩ := h
  cases r with
  | none => exact ⟨_, h, World.ownsRow_nil _ _ _ _, hb⟩
  | some xq =>
    obtain ⟨xs, q⟩ := xq
    obtain ⟨v, h1, h2, _⟩ := h
    exact ⟨v, h1, h2, hb⟩
theorem rt_ok (s : ByteArray) (N a n : Int) : (∀ j, Rng ((rtX (readTs s N a n)).getD j 0)) ∧ (rtX (readTs s N a n)).length ≤ 120 := by
  unfold readTs
  split
  · rename_i h
    obtain ⟨⟨h0, h1⟩, hb⟩ := h
    unfold hasB at hb
    rw [Bool.and_eq_true, decide_eq_true_iff] at hb
    unfold timesB timesFin
    cases ht : timesG (fL (BM.listOf s.data.toList N.toNat)) (getL (BM.listOf s.data.toList N.toNat)) n.toNat a.toNat with
    | none => exact ⟨fun j => by simpa [rtX] using rng_zero, by simp [rtX]⟩
    | some xq =>
      obtain ⟨xs, q⟩ := xq
      have T := timesG_ok (rdOk_L (BM.listOf s.data.toList N.toNat)) (p := a.toNat) (by rw [BM.listOf_length]; omega) n.toNat xs q (by omega) ht
      simp only
      split
      · exact ⟨T.rng, by have := T.len; simp only [rtX]; omega⟩
      · exact ⟨fun j => by simpa [rtX] using rng_zero, by simp [rtX]⟩
  · exact ⟨fun j => by simpa [rtX] using rng_zero, by simp [rtX]⟩

set_option maxRecDepth 100000 in
set_option maxHeartbeats 2000000 in
theorem specReadTimes_any (s : ByteArray) (N a n : Int) (w : World) (hs : s.size ≤ maxLen) :
    Calls Try.prog 23 #[.agg #[.string s, .int .i64 N], .int .i64 a, .int .i64 n] w (TOut (rtX (readTs s N a n)) (rtQ (readTs s N a n)) (rtB (readTs s N a n)) w) := by
  have hok := fun W => specBitsOk_any s N W hs
  have HA := Lib.hid ((Below.refl w.heap.size w).alloc (Nat.le_refl _) (.cells #[.string s, .int .i64 N] 26))
  cases h : okB s N with
  | false =>
    have hV : readTs s N a n = none := by unfold readTs hasB; rw [h]; simp
    rw [hV]
    rw [h] at hok
    have Hok := Lib.hid hok
    clear hok h hV
    go_enter Try.func23, Try.ntmps23
    go_wp2_with fail
    refine (Hok.out _).mono ?_
    rintro e w1 ⟨rfl, hb1⟩
    have hf := HA.out.trans (hb1.mono (by simp))
    clear hb1
    go_wp2_with fail
    go_ret3
    exact ⟨_, rfl, World.ownsRow_nil _ _ _ _, hf⟩
  | true =>
    rw [h] at hok
    have Hok := Lib.hid hok
    clear hok
    by_cases hin : 0 ≤ a ∧ a ≤ N
    · have hI := Lib.hid (fun W => l1In_any a 0 N W)
      rw [inB_true hin.1 hin.2] at hI
      by_cases hnn : 0 ≤ n ∧ n ≤ 120
      · have hJ := Lib.hid (fun W => l1In_any n 0 120 W)
        rw [inB_true hnn.1 hnn.2] at hJ
        obtain ⟨f0, f1, f2, f3⟩ := okB_facts h
        obtain ⟨N, rfl⟩ : ∃ m : Nat, N = (m : Int) := ⟨N.toNat, by omega⟩
        obtain ⟨p, rfl⟩ : ∃ p : Nat, a = (p : Int) := ⟨a.toNat, by omega⟩
        obtain ⟨n, rfl⟩ : ∃ k : Nat, n = (k : Int) := ⟨n.toNat, by omega⟩
        have hV : readTs s (N : Int) (p : Int) (n : Int) = timesB (BM.listOf s.data.toList N) n p := by
          unfold readTs hasB
          rw [h, if_pos ⟨hnn, by rw [Bool.true_and, decide_eq_true_iff]; omega⟩, Int.toNat_natCast, Int.toNat_natCast, Int.toNat_natCast]
        have H3 := Lib.hid (fun W => l3Back_any s N p n W hs (by omega) (by omega) (by omega) (by omega) _ rfl)
        rw [hV]
        unfold timesB
        clear hV h f0 f1 f2 f3 hin hnn
        generalize timesG (fL (BM.listOf s.data.toList N)) (getL (BM.listOf s.data.toList N)) n p = r at *
        go_enter Try.func23, Try.ntmps23
        go_wp2_with fail
        refine (Hok.out _).mono ?_
        rintro e w1 ⟨rfl, hb1⟩
        obtain ⟨x0, x1, hgg⟩ := kept2' hb1 (g := w.heap.size) (s := s) (n := (N : Int)) (by simp) (by go_simp) (by go_simp)
        have HF := Lib.hid (HA.out.trans (hb1.mono (by simp)))
        clear hb1
        go_wp2_with fail
        refine (hI.out _).mono ?_
        rintro e w2 ⟨rfl, rfl⟩
        go_wp2_with fail
        refine (hJ.out _).mono ?_
        rintro e w2 ⟨rfl, rfl⟩
        go_wp2_with fail
        refine (H3.out _).mono ?_
        rintro e w3 ⟨ho, hb3⟩
        have HF3 := Lib.hid (HF.out.trans (hb3.mono HF.out.size))
        have hszF := HF.out.size
        clear hb3 x0 x1
        cases r with
        | none =>
          unfold BackOut at ho
          subst ho
          go_wp2_with fail
          go_ret3
          exact ⟨_, rfl, World.ownsRow_nil _ _ _ _, HF3.out⟩
        | some xq =>
          obtain ⟨xs, q⟩ := xq
          obtain ⟨v, rfl, hown⟩ := ho
          cases hb : timesOkB xs with
          | true =>
            have hfin : timesFin (some (xs, q)) = some (xs, q) := by unfold timesFin; simp only; rw [if_pos hb]
            have HFin := Lib.hid hfin
            clear hfin
            go_wp2_with fail
            go_ret3
            rw [HFin.out]
            exact ⟨v, rfl, u_ownsRow_base hown hszF, HF3.out⟩
          | false =>
            have hfin : timesFin (some (xs, q)) = none := by unfold timesFin; simp only; rw [if_neg (by simp [hb])]
            have HFin := Lib.hid hfin
            clear hfin
            go_wp2_with fail
            go_ret3
            rw [HFin.out]
            exact ⟨_, rfl, World.ownsRow_nil _ _ _ _, HF3.out⟩
      · have hV : readTs s N a n = none := by unfold readTs; rw [if_neg (fun h => hnn h.1)]
        rw [hV]
        have hJ := Lib.hid (fun W => l1In_any n 0 120 W)
        rw [inB_false hnn] at hJ
        go_enter Try.func23, Try.ntmps23
        go_wp2_with fail
        refine (Hok.out _).mono ?_
        rintro e w1 ⟨rfl, hb1⟩
        obtain ⟨x0, x1, hgg⟩ := kept2' hb1 (g := w.heap.size) (s := s) (n := N) (by simp) (by go_simp) (by go_simp)
        have HF := Lib.hid (HA.out.trans (hb1.mono (by simp)))
        clear hb1
        go_wp2_with fail
        refine (hI.out _).mono ?_
        rintro e w2 ⟨rfl, rfl⟩
        go_wp2_with fail
        refine (hJ.out _).mono ?_
        rintro e w2 ⟨rfl, rfl⟩
        go_wp2_with fail
        go_ret3
        exact ⟨_, rfl, World.ownsRow_nil _ _ _ _, HF.out⟩
    · have hV : readTs s N a n = none := by
        unfold readTs hasB
        rw [h, if_neg (fun hh => by rw [Bool.true_and, decide_eq_true_iff] at hh; omega)]
      rw [hV]
      have hI := Lib.hid (fun W => l1In_any a 0 N W)
      rw [inB_false hin] at hI
      go_enter Try.func23, Try.ntmps23
      go_wp2_with fail
      refine (Hok.out _).mono ?_
      rintro e w1 ⟨rfl, hb1⟩
      obtain ⟨x0, x1, hgg⟩ := kept2' hb1 (g := w.heap.size) (s := s) (n := N) (by simp) (by go_simp) (by go_simp)
      have HF := Lib.hid (HA.out.trans (hb1.mono (by simp)))
      clear hb1
      go_wp2_with fail
      refine (hI.out _).mono ?_
      rintro e w2 ⟨rfl, rfl⟩
      go_wp2_with fail
      go_ret3
      exact ⟨_, rfl, World.ownsRow_nil _ _ _ _, HF.out⟩
theorem st_marks_rng (n : Nat) (h : n ≤ 1048576) (j : Nat) : Rng ((marks 1 n).getD j 0) := by
  by_cases hj : j < n
  · rw [marks_getD _ _ _ hj]; unfold Rng; omega
  · rw [List.getD_eq_getElem?_getD, List.getElem?_eq_none (by rw [marks_length]; omega)]; exact rng_zero
theorem implReadTimes_t (s : ByteArray) (N a n : Int) (w : World) (hs : s.size ≤ maxLen) :
    Calls Try.prog 22 #[.agg #[.string s, .int .i64 N], .int .i64 a, .int .i64 n] w (TOut (rtX (readTs s N a n)) (rtQ (readTs s N a n)) (rtB (readTs s N a n)) w) :=
  (implReadTimes_any s N a n w hs).mono fun _ _ h => TOut.of_read h
theorem kept_at {B : Nat} {w w' : World} {g : Nat} {s : ByteArray} {N : Int} (hb : Below B w w') (hg : g < B) (h : w.cell? ⟨g, 0, none⟩ = some (.string s) ∧ w.cell? ⟨g, 1, none⟩ = some (.int .i64 N)) :
    w'.cell? ⟨g, 0, none⟩ = some (.string s) ∧ w'.cell? ⟨g, 1, none⟩ = some (.int .i64 N) :=
  ⟨(hb.cell (p := ⟨g, 0, none⟩) hg).trans h.1, (hb.cell (p := ⟨g, 1, none⟩) hg).trans h.2⟩

set_option maxRecDepth 100000 in
set_option maxHeartbeats 2000000 in
theorem walkFnExactReadTimes (s : ByteArray) (N a n : Int) (w : World) (hs : s.size ≤ maxLen) (_wn : (Lit.int .i64 N).wf = true) (_wa : (Lit.int .i64 a).wf = true) (_wb : (Lit.int .i64 n).wf = true) :
    Calls Try.prog 7 #[.agg #[.string s, .int .i64 N], .int .i64 a, .int .i64 n] w fun e w' => e = .returned (.bool true) ∧ Below w.heap.size w w' := by
  by_cases hbig : (1048576 : Int) < s.size
  · have hsz := fun W => szBits_any s N 1048576 W (by omega) (by omega) hs
    rw [if_pos hbig] at hsz
    have Hsz := Lib.hid hsz
    clear hsz
    go_enter Try.func7, Try.ntmps7
    go_wp2_with fail
    refine (Hsz.out _).mono ?_
    rintro e w1 ⟨rfl, hb1⟩
    go_wp2_with fail
    go_ret
    exact ⟨rfl, ((Below.refl w.heap.size w).alloc (Nat.le_refl _) _).trans (hb1.mono (by simp))⟩
  · have hsz := fun W => szBits_any s N 1048576 W (by omega) (by omega) hs
    rw [if_neg hbig] at hsz
    have Hsz := Lib.hid hsz
    clear hsz
    have hA : (0 : Int) ≤ 1048576 - s.size := by omega
    have hA2 : decide ((1048576 : Int) - s.size < 0) = false := by simp; omega
    obtain ⟨hrng0, hlen⟩ := rt_ok s N a n
    have hrng := Lib.hid hrng0
    have h1 := Lib.hid (fun W => specReadTimes_any s N a n W hs)
    have h2 := Lib.hid (fun W => implReadTimes_t s N a n W hs)
    clear hrng0
    unfold TOut at h1 h2
    generalize rtX (readTs s N a n) = xs at *
    generalize rtQ (readTs s N a n) = q at *
    generalize rtB (readTs s N a n) = b at *
    have heq := Lib.hid (fun v u W h h' => eqInt64S_any v u xs xs W h h')
    rw [decide_eq_true rfl] at heq
    have hmk := Lib.hid (fun base v W h => markInt64S_any base v xs W (by omega) h)
    have hhd := Lib.hid (fun v W h => heldInt64S_any v xs.length W h)
    have hmr := Lib.hid (st_marks_rng xs.length (by omega))
    go_enter Try.func7, Try.ntmps7
    go_wp2_with fail
    refine (Hsz.out _).mono ?_
    rintro e w1 ⟨rfl, hb1⟩
    obtain ⟨x0, x1, hg⟩ := kept2' hb1 (g := w.heap.size) (s := s) (n := N) (by simp) (by go_simp) (by go_simp)
    have hf := ((Below.refl w.heap.size w).alloc (Nat.le_refl _) (.cells #[.string s, .int .i64 N] 52)).trans (hb1.mono (by simp))
    clear hb1
    go_wp2_with fail
    refine (toBits_any s N _).mono ?_
    rintro e w2 ⟨rfl, hb2⟩
    obtain ⟨y0, y1, hg2⟩ := kept2' hb2 hg x0 x1
    have hf2 := hf.trans (hb2.mono (by omega))
    clear hb2 hf x0 x1 hg
    go_wp2_with fail
    refine (h1.out _).mono ?_
    rintro e w3 ⟨v1, rfl, hown1, hb3⟩
    obtain ⟨x0, x1, hg⟩ := kept2' hb3 hg2 y0 y1
    have hf := hf2.trans (hb3.mono (by omega))
    have I1 := Lib.hid (IL.of_own hown1 rfl hrng.out (by omega))
    clear hb3 hf2 y0 y1 hg2 hown1
    go_wp2_with fail
    refine (toBits_any s N _).mono ?_
    rintro e w4 ⟨rfl, hb2⟩
    obtain ⟨y0, y1, hg2⟩ := kept2' hb2 hg x0 x1
    have hf2 := hf.trans (hb2.mono (by omega))
    have I2 := Lib.hid ((I1.out.below hb2).up hb2.size)
    clear hb2 hf x0 x1 hg I1
    go_wp2_with fail
    refine (h2.out _).mono ?_
    rintro e w5 ⟨v2, rfl, hown2, hb3⟩
    obtain ⟨x0, x1, hg⟩ := kept2' hb3 hg2 y0 y1
    have hf := hf2.trans (hb3.mono (by omega))
    have I3 := Lib.hid (I2.out.below hb3)
    have S3 := hb3.size
    have O2 := Lib.hid hown2
    have J2 := Lib.hid (IL.of_own hown2 rfl hrng.out (by omega))
    clear hb3 hf2 y0 y1 hown2 I2
    go_wp2_with fail
    refine (heq.out _ _ _ J2.out (I3.out.up S3)).mono ?_
    rintro e w6 ⟨rfl, hb6⟩
    obtain ⟨y0, y1, hg6⟩ := kept2' hb6 hg x0 x1
    have hf6 := hf.trans (hb6.mono (by omega))
    have O3 := Lib.hid (u_own_below O2.out hb6)
    have I6 := Lib.hid (I3.out.below (hb6.mono S3))
    have S6 := hb6.size
    clear hb6 hf x0 x1 hg J2 I3 O2
    go_wp2_with fail
    refine (hmk.out _ _ _ O3.out).mono ?_
    rintro e w7 ⟨rfl, hown7, hb7, hg7⟩
    obtain ⟨x0, x1⟩ := kept_at hb7 hg2 ⟨y0, y1⟩
    have hf := hf6.trans (hb7.mono (by omega))
    have I7 := Lib.hid (IL.of_own hown7 (marks_length _ _).symm hmr.out (by rw [marks_length]; omega))
    have J7 := Lib.hid (I6.out.below hb7)
    have S7 := hg7.size
    have hg : w.heap.size < w7.heap.size := by omega
    clear hown7 hb7 hg7 O3 I6 hf6 y0 y1
    go_wp2_with fail
    refine (hhd.out _ _ I7.out).mono ?_
    rintro e w8 ⟨rfl, rfl⟩
    go_wp2_with fail
    refine (toBits_any s N _).mono ?_
    rintro e w8 ⟨rfl, hb8⟩
    have hf8 := hf.trans (hb8.mono (by omega))
    have I8 := Lib.hid ((I7.out.below hb8).up hb8.size)
    have J8 := Lib.hid (J7.out.below (hb8.mono (by omega)))
    have S8 := hb8.size
    clear hb8 hf x0 x1 I7 J7
    go_wp2_with fail
    refine (h2.out _).mono ?_
    rintro e w9 ⟨v9, rfl, hown9, hb9⟩
    have hf := hf8.trans (hb9.mono (by omega))
    have I9 := Lib.hid (IL.of_own hown9 rfl hrng.out (by omega))
    have J9 := Lib.hid (J8.out.below (hb9.mono (by omega)))
    have K9 := Lib.hid ((I8.out.below hb9).up hb9.size)
    have S9 := hb9.size
    clear hb9 hf8 hown9 I8 J8
    go_wp2_with fail
    refine (heq.out _ _ _ I9.out (J9.out.up (by omega))).mono ?_
    rintro e w10 ⟨rfl, hb10⟩
    have hf10 := hf.trans (hb10.mono (by omega))
    have K10 := Lib.hid ((K9.out.below hb10).up hb10.size)
    clear hb10 hf I9 J9 K9
    go_wp2_with fail
    refine (hhd.out _ _ K10.out).mono ?_
    rintro e w11 ⟨rfl, rfl⟩
    go_wp2_with fail
    go_ret
    exact ⟨rfl, hf10⟩
end Go.Proofs.Ytbgogpfhdfgjeaa
