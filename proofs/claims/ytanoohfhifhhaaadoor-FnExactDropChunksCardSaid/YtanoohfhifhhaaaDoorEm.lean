/- Walks: chunks: plain facts; the model's Chunks. -/
import Derived.Deep.DeepCutAuto
import Derived.Test.YtanoohfhifhhaaaDoorEi
import Derived.Test.YtanoohfhifhhaaaDoorGd
set_option linter.unusedVariables false
set_option linter.unusedSimpArgs false
namespace Go.Proofs.YtanoohfhifhhaaaDoor
open Go.RowKit

/-- the points from place i on, at most s -/
def chk (xs : List (Int × Int)) (s i : Nat) : List (Int × Int) := (xs.drop i).take s
def bkOf (p : List (Int × Int)) : Int × ByteArray := (bkN p, bkD p)
/-- the first k chunks -/
def chkT (xs : List (Int × Int)) (s k : Nat) : List (Int × ByteArray) := (List.range k).map fun i => bkOf (chk xs s (i * s))
/-- how many chunks there are -/
def nCh (n s : Nat) : Nat := (n + s - 1) / s
def chsB (xs : List (Int × Int)) (z : Int) : Bool := ptsOkB xs && vIn z 1 120
def chsM (xs : List (Int × Int)) (z : Int) : List (Int × ByteArray) := if chsB xs z = true then chkT xs z.toNat (nCh xs.length z.toNat) else []
theorem chkT_succ (xs : List (Int × Int)) (s k : Nat) : chkT xs s (k + 1) = chkT xs s k ++ [bkOf (chk xs s (k * s))] := by
  unfold chkT; rw [List.range_succ, List.map_append]; rfl
theorem chkT_len (xs : List (Int × Int)) (s k : Nat) : (chkT xs s k).length = k := by simp [chkT]
theorem chk_len (xs : List (Int × Int)) (s i : Nat) : (chk xs s i).length = min s (xs.length - i) := by simp [chk]
theorem chk_get (xs : List (Int × Int)) (s i j : Nat) (hj : j < (chk xs s i).length) : (chk xs s i).getD j (0, 0) = xs.getD (i + j) (0, 0) := by
  rw [chk_len] at hj
  simp only [chk, List.getD_eq_getElem?_getD]
  rw [List.getElem?_take, if_pos (by omega), List.getElem?_drop]
/-- a place is within the points exactly if its chunk is one -/
theorem nCh_lt {n s k : Nat} (hs : 1 ≤ s) : k * s < n ↔ k < nCh n s := by
  unfold nCh
  rw [Nat.lt_div_iff_mul_lt hs]
  omega
theorem nCh_le {n s : Nat} (hs : 1 ≤ s) : nCh n s ≤ n := by
  have := @nCh_lt n s n hs
  have h2 : n ≤ n * s := Nat.le_mul_of_pos_right n hs
  omega
/-- a part of a slice of points -/
theorem PL.part {w : World} {B : Nat} {A : Option Addr} {c : Nat} {xs : List (Int × Int)} (h : PL w B (.slice A xs.length c) xs) (s i m c' : Nat) (hi : i < xs.length) (hm : m = min s (xs.length - i)) (A' : Option Addr) (hA : ∀ b off, A = some ⟨b, off, none⟩ → A' = some ⟨b, off + i * 2, none⟩) : PL w B (.slice A' m c') (chk xs s i) := by
  obtain ⟨hr, hl, A0, c0, he, h3⟩ := h
  injection he with e1 e2 e3
  subst e1
  have hlen := chk_len xs s i
  refine ⟨fun j => ?_, by omega, A', c', by rw [hlen, hm], ?_⟩
  · by_cases hj : j < (chk xs s i).length
    · rw [chk_get xs s i j hj]; exact hr _
    · rw [List.getD_eq_getElem?_getD, List.getElem?_eq_none (by omega)]; exact ⟨rng_zero, rng_zero⟩
  · rcases h3 with h3 | ⟨b, off, hA1, hb, hc⟩
    · subst h3; simp at hi
    · refine .inr ⟨b, off + i * 2, hA b off hA1, hb, fun j hj => ?_⟩
      rw [chk_get xs s i j hj]
      have := hc (i + j) (by omega)
      rw [show off + i * 2 + j * 2 = off + (i + j) * 2 by omega]
      exact this
theorem two_cellsB {w : World} {b : Nat} {x y : Value} (h0 : w.cell? ⟨b, 0, none⟩ = some x) (h1 : w.cell? ⟨b, 1, none⟩ = some y) : ∀ (j : Nat) (u : Value), [x, y][j]? = some u → w.cell? ((⟨b, 0, none⟩ : Addr).add j) = some u := by
  intro j u hj
  match j with
  | 0 => simp at hj; subst hj; exact h0
  | 1 => simp at hj; subst hj; exact h1
  | j + 2 => simp at hj
/-- a slice whose room is no less than its length -/
def CapOk (v : Value) : Prop := ∃ A n c, v = .slice A n c ∧ n ≤ c ∧ c ≤ maxLen
theorem CapOk.at_ {A : Option Addr} {n c : Nat} (h : CapOk (.slice A n c)) : n ≤ c ∧ c ≤ maxLen := by
  obtain ⟨A', n', c', he, h1, h2⟩ := h
  injection he with e1 e2 e3
  subst e2; subst e3
  exact ⟨h1, h2⟩
theorem CapOk.of_own {w : World} {base : Nat} {e : TypeId} {size : Nat} {v : Value} {n : Nat} {xs : List Value} (h : w.ownsRow base e size v n xs) : CapOk v := by
  rcases h.2 with ⟨rfl, h0⟩ | ⟨g, cap, cur, rfl, _, _, hc, hm, _⟩
  · exact ⟨none, 0, 0, rfl, Nat.le_refl _, Nat.zero_le _⟩
  · exact ⟨_, n, cap, rfl, hc, hm⟩
def BOutF (base : Nat) (xs : List (Int × ByteArray)) (b : Bool) (w : World) (e : Ending) (w' : World) : Prop :=
  ∃ v, e = .returned (.tuple #[v, .bool b]) ∧ w'.ownsRow base 36 2 v xs.length (bks xs) ∧ Below w.heap.size w w'

set_option maxRecDepth 100000 in
set_option maxHeartbeats 4000000 in
theorem specChunks_any (v : Value) (xs : List (Int × Int)) (z : Int) (w : World) (h : PL w w.heap.size v xs) (hcap : CapOk v) :
    Calls Tryd.prog 16 #[v, .int .i64 z] w (BOutF w.heap.size (chsM xs z) (chsB xs z) w) := by
  have HP := Lib.hid h
  have hOk := Lib.hid (fun W h => specPointsOk_any v xs W h)
  have hIn := Lib.hid (fun W => v_l1In_any z 1 120 W)
  have hBk := Lib.hid (fun v p W h => specBlockOf_any v p W h)
  unfold BoolPost at hOk
  unfold BlkPost at hBk
  obtain ⟨i0, hi, hz0, hz1, hz2⟩ := info_parts info_bk
  have hln := h.2.1
  obtain ⟨_, _, A, c, rfl, h3⟩ := h
  obtain ⟨hc1, hc2⟩ := hcap.at_
  unfold maxLen at hc2
  have hlen := Lib.hid (fun h => ptsOk_len (xs := xs) h)
  cases hp : ptsOkB xs with
  | false =>
    have E1 := Lib.hid (show chsB xs z = false by unfold chsB; rw [hp]; rfl)
    have E2 := Lib.hid (show chsM xs z = [] by unfold chsM; rw [E1.out]; rfl)
    rw [hp] at hOk
    clear hp
    go_enter Tryd.func16, Tryd.ntmps16
    go_wp2_with fail
    refine (hOk.out _ HP.out).mono ?_
    rintro e w1 ⟨rfl, hb1⟩
    go_wp2_with fail
    go_ret2
    rw [E1.out, E2.out]
    exact ⟨_, rfl, World.ownsRow_nil _ _ _ _, hb1⟩
  | true =>
    have hl := hlen.out hp
    rw [hp] at hOk
    cases hv : vIn z 1 120 with
    | false =>
      have E1 := Lib.hid (show chsB xs z = false by unfold chsB; rw [hp, hv]; rfl)
      have E2 := Lib.hid (show chsM xs z = [] by unfold chsM; rw [E1.out]; rfl)
      rw [hv] at hIn
      clear hp hv
      go_enter Tryd.func16, Tryd.ntmps16
      go_wp2_with fail
      refine (hOk.out _ HP.out).mono ?_
      rintro e w1 ⟨rfl, hb1⟩
      go_wp2_with fail
      refine (hIn.out _).mono ?_
      rintro e w2 ⟨rfl, rfl⟩
      go_wp2_with fail
      go_ret2
      rw [E1.out, E2.out]
      exact ⟨_, rfl, World.ownsRow_nil _ _ _ _, hb1⟩
    | true =>
      have E1 := Lib.hid (show chsB xs z = true by unfold chsB; rw [hp, hv]; rfl)
      rw [hv] at hIn
      have hz : 1 ≤ z ∧ z ≤ 120 := by unfold vIn at hv; simpa using hv
      obtain ⟨s, rfl⟩ : ∃ s : Nat, z = (s : Int) := ⟨z.toNat, by omega⟩
      have hs1 : 1 ≤ s := by omega
      have hs2 : s ≤ 120 := by omega
      have E2 := Lib.hid (show chsM xs (s : Int) = chkT xs s (nCh xs.length s) by unfold chsM; rw [E1.out]; rfl)
      have HLT := Lib.hid (fun k => @nCh_lt xs.length s k hs1)
      have hnl := nCh_le (n := xs.length) hs1
      obtain ⟨m, hm⟩ : ∃ m, nCh xs.length s = m := ⟨_, rfl⟩
      rw [hm] at E2 HLT hnl
      clear hp hv hz hm
      go_enter Tryd.func16, Tryd.ntmps16
      go_wp2_with fail
      refine (hOk.out _ HP.out).mono ?_
      rintro e w1 ⟨rfl, hb1⟩
      have B1 := Lib.hid hb1
      clear hb1
      go_wp2_with fail
      refine (hIn.out _).mono ?_
      rintro e w2 ⟨rfl, rfl⟩
      go_wp2_with fail
      have B2 := Lib.hid (show Below w.heap.size w (w1.alloc (.cells #[] 36)) from B1.out.alloc B1.out.size _)
      have O2 : Hid ((w1.alloc (.cells #[] 36)).ownsRow w.heap.size 36 2 (.slice (some ⟨w1.heap.size, 0, none⟩) 0 0) 0 (bks [])) := Lib.hid (by
        have h9 := World.ownsRow_made w1 (base := w.heap.size) (e := 36) (size := 2) #[] 0 B1.out.size (by simp [maxLen]) rfl
        simpa [bks] using h9)
      go_loopw [6, 7] (fun u i wr => ∃ (k : Nat), i = .int .i64 ((k * s : Nat) : Int) ∧ k ≤ m ∧ wr.ownsRow w.heap.size 36 2 u (chkT xs s k).length (bks (chkT xs s k)) ∧ Below w.heap.size w wr)
        (fun _ i _ => xs.length + 120 - (intOf i).toNat)
      case atStart => exact ⟨0, by simp, Nat.zero_le _, O2.out, B2.out⟩
      case round =>
        clear O2 B2
        obtain ⟨k, rfl, hk, hown, hb⟩ := hrel
        have HO := Lib.hid hown
        have HB := Lib.hid hb
        have hsz := hb.size
        have hlk := chkT_len xs s k
        have HSU := Lib.hid (chkT_succ xs s k)
        have hlt := HLT.out k
        have HM := Lib.hid (show (k + 1) * s = k * s + s from Nat.succ_mul k s)
        clear hown hb
        by_cases hlt2 : k < m
        · have hi' := hlt.2 hlt2
          obtain ⟨i, hI⟩ : ∃ i, k * s = i := ⟨_, rfl⟩
          rw [hI] at hi' HSU HM ⊢
          have hiI : (i : Int) < (xs.length : Int) := by omega
          have e0 : IntKind.i64.wrap ((i : Int) + s) = (i : Int) + s := IntWalk.i64_in _ (by omega)
          have hci : ¬ c = i := by omega
          have hdc : min ((i : Int) + s) (xs.length : Int) ≤ (c : Int) := by omega
          have hdi : (i : Int) ≤ min ((i : Int) + s) (xs.length : Int) := by omega
          have HPT := Lib.hid (show ∀ (q : Nat) (c' : Nat), q = min s (xs.length - i) → PL wr wr.heap.size (.slice (Option.map (fun x => x.add (i * 2)) A) q c') (chk xs s i) from fun q c' hq =>
            ((HP.out.part s i q c' hi' hq _ (fun b off hA => by rw [hA]; simp [Addr.add])).below HB.out).up hsz)
          have HD := Lib.hid (show ((min ((i : Int) + s) (xs.length : Int)).toNat - i) = min s (xs.length - i) by omega)
          obtain ⟨p, hp⟩ : ∃ p, p = chk xs s i := ⟨_, rfl⟩
          rw [← hp] at HPT HSU
          have hpl : HSU = HSU := rfl
          clear hlt
          go_wp2_with fail
          refine (hBk.out _ p _ (HPT.out _ _ HD.out)).mono ?_
          rintro e w2 ⟨rfl, hb2⟩
          have ho2 := u_own_below HO.out hb2
          have HB2 := Lib.hid (HB.out.trans (hb2.mono hsz))
          have hs2' := HB2.out.size
          have hbn : bkOf p = (bkN p, bkD p) := rfl
          rw [hbn] at HSU
          obtain ⟨x, hx⟩ : ∃ x, bkN p = x := ⟨_, rfl⟩
          obtain ⟨y, hy⟩ : ∃ y, bkD p = y := ⟨_, rfl⟩
          rw [hx, hy] at HSU ⊢
          generalize bkB p = fbk
          obtain ⟨w3, hw3⟩ : ∃ w3, w2.alloc (.cells #[.int .i64 x, .string y] 36) = w3 := ⟨_, rfl⟩
          have hb3 : Below w2.heap.size w2 w3 := by rw [← hw3]; exact below1 w2 _
          have KB3 : KB w3 w2.heap.size x y := by rw [← hw3]; exact KB.new w2 x y
          have HO3 := Lib.hid (u_own_below ho2 hb3)
          have HB3 := Lib.hid (HB2.out.trans (hb3.mono hs2'))
          have q0 := KB3.c0
          have q1 := KB3.c1
          have q2 : w2.heap.size < w3.heap.size := by rw [← hw3]; simp
          have HW3 := Lib.hid hw3
          clear hw3 hb3 KB3 ho2 hb2 hp hx hy hpl HO HB HB2 hbn
          go_upto_region 8 with fail
          rw [HW3.out]
          clear HW3
          go_wp2_with (at_builtin; refine wpList_append_own _ rfl _ _ 27 rfl w.heap.size 36 i0 (.agg #[.int .i64 0, .string emB]) 2 24 Tryd.underlying27 hi hz0 hz1 hz2 rfl (by decide) _ _ _ rfl (HO3.out.alloc _) ⟨w3.heap.size, 0, none⟩ 1 1 [.int .i64 x, .string y] rfl rfl (two_cellsB (by go_simp) (by go_simp)) ?c2 ?c3 ?c4 ?c5 ?_)
          case c2 => intro u hu; simp at hu; rcases hu with rfl | rfl <;> rfl
          case c3 => unfold maxLen; omega
          case c4 => omega
          case c5 => have := HB3.out.size; simp; omega
          intro v' w4 hown' hgrow _
          have hb4 : Below w.heap.size w3 w4 := by
            have h1 : Below w.heap.size w3 (w3.alloc (.cells #[.int .i64 x, .string y] 36)) := (Below.refl _ w3).alloc HB3.out.size _
            exact h1.grown hgrow (by simp; have := HB3.out.size; omega) (fun q hq => (HO3.out.lt q hq).1)
          have HB4 := Lib.hid (HB3.out.trans hb4)
          have HO4 := Lib.hid (show w4.ownsRow w.heap.size 36 2 v' (chkT xs s (k + 1)).length (bks (chkT xs s (k + 1))) by rw [HSU.out, bks_append, List.length_append, hlk]; exact hown')
          have e9 : IntKind.i64.wrap ((i : Int) + s) = ((i + s : Nat) : Int) := by rw [e0]; omega
          clear hown' hgrow hb4 HO3 HB3
          go_wp2_with fail
          go_roundw
          case rel => exact ⟨k + 1, by rw [HM.out]; go_num, by omega, HO4.out, HB4.out⟩
          case measure => simp [intOf]; omega
        · obtain rfl : k = m := by omega
          have hge : ¬ ((k * s : Nat) : Int) < (xs.length : Int) := by omega
          generalize k * s = i at *
          go_wp2_with fail
          go_ret2
          rw [E1.out, E2.out]
          exact ⟨_, rfl, HO.out, HB.out⟩
end Go.Proofs.YtanoohfhifhhaaaDoor
