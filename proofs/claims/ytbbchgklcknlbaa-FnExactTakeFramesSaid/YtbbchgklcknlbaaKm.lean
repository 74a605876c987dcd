/- Walks: slices of strings: equal, marked, held. -/
import Derived.Deep.RegionHeld3
import Derived.Test.YtbbchgklcknlbaaKl
set_option linter.unusedVariables false
set_option linter.unusedSimpArgs false
namespace Go.Proofs.Ytbbchgklcknlbaa
open Go.RowKit

def mkS (K : Nat) : ByteArray := (⟨#[109]⟩ : ByteArray) ++ ⟨(Lib.decDigits K).toArray⟩
set_option maxRecDepth 100000 in
set_option maxHeartbeats 2000000 in
theorem markText_any (K : Nat) (w : World) (h1 : 1 ≤ K) (h2 : K < 10 ^ 13) :
    Calls Try.prog 55 #[.int .i64 (K : Int)] w fun e w' => e = .returned (.string (mkS K)) ∧ Below w.heap.size w w' := by
  have HE : Hid (mkS K = (⟨#[109]⟩ : ByteArray) ++ ⟨(Lib.decDigits K).toArray⟩) := Lib.hid rfl
  have HL := Lib.hid (dd_len 12 K h2)
  have hi : ¬ (K : Int) ≤ 0 := by omega
  go_enter Try.func55, Try.ntmps55
  go_wp2_with fail
  clear hi
  go_loopw [0, 3] (fun a s wr => ∃ (m : Nat) (S : ByteArray), a = .int .i64 (m : Int) ∧ s = .string S ∧ ddz m ++ S.data.toList = Lib.decDigits K ∧ m ≤ K ∧ Below w.heap.size w wr) (fun a _ _ => (intOf a).toNat)
  case atStart => exact ⟨K, ⟨#[]⟩, rfl, rfl, by rw [ddz_pos (by omega)]; simp, Nat.le_refl _, Below.refl _ _⟩
  case round =>
    obtain ⟨m, S, rfl, rfl, hj, hm, hb⟩ := hrel
    have HJ := Lib.hid hj
    have HB := Lib.hid hb
    have hSL : S.size ≤ 13 := by
      have := HL.out
      rw [← hj, List.length_append] at this
      have e : S.data.toList.length = S.size := by simp
      omega
    clear hj hb
    by_cases h0 : m = 0
    · subst h0
      have HF : Hid (S = ⟨(Lib.decDigits K).toArray⟩) := Lib.hid (by rw [← HJ.out]; simp [ddz])
      have hs1 : ¬ 9223372036854775807 < 1 + S.size := by omega
      go_wp2_with fail
      go_ret
      exact ⟨by rw [HE.out, ← HF.out]; rfl, HB.out⟩
    · have hpos : (0 : Int) < (m : Int) := by omega
      obtain ⟨k, hk⟩ : ∃ k, m % 10 = k := ⟨_, rfl⟩
      have em : Int.tmod (m : Int) 10 = (k : Int) := by rw [Int.tmod_eq_emod_of_nonneg (by omega)]; omega
      have eq : Int.tdiv (m : Int) 10 = ((m / 10 : Nat) : Int) := by rw [Int.tdiv_eq_ediv_of_nonneg (by omega)]; rfl
      have hk10 : k < 10 := by omega
      have e1 : 48 + (k : Int) = ((48 + k : Nat) : Int) := by omega
      have HCV := Lib.hid (fun W => one_conv k (.int .u8 (48 + (k : Int))) (by rw [e1]) W)
      have HST : Hid (ddz (m / 10) ++ (oneS k ++ S).data.toList = Lib.decDigits K) := Lib.hid (by
        rw [← HJ.out, ddz_pos (show m ≠ 0 from h0), dd_step m, hk]
        simp [oneS])
      have hOs : (oneS k).size = 1 := rfl
      obtain ⟨O, hO⟩ : ∃ O, O = oneS k := ⟨_, rfl⟩
      have hw : wrap64 ((m / 10 : Nat) : Int) = ((m / 10 : Nat) : Int) := by unfold wrap64; omega
      have hcv := HCV.out wr
      rw [← hO] at hcv hOs HST
      have hs1 : ¬ 9223372036854775807 < O.size + S.size := by omega
      clear e1 hO hOs HCV
      go_wp2_with fail
      go_roundw
      case rel => exact ⟨m / 10, O ++ S, by go_num, rfl, HST.out, by omega, HB.out.alloc HB.out.size _⟩
      case measure => simp [intOf]; omega

theorem below_drewN_e {B : Nat} {a w : World} (h : Below B a w) (n : Nat) : Below B a (w.drewN n) := ⟨h.os, h.tape, h.output, h.size, h.block⟩
def strv (l : List ByteArray) : List Value := l.map Value.string
theorem strv_length (l : List ByteArray) : (strv l).length = l.length := by simp [strv]
theorem strv_append (l m : List ByteArray) : strv (l ++ m) = strv l ++ strv m := by simp [strv]
def em0 : ByteArray := ⟨#[]⟩
theorem strv_get (l : List ByteArray) (j : Nat) (h : j < l.length) : (strv l)[j]? = some (.string (l.getD j em0)) := by
  simp [strv, List.getD_eq_getElem?_getD, h]
theorem strv_set (l : List ByteArray) (k : Nat) (x : ByteArray) : (strv l).set k (.string x) = strv (l.set k x) := by
  simp [strv, List.map_set]
theorem getD_set_str (l : List ByteArray) (k j : Nat) (x : ByteArray) (h : k < l.length) : (l.set k x).getD j em0 = if j = k then x else l.getD j em0 := by
  simp only [List.getD_eq_getElem?_getD, List.getElem?_set]
  by_cases e : k = j
  · subst e; simp [h]
  · rw [if_neg e, if_neg (fun h => e h.symm)]
def marksT (K n : Nat) : List ByteArray := (List.range n).map fun j : Nat => mkS (K + j)
theorem marksT_length (K n : Nat) : (marksT K n).length = n := by simp [marksT]
theorem marksT_getD (K n j : Nat) (h : j < n) : (marksT K n).getD j em0 = mkS (K + j) := by
  simp [marksT, List.getD_eq_getElem?_getD, h]
theorem strs_ext {l m : List ByteArray} (h : l.length = m.length) (hj : ∀ j, j < l.length → l.getD j em0 = m.getD j em0) : l = m := by
  apply List.ext_getElem h
  intro i h1 h2
  have := hj i h1
  simpa [List.getD_eq_getElem?_getD, h1, h2] using this

set_option maxRecDepth 100000 in
set_option maxHeartbeats 1000000 in
theorem eqStrS_same (b1 b2 : Nat) (v1 v2 : Value) (l : List ByteArray) (w : World) (hl : l.length ≤ maxLen) (o1 : w.ownsRow b1 9 1 v1 l.length (strv l)) (o2 : w.ownsRow b2 9 1 v2 l.length (strv l)) :
    Calls Try.prog 17 #[v1, v2] w fun e w' => e = .returned (.bool true) ∧ Below w.heap.size w w' := by
  unfold maxLen at hl
  rcases o1.2 with ⟨rfl, h0⟩ | ⟨g1, c1, cur1, rfl, hb1, hg1, _⟩
  · have e : l = [] := List.eq_nil_of_length_eq_zero h0
    subst e
    rcases o2.2 with ⟨rfl, _⟩ | ⟨g2, c2, cur2, rfl, hb2, hg2, _⟩
    all_goals
      go_enter Try.func17, Try.ntmps17
      go_wp2_with fail
      refine wp_loop_rounds 1 ?_
      rw [rounds_succ]
      go_wp2_with fail
      go_ret
      exact ⟨rfl, Below.refl _ _⟩
  · rcases o2.2 with ⟨rfl, h0⟩ | ⟨g2, c2, cur2, rfl, hb2, hg2, _⟩
    · have e : l = [] := List.eq_nil_of_length_eq_zero h0
      subst e
      go_enter Try.func17, Try.ntmps17
      go_wp2_with fail
      refine wp_loop_rounds 1 ?_
      rw [rounds_succ]
      go_wp2_with fail
      go_ret
      exact ⟨rfl, Below.refl _ _⟩
    · have C1 := Lib.hid (fun k (hk : k < l.length) => (o1.cellAt k (by omega)).trans (strv_get l k hk))
      have C2 := Lib.hid (fun k (hk : k < l.length) => (o2.cellAt k (by omega)).trans (strv_get l k hk))
      have L1 := Lib.hid (o1.lt g1 rfl).2
      have L2 := Lib.hid (o2.lt g2 rfl).2
      clear o1 o2 hg1 hg2
      go_enter Try.func17, Try.ntmps17
      go_wp2_with fail
      go_loopw [5] (fun i wr => ∃ k : Nat, k ≤ l.length ∧ i = .int .i64 k ∧ Below w.heap.size w wr) (fun i _ => l.length - (intOf i).toNat)
      case atStart => exact ⟨0, Nat.zero_le _, rfl, Below.refl _ _⟩
      case round =>
        obtain ⟨k, hk, rfl, hb⟩ := hrel
        have HB := Lib.hid hb
        clear hb
        by_cases hlt : k < l.length
        · have x1 : wr.cell? ⟨g1, k, none⟩ = some (.string (l.getD k em0)) := (HB.out.cell (p := ⟨g1, k, none⟩) L1.out).trans (C1.out k hlt)
          have x2 : wr.cell? ⟨g2, k, none⟩ = some (.string (l.getD k em0)) := (HB.out.cell (p := ⟨g2, k, none⟩) L2.out).trans (C2.out k hlt)
          generalize l.getD k em0 = y at x1 x2
          go_wp2_with fail
          go_quiet (fail)
          go_wp2_with fail
          go_roundw
          case rel => exact ⟨k + 1, by omega, by go_num, below_drewN_e HB.out _⟩
          case measure => simp [intOf]; omega
        · obtain rfl : k = l.length := by omega
          go_wp2_with fail
          go_ret
          exact ⟨rfl, HB.out⟩

theorem grown_of_below {w w' : World} (h : Below w.heap.size w w') (row : Option Nat) : w.grownBy w' row := ⟨h.os, h.tape, h.output, h.size, fun k hk _ => h.block k hk⟩
def MarkPostT (base : Nat) (v : Value) (n K : Nat) (w : World) (e : Ending) (w' : World) : Prop :=
  e = .returned (.int .i64 ((K + n : Nat) : Int)) ∧ w'.ownsRow base 9 1 v n (strv (marksT K n)) ∧ w.grownBy w' v.ownBlock
set_option maxRecDepth 100000 in
set_option maxHeartbeats 1000000 in
theorem markStrS_any (base : Nat) (v : Value) (K : Nat) (xs : List ByteArray) (w : World) (hK : 1 ≤ K) (hK2 : K + xs.length ≤ 1000000000000) (h : w.ownsRow base 9 1 v xs.length (strv xs)) :
    Calls Try.prog 18 #[v, .int .i64 (K : Int)] w (MarkPostT base v xs.length K w) := by
  obtain ⟨n, hn⟩ : ∃ n, n = xs.length := ⟨_, rfl⟩
  rw [← hn] at h hK2 ⊢
  have Hn := Lib.hid hn
  clear hn
  have HM := Lib.hid (fun k (hk : k < n) W => markText_any (K + k) W (by omega) (by omega))
  rcases h.2 with ⟨rfl, h0⟩ | ⟨g, cap, cur, rfl, hb, hg, _⟩
  · subst h0
    go_enter Try.func18, Try.ntmps18
    go_wp2_with fail
    refine wp_loop_rounds 1 ?_
    rw [rounds_succ]
    go_wp2_with fail
    go_ret
    exact ⟨by simp, World.ownsRow_nil _ _ _ _, World.grownBy.refl _ _⟩
  · clear hg
    have LG := Lib.hid (h.lt g rfl).2
    go_enter Try.func18, Try.ntmps18
    go_wp2_with fail
    go_loopw [5, 1] (fun i q wr => ∃ (k : Nat) (l : List ByteArray), k ≤ n ∧ i = .int .i64 k ∧ q = .int .i64 ((K + k : Nat) : Int) ∧ l.length = n ∧ (∀ j, j < k → l.getD j em0 = mkS (K + j)) ∧
      wr.ownsRow base 9 1 (.slice (some ⟨g, 0, none⟩) n cap) n (strv l) ∧ w.grownBy wr (some g))
      (fun i _ _ => n - (Go.RowKit.intOf i).toNat)
    case atStart => exact ⟨0, xs, Nat.zero_le _, rfl, by simp, Hn.out.symm, fun j hj => by omega, h, World.grownBy.refl _ _⟩
    case round =>
      clear h
      obtain ⟨k, l, hk, rfl, rfl, hll, hag, hown, hg1⟩ := hrel
      have Hag := Lib.hid hag
      have Hll := Lib.hid hll
      have HO := Lib.hid hown
      have HG := Lib.hid hg1
      clear hag hll hown hg1
      by_cases hlt : k < n
      · go_wp2_with fail
        refine (HM.out k hlt _).mono ?_
        rintro e w2 ⟨rfl, hb2⟩
        have HO2 := Lib.hid (u_own_below HO.out hb2)
        have HG2 := Lib.hid (HG.out.trans (grown_of_below hb2 (some g)))
        have hcell : w2.cell? ⟨g, k, none⟩ = some (.string (l.getD k em0)) := by
          rw [HO2.out.cellAt _ (by omega)]; exact strv_get _ _ (by have := Hll.out; omega)
        have hfro : w2.frozen? ⟨g, k, none⟩ = false := HO2.out.frozenAt _
        generalize l.getD k em0 = y at hcell
        have HS := Lib.hid (HO2.out.stored k (.string (mkS (K + k))))
        generalize hM : mkS (K + k) = M at *
        have HM2 := Lib.hid hM
        clear hb2 hM
        go_wp2_with fail
        go_roundw
        case rel =>
          refine ⟨k + 1, l.set k M, by omega, by go_num, by first | rfl | (congr 1; omega) | (go_num), by simpa using Hll.out, fun j hj => ?_, by rw [← strv_set]; exact HS.out.1, HG2.out.trans HS.out.2⟩
          rw [getD_set_str _ _ _ _ (by have := Hll.out; omega)]
          by_cases e : j = k
          · subst e; rw [if_pos rfl, HM2.out]
          · rw [if_neg e]; exact Hag.out j (by omega)
        case measure => simp [Go.RowKit.intOf]; omega
      · obtain rfl : k = n := by omega
        have e : l = marksT K k := strs_ext (by rw [marksT_length]; exact Hll.out) (fun j hj => by rw [marksT_getD _ _ _ (by have := Hll.out; omega)]; exact Hag.out j (by have := Hll.out; omega))
        subst e
        go_wp2_with fail
        go_ret
        exact ⟨rfl, HO.out, HG.out⟩

set_option maxRecDepth 100000 in
set_option maxHeartbeats 1000000 in
theorem heldStrS_any (base : Nat) (v : Value) (n K : Nat) (w : World) (hK : 1 ≤ K) (hK2 : K + n ≤ 1000000000000) (h : w.ownsRow base 9 1 v n (strv (marksT K n))) :
    Calls Try.prog 19 #[v, .int .i64 (K : Int)] w fun e w' => e = .returned (.int .i64 ((K + n : Nat) : Int)) ∧ Below w.heap.size w w' := by
  rcases h.2 with ⟨rfl, h0⟩ | ⟨g, cap, cur, rfl, hb, hg, _⟩
  · subst h0
    go_enter Try.func19, Try.ntmps19
    go_wp2_with fail
    refine wp_loop_rounds 1 ?_
    rw [rounds_succ]
    go_wp2_with fail
    go_ret
    exact ⟨by simp, Below.refl _ _⟩
  · clear hg
    have LG := Lib.hid (h.lt g rfl).2
    have HC := Lib.hid (fun k (hk : k < n) => (h.cellAt k (by omega)).trans ((strv_get _ k (by rw [marksT_length]; exact hk)).trans (by rw [marksT_getD _ _ _ hk])))
    clear h
    go_enter Try.func19, Try.ntmps19
    go_wp2_with fail
    go_loopw [5, 1] (fun i q wr => ∃ k : Nat, k ≤ n ∧ i = .int .i64 k ∧ q = .int .i64 ((K + k : Nat) : Int) ∧ Below w.heap.size w wr) (fun i _ _ => n - (Go.RowKit.intOf i).toNat)
    case atStart => exact ⟨0, Nat.zero_le _, rfl, by simp, Below.refl _ _⟩
    case round =>
      obtain ⟨k, hk, rfl, rfl, hb1⟩ := hrel
      have HB := Lib.hid hb1
      clear hb1
      by_cases hlt : k < n
      · have HX : Hid (∀ W, Below w.heap.size w W → Below w.heap.size w W ∧ W.cell? ⟨g, k, none⟩ = some (.string (mkS (K + k)))) := Lib.hid (fun W hb1 => ⟨hb1, (hb1.cell (p := ⟨g, k, none⟩) LG.out).trans (HC.out k hlt)⟩)
        have HM : Hid (∀ W, Below w.heap.size w W → Calls Try.prog 55 #[.int .i64 ((K : Int) + (k : Int))] W fun e W' => e = .returned (.string (mkS (K + k))) ∧ Below w.heap.size w W') := Lib.hid (fun W hb1 => (markText_any (K + k) W (by omega) (by omega)).mono fun e W' hp => ⟨hp.1, hb1.trans (hp.2.mono hb1.size)⟩)
        have HK0 := Lib.hid (HX.out _ HB.out.drew)
        generalize mkS (K + k) = M at *
        go_wp2_with fail
        go_region_held3 (fun W => Below w.heap.size w W ∧ W.cell? ⟨g, k, none⟩ = some (.string M))
          (first | with_reducible assumption | with_reducible exact HK0.out | with_reducible exact HX.out _ (by assumption))
          (first | (go_at_call 55; (with_reducible refine (HM.out _ (And.left (by assumption))).mono ?_); rintro e w2 ⟨rfl, hb2⟩; have HB2 := Lib.hid hb2))
        all_goals
          go_wp2_with fail
          go_roundw
          case rel => exact ⟨k + 1, by omega, by go_num, by first | rfl | (congr 1; omega) | go_num, HB2.out⟩
          case measure => simp [Go.RowKit.intOf]; omega
      · obtain rfl : k = n := by omega
        go_wp2_with fail
        go_ret
        exact ⟨rfl, HB.out⟩
end Go.Proofs.Ytbbchgklcknlbaa
