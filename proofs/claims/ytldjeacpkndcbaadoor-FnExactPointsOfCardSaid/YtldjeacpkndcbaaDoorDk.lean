/- Walks: slices of points: the laws' marks. -/
import Derived.Test.YtldjeacpkndcbaaDoorGa
import Derived.Test.YtldjeacpkndcbaaDoorDj
set_option linter.unusedVariables false
set_option linter.unusedSimpArgs false
namespace Go.Proofs.YtldjeacpkndcbaaDoor
open Go.RowKit

def marks2 (K : Int) (n : Nat) : List (Int × Int) := (List.range n).map fun j : Nat => (K + 2 * (j : Int), K + 2 * (j : Int) + 1)
theorem marks2_length (K : Int) (n : Nat) : (marks2 K n).length = n := by simp [marks2]
theorem marks2_getD (K : Int) (n j : Nat) (h : j < n) : (marks2 K n).getD j (0, 0) = (K + 2 * (j : Int), K + 2 * (j : Int) + 1) := by
  simp [marks2, List.getD_eq_getElem?_getD, h]
theorem marks2_rng (K : Int) (n : Nat) (hK : 0 ≤ K) (hK2 : K ≤ 100000000000000) (h : n ≤ 1048576) (j : Nat) : Rng ((marks2 K n).getD j (0, 0)).1 ∧ Rng ((marks2 K n).getD j (0, 0)).2 := by
  by_cases hj : j < n
  · rw [marks2_getD _ _ _ hj]
    unfold Rng
    refine ⟨?_, ?_⟩ <;> (simp only []; omega)
  · rw [List.getD_eq_getElem?_getD, List.getElem?_eq_none (by rw [marks2_length]; omega)]; exact ⟨rng_zero, rng_zero⟩

def MarkPost2 (base : Nat) (v : Value) (n : Nat) (K : Int) (w : World) (e : Ending) (w' : World) : Prop :=
  e = .returned (.int .i64 (K + 2 * (n : Int))) ∧ w'.ownsRow base 89 2 v n (prs (marks2 K n)) ∧ Below base w w' ∧ w.grownBy w' v.ownBlock

set_option maxRecDepth 100000 in
set_option maxHeartbeats 4000000 in
theorem markPointS_any (base : Nat) (v : Value) (K : Int) (xs : List (Int × Int)) (w : World) (hK : 0 ≤ K) (hK2 : K ≤ 100000000000000) (hl : xs.length ≤ 1048576) (h : w.ownsRow base 89 2 v xs.length (prs xs)) :
    Calls Tryd.prog 38 #[v, .int .i64 K] w (MarkPost2 base v xs.length K w) := by
  obtain ⟨n, hn⟩ : ∃ n, n = xs.length := ⟨_, rfl⟩
  rw [← hn] at h hl ⊢
  have Hn := Lib.hid hn
  clear hn
  rcases h.2 with ⟨rfl, h0⟩ | ⟨g, cap, cur, rfl, hb, hg, _⟩
  · subst h0
    go_enter Tryd.func38, Tryd.ntmps38
    go_wp2_with fail
    refine wp_loop_rounds 1 ?_
    rw [rounds_succ]
    go_wp2_with fail
    go_ret
    exact ⟨by simp, World.ownsRow_nil _ _ _ _, Below.refl _ _, World.grownBy.refl _ _⟩
  · clear hg
    go_enter Tryd.func38, Tryd.ntmps38
    go_wp2_with fail
    go_loopw [5, 1] (fun i q wr => ∃ (k : Nat) (l : List (Int × Int)), k ≤ n ∧ i = .int .i64 k ∧ q = .int .i64 (K + 2 * (k : Int)) ∧ l.length = n ∧ (∀ j : Nat, j < k → l.getD j (0, 0) = (K + 2 * (j : Int), K + 2 * (j : Int) + 1)) ∧
      wr.ownsRow base 89 2 (.slice (some ⟨g, 0, none⟩) n cap) n (prs l) ∧ Below base w wr ∧ w.grownBy wr (some g))
      (fun i _ _ => n - (intOf i).toNat)
    case atStart => exact ⟨0, xs, Nat.zero_le _, rfl, by simp, Hn.out.symm, fun j hj => by omega, h, Below.refl _ _, World.grownBy.refl _ _⟩
    case round =>
      clear h
      obtain ⟨k, l, hk, rfl, rfl, hll, hag, hown, hb1, hg1⟩ := hrel
      have Hag := Lib.hid hag
      have Hll := Lib.hid hll
      clear hag hll
      by_cases hlt : k < n
      · have c0 : wr.cell? ⟨g, k * 2, none⟩ = some (.int .i64 (l.getD k (0, 0)).1) := by
          rw [hown.cellAt _ (by omega)]; exact prs_get0 _ _ (by have := Hll.out; omega)
        have c1 : wr.cell? ⟨g, k * 2 + 1, none⟩ = some (.int .i64 (l.getD k (0, 0)).2) := by
          rw [hown.cellAt _ (by omega)]; exact prs_get1 _ _ (by have := Hll.out; omega)
        have f0 : wr.frozen? ⟨g, k * 2, none⟩ = false := hown.frozenAt _
        have f1 : wr.frozen? ⟨g, k * 2 + 1, none⟩ = false := hown.frozenAt _
        generalize (l.getD k (0, 0)).1 = o0 at c0
        generalize (l.getD k (0, 0)).2 = o1 at c1
        have hst0 := hown.stored (k * 2) (.int .i64 (K + 2 * (k : Int)))
        have hst1 := hst0.1.stored (k * 2 + 1) (.int .i64 (K + 2 * (k : Int) + 1))
        have hown2 := hst1.1
        rw [prs_set l k (K + 2 * (k : Int)) (K + 2 * (k : Int) + 1) (by have := Hll.out; omega)] at hown2
        have hb2 := ((hb1.setCell (p := ⟨g, k * 2, none⟩) (by exact hb) (.int .i64 (K + 2 * (k : Int)))).setCell (p := ⟨g, k * 2 + 1, none⟩) (by exact hb) (.int .i64 (K + 2 * (k : Int) + 1)))
        have hg2 := ((hg1.trans hst0.2).trans hst1.2)
        have HO := Lib.hid hown2
        have HB := Lib.hid hb2
        have HG := Lib.hid hg2
        clear hst0 hst1 hown2 hb2 hg2 hb1 hg1 hown
        go_wp2_with fail
        go_roundw
        case rel =>
          have h1 := HO.out
          have h2 := HB.out
          have h3 := HG.out
          have h0 := Hll.out
          clear HO HB HG
          refine ⟨k + 1, l.set k (K + 2 * (k : Int), K + 2 * (k : Int) + 1), by omega, by go_num, by go_num, by simpa using h0, fun j hj => ?_, ?_, ?_, ?_⟩
          case refine_2 => with_reducible exact h1
          case refine_3 => with_reducible exact h2
          case refine_4 => with_reducible exact h3
          rw [getD_set_pr _ _ _ _ (by have := Hll.out; omega)]
          by_cases e : j = k
          · subst e; rw [if_pos rfl]; (try simp only [Prod.mk.injEq]); (repeat' (first | trivial | omega | apply And.intro))
          · rw [if_neg e]; exact Hag.out j (by omega)
        case measure => simp [intOf]; omega
      · obtain rfl : k = n := by omega
        have e : l = marks2 K k := prs_ext (by rw [marks2_length]; exact Hll.out) (fun j hj => by rw [marks2_getD _ _ _ (by have := Hll.out; omega)]; exact Hag.out j (by have := Hll.out; omega))
        subst e
        go_wp2_with fail
        go_ret
        exact ⟨rfl, hown, hb1, hg1⟩

set_option maxRecDepth 100000 in
set_option maxHeartbeats 4000000 in
theorem heldPointS_any (v : Value) (n : Nat) (K : Int) (w : World) (hK : 0 ≤ K) (hK2 : K ≤ 100000000000000) (h : PL w w.heap.size v (marks2 K n)) :
    Calls Tryd.prog 39 #[v, .int .i64 K] w fun e w' => e = .returned (.int .i64 (K + 2 * (n : Int))) ∧ w = w' := by
  obtain ⟨hr, hlen, A, c, rfl, h3⟩ := h
  rw [marks2_length] at hlen
  have hc0 : marks2 K n = [] ∨ ∃ b off, A = some ⟨b, off, none⟩ ∧ ∀ j, j < n → w.cell? ⟨b, off + j * 2, none⟩ = some (.int .i64 (K + 2 * (j : Int))) ∧ w.cell? ⟨b, off + j * 2 + 1, none⟩ = some (.int .i64 (K + 2 * (j : Int) + 1)) := by
    rcases h3 with h3 | ⟨b, off, rfl, hbl, hc⟩
    · exact .inl h3
    · exact .inr ⟨b, off, rfl, fun j hj => by have := hc j (by rw [marks2_length]; exact hj); rw [marks2_getD _ _ _ hj] at this; exact this⟩
  rw [marks2_length]
  clear h3 hr
  go_enter Tryd.func39, Tryd.ntmps39
  go_wp2_with fail
  go_loop [5, 1] (fun i q => ∃ k : Nat, k ≤ n ∧ i = .int .i64 k ∧ q = .int .i64 (K + 2 * (k : Int))) (fun i _ => n - (intOf i).toNat)
  case atStart => exact ⟨0, Nat.zero_le _, rfl, by simp⟩
  case round =>
    obtain ⟨k, hk, rfl, rfl⟩ := hrel
    by_cases hlt : k < n
    · rcases hc0 with hc0 | ⟨b, off, rfl, hc⟩
      · have := marks2_length K n; rw [hc0] at this; simp at this; omega
      obtain ⟨hx0, hx1⟩ := hc k hlt
      clear hc
      have e1 : wrap64 ((K + 2 * (k : Int)) + 1) = K + 2 * (k : Int) + 1 := by unfold wrap64; omega
      have e2 : wrap64 ((K + 2 * (k : Int) + 1) + 1) = K + 2 * (k : Int) + 2 := by unfold wrap64; omega
      go_wp2_with fail
      go_round
      case rel => exact ⟨k + 1, by omega, by go_num, by go_num⟩
      case measure => simp [intOf]; omega
    · obtain rfl : k = n := by omega
      clear hc0
      go_wp2_with fail
      go_ret
      exact ⟨rfl, rfl⟩
end Go.Proofs.YtldjeacpkndcbaaDoor

/- Walk: the law FnExactPointsOf. -/
set_option linter.unusedVariables false
set_option linter.unusedSimpArgs false
namespace Go.Proofs.YtldjeacpkndcbaaDoor
open Go.RowKit

set_option maxRecDepth 100000 in
set_option maxHeartbeats 400000 in
theorem toBlock_any (n : Int) (s : ByteArray) (w : World) :
    Calls Tryd.prog 36 #[.agg #[.int .i64 n, .string s]] w fun e w' => e = .returned (.agg #[.int .i64 n, .string s]) ∧ Below w.heap.size w w' := by
  go_enter Tryd.func36, Tryd.ntmps36
  go_wp2
  exact bodyPost_ret (v := .agg #[.int .i64 n, .string s]) (by simp [results, Tryd.results36, go_sem]) rfl ⟨rfl, by
    repeat (first | exact Below.refl _ _ | refine Below.alloc ?_ (by simp; try omega) _ | refine Below.setCell ?_ (by simp; try omega) _ | refine Below.drew ?_)⟩

set_option maxRecDepth 100000 in
set_option maxHeartbeats 400000 in
theorem szBlock_any (n : Int) (s : ByteArray) (l : Int) (w : World) (h0 : 0 ≤ l) (h1 : l ≤ 1048576) (hs : s.size ≤ maxLen) :
    Calls Tryd.prog 35 #[.agg #[.int .i64 n, .string s], .int .i64 l] w fun e w' => e = .returned (.int .i64 (if l < s.size then -1 else l - s.size)) ∧ Below w.heap.size w w' := by
  unfold maxLen at hs
  by_cases h : l < s.size
  · go_enter Tryd.func35, Tryd.ntmps35
    go_wp2
    go_ret
    exact ⟨rfl, (Below.refl _ _).alloc (Nat.le_refl _) _⟩
  · go_enter Tryd.func35, Tryd.ntmps35
    go_wp2
    go_ret
    exact ⟨rfl, (Below.refl _ _).alloc (Nat.le_refl _) _⟩
theorem keptK {w1 w2 : World} (h : Below w1.heap.size w1 w2) {g : Nat} (hg : g < w1.heap.size) {s : ByteArray} {n : Int}
    (h0 : w1.cell? ⟨g, 0, none⟩ = some (.int .i64 n)) (h1 : w1.cell? ⟨g, 1, none⟩ = some (.string s)) :
    w2.cell? ⟨g, 0, none⟩ = some (.int .i64 n) ∧ w2.cell? ⟨g, 1, none⟩ = some (.string s) ∧ g < w2.heap.size :=
  ⟨(h.cell hg).trans h0, (h.cell hg).trans h1, Nat.lt_of_lt_of_le hg h.size⟩
theorem keptK_at {B : Nat} {w w' : World} {g : Nat} {s : ByteArray} {N : Int} (hb : Below B w w') (hg : g < B) (h : w.cell? ⟨g, 0, none⟩ = some (.int .i64 N) ∧ w.cell? ⟨g, 1, none⟩ = some (.string s)) :
    w'.cell? ⟨g, 0, none⟩ = some (.int .i64 N) ∧ w'.cell? ⟨g, 1, none⟩ = some (.string s) :=
  ⟨(hb.cell (p := ⟨g, 0, none⟩) hg).trans h.1, (hb.cell (p := ⟨g, 1, none⟩) hg).trans h.2⟩

set_option maxRecDepth 100000 in
set_option maxHeartbeats 2000000 in
theorem walkFnExactPointsOf (N : Int) (s : ByteArray) (w : World) (hs : s.size ≤ maxLen) (_wn : (Lit.int .i64 N).wf = true) (hT : Tab w) :
    Calls Tryd.prog 7 #[.agg #[.int .i64 N, .string s]] w fun e w' => e = .returned (.bool true) ∧ Below w.heap.size w w' := by
  by_cases hbig : (1048576 : Int) < s.size
  · have hsz := fun W => szBlock_any N s 1048576 W (by omega) (by omega) hs
    rw [if_pos hbig] at hsz
    have Hsz := Lib.hid hsz
    clear hsz
    go_enter Tryd.func7, Tryd.ntmps7
    go_wp2_with fail
    refine (Hsz.out _).mono ?_
    rintro e w1 ⟨rfl, hb1⟩
    go_wp2_with fail
    go_ret
    exact ⟨rfl, ((Below.refl w.heap.size w).alloc (Nat.le_refl _) _).trans (hb1.mono (by simp))⟩
  · have hsz := fun W => szBlock_any N s 1048576 W (by omega) (by omega) hs
    rw [if_neg hbig] at hsz
    have Hsz := Lib.hid hsz
    clear hsz
    have hA : (0 : Int) ≤ 1048576 - s.size := by omega
    have hA2 : decide ((1048576 : Int) - s.size < 0) = false := by simp; omega
    obtain ⟨hrng0, hlen⟩ := pts_ok s N
    have hrng := Lib.hid hrng0
    have h1 := Lib.hid (fun W => specPointsOf_any N s W hs)
    have h2 := Lib.hid (fun W hT => implPointsOf_any N s W (by omega) hT)
    have HT := Lib.hid hT
    clear hT
    clear hrng0
    unfold POutF at h1 h2
    generalize ptsX (ptsB s N) = xs at *
    generalize ptsF (ptsB s N) = b at *
    have heq := Lib.hid (fun v u W h h' => eqPointS_any v u xs xs W h h')
    rw [decide_eq_true rfl] at heq
    have hmk := Lib.hid (fun base v W h => markPointS_any base v 1 xs W (by omega) (by omega) (by omega) h)
    have hhd := Lib.hid (fun v W h => heldPointS_any v xs.length 1 W (by omega) (by omega) h)
    have hmr := Lib.hid (marks2_rng 1 xs.length (by omega) (by omega) (by omega))
    go_enter Tryd.func7, Tryd.ntmps7
    go_wp2_with fail
    refine (Hsz.out _).mono ?_
    rintro e w1 ⟨rfl, hb1⟩
    obtain ⟨x0, x1, hg⟩ := keptK hb1 (g := w.heap.size) (s := s) (n := N) (by simp) (by go_simp) (by go_simp)
    have hf := ((Below.refl w.heap.size w).alloc (Nat.le_refl _) (.cells #[.int .i64 N, .string s] 54)).trans (hb1.mono (by simp))
    clear hb1
    go_wp2_with fail
    refine (toBlock_any N s _).mono ?_
    rintro e w2 ⟨rfl, hb2⟩
    obtain ⟨y0, y1, hg2⟩ := keptK hb2 hg x0 x1
    have hf2 := hf.trans (hb2.mono (by omega))
    clear hb2 hf x0 x1 hg
    go_wp2_with fail
    refine (h1.out _).mono ?_
    rintro e w3 ⟨v1, rfl, hown1, hb3⟩
    obtain ⟨x0, x1, hg⟩ := keptK hb3 hg2 y0 y1
    have hf := hf2.trans (hb3.mono (by omega))
    have I1 := Lib.hid (PL.of_own hown1 rfl hrng.out (by omega))
    clear hb3 hf2 y0 y1 hg2 hown1
    go_wp2_with fail
    refine (toBlock_any N s _).mono ?_
    rintro e w4 ⟨rfl, hb2⟩
    obtain ⟨y0, y1, hg2⟩ := keptK hb2 hg x0 x1
    have hf2 := hf.trans (hb2.mono (by omega))
    have I2 := Lib.hid ((I1.out.below hb2).up hb2.size)
    clear hb2 hf x0 x1 hg I1
    go_wp2_with fail
    refine (h2.out _ (HT.out.below hf2)).mono ?_
    rintro e w5 ⟨v2, rfl, hown2, hb3⟩
    obtain ⟨x0, x1, hg⟩ := keptK hb3 hg2 y0 y1
    have hf := hf2.trans (hb3.mono (by omega))
    have I3 := Lib.hid (I2.out.below hb3)
    have S3 := hb3.size
    have O2 := Lib.hid hown2
    have J2 := Lib.hid (PL.of_own hown2 rfl hrng.out (by omega))
    clear hb3 hf2 y0 y1 hown2 I2
    go_wp2_with fail
    refine (heq.out _ _ _ J2.out (I3.out.up S3)).mono ?_
    rintro e w6 ⟨rfl, hb6⟩
    obtain ⟨y0, y1, hg6⟩ := keptK hb6 hg x0 x1
    have hf6 := hf.trans (hb6.mono (by omega))
    have O3 := Lib.hid (u_own_below O2.out hb6)
    have I6 := Lib.hid (I3.out.below (hb6.mono S3))
    have S6 := hb6.size
    clear hb6 hf x0 x1 hg J2 I3 O2
    go_wp2_with fail
    refine (hmk.out _ _ _ O3.out).mono ?_
    rintro e w7 ⟨rfl, hown7, hb7, hg7⟩
    obtain ⟨x0, x1⟩ := keptK_at hb7 hg2 ⟨y0, y1⟩
    have hf := hf6.trans (hb7.mono (by omega))
    have I7 := Lib.hid (PL.of_own hown7 (marks2_length _ _).symm hmr.out (by rw [marks2_length]; omega))
    have J7 := Lib.hid (I6.out.below hb7)
    have S7 := hg7.size
    have hg : w.heap.size < w7.heap.size := by omega
    clear hown7 hb7 hg7 O3 I6 hf6 y0 y1
    go_wp2_with fail
    refine (hhd.out _ _ I7.out).mono ?_
    rintro e w8 ⟨rfl, rfl⟩
    go_wp2_with fail
    refine (toBlock_any N s _).mono ?_
    rintro e w8 ⟨rfl, hb8⟩
    have hf8 := hf.trans (hb8.mono (by omega))
    have I8 := Lib.hid ((I7.out.below hb8).up hb8.size)
    have J8 := Lib.hid (J7.out.below (hb8.mono (by omega)))
    have S8 := hb8.size
    clear hb8 hf x0 x1 I7 J7
    go_wp2_with fail
    refine (h2.out _ (HT.out.below hf8)).mono ?_
    rintro e w9 ⟨v9, rfl, hown9, hb9⟩
    have hf := hf8.trans (hb9.mono (by omega))
    have I9 := Lib.hid (PL.of_own hown9 rfl hrng.out (by omega))
    have J9 := Lib.hid (J8.out.below (hb9.mono (by omega)))
    have K9 := Lib.hid ((I8.out.below hb9).up hb9.size)
    have S9 := hb9.size
    clear hb9 hf8 hown9 I8 J8
    go_wp2_with fail
    refine (heq.out _ _ _ I9.out (J9.out.up (by omega))).mono ?_
    rintro e w10 ⟨rfl, hb10⟩
    have hf10 := hf.trans (hb10.mono (by omega))
    have K10 := Lib.hid ((K9.out.below hb10).up hb10.size)
    clear hb10 hf I9 J9 K9
    go_wp2_with fail
    refine (hhd.out _ _ K10.out).mono ?_
    rintro e w11 ⟨rfl, rfl⟩
    go_wp2_with fail
    go_ret
    exact ⟨rfl, hf10⟩
end Go.Proofs.YtldjeacpkndcbaaDoor
