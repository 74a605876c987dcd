/- Walks: below; the place of a quantile; running sums. -/
import Derived.Test.YtljmiodkmddllaaBf
import Derived.Test.YtljmiodkmddllaaBc
set_option linter.unusedVariables false
set_option linter.unusedSimpArgs false
namespace Go.Proofs.Ytljmiodkmddllaa
open Go.RowKit Go.Shelf

set_option maxRecDepth 100000 in
set_option maxHeartbeats 2000000 in
theorem search_none (A : Option Addr) (c : Nat) (x : Int) (w : World) :
    Calls Try.prog 62 #[.slice A 0 c, .int .i64 x] w fun e w' => e = .returned (.tuple #[.int .i64 0, .bool false]) ∧ w' = w := by
  go_enter Try.func62, Try.ntmps62
  go_wp2
  refine wp_loop_rounds 1 ?_
  rw [rounds_succ]
  go_wp2
  go_ret2
  exact ⟨rfl, rfl⟩

set_option maxRecDepth 100000 in
set_option maxHeartbeats 2000000 in
theorem lessN_any (v : Value) (xs : List Int) (x : Int) (w : World) (h : IL w w.heap.size v xs) (hs : xs.Pairwise (· ≤ ·)) :
    Calls Try.prog 46 #[v, .int .i64 x] w fun e w' => e = .returned (.int .i64 (xs.countP (· < x) : Nat)) ∧ Below w.heap.size w w' := by
  obtain ⟨-, hlen, A, c, rfl, h3⟩ := h
  rcases h3 with h3 | ⟨b, off, rfl, hbl, hc⟩
  · subst h3
    have HS := Lib.hid (fun W => search_none A c x W)
    clear hs
    go_enter Try.func46, Try.ntmps46
    go_wp2_with fail
    refine (HS.out _).mono ?_
    rintro e w' ⟨rfl, rfl⟩
    go_wp2_with fail
    go_ret
    exact ⟨rfl, Below.refl _ _⟩
  · have HS := Lib.hid (AnyG.slices_BinarySearch_int Try.searchN b off xs.length c xs x w (Nat.le_refl _) (by omega) (fun j hj => hc j hj) (by rw [List.take_length]; exact hs))
    have HC : Hid (xs.take xs.length = xs) := Lib.hid (List.take_length)
    clear hc hs
    go_enter Try.func46, Try.ntmps46
    go_wp2_with fail
    refine HS.out.mono ?_
    rintro e w' ⟨rfl, q, rfl⟩
    rw [HC.out]
    obtain ⟨cnt, hcnt⟩ : ∃ cnt, xs.countP (· < x) = cnt := ⟨_, rfl⟩
    have HCN := Lib.hid hcnt
    rw [hcnt]
    clear hcnt
    go_wp2_with fail
    go_ret
    exact ⟨by rw [HCN.out]; rfl, below_drewN_u (Below.refl _ _) _⟩

def milB (m : Int) : Bool := decide (0 ≤ m ∧ m ≤ 1000)
def qIx (n m : Int) : Int := min (n - 1) (n * m / 1000)
theorem qIx_in {n m : Int} (hn : 1 ≤ n) (hm : milB m = true) : 0 ≤ qIx n m ∧ qIx n m < n := by
  unfold milB at hm
  have hm := of_decide_eq_true hm
  have h0 : 0 ≤ n * m := Int.mul_nonneg (by omega) hm.1
  unfold qIx
  omega
theorem mul_bd {n m : Int} (hn : 1 ≤ n) (hn2 : n ≤ 100000000000) (hm : milB m = true) : 0 ≤ n * m ∧ n * m ≤ 100000000000000 := by
  unfold milB at hm
  have hm := of_decide_eq_true hm
  refine ⟨Int.mul_nonneg (by omega) hm.1, ?_⟩
  have := Int.mul_le_mul hn2 hm.2 hm.1 (by omega)
  omega

set_option maxRecDepth 100000 in
theorem milleOk_any (m : Int) (w : World) : Calls Try.prog 44 #[.int .i64 m] w fun e w' => e = .returned (.bool (milB m)) ∧ w' = w := by
  by_cases h1 : 0 ≤ m
  · go_enter Try.func44, Try.ntmps44
    go_wp2
    go_ret
    exact ⟨v_ret_bool (by simp [milB, h1]), rfl⟩
  · go_enter Try.func44, Try.ntmps44
    go_wp2
    go_ret
    exact ⟨v_ret_bool (by simp [milB]; omega), rfl⟩

theorem q_eq {n m : Int} (hn : 1 ≤ n) (hn2 : n ≤ 100000000000) (hm : milB m = true) : min (wrap64 ((wrap64 (n * m)).tdiv 1000)) (n - 1) = qIx n m := by
  have hP := mul_bd hn hn2 hm
  unfold qIx
  generalize n * m = p at *
  have e1 : wrap64 p = p := by unfold wrap64; omega
  have e2 : p.tdiv 1000 = p / 1000 := Int.tdiv_eq_ediv_of_nonneg hP.1
  rw [e1, e2]
  have e3 : wrap64 (p / 1000) = p / 1000 := by unfold wrap64; omega
  rw [e3]
  omega
theorem q_eq' {n m : Int} (hn : 1 ≤ n) (hn2 : n ≤ 100000000000) (hm : milB m = true) : min (n - 1) (wrap64 ((wrap64 (n * m)).tdiv 1000)) = qIx n m := by
  rw [← q_eq hn hn2 hm]; omega

set_option maxRecDepth 100000 in
set_option maxHeartbeats 1000000 in
theorem quantileIndex_any (n m : Int) (w : World) (hn : 1 ≤ n) (hn2 : n ≤ 100000000000) (hm : milB m = true) :
    Calls Try.prog 47 #[.int .i64 n, .int .i64 m] w fun e w' => e = .returned (.int .i64 (qIx n m)) ∧ w' = w := by
  have HQ := Lib.hid (q_eq hn hn2 hm)
  clear hm
  go_enter Try.func47, Try.ntmps47
  go_wp2_with fail
  go_ret
  exact ⟨by rw [← HQ.out]; rfl, rfl⟩

set_option maxRecDepth 100000 in
set_option maxHeartbeats 1000000 in
theorem l16Rank_any (n m : Int) (w : World) (hn : 1 ≤ n) (hn2 : n ≤ 100000000000) (hm : milB m = true) :
    Calls Try.prog 43 #[.int .i64 n, .int .i64 m] w fun e w' => e = .returned (.int .i64 (qIx n m)) ∧ w' = w := by
  have HQ := Lib.hid (q_eq' hn hn2 hm)
  clear hm
  go_enter Try.func43, Try.ntmps43
  go_wp2_with fail
  go_ret
  exact ⟨by rw [← HQ.out]; rfl, rfl⟩

def psum (h : List Int) (k : Nat) : Int := (h.take k).sum
theorem psum_succ {h : List Int} {k : Nat} (hk : k < h.length) : psum h (k + 1) = psum h k + h.getD k 0 := by
  unfold psum; rw [take_snoc_int hk, List.sum_append]; simp
theorem psum_zero (h : List Int) : psum h 0 = 0 := rfl
def NN (h : List Int) : Prop := ∀ j, 0 ≤ h.getD j 0 ∧ h.getD j 0 ≤ 1000000000
theorem psum_bd {h : List Int} (hh : NN h) : ∀ k, k ≤ h.length → 0 ≤ psum h k ∧ psum h k ≤ 1000000000 * (k : Int) := by
  intro k
  induction k with
  | zero => intro _; rw [psum_zero]; omega
  | succ k ih =>
    intro hk
    have := ih (by omega)
    have h2 := hh k
    rw [psum_succ (by omega)]
    omega
theorem psum_le {h : List Int} (hh : NN h) : ∀ (d i : Nat), i + d ≤ h.length → psum h i ≤ psum h (i + d) := by
  intro d
  induction d with
  | zero => intro i _; exact Int.le_refl _
  | succ d ih =>
    intro i hi
    have h1 := ih i (by omega)
    have h2 := hh (i + d)
    have h3 := psum_succ (h := h) (k := i + d) (by omega)
    have e : i + (d + 1) = i + d + 1 := by omega
    rw [e]; omega
def sumsL (h : List Int) : List Int := (List.range h.length).map fun i => psum h (i + 1)
theorem sumsL_length (h : List Int) : (sumsL h).length = h.length := by simp [sumsL]
theorem sumsL_getD (h : List Int) (j : Nat) (hj : j < h.length) : (sumsL h).getD j 0 = psum h (j + 1) := by
  simp [sumsL, List.getD_eq_getElem?_getD, hj]
theorem sumsL_sorted {h : List Int} (hh : NN h) : (sumsL h).Pairwise (· ≤ ·) := by
  rw [List.pairwise_iff_getElem]
  intro i j hi hj hij
  rw [sumsL_length] at hi hj
  have e1 := sumsL_getD h i hi
  have e2 := sumsL_getD h j hj
  rw [List.getD_eq_getElem?_getD, List.getElem?_eq_getElem (by rw [sumsL_length]; exact hi)] at e1
  rw [List.getD_eq_getElem?_getD, List.getElem?_eq_getElem (by rw [sumsL_length]; exact hj)] at e2
  simp only [Option.getD_some] at e1 e2
  rw [e1, e2]
  have := psum_le hh (j - i) (i + 1) (by omega)
  have e : i + 1 + (j - i) = j + 1 := by omega
  rwa [e] at this
theorem sumsL_rng {h : List Int} (hh : NN h) (hl : h.length ≤ 21) (j : Nat) : Rng ((sumsL h).getD j 0) := by
  by_cases hj : j < h.length
  · rw [sumsL_getD h j hj]
    have := psum_bd hh (j + 1) (by omega)
    exact ⟨by omega, by omega⟩
  · rw [List.getD_eq_getElem?_getD, List.getElem?_eq_none (by rw [sumsL_length]; omega)]; exact ⟨by simp, by simp⟩
theorem histB_NN {h : List Int} (hh : histB h = true) : NN h := fun j => histB_in hh j
/-- how many elements of a list that does not fall are less -/
theorem cnt_at {S : List Int} {x : Int} {k : Nat} (hk : k < S.length) (h1 : ∀ j, j < k → S.getD j 0 < x) (h2 : x ≤ S.getD k 0) (hs : S.Pairwise (· ≤ ·)) : S.countP (· < x) = k := by
  have e := List.take_append_drop k S
  have h3 : (S.take k).countP (· < x) = k := by
    have : (S.take k).countP (· < x) = (S.take k).length := by
      rw [List.countP_eq_length]
      intro y hy
      obtain ⟨i, hi, rfl⟩ := List.getElem_of_mem hy
      rw [List.length_take] at hi
      have := h1 i (by omega)
      rw [List.getD_eq_getElem?_getD, List.getElem?_eq_getElem (by omega)] at this
      rw [List.getElem_take]
      simpa using this
    rw [this, List.length_take]; omega
  have h4 : (S.drop k).countP (· < x) = 0 := by
    rw [List.countP_eq_zero]
    intro y hy
    obtain ⟨i, hi, rfl⟩ := List.getElem_of_mem hy
    rw [List.length_drop] at hi
    rw [List.getElem_drop]
    rw [List.getD_eq_getElem?_getD, List.getElem?_eq_getElem hk] at h2
    simp only [Option.getD_some] at h2
    simp only [decide_eq_true_eq]
    by_cases e : i = 0
    · subst e; simp; omega
    · have := List.pairwise_iff_getElem.1 hs k (k + i) hk (by omega) (by omega)
      omega
  rw [← e, List.countP_append, h3, h4, Nat.add_zero]

set_option maxRecDepth 100000 in
set_option maxHeartbeats 4000000 in
theorem runningSums_any (v : Value) (xs : List Int) (w : World) (h : IL w w.heap.size v xs) (hh : histB xs = true) :
    Calls Try.prog 45 #[v] w (OwnPost w.heap.size (sumsL xs) w) := by
  obtain ⟨-, hlen, A, c, rfl, h3⟩ := h
  obtain ⟨i0, hi, hz0, hz1, hz2⟩ := info_parts u_info_i64
  have HPB := Lib.hid (psum_bd (histB_NN hh))
  have HPS := Lib.hid (fun (k : Nat) (hk : k < xs.length) => psum_succ (h := xs) hk)
  have HNN := Lib.hid (histB_NN hh)
  have HLN := Lib.hid (histB_len hh)
  have HSL := Lib.hid (sumsL_length xs)
  have HSG := Lib.hid (sumsL_getD xs)
  clear hh
  go_enter Try.func45, Try.ntmps45
  go_wp2_with fail
  go_loopw [9, 3, 4] (fun i u s wr => ∃ k : Nat, k ≤ xs.length ∧ i = .int .i64 (k : Int) ∧ s = .int .i64 (psum xs k) ∧ wr.ownsRow w.heap.size 2 1 u k (ints ((sumsL xs).take k)) ∧ Below w.heap.size w wr)
      (fun i _ _ _ => xs.length - (Go.RowKit.intOf i).toNat)
  case atStart => exact ⟨0, Nat.zero_le _, by simp, rfl, World.ownsRow_nil _ _ _ _, Below.refl _ _⟩
  case round =>
    obtain ⟨k, hk, rfl, rfl, hown, hb⟩ := hrel
    by_cases hlt : k < xs.length
    · rcases h3 with h3 | ⟨b1, o1, rfl, hbl1, hc1⟩
      · subst h3; simp at hlt
      have hx : wr.cell? ⟨b1, o1 + k, none⟩ = some (.int .i64 (xs.getD k 0)) := (hb.cell (p := ⟨b1, o1 + k, none⟩) hbl1).trans (hc1 k hlt)
      have hTk := Lib.hid (h_ints_take (sumsL xs) k (by rw [HSL.out]; exact hlt))
      rw [HSG.out k hlt, HPS.out k hlt] at hTk
      have hps := HPS.out k hlt
      have hp0 := HPB.out k (by omega)
      have hnn := HNN.out k
      have HPS1 := Lib.hid hps
      clear hps
      generalize xs.getD k 0 = x at *
      generalize psum xs k = p at *
      have hY : IntKind.i64.wrap (p + x) = p + x := IntWalk.i64_in _ (by have := HLN.out; omega)
      generalize hYY : p + x = y at hTk hY HPS1
      have hzz := hb.size
      have HL21 := HLN.out
      have Hb := Lib.hid hb
      clear hc1 hb hp0 hnn
      go_wp2_with (at_builtin; refine wpList_append_own _ rfl _ _ 57 rfl w.heap.size 2 i0 (.int .i64 0) 1 8 Try.underlying57 hi hz0 hz1 hz2 rfl (by decide) _ _ _ rfl (hown.alloc _) ⟨wr.heap.size, 0, none⟩ 1 1 [.int .i64 y] rfl rfl ?c1 ?c2 ?c3 ?c4 ?c5 ?_)
      case c1 => exact cell_one_new wr _ _
      case c2 => intro q hq; simp at hq; subst hq; rfl
      case c3 => unfold maxLen; omega
      case c4 => omega
      case c5 => first | omega | (simp; omega)
      intro v' w5 hown3 hgrow _
      rw [← hTk.out] at hown3
      have hb5 : Below w.heap.size w w5 := u_below_append Hb.out (Nat.le_refl _) hzz hown hgrow
      have HO5 := Lib.hid hown3
      have HB5 := Lib.hid hb5
      clear hgrow hown hown3 hb5
      go_wp2_with fail
      go_roundw
      case rel => exact ⟨k + 1, by omega, by go_num, by rw [HPS1.out], HO5.out, HB5.out⟩
      case measure => simp [Go.RowKit.intOf]; omega
    · obtain rfl : k = xs.length := by omega
      rw [List.take_of_length_le (by rw [HSL.out]; exact Nat.le_refl _)] at hown
      have HO := Lib.hid hown
      have HB := Lib.hid hb
      clear hown hb
      go_wp2_with fail
      go_ret
      exact ⟨_, rfl, by rw [HSL.out]; exact HO.out, HB.out⟩
end Go.Proofs.Ytljmiodkmddllaa
