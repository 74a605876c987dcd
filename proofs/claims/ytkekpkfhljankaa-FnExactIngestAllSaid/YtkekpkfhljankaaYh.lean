/- Walks: the points of a time range. -/
import Derived.Test.YtkekpkfhljankaaGb
import Derived.Test.YtkekpkfhljankaaYb
set_option linter.unusedVariables false
set_option linter.unusedSimpArgs false
namespace Go.Proofs.Ytkekpkfhljankaa
open Go.RowKit

def inW (f t : Int) (p : Int × Int) : Bool := decide (f ≤ p.1) && decide (p.1 < t)
def btwL (xs : List (Int × Int)) (f t : Int) : List (Int × Int) := xs.filter (inW f t)
def btwM (xs : List (Int × Int)) (f t : Int) : List (Int × Int) := if ptsOkB xs = true then btwL xs f t else []
theorem btwL_succ {xs : List (Int × Int)} {k : Nat} (f t : Int) (hk : k < xs.length) :
    btwL (xs.take (k + 1)) f t = btwL (xs.take k) f t ++ (if inW f t (xs.getD k (0, 0)) = true then [xs.getD k (0, 0)] else []) := by
  unfold btwL
  rw [List.take_add_one, List.filter_append, List.getElem?_eq_getElem hk, List.getD_eq_getElem?_getD, List.getElem?_eq_getElem hk]
  simp [List.filter_cons]
theorem btwL_len (xs : List (Int × Int)) (f t : Int) (k : Nat) : (btwL (xs.take k) f t).length ≤ k := by
  have h1 : (btwL (xs.take k) f t).length ≤ (xs.take k).length := List.length_filter_le _ _
  have h2 : (xs.take k).length ≤ k := List.length_take_le _ _
  omega
theorem prng_mem {xs : List (Int × Int)} (h : ∀ j, Rng (xs.getD j (0, 0)).1 ∧ Rng (xs.getD j (0, 0)).2) : ∀ p ∈ xs, Rng p.1 ∧ Rng p.2 := by
  intro p hp
  obtain ⟨i, hi, rfl⟩ := List.getElem_of_mem hp
  have := h i
  rw [List.getD_eq_getElem?_getD, List.getElem?_eq_getElem hi] at this
  exact this
theorem prng_of {xs : List (Int × Int)} (h : ∀ p ∈ xs, Rng p.1 ∧ Rng p.2) (j : Nat) : Rng (xs.getD j (0, 0)).1 ∧ Rng (xs.getD j (0, 0)).2 := by
  by_cases hj : j < xs.length
  · rw [List.getD_eq_getElem?_getD, List.getElem?_eq_getElem hj]
    exact h _ (List.getElem_mem hj)
  · rw [List.getD_eq_getElem?_getD, List.getElem?_eq_none (by omega)]; exact ⟨rng_zero, rng_zero⟩
theorem btwL_ok (xs : List (Int × Int)) (f t : Int) (h : ∀ j, Rng (xs.getD j (0, 0)).1 ∧ Rng (xs.getD j (0, 0)).2) (hl : xs.length ≤ 1048576) :
    (∀ j, Rng ((btwL xs f t).getD j (0, 0)).1 ∧ Rng ((btwL xs f t).getD j (0, 0)).2) ∧ (btwL xs f t).length ≤ 1048576 :=
  ⟨prng_of fun p hp => prng_mem h p ((List.mem_filter.1 hp).1), Nat.le_trans (List.length_filter_le _ _) hl⟩
theorem btwM_ok (xs : List (Int × Int)) (f t : Int) (h : ∀ j, Rng (xs.getD j (0, 0)).1 ∧ Rng (xs.getD j (0, 0)).2) (hl : xs.length ≤ 1048576) :
    (∀ j, Rng ((btwM xs f t).getD j (0, 0)).1 ∧ Rng ((btwM xs f t).getD j (0, 0)).2) ∧ (btwM xs f t).length ≤ 1048576 := by
  unfold btwM
  split
  · exact btwL_ok xs f t h hl
  · exact ⟨fun j => ⟨rng_zero, rng_zero⟩, Nat.zero_le _⟩
theorem two_cells {w : World} {b : Nat} {x y : Value} (h0 : w.cell? ⟨b, 0, none⟩ = some x) (h1 : w.cell? ⟨b, 1, none⟩ = some y) : ∀ (j : Nat) (u : Value), [x, y][j]? = some u → w.cell? ((⟨b, 0, none⟩ : Addr).add j) = some u := by
  intro j u hj
  match j with
  | 0 => simp at hj; subst hj; exact h0
  | 1 => simp at hj; subst hj; exact h1
  | j + 2 => simp at hj

theorem own_mono {w : World} {base base' sz : Nat} {e : TypeId} {v : Value} {n : Nat} {xs : List Value} (h : w.ownsRow base e sz v n xs) (hb : base' ≤ base) : w.ownsRow base' e sz v n xs :=
  ⟨h.1, h.2.imp id fun ⟨g, cap, cur, a, b, c⟩ => ⟨g, cap, cur, a, Nat.le_trans hb b, c⟩⟩
theorem below_appendN {w wr w1 : World} {B base sz : Nat} {e : TypeId} {v : Value} {n : Nat} {xs : List Value} {o : Obj} (hb : Below B w wr) (hB : B ≤ base) (hBw : B ≤ wr.heap.size) (hown : wr.ownsRow base e sz v n xs) (hgrow : (wr.alloc o).grownBy w1 v.ownBlock) : Below B w w1 :=
  (hb.alloc (by omega) _).grown hgrow (by simp; omega) (fun k hk => by have := (hown.lt _ hk).1; omega)



set_option maxRecDepth 100000 in
set_option maxHeartbeats 2000000 in
theorem implBetween_any (v : Value) (xs : List (Int × Int)) (f t : Int) (w : World) (h : PL w w.heap.size v xs) :
    Calls Try.prog 49 #[v, .int .i64 f, .int .i64 t] w (POwnPost w.heap.size (btwM xs f t) w) := by
  have HP := Lib.hid h
  have hP := Lib.hid (fun W h => implPointsOk_any v xs W h)
  unfold btwM
  obtain ⟨hr, hlen, A, c, rfl, h3⟩ := h
  clear hr
  obtain ⟨i0, hi, hz0, hz1, hz2⟩ := info_parts info_pt
  have HL := Lib.hid (btwL_len xs f t)
  cases hok : ptsOkB xs with
  | false =>
    rw [hok] at hP
    clear hok
    go_enter Try.func49, Try.ntmps49
    go_wp2_with fail
    refine (hP.out _ HP.out).mono ?_
    rintro e w1 ⟨rfl, hb1⟩
    go_wp2_with fail
    go_ret
    exact ⟨_, rfl, World.ownsRow_nil _ _ _ _, hb1⟩
  | true =>
    rw [hok] at hP
    clear hok
    go_enter Try.func49, Try.ntmps49
    go_wp2_with fail
    refine (hP.out _ HP.out).mono ?_
    rintro e w1 ⟨rfl, hb1⟩
    clear HP hP
    go_wp2_with fail
    go_loopw [7, 15] (fun v i wr => ∃ k : Nat, k ≤ xs.length ∧ i = .int .i64 k ∧ wr.ownsRow w.heap.size 36 2 v (btwL (xs.take k) f t).length (prs (btwL (xs.take k) f t)) ∧ Below w.heap.size w wr)
      (fun _ i _ => xs.length - (intOf i).toNat)
    case atStart =>
      refine ⟨0, Nat.zero_le _, rfl, ?_, hb1⟩
      simpa [btwL, prs] using World.ownsRow_nil w1 w.heap.size 36 2
    case round =>
      clear hb1
      obtain ⟨k, hk, rfl, hown, hb⟩ := hrel
      have hsz := hb.size
      by_cases hlt : k < xs.length
      · rcases h3 with h3 | ⟨b, off, rfl, hbl, hc⟩
        · subst h3; simp at hlt
        have hx0 : wr.cell? ⟨b, off + k * 2, none⟩ = some (.int .i64 (xs.getD k (0, 0)).1) := (hb.cell (p := ⟨b, off + k * 2, none⟩) hbl).trans (hc k hlt).1
        have hx1 : wr.cell? ⟨b, off + k * 2 + 1, none⟩ = some (.int .i64 (xs.getD k (0, 0)).2) := (hb.cell (p := ⟨b, off + k * 2 + 1, none⟩) hbl).trans (hc k hlt).2
        have HS := btwL_succ f t hlt
        have hlk := HL.out k
        obtain ⟨x, y, hX⟩ : ∃ x y, xs.getD k (0, 0) = (x, y) := ⟨_, _, rfl⟩
        rw [hX] at hx0 hx1 HS
        have HS := Lib.hid HS
        clear hX hc
        generalize btwL (xs.take k) f t = ys at *
        have HB := Lib.hid (hb.alloc hsz (.cells #[.int .i64 x, .int .i64 y] 36))
        have HO := Lib.hid (hown.alloc (.cells #[.int .i64 x, .int .i64 y] 36))
        clear hb hown
        by_cases g1 : f ≤ x
        case neg =>
          have E := HS.out
          rw [show inW f t (x, y) = false from by unfold inW; rw [decide_eq_false g1]; rfl, if_neg (by simp), List.append_nil] at E
          have E := Lib.hid E
          go_wp2_with fail
          go_roundw
          case rel => exact ⟨k + 1, by omega, by go_num, by rw [E.out]; exact HO.out, HB.out⟩
          case measure => simp [intOf]; omega
        by_cases g2 : x < t
        case neg =>
          have E := HS.out
          rw [show inW f t (x, y) = false from by unfold inW; rw [decide_eq_false g2, Bool.and_false], if_neg (by simp), List.append_nil] at E
          have E := Lib.hid E
          go_wp2_with fail
          go_roundw
          case rel => exact ⟨k + 1, by omega, by go_num, by rw [E.out]; exact HO.out, HB.out⟩
          case measure => simp [intOf]; omega
        have E := HS.out
        rw [show inW f t (x, y) = true from by unfold inW; rw [decide_eq_true g1, decide_eq_true g2]; rfl, if_pos rfl] at E
        have E := Lib.hid E
        clear HS
        go_wp2_with (at_builtin; refine wpList_append_own _ rfl _ _ 29 rfl w.heap.size 36 i0 (.agg #[.int .i64 0, .int .i64 0]) 2 16 Try.underlying29 hi hz0 hz1 hz2 rfl (by decide) _ _ _ rfl (HO.out.alloc _) ⟨wr.heap.size + 1, 0, none⟩ 1 1 [.int .i64 x, .int .i64 y] rfl rfl (two_cells (by go_simp) (by go_simp)) ?c2 ?c3 ?c4 ?c5 ?_)
        case c2 => first | rfl | exact ⟨rfl, rfl⟩ | (intro u hu; simp at hu; rcases hu with rfl | rfl <;> rfl)
        case c3 => unfold maxLen; omega
        case c4 => omega
        case c5 => first | omega | (simp; omega)
        intro v' w4 hown' hgrow _
        have hb4 := below_appendN HB.out (Nat.le_refl _) (by simp; omega) HO.out hgrow
        have hown5 := Lib.hid (show w4.ownsRow w.heap.size 36 2 v' (btwL (xs.take (k + 1)) f t).length (prs (btwL (xs.take (k + 1)) f t)) from by rw [E.out, prs_append, List.length_append]; exact hown')
        have HB4 := Lib.hid hb4
        clear hown' hgrow hb4
        go_wp2_with fail
        go_roundw
        case rel => exact ⟨k + 1, by omega, by go_num, hown5.out, HB4.out⟩
        case measure => simp [intOf]; omega
      · obtain rfl : k = xs.length := by omega
        rw [List.take_length] at hown
        go_wp2_with fail
        go_ret
        exact ⟨_, rfl, by simpa using hown, hb⟩
end Go.Proofs.Ytkekpkfhljankaa

/- Walks: rolls, added one by one: the model. -/
set_option linter.unusedVariables false
set_option linter.unusedSimpArgs false
namespace Go.Proofs.Ytkekpkfhljankaa
open Go.RowKit

def withR (y x : R6) : R6 := (y.1, wrap64 (y.2.1 + x.2.1), wrap64 (y.2.2.1 + x.2.2.1), min y.2.2.2.1 x.2.2.2.1, max y.2.2.2.2.1 x.2.2.2.2.1, x.2.2.2.2.2)
def lastR (xs : List R6) : R6 := xs.getD (xs.length - 1) z6
def addS (xs : List R6) (x : R6) : List R6 := if xs.length = 0 ∨ ¬ (lastR xs).1 = x.1 then xs ++ [x] else xs.set (xs.length - 1) (withR (lastR xs) x)
def oneR (W : Int) (p : Int × Int) : R6 := (p.1 / W * W, 1, p.2, p.2, p.2, p.2)
def rollsL (l : List (Int × Int)) (W : Int) : List R6 := (l.map (oneR W)).foldl addS []
def ptsSmB (l : List (Int × Int)) : Bool := l.all (fun p => smB p.2) && ptsOkB l
def rollsM (l : List (Int × Int)) (W : Int) : List R6 := if ptsSmB l = true ∧ wdB W = true then rollsL l W else []
def rollsB (l : List (Int × Int)) (W : Int) : Bool := ptsSmB l && wdB W
theorem rollsL_succ {l : List (Int × Int)} {k : Nat} (W : Int) (hk : k < l.length) : rollsL (l.take (k + 1)) W = addS (rollsL (l.take k) W) (oneR W (l.getD k (0, 0))) := by
  unfold rollsL
  rw [List.take_add_one, List.getElem?_eq_getElem hk, List.getD_eq_getElem?_getD, List.getElem?_eq_getElem hk, List.map_append, List.foldl_append]
  rfl
theorem addS_len (xs : List R6) (x : R6) : (addS xs x).length ≤ xs.length + 1 := by
  unfold addS
  split
  · simp
  · simp
theorem addS_pos (xs : List R6) (x : R6) : 0 < (addS xs x).length := by
  unfold addS
  split
  · simp
  · rename_i h
    have : ¬ xs.length = 0 := fun e => h (.inl e)
    simp; omega
theorem rollsF_len (l : List R6) : ∀ acc : List R6, (l.foldl addS acc).length ≤ acc.length + l.length := by
  induction l with
  | nil => intro acc; simp
  | cons x l ih =>
    intro acc
    have h1 := ih (addS acc x)
    have h2 := addS_len acc x
    rw [List.foldl_cons, List.length_cons]; omega
theorem rollsL_len (l : List (Int × Int)) (W : Int) : (rollsL l W).length ≤ l.length := by
  have := rollsF_len (l.map (oneR W)) []
  rw [List.length_map, List.length_nil] at this
  unfold rollsL; omega
theorem rng_wrap64 (n : Int) : Rng (wrap64 n) := by unfold Rng wrap64; omega
theorem rng_min {a b : Int} (ha : Rng a) (hb : Rng b) : Rng (min a b) := by unfold Rng at *; omega
theorem rng_max {a b : Int} (ha : Rng a) (hb : Rng b) : Rng (max a b) := by unfold Rng at *; omega
def RRs (xs : List R6) : Prop := ∀ x ∈ xs, Rng6 x
theorem rrs_getD {xs : List R6} (h : RRs xs) (j : Nat) : Rng6 (xs.getD j z6) := by
  by_cases hj : j < xs.length
  · rw [List.getD_eq_getElem?_getD, List.getElem?_eq_getElem hj]
    exact h _ (List.getElem_mem hj)
  · rw [List.getD_eq_getElem?_getD, List.getElem?_eq_none (by omega)]; exact rng6_zero
theorem rrs_of {xs : List R6} (h : ∀ j, Rng6 (xs.getD j z6)) : RRs xs := by
  intro p hp
  obtain ⟨i, hi, rfl⟩ := List.getElem_of_mem hp
  have := h i
  rw [List.getD_eq_getElem?_getD, List.getElem?_eq_getElem hi] at this
  exact this
theorem rrs_add {xs : List R6} {x : R6} (h : RRs xs) (hx : Rng6 x) : RRs (addS xs x) := by
  unfold addS
  split
  · intro p hp
    rcases List.mem_append.1 hp with h1 | h1
    · exact h p h1
    · simp at h1; subst h1; exact hx
  · intro p hp
    rcases List.mem_or_eq_of_mem_set hp with h1 | h1
    · exact h p h1
    · have hl := rrs_getD h (xs.length - 1)
      subst h1
      exact ⟨hl.1, rng_wrap64 _, rng_wrap64 _, rng_min hl.2.2.2.1 hx.2.2.2.1, rng_max hl.2.2.2.2.1 hx.2.2.2.2.1, hx.2.2.2.2.2⟩
theorem rrs_fold (l : List R6) : ∀ acc : List R6, RRs acc → RRs l → RRs (l.foldl addS acc) := by
  induction l with
  | nil => intro acc h _; exact h
  | cons x l ih =>
    intro acc h hl
    rw [List.foldl_cons]
    exact ih _ (rrs_add h (hl x (by simp))) (fun p hp => hl p (by simp [hp]))
theorem ptsOkB_at {l : List (Int × Int)} (h : ptsOkB l = true) {j : Nat} (hj : j < l.length) : (0 ≤ (l.getD j (0, 0)).1 ∧ (l.getD j (0, 0)).1 ≤ 1000000000000) ∧ (j = 0 ∨ (l.getD (j - 1) (0, 0)).1 < (l.getD j (0, 0)).1) := by
  unfold ptsOkB timesOkB at h
  rw [Bool.and_eq_true] at h
  have := goodTo_at h.2 (j := j) (by simpa using hj)
  unfold goodAt at this
  rw [tsOf_getD, tsOf_getD] at this
  simp only [Bool.and_eq_true, Bool.or_eq_true, decide_eq_true_eq] at this
  exact this
theorem div_small {t W : Int} (h0 : 0 ≤ t) (hW : 1 ≤ W) : 0 ≤ t / W * W ∧ t / W * W ≤ t := by
  have h1 := Int.ediv_mul_le t (b := W) (by omega)
  have h2 := Int.ediv_nonneg h0 (b := W) (by omega)
  exact ⟨Int.mul_nonneg h2 (by omega), h1⟩
theorem rollsL_ok (l : List (Int × Int)) (W : Int) (hr : ∀ j, Rng (l.getD j (0, 0)).1 ∧ Rng (l.getD j (0, 0)).2) (hp : ptsOkB l = true) (hW : 1 ≤ W) : RRs (rollsL l W) := by
  refine rrs_fold _ [] (fun p hp => by simp at hp) (fun x hx => ?_)
  obtain ⟨p, hp1, rfl⟩ := List.mem_map.1 hx
  have hv := (prng_mem hr p hp1).2
  obtain ⟨i, hi, rfl⟩ := List.getElem_of_mem hp1
  have h2 := (ptsOkB_at hp hi).1
  rw [List.getD_eq_getElem?_getD, List.getElem?_eq_getElem hi] at h2
  have h3 := div_small (W := W) h2.1 hW
  simp only [Option.getD_some] at h2 h3
  refine ⟨?_, (show Rng 1 from ⟨by omega, by omega⟩), hv, hv, hv, hv⟩
  show Rng (l[i].1 / W * W)
  unfold Rng; omega
theorem rollsM_ok (l : List (Int × Int)) (W : Int) (hr : ∀ j, Rng (l.getD j (0, 0)).1 ∧ Rng (l.getD j (0, 0)).2) (hl : l.length ≤ 1048576) : (∀ j, Rng6 ((rollsM l W).getD j z6)) ∧ (rollsM l W).length ≤ 1048576 := by
  unfold rollsM
  split
  · rename_i h
    have h1 : ptsOkB l = true := by have := h.1; unfold ptsSmB at this; rw [Bool.and_eq_true] at this; exact this.2
    have h2 : 1 ≤ W := by have := h.2; unfold wdB vIn at this; rw [decide_eq_true_eq] at this; exact this.1
    exact ⟨rrs_getD (rollsL_ok l W hr h1 h2), Nat.le_trans (rollsL_len l W) hl⟩
  · exact ⟨fun j => rng6_zero, Nat.zero_le _⟩
theorem cells_six {w : World} {b : Nat} {v0 v1 v2 v3 v4 v5 : Value} (h0 : w.cell? ⟨b, 0, none⟩ = some v0) (h1 : w.cell? ⟨b, 1, none⟩ = some v1) (h2 : w.cell? ⟨b, 2, none⟩ = some v2) (h3 : w.cell? ⟨b, 3, none⟩ = some v3) (h4 : w.cell? ⟨b, 4, none⟩ = some v4) (h5 : w.cell? ⟨b, 5, none⟩ = some v5) :
    ∀ (j : Nat) (u : Value), [v0, v1, v2, v3, v4, v5][j]? = some u → w.cell? ((⟨b, 0, none⟩ : Addr).add j) = some u := by
  intro j u hj
  match j with
  | 0 => simp at hj; subst hj; exact h0
  | 1 => simp at hj; subst hj; exact h1
  | 2 => simp at hj; subst hj; exact h2
  | 3 => simp at hj; subst hj; exact h3
  | 4 => simp at hj; subst hj; exact h4
  | 5 => simp at hj; subst hj; exact h5
  | j + 6 => simp at hj
theorem rls_one (xs : List R6) : ∀ u ∈ rls xs, u.oneCell' = true := by
  intro u hu
  unfold rls at hu
  obtain ⟨p, _, h2⟩ := List.mem_flatMap.1 hu
  unfold rl6 at h2
  simp at h2
  rcases h2 with rfl | rfl | rfl | rfl | rfl | rfl <;> rfl
theorem step_append_ownR {P : Program} (w : World) {ops : Array Oper} {o : Oper} {a : Act} {K : Act → World → Prop} {Q : Exit → Act → World → Prop} {E : Prop} (hgd : o.guard = none) (s x : Operand) (t : TypeId)
    (ho : o.op = .call { callee := .builtin .append, args := #[s, x], argTypes := #[t, t] })
    (base : Nat) (e : TypeId) (i : TypeInfo) (z : Value) (size bytes : Nat) (ht : P.underlying t = some (.slice e)) (hi : P.info? e = some i) (hz : i.zero = some z)
    (hsize : i.size = size) (hby : i.bytes = bytes) (hzs : z.cells.size = size) (hsz : 0 < size)
    (v : Value) (n : Nat) (xs : List Value) (hs : a.eval s = v) (hown : w.ownsRow base e size v n xs)
    (ad : Addr) (m c : Nat) (news : List Value) (hx : a.eval x = .slice (some ad) m c) (hl : news.length = m * size) (hnews : ∀ j u, news[j]? = some u → w.cell? (ad.add j) = some u) (h1 : ∀ u ∈ news, u.oneCell' = true)
    (h63 : n + m ≤ maxLen) (hbytes : (n + m) * bytes ≤ 140737488355328) (hbase : base ≤ w.heap.size)
    (h : ∀ v' w', w'.ownsRow base e size v' (n + m) (xs ++ news) → w.grownBy w' v.ownBlock → K (a.put o.dst v') w') :
    if Region.wanted o (yielded ops a.tmps) = true then Oper.wp P o a w K Q else E := by
  have hw : Region.wanted o (yielded ops a.tmps) = true := by simp [Region.wanted, hgd]
  rw [if_pos hw]
  exact wp_append_own w s x t ho base e i z size bytes ht hi hz hsize hby hzs hsz v n xs hs hown ad m c news hx hl hnews h1 h63 hbytes hbase fun v' w' h2 h3 _ => h v' w' h2 h3
/-- a slice that is not nil and reads as rolls: the cells in a row -/
def RS (w : World) (B : Nat) (ad : Addr) (xs : List R6) : Prop := xs.length ≤ 1048576 ∧ ad.block < B ∧ ∀ j u, (rls xs)[j]? = some u → w.cell? (ad.add j) = some u
theorem RS.below {w w' : World} {B : Nat} {ad : Addr} {xs : List R6} (h : RS w B ad xs) (hb : Below B w w') : RS w' B ad xs :=
  ⟨h.1, h.2.1, fun j u hu => (hb.cell (p := ad.add j) (by have := h.2.1; unfold Addr.add; split <;> exact this)).trans (h.2.2 j u hu)⟩
theorem RS.of_own {w : World} {base : Nat} {v : Value} {xs : List R6} (h : w.ownsRow base 60 6 v xs.length (rls xs)) (hp : 0 < xs.length) (hl : xs.length ≤ 1048576) : ∃ g c, v = .slice (some ⟨g, 0, none⟩) xs.length c ∧ RS w w.heap.size ⟨g, 0, none⟩ xs := by
  rcases h.2 with ⟨rfl, h0⟩ | ⟨g, cap, cur, rfl, hb, hg, _⟩
  · omega
  · exact ⟨g, cap, rfl, hl, (Array.getElem?_eq_some_iff.1 hg).1, fun j u hu => h.cells rfl j u hu⟩
end Go.Proofs.Ytkekpkfhljankaa
