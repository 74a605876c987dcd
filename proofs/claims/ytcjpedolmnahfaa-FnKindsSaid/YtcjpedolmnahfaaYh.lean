/- Walks: rolls, added one by one: the model. -/
import Derived.Test.YtcjpedolmnahfaaYb
import Derived.Test.YtcjpedolmnahfaaYf
set_option linter.unusedVariables false
set_option linter.unusedSimpArgs false
namespace Go.Proofs.Ytcjpedolmnahfaa
open Go.RowKit

def withR (y x : R6) : R6 := (y.1, wrap64 (y.2.1 + x.2.1), wrap64 (y.2.2.1 + x.2.2.1), min y.2.2.2.1 x.2.2.2.1, max y.2.2.2.2.1 x.2.2.2.2.1, x.2.2.2.2.2)
def lastR (xs : List R6) : R6 := xs.getD (xs.length - 1) z6
def addS (xs : List R6) (x : R6) : List R6 := if xs.length = 0 ∨ ¬ (lastR xs).1 = x.1 then xs ++ [x] else xs.set (xs.length - 1) (withR (lastR xs) x)
def oneR (W : Int) (p : Int × Int) : R6 := (p.1 / W * W, 1, p.2, p.2, p.2, p.2)
def rollsL (l : List (Int × Int)) (W : Int) : List R6 := (l.map (oneR W)).foldl addS []
def ptsSmB (l : List (Int × Int)) : Bool := l.all (fun p => smB p.2) && ptsOkB l
def rollsM (l : List (Int × Int)) (W : Int) : List R6 := if ptsSmB l = true ∧ wdB W = true then rollsL l W else []
def rollsB (l : List (Int × Int)) (W : Int) : Bool := ptsSmB l && wdB W
theorem rollsL_succ {l : List (Int × Int)} {k : Nat} (W : Int) (hk : k < l.length) : rollsL (l.take (k + 1)) W = addS (rollsL (l.take k) W) (oneR W (l.getD k (0, 0))) := by
  unfold rollsL
  rw [List.take_add_one, List.getElem?_eq_getElem hk, List.getD_eq_getElem?_getD, List.getElem?_eq_getElem hk, List.map_append, List.foldl_append]
  rfl
theorem addS_len (xs : List R6) (x : R6) : (addS xs x).length ≤ xs.length + 1 := by
  unfold addS
  split
  · simp
  · simp
theorem addS_pos (xs : List R6) (x : R6) : 0 < (addS xs x).length := by
  unfold addS
  split
  · simp
  · rename_i h
    have : ¬ xs.length = 0 := fun e => h (.inl e)
    simp; omega
theorem rollsF_len (l : List R6) : ∀ acc : List R6, (l.foldl addS acc).length ≤ acc.length + l.length := by
  induction l with
  | nil => intro acc; simp
  | cons x l ih =>
    intro acc
    have h1 := ih (addS acc x)
    have h2 := addS_len acc x
    rw [List.foldl_cons, List.length_cons]; omega
theorem rollsL_len (l : List (Int × Int)) (W : Int) : (rollsL l W).length ≤ l.length := by
  have := rollsF_len (l.map (oneR W)) []
  rw [List.length_map, List.length_nil] at this
  unfold rollsL; omega
theorem rng_wrap64 (n : Int) : Rng (wrap64 n) := by unfold Rng wrap64; omega
theorem rng_min {a b : Int} (ha : Rng a) (hb : Rng b) : Rng (min a b) := by unfold Rng at *; omega
theorem rng_max {a b : Int} (ha : Rng a) (hb : Rng b) : Rng (max a b) := by unfold Rng at *; omega
def RRs (xs : List R6) : Prop := ∀ x ∈ xs, Rng6 x
theorem rrs_getD {xs : List R6} (h : RRs xs) (j : Nat) : Rng6 (xs.getD j z6) := by
  by_cases hj : j < xs.length
  · rw [List.getD_eq_getElem?_getD, List.getElem?_eq_getElem hj]
    exact h _ (List.getElem_mem hj)
  · rw [List.getD_eq_getElem?_getD, List.getElem?_eq_none (by omega)]; exact rng6_zero
theorem rrs_of {xs : List R6} (h : ∀ j, Rng6 (xs.getD j z6)) : RRs xs := by
  intro p hp
  obtain ⟨i, hi, rfl⟩ := List.getElem_of_mem hp
  have := h i
  rw [List.getD_eq_getElem?_getD, List.getElem?_eq_getElem hi] at this
  exact this
theorem rrs_add {xs : List R6} {x : R6} (h : RRs xs) (hx : Rng6 x) : RRs (addS xs x) := by
  unfold addS
  split
  · intro p hp
    rcases List.mem_append.1 hp with h1 | h1
    · exact h p h1
    · simp at h1; subst h1; exact hx
  · intro p hp
    rcases List.mem_or_eq_of_mem_set hp with h1 | h1
    · exact h p h1
    · have hl := rrs_getD h (xs.length - 1)
      subst h1
      exact ⟨hl.1, rng_wrap64 _, rng_wrap64 _, rng_min hl.2.2.2.1 hx.2.2.2.1, rng_max hl.2.2.2.2.1 hx.2.2.2.2.1, hx.2.2.2.2.2⟩
theorem rrs_fold (l : List R6) : ∀ acc : List R6, RRs acc → RRs l → RRs (l.foldl addS acc) := by
  induction l with
  | nil => intro acc h _; exact h
  | cons x l ih =>
    intro acc h hl
    rw [List.foldl_cons]
    exact ih _ (rrs_add h (hl x (by simp))) (fun p hp => hl p (by simp [hp]))
theorem ptsOkB_at {l : List (Int × Int)} (h : ptsOkB l = true) {j : Nat} (hj : j < l.length) : (0 ≤ (l.getD j (0, 0)).1 ∧ (l.getD j (0, 0)).1 ≤ 1000000000000) ∧ (j = 0 ∨ (l.getD (j - 1) (0, 0)).1 < (l.getD j (0, 0)).1) := by
  unfold ptsOkB timesOkB at h
  rw [Bool.and_eq_true] at h
  have := goodTo_at h.2 (j := j) (by simpa using hj)
  unfold goodAt at this
  rw [tsOf_getD, tsOf_getD] at this
  simp only [Bool.and_eq_true, Bool.or_eq_true, decide_eq_true_eq] at this
  exact this
theorem div_small {t W : Int} (h0 : 0 ≤ t) (hW : 1 ≤ W) : 0 ≤ t / W * W ∧ t / W * W ≤ t := by
  have h1 := Int.ediv_mul_le t (b := W) (by omega)
  have h2 := Int.ediv_nonneg h0 (b := W) (by omega)
  exact ⟨Int.mul_nonneg h2 (by omega), h1⟩
theorem rollsL_ok (l : List (Int × Int)) (W : Int) (hr : ∀ j, Rng (l.getD j (0, 0)).1 ∧ Rng (l.getD j (0, 0)).2) (hp : ptsOkB l = true) (hW : 1 ≤ W) : RRs (rollsL l W) := by
  refine rrs_fold _ [] (fun p hp => by simp at hp) (fun x hx => ?_)
  obtain ⟨p, hp1, rfl⟩ := List.mem_map.1 hx
  have hv := (prng_mem hr p hp1).2
  obtain ⟨i, hi, rfl⟩ := List.getElem_of_mem hp1
  have h2 := (ptsOkB_at hp hi).1
  rw [List.getD_eq_getElem?_getD, List.getElem?_eq_getElem hi] at h2
  have h3 := div_small (W := W) h2.1 hW
  simp only [Option.getD_some] at h2 h3
  refine ⟨?_, (show Rng 1 from ⟨by omega, by omega⟩), hv, hv, hv, hv⟩
  show Rng (l[i].1 / W * W)
  unfold Rng; omega
theorem rollsM_ok (l : List (Int × Int)) (W : Int) (hr : ∀ j, Rng (l.getD j (0, 0)).1 ∧ Rng (l.getD j (0, 0)).2) (hl : l.length ≤ 1048576) : (∀ j, Rng6 ((rollsM l W).getD j z6)) ∧ (rollsM l W).length ≤ 1048576 := by
  unfold rollsM
  split
  · rename_i h
    have h1 : ptsOkB l = true := by have := h.1; unfold ptsSmB at this; rw [Bool.and_eq_true] at this; exact this.2
    have h2 : 1 ≤ W := by have := h.2; unfold wdB vIn at this; rw [decide_eq_true_eq] at this; exact this.1
    exact ⟨rrs_getD (rollsL_ok l W hr h1 h2), Nat.le_trans (rollsL_len l W) hl⟩
  · exact ⟨fun j => rng6_zero, Nat.zero_le _⟩
theorem cells_six {w : World} {b : Nat} {v0 v1 v2 v3 v4 v5 : Value} (h0 : w.cell? ⟨b, 0, none⟩ = some v0) (h1 : w.cell? ⟨b, 1, none⟩ = some v1) (h2 : w.cell? ⟨b, 2, none⟩ = some v2) (h3 : w.cell? ⟨b, 3, none⟩ = some v3) (h4 : w.cell? ⟨b, 4, none⟩ = some v4) (h5 : w.cell? ⟨b, 5, none⟩ = some v5) :
    ∀ (j : Nat) (u : Value), [v0, v1, v2, v3, v4, v5][j]? = some u → w.cell? ((⟨b, 0, none⟩ : Addr).add j) = some u := by
  intro j u hj
  match j with
  | 0 => simp at hj; subst hj; exact h0
  | 1 => simp at hj; subst hj; exact h1
  | 2 => simp at hj; subst hj; exact h2
  | 3 => simp at hj; subst hj; exact h3
  | 4 => simp at hj; subst hj; exact h4
  | 5 => simp at hj; subst hj; exact h5
  | j + 6 => simp at hj
theorem rls_one (xs : List R6) : ∀ u ∈ rls xs, u.oneCell' = true := by
  intro u hu
  unfold rls at hu
  obtain ⟨p, _, h2⟩ := List.mem_flatMap.1 hu
  unfold rl6 at h2
  simp at h2
  rcases h2 with rfl | rfl | rfl | rfl | rfl | rfl <;> rfl
theorem step_append_ownR {P : Program} (w : World) {ops : Array Oper} {o : Oper} {a : Act} {K : Act → World → Prop} {Q : Exit → Act → World → Prop} {E : Prop} (hgd : o.guard = none) (s x : Operand) (t : TypeId)
    (ho : o.op = .call { callee := .builtin .append, args := #[s, x], argTypes := #[t, t] })
    (base : Nat) (e : TypeId) (i : TypeInfo) (z : Value) (size bytes : Nat) (ht : P.underlying t = some (.slice e)) (hi : P.info? e = some i) (hz : i.zero = some z)
    (hsize : i.size = size) (hby : i.bytes = bytes) (hzs : z.cells.size = size) (hsz : 0 < size)
    (v : Value) (n : Nat) (xs : List Value) (hs : a.eval s = v) (hown : w.ownsRow base e size v n xs)
    (ad : Addr) (m c : Nat) (news : List Value) (hx : a.eval x = .slice (some ad) m c) (hl : news.length = m * size) (hnews : ∀ j u, news[j]? = some u → w.cell? (ad.add j) = some u) (h1 : ∀ u ∈ news, u.oneCell' = true)
    (h63 : n + m ≤ maxLen) (hbytes : (n + m) * bytes ≤ 140737488355328) (hbase : base ≤ w.heap.size)
    (h : ∀ v' w', w'.ownsRow base e size v' (n + m) (xs ++ news) → w.grownBy w' v.ownBlock → K (a.put o.dst v') w') :
    if Region.wanted o (yielded ops a.tmps) = true then Oper.wp P o a w K Q else E := by
  have hw : Region.wanted o (yielded ops a.tmps) = true := by simp [Region.wanted, hgd]
  rw [if_pos hw]
  exact wp_append_own w s x t ho base e i z size bytes ht hi hz hsize hby hzs hsz v n xs hs hown ad m c news hx hl hnews h1 h63 hbytes hbase fun v' w' h2 h3 _ => h v' w' h2 h3
/-- a slice that is not nil and reads as rolls: the cells in a row -/
def RS (w : World) (B : Nat) (ad : Addr) (xs : List R6) : Prop := xs.length ≤ 1048576 ∧ ad.block < B ∧ ∀ j u, (rls xs)[j]? = some u → w.cell? (ad.add j) = some u
theorem RS.below {w w' : World} {B : Nat} {ad : Addr} {xs : List R6} (h : RS w B ad xs) (hb : Below B w w') : RS w' B ad xs :=
  ⟨h.1, h.2.1, fun j u hu => (hb.cell (p := ad.add j) (by have := h.2.1; unfold Addr.add; split <;> exact this)).trans (h.2.2 j u hu)⟩
theorem RS.of_own {w : World} {base : Nat} {v : Value} {xs : List R6} (h : w.ownsRow base 48 6 v xs.length (rls xs)) (hp : 0 < xs.length) (hl : xs.length ≤ 1048576) : ∃ g c, v = .slice (some ⟨g, 0, none⟩) xs.length c ∧ RS w w.heap.size ⟨g, 0, none⟩ xs := by
  rcases h.2 with ⟨rfl, h0⟩ | ⟨g, cap, cur, rfl, hb, hg, _⟩
  · omega
  · exact ⟨g, cap, rfl, hl, (Array.getElem?_eq_some_iff.1 hg).1, fun j u hu => h.cells rfl j u hu⟩
end Go.Proofs.Ytcjpedolmnahfaa
