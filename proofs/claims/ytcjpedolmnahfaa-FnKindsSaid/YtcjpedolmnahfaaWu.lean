/- Walks: append of a list that is read, or of none; rows of two types. -/
import Derived.Test.YtcjpedolmnahfaaPe
set_option linter.unusedVariables false
set_option linter.unusedSimpArgs false
namespace Go.Proofs.Ytcjpedolmnahfaa
open Go.RowKit

theorem run_append_none_c {P : Program} {w : World} (base : Nat) (t ty e : TypeId) (i : TypeInfo) (size : Nat) (ht : P.underlying t = some (.slice e)) (hi : P.info? e = some i)
    (v : Value) (n c : Nat) (xs : List Value) (hown : w.ownsRow base e size v n xs) :
    (Builtin.append_ #[t, t] ty #[v, .slice none 0 c]).run P w = .ok v w := by
  rcases hown.2 with ⟨rfl, rfl⟩ | ⟨g, cap, cur, rfl, _, _, hnc, _⟩
  · simp [Builtin.append_, run_underlying ht, sizeOf, typeInfo, hi, Builtin.lenOf, Builtin.firstCells]
  · simp [Builtin.append_, run_underlying ht, sizeOf, typeInfo, hi, Builtin.lenOf, Builtin.firstCells, hnc, storeCells]
theorem wp_append_none_c {P : Program} {w : World} {o : Oper} {a : Act} {K : Act → World → Prop} {Q : Exit → Act → World → Prop} (s x : Operand) (t : TypeId)
    (ho : o.op = .call { callee := .builtin .append, args := #[s, x], argTypes := #[t, t] })
    (base : Nat) (e : TypeId) (i : TypeInfo) (size : Nat) (ht : P.underlying t = some (.slice e)) (hi : P.info? e = some i)
    (v : Value) (n c : Nat) (xs : List Value) (hs : a.eval s = v) (hown : w.ownsRow base e size v n xs) (hx : a.eval x = .slice none 0 c)
    (h : K (a.put o.dst v) w) : Oper.wp P o a w K Q := by
  have hrun := run_append_none_c (P := P) (w := w) base t o.type e i size ht hi v n c xs hown
  unfold Oper.wp
  simp [execOp, ho, resolve, invoke, builtin, hs, hx, hrun, Result.andThen]
  exact h
/-- the value u is a slice of m elements whose cells read ys -/
def Src (w : World) (u : Value) (m : Nat) (ys : List Value) : Prop :=
  ∃ A c, u = .slice A m c ∧ ((A = none ∧ m = 0 ∧ ys = []) ∨ ∃ ad, A = some ad ∧ ∀ j q, ys[j]? = some q → w.cell? (ad.add j) = some q)
theorem wp_append_src {P : Program} {w : World} {o : Oper} {a : Act} {K : Act → World → Prop} {Q : Exit → Act → World → Prop} (s x : Operand) (t : TypeId)
    (ho : o.op = .call { callee := .builtin .append, args := #[s, x], argTypes := #[t, t] })
    (base : Nat) (e : TypeId) (i : TypeInfo) (z : Value) (size bytes : Nat) (ht : P.underlying t = some (.slice e)) (hi : P.info? e = some i) (hz : i.zero = some z)
    (hsize : i.size = size) (hby : i.bytes = bytes) (hzs : z.cells.size = size) (hsz : 0 < size)
    (v : Value) (n : Nat) (xs : List Value) (hs : a.eval s = v) (hown : w.ownsRow base e size v n xs)
    (u : Value) (m : Nat) (ys : List Value) (hx : a.eval x = u) (hu : Src w u m ys) (hl : ys.length = m * size) (h1 : ∀ q ∈ ys, q.oneCell' = true)
    (h63 : n + m ≤ maxLen) (hbytes : (n + m) * bytes ≤ 140737488355328) (hbase : base ≤ w.heap.size)
    (h : ∀ v' w', w'.ownsRow base e size v' (n + m) (xs ++ ys) → w.grownBy w' v.ownBlock → K (a.put o.dst v') w') : Oper.wp P o a w K Q := by
  obtain ⟨A, c, rfl, hu⟩ := hu
  rcases hu with ⟨rfl, rfl, rfl⟩ | ⟨ad, rfl, hc⟩
  · exact wp_append_none_c s x t ho base e i size ht hi v n c xs hs hown hx (h v w (by simpa using hown) (World.grownBy.refl _ _))
  · exact wp_append_own w s x t ho base e i z size bytes ht hi hz hsize hby hzs hsz v n xs hs hown ad m c ys hx hl hc h1 h63 hbytes hbase fun v' w' h2 h3 _ => h v' w' h2 h3
theorem wpList_append_src {P : Program} {w : World} {ops : Array Oper} {rest : List Oper} {o : Oper} {a : Act} {Q : Exit → Act → World → Prop} (hgd : o.guard = none) (s x : Operand) (t : TypeId)
    (ho : o.op = .call { callee := .builtin .append, args := #[s, x], argTypes := #[t, t] })
    (base : Nat) (e : TypeId) (i : TypeInfo) (z : Value) (size bytes : Nat) (ht : P.underlying t = some (.slice e)) (hi : P.info? e = some i) (hz : i.zero = some z)
    (hsize : i.size = size) (hby : i.bytes = bytes) (hzs : z.cells.size = size) (hsz : 0 < size)
    (v : Value) (n : Nat) (xs : List Value) (hs : a.eval s = v) (hown : w.ownsRow base e size v n xs)
    (u : Value) (m : Nat) (ys : List Value) (hx : a.eval x = u) (hu : Src w u m ys) (hl : ys.length = m * size) (h1 : ∀ q ∈ ys, q.oneCell' = true)
    (h63 : n + m ≤ maxLen) (hbytes : (n + m) * bytes ≤ 140737488355328) (hbase : base ≤ w.heap.size)
    (h : ∀ v' w', w'.ownsRow base e size v' (n + m) (xs ++ ys) → w.grownBy w' v.ownBlock → wpList P ops Q rest (a.put o.dst v') w') : wpList P ops Q (o :: rest) a w :=
  wpList_plain hgd fun K hK => wp_append_src s x t ho base e i z size bytes ht hi hz hsize hby hzs hsz v n xs hs hown u m ys hx hu hl h1 h63 hbytes hbase fun v' w' h2 h3 => hK _ _ (h v' w' h2 h3)
theorem step_append_src {P : Program} (w : World) {ops : Array Oper} {o : Oper} {a : Act} {K : Act → World → Prop} {Q : Exit → Act → World → Prop} {E : Prop} (hgd : o.guard = none) (s x : Operand) (t : TypeId)
    (ho : o.op = .call { callee := .builtin .append, args := #[s, x], argTypes := #[t, t] })
    (base : Nat) (e : TypeId) (i : TypeInfo) (z : Value) (size bytes : Nat) (ht : P.underlying t = some (.slice e)) (hi : P.info? e = some i) (hz : i.zero = some z)
    (hsize : i.size = size) (hby : i.bytes = bytes) (hzs : z.cells.size = size) (hsz : 0 < size)
    (v : Value) (n : Nat) (xs : List Value) (hs : a.eval s = v) (hown : w.ownsRow base e size v n xs)
    (u : Value) (m : Nat) (ys : List Value) (hx : a.eval x = u) (hu : Src w u m ys) (hl : ys.length = m * size) (h1 : ∀ q ∈ ys, q.oneCell' = true)
    (h63 : n + m ≤ maxLen) (hbytes : (n + m) * bytes ≤ 140737488355328) (hbase : base ≤ w.heap.size)
    (h : ∀ v' w', w'.ownsRow base e size v' (n + m) (xs ++ ys) → w.grownBy w' v.ownBlock → K (a.put o.dst v') w') :
    if Region.wanted o (yielded ops a.tmps) = true then Oper.wp P o a w K Q else E := by
  have hw : Region.wanted o (yielded ops a.tmps) = true := by simp [Region.wanted, hgd]
  rw [if_pos hw]
  exact wp_append_src s x t ho base e i z size bytes ht hi hz hsize hby hzs hsz v n xs hs hown u m ys hx hu hl h1 h63 hbytes hbase h
theorem Src.below {w w' : World} {B : Nat} {u : Value} {m : Nat} {ys : List Value} (h : Src w u m ys) (hb : Below B w w') (hB : ∀ A c, u = .slice (some A) m c → 0 < m → A.block < B) (hl : 0 < ys.length → 0 < m) : Src w' u m ys := by
  obtain ⟨A, c, rfl, h⟩ := h
  refine ⟨A, c, rfl, ?_⟩
  rcases h with h | ⟨ad, rfl, h⟩
  · exact .inl h
  · refine .inr ⟨ad, rfl, fun j q hq => ?_⟩
    have hp : 0 < ys.length := by
      have := (List.getElem?_eq_some_iff.1 hq).1; omega
    have hlt := hB ad c rfl (hl hp)
    exact (hb.cell (p := ad.add j) (by unfold Addr.add; split <;> exact hlt)).trans (h j q hq)
theorem PL.src {w : World} {B : Nat} {v : Value} {xs : List (Int × Int)} (h : PL w B v xs) : Src w v xs.length (prs xs) := by
  obtain ⟨_, _, A, c, rfl, h⟩ := h
  refine ⟨A, c, rfl, ?_⟩
  cases A with
  | none =>
    rcases h with h | ⟨b, off, e, _⟩
    · subst h; exact .inl ⟨rfl, rfl, rfl⟩
    · cases e
  | some ad =>
    refine .inr ⟨ad, rfl, fun j q hq => ?_⟩
    rcases h with h | ⟨b, off, e, _, hc⟩
    · subst h; simp [prs] at hq
    · injection e with e
      subst e
      have hj := (List.getElem?_eq_some_iff.1 hq).1
      rw [prs_length] at hj
      have ha : (⟨b, off, none⟩ : Addr).add j = ⟨b, off + j, none⟩ := by unfold Addr.add; split <;> simp_all
      rw [ha]
      obtain ⟨h0, h1⟩ := hc (j / 2) (by omega)
      rcases (show j % 2 = 0 ∨ j % 2 = 1 by omega) with e | e
      · have e2 : j = j / 2 * 2 := by omega
        rw [e2, prs_get0 _ _ (by omega)] at hq
        have e3 : off + j / 2 * 2 = off + j := by omega
        rw [e3] at h0; rw [h0]; exact hq
      · have e2 : j = j / 2 * 2 + 1 := by omega
        rw [e2, prs_get1 _ _ (by omega)] at hq
        have e3 : off + j / 2 * 2 + 1 = off + j := by omega
        rw [e3] at h1; rw [h1]; exact hq
theorem RL.src {w : World} {B : Nat} {v : Value} {xs : List R6} (h : RL w B v xs) : Src w v xs.length (rls xs) := by
  obtain ⟨_, _, A, c, rfl, h⟩ := h
  refine ⟨A, c, rfl, ?_⟩
  cases A with
  | none =>
    rcases h with h | ⟨b, off, e, _⟩
    · subst h; exact .inl ⟨rfl, rfl, rfl⟩
    · cases e
  | some ad =>
    refine .inr ⟨ad, rfl, fun j q hq => ?_⟩
    rcases h with h | ⟨b, off, e, _, hc⟩
    · subst h; simp [rls] at hq
    · injection e with e
      subst e
      have hj := (List.getElem?_eq_some_iff.1 hq).1
      rw [rls_length] at hj
      have ha : (⟨b, off, none⟩ : Addr).add j = ⟨b, off + j, none⟩ := by unfold Addr.add; split <;> simp_all
      rw [ha]
      obtain ⟨h0, h1, h2, h3, h4, h5⟩ := hc (j / 6) (by omega)
      rcases (show j % 6 = 0 ∨ j % 6 = 1 ∨ j % 6 = 2 ∨ j % 6 = 3 ∨ j % 6 = 4 ∨ j % 6 = 5 by omega) with e | e | e | e | e | e
      · have e2 : j = j / 6 * 6 := by omega
        rw [e2, rls_get0 _ _ (by omega)] at hq
        have e3 : off + j / 6 * 6 = off + j := by omega
        rw [e3] at h0; rw [h0]; exact hq
      · have e2 : j = j / 6 * 6 + 1 := by omega
        rw [e2, rls_get1 _ _ (by omega)] at hq
        have e3 : off + j / 6 * 6 + 1 = off + j := by omega
        rw [e3] at h1; rw [h1]; exact hq
      · have e2 : j = j / 6 * 6 + 2 := by omega
        rw [e2, rls_get2 _ _ (by omega)] at hq
        have e3 : off + j / 6 * 6 + 2 = off + j := by omega
        rw [e3] at h2; rw [h2]; exact hq
      · have e2 : j = j / 6 * 6 + 3 := by omega
        rw [e2, rls_get3 _ _ (by omega)] at hq
        have e3 : off + j / 6 * 6 + 3 = off + j := by omega
        rw [e3] at h3; rw [h3]; exact hq
      · have e2 : j = j / 6 * 6 + 4 := by omega
        rw [e2, rls_get4 _ _ (by omega)] at hq
        have e3 : off + j / 6 * 6 + 4 = off + j := by omega
        rw [e3] at h4; rw [h4]; exact hq
      · have e2 : j = j / 6 * 6 + 5 := by omega
        rw [e2, rls_get5 _ _ (by omega)] at hq
        have e3 : off + j / 6 * 6 + 5 = off + j := by omega
        rw [e3] at h5; rw [h5]; exact hq
theorem own_type_ne {W : World} {b1 b2 s1 s2 n1 n2 : Nat} {e1 e2 : TypeId} {v1 v2 : Value} {xs1 xs2 : List Value} (h1 : W.ownsRow b1 e1 s1 v1 n1 xs1) (h2 : W.ownsRow b2 e2 s2 v2 n2 xs2) (hne : ¬ e1 = e2) {g : Nat} (hg : v1.ownBlock = some g) : ¬ v2.ownBlock = some g := by
  intro hg2
  rcases h1.2 with ⟨rfl, _⟩ | ⟨g1, c1, u1, rfl, _, hh1, _⟩
  · cases hg
  · rcases h2.2 with ⟨rfl, _⟩ | ⟨g2, c2, u2, rfl, _, hh2, _⟩
    · cases hg2
    · injection hg with hg; injection hg2 with hg2
      simp only at hg hg2
      rw [hg] at hh1; rw [hg2, hh1] at hh2
      injection hh2 with hh2
      injection hh2 with _ h9 _
      exact hne h9
theorem own_kept_type {W W' : World} {b1 b2 s1 s2 n1 n2 : Nat} {e1 e2 : TypeId} {v1 v2 : Value} {xs1 xs2 : List Value} (h1 : W.ownsRow b1 e1 s1 v1 n1 xs1) (h2 : W.ownsRow b2 e2 s2 v2 n2 xs2) (hne : ¬ e1 = e2) (hg : W.grownBy W' v2.ownBlock) : W'.ownsRow b1 e1 s1 v1 n1 xs1 :=
  h1.kept hg (by
    cases e : v1.ownBlock with
    | none => exact .inl rfl
    | some g => right; intro e2; exact own_type_ne h1 h2 hne e e2.symm)
end Go.Proofs.Ytcjpedolmnahfaa
