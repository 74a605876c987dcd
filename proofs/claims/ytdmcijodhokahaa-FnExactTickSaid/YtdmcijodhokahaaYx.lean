/- Walks: cascades: the range over the levels whose rows are written; a copy of a cascade. -/
import Derived.RangeFuncBox
import Derived.RangeFuncLeaves
import Derived.RangeFuncNested
import Derived.Shelf.Abstract
import Derived.OwnWalkIn
import Derived.TacticsInMore
import Derived.LoopNIn
import Derived.LoopIn
import Derived.Test.YtdmcijodhokahaaWz
set_option linter.unusedVariables false
set_option linter.unusedSimpArgs false
namespace Go.Proofs.Ytdmcijodhokahaa
open Go.RowKit Go.Shelf

attribute [local go_sem] Oper.semAt_some

set_option maxRecDepth 100000 in
set_option maxHeartbeats 4000000 in
theorem levels2_in (n : Nat) (hn : 1 ≤ n) (l Bn b cl m : Nat) (Al : Option Addr) (hA : 0 < m → Al = some ⟨b, 0, none⟩) (hll : m ≤ 1048576) (J Jx : List {x : Nat // x < m} → World → Prop)
    (hY : ∀ pre (x : {x : Nat // x < m}) W, J pre W → pre.length < m → YieldAt Fence.wide (n - 1) Try.prog l #[.pointer (some ⟨b, x.1 * 3, none⟩)] W fun e W' =>
      (e = .returned (.bool true) ∧ J (pre ++ [x]) W' ∧ W'.heap[Bn]? = W.heap[Bn]?) ∨ (e = .returned (.bool false) ∧ Jx (pre ++ [x]) W'))
    (W : World) (hBn : W.cell? ⟨Bn, 3, none⟩ = some (.slice Al m cl)) (h0 : J [] W) :
    CallsIn Fence.wide n Try.prog 114 #[.func (.yield l) #[] #[], .pointer (some ⟨Bn, 0, none⟩)] W fun e W' => (∃ v, e = .returned v) ∧
      ((∃ ys, ys.map Subtype.val = List.range m ∧ J ys W') ∨ (∃ pre, (∃ k, k ≤ m ∧ pre.map Subtype.val = List.range k) ∧ Jx pre W')) := by
  have HY := Lib.hid hY
  clear hY
  refine callsIn_of_wp Try.func114 rfl trivial ?_ rfl
  simp only [Try.ntmps114, List.size_toArray, List.length_cons, List.length_nil, Nat.reduceAdd, Nat.reduceSub, Array.replicate_succ, Array.replicate_zero, List.push_toArray, List.append_toArray, List.nil_append, List.cons_append]
  have HBn := Lib.hid hBn
  gi_wp2
  gi_loopw [7] (fun i wr => ∃ (k : Nat) (pre : List {x : Nat // x < m}), k ≤ m ∧ i = .int .i64 k ∧ Hid (pre.map Subtype.val = List.range k) ∧ Hid (J pre wr) ∧ Hid (wr.cell? ⟨Bn, 3, none⟩ = some (.slice Al m cl)))
    (fun i _ => m - (intOf i).toNat)
  case atStart => exact ⟨0, [], Nat.zero_le _, rfl, Lib.hid rfl, Lib.hid h0, HBn⟩
  case round =>
    clear hBn
    obtain ⟨k, pre, hk, rfl, HP, HJk, HBk⟩ := hrel
    by_cases hlt : k < m
    · have hb3 := HBk.out
      rw [hA (by omega)] at hb3
      have hpl : pre.length < m := by
        have h := congrArg List.length HP.out
        rw [List.length_map, List.length_range] at h
        omega
      obtain ⟨fn, tmps, assign, body, hy, hR⟩ := HY.out pre ⟨k, hlt⟩ wr HJk.out hpl
      have HS : Hid ((pre ++ [(⟨k, hlt⟩ : {x : Nat // x < m})]).map Subtype.val = List.range (k + 1)) := Lib.hid (by
        rw [List.map_append, HP.out, List.range_succ]; rfl)
      generalize pre ++ [(⟨k, hlt⟩ : {x : Nat // x < m})] = pre1 at *
      dsimp only at hy
      gi_wp2
      refine hR.mono ?_
      rintro e W3 (⟨rfl, hJ3, hk3⟩ | ⟨rfl, hJx3⟩)
      · gi_wp2
        go_roundw
        case rel => exact ⟨k + 1, pre1, by omega, by go_num, HS, Lib.hid hJ3, Lib.hid ((heap_cell hk3).trans HBk.out)⟩
        case measure => simp [intOf]; omega
      · gi_wp2
        refine bodyPost_ret (results_none rfl _ _ _) rfl ?_
        exact ⟨⟨_, rfl⟩, .inr ⟨pre1, ⟨k + 1, by omega, HS.out⟩, hJx3⟩⟩
    · obtain rfl : k = m := by omega
      gi_wp2
      go_end0
      exact ⟨⟨_, rfl⟩, .inl ⟨pre, HP.out, HJk.out⟩⟩

/-- the levels' row while its rolls are copied: those of the numbers in pre are rows of the call's own, apart from each other -/
structure CopI (n₀ base : Nat) (v : Value) (ls : List Lv) (pre : List Nat) (es : List LvC) (W : World) : Prop where
  len : es.length = ls.length
  row : W.ownsRow base 54 3 v ls.length (lvs es)
  lv : ∀ j, j < ls.length → (es.getD j zLc).1 = (ls.getD j zLv).1 ∧ (es.getD j zLc).2.1 = (ls.getD j zLv).2.1
  old : ∀ j, j < ls.length → ¬ j ∈ pre → RL W n₀ (es.getD j zLc).2.2 (ls.getD j zLv).2.2
  own : ∀ j, j < ls.length → j ∈ pre → W.ownsRow base 56 6 (es.getD j zLc).2.2 (ls.getD j zLv).2.2.length (rls (ls.getD j zLv).2.2)
  dist : ∀ i j g, i < ls.length → j < ls.length → i ∈ pre → j ∈ pre → ¬ i = j → (es.getD i zLc).2.2.ownBlock = some g → ¬ (es.getD j zLc).2.2.ownBlock = some g
theorem own_mach {X Y : World} {row : Option Nat} {base sz : Nat} {e : TypeId} {v : Value} {n : Nat} {xs : List Value} (h : X.ownsRow base e sz v n xs) (hg : X.grownBy Y row) (hr : ∀ r, row = some r → ∃ o : Obj, X.heap[r]? = some o ∧ o.isCells = false) : Y.ownsRow base e sz v n xs := by
  refine ⟨h.1, ?_⟩
  rcases h.2 with h0 | ⟨g, cap, cur, rfl, hb, hh, hq⟩
  · exact .inl h0
  · refine .inr ⟨g, cap, cur, rfl, hb, (hg.block g (Array.getElem?_eq_some_iff.1 hh).1 (fun e => ?_)).trans hh, hq⟩
    obtain ⟨o, ho, hc⟩ := hr g e.symm
    rw [hh] at ho; cases ho; cases hc
theorem CopI.mach {n₀ base : Nat} {v : Value} {ls : List Lv} {pre : List Nat} {es : List LvC} {X Y : World} {row : Option Nat} (h : CopI n₀ base v ls pre es X) (hg : X.grownBy Y row) (hr : ∀ r, row = some r → n₀ ≤ r ∧ ∃ o : Obj, X.heap[r]? = some o ∧ o.isCells = false) (hn : n₀ ≤ X.heap.size) : CopI n₀ base v ls pre es Y :=
  ⟨h.len, own_mach h.row hg (fun r e => (hr r e).2), h.lv, fun j hj hp => (h.old j hj hp).below ⟨hg.os, hg.tape, hg.output, hg.size, fun k hk => hg.block k (by omega) (fun e => by have := (hr k e.symm).1; omega)⟩, fun j hj hp => own_mach (h.own j hj hp) hg (fun r e => (hr r e).2), h.dist⟩
/-- one more level copied -/
theorem CopI.step {n₀ base gl cap x : Nat} {ls : List Lv} {pre : List Nat} {es : List LvC} {W W1 : World} {r : Value} (h : CopI n₀ base (.slice (some ⟨gl, 0, none⟩) ls.length cap) ls pre es W) (hn : n₀ ≤ base) (hs : base ≤ W.heap.size) (hx : x < ls.length) (hb : Below W.heap.size W W1)
    (hr : W1.ownsRow W.heap.size 56 6 r (ls.getD x zLv).2.2.length (rls (ls.getD x zLv).2.2)) :
    CopI n₀ base (.slice (some ⟨gl, 0, none⟩) ls.length cap) ls (pre ++ [x]) (es.set x ((es.getD x zLc).1, (es.getD x zLc).2.1, r)) (W1.setCell ⟨gl, x * 3 + 2, none⟩ r) := by
  have hlen := h.len
  have hrow1 := u_own_below h.row hb
  have hgl := hrow1.lt gl rfl
  have hgl0 := h.row.lt gl rfl
  have hset := hrow1.stored (x * 3 + 2) r
  have hsame : ∀ j, j < ls.length → ¬ j = x → (es.set x ((es.getD x zLc).1, (es.getD x zLc).2.1, r)).getD j zLc = es.getD j zLc := fun j hj e => by rw [getD_set_lv _ _ _ _ (by omega), if_neg e]
  have hat : (es.set x ((es.getD x zLc).1, (es.getD x zLc).2.1, r)).getD x zLc = ((es.getD x zLc).1, (es.getD x zLc).2.1, r) := by rw [getD_set_lv _ _ _ _ (by omega), if_pos rfl]
  have hl3 : (lvs es).set (x * 3 + 2) r = lvs (es.set x ((es.getD x zLc).1, (es.getD x zLc).2.1, r)) := by
    have h3 := lvs_set es x (es.getD x zLc).1 (es.getD x zLc).2.1 r (by omega)
    rw [← h3]
    congr 1
    apply List.ext_getElem?
    intro i
    by_cases e0 : i = x * 3
    · subst e0
      rw [List.getElem?_set_ne (by omega), List.getElem?_set_self (by rw [lvs_length]; omega)]
      exact lvs_get0 _ _ (by omega)
    · by_cases e1 : i = x * 3 + 1
      · subst e1
        rw [List.getElem?_set_self (by rw [List.length_set, lvs_length]; omega)]
        exact lvs_get1 _ _ (by omega)
      · rw [List.getElem?_set_ne (by omega), List.getElem?_set_ne (by omega)]
  rw [hl3] at hset
  have hkeepR : ∀ {b n : Nat} {u : Value} {xs : List Value}, W1.ownsRow b 56 6 u n xs → (W1.setCell ⟨gl, x * 3 + 2, none⟩ r).ownsRow b 56 6 u n xs := fun hu => own_kept_type hu hrow1 (by decide) hset.2
  refine ⟨by simpa using hlen, hset.1, fun j hj => ?_, fun j hj hp => ?_, fun j hj hp => ?_, fun i j g hi hj hpi hpj hne ei => ?_⟩
  · by_cases e : j = x
    · subst e; rw [hat]; exact h.lv j hj
    · rw [hsame j hj e]; exact h.lv j hj
  · have e : ¬ j = x := fun e => hp (by rw [e]; simp)
    rw [hsame j hj e]
    have h1 := (h.old j hj (fun hq => hp (by simp [hq]))).below (hb.mono (by omega : n₀ ≤ W.heap.size))
    exact h1.below ((Below.refl n₀ W1).setCell (p := ⟨gl, x * 3 + 2, none⟩) (by show n₀ ≤ gl; omega) r)
  · by_cases e : j = x
    · subst e; rw [hat]
      exact hkeepR ⟨hr.1, hr.2.imp id fun ⟨g, cap, cur, a, b, c⟩ => ⟨g, cap, cur, a, Nat.le_trans hs b, c⟩⟩
    · rw [hsame j hj e]
      have hq : j ∈ pre := by
        rcases List.mem_append.1 hp with hq | hq
        · exact hq
        · exact absurd (List.mem_singleton.1 hq) e
      exact hkeepR (u_own_below (h.own j hj hq) hb)
  · have hin : ∀ y, y ∈ pre ++ [x] → ¬ y = x → y ∈ pre := fun y hy e => by
      rcases List.mem_append.1 hy with hq | hq
      · exact hq
      · exact absurd (List.mem_singleton.1 hq) e
    by_cases e1 : i = x
    · subst e1
      have e2 : ¬ j = i := fun e => hne e.symm
      rw [hat] at ei
      rw [hsame j hj e2]
      intro ej
      have q1 := (hr.lt g ei).1
      have q2 := ((h.own j hj (hin j hpj e2)).lt g ej).2
      omega
    · rw [hsame i hi e1] at ei
      by_cases e2 : j = x
      · subst e2
        rw [hat]
        intro ej
        have q1 := (hr.lt g ej).1
        have q2 := ((h.own i hi (hin i hpi e1)).lt g ei).2
        omega
      · rw [hsame j hj e2]
        exact h.dist i j g hi hj (hin i hpi e1) (hin j hpj e2) hne ei
theorem CopI.rl {n₀ base : Nat} {v : Value} {ls : List Lv} {pre : List Nat} {es : List LvC} {W : World} (h : CopI n₀ base v ls pre es W) (hn : n₀ ≤ W.heap.size) {x : Nat} (hx : x < ls.length) (hr : (∀ i, Rng6 ((ls.getD x zLv).2.2.getD i z6)) ∧ (ls.getD x zLv).2.2.length ≤ 1048576) : RL W W.heap.size (es.getD x zLc).2.2 (ls.getD x zLv).2.2 := by
  by_cases hp : x ∈ pre
  · exact RL.of_own (h.own x hx hp) rfl hr.1 hr.2
  · exact (h.old x hx hp).up hn
end Go.Proofs.Ytdmcijodhokahaa
