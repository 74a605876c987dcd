/- Walks: a copy of the levels' row; the range over the levels, written into. -/
import Derived.Lib.SliceRun
import Derived.Test.YtcjpedolmnahfaaWx
import Derived.RangeFuncBox
import Derived.RangeFuncLeaves
import Derived.RangeFuncNested
import Derived.Shelf.Abstract
import Derived.OwnWalkIn
import Derived.TacticsInMore
import Derived.LoopNIn
import Derived.LoopIn
set_option linter.unusedVariables false
set_option linter.unusedSimpArgs false
namespace Go.Proofs.Ytcjpedolmnahfaa
open Go.RowKit Go.Shelf

attribute [local go_sem] Oper.semAt_some

theorem lvs_one (es : List LvC) (h : ∀ x ∈ es, ∃ a n c, x.2.2 = .slice a n c) : ∀ u ∈ lvs es, u.oneCell' = true := by
  intro u hu
  unfold lvs at hu
  obtain ⟨p, hp, h2⟩ := List.mem_flatMap.1 hu
  obtain ⟨a, n, c, e⟩ := h p hp
  simp at h2
  rcases h2 with rfl | rfl | rfl
  · rfl
  · rfl
  · rw [e]; rfl
theorem RL.old {w w' : World} {B : Nat} {v : Value} {xs : List R6} (hb : Below B w w') (h : RL w' B v xs) : RL w B v xs := by
  obtain ⟨h1, h2, A, c, rfl, h3⟩ := h
  refine ⟨h1, h2, A, c, rfl, ?_⟩
  rcases h3 with h3 | ⟨b, off, rfl, hlt, hc⟩
  · exact .inl h3
  · refine .inr ⟨b, off, rfl, hlt, fun j hj => ?_⟩
    obtain ⟨c0, c1, c2, c3, c4, c5⟩ := hc j hj
    have e : ∀ i, w'.cell? ⟨b, i, none⟩ = w.cell? ⟨b, i, none⟩ := fun i => hb.cell (p := ⟨b, i, none⟩) hlt
    exact ⟨(e _).symm.trans c0, (e _).symm.trans c1, (e _).symm.trans c2, (e _).symm.trans c3, (e _).symm.trans c4, (e _).symm.trans c5⟩
open Classical in
theorem LS.src {w : World} {B : Nat} {v : Value} {ls : List Lv} (h : LS w B v ls) : ∃ es : List LvC, es.length = ls.length ∧ Src w v ls.length (lvs es) ∧ (∀ x ∈ es, ∃ a n c, x.2.2 = .slice a n c) ∧ ∀ j, j < ls.length → (es.getD j zLc).1 = (ls.getD j zLv).1 ∧ (es.getD j zLc).2.1 = (ls.getD j zLv).2.1 ∧ RL w B (es.getD j zLc).2.2 (ls.getD j zLv).2.2 := by
  obtain ⟨_, _, A, c, rfl, h3⟩ := h
  rcases h3 with rfl | ⟨b, off, rfl, hb, hc⟩
  · have hs : Src w (.slice A 0 c) 0 (lvs []) := ⟨A, c, rfl, by
      cases A with
      | none => exact .inl ⟨rfl, rfl, rfl⟩
      | some ad => exact .inr ⟨ad, rfl, fun j q hq => by simp [lvs] at hq⟩⟩
    exact ⟨[], rfl, hs, (fun x hx => absurd hx (List.not_mem_nil)), fun j hj => absurd hj (Nat.not_lt_zero j)⟩
  · have hx : ∀ j, ∃ r : Value, j < ls.length → w.cell? ⟨b, off + j * 3, none⟩ = some (.int .i64 (ls.getD j zLv).1) ∧ w.cell? ⟨b, off + j * 3 + 1, none⟩ = some (.int .i64 (ls.getD j zLv).2.1) ∧ w.cell? ⟨b, off + j * 3 + 2, none⟩ = some r ∧ RL w B r (ls.getD j zLv).2.2 := by
      intro j
      by_cases hj : j < ls.length
      · obtain ⟨c0, c1, r, c2, hr⟩ := hc j hj
        exact ⟨r, fun _ => ⟨c0, c1, c2, hr⟩⟩
      · exact ⟨.bool true, fun h => absurd h hj⟩
    obtain ⟨g, hg⟩ := Classical.axiomOfChoice hx
    have hget : ∀ j, j < ls.length → ((List.range ls.length).map (fun j => ((ls.getD j zLv).1, (ls.getD j zLv).2.1, g j))).getD j zLc = ((ls.getD j zLv).1, (ls.getD j zLv).2.1, g j) := fun j hj => by simp [List.getD_eq_getElem?_getD, hj]
    refine ⟨(List.range ls.length).map (fun j => ((ls.getD j zLv).1, (ls.getD j zLv).2.1, g j)), by simp, ⟨_, c, rfl, .inr ⟨_, rfl, fun i q hq => ?_⟩⟩, fun x hx => ?_, fun j hj => ?_⟩
    · have hi := (List.getElem?_eq_some_iff.1 hq).1
      rw [lvs_length, List.length_map, List.length_range] at hi
      have ha : (⟨b, off, none⟩ : Addr).add i = ⟨b, off + i, none⟩ := by unfold Addr.add; split <;> simp_all
      rw [ha]
      have hlt : i / 3 < ls.length := by omega
      obtain ⟨h0, h1, h2, _⟩ := hg (i / 3) hlt
      have hlen : i / 3 < ((List.range ls.length).map (fun j => ((ls.getD j zLv).1, (ls.getD j zLv).2.1, g j))).length := by simpa using hlt
      rcases (show i % 3 = 0 ∨ i % 3 = 1 ∨ i % 3 = 2 by omega) with e | e | e
      · have e2 : i = i / 3 * 3 := by omega
        rw [e2, lvs_get0 _ _ hlen, hget _ hlt] at hq
        have e3 : off + i / 3 * 3 = off + i := by omega
        rw [e3] at h0; rw [h0]; exact hq
      · have e2 : i = i / 3 * 3 + 1 := by omega
        rw [e2, lvs_get1 _ _ hlen, hget _ hlt] at hq
        have e3 : off + i / 3 * 3 + 1 = off + i := by omega
        rw [e3] at h1; rw [h1]; exact hq
      · have e2 : i = i / 3 * 3 + 2 := by omega
        rw [e2, lvs_get2 _ _ hlen, hget _ hlt] at hq
        have e3 : off + i / 3 * 3 + 2 = off + i := by omega
        rw [e3] at h2; rw [h2]; exact hq
    · obtain ⟨j, hj, rfl⟩ := List.mem_map.1 hx
      obtain ⟨_, _, A', c', e, _⟩ := (hg j (by simpa using hj)).2.2.2
      exact ⟨A', _, c', e⟩
    · rw [hget j hj]
      exact ⟨rfl, rfl, (hg j hj).2.2.2⟩

set_option maxRecDepth 100000 in
set_option maxHeartbeats 2000000 in
theorem cloneLv_any (B : Nat) (v : Value) (ls : List Lv) (w : World) (h : LS w B v ls) (hB : B ≤ w.heap.size) :
    Calls Try.prog 104 #[v] w fun e w' => ∃ v' es, e = .returned v' ∧ es.length = ls.length ∧ w'.ownsRow w.heap.size 51 3 v' ls.length (lvs es) ∧ (∀ j, j < ls.length → (es.getD j zLc).1 = (ls.getD j zLv).1 ∧ (es.getD j zLc).2.1 = (ls.getD j zLv).2.1 ∧ RL w B (es.getD j zLc).2.2 (ls.getD j zLv).2.2) ∧ Below w.heap.size w w' := by
  have qT : ∀ (w : World) (a : Option Addr) (n c n' c' : Nat), (binOp .eql 28 (.slice a n c) (.slice none n' c')).run Try.prog w = .ok (.bool a.isNone) w := fun w a n c n' c' => Lib.run_eql_slice_nil w _ _ a n c n' c' Try.underlying28
  have HP := Lib.hid h
  obtain ⟨i0, hi, hz0, hz1, hz2⟩ := info_parts info_lv
  obtain ⟨z1, hlen, A, c, rfl, h3⟩ := h
  clear z1
  cases A with
  | none =>
    have e0 : ls = [] := by
      rcases h3 with h3 | ⟨b, off, e, _⟩
      · exact h3
      · cases e
    clear h3
    subst e0
    go_enter Try.func104, Try.ntmps104
    go_wp2_with fail
    go_ret
    exact ⟨_, [], rfl, rfl, World.ownsRow_nil _ _ _ _, fun j hj => by simp at hj, Below.refl _ _⟩
  | some ad =>
    clear h3
    obtain ⟨es', hel', hsr, hes', hrd'⟩ := (HP.out.below ((Below.refl B w).alloc hB (.cells #[] 51))).src
    have HRD := Lib.hid hrd'
    have HEL := Lib.hid hel'
    have HS := Lib.hid hsr
    have HES := Lib.hid (lvs_one es' hes')
    have HLE := Lib.hid (show (lvs es').length = ls.length * 3 from by rw [lvs_length, hel'])
    have HO := Lib.hid (World.ownsRow_made w (base := w.heap.size) (e := 51) (size := 3) #[] 0 (Nat.le_refl _) (by simp [maxLen]) rfl)
    clear hel' hsr hes' hrd'
    go_enter Try.func104, Try.ntmps104
    go_wp2_with (at_builtin; refine wpList_append_src rfl _ _ 28 rfl w.heap.size 51 i0 (.agg #[.int .i64 0, .int .i64 0, .slice none 0 0]) 3 40 Try.underlying28 hi hz0 hz1 hz2 rfl (by decide) (.slice (some ⟨w.heap.size, 0, none⟩) 0 0) 0 [] rfl HO.out (.slice (some ad) ls.length c) ls.length (lvs es') rfl HS.out HLE.out HES.out ?c3 ?c4 ?c5 ?_)
    case c3 => unfold maxLen; omega
    case c4 => omega
    case c5 => first | omega | (simp; omega) | simp
    intro v4 w4 hown4 hgrow4
    have HB4 := Lib.hid (((Below.refl w.heap.size w).alloc (Nat.le_refl _) (.cells #[] 51)).grown hgrow4 (by simp) (fun k hk => by simp [Value.ownBlock] at hk; omega))
    have HO4 := Lib.hid (show w4.ownsRow w.heap.size 51 3 v4 ls.length (lvs es') from by simpa using hown4)
    clear hown4 hgrow4
    go_wp2_with fail
    go_ret
    refine ⟨_, es', rfl, HEL.out, HO4.out, fun j hj => ?_, HB4.out⟩
    obtain ⟨q0, q1, q2⟩ := HRD.out j hj
    exact ⟨q0, q1, RL.old ((Below.refl B w).alloc hB _) q2⟩
end Go.Proofs.Ytcjpedolmnahfaa

/- Walks: cascades: the range over the levels whose rows are written; a copy of a cascade. -/
set_option linter.unusedVariables false
set_option linter.unusedSimpArgs false
namespace Go.Proofs.Ytcjpedolmnahfaa
open Go.RowKit Go.Shelf

attribute [local go_sem] Oper.semAt_some

set_option maxRecDepth 100000 in
set_option maxHeartbeats 4000000 in
theorem levels2_in (n : Nat) (hn : 1 ≤ n) (l Bn b cl m : Nat) (Al : Option Addr) (hA : 0 < m → Al = some ⟨b, 0, none⟩) (hll : m ≤ 1048576) (J Jx : List {x : Nat // x < m} → World → Prop)
    (hY : ∀ pre (x : {x : Nat // x < m}) W, J pre W → pre.length < m → YieldAt Fence.wide (n - 1) Try.prog l #[.pointer (some ⟨b, x.1 * 3, none⟩)] W fun e W' =>
      (e = .returned (.bool true) ∧ J (pre ++ [x]) W' ∧ W'.heap[Bn]? = W.heap[Bn]?) ∨ (e = .returned (.bool false) ∧ Jx (pre ++ [x]) W'))
    (W : World) (hBn : W.cell? ⟨Bn, 3, none⟩ = some (.slice Al m cl)) (h0 : J [] W) :
    CallsIn Fence.wide n Try.prog 99 #[.func (.yield l) #[] #[], .pointer (some ⟨Bn, 0, none⟩)] W fun e W' => (∃ v, e = .returned v) ∧
      ((∃ ys, ys.map Subtype.val = List.range m ∧ J ys W') ∨ (∃ pre, (∃ k, k ≤ m ∧ pre.map Subtype.val = List.range k) ∧ Jx pre W')) := by
  have HY := Lib.hid hY
  clear hY
  refine callsIn_of_wp Try.func99 rfl trivial ?_ rfl
  simp only [Try.ntmps99, List.size_toArray, List.length_cons, List.length_nil, Nat.reduceAdd, Nat.reduceSub, Array.replicate_succ, Array.replicate_zero, List.push_toArray, List.append_toArray, List.nil_append, List.cons_append]
  have HBn := Lib.hid hBn
  gi_wp2
  gi_loopw [7] (fun i wr => ∃ (k : Nat) (pre : List {x : Nat // x < m}), k ≤ m ∧ i = .int .i64 k ∧ Hid (pre.map Subtype.val = List.range k) ∧ Hid (J pre wr) ∧ Hid (wr.cell? ⟨Bn, 3, none⟩ = some (.slice Al m cl)))
    (fun i _ => m - (intOf i).toNat)
  case atStart => exact ⟨0, [], Nat.zero_le _, rfl, Lib.hid rfl, Lib.hid h0, HBn⟩
  case round =>
    clear hBn
    obtain ⟨k, pre, hk, rfl, HP, HJk, HBk⟩ := hrel
    by_cases hlt : k < m
    · have hb3 := HBk.out
      rw [hA (by omega)] at hb3
      have hpl : pre.length < m := by
        have h := congrArg List.length HP.out
        rw [List.length_map, List.length_range] at h
        omega
      obtain ⟨fn, tmps, assign, body, hy, hR⟩ := HY.out pre ⟨k, hlt⟩ wr HJk.out hpl
      have HS : Hid ((pre ++ [(⟨k, hlt⟩ : {x : Nat // x < m})]).map Subtype.val = List.range (k + 1)) := Lib.hid (by
        rw [List.map_append, HP.out, List.range_succ]; rfl)
      generalize pre ++ [(⟨k, hlt⟩ : {x : Nat // x < m})] = pre1 at *
      dsimp only at hy
      gi_wp2
      refine hR.mono ?_
      rintro e W3 (⟨rfl, hJ3, hk3⟩ | ⟨rfl, hJx3⟩)
      · gi_wp2
        go_roundw
        case rel => exact ⟨k + 1, pre1, by omega, by go_num, HS, Lib.hid hJ3, Lib.hid ((heap_cell hk3).trans HBk.out)⟩
        case measure => simp [intOf]; omega
      · gi_wp2
        refine bodyPost_ret (results_none rfl _ _ _) rfl ?_
        exact ⟨⟨_, rfl⟩, .inr ⟨pre1, ⟨k + 1, by omega, HS.out⟩, hJx3⟩⟩
    · obtain rfl : k = m := by omega
      gi_wp2
      go_end0
      exact ⟨⟨_, rfl⟩, .inl ⟨pre, HP.out, HJk.out⟩⟩

/-- the levels' row while its rolls are copied: those of the numbers in pre are rows of the call's own, apart from each other -/
structure CopI (n₀ base : Nat) (v : Value) (ls : List Lv) (pre : List Nat) (es : List LvC) (W : World) : Prop where
  len : es.length = ls.length
  row : W.ownsRow base 51 3 v ls.length (lvs es)
  lv : ∀ j, j < ls.length → (es.getD j zLc).1 = (ls.getD j zLv).1 ∧ (es.getD j zLc).2.1 = (ls.getD j zLv).2.1
  old : ∀ j, j < ls.length → ¬ j ∈ pre → RL W n₀ (es.getD j zLc).2.2 (ls.getD j zLv).2.2
  own : ∀ j, j < ls.length → j ∈ pre → W.ownsRow base 48 6 (es.getD j zLc).2.2 (ls.getD j zLv).2.2.length (rls (ls.getD j zLv).2.2)
  dist : ∀ i j g, i < ls.length → j < ls.length → i ∈ pre → j ∈ pre → ¬ i = j → (es.getD i zLc).2.2.ownBlock = some g → ¬ (es.getD j zLc).2.2.ownBlock = some g
theorem own_mach {X Y : World} {row : Option Nat} {base sz : Nat} {e : TypeId} {v : Value} {n : Nat} {xs : List Value} (h : X.ownsRow base e sz v n xs) (hg : X.grownBy Y row) (hr : ∀ r, row = some r → ∃ o : Obj, X.heap[r]? = some o ∧ o.isCells = false) : Y.ownsRow base e sz v n xs := by
  refine ⟨h.1, ?_⟩
  rcases h.2 with h0 | ⟨g, cap, cur, rfl, hb, hh, hq⟩
  · exact .inl h0
  · refine .inr ⟨g, cap, cur, rfl, hb, (hg.block g (Array.getElem?_eq_some_iff.1 hh).1 (fun e => ?_)).trans hh, hq⟩
    obtain ⟨o, ho, hc⟩ := hr g e.symm
    rw [hh] at ho; cases ho; cases hc
theorem CopI.mach {n₀ base : Nat} {v : Value} {ls : List Lv} {pre : List Nat} {es : List LvC} {X Y : World} {row : Option Nat} (h : CopI n₀ base v ls pre es X) (hg : X.grownBy Y row) (hr : ∀ r, row = some r → n₀ ≤ r ∧ ∃ o : Obj, X.heap[r]? = some o ∧ o.isCells = false) (hn : n₀ ≤ X.heap.size) : CopI n₀ base v ls pre es Y :=
  ⟨h.len, own_mach h.row hg (fun r e => (hr r e).2), h.lv, fun j hj hp => (h.old j hj hp).below ⟨hg.os, hg.tape, hg.output, hg.size, fun k hk => hg.block k (by omega) (fun e => by have := (hr k e.symm).1; omega)⟩, fun j hj hp => own_mach (h.own j hj hp) hg (fun r e => (hr r e).2), h.dist⟩
/-- one more level copied -/
theorem CopI.step {n₀ base gl cap x : Nat} {ls : List Lv} {pre : List Nat} {es : List LvC} {W W1 : World} {r : Value} (h : CopI n₀ base (.slice (some ⟨gl, 0, none⟩) ls.length cap) ls pre es W) (hn : n₀ ≤ base) (hs : base ≤ W.heap.size) (hx : x < ls.length) (hb : Below W.heap.size W W1)
    (hr : W1.ownsRow W.heap.size 48 6 r (ls.getD x zLv).2.2.length (rls (ls.getD x zLv).2.2)) :
    CopI n₀ base (.slice (some ⟨gl, 0, none⟩) ls.length cap) ls (pre ++ [x]) (es.set x ((es.getD x zLc).1, (es.getD x zLc).2.1, r)) (W1.setCell ⟨gl, x * 3 + 2, none⟩ r) := by
  have hlen := h.len
  have hrow1 := u_own_below h.row hb
  have hgl := hrow1.lt gl rfl
  have hgl0 := h.row.lt gl rfl
  have hset := hrow1.stored (x * 3 + 2) r
  have hsame : ∀ j, j < ls.length → ¬ j = x → (es.set x ((es.getD x zLc).1, (es.getD x zLc).2.1, r)).getD j zLc = es.getD j zLc := fun j hj e => by rw [getD_set_lv _ _ _ _ (by omega), if_neg e]
  have hat : (es.set x ((es.getD x zLc).1, (es.getD x zLc).2.1, r)).getD x zLc = ((es.getD x zLc).1, (es.getD x zLc).2.1, r) := by rw [getD_set_lv _ _ _ _ (by omega), if_pos rfl]
  have hl3 : (lvs es).set (x * 3 + 2) r = lvs (es.set x ((es.getD x zLc).1, (es.getD x zLc).2.1, r)) := by
    have h3 := lvs_set es x (es.getD x zLc).1 (es.getD x zLc).2.1 r (by omega)
    rw [← h3]
    congr 1
    apply List.ext_getElem?
    intro i
    by_cases e0 : i = x * 3
    · subst e0
      rw [List.getElem?_set_ne (by omega), List.getElem?_set_self (by rw [lvs_length]; omega)]
      exact lvs_get0 _ _ (by omega)
    · by_cases e1 : i = x * 3 + 1
      · subst e1
        rw [List.getElem?_set_self (by rw [List.length_set, lvs_length]; omega)]
        exact lvs_get1 _ _ (by omega)
      · rw [List.getElem?_set_ne (by omega), List.getElem?_set_ne (by omega)]
  rw [hl3] at hset
  have hkeepR : ∀ {b n : Nat} {u : Value} {xs : List Value}, W1.ownsRow b 48 6 u n xs → (W1.setCell ⟨gl, x * 3 + 2, none⟩ r).ownsRow b 48 6 u n xs := fun hu => own_kept_type hu hrow1 (by decide) hset.2
  refine ⟨by simpa using hlen, hset.1, fun j hj => ?_, fun j hj hp => ?_, fun j hj hp => ?_, fun i j g hi hj hpi hpj hne ei => ?_⟩
  · by_cases e : j = x
    · subst e; rw [hat]; exact h.lv j hj
    · rw [hsame j hj e]; exact h.lv j hj
  · have e : ¬ j = x := fun e => hp (by rw [e]; simp)
    rw [hsame j hj e]
    have h1 := (h.old j hj (fun hq => hp (by simp [hq]))).below (hb.mono (by omega : n₀ ≤ W.heap.size))
    exact h1.below ((Below.refl n₀ W1).setCell (p := ⟨gl, x * 3 + 2, none⟩) (by show n₀ ≤ gl; omega) r)
  · by_cases e : j = x
    · subst e; rw [hat]
      exact hkeepR ⟨hr.1, hr.2.imp id fun ⟨g, cap, cur, a, b, c⟩ => ⟨g, cap, cur, a, Nat.le_trans hs b, c⟩⟩
    · rw [hsame j hj e]
      have hq : j ∈ pre := by
        rcases List.mem_append.1 hp with hq | hq
        · exact hq
        · exact absurd (List.mem_singleton.1 hq) e
      exact hkeepR (u_own_below (h.own j hj hq) hb)
  · have hin : ∀ y, y ∈ pre ++ [x] → ¬ y = x → y ∈ pre := fun y hy e => by
      rcases List.mem_append.1 hy with hq | hq
      · exact hq
      · exact absurd (List.mem_singleton.1 hq) e
    by_cases e1 : i = x
    · subst e1
      have e2 : ¬ j = i := fun e => hne e.symm
      rw [hat] at ei
      rw [hsame j hj e2]
      intro ej
      have q1 := (hr.lt g ei).1
      have q2 := ((h.own j hj (hin j hpj e2)).lt g ej).2
      omega
    · rw [hsame i hi e1] at ei
      by_cases e2 : j = x
      · subst e2
        rw [hat]
        intro ej
        have q1 := (hr.lt g ej).1
        have q2 := ((h.own i hi (hin i hpi e1)).lt g ei).2
        omega
      · rw [hsame j hj e2]
        exact h.dist i j g hi hj (hin i hpi e1) (hin j hpj e2) hne ei
theorem CopI.rl {n₀ base : Nat} {v : Value} {ls : List Lv} {pre : List Nat} {es : List LvC} {W : World} (h : CopI n₀ base v ls pre es W) (hn : n₀ ≤ W.heap.size) {x : Nat} (hx : x < ls.length) (hr : (∀ i, Rng6 ((ls.getD x zLv).2.2.getD i z6)) ∧ (ls.getD x zLv).2.2.length ≤ 1048576) : RL W W.heap.size (es.getD x zLc).2.2 (ls.getD x zLv).2.2 := by
  by_cases hp : x ∈ pre
  · exact RL.of_own (h.own x hx hp) rfl hr.1 hr.2
  · exact (h.old x hx hp).up hn
end Go.Proofs.Ytcjpedolmnahfaa

/- Walks: cascades: the program's copy of a cascade. -/
set_option linter.unusedVariables false
set_option linter.unusedSimpArgs false
namespace Go.Proofs.Ytcjpedolmnahfaa
open Go.RowKit Go.Shelf

attribute [local go_sem] Oper.semAt_some

theorem grew_below_yy {w w' : World} (h : Below w.heap.size w w') (row : Option Nat) : w.grownBy w' row := ⟨h.os, h.tape, h.output, h.size, fun i hi _ => h.block i hi⟩
theorem ORow.isCells {W : World} {base top sz : Nat} {e : TypeId} {v : Value} {n : Nat} {xs : List Value} (h : ORow W base top e sz v n xs) {g : Nat} (hg : obk v n = some g) : ∃ o : Obj, W.heap[g]? = some o ∧ o.isCells = true := by
  unfold obk at hg
  split at hg
  · cases hg
  · rename_i hn
    rcases h with ⟨h, _⟩ | ⟨h0, _⟩
    · rcases h.2 with ⟨rfl, _⟩ | ⟨g', cap, cur, rfl, _, hh, _⟩
      · cases hg
      · injection hg with hg
        simp only at hg
        subst hg
        exact ⟨_, hh, rfl⟩
    · exact absurd h0 hn
theorem CD.isCells {W : World} {base top : Nat} {c : Cs} {rv lv : Value} {es : List LvC} (h : CD W base top c rv lv es) {g : Nat} (hg : CBk c rv lv es g) : ∃ o : Obj, W.heap[g]? = some o ∧ o.isCells = true := by
  rcases hg with hg | hg | ⟨j, hj, hg⟩
  · exact h.raw.isCells hg
  · exact h.lvl.row.isCells hg
  · exact (h.lvl.lv j hj).2.2.isCells hg
theorem CopI.cd {n₀ base : Nat} {v rv : Value} {nw kp : Int} {rp : List (Int × Int)} {ls : List Lv} {pre : List Nat} {es : List LvC} {W : World} (h : CopI n₀ base v ls pre es W) (hp : ∀ j, j < ls.length → j ∈ pre) (hr : W.ownsRow base 43 2 rv rp.length (prs rp)) : CD W base W.heap.size (nw, kp, rp, ls) rv v es := by
  refine ⟨ORow.of_own hr, ⟨h.len, ORow.of_own h.row, fun j hj => ⟨(h.lv j hj).1, (h.lv j hj).2, ORow.of_own (h.own j hj (hp j hj))⟩, fun j g hj hg => own_type_ne (h.own j hj (hp j hj)) h.row (by decide) (obk_own hg), fun i j g hij hj hi hj' => (have hj2 : j < ls.length := hj; h.dist i j g (by omega) hj2 (hp i (by omega)) (hp j hj2) (by omega) (obk_own hi) (obk_own hj'))⟩, fun g hg hS => ?_⟩
  rcases hS with hS | ⟨j, hj, hS⟩
  · exact own_type_ne hr h.row (by decide) (obk_own hg) (obk_own hS)
  · exact own_type_ne hr (h.own j hj (hp j hj)) (by decide) (obk_own hg) (obk_own hS)

set_option maxRecDepth 100000 in
set_option maxHeartbeats 8000000 in
theorem copied_go (nw kp : Int) (Ap Al : Option Addr) (cp cl : Nat) (rp : List (Int × Int)) (ls : List Lv) (w : World) (hP : PL w w.heap.size (.slice Ap rp.length cp) rp) (hL : LS w w.heap.size (.slice Al ls.length cl) ls) :
    Calls Try.prog 65 #[.agg #[.int .i64 nw, .int .i64 kp, .slice Ap rp.length cp, .slice Al ls.length cl]] w (CPostD w.heap.size (nw, kp, rp, ls) w) := by
  refine (callsIn_wide (n := 4)).1 ?_
  have HP := Lib.hid hP
  have HL := Lib.hid hL
  have HRR := Lib.hid hL.rolls
  have hll := hL.2.1
  have HCp := Lib.hid (fun W h => clonePt_any (.slice Ap rp.length cp) rp W h)
  have HCl := Lib.hid (fun W h hB => cloneLv_any w.heap.size (.slice Al ls.length cl) ls W h hB)
  clear hP hL
  refine callsIn_of_wp_marks Try.func65 rfl trivial ?_ rfl
  simp only [Try.ntmps65, List.size_toArray, List.length_cons, List.length_nil, Nat.reduceAdd, Nat.reduceSub, Array.replicate_succ, Array.replicate_zero, List.push_toArray, List.append_toArray, List.nil_append, List.cons_append]
  obtain ⟨w1, hw1⟩ : ∃ w1, (w.alloc (.cells #[.int .i64 nw, .int .i64 kp, .slice Ap rp.length cp, .slice Al ls.length cl] 30)).alloc (.cells #[.int .i64 0, .int .i64 0, .slice none 0 0, .slice none 0 0] 30) = w1 := ⟨_, rfl⟩
  have B1 := Lib.hid (show Below w.heap.size w w1 from by rw [← hw1]; exact ((Below.refl _ w).alloc (Nat.le_refl _) _).alloc (by simp) _)
  have X1 : Hid (BoxN w1 w.heap.size #[.int .i64 nw, .int .i64 kp, .slice Ap rp.length cp, .slice Al ls.length cl] 30) := Lib.hid (by
    have h := World.alloc_heap_new w (.cells #[.int .i64 nw, .int .i64 kp, .slice Ap rp.length cp, .slice Al ls.length cl] 30)
    rw [← hw1]
    exact (Below.heap_alloc _ _ _ (by simp)).trans h)
  have R1 : Hid (BoxN w1 (w.heap.size + 1) #[.int .i64 0, .int .i64 0, .slice none 0 0, .slice none 0 0] 30) := Lib.hid (by
    have h := World.alloc_heap_new (w.alloc (.cells #[.int .i64 nw, .int .i64 kp, .slice Ap rp.length cp, .slice Al ls.length cl] 30)) (.cells #[.int .i64 0, .int .i64 0, .slice none 0 0, .slice none 0 0] 30)
    rw [World.size_alloc] at h
    rw [← hw1]; exact h)
  have S1 : w.heap.size + 2 ≤ w1.heap.size := by rw [← hw1]; simp
  have HW1 := Lib.hid hw1
  clear hw1
  gi_wp2
  refine ⟨trivial, ?_⟩
  rw [HW1.out]
  refine (callsIn_wide.2 (HCp.out _ ((HP.out.below B1.out).up B1.out.size))).mono ?_
  rintro e w2 ⟨v2, rfl, ho2, hb2⟩
  obtain ⟨pa, pc, rfl⟩ := (ORow.of_own ho2).shape
  have X2 : BoxN w2 w.heap.size #[.int .i64 nw, .int .i64 kp, .slice Ap rp.length cp, .slice Al ls.length cl] 30 := (hb2.block _ X1.out.lt).trans X1.out
  have R2 : BoxN w2 (w.heap.size + 1) #[.int .i64 0, .int .i64 0, .slice none 0 0, .slice none 0 0] 30 := (hb2.block _ R1.out.lt).trans R1.out
  obtain ⟨ws2, hws2⟩ : ∃ ws2, w2.setCell ⟨w.heap.size, 2, none⟩ (.slice pa rp.length pc) = ws2 := ⟨_, rfl⟩
  have X2s : Hid (BoxN ws2 w.heap.size #[.int .i64 nw, .int .i64 kp, .slice pa rp.length pc, .slice Al ls.length cl] 30) := Lib.hid (by rw [← hws2]; exact heap_setCell_same w2 w.heap.size 2 _ _ (.slice pa rp.length pc) X2)
  have R2s : Hid (BoxN ws2 (w.heap.size + 1) #[.int .i64 0, .int .i64 0, .slice none 0 0, .slice none 0 0] 30) := Lib.hid (by rw [← hws2]; exact (Below.heap_setCell _ _ _ _ (by simp)).trans R2)
  have O2s := Lib.hid (show ws2.ownsRow (w.heap.size + 2) 43 2 (.slice pa rp.length pc) rp.length (prs rp) from by rw [← hws2]; exact own_set_other (oi_lift ho2 S1) _ _ _ (by omega))
  have B2s := Lib.hid (show Below w.heap.size w ws2 from by rw [← hws2]; exact (B1.out.trans (hb2.mono B1.out.size)).setCell (p := ⟨w.heap.size, 2, none⟩) (Nat.le_refl _) _)
  have S2s : w.heap.size + 2 ≤ ws2.heap.size := by have := hb2.size; rw [← hws2]; simp [World.setCell]; omega
  have HWS2 := Lib.hid hws2
  have y2 := X2.cell (i := 2) rfl
  have f2 := X2.frozen (i := 2)
  have z3 := X2s.out.cell (i := 3) rfl
  rw [← hws2] at z3
  clear hws2 ho2 hb2 X2 R2
  gi_wp2
  refine ⟨trivial, ?_⟩
  rw [HWS2.out]
  refine (callsIn_wide.2 (HCl.out _ (HL.out.below B2s.out) B2s.out.size)).mono ?_
  rintro e w3 ⟨v3, es, rfl, hel, ho3, hrd, hb3⟩
  obtain ⟨A3, c3, rfl⟩ := (ORow.of_own ho3).shape
  have X3 : BoxN w3 w.heap.size #[.int .i64 nw, .int .i64 kp, .slice pa rp.length pc, .slice Al ls.length cl] 30 := (hb3.block _ X2s.out.lt).trans X2s.out
  have R3 : BoxN w3 (w.heap.size + 1) #[.int .i64 0, .int .i64 0, .slice none 0 0, .slice none 0 0] 30 := (hb3.block _ R2s.out.lt).trans R2s.out
  obtain ⟨ws3, hws3⟩ : ∃ ws3, w3.setCell ⟨w.heap.size, 3, none⟩ (.slice A3 ls.length c3) = ws3 := ⟨_, rfl⟩
  have X3s : Hid (BoxN ws3 w.heap.size #[.int .i64 nw, .int .i64 kp, .slice pa rp.length pc, .slice A3 ls.length c3] 30) := Lib.hid (by rw [← hws3]; exact heap_setCell_same w3 w.heap.size 3 _ _ (.slice A3 ls.length c3) X3)
  have R3s : Hid (BoxN ws3 (w.heap.size + 1) #[.int .i64 0, .int .i64 0, .slice none 0 0, .slice none 0 0] 30) := Lib.hid (by rw [← hws3]; exact (Below.heap_setCell _ _ _ _ (by simp)).trans R3)
  have O3s := Lib.hid (show ws3.ownsRow (w.heap.size + 2) 43 2 (.slice pa rp.length pc) rp.length (prs rp) from by rw [← hws3]; exact own_set_other (u_own_below O2s.out hb3) _ _ _ (by omega))
  have L3s := Lib.hid (show ws3.ownsRow (w.heap.size + 2) 51 3 (.slice A3 ls.length c3) ls.length (lvs es) from by rw [← hws3]; exact own_set_other (oi_lift ho3 S2s) _ _ _ (by omega))
  have B3s := Lib.hid (show Below w.heap.size w ws3 from by rw [← hws3]; exact (B2s.out.trans (hb3.mono B2s.out.size)).setCell (p := ⟨w.heap.size, 3, none⟩) (Nat.le_refl _) _)
  have S3s : w.heap.size + 2 ≤ ws3.heap.size := by have := hb3.size; rw [← hws3]; simp [World.setCell]; omega
  have B3x : Below w.heap.size ws2 ws3 := by rw [← hws3]; exact (hb3.mono B2s.out.size).setCell (p := ⟨w.heap.size, 3, none⟩) (Nat.le_refl _) _
  have HRD := Lib.hid (fun j hj => (⟨(hrd j hj).1, (hrd j hj).2.1, (hrd j hj).2.2.below B3x⟩ : (es.getD j zLc).1 = (ls.getD j zLv).1 ∧ (es.getD j zLc).2.1 = (ls.getD j zLv).2.1 ∧ RL ws3 w.heap.size (es.getD j zLc).2.2 (ls.getD j zLv).2.2))
  clear B3x
  have HEL := Lib.hid hel
  have HWS3 := Lib.hid hws3
  have y3 := X3.cell (i := 3) rfl
  have f3 := X3.frozen (i := 3)
  have q0 := BoxN.cell (i := 0) X3s.out rfl
  have q1 := BoxN.cell (i := 1) X3s.out rfl
  have q2 := BoxN.cell (i := 2) X3s.out rfl
  have q3 := BoxN.cell (i := 3) X3s.out rfl
  rw [← hws3] at q0 q1 q2 q3
  have HLv := Lib.hid (fun W => levels_any nw kp pa A3 rp.length ls.length pc c3 W)
  clear hws3 ho3 hb3 hrd hel X3 R3 y2 f2 z3 O2s X2s R2s
  gi_wp2
  refine ⟨trivial, ?_⟩
  rw [HWS3.out]
  refine (callsIn_wide.2 (HLv.out _)).mono ?_
  rintro e W0 ⟨rfl, hW0⟩
  have N0 : Hid (BoxN W0 ws3.heap.size #[.int .i64 nw, .int .i64 kp, .slice pa rp.length pc, .slice A3 ls.length c3] 30) := Lib.hid (by rw [hW0]; exact World.alloc_heap_new ws3 _)
  have D0 := Lib.hid (show Below ws3.heap.size ws3 W0 from by rw [hW0]; exact (Below.refl _ _).alloc (Nat.le_refl _) _)
  have hs0 : ws3.heap.size < W0.heap.size := N0.out.lt
  have BW0 := Lib.hid (B3s.out.trans (D0.out.mono B3s.out.size))
  have X0 : BoxN W0 w.heap.size #[.int .i64 nw, .int .i64 kp, .slice pa rp.length pc, .slice A3 ls.length c3] 30 := (D0.out.block _ X3s.out.lt).trans X3s.out
  have R0 : BoxN W0 (w.heap.size + 1) #[.int .i64 0, .int .i64 0, .slice none 0 0, .slice none 0 0] 30 := (D0.out.block _ R3s.out.lt).trans R3s.out
  have P0 := u_own_below O3s.out D0.out
  have hrd0 : ∀ j, j < ls.length → RL W0 w.heap.size (es.getD j zLc).2.2 (ls.getD j zLv).2.2 := fun j hj => (HRD.out j hj).2.2.below (D0.out.mono B3s.out.size)
  have I0 : CopI w.heap.size (w.heap.size + 2) (.slice A3 ls.length c3) ls [] es W0 := ⟨HEL.out, u_own_below L3s.out D0.out, fun j hj => ⟨(HRD.out j hj).1, (HRD.out j hj).2.1⟩, fun j hj _ => hrd0 j hj, fun j hj hp => absurd hp (List.not_mem_nil), fun i j g hi hj hp => absurd hp (List.not_mem_nil)⟩
  obtain ⟨gl, hA⟩ : ∃ gl, 0 < ls.length → A3 = some ⟨gl, 0, none⟩ := by
    rcases L3s.out.2 with ⟨h0, h1⟩ | ⟨g, cap, cur, he, _⟩
    · exact ⟨0, fun h => by omega⟩
    · injection he with e1 _ _; exact ⟨g, fun _ => e1⟩
  clear hW0
  gi_wp2
  refine wpIn_rangeFunc_ownG rfl (by omega) (gf := 99) (lb := #[.pointer (some ⟨ws3.heap.size, 0, none⟩)]) rfl trivial (enters_of Try.func99 (by kernel_rfl) rfl)
    (α := {x : Nat // x < ls.length}) (encs := fun x => #[.pointer (some ⟨gl, x.1 * 3, none⟩)]) (Kp := fun W W' => W'.heap[ws3.heap.size]? = W.heap[ws3.heap.size]?) (S := fun ys => ys.map Subtype.val = List.range ls.length) (Sp := fun pre => ∃ k, k ≤ ls.length ∧ pre.map Subtype.val = List.range k) (N := ls.length) (w0 := W0)
    (fun l J Jx W hW _ _ hY h0 => levels2_in 3 (by omega) l ws3.heap.size gl c3 ls.length A3 hA hll J Jx hY W ((hW.cell (p := ⟨ws3.heap.size, 3, none⟩) hs0).trans (N0.out.cell rfl)) h0)
    (fun h k => k.trans h) (fun W l o o' h1 h2 h3 h4 => (grownBy_putObj' W l o').block _ (by have := (Array.getElem?_eq_some_iff.1 h2).1; omega) (fun e => by injection e with e; omega)) (Below.refl _ _) (fun _ => rfl)
    (fun pre W => (∃ es', CopI w.heap.size (w.heap.size + 2) (.slice A3 ls.length c3) ls (pre.map Subtype.val) es' W) ∧ BoxN W w.heap.size #[.int .i64 nw, .int .i64 kp, .slice pa rp.length pc, .slice A3 ls.length c3] 30 ∧ BoxN W (w.heap.size + 1) #[.int .i64 0, .int .i64 0, .slice none 0 0, .slice none 0 0] 30 ∧ W.ownsRow (w.heap.size + 2) 43 2 (.slice pa rp.length pc) rp.length (prs rp) ∧ Below w.heap.size w W ∧ W0.heap.size ≤ W.heap.size)
    (fun c pre W => False)
    (fun pre X Y row hs hg hr => by
      obtain ⟨⟨es', h1⟩, h2, h3, h4, h5, h6⟩ := hs
      have hwz : w.heap.size ≤ W0.heap.size := BW0.out.size
      exact ⟨⟨es', h1.mach hg (fun r e => ⟨Nat.le_trans hwz (hr r e).1, (hr r e).2⟩) h5.size⟩, h2.own hg (fun r e => (hr r e).2), h3.own hg (fun r e => (hr r e).2), own_mach h4 hg (fun r e => (hr r e).2), h5.grown hg h5.size (fun r e => Nat.le_trans hwz (hr r e).1), Nat.le_trans h6 hg.size⟩)
    (fun c pre X Y row hs hg hr => hs)
    ⟨⟨es, I0⟩, X0, R0, P0, BW0.out, Nat.le_refl _⟩
    (fun x => { tmps := #[.agg #[.int .i64 nw, .int .i64 kp, .slice Ap rp.length cp, .slice Al ls.length cl], .pointer (some ⟨w.heap.size, 0, none⟩), .pointer (some ⟨w.heap.size + 1, 0, none⟩), .pointer (some ⟨gl, x.1 * 3, none⟩), .pointer (some ⟨w.heap.size, 2, none⟩), .slice Ap rp.length cp, .slice pa rp.length pc, .pointer (some ⟨w.heap.size, 2, none⟩), .pointer (some ⟨w.heap.size, 3, none⟩), .slice Al ls.length cl, .slice A3 ls.length c3, .pointer (some ⟨w.heap.size, 3, none⟩), .agg #[.int .i64 nw, .int .i64 kp, .slice pa rp.length pc, .slice A3 ls.length c3], .func (.func 99) #[] #[.pointer (some ⟨ws3.heap.size, 0, none⟩)], .pointer (some ⟨gl, x.1 * 3, none⟩), undef, undef, undef, undef, undef, undef, undef, undef, undef], defers := [] }) ?assign ?body ?done ?stop
  case assign =>
    intro l x W K hK
    gi_wp2
    exact hK
  case body =>
    rintro l pre ⟨x, hx⟩ W ⟨⟨es', hI⟩, hX, hR, hPr, hBl, hsz⟩ hlt
    have hA' := hA (by omega)
    subst hA'
    have hwz : w.heap.size + 2 ≤ W.heap.size := by have := BW0.out.size; omega
    have hrl := hI.rl hBl.size hx (HRR.out x hx)
    have hel := hI.len
    have c2 : W.cell? ⟨gl, x * 3 + 2, none⟩ = some (es'.getD x zLc).2.2 := by rw [hI.row.cellAt _ (by omega)]; exact lvs_get2 _ _ (by omega)
    have hglo := hI.row.lt gl rfl
    have hgs : gl < W0.heap.size := by
      have h1 := L3s.out.lt gl rfl
      exact Nat.lt_trans h1.2 hs0
    have hgn : ¬ gl = ws3.heap.size := by
      have h1 := L3s.out.lt gl rfl
      omega
    have HI := Lib.hid hI
    obtain ⟨ra, rc, hrv⟩ : ∃ a c, (es'.getD x zLc).2.2 = .slice a (ls.getD x zLv).2.2.length c := by
      obtain ⟨_, _, a, c, e, _⟩ := hrl
      exact ⟨a, c, e⟩
    rw [hrv] at c2 hrl
    have HCr := Lib.hid (cloneRl_any _ _ W hrl)
    obtain ⟨rn, hrn⟩ : ∃ rn, (ls.getD x zLv).2.2.length = rn := ⟨_, rfl⟩
    have HRN := Lib.hid hrn
    rw [hrn] at c2 HCr
    have hBlH := Lib.hid hBl
    have HX := Lib.hid hX
    have HR := Lib.hid hR
    have HPr := Lib.hid hPr
    clear hrl hrv hrn hI hBl hX hR hPr hA
    gi_wp2_with (refine ⟨trivial, ?_⟩; gi_at_call 105; refine (CallsIn.inRound l (callsIn_wide.2 HCr.out)).mono ?_; rintro e W2 ⟨r, rfl, hor, hb⟩; obtain ⟨ra2, rc2, rfl⟩ := (ORow.of_own hor).shape; have hrow2 := u_own_below HI.out.row hb; have d2 : W2.cell? ⟨gl, x * 3 + 2, none⟩ = some (es'.getD x zLc).2.2 := (by rw [hrow2.cellAt _ (by omega)]; exact lvs_get2 _ _ (by omega)); have f2 := hrow2.frozenAt (x * 3 + 2); have HOR := Lib.hid hor; have HB2 := Lib.hid hb; clear hor hb hrow2 c2)
    have hst := HI.out.step (by omega) hwz hx HB2.out (r := .slice ra2 rn rc2) (by rw [HRN.out]; exact HOR.out)
    have hgw : W.grownBy (W2.setCell ⟨gl, x * 3 + 2, none⟩ (.slice ra2 rn rc2)) (some gl) := (grew_below_yy HB2.out _).trans (grown_set (World.grownBy.refl W2 (some gl)) _ _)
    have hgl2 : w.heap.size + 2 ≤ gl := hglo.1
    refine ⟨KeepsFrom.of_grownBy hgw (fun j e => by injection e with e; omega), hgw.block _ (by omega) (fun e => by injection e with e; omega), ⟨_, by rw [List.map_append]; exact hst⟩, (hgw.block _ HX.out.lt (fun e => by injection e with e; omega)).trans HX.out, (hgw.block _ HR.out.lt (fun e => by injection e with e; omega)).trans HR.out, own_kept_type HPr.out HI.out.row (by decide) hgw, hBlH.out.grown hgw hBlH.out.size (fun k e => by injection e with e; omega), Nat.le_trans hsz hgw.size⟩
  case done =>
    rintro D ys W hD hys ⟨⟨es', hI⟩, hX, hR, hPr, hBl, hsz⟩ hK
    have hall : ∀ j, j < ls.length → j ∈ ys.map Subtype.val := fun j hj => by rw [hys]; exact List.mem_range.2 hj
    have HCD := Lib.hid (hI.cd (nw := nw) (kp := kp) hall hPr)
    have HK := Lib.hid hK
    have HBl := Lib.hid hBl
    have x0 := hX.cell (i := 0) rfl
    have x1 := hX.cell (i := 1) rfl
    have x2 := hX.cell (i := 2) rfl
    have x3 := hX.cell (i := 3) rfl
    have r0 := hR.cell (i := 0) rfl
    have r1 := hR.cell (i := 1) rfl
    have r2 := hR.cell (i := 2) rfl
    have r3 := hR.cell (i := 3) rfl
    have g0 := hR.frozen (i := 0)
    have g1 := hR.frozen (i := 1)
    have g2 := hR.frozen (i := 2)
    have g3 := hR.frozen (i := 3)
    obtain ⟨W4, hW4⟩ : ∃ W4, (((W.setCell ⟨w.heap.size + 1, 0, none⟩ (.int .i64 nw)).setCell ⟨w.heap.size + 1, 1, none⟩ (.int .i64 kp)).setCell ⟨w.heap.size + 1, 2, none⟩ (.slice pa rp.length pc)).setCell ⟨w.heap.size + 1, 3, none⟩ (.slice A3 ls.length c3) = W4 := ⟨_, rfl⟩
    have s0 := heap_setCell_same W (w.heap.size + 1) 0 _ _ (.int .i64 nw) hR
    have s1 := heap_setCell_same _ (w.heap.size + 1) 1 _ _ (.int .i64 kp) s0
    have s2 := heap_setCell_same _ (w.heap.size + 1) 2 _ _ (.slice pa rp.length pc) s1
    have s3 := heap_setCell_same _ (w.heap.size + 1) 3 _ _ (.slice A3 ls.length c3) s2
    rw [hW4] at s3
    have R4 : BoxN W4 (w.heap.size + 1) #[.int .i64 nw, .int .i64 kp, .slice pa rp.length pc, .slice A3 ls.length c3] 30 := s3
    have B4 : ∀ k, ¬ k = w.heap.size + 1 → W4.heap[k]? = W.heap[k]? := fun k hk => by
      rw [← hW4]
      exact ((Below.heap_setCell _ _ _ k hk).trans ((Below.heap_setCell _ _ _ k hk).trans ((Below.heap_setCell _ _ _ k hk).trans (Below.heap_setCell _ _ _ k hk))))
    have HL4 := Lib.hid (show Below w.heap.size w W4 from by
      rw [← hW4]
      exact (((hBl.setCell (p := ⟨w.heap.size + 1, 0, none⟩) (by simp) _).setCell (p := ⟨w.heap.size + 1, 1, none⟩) (by simp) _).setCell (p := ⟨w.heap.size + 1, 2, none⟩) (by simp) _).setCell (p := ⟨w.heap.size + 1, 3, none⟩) (by simp) _)
    have hDs : w.heap.size + 1 < D := by have := BW0.out.size; omega
    have hK4 : W4.heap[D]? = some (.deferred (some [])) := (B4 D (by omega)).trans hK
    have HK4 := Lib.hid hK4
    have HB4 := Lib.hid B4
    have HR4 := Lib.hid R4
    have HW4 := Lib.hid hW4
    have hsz4 : W.heap.size ≤ W4.heap.size := by rw [← hW4]; simp [World.setCell]
    clear s0 s1 s2 s3 R4 B4 hW4 hK4 hI hX hR hPr hBl hK hys hall hA
    gi_wp2
    rw [HW4.out]
    refine ⟨by simp, .inl ⟨_, _, rfl, run_takeDeferred HK4.out, ?_⟩⟩
    have hR5 : BoxN (W4.putObj D (.deferred none)) (w.heap.size + 1) #[.int .i64 nw, .int .i64 kp, .slice pa rp.length pc, .slice A3 ls.length c3] 30 := ((grownBy_putObj' W4 D (.deferred none)).block _ HR4.out.lt (fun e => by injection e with e; omega)).trans HR4.out
    have c0 := hR5.cell (i := 0) rfl
    have c1 := hR5.cell (i := 1) rfl
    have c2 := hR5.cell (i := 2) rfl
    have c3' := hR5.cell (i := 3) rfl
    refine ⟨.agg #[.int .i64 nw, .int .i64 kp, .slice pa rp.length pc, .slice A3 ls.length c3], by simp [results, Try.results65, go_sem, c0, c1, c2, c3'], _, _, es', rfl, (CD.at_ (W := W) HCD.out (fun g hg => ?_)).lift (by omega) ?_, ?_⟩
    · have hlt := HCD.out.lt hg
      obtain ⟨ob, ho, hc⟩ := HCD.out.isCells hg
      have hgD : ¬ g = D := by
        rintro rfl
        have := HB4.out g (by omega)
        rw [HK4.out, ho] at this
        injection this with this
        subst this
        cases hc
      exact ((grownBy_putObj' W4 D (.deferred none)).block g (by omega) (fun e => by injection e with e; exact hgD e)).trans (HB4.out g (by omega))
    · exact Nat.le_trans hsz4 (grownBy_putObj' W4 D (.deferred none)).size
    · exact HL4.out.trans ⟨rfl, rfl, rfl, (grownBy_putObj' W4 D (.deferred none)).size, fun k hk => (grownBy_putObj' W4 D (.deferred none)).block k (by have := HL4.out.size; omega) (fun e => by injection e with e; omega)⟩
  case stop =>
    rintro D c pre W hD _ hF
    exact hF.elim
theorem copied_any (v : Value) (c : Cs) (w : World) (h : CV w w.heap.size v c) :
    Calls Try.prog 65 #[v] w (CPostD w.heap.size c w) := by
  obtain ⟨nw, kp, rp, ls⟩ := c
  obtain ⟨rv, lv, rfl, hP, hL, z1, z2⟩ := h
  simp only at hP hL ⊢
  obtain ⟨_, _, Ap, cp, rfl, _⟩ := id hP
  obtain ⟨_, _, Al, cl, rfl, _⟩ := id hL
  exact copied_go nw kp Ap Al cp cl rp ls w hP hL
end Go.Proofs.Ytcjpedolmnahfaa
