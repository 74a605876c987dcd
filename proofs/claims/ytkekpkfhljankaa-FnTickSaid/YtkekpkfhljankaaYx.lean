/- Walks: a copy of the levels' row; the range over the levels, written into. -/
import Derived.Lib.SliceRun
import Derived.Test.YtkekpkfhljankaaWx
import Derived.RangeFuncBox
import Derived.RangeFuncLeaves
import Derived.RangeFuncNested
import Derived.Shelf.Abstract
import Derived.OwnWalkIn
import Derived.TacticsInMore
import Derived.LoopNIn
import Derived.LoopIn
set_option linter.unusedVariables false
set_option linter.unusedSimpArgs false
namespace Go.Proofs.Ytkekpkfhljankaa
open Go.RowKit Go.Shelf

attribute [local go_sem] Oper.semAt_some

theorem lvs_one (es : List LvC) (h : ∀ x ∈ es, ∃ a n c, x.2.2 = .slice a n c) : ∀ u ∈ lvs es, u.oneCell' = true := by
  intro u hu
  unfold lvs at hu
  obtain ⟨p, hp, h2⟩ := List.mem_flatMap.1 hu
  obtain ⟨a, n, c, e⟩ := h p hp
  simp at h2
  rcases h2 with rfl | rfl | rfl
  · rfl
  · rfl
  · rw [e]; rfl
theorem RL.old {w w' : World} {B : Nat} {v : Value} {xs : List R6} (hb : Below B w w') (h : RL w' B v xs) : RL w B v xs := by
  obtain ⟨h1, h2, A, c, rfl, h3⟩ := h
  refine ⟨h1, h2, A, c, rfl, ?_⟩
  rcases h3 with h3 | ⟨b, off, rfl, hlt, hc⟩
  · exact .inl h3
  · refine .inr ⟨b, off, rfl, hlt, fun j hj => ?_⟩
    obtain ⟨c0, c1, c2, c3, c4, c5⟩ := hc j hj
    have e : ∀ i, w'.cell? ⟨b, i, none⟩ = w.cell? ⟨b, i, none⟩ := fun i => hb.cell (p := ⟨b, i, none⟩) hlt
    exact ⟨(e _).symm.trans c0, (e _).symm.trans c1, (e _).symm.trans c2, (e _).symm.trans c3, (e _).symm.trans c4, (e _).symm.trans c5⟩
open Classical in
theorem LS.src {w : World} {B : Nat} {v : Value} {ls : List Lv} (h : LS w B v ls) : ∃ es : List LvC, es.length = ls.length ∧ Src w v ls.length (lvs es) ∧ (∀ x ∈ es, ∃ a n c, x.2.2 = .slice a n c) ∧ ∀ j, j < ls.length → (es.getD j zLc).1 = (ls.getD j zLv).1 ∧ (es.getD j zLc).2.1 = (ls.getD j zLv).2.1 ∧ RL w B (es.getD j zLc).2.2 (ls.getD j zLv).2.2 := by
  obtain ⟨_, _, A, c, rfl, h3⟩ := h
  rcases h3 with rfl | ⟨b, off, rfl, hb, hc⟩
  · have hs : Src w (.slice A 0 c) 0 (lvs []) := ⟨A, c, rfl, by
      cases A with
      | none => exact .inl ⟨rfl, rfl, rfl⟩
      | some ad => exact .inr ⟨ad, rfl, fun j q hq => by simp [lvs] at hq⟩⟩
    exact ⟨[], rfl, hs, (fun x hx => absurd hx (List.not_mem_nil)), fun j hj => absurd hj (Nat.not_lt_zero j)⟩
  · have hx : ∀ j, ∃ r : Value, j < ls.length → w.cell? ⟨b, off + j * 3, none⟩ = some (.int .i64 (ls.getD j zLv).1) ∧ w.cell? ⟨b, off + j * 3 + 1, none⟩ = some (.int .i64 (ls.getD j zLv).2.1) ∧ w.cell? ⟨b, off + j * 3 + 2, none⟩ = some r ∧ RL w B r (ls.getD j zLv).2.2 := by
      intro j
      by_cases hj : j < ls.length
      · obtain ⟨c0, c1, r, c2, hr⟩ := hc j hj
        exact ⟨r, fun _ => ⟨c0, c1, c2, hr⟩⟩
      · exact ⟨.bool true, fun h => absurd h hj⟩
    obtain ⟨g, hg⟩ := Classical.axiomOfChoice hx
    have hget : ∀ j, j < ls.length → ((List.range ls.length).map (fun j => ((ls.getD j zLv).1, (ls.getD j zLv).2.1, g j))).getD j zLc = ((ls.getD j zLv).1, (ls.getD j zLv).2.1, g j) := fun j hj => by simp [List.getD_eq_getElem?_getD, hj]
    refine ⟨(List.range ls.length).map (fun j => ((ls.getD j zLv).1, (ls.getD j zLv).2.1, g j)), by simp, ⟨_, c, rfl, .inr ⟨_, rfl, fun i q hq => ?_⟩⟩, fun x hx => ?_, fun j hj => ?_⟩
    · have hi := (List.getElem?_eq_some_iff.1 hq).1
      rw [lvs_length, List.length_map, List.length_range] at hi
      have ha : (⟨b, off, none⟩ : Addr).add i = ⟨b, off + i, none⟩ := by unfold Addr.add; split <;> simp_all
      rw [ha]
      have hlt : i / 3 < ls.length := by omega
      obtain ⟨h0, h1, h2, _⟩ := hg (i / 3) hlt
      have hlen : i / 3 < ((List.range ls.length).map (fun j => ((ls.getD j zLv).1, (ls.getD j zLv).2.1, g j))).length := by simpa using hlt
      rcases (show i % 3 = 0 ∨ i % 3 = 1 ∨ i % 3 = 2 by omega) with e | e | e
      · have e2 : i = i / 3 * 3 := by omega
        rw [e2, lvs_get0 _ _ hlen, hget _ hlt] at hq
        have e3 : off + i / 3 * 3 = off + i := by omega
        rw [e3] at h0; rw [h0]; exact hq
      · have e2 : i = i / 3 * 3 + 1 := by omega
        rw [e2, lvs_get1 _ _ hlen, hget _ hlt] at hq
        have e3 : off + i / 3 * 3 + 1 = off + i := by omega
        rw [e3] at h1; rw [h1]; exact hq
      · have e2 : i = i / 3 * 3 + 2 := by omega
        rw [e2, lvs_get2 _ _ hlen, hget _ hlt] at hq
        have e3 : off + i / 3 * 3 + 2 = off + i := by omega
        rw [e3] at h2; rw [h2]; exact hq
    · obtain ⟨j, hj, rfl⟩ := List.mem_map.1 hx
      obtain ⟨_, _, A', c', e, _⟩ := (hg j (by simpa using hj)).2.2.2
      exact ⟨A', _, c', e⟩
    · rw [hget j hj]
      exact ⟨rfl, rfl, (hg j hj).2.2.2⟩

set_option maxRecDepth 100000 in
set_option maxHeartbeats 2000000 in
theorem cloneLv_any (B : Nat) (v : Value) (ls : List Lv) (w : World) (h : LS w B v ls) (hB : B ≤ w.heap.size) :
    Calls Try.prog 115 #[v] w fun e w' => ∃ v' es, e = .returned v' ∧ es.length = ls.length ∧ w'.ownsRow w.heap.size 58 3 v' ls.length (lvs es) ∧ (∀ j, j < ls.length → (es.getD j zLc).1 = (ls.getD j zLv).1 ∧ (es.getD j zLc).2.1 = (ls.getD j zLv).2.1 ∧ RL w B (es.getD j zLc).2.2 (ls.getD j zLv).2.2) ∧ Below w.heap.size w w' := by
  have qT : ∀ (w : World) (a : Option Addr) (n c n' c' : Nat), (binOp .eql 30 (.slice a n c) (.slice none n' c')).run Try.prog w = .ok (.bool a.isNone) w := fun w a n c n' c' => Lib.run_eql_slice_nil w _ _ a n c n' c' Try.underlying30
  have HP := Lib.hid h
  obtain ⟨i0, hi, hz0, hz1, hz2⟩ := info_parts info_lv
  obtain ⟨z1, hlen, A, c, rfl, h3⟩ := h
  clear z1
  cases A with
  | none =>
    have e0 : ls = [] := by
      rcases h3 with h3 | ⟨b, off, e, _⟩
      · exact h3
      · cases e
    clear h3
    subst e0
    go_enter Try.func115, Try.ntmps115
    go_wp2_with fail
    go_ret
    exact ⟨_, [], rfl, rfl, World.ownsRow_nil _ _ _ _, fun j hj => by simp at hj, Below.refl _ _⟩
  | some ad =>
    clear h3
    obtain ⟨es', hel', hsr, hes', hrd'⟩ := (HP.out.below ((Below.refl B w).alloc hB (.cells #[] 58))).src
    have HRD := Lib.hid hrd'
    have HEL := Lib.hid hel'
    have HS := Lib.hid hsr
    have HES := Lib.hid (lvs_one es' hes')
    have HLE := Lib.hid (show (lvs es').length = ls.length * 3 from by rw [lvs_length, hel'])
    have HO := Lib.hid (World.ownsRow_made w (base := w.heap.size) (e := 58) (size := 3) #[] 0 (Nat.le_refl _) (by simp [maxLen]) rfl)
    clear hel' hsr hes' hrd'
    go_enter Try.func115, Try.ntmps115
    go_wp2_with (at_builtin; refine wpList_append_src rfl _ _ 30 rfl w.heap.size 58 i0 (.agg #[.int .i64 0, .int .i64 0, .slice none 0 0]) 3 40 Try.underlying30 hi hz0 hz1 hz2 rfl (by decide) (.slice (some ⟨w.heap.size, 0, none⟩) 0 0) 0 [] rfl HO.out (.slice (some ad) ls.length c) ls.length (lvs es') rfl HS.out HLE.out HES.out ?c3 ?c4 ?c5 ?_)
    case c3 => unfold maxLen; omega
    case c4 => omega
    case c5 => first | omega | (simp; omega) | simp
    intro v4 w4 hown4 hgrow4
    have HB4 := Lib.hid (((Below.refl w.heap.size w).alloc (Nat.le_refl _) (.cells #[] 58)).grown hgrow4 (by simp) (fun k hk => by simp [Value.ownBlock] at hk; omega))
    have HO4 := Lib.hid (show w4.ownsRow w.heap.size 58 3 v4 ls.length (lvs es') from by simpa using hown4)
    clear hown4 hgrow4
    go_wp2_with fail
    go_ret
    refine ⟨_, es', rfl, HEL.out, HO4.out, fun j hj => ?_, HB4.out⟩
    obtain ⟨q0, q1, q2⟩ := HRD.out j hj
    exact ⟨q0, q1, RL.old ((Below.refl B w).alloc hB _) q2⟩
end Go.Proofs.Ytkekpkfhljankaa

/- Walks: cascades: the range over the levels whose rows are written; a copy of a cascade. -/
set_option linter.unusedVariables false
set_option linter.unusedSimpArgs false
namespace Go.Proofs.Ytkekpkfhljankaa
open Go.RowKit Go.Shelf

attribute [local go_sem] Oper.semAt_some

set_option maxRecDepth 100000 in
set_option maxHeartbeats 4000000 in
theorem levels2_in (n : Nat) (hn : 1 ≤ n) (l Bn b cl m : Nat) (Al : Option Addr) (hA : 0 < m → Al = some ⟨b, 0, none⟩) (hll : m ≤ 1048576) (J Jx : List {x : Nat // x < m} → World → Prop)
    (hY : ∀ pre (x : {x : Nat // x < m}) W, J pre W → pre.length < m → YieldAt Fence.wide (n - 1) Try.prog l #[.pointer (some ⟨b, x.1 * 3, none⟩)] W fun e W' =>
      (e = .returned (.bool true) ∧ J (pre ++ [x]) W' ∧ W'.heap[Bn]? = W.heap[Bn]?) ∨ (e = .returned (.bool false) ∧ Jx (pre ++ [x]) W'))
    (W : World) (hBn : W.cell? ⟨Bn, 3, none⟩ = some (.slice Al m cl)) (h0 : J [] W) :
    CallsIn Fence.wide n Try.prog 130 #[.func (.yield l) #[] #[], .pointer (some ⟨Bn, 0, none⟩)] W fun e W' => (∃ v, e = .returned v) ∧
      ((∃ ys, ys.map Subtype.val = List.range m ∧ J ys W') ∨ (∃ pre, (∃ k, k ≤ m ∧ pre.map Subtype.val = List.range k) ∧ Jx pre W')) := by
  have HY := Lib.hid hY
  clear hY
  refine callsIn_of_wp Try.func130 rfl trivial ?_ rfl
  simp only [Try.ntmps130, List.size_toArray, List.length_cons, List.length_nil, Nat.reduceAdd, Nat.reduceSub, Array.replicate_succ, Array.replicate_zero, List.push_toArray, List.append_toArray, List.nil_append, List.cons_append]
  have HBn := Lib.hid hBn
  gi_wp2
  gi_loopw [7] (fun i wr => ∃ (k : Nat) (pre : List {x : Nat // x < m}), k ≤ m ∧ i = .int .i64 k ∧ Hid (pre.map Subtype.val = List.range k) ∧ Hid (J pre wr) ∧ Hid (wr.cell? ⟨Bn, 3, none⟩ = some (.slice Al m cl)))
    (fun i _ => m - (intOf i).toNat)
  case atStart => exact ⟨0, [], Nat.zero_le _, rfl, Lib.hid rfl, Lib.hid h0, HBn⟩
  case round =>
    clear hBn
    obtain ⟨k, pre, hk, rfl, HP, HJk, HBk⟩ := hrel
    by_cases hlt : k < m
    · have hb3 := HBk.out
      rw [hA (by omega)] at hb3
      have hpl : pre.length < m := by
        have h := congrArg List.length HP.out
        rw [List.length_map, List.length_range] at h
        omega
      obtain ⟨fn, tmps, assign, body, hy, hR⟩ := HY.out pre ⟨k, hlt⟩ wr HJk.out hpl
      have HS : Hid ((pre ++ [(⟨k, hlt⟩ : {x : Nat // x < m})]).map Subtype.val = List.range (k + 1)) := Lib.hid (by
        rw [List.map_append, HP.out, List.range_succ]; rfl)
      generalize pre ++ [(⟨k, hlt⟩ : {x : Nat // x < m})] = pre1 at *
      dsimp only at hy
      gi_wp2
      refine hR.mono ?_
      rintro e W3 (⟨rfl, hJ3, hk3⟩ | ⟨rfl, hJx3⟩)
      · gi_wp2
        go_roundw
        case rel => exact ⟨k + 1, pre1, by omega, by go_num, HS, Lib.hid hJ3, Lib.hid ((heap_cell hk3).trans HBk.out)⟩
        case measure => simp [intOf]; omega
      · gi_wp2
        refine bodyPost_ret (results_none rfl _ _ _) rfl ?_
        exact ⟨⟨_, rfl⟩, .inr ⟨pre1, ⟨k + 1, by omega, HS.out⟩, hJx3⟩⟩
    · obtain rfl : k = m := by omega
      gi_wp2
      go_end0
      exact ⟨⟨_, rfl⟩, .inl ⟨pre, HP.out, HJk.out⟩⟩

/-- the levels' row while its rolls are copied: those of the numbers in pre are rows of the call's own, apart from each other -/
structure CopI (n₀ base : Nat) (v : Value) (ls : List Lv) (pre : List Nat) (es : List LvC) (W : World) : Prop where
  len : es.length = ls.length
  row : W.ownsRow base 58 3 v ls.length (lvs es)
  lv : ∀ j, j < ls.length → (es.getD j zLc).1 = (ls.getD j zLv).1 ∧ (es.getD j zLc).2.1 = (ls.getD j zLv).2.1
  old : ∀ j, j < ls.length → ¬ j ∈ pre → RL W n₀ (es.getD j zLc).2.2 (ls.getD j zLv).2.2
  own : ∀ j, j < ls.length → j ∈ pre → W.ownsRow base 60 6 (es.getD j zLc).2.2 (ls.getD j zLv).2.2.length (rls (ls.getD j zLv).2.2)
  dist : ∀ i j g, i < ls.length → j < ls.length → i ∈ pre → j ∈ pre → ¬ i = j → (es.getD i zLc).2.2.ownBlock = some g → ¬ (es.getD j zLc).2.2.ownBlock = some g
theorem own_mach {X Y : World} {row : Option Nat} {base sz : Nat} {e : TypeId} {v : Value} {n : Nat} {xs : List Value} (h : X.ownsRow base e sz v n xs) (hg : X.grownBy Y row) (hr : ∀ r, row = some r → ∃ o : Obj, X.heap[r]? = some o ∧ o.isCells = false) : Y.ownsRow base e sz v n xs := by
  refine ⟨h.1, ?_⟩
  rcases h.2 with h0 | ⟨g, cap, cur, rfl, hb, hh, hq⟩
  · exact .inl h0
  · refine .inr ⟨g, cap, cur, rfl, hb, (hg.block g (Array.getElem?_eq_some_iff.1 hh).1 (fun e => ?_)).trans hh, hq⟩
    obtain ⟨o, ho, hc⟩ := hr g e.symm
    rw [hh] at ho; cases ho; cases hc
theorem CopI.mach {n₀ base : Nat} {v : Value} {ls : List Lv} {pre : List Nat} {es : List LvC} {X Y : World} {row : Option Nat} (h : CopI n₀ base v ls pre es X) (hg : X.grownBy Y row) (hr : ∀ r, row = some r → n₀ ≤ r ∧ ∃ o : Obj, X.heap[r]? = some o ∧ o.isCells = false) (hn : n₀ ≤ X.heap.size) : CopI n₀ base v ls pre es Y :=
  ⟨h.len, own_mach h.row hg (fun r e => (hr r e).2), h.lv, fun j hj hp => (h.old j hj hp).below ⟨hg.os, hg.tape, hg.output, hg.size, fun k hk => hg.block k (by omega) (fun e => by have := (hr k e.symm).1; omega)⟩, fun j hj hp => own_mach (h.own j hj hp) hg (fun r e => (hr r e).2), h.dist⟩
/-- one more level copied -/
theorem CopI.step {n₀ base gl cap x : Nat} {ls : List Lv} {pre : List Nat} {es : List LvC} {W W1 : World} {r : Value} (h : CopI n₀ base (.slice (some ⟨gl, 0, none⟩) ls.length cap) ls pre es W) (hn : n₀ ≤ base) (hs : base ≤ W.heap.size) (hx : x < ls.length) (hb : Below W.heap.size W W1)
    (hr : W1.ownsRow W.heap.size 60 6 r (ls.getD x zLv).2.2.length (rls (ls.getD x zLv).2.2)) :
    CopI n₀ base (.slice (some ⟨gl, 0, none⟩) ls.length cap) ls (pre ++ [x]) (es.set x ((es.getD x zLc).1, (es.getD x zLc).2.1, r)) (W1.setCell ⟨gl, x * 3 + 2, none⟩ r) := by
  have hlen := h.len
  have hrow1 := u_own_below h.row hb
  have hgl := hrow1.lt gl rfl
  have hgl0 := h.row.lt gl rfl
  have hset := hrow1.stored (x * 3 + 2) r
  have hsame : ∀ j, j < ls.length → ¬ j = x → (es.set x ((es.getD x zLc).1, (es.getD x zLc).2.1, r)).getD j zLc = es.getD j zLc := fun j hj e => by rw [getD_set_lv _ _ _ _ (by omega), if_neg e]
  have hat : (es.set x ((es.getD x zLc).1, (es.getD x zLc).2.1, r)).getD x zLc = ((es.getD x zLc).1, (es.getD x zLc).2.1, r) := by rw [getD_set_lv _ _ _ _ (by omega), if_pos rfl]
  have hl3 : (lvs es).set (x * 3 + 2) r = lvs (es.set x ((es.getD x zLc).1, (es.getD x zLc).2.1, r)) := by
    have h3 := lvs_set es x (es.getD x zLc).1 (es.getD x zLc).2.1 r (by omega)
    rw [← h3]
    congr 1
    apply List.ext_getElem?
    intro i
    by_cases e0 : i = x * 3
    · subst e0
      rw [List.getElem?_set_ne (by omega), List.getElem?_set_self (by rw [lvs_length]; omega)]
      exact lvs_get0 _ _ (by omega)
    · by_cases e1 : i = x * 3 + 1
      · subst e1
        rw [List.getElem?_set_self (by rw [List.length_set, lvs_length]; omega)]
        exact lvs_get1 _ _ (by omega)
      · rw [List.getElem?_set_ne (by omega), List.getElem?_set_ne (by omega)]
  rw [hl3] at hset
  have hkeepR : ∀ {b n : Nat} {u : Value} {xs : List Value}, W1.ownsRow b 60 6 u n xs → (W1.setCell ⟨gl, x * 3 + 2, none⟩ r).ownsRow b 60 6 u n xs := fun hu => own_kept_type hu hrow1 (by decide) hset.2
  refine ⟨by simpa using hlen, hset.1, fun j hj => ?_, fun j hj hp => ?_, fun j hj hp => ?_, fun i j g hi hj hpi hpj hne ei => ?_⟩
  · by_cases e : j = x
    · subst e; rw [hat]; exact h.lv j hj
    · rw [hsame j hj e]; exact h.lv j hj
  · have e : ¬ j = x := fun e => hp (by rw [e]; simp)
    rw [hsame j hj e]
    have h1 := (h.old j hj (fun hq => hp (by simp [hq]))).below (hb.mono (by omega : n₀ ≤ W.heap.size))
    exact h1.below ((Below.refl n₀ W1).setCell (p := ⟨gl, x * 3 + 2, none⟩) (by show n₀ ≤ gl; omega) r)
  · by_cases e : j = x
    · subst e; rw [hat]
      exact hkeepR ⟨hr.1, hr.2.imp id fun ⟨g, cap, cur, a, b, c⟩ => ⟨g, cap, cur, a, Nat.le_trans hs b, c⟩⟩
    · rw [hsame j hj e]
      have hq : j ∈ pre := by
        rcases List.mem_append.1 hp with hq | hq
        · exact hq
        · exact absurd (List.mem_singleton.1 hq) e
      exact hkeepR (u_own_below (h.own j hj hq) hb)
  · have hin : ∀ y, y ∈ pre ++ [x] → ¬ y = x → y ∈ pre := fun y hy e => by
      rcases List.mem_append.1 hy with hq | hq
      · exact hq
      · exact absurd (List.mem_singleton.1 hq) e
    by_cases e1 : i = x
    · subst e1
      have e2 : ¬ j = i := fun e => hne e.symm
      rw [hat] at ei
      rw [hsame j hj e2]
      intro ej
      have q1 := (hr.lt g ei).1
      have q2 := ((h.own j hj (hin j hpj e2)).lt g ej).2
      omega
    · rw [hsame i hi e1] at ei
      by_cases e2 : j = x
      · subst e2
        rw [hat]
        intro ej
        have q1 := (hr.lt g ej).1
        have q2 := ((h.own i hi (hin i hpi e1)).lt g ei).2
        omega
      · rw [hsame j hj e2]
        exact h.dist i j g hi hj (hin i hpi e1) (hin j hpj e2) hne ei
theorem CopI.rl {n₀ base : Nat} {v : Value} {ls : List Lv} {pre : List Nat} {es : List LvC} {W : World} (h : CopI n₀ base v ls pre es W) (hn : n₀ ≤ W.heap.size) {x : Nat} (hx : x < ls.length) (hr : (∀ i, Rng6 ((ls.getD x zLv).2.2.getD i z6)) ∧ (ls.getD x zLv).2.2.length ≤ 1048576) : RL W W.heap.size (es.getD x zLc).2.2 (ls.getD x zLv).2.2 := by
  by_cases hp : x ∈ pre
  · exact RL.of_own (h.own x hx hp) rfl hr.1 hr.2
  · exact (h.old x hx hp).up hn
end Go.Proofs.Ytkekpkfhljankaa
