/- Walks: a copy of the levels' row; the range over the levels, written into. -/
import Derived.Lib.SliceRun
import Derived.Test.YtdmcijodhokahaaWx
set_option linter.unusedVariables false
set_option linter.unusedSimpArgs false
namespace Go.Proofs.Ytdmcijodhokahaa
open Go.RowKit Go.Shelf

attribute [local go_sem] Oper.semAt_some

theorem lvs_one (es : List LvC) (h : ∀ x ∈ es, ∃ a n c, x.2.2 = .slice a n c) : ∀ u ∈ lvs es, u.oneCell' = true := by
  intro u hu
  unfold lvs at hu
  obtain ⟨p, hp, h2⟩ := List.mem_flatMap.1 hu
  obtain ⟨a, n, c, e⟩ := h p hp
  simp at h2
  rcases h2 with rfl | rfl | rfl
  · rfl
  · rfl
  · rw [e]; rfl
theorem RL.old {w w' : World} {B : Nat} {v : Value} {xs : List R6} (hb : Below B w w') (h : RL w' B v xs) : RL w B v xs := by
  obtain ⟨h1, h2, A, c, rfl, h3⟩ := h
  refine ⟨h1, h2, A, c, rfl, ?_⟩
  rcases h3 with h3 | ⟨b, off, rfl, hlt, hc⟩
  · exact .inl h3
  · refine .inr ⟨b, off, rfl, hlt, fun j hj => ?_⟩
    obtain ⟨c0, c1, c2, c3, c4, c5⟩ := hc j hj
    have e : ∀ i, w'.cell? ⟨b, i, none⟩ = w.cell? ⟨b, i, none⟩ := fun i => hb.cell (p := ⟨b, i, none⟩) hlt
    exact ⟨(e _).symm.trans c0, (e _).symm.trans c1, (e _).symm.trans c2, (e _).symm.trans c3, (e _).symm.trans c4, (e _).symm.trans c5⟩
open Classical in
theorem LS.src {w : World} {B : Nat} {v : Value} {ls : List Lv} (h : LS w B v ls) : ∃ es : List LvC, es.length = ls.length ∧ Src w v ls.length (lvs es) ∧ (∀ x ∈ es, ∃ a n c, x.2.2 = .slice a n c) ∧ ∀ j, j < ls.length → (es.getD j zLc).1 = (ls.getD j zLv).1 ∧ (es.getD j zLc).2.1 = (ls.getD j zLv).2.1 ∧ RL w B (es.getD j zLc).2.2 (ls.getD j zLv).2.2 := by
  obtain ⟨_, _, A, c, rfl, h3⟩ := h
  rcases h3 with rfl | ⟨b, off, rfl, hb, hc⟩
  · have hs : Src w (.slice A 0 c) 0 (lvs []) := ⟨A, c, rfl, by
      cases A with
      | none => exact .inl ⟨rfl, rfl, rfl⟩
      | some ad => exact .inr ⟨ad, rfl, fun j q hq => by simp [lvs] at hq⟩⟩
    exact ⟨[], rfl, hs, (fun x hx => absurd hx (List.not_mem_nil)), fun j hj => absurd hj (Nat.not_lt_zero j)⟩
  · have hx : ∀ j, ∃ r : Value, j < ls.length → w.cell? ⟨b, off + j * 3, none⟩ = some (.int .i64 (ls.getD j zLv).1) ∧ w.cell? ⟨b, off + j * 3 + 1, none⟩ = some (.int .i64 (ls.getD j zLv).2.1) ∧ w.cell? ⟨b, off + j * 3 + 2, none⟩ = some r ∧ RL w B r (ls.getD j zLv).2.2 := by
      intro j
      by_cases hj : j < ls.length
      · obtain ⟨c0, c1, r, c2, hr⟩ := hc j hj
        exact ⟨r, fun _ => ⟨c0, c1, c2, hr⟩⟩
      · exact ⟨.bool true, fun h => absurd h hj⟩
    obtain ⟨g, hg⟩ := Classical.axiomOfChoice hx
    have hget : ∀ j, j < ls.length → ((List.range ls.length).map (fun j => ((ls.getD j zLv).1, (ls.getD j zLv).2.1, g j))).getD j zLc = ((ls.getD j zLv).1, (ls.getD j zLv).2.1, g j) := fun j hj => by simp [List.getD_eq_getElem?_getD, hj]
    refine ⟨(List.range ls.length).map (fun j => ((ls.getD j zLv).1, (ls.getD j zLv).2.1, g j)), by simp, ⟨_, c, rfl, .inr ⟨_, rfl, fun i q hq => ?_⟩⟩, fun x hx => ?_, fun j hj => ?_⟩
    · have hi := (List.getElem?_eq_some_iff.1 hq).1
      rw [lvs_length, List.length_map, List.length_range] at hi
      have ha : (⟨b, off, none⟩ : Addr).add i = ⟨b, off + i, none⟩ := by unfold Addr.add; split <;> simp_all
      rw [ha]
      have hlt : i / 3 < ls.length := by omega
      obtain ⟨h0, h1, h2, _⟩ := hg (i / 3) hlt
      have hlen : i / 3 < ((List.range ls.length).map (fun j => ((ls.getD j zLv).1, (ls.getD j zLv).2.1, g j))).length := by simpa using hlt
      rcases (show i % 3 = 0 ∨ i % 3 = 1 ∨ i % 3 = 2 by omega) with e | e | e
      · have e2 : i = i / 3 * 3 := by omega
        rw [e2, lvs_get0 _ _ hlen, hget _ hlt] at hq
        have e3 : off + i / 3 * 3 = off + i := by omega
        rw [e3] at h0; rw [h0]; exact hq
      · have e2 : i = i / 3 * 3 + 1 := by omega
        rw [e2, lvs_get1 _ _ hlen, hget _ hlt] at hq
        have e3 : off + i / 3 * 3 + 1 = off + i := by omega
        rw [e3] at h1; rw [h1]; exact hq
      · have e2 : i = i / 3 * 3 + 2 := by omega
        rw [e2, lvs_get2 _ _ hlen, hget _ hlt] at hq
        have e3 : off + i / 3 * 3 + 2 = off + i := by omega
        rw [e3] at h2; rw [h2]; exact hq
    · obtain ⟨j, hj, rfl⟩ := List.mem_map.1 hx
      obtain ⟨_, _, A', c', e, _⟩ := (hg j (by simpa using hj)).2.2.2
      exact ⟨A', _, c', e⟩
    · rw [hget j hj]
      exact ⟨rfl, rfl, (hg j hj).2.2.2⟩

set_option maxRecDepth 100000 in
set_option maxHeartbeats 2000000 in
theorem cloneLv_any (B : Nat) (v : Value) (ls : List Lv) (w : World) (h : LS w B v ls) (hB : B ≤ w.heap.size) :
    Calls Try.prog 101 #[v] w fun e w' => ∃ v' es, e = .returned v' ∧ es.length = ls.length ∧ w'.ownsRow w.heap.size 54 3 v' ls.length (lvs es) ∧ (∀ j, j < ls.length → (es.getD j zLc).1 = (ls.getD j zLv).1 ∧ (es.getD j zLc).2.1 = (ls.getD j zLv).2.1 ∧ RL w B (es.getD j zLc).2.2 (ls.getD j zLv).2.2) ∧ Below w.heap.size w w' := by
  have qT : ∀ (w : World) (a : Option Addr) (n c n' c' : Nat), (binOp .eql 28 (.slice a n c) (.slice none n' c')).run Try.prog w = .ok (.bool a.isNone) w := fun w a n c n' c' => Lib.run_eql_slice_nil w _ _ a n c n' c' Try.underlying28
  have HP := Lib.hid h
  obtain ⟨i0, hi, hz0, hz1, hz2⟩ := info_parts info_lv
  obtain ⟨z1, hlen, A, c, rfl, h3⟩ := h
  clear z1
  cases A with
  | none =>
    have e0 : ls = [] := by
      rcases h3 with h3 | ⟨b, off, e, _⟩
      · exact h3
      · cases e
    clear h3
    subst e0
    go_enter Try.func101, Try.ntmps101
    go_wp2_with fail
    go_ret
    exact ⟨_, [], rfl, rfl, World.ownsRow_nil _ _ _ _, fun j hj => by simp at hj, Below.refl _ _⟩
  | some ad =>
    clear h3
    obtain ⟨es', hel', hsr, hes', hrd'⟩ := (HP.out.below ((Below.refl B w).alloc hB (.cells #[] 54))).src
    have HRD := Lib.hid hrd'
    have HEL := Lib.hid hel'
    have HS := Lib.hid hsr
    have HES := Lib.hid (lvs_one es' hes')
    have HLE := Lib.hid (show (lvs es').length = ls.length * 3 from by rw [lvs_length, hel'])
    have HO := Lib.hid (World.ownsRow_made w (base := w.heap.size) (e := 54) (size := 3) #[] 0 (Nat.le_refl _) (by simp [maxLen]) rfl)
    clear hel' hsr hes' hrd'
    go_enter Try.func101, Try.ntmps101
    go_wp2_with (at_builtin; refine wpList_append_src rfl _ _ 28 rfl w.heap.size 54 i0 (.agg #[.int .i64 0, .int .i64 0, .slice none 0 0]) 3 40 Try.underlying28 hi hz0 hz1 hz2 rfl (by decide) (.slice (some ⟨w.heap.size, 0, none⟩) 0 0) 0 [] rfl HO.out (.slice (some ad) ls.length c) ls.length (lvs es') rfl HS.out HLE.out HES.out ?c3 ?c4 ?c5 ?_)
    case c3 => unfold maxLen; omega
    case c4 => omega
    case c5 => first | omega | (simp; omega) | simp
    intro v4 w4 hown4 hgrow4
    have HB4 := Lib.hid (((Below.refl w.heap.size w).alloc (Nat.le_refl _) (.cells #[] 54)).grown hgrow4 (by simp) (fun k hk => by simp [Value.ownBlock] at hk; omega))
    have HO4 := Lib.hid (show w4.ownsRow w.heap.size 54 3 v4 ls.length (lvs es') from by simpa using hown4)
    clear hown4 hgrow4
    go_wp2_with fail
    go_ret
    refine ⟨_, es', rfl, HEL.out, HO4.out, fun j hj => ?_, HB4.out⟩
    obtain ⟨q0, q1, q2⟩ := HRD.out j hj
    exact ⟨q0, q1, RL.old ((Below.refl B w).alloc hB _) q2⟩
end Go.Proofs.Ytdmcijodhokahaa
