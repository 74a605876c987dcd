/- Walks: cascades: copies of cascades; equal ones. -/
import Derived.Test.YtdmcijodhokahaaOi
set_option linter.unusedVariables false
set_option linter.unusedSimpArgs false
namespace Go.Proofs.Ytdmcijodhokahaa
open Go.RowKit

theorem getD_set_lv (l : List LvC) (k j : Nat) (x : LvC) (h : k < l.length) : (l.set k x).getD j zLc = if j = k then x else l.getD j zLc := by
  rw [List.getD_eq_getElem?_getD, List.getD_eq_getElem?_getD, List.getElem?_set]
  by_cases e : k = j
  · subst e; simp [h]
  · rw [if_neg e, if_neg (fun h => e h.symm)]
theorem own_set_row {W : World} {base sz : Nat} {e : TypeId} {v : Value} {n : Nat} {xs : List Value} (h : W.ownsRow base e sz v n xs) {W' : World} {b : Nat} (hg : W.grownBy W' (some b)) (hb : b < base) : W'.ownsRow base e sz v n xs :=
  h.kept hg (by
    by_cases e : v.ownBlock = none
    · exact .inl e
    · right; intro he; have := (h.lt b he).1; omega)
/-- the levels' row of the call's own, each with a row of rolls of its own -/
def LOwn (W : World) (base : Nat) (v : Value) (ls : List Lv) : Prop :=
  ∃ es : List LvC, es.length = ls.length ∧ W.ownsRow base 54 3 v ls.length (lvs es) ∧ ∀ j, j < ls.length → (es.getD j zLc).1 = (ls.getD j zLv).1 ∧ (es.getD j zLc).2.1 = (ls.getD j zLv).2.1 ∧ W.ownsRow base 56 6 (es.getD j zLc).2.2 (ls.getD j zLv).2.2.length (rls (ls.getD j zLv).2.2)
theorem LOwn.below {W W' : World} {base : Nat} {v : Value} {ls : List Lv} (h : LOwn W base v ls) (hb : Below W.heap.size W W') : LOwn W' base v ls := by
  obtain ⟨es, h1, h2, h3⟩ := h
  exact ⟨es, h1, u_own_below h2 hb, fun j hj => ⟨(h3 j hj).1, (h3 j hj).2.1, u_own_below (h3 j hj).2.2 hb⟩⟩
theorem LOwn.read {W : World} {base : Nat} {v : Value} {ls : List Lv} (h : LOwn W base v ls) (hr : ∀ j, Rng (ls.getD j zLv).1 ∧ Rng (ls.getD j zLv).2.1) (hl : ls.length ≤ 1048576) (hrr : ∀ j, j < ls.length → (∀ i, Rng6 ((ls.getD j zLv).2.2.getD i z6)) ∧ (ls.getD j zLv).2.2.length ≤ 1048576) : LS W W.heap.size v ls := by
  obtain ⟨es, h1, h2, h3⟩ := h
  refine ⟨hr, hl, ?_⟩
  rcases h2.2 with ⟨rfl, h0⟩ | ⟨g, cap, cur, rfl, hb, hg, _⟩
  · exact ⟨none, 0, by rw [h0], .inl (List.eq_nil_of_length_eq_zero h0)⟩
  · refine ⟨_, cap, rfl, .inr ⟨g, 0, rfl, (Array.getElem?_eq_some_iff.1 hg).1, fun j hj => ?_⟩⟩
    obtain ⟨e1, e2, e3⟩ := h3 j hj
    refine ⟨?_, ?_, (es.getD j zLc).2.2, ?_, RL.of_own e3 rfl (hrr j hj).1 (hrr j hj).2⟩
    · rw [Nat.zero_add, h2.cellAt (j * 3) (by omega), ← e1]; exact lvs_get0 _ _ (by omega)
    · rw [Nat.zero_add, h2.cellAt (j * 3 + 1) (by omega), ← e2]; exact lvs_get1 _ _ (by omega)
    · rw [Nat.zero_add, h2.cellAt (j * 3 + 2) (by omega)]; exact lvs_get2 _ _ (by omega)
theorem LS.rolls {w : World} {B : Nat} {v : Value} {ls : List Lv} (h : LS w B v ls) : ∀ j, j < ls.length → (∀ i, Rng6 ((ls.getD j zLv).2.2.getD i z6)) ∧ (ls.getD j zLv).2.2.length ≤ 1048576 := by
  obtain ⟨_, _, A, c, rfl, h3⟩ := h
  intro j hj
  rcases h3 with h3 | ⟨b, off, rfl, hlt, hc⟩
  · rw [h3] at hj; simp at hj
  · obtain ⟨_, _, r, _, hr⟩ := hc j hj
    exact ⟨hr.1, hr.2.1⟩

def LPart (W : World) (b : Nat) (es : List LvC) (ls : List Lv) (k : Nat) : Prop :=
  es.length = ls.length ∧ W.ownsRow b 54 3 (.slice (some ⟨b, 0, none⟩) ls.length ls.length) ls.length (lvs es) ∧ ∀ j, j < k → (es.getD j zLc).1 = (ls.getD j zLv).1 ∧ (es.getD j zLc).2.1 = (ls.getD j zLv).2.1 ∧ W.ownsRow (b + 1) 56 6 (es.getD j zLc).2.2 (ls.getD j zLv).2.2.length (rls (ls.getD j zLv).2.2)

set_option maxRecDepth 100000 in
set_option maxHeartbeats 4000000 in
theorem toLevelS_any (v : Value) (ls : List Lv) (w : World) (h : LS w w.heap.size v ls) :
    Calls Try.prog 57 #[v] w fun e w' => ∃ v', e = .returned v' ∧ LOwn w' w.heap.size v' ls ∧ Below w.heap.size w w' := by
  obtain ⟨hr, hlen, A, c, rfl, h3⟩ := h
  clear hr
  obtain ⟨i0, hi, hz0, hz1, hz2⟩ := info_parts info_lv
  have hT := Lib.hid (fun W K rv rs w h => toLevel_any W K rv rs w h)
  go_enter Try.func57, Try.ntmps57
  go_wp2_with (at_make; refine wpList_make_full _ rfl _ _ 28 rfl w.heap.size 54 i0 (.agg #[.int .i64 0, .int .i64 0, .slice none 0 0]) 3 Try.underlying28 hi hz0 hz1 _ _ _ _ ls.length rfl rfl rfl rfl ?b2 ?b3 ?b4 ?_)
  case b2 => rw [hz2]; omega
  case b3 => unfold maxLen; omega
  case b4 => exact Nat.le_refl _
  intro w1 hown hgrow
  rw [made_lvs] at hown
  have hb1 : Below w.heap.size w w1 := (Below.refl _ _).grown hgrow (Nat.le_refl _) (fun k hk => by cases hk)
  have hlt1 : w.heap.size < w1.heap.size := by have := (hown.lt _ rfl).2; exact this
  clear hgrow
  go_wp2_with fail
  go_loopw [4] (fun i wr => ∃ (k : Nat) (es : List LvC), k ≤ ls.length ∧ i = .int .i64 k ∧ Hid (LPart wr w.heap.size es ls k) ∧ w.heap.size < wr.heap.size ∧ Below w.heap.size w wr)
    (fun i _ => ls.length - (intOf i).toNat)
  case atStart => exact ⟨0, List.replicate ls.length zLc, Nat.zero_le _, rfl, Lib.hid ⟨by simp, hown, fun j hj => by omega⟩, hlt1, hb1⟩
  case round =>
    clear hown hb1
    obtain ⟨k, es, hk, rfl, HE, hlt0, hb⟩ := hrel
    have HB := Lib.hid hb
    have hsz := hb.size
    clear hb
    by_cases hlt : k < ls.length
    · rcases h3 with h3 | ⟨b, off, rfl, hbl, hc⟩
      · subst h3; simp at hlt
      obtain ⟨q0, q1, rv, q2, hrl⟩ := hc k hlt
      have x0 := (HB.out.cell (p := ⟨b, off + k * 3, none⟩) hbl).trans q0
      have x1 := (HB.out.cell (p := ⟨b, off + k * 3 + 1, none⟩) hbl).trans q1
      have x2 := (HB.out.cell (p := ⟨b, off + k * 3 + 2, none⟩) hbl).trans q2
      have hcal := Lib.hid (hT.out (ls.getD k zLv).1 (ls.getD k zLv).2.1 rv (ls.getD k zLv).2.2 wr ((hrl.below HB.out).up hsz))
      obtain ⟨_, _, Ar, cr, hrv, _⟩ := id hrl
      obtain ⟨nr, hnr⟩ : ∃ nr, nr = (ls.getD k zLv).2.2.length := ⟨_, rfl⟩
      rw [← hnr] at hrv
      subst hrv
      clear hc q0 q1 q2 hrl hnr
      obtain ⟨W, hW⟩ : ∃ W, W = (ls.getD k zLv).1 := ⟨_, rfl⟩
      obtain ⟨K, hK⟩ : ∃ K, K = (ls.getD k zLv).2.1 := ⟨_, rfl⟩
      rw [← hW] at x0 hcal
      rw [← hK] at x1 hcal
      have HW := Lib.hid hW
      have HK := Lib.hid hK
      clear hW hK
      go_wp2_with fail
      refine hcal.out.mono ?_
      rintro e w2 ⟨vr, rfl, hownr, hb2⟩
      have hes := HE.out.1
      have hown2 := u_own_below HE.out.2.1 hb2
      have HR := Lib.hid (show w2.ownsRow (w.heap.size + 1) 56 6 vr (ls.getD k zLv).2.2.length (rls (ls.getD k zLv).2.2) from oi_lift hownr (by omega))
      have HOld := Lib.hid (fun j (hj : j < k) => (⟨(HE.out.2.2 j hj).1, (HE.out.2.2 j hj).2.1, u_own_below (HE.out.2.2 j hj).2.2 hb2⟩ : (es.getD j zLc).1 = (ls.getD j zLv).1 ∧ (es.getD j zLc).2.1 = (ls.getD j zLv).2.1 ∧ w2.ownsRow (w.heap.size + 1) 56 6 (es.getD j zLc).2.2 (ls.getD j zLv).2.2.length (rls (ls.getD j zLv).2.2)))
      have hb3 := HB.out.trans (hb2.mono hsz)
      have hsz2 := hb2.size
      obtain ⟨va, vn, vc, rfl⟩ : ∃ a n c, vr = .slice a n c := by
        rcases hownr.2 with ⟨rfl, h0⟩ | ⟨gb, cap, cur, rfl, _⟩
        · exact ⟨_, _, _, rfl⟩
        · exact ⟨_, _, _, rfl⟩
      clear hb2 hownr x0 x1 x2
      have c0 : w2.cell? ⟨w.heap.size, k * 3, none⟩ = some (.int .i64 (es.getD k zLc).1) := by
        rw [hown2.cellAt _ (by omega)]; exact lvs_get0 _ _ (by omega)
      have c1 : w2.cell? ⟨w.heap.size, k * 3 + 1, none⟩ = some (.int .i64 (es.getD k zLc).2.1) := by
        rw [hown2.cellAt _ (by omega)]; exact lvs_get1 _ _ (by omega)
      have c2 : w2.cell? ⟨w.heap.size, k * 3 + 2, none⟩ = some (es.getD k zLc).2.2 := by
        rw [hown2.cellAt _ (by omega)]; exact lvs_get2 _ _ (by omega)
      have f0 : w2.frozen? ⟨w.heap.size, k * 3, none⟩ = false := hown2.frozenAt _
      have f1 : w2.frozen? ⟨w.heap.size, k * 3 + 1, none⟩ = false := hown2.frozenAt _
      have f2 : w2.frozen? ⟨w.heap.size, k * 3 + 2, none⟩ = false := hown2.frozenAt _
      generalize (es.getD k zLc).1 = o0 at c0
      generalize (es.getD k zLc).2.1 = o1 at c1
      generalize (es.getD k zLc).2.2 = o2 at c2
      have s0 := hown2.stored (k * 3) (.int .i64 W)
      have s1 := s0.1.stored (k * 3 + 1) (.int .i64 K)
      have s2 := s1.1.stored (k * 3 + 2) (.slice va vn vc)
      have hown4 := s2.1
      rw [lvs_set es k W K (.slice va vn vc) (by omega)] at hown4
      have hg4 := (s0.2.trans s1.2).trans s2.2
      have HN := Lib.hid (show LPart _ w.heap.size (es.set k (W, K, .slice va vn vc)) ls (k + 1) from ⟨by simpa using hes, hown4, fun j hj => by
        rw [getD_set_lv _ _ _ _ (by omega)]
        by_cases e : j = k
        · subst e; rw [if_pos rfl]; exact ⟨HW.out, HK.out, own_set_row HR.out hg4 (by omega)⟩
        · rw [if_neg e]
          have ho := HOld.out j (by omega)
          exact ⟨ho.1, ho.2.1, own_set_row ho.2.2 hg4 (by omega)⟩⟩)
      have HB4 := Lib.hid (((hb3.setCell (p := ⟨w.heap.size, k * 3, none⟩) (by simp) (.int .i64 W)).setCell (p := ⟨w.heap.size, k * 3 + 1, none⟩) (by simp) (.int .i64 K)).setCell (p := ⟨w.heap.size, k * 3 + 2, none⟩) (by simp) (.slice va vn vc))
      have hlt4 := Lib.hid (show w.heap.size < (((w2.setCell ⟨w.heap.size, k * 3, none⟩ (.int .i64 W)).setCell ⟨w.heap.size, k * 3 + 1, none⟩ (.int .i64 K)).setCell ⟨w.heap.size, k * 3 + 2, none⟩ (.slice va vn vc)).heap.size from by have := hg4.size; omega)
      clear s0 s1 s2 hown4 hg4 hown2 hb3 HR HOld HE
      go_wp2_with fail
      go_roundw
      case rel => exact ⟨k + 1, es.set k (W, K, .slice va vn vc), by omega, by go_num, HN, hlt4.out, HB4.out⟩
      case measure => simp [intOf]; omega
    · obtain rfl : k = ls.length := by omega
      go_wp2_with fail
      go_ret
      exact ⟨_, rfl, ⟨es, HE.out.1, HE.out.2.1, fun j hj => ⟨(HE.out.2.2 j hj).1, (HE.out.2.2 j hj).2.1, oi_lift (HE.out.2.2 j hj).2.2 (by omega)⟩⟩, HB.out⟩
end Go.Proofs.Ytdmcijodhokahaa
