/- Walks: drawn points. -/
import Derived.Test.YtljmiodkmddllaaYf
import Derived.Test.YtljmiodkmddllaaRc
set_option linter.unusedVariables false
set_option linter.unusedSimpArgs false
namespace Go.Proofs.Ytljmiodkmddllaa
open Go.RowKit

theorem p_base {w : World} {base base' sz : Nat} {e : TypeId} {v : Value} {n : Nat} {xs : List Value} (h : w.ownsRow base e sz v n xs) (hb : base' ≤ base) : w.ownsRow base' e sz v n xs :=
  ⟨h.1, h.2.imp id fun ⟨g, cap, cur, a, b, c⟩ => ⟨g, cap, cur, a, Nat.le_trans hb b, c⟩⟩
/-- the drawn points' row, the reader's block, and nothing else changed -/
structure TDP (w : World) (B g : Nat) (u : Value) (L : List (Int × Int)) (wr : World) : Prop where
  own : wr.ownsRow w.heap.size 47 2 u L.length (prs L)
  rd : Rd wr B g
  gr : w.grownBy wr (some g)
theorem TDP.read {w wr w2 : World} {B g : Nat} {u : Value} {L : List (Int × Int)} (p : TDP w B g u L wr) (hgl : g < w.heap.size) (hrd : Rd w2 B g) (hg2 : wr.grownBy w2 (some g)) : TDP w B g u L w2 :=
  ⟨p.own.kept hg2 (by
    by_cases hx : u.ownBlock = none
    · exact .inl hx
    · right; intro he; have := (p.own.lt g he).1; omega), hrd, grown_trans' p.gr hg2⟩
theorem TDP.app {w wr w1 : World} {B g : Nat} {u v' : Value} {L : List (Int × Int)} {x y : Int} {o : Obj} (p : TDP w B g u L wr) (hgl : g < w.heap.size)
    (hown : w1.ownsRow w.heap.size 47 2 v' (L.length + 1) (prs L ++ [.int .i64 x, .int .i64 y])) (hgrow : (wr.alloc o).grownBy w1 u.ownBlock) : TDP w B g v' (L ++ [(x, y)]) w1 := by
  have hrow : ∀ k, u.ownBlock = some k → w.heap.size ≤ k := fun k hk => (p.own.lt k hk).1
  have hz := p.gr.size
  have hB : B ≤ g := (by obtain ⟨A, n, c, q, h⟩ := p.rd; exact h.2.2.2.2.1)
  refine ⟨?_, (Rd.alloc p.rd _).grown hgrow (fun k hk => by have := hrow k hk; omega), hgrow.os.trans p.gr.os, hgrow.tape.trans p.gr.tape, hgrow.output.trans p.gr.output, by have := hgrow.size; simp at this; omega, fun i hi hne => ?_⟩
  · rw [prs_append, List.length_append]; exact hown
  · rw [hgrow.block i (by simp; omega) (by intro he; have := hrow i he.symm; omega), Below.heap_alloc _ _ _ (by omega)]
    exact p.gr.block i hi hne
theorem prs_set1 (L : List (Int × Int)) (h : 0 < L.length) (d : Int) : (prs L).set 1 (.int .i64 d) = prs (L.set 0 ((L.getD 0 (0, 0)).1, d)) := by
  cases L with
  | nil => simp at h
  | cons p L => rfl
theorem TDP.set {w wr : World} {B g b c : Nat} {L : List (Int × Int)} {d : Int} (p : TDP w B g (.slice (some ⟨b, 0, none⟩) L.length c) L wr) (hgl : g < w.heap.size) (h : 0 < L.length) : TDP w B g (.slice (some ⟨b, 0, none⟩) L.length c) (L.set 0 ((L.getD 0 (0, 0)).1, d)) (wr.setCell ⟨b, 1, none⟩ (.int .i64 d)) := by
  have hlt := (p.own.lt b rfl).1
  have hB : B ≤ g := (by obtain ⟨A, n, c, q, h⟩ := p.rd; exact h.2.2.2.2.1)
  have hs := p.own.stored 1 (.int .i64 d)
  refine ⟨?_, p.rd.setCell (a := ⟨b, 1, none⟩) (show B ≤ b by omega) (show g ≠ b by omega) _, ?_⟩
  · have h1 := hs.1
    rw [prs_set1 L h d] at h1
    rw [List.length_set]; exact h1
  · exact ⟨hs.2.os.trans p.gr.os, hs.2.tape.trans p.gr.tape, hs.2.output.trans p.gr.output, Nat.le_trans p.gr.size hs.2.size, fun i hi hne => (hs.2.block i (by have := p.gr.size; omega) (by simp [Value.ownBlock]; omega)).trans (p.gr.block i hi hne)⟩
def PtsPost (most : Nat) (B g : Nat) (w : World) (e : Ending) (w' : World) : Prop :=
  ∃ v xs, e = .returned v ∧ TDP w B g v xs w' ∧ xs.length ≤ most ∧ ∀ p ∈ xs, Rng p.1 ∧ Rng p.2

set_option maxRecDepth 100000 in
set_option maxHeartbeats 4000000 in
theorem small_any (m : Nat) (hm : 1 ≤ m) (hm2 : m ≤ 20) (B g : Nat) (w : World) (h : Rd w B g) :
    Calls Try.prog 57 #[.pointer (some ⟨g, 0, none⟩), .int .i64 (m : Int)] w (PtsPost m B g w) := by
  obtain ⟨i0, hi, hz0, hz1, hz2⟩ := info_parts info_pt
  have hgl := h.lt
  have H := Lib.hid h
  clear h
  have em : IntKind.i64.wrap ((m : Int) + 1) = (m : Int) + 1 := IntWalk.i64_in _ (by omega)
  have em' : wrap64 ((m : Int) + 1) = (m : Int) + 1 := by unfold wrap64; omega
  go_enter Try.func57, Try.ntmps57
  go_wp2_with fail
  refine (below_any B g 60 _ (Rd.alloc H.out _) (by omega) (by omega)).mono ?_
  rintro e w1 ⟨v, rfl, ⟨a0, rfl, ha0, ha1⟩, hrd1, hgr1⟩
  have hown : w1.ownsRow w.heap.size 47 2 (.slice (some ⟨w.heap.size, 0, none⟩) 0 0) 0 (prs []) := by
    have h0 := World.ownsRow_made w (base := w.heap.size) (e := 47) (size := 2) #[] 0 (Nat.le_refl _) (by simp [maxLen]) rfl
    exact h0.kept hgr1 (.inr (by simp [Value.ownBlock]; omega))
  have T1 := Lib.hid (show TDP w B g (.slice (some ⟨w.heap.size, 0, none⟩) 0 0) [] w1 from ⟨hown, hrd1, grown_trans' (World.grownBy_alloc w _ _) hgr1⟩)
  clear hown hrd1 hgr1 H
  go_wp2_with fail
  refine (below_any B g ((m : Int) + 1) _ T1.out.rd (by omega) (by omega)).mono ?_
  rintro e w2 ⟨v, rfl, ⟨x, rfl, hx0, hx1⟩, hrd2, hgr2⟩
  have T2 := Lib.hid (T1.out.read hgl hrd2 hgr2)
  clear hrd2 hgr2 T1
  go_wp2_with fail
  go_loopw [5, 6, 7] (fun u a i wr => ∃ (j t : Int) (L : List (Int × Int)), i = .int .i64 j ∧ a = .int .i64 t ∧ 0 ≤ j ∧ (L.length : Int) + j ≤ m ∧ 0 ≤ t ∧ t ≤ 60 + 25 * (L.length : Int) ∧ Hid (∀ p ∈ L, Rng p.1 ∧ Rng p.2) ∧ Hid (TDP w B g u L wr))
    (fun _ _ i _ => (intOf i).toNat)
  case atStart => exact ⟨x, a0, [], rfl, rfl, hx0, by simp; omega, ha0, by simp; omega, Lib.hid (fun _ h => by cases h), T2⟩
  case round =>
    clear T2
    obtain ⟨j, t, L, rfl, rfl, hj0, hj1, ht0, ht1, HL, T⟩ := hrel
    by_cases hlt : 0 < j
    · go_wp2_with fail
      refine (below_any B g 100 _ T.out.rd (by omega) (by omega)).mono ?_
      rintro e w3 ⟨_, rfl, ⟨c, rfl, hc0, hc1⟩, hrd, hgr⟩
      have T3 := Lib.hid (T.out.read hgl hrd hgr)
      clear hrd hgr T
      have hown := T3.out.own
      have hz := T3.out.gr.size
      have ec : IntKind.i64.wrap (c - 30) = c - 30 := IntWalk.i64_in _ (by omega)
      have ec' : wrap64 (c - 30) = c - 30 := by unfold wrap64; omega
      go_wp2_with (at_builtin; refine wpList_append_own _ rfl _ _ 34 rfl w.heap.size 47 i0 (.agg #[.int .i64 0, .int .i64 0]) 2 16 Try.underlying34 hi hz0 hz1 hz2 rfl (by decide) _ _ _ rfl (hown.alloc _) ⟨w3.heap.size, 0, none⟩ 1 1 [.int .i64 t, .int .i64 (c - 30)] rfl rfl (two_cells (by go_simp) (by go_simp)) ?c2 ?c3 ?c4 ?c5 ?_)
      case c2 => intro u hu; simp at hu; rcases hu with rfl | rfl <;> rfl
      case c3 => unfold maxLen; omega
      case c4 => omega
      case c5 => first | omega | (simp; omega)
      intro v' w4 hown3 hgrow _
      have T4 := Lib.hid (T3.out.app hgl hown3 hgrow)
      have HL4 : Hid (∀ p ∈ L ++ [(t, c - 30)], Rng p.1 ∧ Rng p.2) := Lib.hid (fun p hp => by
        rcases List.mem_append.1 hp with hp | hp
        · exact HL.out p hp
        · obtain rfl : p = (t, c - 30) := by simpa using hp
          exact ⟨⟨by omega, by omega⟩, ⟨by omega, by omega⟩⟩)
      have hlen : ((L ++ [(t, c - 30)]).length : Int) = (L.length : Int) + 1 := by simp
      generalize hLL : L ++ [(t, c - 30)] = L4 at *
      clear hLL
      clear hown3 hgrow hown T3 HL
      go_wp2_with fail
      refine (below_any B g 25 _ T4.out.rd (by omega) (by omega)).mono ?_
      rintro e w5 ⟨_, rfl, ⟨d, rfl, hd0, hd1⟩, hrd, hgr⟩
      have T5 := Lib.hid (T4.out.read hgl hrd hgr)
      clear hrd hgr T4
      have ed : IntKind.i64.wrap (1 + d) = 1 + d := IntWalk.i64_in _ (by omega)
      have ed2 : IntKind.i64.wrap (t + (1 + d)) = t + (1 + d) := IntWalk.i64_in _ (by omega)
      have ej : IntKind.i64.wrap (j - 1) = j - 1 := IntWalk.i64_in _ (by omega)
      go_wp2_with fail
      exact ⟨⟨j - 1, t + (1 + d), L4, rfl, rfl, by omega, by omega, by omega, by omega, HL4, T5⟩, by simp [intOf]; omega⟩
    · go_wp2_with fail
      refine (once_any B g 30 _ T.out.rd (by omega) (by omega)).mono ?_
      rintro e w3 ⟨_, rfl, ⟨b, rfl⟩, hrd, hgr⟩
      have T3 := Lib.hid (T.out.read hgl hrd hgr)
      clear hrd hgr T
      have hml : L.length ≤ m := by omega
      cases b with
      | false =>
        have hown := T3.out.own
        go_wp2_with fail
        go_ret
        exact ⟨_, L, rfl, T3.out, hml, HL.out⟩
      | true =>
        rcases T3.out.own.2 with ⟨hv, h0⟩ | ⟨bb, cap, cur, hv, _⟩
        · subst hv
          go_wp2_with fail
          go_ret
          exact ⟨_, L, rfl, T3.out, hml, HL.out⟩
        · subst hv
          by_cases hl0 : 0 < L.length
          · have hd0 : decide (0 < L.length) = true := by simpa using hl0
            go_wp2_with fail
            refine (num_any B g _ T3.out.rd).mono ?_
            rintro e w4 ⟨_, rfl, ⟨d, rfl, hdl, hdh⟩, hrd, hgr⟩
            have T4 := Lib.hid (T3.out.read hgl hrd hgr)
            clear hrd hgr T3
            have hown := T4.out.own
            have c1 : w4.cell? ⟨bb, 1, none⟩ = some (.int .i64 (L.getD 0 (0, 0)).2) := by
              have h1 := hown.cellAt 1 (by omega)
              rw [h1]
              have h2 := prs_get1 L 0 hl0
              simpa using h2
            have f1 : w4.frozen? ⟨bb, 1, none⟩ = false := hown.frozenAt _
            have hrl : Rng (L.getD 0 (0, 0)).1 := (prng_of HL.out 0).1
            clear hown
            have T5 := Lib.hid (T4.out.set (d := d) hgl hl0)
            go_wp2_with fail
            go_ret
            exact ⟨_, _, rfl, T5.out, by rw [List.length_set]; exact hml, fun p hp => by
              rcases List.mem_or_eq_of_mem_set hp with h1 | h1
              · exact HL.out p h1
              · subst h1; exact ⟨hrl, hdl, hdh⟩⟩
          · have hd0 : decide (0 < L.length) = false := by simpa using hl0
            go_wp2_with fail
            go_ret
            exact ⟨_, L, rfl, T3.out, hml, HL.out⟩
end Go.Proofs.Ytljmiodkmddllaa
