/- Walks: drawn points behind a time. -/
import Derived.Deep.DeepCutAuto
import Derived.Test.YtcjpedolmnahfaaXa
import Derived.Test.YtcjpedolmnahfaaZx
set_option linter.unusedVariables false
set_option linter.unusedSimpArgs false
namespace Go.Proofs.Ytcjpedolmnahfaa
open Go.RowKit

theorem rng_w64 (x : Int) : Rng (wrap64 x) := by unfold Rng wrap64; omega
theorem rng_iwrap (x : Int) : Rng (IntKind.i64.wrap x) := by rw [IntKind.wrap_i64]; unfold Rng; omega
theorem prs_setT (L : List (Int × Int)) (k : Nat) (h : k < L.length) (d : Int) : (prs L).set (k * 2) (.int .i64 d) = prs (L.set k (d, (L.getD k (0, 0)).2)) := by
  induction L generalizing k with
  | nil => simp at h
  | cons p L ih =>
    cases k with
    | zero => rfl
    | succ k =>
      have := ih k (by simpa using h)
      show (_ :: _ :: (prs L)).set ((k + 1) * 2) _ = _
      rw [show (k + 1) * 2 = k * 2 + 1 + 1 by omega, List.set_cons_succ, List.set_cons_succ, this]
      rfl
theorem TDP.setT {w wr : World} {B g b c k : Nat} {L : List (Int × Int)} {d : Int} (p : TDP w B g (.slice (some ⟨b, 0, none⟩) L.length c) L wr) (hgl : g < w.heap.size) (h : k < L.length) : TDP w B g (.slice (some ⟨b, 0, none⟩) L.length c) (L.set k (d, (L.getD k (0, 0)).2)) (wr.setCell ⟨b, k * 2, none⟩ (.int .i64 d)) := by
  have hlt := (p.own.lt b rfl).1
  have hB : B ≤ g := (by obtain ⟨A, n, c, q, h⟩ := p.rd; exact h.2.2.2.2.1)
  have hs := p.own.stored (k * 2) (.int .i64 d)
  refine ⟨?_, p.rd.setCell (a := ⟨b, k * 2, none⟩) (show B ≤ b by omega) (show g ≠ b by omega) _, ?_⟩
  · have h1 := hs.1
    rw [prs_setT L k h d] at h1
    rw [List.length_set]; exact h1
  · exact ⟨hs.2.os.trans p.gr.os, hs.2.tape.trans p.gr.tape, hs.2.output.trans p.gr.output, Nat.le_trans p.gr.size hs.2.size, fun i hi hne => (hs.2.block i (by have := p.gr.size; omega) (by simp [Value.ownBlock]; omega)).trans (p.gr.block i hi hne)⟩

theorem own_shape_ch {W : World} {base n : Nat} {v : Value} {xs : List Value} (h : W.ownsRow base 43 2 v n xs) : ∃ A c, v = .slice A n c := by
  rcases h.2 with ⟨rfl, h0⟩ | ⟨g, cap, cur, rfl, _⟩
  · exact ⟨none, 0, by rw [h0]⟩
  · exact ⟨_, cap, rfl⟩
theorem prs_get0_ch : ∀ (xs : List (Int × Int)) (k : Nat), k < xs.length → (prs xs)[k * 2]? = some (.int .i64 (xs.getD k (0, 0)).1)
  | [], _, h => by simp at h
  | p :: xs, 0, _ => rfl
  | p :: xs, k + 1, h => by
    have := prs_get0_ch xs k (by simpa using h)
    show (_ :: _ :: prs xs)[(k + 1) * 2]? = _
    rw [show (k + 1) * 2 = k * 2 + 1 + 1 by omega, List.getElem?_cons_succ, List.getElem?_cons_succ, this]
    rfl
set_option maxRecDepth 100000 in
set_option maxHeartbeats 4000000 in
theorem later_any (t0 : Int) (m : Nat) (hm : 1 ≤ m) (hm2 : m ≤ 100) (B g : Nat) (w : World) (h : Rd w B g) (ht0 : Rng t0) :
    Calls Try.prog 55 #[.pointer (some ⟨g, 0, none⟩), .int .i64 t0, .int .i64 (m : Int)] w (PtsPost m B g w) := by
  obtain ⟨i0, hi, hz0, hz1, hz2⟩ := info_parts info_pt
  have hgl := h.lt
  have H := Lib.hid h
  have HT0 := Lib.hid ht0
  clear h ht0
  have em : IntKind.i64.wrap ((m : Int) + 1) = (m : Int) + 1 := IntWalk.i64_in _ (by omega)
  have em' : wrap64 ((m : Int) + 1) = (m : Int) + 1 := by unfold wrap64; omega
  go_enter Try.func55, Try.ntmps55
  go_wp2_with fail
  refine (below_any B g ((m : Int) + 1) _ (Rd.alloc H.out _) (by omega) (by omega)).mono ?_
  rintro e w1 ⟨v, rfl, ⟨x, rfl, hx0, hx1⟩, hrd1, hgr1⟩
  have hown : w1.ownsRow w.heap.size 43 2 (.slice (some ⟨w.heap.size, 0, none⟩) 0 0) 0 (prs []) := by
    have h0 := World.ownsRow_made w (base := w.heap.size) (e := 43) (size := 2) #[] 0 (Nat.le_refl _) (by simp [maxLen]) rfl
    exact h0.kept hgr1 (.inr (by simp [Value.ownBlock]; omega))
  have T1 := Lib.hid (show TDP w B g (.slice (some ⟨w.heap.size, 0, none⟩) 0 0) [] w1 from ⟨hown, hrd1, grown_trans' (World.grownBy_alloc w _ _) hgr1⟩)
  clear hown hrd1 hgr1 H
  go_wp2_with fail
  go_loopw [1, 7, 8] (fun a u i wr => ∃ (j t : Int) (L : List (Int × Int)), i = .int .i64 j ∧ a = .int .i64 t ∧ 0 ≤ j ∧ (L.length : Int) + j ≤ m ∧ Hid (Rng t) ∧ Hid (∀ p ∈ L, Rng p.1 ∧ Rng p.2) ∧ Hid (TDP w B g u L wr))
    (fun _ _ i _ => (intOf i).toNat)
  case atStart => exact ⟨x, t0, [], rfl, rfl, hx0, by simp; omega, HT0, Lib.hid (fun _ h => by cases h), T1⟩
  case round =>
    clear T1
    obtain ⟨j, t, L, rfl, rfl, hj0, hj1, HRT, HL, T⟩ := hrel
    by_cases hlt : 0 < j
    · go_wp2_with fail
      refine (below_any B g 14 _ T.out.rd (by omega) (by omega)).mono ?_
      rintro e w3 ⟨_, rfl, ⟨c, rfl, hc0, hc1⟩, hrd, hgr⟩
      have T3 := Lib.hid (T.out.read hgl hrd hgr)
      clear hrd hgr T
      have ec : IntKind.i64.wrap (1 + c) = 1 + c := IntWalk.i64_in _ (by omega)
      have ec' : wrap64 (1 + c) = 1 + c := by unfold wrap64; omega
      go_wp2_with fail
      obtain ⟨t1, ht1⟩ : ∃ t1, wrap64 (t + (1 + c)) = t1 := ⟨_, rfl⟩
      rw [ht1]
      have HRt1 := Lib.hid (show Rng t1 from by rw [← ht1]; exact rng_w64 _)
      clear ht1 ec ec'
      refine (once_any B g 12 _ T3.out.rd (by omega) (by omega)).mono ?_
      rintro e w4 ⟨_, rfl, ⟨b, rfl⟩, hrd, hgr⟩
      have T4 := Lib.hid (T3.out.read hgl hrd hgr)
      clear hrd hgr T3
      cases b with
      | false =>
        go_wp2_with fail
        refine (below_any B g 100 _ T4.out.rd (by omega) (by omega)).mono ?_
        rintro e w6 ⟨_, rfl, ⟨c2, rfl, hc20, hc21⟩, hrd, hgr⟩
        have T6 := Lib.hid (T4.out.read hgl hrd hgr)
        clear hrd hgr T4
        have hown := T6.out.own
        have hz := T6.out.gr.size
        have ec2 : IntKind.i64.wrap (c2 - 30) = c2 - 30 := IntWalk.i64_in _ (by omega)
        have ec2' : wrap64 (c2 - 30) = c2 - 30 := by unfold wrap64; omega
        go_wp2_with (at_builtin; refine wpList_append_own _ rfl _ _ 27 rfl w.heap.size 43 i0 (.agg #[.int .i64 0, .int .i64 0]) 2 16 Try.underlying27 hi hz0 hz1 hz2 rfl (by decide) _ _ _ rfl (hown.alloc _) ⟨w6.heap.size, 0, none⟩ 1 1 [.int .i64 t1, .int .i64 (c2 - 30)] rfl rfl (two_cells (by go_simp) (by go_simp)) ?c2 ?c3 ?c4 ?c5 ?_)
        case c2 => intro u hu; simp at hu; rcases hu with rfl | rfl <;> rfl
        case c3 => unfold maxLen; omega
        case c4 => omega
        case c5 => first | omega | (simp; omega)
        intro v' w7 hown3 hgrow _
        have T7 := Lib.hid (T6.out.app hgl hown3 hgrow)
        have HL4 : Hid (∀ p ∈ L ++ [(t1, c2 - 30)], Rng p.1 ∧ Rng p.2) := Lib.hid (fun p hp => by
          rcases List.mem_append.1 hp with hp | hp
          · exact HL.out p hp
          · obtain rfl : p = (t1, c2 - 30) := by simpa using hp
            exact ⟨HRt1.out, ⟨by omega, by omega⟩⟩)
        have hlen : ((L ++ [(t1, c2 - 30)]).length : Int) = (L.length : Int) + 1 := by simp
        generalize hLL : L ++ [(t1, c2 - 30)] = L4 at *
        clear hLL
        clear hown3 hgrow hown T6 HL
        have ej : IntKind.i64.wrap (j - 1) = j - 1 := IntWalk.i64_in _ (by omega)
        go_wp2_with fail
        exact ⟨⟨j - 1, t1, L4, rfl, rfl, by omega, by omega, HRt1, HL4, T7⟩, by simp [intOf]; omega⟩
      | true =>
        go_wp2_with fail
        refine (below_any B g 200 _ T4.out.rd (by omega) (by omega)).mono ?_
        rintro e w5 ⟨_, rfl, ⟨d, rfl, hd0, hd1⟩, hrd, hgr⟩
        have T5 := Lib.hid (T4.out.read hgl hrd hgr)
        clear hrd hgr T4
        go_upto_region 8 with fail
        obtain ⟨t2, ht2⟩ : ∃ t2, wrap64 (t1 + d) = t2 := ⟨_, rfl⟩
        rw [ht2]
        have HRt2 := Lib.hid (show Rng t2 from by rw [← ht2]; exact rng_w64 _)
        clear ht2
        go_wp2_with fail
        refine (below_any B g 100 _ T5.out.rd (by omega) (by omega)).mono ?_
        rintro e w6 ⟨_, rfl, ⟨c2, rfl, hc20, hc21⟩, hrd, hgr⟩
        have T6 := Lib.hid (T5.out.read hgl hrd hgr)
        clear hrd hgr T5
        have hown := T6.out.own
        have hz := T6.out.gr.size
        have ec2 : IntKind.i64.wrap (c2 - 30) = c2 - 30 := IntWalk.i64_in _ (by omega)
        have ec2' : wrap64 (c2 - 30) = c2 - 30 := by unfold wrap64; omega
        go_wp2_with (at_builtin; refine wpList_append_own _ rfl _ _ 27 rfl w.heap.size 43 i0 (.agg #[.int .i64 0, .int .i64 0]) 2 16 Try.underlying27 hi hz0 hz1 hz2 rfl (by decide) _ _ _ rfl (hown.alloc _) ⟨w6.heap.size, 0, none⟩ 1 1 [.int .i64 t2, .int .i64 (c2 - 30)] rfl rfl (two_cells (by go_simp) (by go_simp)) ?c2 ?c3 ?c4 ?c5 ?_)
        case c2 => intro u hu; simp at hu; rcases hu with rfl | rfl <;> rfl
        case c3 => unfold maxLen; omega
        case c4 => omega
        case c5 => first | omega | (simp; omega)
        intro v' w7 hown3 hgrow _
        have T7 := Lib.hid (T6.out.app hgl hown3 hgrow)
        have HL4 : Hid (∀ p ∈ L ++ [(t2, c2 - 30)], Rng p.1 ∧ Rng p.2) := Lib.hid (fun p hp => by
          rcases List.mem_append.1 hp with hp | hp
          · exact HL.out p hp
          · obtain rfl : p = (t2, c2 - 30) := by simpa using hp
            exact ⟨HRt2.out, ⟨by omega, by omega⟩⟩)
        have hlen : ((L ++ [(t2, c2 - 30)]).length : Int) = (L.length : Int) + 1 := by simp
        generalize hLL : L ++ [(t2, c2 - 30)] = L4 at *
        clear hLL
        clear hown3 hgrow hown T6 HL
        have ej : IntKind.i64.wrap (j - 1) = j - 1 := IntWalk.i64_in _ (by omega)
        go_wp2_with fail
        exact ⟨⟨j - 1, t2, L4, rfl, rfl, by omega, by omega, HRt2, HL4, T7⟩, by simp [intOf]; omega⟩
    · go_wp2_with fail
      refine (once_any B g 30 _ T.out.rd (by omega) (by omega)).mono ?_
      rintro e w3 ⟨_, rfl, ⟨b, rfl⟩, hrd, hgr⟩
      have T3 := Lib.hid (T.out.read hgl hrd hgr)
      clear hrd hgr T
      have hml : L.length ≤ m := by omega
      cases b with
      | false =>
        have hown := T3.out.own
        obtain ⟨uA, uc, rfl⟩ := own_shape_ch hown
        go_wp2_with fail
        go_ret
        exact ⟨_, L, rfl, T3.out, hml, HL.out⟩
      | true =>
        rcases T3.out.own.2 with ⟨hv, h0⟩ | ⟨bb, cap, cur, hv, _⟩
        · subst hv
          go_wp2_with fail
          go_ret
          exact ⟨_, L, rfl, T3.out, hml, HL.out⟩
        · subst hv
          by_cases hl0 : 0 < L.length
          · have hd0 : decide (0 < L.length) = true := by simpa using hl0
            have hl1 : (1 : Int) ≤ (L.length : Int) := by omega
            have el : IntKind.i64.wrap ((L.length : Int) - 1) = (L.length : Int) - 1 := IntWalk.i64_in _ (by omega)
            have el2 : ((L.length : Int) - 1).toNat = L.length - 1 := by omega
            have el3 : (L.length : Int) - 1 < (L.length : Int) := by omega
            have el4 : (0 : Int) ≤ (L.length : Int) - 1 := by omega
            go_wp2_with fail
            refine (off_any B g 0 9 _ T3.out.rd (by omega) (by omega) (by omega) (by omega)).mono ?_
            rintro e w4 ⟨_, rfl, ⟨d, rfl, hdl, hdh⟩, hrd, hgr⟩
            have T4 := Lib.hid (T3.out.read hgl hrd hgr)
            clear hrd hgr T3
            have hown := T4.out.own
            have c1 : w4.cell? ⟨bb, (L.length - 1) * 2, none⟩ = some (.int .i64 (L.getD (L.length - 1) (0, 0)).1) := by
              rw [hown.cellAt _ (by omega)]; exact prs_get0_ch _ _ (by omega)
            have f1 : w4.frozen? ⟨bb, (L.length - 1) * 2, none⟩ = false := hown.frozenAt _
            have T5 := Lib.hid (T4.out.setT (k := L.length - 1) (d := d) hgl (by omega))
            have HL5 : Hid (∀ p ∈ L.set (L.length - 1) (d, (L.getD (L.length - 1) (0, 0)).2), Rng p.1 ∧ Rng p.2) := Lib.hid (fun p hp => by
              rcases List.mem_or_eq_of_mem_set hp with hp | hp
              · exact HL.out p hp
              · subst hp
                refine ⟨⟨hdl, hdh⟩, ?_⟩
                have hm := HL.out (L.getD (L.length - 1) (0, 0)) (by rw [List.getD_eq_getElem?_getD, List.getElem?_eq_getElem (by omega)]; exact List.getElem_mem _)
                exact hm.2)
            have hls : (L.set (L.length - 1) (d, (L.getD (L.length - 1) (0, 0)).2)).length ≤ m := by rw [List.length_set]; exact hml
            generalize L.set (L.length - 1) (d, (L.getD (L.length - 1) (0, 0)).2) = L5 at T5 HL5 hls
            clear hown T4
            go_wp2_with fail
            go_ret
            exact ⟨_, L5, rfl, T5.out, hls, HL5.out⟩
          · have hd0 : decide (0 < L.length) = false := decide_eq_false hl0
            have hl1 : ¬ (0 : Int) < (L.length : Int) := by omega
            go_wp2_with fail
            go_ret
            exact ⟨_, L, rfl, T3.out, hml, HL.out⟩
end Go.Proofs.Ytcjpedolmnahfaa

/- Walks: drawn cascades: empty ones. -/
set_option linter.unusedVariables false
set_option linter.unusedSimpArgs false
namespace Go.Proofs.Ytcjpedolmnahfaa
open Go.RowKit

theorem grown_setNew_ci {a w : World} {row : Option Nat} (h : a.grownBy w row) {p : Addr} (hp : a.heap.size ≤ p.block) (u : Value) : a.grownBy (w.setCell p u) row :=
  ⟨h.os, h.tape, h.output, by simpa [World.setCell] using h.size, fun k hk hne => (Below.heap_setCell w p u k (by omega)).trans (h.block k hk hne)⟩
/-- the reader's block changes, and what is new -/
def DRW (w : World) (B g : Nat) (W : World) : Prop := Rd W B g ∧ w.grownBy W (some g)
theorem DRW.read {w W W' : World} {B g : Nat} (h : DRW w B g W) (hrd : Rd W' B g) (hgr : W.grownBy W' (some g)) : DRW w B g W' := ⟨hrd, grown_trans' h.2 hgr⟩
theorem DRW.below {w W W' : World} {B g : Nat} (h : DRW w B g W) (hb : Below W.heap.size W W') : DRW w B g W' := ⟨h.1.below hb, grown_trans' h.2 (grew_of_below hb _)⟩
theorem DRW.set {w W : World} {B g : Nat} (h : DRW w B g W) (hgl : g < w.heap.size) {b : Nat} (hb : w.heap.size ≤ b) (i : Nat) (x : Value) : DRW w B g (W.setCell ⟨b, i, none⟩ x) :=
  ⟨h.1.setCell (a := ⟨b, i, none⟩) (show B ≤ b by obtain ⟨A, n, c, q, h0⟩ := h.1; have := h0.2.2.2.2.1; omega) (show g ≠ b by omega) x, grown_setNew_ci h.2 (p := ⟨b, i, none⟩) hb x⟩
theorem DRW.set4 {w W : World} {B g : Nat} (h : DRW w B g W) (hgl : g < w.heap.size) {ob : Nat} (hb : w.heap.size ≤ ob) (a0 a1 a2 a3 : Value) : DRW w B g ((((W.setCell ⟨ob, 0, none⟩ a0).setCell ⟨ob, 1, none⟩ a1).setCell ⟨ob, 2, none⟩ a2).setCell ⟨ob, 3, none⟩ a3) :=
  (((h.set hgl hb 0 a0).set hgl hb 1 a1).set hgl hb 2 a2).set hgl hb 3 a3
/-- a drawn cascade -/
def CascPost (B g : Nat) (w : World) (e : Ending) (w' : World) : Prop :=
  ∃ rv lv es c, e = .returned (.agg #[.int .i64 c.1, .int .i64 c.2.1, rv, lv]) ∧ CD w' w.heap.size w'.heap.size c rv lv es ∧ CR c ∧ DRW w B g w'
theorem newM_cr_ci {kp : Int} {ws ks : List Int} (hk : Rng kp) (h1 : ∀ j, Rng (ws.getD j 0)) (h2 : ∀ j, Rng (ks.getD j 0)) (hl : ws.length ≤ 1048576) : CR (newM kp ws ks) := by
  cases hb : newB kp ws ks with
  | false => rw [newM_no hb]; exact zC_cr
  | true => rw [newM_yes hb]; exact newC_cr hk h1 h2 hl
theorem rng_two {a b : Int} (ha : Rng a) (hb : Rng b) (j : Nat) : Rng ([a, b].getD j 0) := by
  match j with
  | 0 => exact ha
  | 1 => exact hb
  | j + 2 => exact rng_zero
theorem rng_one {a : Int} (ha : Rng a) (j : Nat) : Rng ([a].getD j 0) := by
  match j with
  | 0 => exact ha
  | j + 1 => exact rng_zero
theorem il_two {W : World} {B b : Nat} {a c : Int} {t : TypeId} (hb : BoxN W b #[.int .i64 a, .int .i64 c] t) (hB : b < B) (ha : Rng a) (hc : Rng c) : IL W B (.slice (some ⟨b, 0, none⟩) 2 2) [a, c] :=
  ⟨rng_two ha hc, by simp, _, _, rfl, .inr ⟨b, 0, rfl, hB, fun j hj => by
    match j, hj with
    | 0, _ => exact hb.cell (i := 0) rfl
    | 1, _ => exact hb.cell (i := 1) rfl
    | j + 2, hj => exact absurd (show j + 2 < 2 from hj) (by omega)⟩⟩
theorem il_one {W : World} {B b : Nat} {a : Int} {t : TypeId} (hb : BoxN W b #[.int .i64 a] t) (hB : b < B) (ha : Rng a) : IL W B (.slice (some ⟨b, 0, none⟩) 1 1) [a] :=
  ⟨rng_one ha, by simp, _, _, rfl, .inr ⟨b, 0, rfl, hB, fun j hj => by
    match j, hj with
    | 0, _ => exact hb.cell (i := 0) rfl
    | j + 1, hj => exact absurd (show j + 1 < 1 from hj) (by omega)⟩⟩
theorem CD.read {w W W' : World} {g base top : Nat} {c : Cs} {rv lv : Value} {es : List LvC} (h : CD W base top c rv lv es) (hg : W.grownBy W' (some g)) (hlo : g < base) : CD W' base top c rv lv es :=
  h.at_ (fun k hk => hg.block k (h.lt hk).2.2 (fun e => by have := (h.lt hk).1; injection e with e; omega))

set_option maxRecDepth 100000 in
set_option maxHeartbeats 8000000 in
theorem empty_any (B g : Nat) (w : World) (h : Rd w B g) :
    Calls Try.prog 98 #[.pointer (some ⟨g, 0, none⟩)] w (CascPost B g w) := by
  have hgl := h.lt
  have HNew := Lib.hid (fun v u ws ks kp W hk h h' => specCascadeNew_any v u ws ks kp W hk h h')
  obtain ⟨w0, hw0⟩ : ∃ w0, w.alloc (.cells #[.int .i64 0, .int .i64 0, .slice none 0 0, .slice none 0 0] 30) = w0 := ⟨_, rfl⟩
  have G0 := Lib.hid (show DRW w B g w0 from by rw [← hw0]; exact ⟨h.alloc _, World.grownBy_alloc w _ _⟩)
  have R0 : Hid (BoxN w0 w.heap.size #[.int .i64 0, .int .i64 0, .slice none 0 0, .slice none 0 0] 30) := Lib.hid (by rw [← hw0]; exact World.alloc_heap_new w _)
  have HW0 := Lib.hid hw0
  clear h hw0
  go_enter Try.func98, Try.ntmps98
  go_wp2_with fail
  rw [HW0.out]
  refine (below_any B g 3 _ G0.out.1 (by omega) (by omega)).mono ?_
  rintro e w1 ⟨_, rfl, ⟨x, rfl, hx0, hx1⟩, hrd1, hgr1⟩
  have G1 := Lib.hid (G0.out.read hrd1 hgr1)
  have R1 : Hid (BoxN w1 w.heap.size #[.int .i64 0, .int .i64 0, .slice none 0 0, .slice none 0 0] 30) := Lib.hid (R0.out.kept hgr1 (by intro e; injection e with e; omega))
  clear hrd1 hgr1 G0 R0
  have e1 : IntKind.i64.wrap (1 + x) = 1 + x := IntWalk.i64_in _ (by omega)
  have e2 : IntKind.i64.wrap (5 * (1 + x)) = 5 * (1 + x) := IntWalk.i64_in _ (by omega)
  have e3 : wrap64 (5 * (1 + x)) = 5 * (1 + x) := by unfold wrap64; omega
  go_upto_region 2 with fail
  obtain ⟨wd, hwd⟩ : ∃ wd, 5 * (1 + x) = wd := ⟨_, rfl⟩
  rw [hwd]
  have hd0 : 5 ≤ wd := by omega
  have hd1 : wd ≤ 15 := by omega
  clear hwd e1 e2 e3
  go_wp2_with fail
  refine (below_any B g 30 _ G1.out.1 (by omega) (by omega)).mono ?_
  rintro e w2 ⟨_, rfl, ⟨y, rfl, hy0, hy1⟩, hrd2, hgr2⟩
  have G2 := Lib.hid (G1.out.read hrd2 hgr2)
  have R2 : Hid (BoxN w2 w.heap.size #[.int .i64 0, .int .i64 0, .slice none 0 0, .slice none 0 0] 30) := Lib.hid (R1.out.kept hgr2 (by intro e; injection e with e; omega))
  clear hrd2 hgr2 G1 R1
  have e1 : IntKind.i64.wrap (20 + y) = 20 + y := IntWalk.i64_in _ (by omega)
  have e2 : IntKind.i64.wrap (4 * wd) = 4 * wd := IntWalk.i64_in _ (by omega)
  have e3 : IntKind.i64.wrap (10 * wd) = 10 * wd := IntWalk.i64_in _ (by omega)
  have e4 : IntKind.i64.wrap (40 * wd) = 40 * wd := IntWalk.i64_in _ (by omega)
  obtain ⟨w3, hw3⟩ : ∃ w3, (w2.alloc (.cells #[.int .i64 wd, .int .i64 (4 * wd)] 2)).alloc (.cells #[.int .i64 (10 * wd), .int .i64 (40 * wd)] 2) = w3 := ⟨_, rfl⟩
  have hb3 : Below w2.heap.size w2 w3 := by rw [← hw3]; exact ((Below.refl _ _).alloc (Nat.le_refl _) _).alloc (by simp) _
  have hI : BoxN w3 w2.heap.size #[.int .i64 wd, .int .i64 (4 * wd)] 2 := by rw [← hw3]; exact (Below.heap_alloc _ _ _ (by simp)).trans (World.alloc_heap_new w2 _)
  have hJ : BoxN w3 (w2.heap.size + 1) #[.int .i64 (10 * wd), .int .i64 (40 * wd)] 2 := by
    have h := World.alloc_heap_new (w2.alloc (.cells #[.int .i64 wd, .int .i64 (4 * wd)] 2)) (.cells #[.int .i64 (10 * wd), .int .i64 (40 * wd)] 2)
    rw [World.size_alloc] at h
    rw [← hw3]; exact h
  have hCN := Lib.hid (HNew.out _ _ [wd, 4 * wd] [10 * wd, 40 * wd] (20 + y) w3 ⟨by omega, by omega⟩ (il_two hI hI.lt ⟨by omega, by omega⟩ ⟨by omega, by omega⟩) (il_two hJ hJ.lt ⟨by omega, by omega⟩ ⟨by omega, by omega⟩))
  have CRN := Lib.hid (newM_cr_ci (kp := 20 + y) (ws := [wd, 4 * wd]) (ks := [10 * wd, 40 * wd]) ⟨by omega, by omega⟩ (rng_two ⟨by omega, by omega⟩ ⟨by omega, by omega⟩) (rng_two ⟨by omega, by omega⟩ ⟨by omega, by omega⟩) (by simp))
  have G3 := Lib.hid (G2.out.below hb3)
  have R3 : Hid (BoxN w3 w.heap.size #[.int .i64 0, .int .i64 0, .slice none 0 0, .slice none 0 0] 30) := Lib.hid (R2.out.below hb3)
  have HW3 := Lib.hid hw3
  have Sz3 := G3.out.2.size
  have hlt3 := R3.out.lt
  clear hI hJ hw3 hb3 G2 R2
  go_wp2_with fail
  rw [HW3.out]
  clear HW3 e1 e2 e3 e4
  refine hCN.out.mono ?_
  rintro e w4 ⟨rv4, lv4, es4, rfl, hd4, hb4⟩
  generalize newM (20 + y) [wd, 4 * wd] [10 * wd, 40 * wd] = cs at *
  obtain ⟨n4, hn4⟩ : ∃ n4, cs.2.2.1.length = n4 := ⟨_, rfl⟩
  obtain ⟨m4, hm4⟩ : ∃ m4, cs.2.2.2.length = m4 := ⟨_, rfl⟩
  obtain ⟨ra, rc, rfl⟩ : ∃ a c, rv4 = .slice a n4 c := by rw [← hn4]; exact hd4.raw.shape
  obtain ⟨la, lc, rfl⟩ : ∃ a c, lv4 = .slice a m4 c := by rw [← hm4]; exact hd4.lvl.row.shape
  obtain ⟨w5, hw5⟩ : ∃ w5, w4.alloc (.cells #[.int .i64 cs.1, .int .i64 cs.2.1, .slice ra n4 rc, .slice la m4 lc] 30) = w5 := ⟨_, rfl⟩
  obtain ⟨ob, hob⟩ : ∃ ob, w4.heap.size = ob := ⟨_, rfl⟩
  have hb5 : Below w4.heap.size w4 w5 := by rw [← hw5]; exact (Below.refl _ _).alloc (Nat.le_refl _) _
  have X5 : Hid (BoxN w5 ob #[.int .i64 cs.1, .int .i64 cs.2.1, .slice ra n4 rc, .slice la m4 lc] 30) := Lib.hid (by rw [← hob, ← hw5]; exact World.alloc_heap_new w4 _)
  have D5 := Lib.hid (hd4.below hb5)
  have G5 := Lib.hid ((G3.out.below hb4).below hb5)
  have R5 : Hid (BoxN w5 w.heap.size #[.int .i64 0, .int .i64 0, .slice none 0 0, .slice none 0 0] 30) := Lib.hid ((R3.out.below hb4).below hb5)
  have Sz4 := hb4.size
  have Sz5 := hb5.size
  have HW5 := Lib.hid hw5
  have HOB := Lib.hid hob
  clear hn4 hm4 hw5 hob hd4 hb4 hb5 G3 R3 hCN
  go_upto_region 3 with fail
  rw [HW5.out, HOB.out]
  have hobw : w.heap.size < ob := by have h1 := HOB.out; have := R5.out.lt; omega
  clear HW5
  go_wp2_with fail
  refine (once_any B g 6 _ G5.out.1 (by omega) (by omega)).mono ?_
  rintro e w6 ⟨_, rfl, ⟨b, rfl⟩, hrd6, hgr6⟩
  have G6 := Lib.hid (G5.out.read hrd6 hgr6)
  have R6 : Hid (BoxN w6 w.heap.size #[.int .i64 0, .int .i64 0, .slice none 0 0, .slice none 0 0] 30) := Lib.hid (R5.out.kept hgr6 (by intro e; injection e with e; omega))
  have X6 : Hid (BoxN w6 ob #[.int .i64 cs.1, .int .i64 cs.2.1, .slice ra n4 rc, .slice la m4 lc] 30) := Lib.hid (X5.out.kept hgr6 (by intro e; injection e with e; omega))
  have D6 := Lib.hid (CD.read (w := w) D5.out hgr6 (by omega))
  have Sz6 := hgr6.size
  clear hrd6 hgr6 G5 R5 X5 D5
  have hne1 : ¬ ob = w.heap.size := by omega
  have hne2 : ¬ w.heap.size = ob := by omega
  cases b with
  | false =>
    have y0 := X6.out.cell (i := 0) rfl
    have y1 := X6.out.cell (i := 1) rfl
    have y2 := X6.out.cell (i := 2) rfl
    have y3 := X6.out.cell (i := 3) rfl
    have r0 := R6.out.cell (i := 0) rfl
    have r1 := R6.out.cell (i := 1) rfl
    have r2 := R6.out.cell (i := 2) rfl
    have r3 := R6.out.cell (i := 3) rfl
    have f0 := R6.out.frozen (i := 0)
    have f1 := R6.out.frozen (i := 1)
    have f2 := R6.out.frozen (i := 2)
    have f3 := R6.out.frozen (i := 3)
    go_wp2_with fail
    refine bodyPost_ret (v := .agg #[.int .i64 cs.1, .int .i64 cs.2.1, .slice ra n4 rc, .slice la m4 lc]) (by simp [results, Try.results98, go_sem, r0, r1, r2, r3]) rfl ⟨.slice ra n4 rc, .slice la m4 lc, es4, cs, rfl, (CD.set4n D6.out (.inl (by omega)) _ _ _ _).lift (by omega) (by simp [World.setCell]; try omega), CRN.out, DRW.set4 G6.out hgl (Nat.le_refl _) _ _ _ _⟩
  | true =>
    clear CRN
    obtain ⟨w7, hw7⟩ : ∃ w7, (w6.alloc (.cells #[.int .i64 10] 2)).alloc (.cells #[.int .i64 100] 2) = w7 := ⟨_, rfl⟩
    have hb7 : Below w6.heap.size w6 w7 := by rw [← hw7]; exact ((Below.refl _ _).alloc (Nat.le_refl _) _).alloc (by simp) _
    have hI : BoxN w7 w6.heap.size #[.int .i64 10] 2 := by rw [← hw7]; exact (Below.heap_alloc _ _ _ (by simp)).trans (World.alloc_heap_new w6 _)
    have hJ : BoxN w7 (w6.heap.size + 1) #[.int .i64 100] 2 := by
      have h := World.alloc_heap_new (w6.alloc (.cells #[.int .i64 10] 2)) (.cells #[.int .i64 100] 2)
      rw [World.size_alloc] at h
      rw [← hw7]; exact h
    have hCN := Lib.hid (HNew.out _ _ [10] [100] 30 w7 ⟨by omega, by omega⟩ (il_one hI hI.lt ⟨by omega, by omega⟩) (il_one hJ hJ.lt ⟨by omega, by omega⟩))
    have CRN := Lib.hid (newM_cr_ci (kp := 30) (ws := [10]) (ks := [100]) ⟨by omega, by omega⟩ (rng_one ⟨by omega, by omega⟩) (rng_one ⟨by omega, by omega⟩) (by simp))
    have G7 := Lib.hid (G6.out.below hb7)
    have R7 : Hid (BoxN w7 w.heap.size #[.int .i64 0, .int .i64 0, .slice none 0 0, .slice none 0 0] 30) := Lib.hid (R6.out.below hb7)
    have X7 : Hid (BoxN w7 ob #[.int .i64 cs.1, .int .i64 cs.2.1, .slice ra n4 rc, .slice la m4 lc] 30) := Lib.hid (X6.out.below hb7)
    have Sz7 := hb7.size
    have HW7 := Lib.hid hw7
    clear hI hJ hw7 hb7 G6 R6 X6 D6
    go_wp2_with fail
    rw [HW7.out]
    clear HW7
    refine hCN.out.mono ?_
    rintro e w8 ⟨rv8, lv8, es8, rfl, hd8, hb8⟩
    generalize newM 30 [10] [100] = c8 at *
    obtain ⟨n8, hn8⟩ : ∃ n8, c8.2.2.1.length = n8 := ⟨_, rfl⟩
    obtain ⟨m8, hm8⟩ : ∃ m8, c8.2.2.2.length = m8 := ⟨_, rfl⟩
    obtain ⟨ra8, rc8, rfl⟩ : ∃ a c, rv8 = .slice a n8 c := by rw [← hn8]; exact hd8.raw.shape
    obtain ⟨la8, lc8, rfl⟩ : ∃ a c, lv8 = .slice a m8 c := by rw [← hm8]; exact hd8.lvl.row.shape
    have G8 := Lib.hid (G7.out.below hb8)
    have R8 : BoxN w8 w.heap.size #[.int .i64 0, .int .i64 0, .slice none 0 0, .slice none 0 0] 30 := R7.out.below hb8
    have X8 : BoxN w8 ob #[.int .i64 cs.1, .int .i64 cs.2.1, .slice ra n4 rc, .slice la m4 lc] 30 := X7.out.below hb8
    have hobl := X7.out.lt
    have D8 := Lib.hid hd8
    have Sz8 := hb8.size
    have y0 := BoxN.cell (i := 0) X8 rfl
    have y1 := BoxN.cell (i := 1) X8 rfl
    have y2 := BoxN.cell (i := 2) X8 rfl
    have y3 := BoxN.cell (i := 3) X8 rfl
    have g0 := BoxN.frozen (i := 0) X8
    have g1 := BoxN.frozen (i := 1) X8
    have g2 := BoxN.frozen (i := 2) X8
    have g3 := BoxN.frozen (i := 3) X8
    have r0 := BoxN.cell (i := 0) R8 rfl
    have r1 := BoxN.cell (i := 1) R8 rfl
    have r2 := BoxN.cell (i := 2) R8 rfl
    have r3 := BoxN.cell (i := 3) R8 rfl
    have f0 := BoxN.frozen (i := 0) R8
    have f1 := BoxN.frozen (i := 1) R8
    have f2 := BoxN.frozen (i := 2) R8
    have f3 := BoxN.frozen (i := 3) R8
    clear hn8 hm8 hd8 hb8 X8 R8 G7 R7 X7 hCN
    go_wp2_with fail
    refine bodyPost_ret (v := .agg #[.int .i64 c8.1, .int .i64 c8.2.1, .slice ra8 n8 rc8, .slice la8 m8 lc8]) (by simp [results, Try.results98, go_sem, r0, r1, r2, r3, hne1, hne2]) rfl ⟨.slice ra8 n8 rc8, .slice la8 m8 lc8, es8, c8, rfl, (CD.set4n (CD.set4n D8.out (.inl (by omega)) _ _ _ _) (.inl (by omega)) _ _ _ _).lift (by omega) (by simp [World.setCell]), CRN.out, DRW.set4 (DRW.set4 G8.out hgl (by omega) _ _ _ _) hgl (Nat.le_refl _) _ _ _ _⟩
end Go.Proofs.Ytcjpedolmnahfaa
