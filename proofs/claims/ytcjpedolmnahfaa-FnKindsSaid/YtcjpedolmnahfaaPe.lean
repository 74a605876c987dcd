/- Walks: cascades: a cascade marked, and the marks read. -/
import Derived.Test.YtcjpedolmnahfaaPc
set_option linter.unusedVariables false
set_option linter.unusedSimpArgs false
namespace Go.Proofs.Ytcjpedolmnahfaa
open Go.RowKit

set_option maxRecDepth 100000 in
set_option maxHeartbeats 4000000 in
theorem markCascade_any (base top : Nat) (c : Cs) (rv lv : Value) (es : List LvC) (K : Int) (w : World) (hK : 0 ≤ K) (hK2 : K + totC c ≤ 100000000000000) (hr : CR c) (h : CD w base top c rv lv es) :
    Calls Try.prog 45 #[.agg #[.int .i64 c.1, .int .i64 c.2.1, rv, lv], .int .i64 K] w (MarkPC base top c rv lv es K w) := by
  obtain ⟨nw, kp, rp, ls⟩ := c
  have HR := Lib.hid hr
  have HK := Lib.hid (show K + (2 * (rp.length : Int) + totL ls) ≤ 100000000000000 from hK2)
  have hrl : rp.length ≤ 1048576 := hr.rlen
  have htn := totL_nonneg ls
  have hkr : K + 2 * (rp.length : Int) ≤ 100000000000000 := by have := HK.out; omega
  clear hr hK2 htn
  obtain ⟨Ap, cp, rfl⟩ := h.raw.shape
  obtain ⟨Al, cl, rfl⟩ := h.lvl.row.shape
  simp only at h ⊢
  have hmp := Lib.hid (fun v K xs w hK hK2 hl h => markPointO_any base top v K xs w hK hK2 hl h)
  have hml := Lib.hid (fun v K ls es w hK hK2 hl hrl h => markLevelS_any base top v K ls es w hK hK2 hl hrl h)
  obtain ⟨wb, hwb⟩ : ∃ wb, w.alloc (.cells #[.int .i64 nw, .int .i64 kp, .slice Ap rp.length cp, .slice Al ls.length cl] 30) = wb := ⟨_, rfl⟩
  have BX : BoxN wb w.heap.size #[.int .i64 nw, .int .i64 kp, .slice Ap rp.length cp, .slice Al ls.length cl] 30 := by rw [← hwb]; exact World.alloc_heap_new w _
  have HB := Lib.hid (show Below w.heap.size w wb from by rw [← hwb]; exact (Below.refl _ _).alloc (Nat.le_refl _) _)
  have HW := Lib.hid hwb
  have HD := Lib.hid (h.below HB.out)
  have hltA : ∀ g, CBk (nw, kp, rp, ls) (.slice Ap rp.length cp) (.slice Al ls.length cl) es g → g < w.heap.size := fun g hg => (h.lt hg).2.2
  have HA := Lib.hid hltA
  clear hwb h hltA
  have Q := Lib.hid BX
  have x2 := BX.cell (i := 2) rfl
  clear BX
  have hcal := Lib.hid (hmp.out _ K rp wb hK (by omega) hrl HD.out.raw)
  go_enter Try.func45, Try.ntmps45
  go_wp2_with fail
  rw [HW.out]
  go_wp2_with fail
  refine hcal.out.mono ?_
  rintro e w1 ⟨rfl, hrow1, hc1⟩
  have Q1 : BoxN w1 w.heap.size #[.int .i64 nw, .int .i64 kp, .slice Ap rp.length cp, .slice Al ls.length cl] 30 :=
    (hc1.block _ Q.out.lt (fun hS => by have := HA.out _ (.inl hS); omega)).trans Q.out
  have x3 := Q1.cell (i := 3) rfl
  have HR1 := Lib.hid hrow1
  have HC1 := Lib.hid hc1
  have hl1 := HD.out.lvl.chg hc1 (fun g hg hS => HD.out.off g hS hg)
  have hcal2 := Lib.hid (hml.out _ (K + 2 * (rp.length : Int)) ls es w1 (by omega) (by have := HK.out; omega) HR.out.llen (fun j hj => (HR.out.rolls j hj).2) hl1)
  clear hrow1 hc1 hl1 Q1 x2
  go_wp2_with fail
  refine hcal2.out.mono ?_
  rintro e w2 ⟨rfl, ⟨es', hl2, hse⟩, hc2⟩
  have HL2 := Lib.hid hl2
  have HS2 := Lib.hid hse
  have HC2 := Lib.hid hc2
  clear hl2 hse hc2 x3
  go_wp2_with fail
  go_ret
  have e1 : K + 2 * (rp.length : Int) + totL ls = K + (2 * (rp.length : Int) + totL ls) := by omega
  refine ⟨by rw [e1]; rfl, ⟨es', ⟨?_, HL2.out, ?_⟩⟩, wb, HB.out, (HC1.out.mono (fun k hk => .inl hk)).trans (HC2.out.mono (fun k hk => .inr hk))⟩
  · have hr1 := HR1.out
    show ORow w2 base top _ 2 _ (marks2 K rp.length).length (prs (marks2 K rp.length))
    rw [marks2_length]
    refine hr1.at_ (fun g hg => HC2.out.block g (hr1.lt hg).2.2 (fun hS => HD.out.off g hg hS))
  · intro g hg hS
    have hg' : obk (.slice Ap rp.length cp) rp.length = some g := by
      have : obk (.slice Ap rp.length cp) (marks2 K rp.length).length = some g := hg
      rwa [marks2_length] at this
    refine HD.out.off g hg' (hS.same (mkL_length _ _) (fun j hj => ⟨?_, HS2.out j hj⟩))
    rw [mkL_getD _ _ _ hj]; exact marks6_length _ _

set_option maxRecDepth 100000 in
set_option maxHeartbeats 4000000 in
theorem heldCascade_any (v : Value) (c : Cs) (K : Int) (w : World) (hK : 0 ≤ K) (hK2 : K + totC c ≤ 100000000000000) (h : CV w w.heap.size v (mkC K c)) :
    Calls Try.prog 46 #[v, .int .i64 K] w fun e w' => e = .returned (.int .i64 (K + totC c)) ∧ Below w.heap.size w w' := by
  obtain ⟨nw, kp, rp, ls⟩ := c
  have HK := Lib.hid (show K + (2 * (rp.length : Int) + totL ls) ≤ 100000000000000 from hK2)
  have htn := totL_nonneg ls
  have HT := Lib.hid htn
  have hkr : K + 2 * (rp.length : Int) ≤ 100000000000000 := by have := HK.out; omega
  clear hK2 htn
  obtain ⟨rv, lv, rfl, hP, hL, z7, z8⟩ := h
  clear z7 z8
  have hP' : PL w w.heap.size rv (marks2 K rp.length) := hP
  have hL' : LS w w.heap.size lv (mkL (K + 2 * (rp.length : Int)) ls) := hL
  clear hP hL
  obtain ⟨np, hnp⟩ : ∃ n, rp.length = n := ⟨_, rfl⟩
  have HNP := Lib.hid hnp
  rw [hnp] at hP' hL' hkr
  have HP := Lib.hid hP'
  have HL := Lib.hid hL'
  obtain ⟨z1, z2, Ap, cp, rfl, z3⟩ := hP'
  obtain ⟨z4, z5, Al, cl, rfl, z6⟩ := hL'
  clear z1 z2 z3 z4 z5 z6
  rw [marks2_length] at HP ⊢
  rw [mkL_length] at HL ⊢
  show Calls _ _ #[.agg #[.int .i64 nw, .int .i64 kp, .slice Ap np cp, .slice Al ls.length cl], .int .i64 K] w _
  clear hnp
  obtain ⟨wb, hwb⟩ : ∃ wb, w.alloc (.cells #[.int .i64 nw, .int .i64 kp, .slice Ap np cp, .slice Al ls.length cl] 30) = wb := ⟨_, rfl⟩
  have BX : BoxN wb w.heap.size #[.int .i64 nw, .int .i64 kp, .slice Ap np cp, .slice Al ls.length cl] 30 := by rw [← hwb]; exact World.alloc_heap_new w _
  have HB := Lib.hid (show Below w.heap.size w wb from by rw [← hwb]; exact (Below.refl _ _).alloc (Nat.le_refl _) _)
  have HW := Lib.hid hwb
  have x2 := BX.cell (i := 2) rfl
  have x3 := BX.cell (i := 3) rfl
  clear hwb BX
  have hcal := Lib.hid (heldPointS_any _ np K wb hK (by omega) ((HP.out.below HB.out).up HB.out.size))
  have hcal2 := Lib.hid (heldLevelS_any _ ls (K + 2 * (np : Int)) wb (by omega) (by have := HK.out; have := HNP.out; omega) ((HL.out.below HB.out).up HB.out.size))
  have d1 : decide (K + 2 * (np : Int) < 0) = false := decide_eq_false (by omega)
  have d2 : decide (K + 2 * (np : Int) + totL ls < 0) = false := decide_eq_false (by have := HT.out; omega)
  go_enter Try.func46, Try.ntmps46
  go_wp2_with fail
  rw [HW.out]
  go_wp2_with fail
  refine hcal.out.mono ?_
  rintro e w1 ⟨rfl, rfl⟩
  go_wp2_with fail
  refine hcal2.out.mono ?_
  rintro e w2 ⟨rfl, rfl⟩
  go_wp2_with fail
  go_ret
  have e1 : K + 2 * (np : Int) + totL ls = K + (2 * (rp.length : Int) + totL ls) := by have := HNP.out; omega
  exact ⟨by rw [e1]; rfl, HB.out⟩
end Go.Proofs.Ytcjpedolmnahfaa

/- Walks: cascades: a copy of a cascade, its rows all apart. -/
set_option linter.unusedVariables false
set_option linter.unusedSimpArgs false
namespace Go.Proofs.Ytcjpedolmnahfaa
open Go.RowKit

def LPartD (W : World) (b : Nat) (es : List LvC) (ls : List Lv) (k : Nat) : Prop :=
  es.length = ls.length ∧ W.ownsRow b 51 3 (.slice (some ⟨b, 0, none⟩) ls.length ls.length) ls.length (lvs es) ∧ (∀ j, j < k → (es.getD j zLc).1 = (ls.getD j zLv).1 ∧ (es.getD j zLc).2.1 = (ls.getD j zLv).2.1 ∧ W.ownsRow (b + 1) 48 6 (es.getD j zLc).2.2 (ls.getD j zLv).2.2.length (rls (ls.getD j zLv).2.2)) ∧
  ∀ i j g, i < j → j < k → (es.getD i zLc).2.2.ownBlock = some g → ¬ (es.getD j zLc).2.2.ownBlock = some g
theorem obk_own {v : Value} {n g : Nat} (h : obk v n = some g) : v.ownBlock = some g := by
  unfold obk at h
  split at h
  · cases h
  · exact h
theorem LD.of_part {W : World} {b : Nat} {es : List LvC} {ls : List Lv} (h : LPartD W b es ls ls.length) : LD W b W.heap.size (.slice (some ⟨b, 0, none⟩) ls.length ls.length) ls es := by
  obtain ⟨h1, h2, h3, h4⟩ := h
  refine ⟨h1, ORow.of_own h2, fun j hj => ⟨(h3 j hj).1, (h3 j hj).2.1, (ORow.of_own (h3 j hj).2.2).lift (by omega) (Nat.le_refl _)⟩, fun j g hj hg he => ?_, fun i j g hij hj hi hj' => h4 i j g hij hj (obk_own hi) (obk_own hj')⟩
  have := ((h3 j hj).2.2.lt g (obk_own hg)).1
  injection he with he
  simp at he
  omega

set_option maxRecDepth 100000 in
set_option maxHeartbeats 4000000 in
theorem toLevelSD_any (v : Value) (ls : List Lv) (w : World) (h : LS w w.heap.size v ls) :
    Calls Try.prog 91 #[v] w fun e w' => ∃ v' es, e = .returned v' ∧ LD w' w.heap.size w'.heap.size v' ls es ∧ Below w.heap.size w w' := by
  obtain ⟨hr, hlen, A, c, rfl, h3⟩ := h
  clear hr
  obtain ⟨i0, hi, hz0, hz1, hz2⟩ := info_parts info_lv
  have hT := Lib.hid (fun W K rv rs w h => toLevel_any W K rv rs w h)
  go_enter Try.func91, Try.ntmps91
  go_wp2_with (at_make; refine wpList_make_full _ rfl _ _ 28 rfl w.heap.size 51 i0 (.agg #[.int .i64 0, .int .i64 0, .slice none 0 0]) 3 Try.underlying28 hi hz0 hz1 _ _ _ _ ls.length rfl rfl rfl rfl ?b2 ?b3 ?b4 ?_)
  case b2 => rw [hz2]; omega
  case b3 => unfold maxLen; omega
  case b4 => exact Nat.le_refl _
  intro w1 hown hgrow
  rw [made_lvs] at hown
  have hb1 : Below w.heap.size w w1 := (Below.refl _ _).grown hgrow (Nat.le_refl _) (fun k hk => by cases hk)
  have hlt1 : w.heap.size < w1.heap.size := by have := (hown.lt _ rfl).2; exact this
  clear hgrow
  go_wp2_with fail
  go_loopw [4] (fun i wr => ∃ (k : Nat) (es : List LvC), k ≤ ls.length ∧ i = .int .i64 k ∧ Hid (LPartD wr w.heap.size es ls k) ∧ w.heap.size < wr.heap.size ∧ Below w.heap.size w wr)
    (fun i _ => ls.length - (intOf i).toNat)
  case atStart => exact ⟨0, List.replicate ls.length zLc, Nat.zero_le _, rfl, Lib.hid ⟨by simp, hown, fun j hj => by omega, fun i j g hij hj => by omega⟩, hlt1, hb1⟩
  case round =>
    clear hown hb1
    obtain ⟨k, es, hk, rfl, HE, hlt0, hb⟩ := hrel
    have HB := Lib.hid hb
    have hsz := hb.size
    clear hb
    by_cases hlt : k < ls.length
    · rcases h3 with h3 | ⟨b, off, rfl, hbl, hc⟩
      · subst h3; simp at hlt
      obtain ⟨q0, q1, rv, q2, hrl⟩ := hc k hlt
      have x0 := (HB.out.cell (p := ⟨b, off + k * 3, none⟩) hbl).trans q0
      have x1 := (HB.out.cell (p := ⟨b, off + k * 3 + 1, none⟩) hbl).trans q1
      have x2 := (HB.out.cell (p := ⟨b, off + k * 3 + 2, none⟩) hbl).trans q2
      have hcal := Lib.hid (hT.out (ls.getD k zLv).1 (ls.getD k zLv).2.1 rv (ls.getD k zLv).2.2 wr ((hrl.below HB.out).up hsz))
      obtain ⟨_, _, Ar, cr, hrv, _⟩ := id hrl
      obtain ⟨nr, hnr⟩ : ∃ nr, nr = (ls.getD k zLv).2.2.length := ⟨_, rfl⟩
      rw [← hnr] at hrv
      subst hrv
      clear hc q0 q1 q2 hrl hnr
      obtain ⟨W, hW⟩ : ∃ W, W = (ls.getD k zLv).1 := ⟨_, rfl⟩
      obtain ⟨K, hK⟩ : ∃ K, K = (ls.getD k zLv).2.1 := ⟨_, rfl⟩
      rw [← hW] at x0 hcal
      rw [← hK] at x1 hcal
      have HW := Lib.hid hW
      have HK := Lib.hid hK
      clear hW hK
      go_wp2_with fail
      refine hcal.out.mono ?_
      rintro e w2 ⟨vr, rfl, hownr, hb2⟩
      have hes := HE.out.1
      have hown2 := u_own_below HE.out.2.1 hb2
      have HR := Lib.hid (show w2.ownsRow (w.heap.size + 1) 48 6 vr (ls.getD k zLv).2.2.length (rls (ls.getD k zLv).2.2) from oi_lift hownr (by omega))
      have HOld := Lib.hid (fun j (hj : j < k) => (⟨(HE.out.2.2.1 j hj).1, (HE.out.2.2.1 j hj).2.1, u_own_below (HE.out.2.2.1 j hj).2.2 hb2⟩ : (es.getD j zLc).1 = (ls.getD j zLv).1 ∧ (es.getD j zLc).2.1 = (ls.getD j zLv).2.1 ∧ w2.ownsRow (w.heap.size + 1) 48 6 (es.getD j zLc).2.2 (ls.getD j zLv).2.2.length (rls (ls.getD j zLv).2.2)))
      have HDi := Lib.hid (fun j (hj : j < k) g (hg : (es.getD j zLc).2.2.ownBlock = some g) (hv : vr.ownBlock = some g) => (show False from by
        have a := ((HE.out.2.2.1 j hj).2.2.lt g hg).2
        have b := (hownr.lt g hv).1
        omega))
      have HDo := Lib.hid (fun i j g (hij : i < j) (hj : j < k) => HE.out.2.2.2 i j g hij hj)
      have hb3 := HB.out.trans (hb2.mono hsz)
      have hsz2 := hb2.size
      obtain ⟨va, vn, vc, rfl⟩ : ∃ a n c, vr = .slice a n c := by
        rcases hownr.2 with ⟨rfl, h0⟩ | ⟨gb, cap, cur, rfl, _⟩
        · exact ⟨_, _, _, rfl⟩
        · exact ⟨_, _, _, rfl⟩
      clear hb2 hownr x0 x1 x2
      have c0 : w2.cell? ⟨w.heap.size, k * 3, none⟩ = some (.int .i64 (es.getD k zLc).1) := by
        rw [hown2.cellAt _ (by omega)]; exact lvs_get0 _ _ (by omega)
      have c1 : w2.cell? ⟨w.heap.size, k * 3 + 1, none⟩ = some (.int .i64 (es.getD k zLc).2.1) := by
        rw [hown2.cellAt _ (by omega)]; exact lvs_get1 _ _ (by omega)
      have c2 : w2.cell? ⟨w.heap.size, k * 3 + 2, none⟩ = some (es.getD k zLc).2.2 := by
        rw [hown2.cellAt _ (by omega)]; exact lvs_get2 _ _ (by omega)
      have f0 : w2.frozen? ⟨w.heap.size, k * 3, none⟩ = false := hown2.frozenAt _
      have f1 : w2.frozen? ⟨w.heap.size, k * 3 + 1, none⟩ = false := hown2.frozenAt _
      have f2 : w2.frozen? ⟨w.heap.size, k * 3 + 2, none⟩ = false := hown2.frozenAt _
      generalize (es.getD k zLc).1 = o0 at c0
      generalize (es.getD k zLc).2.1 = o1 at c1
      generalize (es.getD k zLc).2.2 = o2 at c2
      have s0 := hown2.stored (k * 3) (.int .i64 W)
      have s1 := s0.1.stored (k * 3 + 1) (.int .i64 K)
      have s2 := s1.1.stored (k * 3 + 2) (.slice va vn vc)
      have hown4 := s2.1
      rw [lvs_set es k W K (.slice va vn vc) (by omega)] at hown4
      have hg4 := (s0.2.trans s1.2).trans s2.2
      have HN := Lib.hid (show LPartD _ w.heap.size (es.set k (W, K, .slice va vn vc)) ls (k + 1) from ⟨by simpa using hes, hown4, fun j hj => by
        rw [getD_set_lv _ _ _ _ (by omega)]
        by_cases e : j = k
        · subst e; rw [if_pos rfl]; exact ⟨HW.out, HK.out, own_set_row HR.out hg4 (by omega)⟩
        · rw [if_neg e]
          have ho := HOld.out j (by omega)
          exact ⟨ho.1, ho.2.1, own_set_row ho.2.2 hg4 (by omega)⟩, fun i j g hij hj hi hj' => by
        rw [getD_set_lv _ _ _ _ (by omega), if_neg (by omega)] at hi
        rw [getD_set_lv _ _ _ _ (by omega)] at hj'
        by_cases e : j = k
        · rw [if_pos e] at hj'; exact HDi.out i (by omega) g hi hj'
        · rw [if_neg e] at hj'; exact HDo.out i j g hij (by omega) hi hj'⟩)
      have HB4 := Lib.hid (((hb3.setCell (p := ⟨w.heap.size, k * 3, none⟩) (by simp) (.int .i64 W)).setCell (p := ⟨w.heap.size, k * 3 + 1, none⟩) (by simp) (.int .i64 K)).setCell (p := ⟨w.heap.size, k * 3 + 2, none⟩) (by simp) (.slice va vn vc))
      have hlt4 := Lib.hid (show w.heap.size < (((w2.setCell ⟨w.heap.size, k * 3, none⟩ (.int .i64 W)).setCell ⟨w.heap.size, k * 3 + 1, none⟩ (.int .i64 K)).setCell ⟨w.heap.size, k * 3 + 2, none⟩ (.slice va vn vc)).heap.size from by have := hg4.size; omega)
      clear s0 s1 s2 hown4 hg4 hown2 hb3 HR HOld HE HDi HDo
      go_wp2_with fail
      go_roundw
      case rel => exact ⟨k + 1, es.set k (W, K, .slice va vn vc), by omega, by go_num, HN, hlt4.out, HB4.out⟩
      case measure => simp [intOf]; omega
    · obtain rfl : k = ls.length := by omega
      go_wp2_with fail
      go_ret
      exact ⟨_, es, rfl, LD.of_part HE.out, HB.out⟩

def CPostD (base : Nat) (c : Cs) (w : World) (e : Ending) (w' : World) : Prop :=
  ∃ rv lv es, e = .returned (.agg #[.int .i64 c.1, .int .i64 c.2.1, rv, lv]) ∧ CD w' base w'.heap.size c rv lv es ∧ Below w.heap.size w w'
set_option maxRecDepth 100000 in
set_option maxHeartbeats 2000000 in
theorem toCascadeD_any (v : Value) (c : Cs) (w : World) (h : CV w w.heap.size v c) :
    Calls Try.prog 42 #[v] w (CPostD w.heap.size c w) := by
  obtain ⟨Ap, cp, Al, cl, rfl, hP, hL⟩ := h.cell2
  obtain ⟨nw, kp, rp, ls⟩ := c
  simp only at hP hL ⊢
  have hT := Lib.hid (fun W h => toPointS_any (.slice Ap rp.length cp) rp W h)
  have hS := Lib.hid (fun W h => toLevelSD_any (.slice Al ls.length cl) ls W h)
  have HP := Lib.hid hP
  have HL := Lib.hid hL
  clear hP hL h
  obtain ⟨w1, hw1⟩ : ∃ w1, ((w.alloc (.cells #[.int .i64 nw, .int .i64 kp, .slice Ap rp.length cp, .slice Al ls.length cl] 66)).alloc (.cells #[.int .i64 0, .int .i64 0, .slice none 0 0, .slice none 0 0] 30)).alloc (.cells #[.int .i64 nw, .int .i64 kp, .slice none 0 0, .slice none 0 0] 30) = w1 := ⟨_, rfl⟩
  have B1 := Lib.hid (show Below w.heap.size w w1 from by rw [← hw1]; exact (((Below.refl _ w).alloc (Nat.le_refl _) _).alloc (by simp) _).alloc (by simp; omega) _)
  have n0 : BoxN w1 w.heap.size #[.int .i64 nw, .int .i64 kp, .slice Ap rp.length cp, .slice Al ls.length cl] 66 := by
    have h := World.alloc_heap_new w (.cells #[.int .i64 nw, .int .i64 kp, .slice Ap rp.length cp, .slice Al ls.length cl] 66)
    rw [← hw1]
    exact (Below.heap_alloc _ _ _ (by simp; omega)).trans ((Below.heap_alloc _ _ _ (by simp)).trans h)
  have n1 : BoxN w1 (w.heap.size + 1) #[.int .i64 0, .int .i64 0, .slice none 0 0, .slice none 0 0] 30 := by
    have h := World.alloc_heap_new (w.alloc (.cells #[.int .i64 nw, .int .i64 kp, .slice Ap rp.length cp, .slice Al ls.length cl] 66)) (.cells #[.int .i64 0, .int .i64 0, .slice none 0 0, .slice none 0 0] 30)
    rw [World.size_alloc] at h
    rw [← hw1]
    exact (Below.heap_alloc _ _ _ (by simp)).trans h
  have n2 : BoxN w1 (w.heap.size + 1 + 1) #[.int .i64 nw, .int .i64 kp, .slice none 0 0, .slice none 0 0] 30 := by
    have h := World.alloc_heap_new ((w.alloc (.cells #[.int .i64 nw, .int .i64 kp, .slice Ap rp.length cp, .slice Al ls.length cl] 66)).alloc (.cells #[.int .i64 0, .int .i64 0, .slice none 0 0, .slice none 0 0] 30)) (.cells #[.int .i64 nw, .int .i64 kp, .slice none 0 0, .slice none 0 0] 30)
    rw [World.size_alloc, World.size_alloc] at h
    rw [← hw1]; exact h
  have hz1 := Lib.hid (show w1.heap.size = w.heap.size + 3 from by rw [← hw1]; simp)
  have HW := Lib.hid hw1
  have N0 := Lib.hid n0
  have N1 := Lib.hid n1
  have N2 := Lib.hid n2
  clear hw1 n1 n2 n0
  go_enter Try.func42, Try.ntmps42
  go_wp2_with fail
  rw [HW.out]
  refine (hT.out _ ((HP.out.below B1.out).up B1.out.size)).mono ?_
  rintro e w2 ⟨v2, rfl, hown, hb2⟩
  have a2 := (hb2.block _ N0.out.lt).trans N0.out
  have r2 : BoxN w2 (w.heap.size + 1) #[.int .i64 0, .int .i64 0, .slice none 0 0, .slice none 0 0] 30 := (hb2.block _ N1.out.lt).trans N1.out
  have o2 : BoxN w2 (w.heap.size + 1 + 1) #[.int .i64 nw, .int .i64 kp, .slice none 0 0, .slice none 0 0] 30 := (hb2.block _ N2.out.lt).trans N2.out
  have A2 := Lib.hid (show BoxN w2 w.heap.size #[.int .i64 nw, .int .i64 kp, .slice Ap rp.length cp, .slice Al ls.length cl] 66 from a2)
  have x3 := A2.out.cell (i := 3) rfl
  have R2 := Lib.hid r2
  have d2 := o2.cell (i := 2) rfl
  have g2 := o2.frozen (i := 2)
  have HB2 := Lib.hid (B1.out.trans (hb2.mono B1.out.size))
  have hs2 : w.heap.size + 3 ≤ w2.heap.size := by have := hb2.size; rw [hz1.out] at this; exact this
  have HO2 := Lib.hid (show w2.ownsRow (w.heap.size + 3) 43 2 v2 rp.length (prs rp) from by rw [← hz1.out]; exact hown)
  obtain ⟨va, vn, vc, rfl⟩ := own_shape hown
  clear hown hb2 a2 r2
  obtain ⟨w3, hw3⟩ : ∃ w3, w2.setCell ⟨w.heap.size + 1 + 1, 2, none⟩ (.slice va vn vc) = w3 := ⟨_, rfl⟩
  have HB3 := Lib.hid (show Below w.heap.size w w3 from by rw [← hw3]; exact HB2.out.setCell (by simp; omega) _)
  have HO3 := Lib.hid (show w3.ownsRow (w.heap.size + 3) 43 2 (.slice va vn vc) rp.length (prs rp) from by rw [← hw3]; exact own_set_other HO2.out _ _ _ (by omega))
  have hs3 : w.heap.size + 3 ≤ w3.heap.size := by rw [← hw3]; simpa [World.setCell] using hs2
  have O3 := Lib.hid (show BoxN w3 (w.heap.size + 1 + 1) #[.int .i64 nw, .int .i64 kp, .slice va vn vc, .slice none 0 0] 30 from by
    rw [← hw3]
    have h := heap_setCell_same w2 (w.heap.size + 1 + 1) 2 _ _ (.slice va vn vc) o2
    exact h)
  have R3 := Lib.hid (show BoxN w3 (w.heap.size + 1) #[.int .i64 0, .int .i64 0, .slice none 0 0, .slice none 0 0] 30 from by
    rw [← hw3]; exact (Below.heap_setCell _ _ _ _ (by simp)).trans R2.out)
  have HW3 := Lib.hid hw3
  clear hw3
  go_wp2_with fail
  rw [HW3.out]
  refine (hS.out _ ((HL.out.below HB3.out).up HB3.out.size)).mono ?_
  rintro e w4 ⟨v4, es, rfl, hown4, hb4⟩
  obtain ⟨ua, uc, rfl⟩ := hown4.row.shape
  have r4 : BoxN w4 (w.heap.size + 1) #[.int .i64 0, .int .i64 0, .slice none 0 0, .slice none 0 0] 30 := (hb4.block _ R3.out.lt).trans R3.out
  have o4 : BoxN w4 (w.heap.size + 1 + 1) #[.int .i64 nw, .int .i64 kp, .slice va vn vc, .slice none 0 0] 30 := (hb4.block _ O3.out.lt).trans O3.out
  have HB4 := Lib.hid (HB3.out.trans (hb4.mono HB3.out.size))
  have HO4 := Lib.hid (u_own_below HO3.out hb4)
  have HL4 := Lib.hid (hown4.lift hs3 (Nat.le_refl _))
  have HG4 := Lib.hid (fun g (h : LBk (.slice ua ls.length uc) ls es g) => (hown4.lt h).1)
  have hs43 := hb4.size
  clear hown4 hb4
  have c0 := r4.cell (i := 0) rfl
  have f0 := r4.frozen (i := 0)
  have d0' := o4.cell (i := 0) rfl
  have g0' := o4.frozen (i := 0)
  have c1 := r4.cell (i := 1) rfl
  have f1 := r4.frozen (i := 1)
  have d1' := o4.cell (i := 1) rfl
  have g1' := o4.frozen (i := 1)
  have c2 := r4.cell (i := 2) rfl
  have f2 := r4.frozen (i := 2)
  have d2' := o4.cell (i := 2) rfl
  have g2' := o4.frozen (i := 2)
  have c3 := r4.cell (i := 3) rfl
  have f3 := r4.frozen (i := 3)
  have d3' := o4.cell (i := 3) rfl
  have g3' := o4.frozen (i := 3)
  clear d2 g2 x3
  go_wp2_with fail
  refine bodyPost_ret (v := .agg #[.int .i64 nw, .int .i64 kp, .slice va vn vc, .slice ua ls.length uc]) (by simp [results, Try.results42, go_sem, c0, c1, c2, c3, d0', d1', d2', d3']) rfl ⟨_, _, es, rfl, (CD.at_ (W := w4) ⟨ORow.of_own HO4.out, HL4.out, fun g hg hS => ?_⟩ (fun g hg => ?_)).lift (by omega) (by simp [World.setCell]), ?_⟩
  · have a := (HO3.out.lt g (obk_own hg)).2
    have b := HG4.out g hS
    omega
  · have b : w.heap.size + 3 ≤ g := by
      rcases hg with hg | hg
      · exact (HO4.out.lt g (obk_own hg)).1
      · exact (HL4.out.lt hg).1
    repeat (first | with_reducible rfl | refine (Below.heap_setCell _ _ _ _ (by simp; omega)).trans ?_)
  · repeat (first | with_reducible exact HB4.out | refine Below.setCell ?_ (by simp; try omega) _)
end Go.Proofs.Ytcjpedolmnahfaa
