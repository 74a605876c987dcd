/- Walks: cascades: what the laws' marks read as. -/
import Derived.Test.YtkekpkfhljankaaPb
set_option linter.unusedVariables false
set_option linter.unusedSimpArgs false
namespace Go.Proofs.Ytkekpkfhljankaa
open Go.RowKit

theorem LS.at_ {w : World} {A : Option Addr} {n c : Nat} {xs : List Lv} (h : LS w w.heap.size (.slice A n c) xs) {k : Nat} (hk : k < n) :
    ∃ b off, A = some ⟨b, off, none⟩ ∧ w.cell? ⟨b, off + k * 3, none⟩ = some (.int .i64 (xs.getD k zLv).1) ∧ w.cell? ⟨b, off + k * 3 + 1, none⟩ = some (.int .i64 (xs.getD k zLv).2.1) ∧ ∃ r, w.cell? ⟨b, off + k * 3 + 2, none⟩ = some r ∧ RL w w.heap.size r (xs.getD k zLv).2.2 := by
  obtain ⟨_, _, A', c', he, h3⟩ := h
  injection he with e1 e2 e3
  rcases h3 with h3 | ⟨b, off, hb, _, hc⟩
  · rw [h3] at e2; simp at e2; omega
  · obtain ⟨x0, x1, r, x2, hr⟩ := hc k (by omega)
    exact ⟨b, off, e1.trans hb, x0, x1, r, x2, hr⟩

set_option maxRecDepth 100000 in
set_option maxHeartbeats 8000000 in
theorem heldLevelS_any (v : Value) (ls : List Lv) (K : Int) (w : World) (hK : 0 ≤ K) (hK2 : K + totL ls ≤ 100000000000000) (h : LS w w.heap.size v (mkL K ls)) :
    Calls Try.prog 70 #[v, .int .i64 K] w fun e w' => e = .returned (.int .i64 (K + totL ls)) ∧ w = w' := by
  have H := Lib.hid h
  obtain ⟨z1, hlen, A, c, rfl, z2⟩ := h
  clear z1 z2
  obtain ⟨n, hn⟩ : ∃ n, n = ls.length := ⟨_, rfl⟩
  have Hn := Lib.hid hn
  have HT := Lib.hid hK2
  rw [mkL_length, ← hn] at H hlen ⊢
  clear hn hK2
  have hmr := Lib.hid (fun v n K w hK hK2 h => heldRollS_any v n K w hK hK2 h)
  go_enter Try.func70, Try.ntmps70
  go_wp2_with fail
  go_loop [5, 1] (fun i q => ∃ (k : Nat) (qq : Int), k ≤ n ∧ i = .int .i64 k ∧ q = .int .i64 qq ∧ Hid (qq = K + totL (ls.take k))) (fun i _ => n - (intOf i).toNat)
  case atStart => exact ⟨0, K, Nat.zero_le _, rfl, rfl, Lib.hid (by simp [totL])⟩
  case round =>
    obtain ⟨k, qq, hk, rfl, rfl, HQ⟩ := hrel
    by_cases hlt : k < n
    · obtain ⟨b, off, rfl, x0, x1, r, x2, hr⟩ := H.out.at_ hlt
      have hls := Hn.out
      have hq0 : 0 ≤ qq ∧ qq + 2 + 6 * ((ls.getD k zLv).2.2.length : Int) ≤ 100000000000000 := by
        have h1 := HQ.out; have h2 := totL_nonneg (ls.take k); have h3 := HT.out
        have h4 := totL_take_le ls (k + 1); rw [totL_succ ls k (by omega)] at h4
        omega
      rw [mkL_getD ls K k (by omega), ← HQ.out] at x0 x1 hr
      simp only at x0 x1 hr
      obtain ⟨rn, hrn⟩ : ∃ rn, (ls.getD k zLv).2.2.length = rn := ⟨_, rfl⟩
      have HRN := Lib.hid hrn
      rw [hrn] at hr hq0
      clear hrn
      have e1 : wrap64 (qq + 1) = qq + 1 := by unfold wrap64; omega
      have e2 : wrap64 (qq + 1 + 1) = qq + 1 + 1 := by unfold wrap64; omega
      rw [show qq + 2 = qq + 1 + 1 by omega] at hr
      obtain ⟨ra, rm, rc, rfl⟩ : ∃ a m c, r = .slice a m c := by
        obtain ⟨z1, z2, ra, rc, he, z3⟩ := hr
        exact ⟨_, _, _, he⟩
      have hcal := Lib.hid (hmr.out _ rn (qq + 1 + 1) w (by omega) (by omega) hr)
      clear hr
      clear hls
      have d1 : decide (qq + 1 + 1 + 6 * (rn : Int) < 0) = false := decide_eq_false (by omega)
      go_wp2_with fail
      refine hcal.out.mono ?_
      rintro e w3 ⟨rfl, rfl⟩
      go_wp2_with fail
      go_round
      case rel => exact ⟨k + 1, qq + 1 + 1 + 6 * (rn : Int), by omega, by go_num, rfl, Lib.hid (by
        have h1 := HQ.out; have h3 := HRN.out; have h4 := Hn.out
        rw [totL_succ ls k (by omega), h3]; omega)⟩
      case measure => simp [intOf]; omega
    · obtain rfl : k = n := by omega
      have hq := HQ.out
      rw [Hn.out, List.take_length] at hq
      have HE := Lib.hid hq
      go_wp2_with fail
      go_ret
      exact ⟨by first | rfl | (rw [HE.out]; rfl) | rw [HE.out], rfl⟩

/-- a cascade's rows of its own, all apart -/
structure CD (W : World) (base top : Nat) (c : Cs) (rv lv : Value) (es : List LvC) : Prop where
  raw : ORow W base top 36 2 rv c.2.2.1.length (prs c.2.2.1)
  lvl : LD W base top lv c.2.2.2 es
  off : ∀ g, obk rv c.2.2.1.length = some g → ¬ LBk lv c.2.2.2 es g
def CBk (c : Cs) (rv lv : Value) (es : List LvC) (b : Nat) : Prop := obk rv c.2.2.1.length = some b ∨ LBk lv c.2.2.2 es b
theorem CD.lt {W : World} {base top : Nat} {c : Cs} {rv lv : Value} {es : List LvC} (h : CD W base top c rv lv es) {g : Nat} (hg : CBk c rv lv es g) : base ≤ g ∧ g < top ∧ g < W.heap.size := by
  rcases hg with hg | hg
  · exact h.raw.lt hg
  · exact h.lvl.lt hg
theorem CD.at_ {W W' : World} {base top : Nat} {c : Cs} {rv lv : Value} {es : List LvC} (h : CD W base top c rv lv es) (hb : ∀ g, CBk c rv lv es g → W'.heap[g]? = W.heap[g]?) : CD W' base top c rv lv es :=
  ⟨h.raw.at_ (fun g hg => hb g (.inl hg)), h.lvl.at_ (fun g hg => hb g (.inr hg)), h.off⟩
theorem CD.below {W W' : World} {base top : Nat} {c : Cs} {rv lv : Value} {es : List LvC} (h : CD W base top c rv lv es) (hb : Below W.heap.size W W') : CD W' base top c rv lv es :=
  h.at_ (fun g hg => hb.block g (h.lt hg).2.2)
theorem CD.chg {S : Nat → Prop} {W W' : World} {base top : Nat} {c : Cs} {rv lv : Value} {es : List LvC} (h : CD W base top c rv lv es) (hc : Chg S W W') (hs : ∀ g, CBk c rv lv es g → ¬ S g) : CD W' base top c rv lv es :=
  h.at_ (fun g hg => hc.block g (h.lt hg).2.2 (hs g hg))
theorem CD.lift {W : World} {base base' top top' : Nat} {c : Cs} {rv lv : Value} {es : List LvC} (h : CD W base top c rv lv es) (hb : base' ≤ base) (ht : top ≤ top') : CD W base' top' c rv lv es :=
  ⟨h.raw.lift hb ht, h.lvl.lift hb ht, h.off⟩
/-- the numbers of a cascade are in range, and its lists not too long -/
structure CR (c : Cs) : Prop where
  now : Rng c.1
  keep : Rng c.2.1
  raw : ∀ j, Rng (c.2.2.1.getD j (0, 0)).1 ∧ Rng (c.2.2.1.getD j (0, 0)).2
  rlen : c.2.2.1.length ≤ 1048576
  lv : ∀ j, Rng (c.2.2.2.getD j zLv).1 ∧ Rng (c.2.2.2.getD j zLv).2.1
  llen : c.2.2.2.length ≤ 1048576
  rolls : ∀ j, j < c.2.2.2.length → (∀ i, Rng6 ((c.2.2.2.getD j zLv).2.2.getD i z6)) ∧ (c.2.2.2.getD j zLv).2.2.length ≤ 1048576
theorem CV.cr {w : World} {B : Nat} {v : Value} {c : Cs} (h : CV w B v c) : CR c := by
  obtain ⟨rv, lv, rfl, hP, hL, h1, h2⟩ := h
  exact ⟨h1, h2, hP.1, hP.2.1, hL.1, hL.2.1, hL.rolls⟩
theorem CD.cv {W : World} {base top : Nat} {c : Cs} {rv lv : Value} {es : List LvC} (h : CD W base top c rv lv es) (hr : CR c) : CV W W.heap.size (.agg #[.int .i64 c.1, .int .i64 c.2.1, rv, lv]) c :=
  ⟨rv, lv, rfl, h.raw.pl hr.raw hr.rlen, h.lvl.ls hr.lv hr.llen hr.rolls, hr.now, hr.keep⟩
def mkC (K : Int) (c : Cs) : Cs := (c.1, c.2.1, marks2 K c.2.2.1.length, mkL (K + 2 * (c.2.2.1.length : Int)) c.2.2.2)
def totC (c : Cs) : Int := 2 * (c.2.2.1.length : Int) + totL c.2.2.2
def MarkPC (base top : Nat) (c : Cs) (rv lv : Value) (es : List LvC) (K : Int) (w : World) (e : Ending) (w' : World) : Prop :=
  e = .returned (.int .i64 (K + totC c)) ∧ (∃ es', CD w' base top (mkC K c) rv lv es') ∧ ∃ w1, Below w.heap.size w w1 ∧ Chg (CBk c rv lv es) w1 w'
theorem mkL_rng {ls : List Lv} {K : Int} (hK : 0 ≤ K) (hK2 : K + totL ls ≤ 100000000000000) (hr : ∀ j, j < ls.length → (ls.getD j zLv).2.2.length ≤ 1048576) : (∀ j, Rng ((mkL K ls).getD j zLv).1 ∧ Rng ((mkL K ls).getD j zLv).2.1) ∧ ∀ j, j < (mkL K ls).length → (∀ i, Rng6 (((mkL K ls).getD j zLv).2.2.getD i z6)) ∧ ((mkL K ls).getD j zLv).2.2.length ≤ 1048576 := by
  have hb : ∀ j, j < ls.length → 0 ≤ totL (ls.take j) ∧ K + totL (ls.take j) + 2 ≤ 100000000000000 := fun j hj => by
    have h2 := totL_nonneg (ls.take j)
    have h4 := totL_take_le ls (j + 1); rw [totL_succ ls j hj] at h4
    omega
  refine ⟨fun j => ?_, fun j hj => ?_⟩
  · by_cases hj : j < ls.length
    · rw [mkL_getD ls K j hj]
      have := hb j hj
      exact ⟨⟨by simp only []; omega, by simp only []; omega⟩, ⟨by simp only []; omega, by simp only []; omega⟩⟩
    · rw [List.getD_eq_getElem?_getD, List.getElem?_eq_none (by rw [mkL_length]; omega)]; exact ⟨rng_zero, rng_zero⟩
  · rw [mkL_length] at hj
    rw [mkL_getD ls K j hj]
    have := hb j hj
    exact ⟨fun i => marks6_rng _ _ (by omega) (by omega) (hr j hj) i, by rw [marks6_length]; exact hr j hj⟩
theorem mkC_cr {c : Cs} {K : Int} (h : CR c) (hK : 0 ≤ K) (hK2 : K + totC c ≤ 100000000000000) : CR (mkC K c) := by
  have h0 := totL_nonneg c.2.2.2
  unfold totC at hK2
  have hm := mkL_rng (ls := c.2.2.2) (K := K + 2 * (c.2.2.1.length : Int)) (by omega) (by omega) (fun j hj => (h.rolls j hj).2)
  exact ⟨h.now, h.keep, fun j => marks2_rng _ _ hK (by omega) h.rlen j, by show (marks2 K c.2.2.1.length).length ≤ _; rw [marks2_length]; exact h.rlen, hm.1, by show (mkL _ c.2.2.2).length ≤ _; rw [mkL_length]; exact h.llen, hm.2⟩
end Go.Proofs.Ytkekpkfhljankaa

/- Walks: cascades: a cascade marked, and the marks read. -/
set_option linter.unusedVariables false
set_option linter.unusedSimpArgs false
namespace Go.Proofs.Ytkekpkfhljankaa
open Go.RowKit

set_option maxRecDepth 100000 in
set_option maxHeartbeats 4000000 in
theorem markCascade_any (base top : Nat) (c : Cs) (rv lv : Value) (es : List LvC) (K : Int) (w : World) (hK : 0 ≤ K) (hK2 : K + totC c ≤ 100000000000000) (hr : CR c) (h : CD w base top c rv lv es) :
    Calls Try.prog 21 #[.agg #[.int .i64 c.1, .int .i64 c.2.1, rv, lv], .int .i64 K] w (MarkPC base top c rv lv es K w) := by
  obtain ⟨nw, kp, rp, ls⟩ := c
  have HR := Lib.hid hr
  have HK := Lib.hid (show K + (2 * (rp.length : Int) + totL ls) ≤ 100000000000000 from hK2)
  have hrl : rp.length ≤ 1048576 := hr.rlen
  have htn := totL_nonneg ls
  have hkr : K + 2 * (rp.length : Int) ≤ 100000000000000 := by have := HK.out; omega
  clear hr hK2 htn
  obtain ⟨Ap, cp, rfl⟩ := h.raw.shape
  obtain ⟨Al, cl, rfl⟩ := h.lvl.row.shape
  simp only at h ⊢
  have hmp := Lib.hid (fun v K xs w hK hK2 hl h => markPointO_any base top v K xs w hK hK2 hl h)
  have hml := Lib.hid (fun v K ls es w hK hK2 hl hrl h => markLevelS_any base top v K ls es w hK hK2 hl hrl h)
  obtain ⟨wb, hwb⟩ : ∃ wb, w.alloc (.cells #[.int .i64 nw, .int .i64 kp, .slice Ap rp.length cp, .slice Al ls.length cl] 32) = wb := ⟨_, rfl⟩
  have BX : BoxN wb w.heap.size #[.int .i64 nw, .int .i64 kp, .slice Ap rp.length cp, .slice Al ls.length cl] 32 := by rw [← hwb]; exact World.alloc_heap_new w _
  have HB := Lib.hid (show Below w.heap.size w wb from by rw [← hwb]; exact (Below.refl _ _).alloc (Nat.le_refl _) _)
  have HW := Lib.hid hwb
  have HD := Lib.hid (h.below HB.out)
  have hltA : ∀ g, CBk (nw, kp, rp, ls) (.slice Ap rp.length cp) (.slice Al ls.length cl) es g → g < w.heap.size := fun g hg => (h.lt hg).2.2
  have HA := Lib.hid hltA
  clear hwb h hltA
  have Q := Lib.hid BX
  have x2 := BX.cell (i := 2) rfl
  clear BX
  have hcal := Lib.hid (hmp.out _ K rp wb hK (by omega) hrl HD.out.raw)
  go_enter Try.func21, Try.ntmps21
  go_wp2_with fail
  rw [HW.out]
  go_wp2_with fail
  refine hcal.out.mono ?_
  rintro e w1 ⟨rfl, hrow1, hc1⟩
  have Q1 : BoxN w1 w.heap.size #[.int .i64 nw, .int .i64 kp, .slice Ap rp.length cp, .slice Al ls.length cl] 32 :=
    (hc1.block _ Q.out.lt (fun hS => by have := HA.out _ (.inl hS); omega)).trans Q.out
  have x3 := Q1.cell (i := 3) rfl
  have HR1 := Lib.hid hrow1
  have HC1 := Lib.hid hc1
  have hl1 := HD.out.lvl.chg hc1 (fun g hg hS => HD.out.off g hS hg)
  have hcal2 := Lib.hid (hml.out _ (K + 2 * (rp.length : Int)) ls es w1 (by omega) (by have := HK.out; omega) HR.out.llen (fun j hj => (HR.out.rolls j hj).2) hl1)
  clear hrow1 hc1 hl1 Q1 x2
  go_wp2_with fail
  refine hcal2.out.mono ?_
  rintro e w2 ⟨rfl, ⟨es', hl2, hse⟩, hc2⟩
  have HL2 := Lib.hid hl2
  have HS2 := Lib.hid hse
  have HC2 := Lib.hid hc2
  clear hl2 hse hc2 x3
  go_wp2_with fail
  go_ret
  have e1 : K + 2 * (rp.length : Int) + totL ls = K + (2 * (rp.length : Int) + totL ls) := by omega
  refine ⟨by rw [e1]; rfl, ⟨es', ⟨?_, HL2.out, ?_⟩⟩, wb, HB.out, (HC1.out.mono (fun k hk => .inl hk)).trans (HC2.out.mono (fun k hk => .inr hk))⟩
  · have hr1 := HR1.out
    show ORow w2 base top _ 2 _ (marks2 K rp.length).length (prs (marks2 K rp.length))
    rw [marks2_length]
    refine hr1.at_ (fun g hg => HC2.out.block g (hr1.lt hg).2.2 (fun hS => HD.out.off g hg hS))
  · intro g hg hS
    have hg' : obk (.slice Ap rp.length cp) rp.length = some g := by
      have : obk (.slice Ap rp.length cp) (marks2 K rp.length).length = some g := hg
      rwa [marks2_length] at this
    refine HD.out.off g hg' (hS.same (mkL_length _ _) (fun j hj => ⟨?_, HS2.out j hj⟩))
    rw [mkL_getD _ _ _ hj]; exact marks6_length _ _

set_option maxRecDepth 100000 in
set_option maxHeartbeats 4000000 in
theorem heldCascade_any (v : Value) (c : Cs) (K : Int) (w : World) (hK : 0 ≤ K) (hK2 : K + totC c ≤ 100000000000000) (h : CV w w.heap.size v (mkC K c)) :
    Calls Try.prog 22 #[v, .int .i64 K] w fun e w' => e = .returned (.int .i64 (K + totC c)) ∧ Below w.heap.size w w' := by
  obtain ⟨nw, kp, rp, ls⟩ := c
  have HK := Lib.hid (show K + (2 * (rp.length : Int) + totL ls) ≤ 100000000000000 from hK2)
  have htn := totL_nonneg ls
  have HT := Lib.hid htn
  have hkr : K + 2 * (rp.length : Int) ≤ 100000000000000 := by have := HK.out; omega
  clear hK2 htn
  obtain ⟨rv, lv, rfl, hP, hL, z7, z8⟩ := h
  clear z7 z8
  have hP' : PL w w.heap.size rv (marks2 K rp.length) := hP
  have hL' : LS w w.heap.size lv (mkL (K + 2 * (rp.length : Int)) ls) := hL
  clear hP hL
  obtain ⟨np, hnp⟩ : ∃ n, rp.length = n := ⟨_, rfl⟩
  have HNP := Lib.hid hnp
  rw [hnp] at hP' hL' hkr
  have HP := Lib.hid hP'
  have HL := Lib.hid hL'
  obtain ⟨z1, z2, Ap, cp, rfl, z3⟩ := hP'
  obtain ⟨z4, z5, Al, cl, rfl, z6⟩ := hL'
  clear z1 z2 z3 z4 z5 z6
  rw [marks2_length] at HP ⊢
  rw [mkL_length] at HL ⊢
  show Calls _ _ #[.agg #[.int .i64 nw, .int .i64 kp, .slice Ap np cp, .slice Al ls.length cl], .int .i64 K] w _
  clear hnp
  obtain ⟨wb, hwb⟩ : ∃ wb, w.alloc (.cells #[.int .i64 nw, .int .i64 kp, .slice Ap np cp, .slice Al ls.length cl] 32) = wb := ⟨_, rfl⟩
  have BX : BoxN wb w.heap.size #[.int .i64 nw, .int .i64 kp, .slice Ap np cp, .slice Al ls.length cl] 32 := by rw [← hwb]; exact World.alloc_heap_new w _
  have HB := Lib.hid (show Below w.heap.size w wb from by rw [← hwb]; exact (Below.refl _ _).alloc (Nat.le_refl _) _)
  have HW := Lib.hid hwb
  have x2 := BX.cell (i := 2) rfl
  have x3 := BX.cell (i := 3) rfl
  clear hwb BX
  have hcal := Lib.hid (heldPointS_any _ np K wb hK (by omega) ((HP.out.below HB.out).up HB.out.size))
  have hcal2 := Lib.hid (heldLevelS_any _ ls (K + 2 * (np : Int)) wb (by omega) (by have := HK.out; have := HNP.out; omega) ((HL.out.below HB.out).up HB.out.size))
  have d1 : decide (K + 2 * (np : Int) < 0) = false := decide_eq_false (by omega)
  have d2 : decide (K + 2 * (np : Int) + totL ls < 0) = false := decide_eq_false (by have := HT.out; omega)
  go_enter Try.func22, Try.ntmps22
  go_wp2_with fail
  rw [HW.out]
  go_wp2_with fail
  refine hcal.out.mono ?_
  rintro e w1 ⟨rfl, rfl⟩
  go_wp2_with fail
  refine hcal2.out.mono ?_
  rintro e w2 ⟨rfl, rfl⟩
  go_wp2_with fail
  go_ret
  have e1 : K + 2 * (np : Int) + totL ls = K + (2 * (rp.length : Int) + totL ls) := by have := HNP.out; omega
  exact ⟨by rw [e1]; rfl, HB.out⟩
end Go.Proofs.Ytkekpkfhljankaa
