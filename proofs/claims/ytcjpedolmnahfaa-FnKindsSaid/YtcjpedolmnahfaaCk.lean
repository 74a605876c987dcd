/- Walks: drawn cascades. -/
import Derived.Test.YtcjpedolmnahfaaCi
import Derived.Deep.RegionHeld3
import Derived.Test.YtcjpedolmnahfaaXb
set_option linter.unusedVariables false
set_option linter.unusedSimpArgs false
namespace Go.Proofs.Ytcjpedolmnahfaa
open Go.RowKit

theorem obk_some_cj {gl n cap : Nat} (h : 0 < n) : obk (.slice (some ⟨gl, 0, none⟩) n cap) n = some gl := obk_pos h
theorem es_setW (es : List LvC) (d : Int) (h : 0 < es.length) : (lvs es).set 0 (.int .i64 d) = lvs (es.set 0 (d, (es.getD 0 zLc).2)) := by
  cases es with
  | nil => simp at h
  | cons e es => rfl
theorem es_getW (es : List LvC) (d : Int) (j : Nat) : (es.set 0 (d, (es.getD 0 zLc).2)).getD j zLc = if j = 0 ∧ 0 < es.length then (d, (es.getD 0 zLc).2) else es.getD j zLc := by
  cases es with
  | nil => simp
  | cons e es =>
    cases j with
    | zero => rfl
    | succ j => rfl
theorem ls_getW (ls : List Lv) (d : Int) (j : Nat) : (ls.set 0 (d, (ls.getD 0 zLv).2)).getD j zLv = if j = 0 ∧ 0 < ls.length then (d, (ls.getD 0 zLv).2) else ls.getD j zLv := by
  cases ls with
  | nil => simp
  | cons e es =>
    cases j with
    | zero => rfl
    | succ j => rfl
theorem es_getW2 (es : List LvC) (d : Int) (j : Nat) : ((es.set 0 (d, (es.getD 0 zLc).2)).getD j zLc).2 = (es.getD j zLc).2 := by
  rw [es_getW]; split
  · rename_i h; rw [h.1]
  · rfl
theorem ls_getW2 (ls : List Lv) (d : Int) (j : Nat) : ((ls.set 0 (d, (ls.getD 0 zLv).2)).getD j zLv).2 = (ls.getD j zLv).2 := by
  rw [ls_getW]; split
  · rename_i h; rw [h.1]
  · rfl
theorem CD.setW {W : World} {base top gl cap : Nat} {a kp d : Int} {rp : List (Int × Int)} {ls : List Lv} {rv : Value} {es : List LvC} (h : CD W base top (a, kp, rp, ls) rv (.slice (some ⟨gl, 0, none⟩) ls.length cap) es) (h0 : 0 < ls.length) :
    CD (W.setCell ⟨gl, 0, none⟩ (.int .i64 d)) base top (a, kp, rp, ls.set 0 (d, (ls.getD 0 zLv).2)) rv (.slice (some ⟨gl, 0, none⟩) ls.length cap) (es.set 0 (d, (es.getD 0 zLc).2)) := by
  have hgl : LBk (.slice (some ⟨gl, 0, none⟩) ls.length cap) ls es gl := .inl (obk_some_cj h0)
  have hel : es.length = ls.length := h.lvl.len
  have hother : ∀ k, ¬ k = gl → (W.setCell ⟨gl, 0, none⟩ (.int .i64 d)).heap[k]? = W.heap[k]? := fun k hk => Below.heap_setCell _ _ _ k hk
  have hrol : ∀ j, j < ls.length → ∀ g, obk (es.getD j zLc).2.2 (ls.getD j zLv).2.2.length = some g → ¬ g = gl := fun j hj g hg e => h.lvl.apart j g hj hg (by subst e; rfl)
  have hset : (ls.set 0 (d, (ls.getD 0 zLv).2)).length = ls.length := List.length_set
  refine ⟨h.raw.at_ (fun g hg => hother g (fun e => h.off g hg (by rw [e]; exact hgl))), ⟨by rw [List.length_set, List.length_set]; exact hel, ?_, fun j hj0 => ?_, fun j g hj0 hg => ?_, fun i j g hij hj0 hi hj => ?_⟩, fun g hg hl => ?_⟩
  · show ORow _ base top 51 3 _ (ls.set 0 _).length _
    rw [hset, ← es_setW es d (by omega)]
    rcases h.lvl.row with ⟨ho, hlt⟩ | ⟨he, _⟩
    · exact .inl ⟨(ho.stored 0 (.int .i64 d)).1, hlt⟩
    · have he : ls.length = 0 := he
      omega
  · have hj : j < ls.length := by have : j < (ls.set 0 (d, (ls.getD 0 zLv).2)).length := hj0; rwa [hset] at this
    have h1 := h.lvl.lv j hj
    show _ = ((ls.set 0 _).getD j zLv).1 ∧ _ = ((ls.set 0 _).getD j zLv).2.1 ∧ ORow _ base top _ 6 _ ((ls.set 0 _).getD j zLv).2.2.length (rls ((ls.set 0 _).getD j zLv).2.2)
    rw [es_getW2, ls_getW2]
    refine ⟨?_, h1.2.1, h1.2.2.at_ (fun g hg => hother g (hrol j hj g hg))⟩
    rw [es_getW, ls_getW]
    by_cases e : j = 0
    · rw [if_pos ⟨e, by omega⟩, if_pos ⟨e, h0⟩]
    · rw [if_neg (fun h => e h.1), if_neg (fun h => e h.1)]; exact h1.1
  · have hj : j < ls.length := by have : j < (ls.set 0 (d, (ls.getD 0 zLv).2)).length := hj0; rwa [hset] at this
    have hg : obk ((es.set 0 (d, (es.getD 0 zLc).2)).getD j zLc).2.2 ((ls.set 0 (d, (ls.getD 0 zLv).2)).getD j zLv).2.2.length = some g := hg
    rw [es_getW2, ls_getW2] at hg
    exact h.lvl.apart j g hj hg
  · have hj' : j < ls.length := by have : j < (ls.set 0 (d, (ls.getD 0 zLv).2)).length := hj0; rwa [hset] at this
    have hi : obk ((es.set 0 (d, (es.getD 0 zLc).2)).getD i zLc).2.2 ((ls.set 0 (d, (ls.getD 0 zLv).2)).getD i zLv).2.2.length = some g := hi
    have hj : obk ((es.set 0 (d, (es.getD 0 zLc).2)).getD j zLc).2.2 ((ls.set 0 (d, (ls.getD 0 zLv).2)).getD j zLv).2.2.length = some g := hj
    rw [es_getW2, ls_getW2] at hi hj
    exact h.lvl.dist i j g hij hj' hi hj
  · rcases hl with hl | ⟨j, hj0, hl⟩
    · have hl : obk (.slice (some ⟨gl, 0, none⟩) ls.length cap) (ls.set 0 (d, (ls.getD 0 zLv).2)).length = some g := hl
      rw [hset] at hl
      exact h.off g hg (.inl hl)
    · have hj : j < ls.length := by have : j < (ls.set 0 (d, (ls.getD 0 zLv).2)).length := hj0; rwa [hset] at this
      have hl : obk ((es.set 0 (d, (es.getD 0 zLc).2)).getD j zLc).2.2 ((ls.set 0 (d, (ls.getD 0 zLv).2)).getD j zLv).2.2.length = some g := hl
      rw [es_getW2, ls_getW2] at hl
      exact h.off g hg (.inr ⟨j, hj, hl⟩)
theorem CR.setW {a kp d : Int} {rp : List (Int × Int)} {ls : List Lv} (h : CR (a, kp, rp, ls)) (hd : Rng d) : CR (a, kp, rp, ls.set 0 (d, (ls.getD 0 zLv).2)) := by
  refine ⟨h.now, h.keep, h.raw, h.rlen, fun j => ?_, by show (ls.set 0 _).length ≤ _; rw [List.length_set]; exact h.llen, fun j hj => ?_⟩
  · show Rng ((ls.set 0 (d, (ls.getD 0 zLv).2)).getD j zLv).1 ∧ Rng ((ls.set 0 (d, (ls.getD 0 zLv).2)).getD j zLv).2.1
    rw [ls_getW2]
    refine ⟨?_, (h.lv j).2⟩
    rw [ls_getW]
    split
    · exact hd
    · exact (h.lv j).1
  · have hj : j < (ls.set 0 (d, (ls.getD 0 zLv).2)).length := hj
    rw [List.length_set] at hj
    show (∀ i, Rng6 (((ls.set 0 (d, (ls.getD 0 zLv).2)).getD j zLv).2.2.getD i z6)) ∧ _
    rw [ls_getW2]
    exact h.rolls j hj
theorem prng_of_ch {xs : List (Int × Int)} (h : ∀ p ∈ xs, Rng p.1 ∧ Rng p.2) (j : Nat) : Rng (xs.getD j (0, 0)).1 ∧ Rng (xs.getD j (0, 0)).2 := by
  rw [List.getD_eq_getElem?_getD]
  by_cases hj : j < xs.length
  · rw [List.getElem?_eq_getElem hj]; exact h _ (List.getElem_mem hj)
  · rw [List.getElem?_eq_none (by omega)]; exact ⟨rng_zero, rng_zero⟩
theorem box_set4o {W : World} {b ob : Nat} {cs : Array Value} {T : TypeId} {a0 a1 a2 a3 : Value} (h : BoxN W b cs T) (hne : ¬ b = ob) : BoxN ((((W.setCell ⟨ob, 0, none⟩ a0).setCell ⟨ob, 1, none⟩ a1).setCell ⟨ob, 2, none⟩ a2).setCell ⟨ob, 3, none⟩ a3) b cs T :=
  (Below.heap_setCell _ _ _ _ hne).trans ((Below.heap_setCell _ _ _ _ hne).trans ((Below.heap_setCell _ _ _ _ hne).trans ((Below.heap_setCell _ _ _ _ hne).trans h)))
theorem CD.setNow_cj {W : World} {base top : Nat} {a b kp : Int} {rp : List (Int × Int)} {ls : List Lv} {rv lv : Value} {es : List LvC} (h : CD W base top (a, kp, rp, ls) rv lv es) : CD W base top (b, kp, rp, ls) rv lv es := ⟨h.raw, h.lvl, h.off⟩
theorem CR.setNow_cj {a b kp : Int} {rp : List (Int × Int)} {ls : List Lv} (h : CR (a, kp, rp, ls)) (hb : Rng b) : CR (b, kp, rp, ls) := ⟨hb, h.keep, h.raw, h.rlen, h.lv, h.llen, h.rolls⟩

set_option maxRecDepth 100000 in
set_option maxHeartbeats 8000000 in
theorem cascade_any (B g : Nat) (w : World) (h : Rd w B g) :
    Calls Try.prog 54 #[.pointer (some ⟨g, 0, none⟩)] w (CascPost B g w) := by
  have hgl := h.lt
  have hEm := Lib.hid (fun W h => empty_any B g W h)
  have hLt := Lib.hid (fun W h => later_any 0 25 (by omega) (by omega) B g W h ⟨by omega, by omega⟩)
  have hIA := Lib.hid (fun u pv c ps W h h' => specIngestAll_any u pv c ps W h h')
  obtain ⟨w0, hw0⟩ : ∃ w0, w.alloc (.cells #[.int .i64 0, .int .i64 0, .slice none 0 0, .slice none 0 0] 30) = w0 := ⟨_, rfl⟩
  have G0 := Lib.hid (show DRW w B g w0 from by rw [← hw0]; exact ⟨h.alloc _, World.grownBy_alloc w _ _⟩)
  have R0 : Hid (BoxN w0 w.heap.size #[.int .i64 0, .int .i64 0, .slice none 0 0, .slice none 0 0] 30) := Lib.hid (by rw [← hw0]; exact World.alloc_heap_new w _)
  have HW0 := Lib.hid hw0
  clear h hw0
  go_enter Try.func54, Try.ntmps54
  go_wp2_with fail
  rw [HW0.out]
  refine (hEm.out _ G0.out.1).mono ?_
  rintro e w1 ⟨rv1, lv1, es1, c, rfl, hd1, hcr, hg1⟩
  have hlt1 := R0.out.lt
  have R1 : Hid (BoxN w1 w.heap.size #[.int .i64 0, .int .i64 0, .slice none 0 0, .slice none 0 0] 30) := Lib.hid (R0.out.kept hg1.2 (by intro e; injection e with e; omega))
  have G1 := Lib.hid (G0.out.read hg1.1 hg1.2)
  have CR1 := Lib.hid hcr
  obtain ⟨n1, hn1⟩ : ∃ n1, c.2.2.1.length = n1 := ⟨_, rfl⟩
  obtain ⟨m1, hm1⟩ : ∃ m1, c.2.2.2.length = m1 := ⟨_, rfl⟩
  obtain ⟨ra, rc, rfl⟩ : ∃ a c', rv1 = .slice a n1 c' := by rw [← hn1]; exact hd1.raw.shape
  obtain ⟨la, lc, rfl⟩ : ∃ a c', lv1 = .slice a m1 c' := by rw [← hm1]; exact hd1.lvl.row.shape
  obtain ⟨w2, hw2⟩ : ∃ w2, w1.alloc (.cells #[.int .i64 c.1, .int .i64 c.2.1, .slice ra n1 rc, .slice la m1 lc] 30) = w2 := ⟨_, rfl⟩
  obtain ⟨ob, hob⟩ : ∃ ob, w1.heap.size = ob := ⟨_, rfl⟩
  have hb2 : Below w1.heap.size w1 w2 := by rw [← hw2]; exact (Below.refl _ _).alloc (Nat.le_refl _) _
  have X2 : Hid (BoxN w2 ob #[.int .i64 c.1, .int .i64 c.2.1, .slice ra n1 rc, .slice la m1 lc] 30) := Lib.hid (by rw [← hob, ← hw2]; exact World.alloc_heap_new w1 _)
  have D2 := Lib.hid (hd1.below hb2)
  have G2 := Lib.hid (G1.out.below hb2)
  have R2 : Hid (BoxN w2 w.heap.size #[.int .i64 0, .int .i64 0, .slice none 0 0, .slice none 0 0] 30) := Lib.hid (R1.out.below hb2)
  have Sz1 := hg1.2.size
  have Sz2 := hb2.size
  have HW2 := Lib.hid hw2
  have HOB := Lib.hid hob
  have hobw : w0.heap.size ≤ ob := by omega
  clear hn1 hm1 hw2 hob hd1 hg1 hcr hb2 G1 R1
  go_upto_region 2 with fail
  rw [HW2.out, HOB.out]
  clear HW2
  have hobw2 : w.heap.size < ob := by omega
  have hrd : Rd w2.drew B g := G2.out.1.drew
  have HRD := Lib.hid hrd
  have y0 := X2.out.cell (i := 0) rfl
  have y1 := X2.out.cell (i := 1) rfl
  have y2 := X2.out.cell (i := 2) rfl
  have y3 := X2.out.cell (i := 3) rfl
  clear hrd
  go_cut [3] (fun s1 wx => ∃ (c' : Cs) (ra' : Option Addr) (n' rc' : Nat) (la' : Option Addr) (m' lc' : Nat) (es' : List LvC) (lo hi : Nat), s1 = .pointer (some ⟨ob, 0, none⟩) ∧ BoxN wx ob #[.int .i64 c'.1, .int .i64 c'.2.1, .slice ra' n' rc', .slice la' m' lc'] 30 ∧ CD wx lo hi c' (.slice ra' n' rc') (.slice la' m' lc') es' ∧ CR c' ∧ DRW w B g wx ∧ BoxN wx w.heap.size #[.int .i64 0, .int .i64 0, .slice none 0 0, .slice none 0 0] 30 ∧ ob < lo ∧ hi ≤ wx.heap.size)
  case first =>
    go_region_law (first
      | (go_simp; go_at_call 55; refine (hLt.out _ HRD.out).mono ?_; rintro e w3 ⟨pv, xs, rfl, hT, hl, hr⟩; have gr3 : w2.grownBy w3 (some g) := grown_trans' (grew_drewN w2 1 _) hT.gr; have G3 := Lib.hid (G2.out.read hT.rd gr3); have X3 : Hid (BoxN w3 ob #[.int .i64 c.1, .int .i64 c.2.1, .slice ra n1 rc, .slice la m1 lc] 30) := Lib.hid (X2.out.kept gr3 (by intro e; injection e with e; omega)); have R3 : Hid (BoxN w3 w.heap.size #[.int .i64 0, .int .i64 0, .slice none 0 0, .slice none 0 0] 30) := Lib.hid (R2.out.kept gr3 (by intro e; injection e with e; omega)); have C3 := Lib.hid ((CD.read (w := w) D2.out gr3 (by omega)).cv CR1.out); have P3 := Lib.hid (PL.of_own hT.own rfl (prng_of_ch hr) (by omega)); have Sz3 := gr3.size; have z0 := X3.out.cell (i := 0) rfl; have z1 := X3.out.cell (i := 1) rfl; have z2 := X3.out.cell (i := 2) rfl; have z3 := X3.out.cell (i := 3) rfl; clear hT hr gr3)
      | (go_simp; go_at_call 33; refine (hIA.out _ _ c xs _ (by first | with_reducible exact C3.out | exact C3.out) (by first | with_reducible exact P3.out | exact P3.out)).mono ?_; rintro e w4 ⟨rv4, lv4, es4, rfl, hd4, hb4⟩; obtain ⟨n4, hn4⟩ : ∃ n4, (allM c xs).2.2.1.length = n4 := ⟨_, rfl⟩; obtain ⟨m4, hm4⟩ : ∃ m4, (allM c xs).2.2.2.length = m4 := ⟨_, rfl⟩; obtain ⟨ra4, rc4, hra⟩ : ∃ a c', rv4 = .slice a n4 c' := (by rw [← hn4]; exact hd4.raw.shape); obtain ⟨la4, lc4, hla⟩ : ∃ a c', lv4 = .slice a m4 c' := (by rw [← hm4]; exact hd4.lvl.row.shape); subst hra hla; have hb4' : Below w3.heap.size w3 w4 := hb4; have X4 : Hid (BoxN w4 ob #[.int .i64 c.1, .int .i64 c.2.1, .slice ra n1 rc, .slice la m1 lc] 30) := Lib.hid (X3.out.below hb4'); have G4 := Lib.hid (G3.out.below hb4'); have R4 : Hid (BoxN w4 w.heap.size #[.int .i64 0, .int .i64 0, .slice none 0 0, .slice none 0 0] 30) := Lib.hid (R3.out.below hb4'); have D4 := Lib.hid hd4; have Sz4 := hb4'.size; have hob3 := X3.out.lt; have u0 := X4.out.cell (i := 0) rfl; have u1 := X4.out.cell (i := 1) rfl; have u2 := X4.out.cell (i := 2) rfl; have u3 := X4.out.cell (i := 3) rfl; have f0 := X4.out.frozen (i := 0); have f1 := X4.out.frozen (i := 1); have f2 := X4.out.frozen (i := 2); have f3 := X4.out.frozen (i := 3); clear hn4 hm4 hd4 hb4 hb4'))
    all_goals
      go_simp
      go_wp2_with fail
      go_meet
      case rel => exact ⟨allM c xs, ra4, n4, rc4, la4, m4, lc4, es4, _, _, rfl, BoxN.set4 X4.out _ _ _ _, CD.set4n D4.out (.inl (by first | omega | exact hob3)) _ _ _ _, (allM_cr c xs).1, DRW.set4 G4.out hgl (by omega) _ _ _ _, (box_set4o R4.out (by omega)), by first | omega | exact hob3, by simp [World.setCell]⟩
  case rest =>
    obtain ⟨c', ra', n', rc', la', m', lc', es', lo, hi, rfl, hbx, hcd, hcr, hdr, hr0, hol, hhi⟩ := hcut
    obtain ⟨w5, hw5⟩ : ∃ w5, wc = w5 := ⟨_, rfl⟩
    rw [hw5] at hbx hcd hdr hr0 hhi ⊢
    clear hw5 y0 y1 y2 y3
    have X5 := Lib.hid hbx
    have D5 := Lib.hid hcd
    have CR5 := Lib.hid hcr
    have G5 := Lib.hid hdr
    have R5 := Lib.hid hr0
    clear hbx hcd hcr hdr hr0 X2 D2 G2 R2 CR1
    go_wp2_with fail
    refine (below_any B g 30 _ G5.out.1 (by omega) (by omega)).mono ?_
    rintro e w6 ⟨_, rfl, ⟨z, rfl, hz0, hz1⟩, hrd6, hgr6⟩
    have G6 := Lib.hid (G5.out.read hrd6 hgr6)
    have R6 : Hid (BoxN w6 w.heap.size #[.int .i64 0, .int .i64 0, .slice none 0 0, .slice none 0 0] 30) := Lib.hid (R5.out.kept hgr6 (by intro e; injection e with e; omega))
    have X6 : Hid (BoxN w6 ob #[.int .i64 c'.1, .int .i64 c'.2.1, .slice ra' n' rc', .slice la' m' lc'] 30) := Lib.hid (X5.out.kept hgr6 (by intro e; injection e with e; omega))
    have D6 := Lib.hid (CD.read (w := w) D5.out hgr6 (by omega))
    have Sz6 := hgr6.size
    have hhi6 : hi ≤ w6.heap.size := by omega
    clear hrd6 hgr6 G5 R5 X5 D5
    have hne1 : ¬ ob = w.heap.size := by omega
    have hne2 : ¬ w.heap.size = ob := by omega

    by_cases e28 : z = 28
    · have hz28 : (z == 28) = true := by rw [e28]; rfl
      have hd28 : decide (z = 28) = true := decide_eq_true e28
      clear e28
      go_wp2_with fail
      refine (off_any B g 0 100 _ G6.out.1 (by omega) (by omega) (by omega) (by omega)).mono ?_
      rintro e w7 ⟨_, rfl, ⟨d, rfl, hd0, hd1⟩, hrd7, hgr7⟩
      have G7 := Lib.hid (G6.out.read hrd7 hgr7)
      have R7 : Hid (BoxN w7 w.heap.size #[.int .i64 0, .int .i64 0, .slice none 0 0, .slice none 0 0] 30) := Lib.hid (R6.out.kept hgr7 (by intro e; injection e with e; omega))
      have X7 : BoxN w7 ob #[.int .i64 c'.1, .int .i64 c'.2.1, .slice ra' n' rc', .slice la' m' lc'] 30 := X6.out.kept hgr7 (by intro e; injection e with e; omega)
      have D7 := Lib.hid (CD.read (w := w) D6.out hgr7 (by omega))
      have Sz7 := hgr7.size
      have x0 := X7.cell (i := 0) rfl
      have g0 := X7.frozen (i := 0)
      obtain ⟨w8, hw8⟩ : ∃ w8, w7.setCell ⟨ob, 0, none⟩ (.int .i64 d) = w8 := ⟨_, rfl⟩
      obtain ⟨a', kp', rp', ls'⟩ := c'
      have X8 : Hid (BoxN w8 ob #[.int .i64 d, .int .i64 kp', .slice ra' n' rc', .slice la' m' lc'] 30) := Lib.hid (by rw [← hw8]; exact heap_setCell_same w7 ob 0 _ _ (.int .i64 d) X7)
      have G8 := Lib.hid (show DRW w B g w8 from by rw [← hw8]; exact G7.out.set hgl (by omega) 0 _)
      have R8 : Hid (BoxN w8 w.heap.size #[.int .i64 0, .int .i64 0, .slice none 0 0, .slice none 0 0] 30) := Lib.hid (by rw [← hw8]; exact (Below.heap_setCell _ _ _ _ (by simp; omega)).trans R7.out)
      have D8 := Lib.hid (show CD w8 lo hi (d, kp', rp', ls') (.slice ra' n' rc') (.slice la' m' lc') es' from by rw [← hw8]; exact (D7.out.setNow_cj (b := d)).at_ (fun k hk => Below.heap_setCell _ _ _ _ (by have := (D7.out.lt hk).1; simp; omega)))
      have CR8 := Lib.hid (CR5.out.setNow_cj (b := d) ⟨hd0, hd1⟩)
      have Sz8 : w8.heap.size = w7.heap.size := by rw [← hw8]; simp [World.setCell]
      have HW8 := Lib.hid hw8
      have hsz8 : hi ≤ w8.heap.size := by omega
      have HS8 := Lib.hid Sz8
      clear hw8 X7 G7 R7 D7 hrd7 hgr7 G6 R6 X6 D6 Sz8
      go_upto_region 9 with fail
      rw [HW8.out]
      clear HW8 x0 g0
      have y0 := X8.out.cell (i := 0) rfl
      have y1 := X8.out.cell (i := 1) rfl
      have y2 := X8.out.cell (i := 2) rfl
      have y3 := X8.out.cell (i := 3) rfl
      have r0 := R8.out.cell (i := 0) rfl
      have r1 := R8.out.cell (i := 1) rfl
      have r2 := R8.out.cell (i := 2) rfl
      have r3 := R8.out.cell (i := 3) rfl
      have f0 := R8.out.frozen (i := 0)
      have f1 := R8.out.frozen (i := 1)
      have f2 := R8.out.frozen (i := 2)
      have f3 := R8.out.frozen (i := 3)
      go_wp2_with fail
      refine bodyPost_ret (v := .agg #[.int .i64 d, .int .i64 kp', .slice ra' n' rc', .slice la' m' lc']) (by simp [results, Try.results54, go_sem, r0, r1, r2, r3]) rfl ⟨.slice ra' n' rc', .slice la' m' lc', es', (d, kp', rp', ls'), rfl, (CD.set4n D8.out (.inl (by omega)) _ _ _ _).lift (by omega) (by simp [World.setCell]; omega), CR8.out, DRW.set4 G8.out hgl (Nat.le_refl _) _ _ _ _⟩
    · have hz28 : (z == 28) = false := by simpa using e28
      have hd28 : decide (z = 28) = false := decide_eq_false e28
      by_cases e29 : z = 29
      · have hz29 : (z == 29) = true := by rw [e29]; rfl
        have hd29 : decide (z = 29) = true := decide_eq_true e29
        clear e28 e29
        have x3 := X6.out.cell (i := 3) rfl
        by_cases hm : 0 < m'
        · have hmI : (0 : Int) < (m' : Int) := by omega
          obtain ⟨gl, rfl, hmm⟩ : ∃ gl, la' = some ⟨gl, 0, none⟩ ∧ m' = c'.2.2.2.length := by
            rcases D6.out.lvl.row with ⟨ho, _⟩ | ⟨he, _, A, cc, hv⟩
            · rcases ho.2 with ⟨hv, h1⟩ | ⟨gg, cap, cur, hv, _⟩
              · injection hv with _ h2 _; omega
              · injection hv with h1 h2 _; exact ⟨gg, h1, h2⟩
            · injection hv with _ h2 _; omega
          subst hmm
          obtain ⟨a', kp', rp', ls'⟩ := c'
          simp only at hm hmI
          have hlb : ∀ W lo hi, CD W lo hi (a', kp', rp', ls') (.slice ra' n' rc') (.slice (some ⟨gl, 0, none⟩) ls'.length lc') es' → (lo ≤ gl ∧ gl < W.heap.size) ∧ W.frozen? ⟨gl, 0, none⟩ = false ∧ ∃ q, W.cell? ⟨gl, 0, none⟩ = some q := fun W lo hi hD => by
            have h1 := hD.lt (g := gl) (.inr (.inl (obk_some_cj hm)))
            rcases hD.lvl.row with ⟨ho, _⟩ | ⟨he, _⟩
            · exact ⟨⟨h1.1, h1.2.2⟩, ho.frozenAt 0, _, (ho.cellAt 0 (by omega)).trans (lvs_get0 _ 0 (by have := hD.lvl.len; have h2 : es'.length = ls'.length := this; omega))⟩
            · have he : ls'.length = 0 := he; omega
          have HLB := Lib.hid hlb
          have hglr := (hlb _ _ _ D6.out).1
          have hdr6 : Rd w6.drew B g := G6.out.1.drew
          have HR6 := Lib.hid hdr6
          clear hlb hdr6
          go_upto_region 8 with fail
          go_region_law (first
              | (go_simp; go_at_call 51; refine (off_any B g 1 30 _ HR6.out (by omega) (by omega) (by omega) (by omega)).mono ?_; rintro e w7 ⟨_, rfl, ⟨d, rfl, hd0, hd1⟩, hrd7, hgr7⟩; have gr7 : w6.grownBy w7 (some g) := grown_trans' (grew_drewN w6 1 _) hgr7; have G7 := Lib.hid (G6.out.read hrd7 gr7); have R7 : Hid (BoxN w7 w.heap.size #[.int .i64 0, .int .i64 0, .slice none 0 0, .slice none 0 0] 30) := Lib.hid (R6.out.kept gr7 (by intro e; injection e with e; omega)); have X7 : Hid (BoxN w7 ob #[.int .i64 a', .int .i64 kp', .slice ra' n' rc', .slice (some ⟨gl, 0, none⟩) ls'.length lc'] 30) := Lib.hid (X6.out.kept gr7 (by intro e; injection e with e; omega)); have D7 := Lib.hid (CD.read (w := w) D6.out gr7 (by omega)); have Sz7 := gr7.size; have z3 := X7.out.cell (i := 3) rfl; obtain ⟨_, ff, q, cq⟩ := HLB.out _ _ _ D7.out; clear hrd7 hgr7 gr7))
          all_goals
            go_simp
            obtain ⟨w8, hw8⟩ : ∃ w8, w7.setCell ⟨gl, 0, none⟩ (.int .i64 d) = w8 := ⟨_, rfl⟩
            have hbx : BoxN w8 ob #[.int .i64 a', .int .i64 kp', .slice ra' n' rc', .slice (some ⟨gl, 0, none⟩) ls'.length lc'] 30 := by rw [← hw8]; exact (Below.heap_setCell _ _ _ _ (by simp; omega)).trans X7.out
            have hcd : CD w8 lo hi (a', kp', rp', ls'.set 0 (d, (ls'.getD 0 zLv).2)) (.slice ra' n' rc') (.slice (some ⟨gl, 0, none⟩) ls'.length lc') (es'.set 0 (d, (es'.getD 0 zLc).2)) := by rw [← hw8]; exact D7.out.setW hm
            have hdw : DRW w B g w8 := by rw [← hw8]; exact G7.out.set hgl (by omega) 0 _
            have hr0 : BoxN w8 w.heap.size #[.int .i64 0, .int .i64 0, .slice none 0 0, .slice none 0 0] 30 := by rw [← hw8]; exact (Below.heap_setCell _ _ _ _ (by simp; omega)).trans R7.out
            have hh8 : hi ≤ w8.heap.size := by rw [← hw8]; simp [World.setCell]; omega
            have hdr : Rng d := ⟨hd0, hd1⟩
            rw [hw8]
            obtain ⟨es8, hes8⟩ : ∃ es8, es'.set 0 (d, (es'.getD 0 zLc).2) = es8 := ⟨_, rfl⟩
            rw [hes8] at hcd
            clear hw8 hes8 X7 R7 G7 D7 z3 ff cq
            have X8 := Lib.hid hbx
            have G8 := Lib.hid hdw
            have R8 := Lib.hid hr0
            have D8 := Lib.hid hcd
            have CR8 := Lib.hid (CR5.out.setW hdr)
            clear hbx hcd hdw hr0 hdr G6 R6 X6 D6 HLB HR6 x3 hd0 hd1
            have hls : (ls'.set 0 (d, (ls'.getD 0 zLv).2)).length = ls'.length := List.length_set
            have y0 := X8.out.cell (i := 0) rfl
            have y1 := X8.out.cell (i := 1) rfl
            have y2 := X8.out.cell (i := 2) rfl
            have y3 := X8.out.cell (i := 3) rfl
            have r0 := R8.out.cell (i := 0) rfl
            have r1 := R8.out.cell (i := 1) rfl
            have r2 := R8.out.cell (i := 2) rfl
            have r3 := R8.out.cell (i := 3) rfl
            have f0 := R8.out.frozen (i := 0)
            have f1 := R8.out.frozen (i := 1)
            have f2 := R8.out.frozen (i := 2)
            have f3 := R8.out.frozen (i := 3)
            go_wp2_with fail
            refine bodyPost_ret (v := .agg #[.int .i64 a', .int .i64 kp', .slice ra' n' rc', .slice (some ⟨gl, 0, none⟩) ls'.length lc']) (by simp [results, Try.results54, go_sem, r0, r1, r2, r3]) rfl ⟨.slice ra' n' rc', .slice (some ⟨gl, 0, none⟩) ls'.length lc', es8, (a', kp', rp', ls'.set 0 (d, (ls'.getD 0 zLv).2)), rfl, (CD.set4n D8.out (.inl (by omega)) _ _ _ _).lift (by omega) (by simp [World.setCell]; omega), CR8.out, DRW.set4 G8.out hgl (Nat.le_refl _) _ _ _ _⟩
        · have hmI : ¬ (0 : Int) < (m' : Int) := by omega
          have hmd : decide ((0 : Int) < (m' : Int)) = false := decide_eq_false hmI
          have hmd2 : decide (0 < m') = false := decide_eq_false hm
          clear x3
          have y0 := X6.out.cell (i := 0) rfl
          have y1 := X6.out.cell (i := 1) rfl
          have y2 := X6.out.cell (i := 2) rfl
          have y3 := X6.out.cell (i := 3) rfl
          have r0 := R6.out.cell (i := 0) rfl
          have r1 := R6.out.cell (i := 1) rfl
          have r2 := R6.out.cell (i := 2) rfl
          have r3 := R6.out.cell (i := 3) rfl
          have f0 := R6.out.frozen (i := 0)
          have f1 := R6.out.frozen (i := 1)
          have f2 := R6.out.frozen (i := 2)
          have f3 := R6.out.frozen (i := 3)
          go_wp2_with fail
          refine bodyPost_ret (v := .agg #[.int .i64 c'.1, .int .i64 c'.2.1, .slice ra' n' rc', .slice la' m' lc']) (by simp [results, Try.results54, go_sem, r0, r1, r2, r3]) rfl ⟨.slice ra' n' rc', .slice la' m' lc', es', c', rfl, (CD.set4n D6.out (.inl (by omega)) _ _ _ _).lift (by omega) (by simp [World.setCell]; omega), CR5.out, DRW.set4 G6.out hgl (Nat.le_refl _) _ _ _ _⟩
      · have hz29 : (z == 29) = false := by simpa using e29
        have hd29 : decide (z = 29) = false := decide_eq_false e29
        have y0 := X6.out.cell (i := 0) rfl
        have y1 := X6.out.cell (i := 1) rfl
        have y2 := X6.out.cell (i := 2) rfl
        have y3 := X6.out.cell (i := 3) rfl
        have r0 := R6.out.cell (i := 0) rfl
        have r1 := R6.out.cell (i := 1) rfl
        have r2 := R6.out.cell (i := 2) rfl
        have r3 := R6.out.cell (i := 3) rfl
        have f0 := R6.out.frozen (i := 0)
        have f1 := R6.out.frozen (i := 1)
        have f2 := R6.out.frozen (i := 2)
        have f3 := R6.out.frozen (i := 3)
        go_wp2_with fail
        refine bodyPost_ret (v := .agg #[.int .i64 c'.1, .int .i64 c'.2.1, .slice ra' n' rc', .slice la' m' lc']) (by simp [results, Try.results54, go_sem, r0, r1, r2, r3]) rfl ⟨.slice ra' n' rc', .slice la' m' lc', es', c', rfl, (CD.set4n D6.out (.inl (by omega)) _ _ _ _).lift (by omega) (by simp [World.setCell]; omega), CR5.out, DRW.set4 G6.out hgl (Nat.le_refl _) _ _ _ _⟩
end Go.Proofs.Ytcjpedolmnahfaa

/- Walks: sameCascade of equal cascades. -/
set_option linter.unusedVariables false
set_option linter.unusedSimpArgs false
namespace Go.Proofs.Ytcjpedolmnahfaa
open Go.RowKit

theorem ls_at_lt {w : World} {A : Option Addr} {n c : Nat} {xs : List Lv} (h : LS w w.heap.size (.slice A n c) xs) {k : Nat} (hk : k < n) :
    ∃ b off, A = some ⟨b, off, none⟩ ∧ b < w.heap.size ∧ w.cell? ⟨b, off + k * 3, none⟩ = some (.int .i64 (xs.getD k zLv).1) ∧ w.cell? ⟨b, off + k * 3 + 1, none⟩ = some (.int .i64 (xs.getD k zLv).2.1) ∧ ∃ r, w.cell? ⟨b, off + k * 3 + 2, none⟩ = some r ∧ RL w w.heap.size r (xs.getD k zLv).2.2 := by
  obtain ⟨_, _, A', c', he, h3⟩ := h
  injection he with e1 e2 e3
  rcases h3 with h3 | ⟨b, off, hb, hlt, hc⟩
  · rw [h3] at e2; simp at e2; omega
  · obtain ⟨x0, x1, r, x2, hr⟩ := hc k (by omega)
    exact ⟨b, off, e1.trans hb, hlt, x0, x1, r, x2, hr⟩
def SK (wr : World) (gb gc b1 o1 b2 o2 : Nat) (l1 l2 z0 z1 r1 r2 : Value) (k : Nat) (W : World) : Prop :=
  Below wr.heap.size wr W ∧ W.cell? ⟨gb, 3, none⟩ = some l1 ∧ W.cell? ⟨gc, 3, none⟩ = some l2 ∧ W.cell? ⟨b1, o1 + k * 3, none⟩ = some z0 ∧ W.cell? ⟨b1, o1 + k * 3 + 1, none⟩ = some z1 ∧ W.cell? ⟨b1, o1 + k * 3 + 2, none⟩ = some r1 ∧ W.cell? ⟨b2, o2 + k * 3, none⟩ = some z0 ∧ W.cell? ⟨b2, o2 + k * 3 + 1, none⟩ = some z1 ∧ W.cell? ⟨b2, o2 + k * 3 + 2, none⟩ = some r2
theorem SK.of {wr W : World} {gb gc b1 o1 b2 o2 k : Nat} {l1 l2 z0 z1 r1 r2 : Value} (h : SK wr gb gc b1 o1 b2 o2 l1 l2 z0 z1 r1 r2 k wr) (h1 : gb < wr.heap.size) (h2 : gc < wr.heap.size) (h3 : b1 < wr.heap.size) (h4 : b2 < wr.heap.size) (hb : Below wr.heap.size wr W) : SK wr gb gc b1 o1 b2 o2 l1 l2 z0 z1 r1 r2 k W := by
  obtain ⟨_, a1, a2, a3, a4, a5, a6, a7, a8⟩ := h
  exact ⟨hb, (hb.cell (p := ⟨gb, 3, none⟩) h1).trans a1, (hb.cell (p := ⟨gc, 3, none⟩) h2).trans a2, (hb.cell (p := ⟨b1, o1 + k * 3, none⟩) h3).trans a3, (hb.cell (p := ⟨b1, o1 + k * 3 + 1, none⟩) h3).trans a4, (hb.cell (p := ⟨b1, o1 + k * 3 + 2, none⟩) h3).trans a5, (hb.cell (p := ⟨b2, o2 + k * 3, none⟩) h4).trans a6, (hb.cell (p := ⟨b2, o2 + k * 3 + 1, none⟩) h4).trans a7, (hb.cell (p := ⟨b2, o2 + k * 3 + 2, none⟩) h4).trans a8⟩
theorem below_step_ck {a b c : World} (h : Below a.heap.size a b) (k : Below b.heap.size b c) : Below a.heap.size a c := h.trans (k.mono h.size)

set_option maxRecDepth 100000 in
set_option maxHeartbeats 8000000 in
theorem sameCascade_any (v u : Value) (c : Cs) (w : World) (h : CV w w.heap.size v c) (h' : CV w w.heap.size u c) :
    Calls Try.prog 19 #[v, u] w fun e w' => e = .returned (.bool true) ∧ Below w.heap.size w w' := by
  obtain ⟨Ap, cp, Al, cl, rfl, hP, hL⟩ := h.cell2
  obtain ⟨Bp, dp, Bl, dl, rfl, hP', hL'⟩ := h'.cell2
  clear h h'
  obtain ⟨n, hn⟩ : ∃ n, c.2.2.1.length = n := ⟨_, rfl⟩
  obtain ⟨m, hm⟩ : ∃ m, c.2.2.2.length = m := ⟨_, rfl⟩
  rw [hn] at hP hP' ⊢
  rw [hm] at hL hL' ⊢
  have HP := Lib.hid hP
  have HP' := Lib.hid hP'
  have HL := Lib.hid hL
  have HL' := Lib.hid hL'
  have hml : m ≤ 1048576 := by rw [← hm]; exact hL.2.1
  have hsp := Lib.hid (fun W h h' => samePoints_any (.slice Ap n cp) (.slice Bp n dp) c.2.2.1 W h h')
  have hsr := Lib.hid (fun a b xs W h h' => sameRolls_any a b xs W h h')
  clear hP hP' hL hL' hn hm
  obtain ⟨w1, hw1⟩ : ∃ w1, (w.alloc (.cells #[.int .i64 c.1, .int .i64 c.2.1, .slice Ap n cp, .slice Al m cl] 30)).alloc (.cells #[.int .i64 c.1, .int .i64 c.2.1, .slice Bp n dp, .slice Bl m dl] 30) = w1 := ⟨_, rfl⟩
  have B1 := Lib.hid (show Below w.heap.size w w1 from by rw [← hw1]; exact ((Below.refl _ w).alloc (Nat.le_refl _) _).alloc (by simp) _)
  obtain ⟨gb, hgb⟩ : ∃ gb, w.heap.size = gb := ⟨_, rfl⟩
  obtain ⟨gc, hgc⟩ : ∃ gc, w.heap.size + 1 = gc := ⟨_, rfl⟩
  have X1 : Hid (BoxN w1 gb #[.int .i64 c.1, .int .i64 c.2.1, .slice Ap n cp, .slice Al m cl] 30) := Lib.hid (by
    have h := World.alloc_heap_new w (.cells #[.int .i64 c.1, .int .i64 c.2.1, .slice Ap n cp, .slice Al m cl] 30)
    rw [← hw1, ← hgb]
    exact (Below.heap_alloc _ _ _ (by simp)).trans h)
  have Y1 : Hid (BoxN w1 gc #[.int .i64 c.1, .int .i64 c.2.1, .slice Bp n dp, .slice Bl m dl] 30) := Lib.hid (by
    have h := World.alloc_heap_new (w.alloc (.cells #[.int .i64 c.1, .int .i64 c.2.1, .slice Ap n cp, .slice Al m cl] 30)) (.cells #[.int .i64 c.1, .int .i64 c.2.1, .slice Bp n dp, .slice Bl m dl] 30)
    rw [World.size_alloc] at h
    rw [← hw1, ← hgc]; exact h)
  have HW1 := Lib.hid hw1
  have HGB := Lib.hid hgb
  have HGC := Lib.hid hgc
  clear hw1 hgb hgc
  have x0 := X1.out.cell (i := 0) rfl
  have x1 := X1.out.cell (i := 1) rfl
  have x2 := X1.out.cell (i := 2) rfl
  have x3 := X1.out.cell (i := 3) rfl
  have y0 := Y1.out.cell (i := 0) rfl
  have y1 := Y1.out.cell (i := 1) rfl
  have y2 := Y1.out.cell (i := 2) rfl
  have y3 := Y1.out.cell (i := 3) rfl
  go_enter Try.func19, Try.ntmps19
  go_upto_region 1 with fail
  rw [HW1.out, HGC.out, HGB.out]
  go_wp2_with fail
  refine (hsp.out _ ((HP.out.below B1.out).up B1.out.size) ((HP'.out.below B1.out).up B1.out.size)).mono ?_
  rintro e w2 ⟨rfl, hb2⟩
  have B2 := Lib.hid (B1.out.trans (hb2.mono B1.out.size))
  have X2 : Hid (BoxN w2 gb #[.int .i64 c.1, .int .i64 c.2.1, .slice Ap n cp, .slice Al m cl] 30) := Lib.hid ((hb2.block _ X1.out.lt).trans X1.out)
  have Y2 : Hid (BoxN w2 gc #[.int .i64 c.1, .int .i64 c.2.1, .slice Bp n dp, .slice Bl m dl] 30) := Lib.hid ((hb2.block _ Y1.out.lt).trans Y1.out)
  clear hb2 x0 x1 x2 x3 y0 y1 y2 y3 X1 Y1 B1
  have x3 := X2.out.cell (i := 3) rfl
  have y3 := Y2.out.cell (i := 3) rfl
  go_wp2_with fail
  clear x3 y3
  go_loopw [5] (fun i wr => ∃ (k : Nat), k ≤ m ∧ i = .int .i64 (k : Int) ∧ Hid (Below w.heap.size w wr) ∧ Hid (BoxN wr gb #[.int .i64 c.1, .int .i64 c.2.1, .slice Ap n cp, .slice Al m cl] 30) ∧ Hid (BoxN wr gc #[.int .i64 c.1, .int .i64 c.2.1, .slice Bp n dp, .slice Bl m dl] 30))
    (fun i _ => m - (intOf i).toNat)
  case atStart => exact ⟨0, Nat.zero_le _, rfl, B2, X2, Y2⟩
  case round =>
    obtain ⟨k, hk, rfl, HB, HX, HY⟩ := hrel
    have x3 := HX.out.cell (i := 3) rfl
    have y3 := HY.out.cell (i := 3) rfl
    by_cases hlt : k < m
    · have hltI : (k : Int) < (m : Int) := by omega
      have hl1 := (HL.out.below HB.out).up HB.out.size
      have hl2 := (HL'.out.below HB.out).up HB.out.size
      obtain ⟨b1, o1, rfl, hb1, c0, c1, r1, c2, hr1⟩ := ls_at_lt hl1 hlt
      obtain ⟨b2, o2, rfl, hb2, d0, d1, r2, d2, hr2⟩ := ls_at_lt hl2 hlt
      have HR1 := Lib.hid hr1
      have HR2 := Lib.hid hr2
      obtain ⟨_, _, ra1, rc1, rfl, _⟩ := hr1
      obtain ⟨_, _, ra2, rc2, rfl, _⟩ := hr2
      obtain ⟨z0, hz0⟩ : ∃ z0, (c.2.2.2.getD k zLv).1 = z0 := ⟨_, rfl⟩
      obtain ⟨z1, hz1⟩ : ∃ z1, (c.2.2.2.getD k zLv).2.1 = z1 := ⟨_, rfl⟩
      obtain ⟨rs, hrs⟩ : ∃ rs, (c.2.2.2.getD k zLv).2.2 = rs := ⟨_, rfl⟩
      rw [hz0] at c0 d0
      rw [hz1] at c1 d1
      rw [hrs] at c2 d2 HR1 HR2
      obtain ⟨rn, hrn⟩ : ∃ rn, rs.length = rn := ⟨_, rfl⟩
      rw [hrn] at c2 d2 HR1 HR2
      have HK0 := Lib.hid (show SK wr gb gc b1 o1 b2 o2 (.slice (some ⟨b1, o1, none⟩) m cl) (.slice (some ⟨b2, o2, none⟩) m dl) (.int .i64 z0) (.int .i64 z1) (.slice ra1 rn rc1) (.slice ra2 rn rc2) k wr from ⟨Below.refl _ _, x3, y3, c0, c1, c2, d0, d1, d2⟩)
      have HKO := Lib.hid (fun W hW => SK.of (W := W) HK0.out HX.out.lt HY.out.lt hb1 hb2 hW)
      have HKD := Lib.hid (HKO.out _ (show Below wr.heap.size wr wr.drew from (Below.refl _ _).drew))
      have hq0 : (z0 != z0) = false := by simp
      have hq1 : (z1 != z1) = false := by simp
      clear hz0 hz1 hrs hrn hl1 hl2 c0 c1 c2 d0 d1 d2 x3 y3
      unfold SK at HK0 HKO HKD
      have x3 := HX.out.cell (i := 3) rfl
      have y3 := HY.out.cell (i := 3) rfl
      go_wp2_with fail
      clear x3 y3
      go_region_held3 (fun W => Below wr.heap.size wr W ∧ W.cell? ⟨gb, 3, none⟩ = some (.slice (some ⟨b1, o1, none⟩) m cl) ∧ W.cell? ⟨gc, 3, none⟩ = some (.slice (some ⟨b2, o2, none⟩) m dl) ∧ W.cell? ⟨b1, o1 + k * 3, none⟩ = some (.int .i64 z0) ∧ W.cell? ⟨b1, o1 + k * 3 + 1, none⟩ = some (.int .i64 z1) ∧ W.cell? ⟨b1, o1 + k * 3 + 2, none⟩ = some (.slice ra1 rn rc1) ∧ W.cell? ⟨b2, o2 + k * 3, none⟩ = some (.int .i64 z0) ∧ W.cell? ⟨b2, o2 + k * 3 + 1, none⟩ = some (.int .i64 z1) ∧ W.cell? ⟨b2, o2 + k * 3 + 2, none⟩ = some (.slice ra2 rn rc2))
        (first | with_reducible assumption | with_reducible exact HKD.out | with_reducible exact HKO.out _ (below_step_ck (And.left (by assumption)) (by assumption)))
        (first | (go_at_call 26; (refine (hsr.out _ _ rs _ (by first | exact HR1.out | exact (show RL wr.drew wr.drew.heap.size _ _ from HR1.out.below ((Below.refl _ _).drew))) (by first | exact HR2.out | exact (show RL wr.drew wr.drew.heap.size _ _ from HR2.out.below ((Below.refl _ _).drew)))).mono ?_); rintro e w3 ⟨rfl, hb3⟩; have HB3 := Lib.hid (show Below wr.heap.size wr w3 from ((Below.refl wr.heap.size wr).drew).trans hb3)))
      all_goals
        go_wp2_with fail
        go_roundw
        case rel => exact ⟨k + 1, by omega, by go_num, Lib.hid (HB.out.trans (HB3.out.mono HB.out.size)), Lib.hid ((HB3.out.block _ HX.out.lt).trans HX.out), Lib.hid ((HB3.out.block _ HY.out.lt).trans HY.out)⟩
        case measure => simp [intOf]; omega
    · obtain rfl : k = m := by omega
      go_wp2_with fail
      go_ret
      exact ⟨rfl, HB.out⟩
end Go.Proofs.Ytcjpedolmnahfaa
