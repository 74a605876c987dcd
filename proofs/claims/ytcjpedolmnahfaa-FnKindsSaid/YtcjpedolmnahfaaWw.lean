/- Walks: what is too old is dropped: the model. -/
import Derived.Test.YtcjpedolmnahfaaWv
import Derived.Test.YtcjpedolmnahfaaZb
set_option linter.unusedVariables false
set_option linter.unusedSimpArgs false
namespace Go.Proofs.Ytcjpedolmnahfaa
open Go.RowKit

/-- since w1 only ob and new blocks have changed -/
structure DG (w1 : World) (ob : Nat) (W : World) : Prop where
  os : W.os = w1.os
  tape : W.tape = w1.tape
  output : W.output = w1.output
  size : w1.heap.size ≤ W.heap.size
  block : ∀ k, k < w1.heap.size → ¬ k = ob → W.heap[k]? = w1.heap[k]?
theorem DG.refl (w1 : World) (ob : Nat) : DG w1 ob w1 := ⟨rfl, rfl, rfl, Nat.le_refl _, fun _ _ _ => rfl⟩
theorem DG.low {w1 W W' : World} {ob : Nat} (h : DG w1 ob W) (hb : Below w1.heap.size W W') : DG w1 ob W' := ⟨hb.os.trans h.os, hb.tape.trans h.tape, hb.output.trans h.output, Nat.le_trans h.size hb.size, fun k hk hn => (hb.block k hk).trans (h.block k hk hn)⟩
theorem DG.set {w1 W : World} {ob : Nat} (h : DG w1 ob W) (i : Nat) (x : Value) : DG w1 ob (W.setCell ⟨ob, i, none⟩ x) := ⟨h.os, h.tape, h.output, by simpa [World.setCell] using h.size, fun k hk hn => (Below.heap_setCell _ _ _ k (by simpa using hn)).trans (h.block k hk hn)⟩
theorem DG.below {w1 W : World} {ob B : Nat} (h : DG w1 ob W) (hB : B ≤ ob) (hB2 : B ≤ w1.heap.size := by omega) : Below B w1 W := ⟨h.os, h.tape, h.output, h.size, fun k hk => h.block k (by omega) (by omega)⟩
theorem fltZ {α : Type} (d : α) (p : α → Bool) {xs : List α} {k : Nat} (hk : k < xs.length) :
    (xs.take (k + 1)).filter p = (xs.take k).filter p ++ if p (xs.getD k d) = true then [xs.getD k d] else [] := by
  rw [List.take_succ_eq_append_getElem hk, List.filter_append]
  congr 1
  rw [show xs[k] = xs.getD k d by simp [List.getD_eq_getElem?_getD, hk]]
  by_cases h : p (xs.getD k d) = true
  · rw [if_pos h, List.filter_cons, if_pos h]; rfl
  · rw [if_neg h, List.filter_cons, if_neg h]; rfl
theorem fltZ_len {α : Type} (p : α → Bool) (xs : List α) (k : Nat) : ((xs.take k).filter p).length ≤ k :=
  Nat.le_trans (List.length_filter_le _ _) (by rw [List.length_take]; omega)

set_option maxRecDepth 100000 in
set_option maxHeartbeats 8000000 in
theorem l8Drop_any (v : Value) (c : Cs) (w : World) (h : CV w w.heap.size v c) (hl4 : c.2.2.2.length ≤ 1000) (hn : 0 ≤ c.1 ∧ c.1 ≤ 1000000000000) (hkp : 0 ≤ c.2.1 ∧ c.2.1 ≤ 1000000000)
    (hlv : ∀ j, j < c.2.2.2.length → (1 ≤ (c.2.2.2.getD j zLv).1 ∧ (c.2.2.2.getD j zLv).1 ≤ 1000000) ∧ (0 ≤ (c.2.2.2.getD j zLv).2.1 ∧ (c.2.2.2.getD j zLv).2.1 ≤ 1000000000) ∧ (c.2.2.2.getD j zLv).2.2.length ≤ 1048576 ∧ ∀ r ∈ (c.2.2.2.getD j zLv).2.2, 0 ≤ r.1 ∧ r.1 ≤ c.1) :
    Calls Try.prog 77 #[v] w (CPostD w.heap.size (dropC c.1 c) w) := by
  obtain ⟨nw, kp, rp, ls⟩ := c
  obtain ⟨rv, lv, rfl, hP, hL, z1, z2⟩ := h
  clear z1 z2
  simp only at hP hL hl4 hn hkp hlv ⊢
  have HLV := Lib.hid hlv
  have HP := Lib.hid hP
  have HL := Lib.hid hL
  obtain ⟨z3, hpl, Ap, cp, rfl, hp3⟩ := hP
  obtain ⟨z5, hll, Al, cl, rfl, z6⟩ := hL
  clear z3 z5 z6 hlv
  obtain ⟨i0, hi, hz0, hz1, hz2⟩ := info_parts info_pt
  obtain ⟨j0, hj, hy0, hy1, hy2⟩ := info_parts info_lv
  obtain ⟨k0, hk, hv0, hv1, hv2⟩ := info_parts info_rl
  obtain ⟨w1, hw1⟩ : ∃ w1, ((w.alloc (.cells #[.int .i64 nw, .int .i64 kp, .slice Ap rp.length cp, .slice Al ls.length cl] 30)).alloc (.cells #[.int .i64 0, .int .i64 0, .slice none 0 0, .slice none 0 0] 30)).alloc (.cells #[.int .i64 nw, .int .i64 kp, .slice none 0 0, .slice none 0 0] 30) = w1 := ⟨_, rfl⟩
  have B1 := Lib.hid (show Below w.heap.size w w1 from by rw [← hw1]; exact (((Below.refl _ w).alloc (Nat.le_refl _) _).alloc (by simp) _).alloc (by simp; omega) _)
  have X1 : Hid (BoxN w1 w.heap.size #[.int .i64 nw, .int .i64 kp, .slice Ap rp.length cp, .slice Al ls.length cl] 30) := Lib.hid (by
    have h := World.alloc_heap_new w (.cells #[.int .i64 nw, .int .i64 kp, .slice Ap rp.length cp, .slice Al ls.length cl] 30)
    rw [← hw1]
    exact (Below.heap_alloc _ _ _ (by simp; omega)).trans ((Below.heap_alloc _ _ _ (by simp)).trans h))
  have R1 : Hid (BoxN w1 (w.heap.size + 1) #[.int .i64 0, .int .i64 0, .slice none 0 0, .slice none 0 0] 30) := Lib.hid (by
    have h := World.alloc_heap_new (w.alloc (.cells #[.int .i64 nw, .int .i64 kp, .slice Ap rp.length cp, .slice Al ls.length cl] 30)) (.cells #[.int .i64 0, .int .i64 0, .slice none 0 0, .slice none 0 0] 30)
    rw [World.size_alloc] at h
    rw [← hw1]; exact (Below.heap_alloc _ _ _ (by simp)).trans h)
  have O1 : Hid (BoxN w1 (w.heap.size + 1 + 1) #[.int .i64 nw, .int .i64 kp, .slice none 0 0, .slice none 0 0] 30) := Lib.hid (by
    have h := World.alloc_heap_new ((w.alloc (.cells #[.int .i64 nw, .int .i64 kp, .slice Ap rp.length cp, .slice Al ls.length cl] 30)).alloc (.cells #[.int .i64 0, .int .i64 0, .slice none 0 0, .slice none 0 0] 30)) (.cells #[.int .i64 nw, .int .i64 kp, .slice none 0 0, .slice none 0 0] 30)
    rw [World.size_alloc, World.size_alloc] at h
    rw [← hw1]; exact h)
  have hsz1 : w.heap.size + 3 ≤ w1.heap.size := by rw [← hw1]; simp
  have HW1 := Lib.hid hw1
  clear hw1
  obtain ⟨ob, hob⟩ : ∃ ob, w.heap.size + 1 + 1 = ob := ⟨_, rfl⟩
  have hob1 : w.heap.size + 2 ≤ ob := by omega
  have hob2 : ob < w1.heap.size := by omega
  rw [hob] at O1
  have HOBE := Lib.hid hob
  have HX := Lib.hid (fun (W : World) (hg : DG w1 ob W) => (show BoxN W w.heap.size #[.int .i64 nw, .int .i64 kp, .slice Ap rp.length cp, .slice Al ls.length cl] 30 from (hg.block _ (by omega) (by omega)).trans X1.out))
  have HPC := Lib.hid (fun (W : World) (hg : DG w1 ob W) (j : Nat) (hjl : j < rp.length) => (show ∃ b off, Ap = some ⟨b, off, none⟩ ∧ W.cell? ⟨b, off + j * 2, none⟩ = some (.int .i64 (rp.getD j (0, 0)).1) ∧ W.cell? ⟨b, off + j * 2 + 1, none⟩ = some (.int .i64 (rp.getD j (0, 0)).2) from by
    rcases hp3 with hp3 | ⟨b, off, rfl, hbl, hc⟩
    · subst hp3; simp at hjl
    · have hb : Below w.heap.size w W := B1.out.trans (hg.below (by omega))
      exact ⟨b, off, rfl, (hb.cell (p := ⟨b, off + j * 2, none⟩) hbl).trans (hc j hjl).1, (hb.cell (p := ⟨b, off + j * 2 + 1, none⟩) hbl).trans (hc j hjl).2⟩))
  have eN : IntKind.i64.wrap (nw - kp) = nw - kp := IntWalk.i64_in _ (by omega)
  go_enter Try.func77, Try.ntmps77
  go_wp2_with fail
  rw [HW1.out]
  have e3a := hpl
  go_loopw [4] (fun i wr => ∃ (k : Nat) (A2 : Option Addr) (c2 : Nat), k ≤ rp.length ∧ i = .int .i64 (k : Int) ∧ Hid (BoxN wr ob #[.int .i64 nw, .int .i64 kp, .slice A2 ((rp.take k).filter (fun p => decide (nw - kp < p.1))).length c2, .slice none 0 0] 30) ∧ Hid (wr.ownsRow w1.heap.size 43 2 (.slice A2 ((rp.take k).filter (fun p => decide (nw - kp < p.1))).length c2) ((rp.take k).filter (fun p => decide (nw - kp < p.1))).length (prs ((rp.take k).filter (fun p => decide (nw - kp < p.1))))) ∧ Hid (DG w1 ob wr))
    (fun i _ => rp.length - (intOf i).toNat)
  case atStart => exact ⟨0, none, 0, Nat.zero_le _, rfl, O1, Lib.hid (World.ownsRow_nil _ _ _ _), Lib.hid (DG.refl _ _)⟩
  case round =>
    obtain ⟨k, A2, c2, hk2, rfl, HO, HR, HG⟩ := hrel
    have HXr := HX.out _ HG.out
    have x0 := HXr.cell (i := 0) rfl
    have x1 := HXr.cell (i := 1) rfl
    have x2 := HXr.cell (i := 2) rfl
    have hsz := HG.out.size
    by_cases hlt : k < rp.length
    · have hltI : (k : Int) < (rp.length : Int) := by omega
      obtain ⟨b, off, rfl, d0, d1⟩ := HPC.out _ HG.out k hlt
      have HF := Lib.hid (fltZ (0, 0) (fun p : Int × Int => decide (nw - kp < p.1)) hlt)
      have hml := fltZ_len (fun p : Int × Int => decide (nw - kp < p.1)) rp k
      obtain ⟨x, y, hX⟩ : ∃ x y, rp.getD k (0, 0) = (x, y) := ⟨_, _, rfl⟩
      rw [hX] at d0 d1 HF
      simp only at d0 d1
      clear hX
      obtain ⟨ys, hys⟩ : ∃ ys, (rp.take k).filter (fun p => decide (nw - kp < p.1)) = ys := ⟨_, rfl⟩
      rw [hys] at HF HO HR hml
      clear hys
      by_cases g : nw - kp < x
      case neg =>
        have gd : decide (nw - kp < x) = false := decide_eq_false g
        have E := HF.out
        rw [if_neg (by simp [gd]), List.append_nil] at E
        have E := Lib.hid E
        clear HF g
        go_wp2_with fail
        refine wp_region_quiet_lit (by kernel_rfl) (by kernel_rfl) ?_
        repeat (go_big_quiet_step (fail))
        refine wpQuiet_nil ?_
        intro _ hw'
        obtain ⟨nq, hw''⟩ := hw'
        subst hw''
        go_wp2_with fail
        go_roundw
        case rel => exact ⟨k + 1, A2, c2, by omega, by go_num, Lib.hid (by rw [E.out]; exact HO.out), Lib.hid (by rw [E.out]; exact u_own_below HR.out (below_drewN_u (Below.refl _ _) _)), Lib.hid (HG.out.low (below_drewN_u (Below.refl _ _) _))⟩
        case measure => simp [intOf]; omega
      have gd : decide (nw - kp < x) = true := decide_eq_true g
      have E := HF.out
      rw [if_pos (by simp [gd])] at E
      have E := Lib.hid E
      clear HF g
      go_wp2_with fail
      refine wp_region_quiet_lit (by kernel_rfl) (by kernel_rfl) ?_
      repeat (go_big_quiet_step (fail))
      refine wpQuiet_nil ?_
      intro _ hw'
      obtain ⟨nq, hw''⟩ := hw'
      subst hw''
      go_wp2_with fail
      obtain ⟨W1, hW1⟩ : ∃ W1, wr.drewN nq = W1 := ⟨_, rfl⟩
      have HO1 : Hid (BoxN W1 ob #[.int .i64 nw, .int .i64 kp, .slice A2 ys.length c2, .slice none 0 0] 30) := Lib.hid (by rw [← hW1]; exact HO.out)
      have HR1 := Lib.hid (show W1.ownsRow w1.heap.size 43 2 (.slice A2 ys.length c2) ys.length (prs ys) from by rw [← hW1]; exact u_own_below HR.out (below_drewN_u (Below.refl _ _) _))
      have HG1 := Lib.hid (show DG w1 ob W1 from by rw [← hW1]; exact HG.out.low (below_drewN_u (Below.refl _ _) _))
      have d0' : W1.cell? ⟨b, off + k * 2, none⟩ = some (.int .i64 x) := by rw [← hW1]; exact d0
      have d1' : W1.cell? ⟨b, off + k * 2 + 1, none⟩ = some (.int .i64 y) := by rw [← hW1]; exact d1
      have x2' : W1.cell? ⟨w.heap.size, 2, none⟩ = some (.slice (some ⟨b, off, none⟩) rp.length cp) := by rw [← hW1]; exact x2
      have o2 := BoxN.cell (i := 2) HO1.out rfl
      have hs1 := HG1.out.size
      have hobw := HO1.out.lt
      rw [hW1]
      clear hW1 HO HR HG d0 d1 x0 x1 x2 HXr
      have HOA := Lib.hid (show BoxN (W1.alloc (.cells #[.int .i64 x, .int .i64 y] 43)) ob #[.int .i64 nw, .int .i64 kp, .slice A2 ys.length c2, .slice none 0 0] 30 from (Below.heap_alloc _ _ _ hobw).trans HO1.out)
      have o2a := BoxN.cell (i := 2) HOA.out rfl
      go_region_law (refine step_append_ownR _ rfl _ _ 27 rfl w1.heap.size 43 i0 (.agg #[.int .i64 0, .int .i64 0]) 2 16 Try.underlying27 hi hz0 hz1 hz2 rfl (by decide) (.slice A2 ys.length c2) ys.length (prs ys) rfl ((HR1.out.alloc _).drew) ⟨W1.heap.size, 0, none⟩ 1 1 [.int .i64 x, .int .i64 y] rfl rfl (two_cells (by go_simp) (by go_simp)) (fun u hu => by simp at hu; rcases hu with rfl | rfl <;> rfl) (by unfold maxLen; omega) (by omega) (by first | omega | (simp; omega)) ?_; intro v4 w4 hown4 hgrow4; obtain ⟨A4, c4, rfl⟩ := (ORow.of_own hown4).shape; have HO4 : BoxN w4 ob #[.int .i64 nw, .int .i64 kp, .slice A2 ys.length c2, .slice none 0 0] 30 := BoxN.kept (show BoxN (W1.alloc (.cells #[.int .i64 x, .int .i64 y] 43)).drew ob #[.int .i64 nw, .int .i64 kp, .slice A2 ys.length c2, .slice none 0 0] 30 from HOA.out) hgrow4 (own_ne_box (HR1.out.alloc _) HOA.out pt_ne_ic); have f2 := HO4.frozen (i := 2); have q2 := HO4.cell (i := 2) rfl; have hG4 := HG1.out.low (((Below.refl _ _).alloc hs1 _).drew.grown hgrow4 (by simp; omega) (fun j hj => (HR1.out.lt j hj).1)))
      all_goals
        have HOZ := Lib.hid (show BoxN (w4.setCell ⟨ob, 2, none⟩ (.slice A4 (ys.length + 1) c4)) ob #[.int .i64 nw, .int .i64 kp, .slice A4 (ys.length + 1) c4, .slice none 0 0] 30 from heap_setCell_same w4 ob 2 _ _ (.slice A4 (ys.length + 1) c4) HO4)
        have HRZ := Lib.hid (own_set_box hown4 HO4 pt_ne_ic 2 (.slice A4 (ys.length + 1) c4))
        have HGZ := Lib.hid (hG4.set 2 (.slice A4 (ys.length + 1) c4))
        have hlen : (ys ++ [(x, y)]).length = ys.length + 1 := by simp
        have HLEN := Lib.hid hlen
        clear hlen hown4 hgrow4 hG4 HO4
        try go_simp
        go_wp2_with fail
        go_roundw
        case rel => exact ⟨k + 1, A4, c4, by omega, by go_num, Lib.hid (by rw [E.out, HLEN.out]; exact HOZ.out), Lib.hid (by rw [E.out, HLEN.out, prs_append]; exact HRZ.out), HGZ⟩
        case measure => simp [intOf]; omega
    · obtain rfl : k = rp.length := by omega
      rw [List.take_length] at HO HR
      obtain ⟨ys, hys⟩ : ∃ ys, rp.filter (fun p => decide (nw - kp < p.1)) = ys := ⟨_, rfl⟩
      have hyl : ys.length ≤ rp.length := by rw [← hys]; exact List.length_filter_le _ _
      have HYS := Lib.hid (show dropP nw kp rp = ys from hys)
      rw [hys] at HO HR
      clear hys
      go_wp2_with fail
      go_loopw [5] (fun i wq => ∃ (k : Nat) (A : Option Addr) (c : Nat) (es : List LvC), k ≤ ls.length ∧ i = .int .i64 (k : Int) ∧ Hid (BoxN wq ob #[.int .i64 nw, .int .i64 kp, .slice A2 ys.length c2, .slice A k c] 30) ∧ Hid (LB wq w1.heap.size (.slice A k c) (ls.map (dropL nw)) k es) ∧ Hid (wq.ownsRow w1.heap.size 43 2 (.slice A2 ys.length c2) ys.length (prs ys)) ∧ Hid (DG w1 ob wq))
        (fun i _ => ls.length - (intOf i).toNat)
      case atStart => exact ⟨0, none, 0, [], Nat.zero_le _, rfl, HO, Lib.hid ⟨rfl, World.ownsRow_nil _ _ _ _, fun j hj => by omega, fun i j g hij hj => by omega⟩, HR, HG⟩
      case round =>
        clear HO HR HG HXr x0 x1 x2 hsz
        obtain ⟨k, A, c, es, hk2, rfl, HO, HLB, HR, HG⟩ := hrel
        obtain ⟨wq, rfl⟩ : ∃ wq, wq = wr := ⟨_, rfl⟩
        have hsz := HG.out.size
        have HXr := HX.out _ HG.out
        have x3 := BoxN.cell (i := 3) HXr rfl
        by_cases hlt : k < ls.length
        · have hltI : (k : Int) < (ls.length : Int) := by omega
          have hbw := Lib.hid (B1.out.trans (HG.out.below (B := w.heap.size) (by omega) (by omega)))
          obtain ⟨_, _, A', c', hv, h3⟩ := HL.out.below hbw.out
          injection hv with e1 e2 e3
          subst e1 e3
          clear e2
          rcases h3 with h3 | ⟨bl, ol, rfl, hbl, hc⟩
          · subst h3; simp at hlt
          obtain ⟨d0, d1, r, d2, hr⟩ := hc k hlt
          have hv := HLV.out k hlt
          have hgd : (ls.map (dropL nw)).getD k zLv = dropL nw (ls.getD k zLv) := by simp [List.getD_eq_getElem?_getD, hlt]
          clear hc
          obtain ⟨Wv, Kv, rs, hx⟩ : ∃ Wv Kv rs, ls.getD k zLv = (Wv, Kv, rs) := ⟨_, _, _, rfl⟩
          rw [hx] at d0 d1 hr hv hgd
          simp only at d0 d1 hr hv
          have HRL := Lib.hid hr
          obtain ⟨_, _, Ar, cr, rfl, hrc⟩ := hr
          have HRC := Lib.hid hrc
          obtain ⟨hWb, hKb, hrl, hrT⟩ := hv
          have HRT := Lib.hid hrT
          obtain ⟨rd, hrd⟩ : ∃ rd, rs.filter (rolAt nw (Wv, Kv, rs)) = rd := ⟨_, rfl⟩
          have hrdl : rd.length ≤ rs.length := by rw [← hrd]; exact List.length_filter_le _ _
          have HRD := Lib.hid hrd
          have HST := Lib.hid (fun (W1 W2 : World) (lo : Nat) (v' r : Value) (hb : Below wq.heap.size wq W1) (hlo : wq.heap.size ≤ lo) (hr : W1.ownsRow lo 48 6 r rd.length (rls rd)) (hg : W1.grownBy W2 (Value.ownBlock (.slice A k c))) (hrow : W2.ownsRow w1.heap.size 51 3 v' (k + 1) (lvs es ++ [.int .i64 Wv, .int .i64 Kv, r])) => (by
            have hgd2 : (ls.map (dropL nw)).getD k zLv = (Wv, Kv, rd) := by rw [hgd]; show (Wv, Kv, dropR nw (Wv, Kv, rs)) = _; unfold dropR; rw [← hrd]
            have h := HLB.out.step hb hlo (by omega) (by rw [hgd2]; exact hr) hg (by rw [hgd2]; exact hrow)
            rw [hgd2] at h; exact h : LB W2 w1.heap.size v' (ls.map (dropL nw)) (k + 1) (es ++ [(Wv, Kv, r)])))
          clear hx hgd hrd hrc hrT
          obtain ⟨wx, hwx⟩ : ∃ wx, wq.alloc (.cells #[.int .i64 Wv, .int .i64 Kv, .slice Ar rs.length cr] 51) = wx := ⟨_, rfl⟩
          have BX : BoxN wx wq.heap.size #[.int .i64 Wv, .int .i64 Kv, .slice Ar rs.length cr] 51 := by rw [← hwx]; exact World.alloc_heap_new wq _
          have hszx : wq.heap.size < wx.heap.size := BX.lt
          have Dx := Lib.hid (show Below wq.heap.size wq wx from by rw [← hwx]; exact (Below.refl _ _).alloc (Nat.le_refl _) _)
          have BX2 := Lib.hid (show BoxN (wx.alloc (.cells #[] 48)) wq.heap.size #[.int .i64 Wv, .int .i64 Kv, .slice Ar rs.length cr] 51 from (Below.heap_alloc _ _ _ BX.lt).trans BX)
          have OE := Lib.hid (World.ownsRow_made wx (base := wx.heap.size) (e := 48) (size := 6) #[] 0 (Nat.le_refl _) (by simp [maxLen]) rfl)
          obtain ⟨we, hwe⟩ : ∃ we, wx.alloc (.cells #[] 48) = we := ⟨_, rfl⟩
          have De := Lib.hid (show Below wq.heap.size wq we from by rw [← hwe]; exact Dx.out.alloc (by omega) _)
          have hsze : wx.heap.size ≤ we.heap.size := by rw [← hwe]; simp
          rw [hwe] at BX2 OE
          have hwxs : wx.heap.size = wq.heap.size + 1 := by rw [← hwx]; simp
          have OE2 := Lib.hid (show we.ownsRow wx.heap.size 48 6 (.slice (some ⟨wq.heap.size + 1, 0, none⟩) 0 0) 0 [] from by
            have h := OE.out
            rw [show (⟨wq.heap.size + 1, 0, none⟩ : Addr) = ⟨wx.heap.size, 0, none⟩ from by rw [hwxs]]
            exact h)
          have HWX := Lib.hid hwx
          clear hwxs
          have HWE := Lib.hid hwe
          have eK : IntKind.i64.wrap (nw - Kv) = nw - Kv := IntWalk.i64_in _ (by omega)
          clear hwx hwe BX Dx
          go_upto_region 12 with fail
          rw [HWX.out, HWE.out]
          go_wp2_with fail
          go_loopw [7, 8] (fun v i wi => ∃ (q : Nat) (A7 : Option Addr) (c7 : Nat), q ≤ rs.length ∧ i = .int .i64 (q : Int) ∧ v = .slice A7 ((rs.take q).filter (rolAt nw (Wv, Kv, rs))).length c7 ∧ Hid (wi.ownsRow wx.heap.size 48 6 (.slice A7 ((rs.take q).filter (rolAt nw (Wv, Kv, rs))).length c7) ((rs.take q).filter (rolAt nw (Wv, Kv, rs))).length (rls ((rs.take q).filter (rolAt nw (Wv, Kv, rs))))) ∧ Hid (Below wx.heap.size we wi))
            (fun _ i _ => rs.length - (intOf i).toNat)
          case atStart => exact ⟨0, _, _, Nat.zero_le _, rfl, rfl, OE2, Lib.hid (Below.refl _ _)⟩
          case round =>
            obtain ⟨q, A7, c7, hq, rfl, rfl, HK, HI⟩ := hrel
            have hszi := HI.out.size
            have HGi := Lib.hid (HG.out.low ((De.out.trans (HI.out.mono (by omega))).mono hsz))
            have HXi := HX.out _ HGi.out
            have x0 := BoxN.cell (i := 0) HXi rfl
            have BXi := Lib.hid (show BoxN wr wq.heap.size #[.int .i64 Wv, .int .i64 Kv, .slice Ar rs.length cr] 51 from (HI.out.block _ hszx).trans BX2.out)
            have b0 := BoxN.cell (i := 0) BXi.out rfl
            have b1 := BoxN.cell (i := 1) BXi.out rfl
            have b2 := BoxN.cell (i := 2) BXi.out rfl
            by_cases hqt : q < rs.length
            · have hqI : (q : Int) < (rs.length : Int) := by omega
              rcases HRC.out with hrc | ⟨br, orr, rfl, hbr, hrc⟩
              · rw [hrc] at hqt; simp at hqt
              have hbi : Below w.heap.size wq wr := (De.out.trans (HI.out.mono (by omega))).mono (by omega)
              obtain ⟨t0, t1, t2, t3, t4, t5⟩ := hrc q hqt
              have r0 := (hbi.cell (p := ⟨br, orr + q * 6, none⟩) hbr).trans t0
              have r1 := (hbi.cell (p := ⟨br, orr + q * 6 + 1, none⟩) hbr).trans t1
              have r2 := (hbi.cell (p := ⟨br, orr + q * 6 + 2, none⟩) hbr).trans t2
              have r3 := (hbi.cell (p := ⟨br, orr + q * 6 + 3, none⟩) hbr).trans t3
              have r4 := (hbi.cell (p := ⟨br, orr + q * 6 + 4, none⟩) hbr).trans t4
              have r5 := (hbi.cell (p := ⟨br, orr + q * 6 + 5, none⟩) hbr).trans t5
              have hTm := HRT.out (rs.getD q z6) (by rw [List.getD_eq_getElem?_getD, List.getElem?_eq_getElem hqt]; exact List.getElem_mem hqt)
              have HF := Lib.hid (fltZ z6 (rolAt nw (Wv, Kv, rs)) hqt)
              have hml := fltZ_len (rolAt nw (Wv, Kv, rs)) rs q
              clear hrc t0 t1 t2 t3 t4 t5 hbi
              obtain ⟨⟨a0, a1, a2, a3, a4, a5⟩, hz⟩ : ∃ z, rs.getD q z6 = z := ⟨_, rfl⟩
              rw [hz] at r0 r1 r2 r3 r4 r5 hTm HF
              simp only at r0 r1 r2 r3 r4 r5 hTm
              clear hz
              obtain ⟨zs, hzs⟩ : ∃ zs, (rs.take q).filter (rolAt nw (Wv, Kv, rs)) = zs := ⟨_, rfl⟩
              rw [hzs] at HF HK hml ⊢
              clear hzs
              have eT : IntKind.i64.wrap (a0 + Wv) = a0 + Wv := IntWalk.i64_in _ (by omega)
              by_cases g : nw - Kv < a0 + Wv
              case neg =>
                have gd : decide (nw - Kv < a0 + Wv) = false := decide_eq_false g
                have E := HF.out
                rw [if_neg (by unfold rolAt; simp only []; rw [gd, Bool.and_false]; simp), List.append_nil] at E
                have E := Lib.hid E
                clear HF g
                go_wp2_with fail
                refine wp_region_quiet_lit (by kernel_rfl) (by kernel_rfl) ?_
                repeat (go_big_quiet_step (fail))
                refine wpQuiet_nil ?_
                intro _ hw'
                obtain ⟨nq, hw''⟩ := hw'
                subst hw''
                go_wp2_with fail
                go_roundw
                case rel => exact ⟨q + 1, A7, c7, by omega, by go_num, by rw [E.out], Lib.hid (by rw [E.out]; exact u_own_below HK.out (below_drewN_u (Below.refl _ _) _)), Lib.hid (below_drewN_u HI.out _)⟩
                case measure => simp [intOf]; omega
              have gd : decide (nw - Kv < a0 + Wv) = true := decide_eq_true g
              have E := HF.out
              rw [if_pos (by unfold rolAt; simp only []; rw [gd, decide_eq_true hTm.2]; rfl)] at E
              have E := Lib.hid E
              clear HF g
              go_wp2_with fail
              refine wp_region_quiet_lit (by kernel_rfl) (by kernel_rfl) ?_
              repeat (go_big_quiet_step (fail))
              refine wpQuiet_nil ?_
              intro _ hw'
              obtain ⟨nq, hw''⟩ := hw'
              subst hw''
              obtain ⟨W1, hW1⟩ : ∃ W1, wr.drewN nq = W1 := ⟨_, rfl⟩
              have HK1 := Lib.hid (show W1.ownsRow wx.heap.size 48 6 (.slice A7 zs.length c7) zs.length (rls zs) from by rw [← hW1]; exact u_own_below HK.out (below_drewN_u (Below.refl _ _) _))
              have HI1 := Lib.hid (show Below wx.heap.size we W1 from by rw [← hW1]; exact below_drewN_u HI.out _)
              have r0' : W1.cell? ⟨br, orr + q * 6, none⟩ = some (.int .i64 a0) := by rw [← hW1]; exact r0
              have r1' : W1.cell? ⟨br, orr + q * 6 + 1, none⟩ = some (.int .i64 a1) := by rw [← hW1]; exact r1
              have r2' : W1.cell? ⟨br, orr + q * 6 + 2, none⟩ = some (.int .i64 a2) := by rw [← hW1]; exact r2
              have r3' : W1.cell? ⟨br, orr + q * 6 + 3, none⟩ = some (.int .i64 a3) := by rw [← hW1]; exact r3
              have r4' : W1.cell? ⟨br, orr + q * 6 + 4, none⟩ = some (.int .i64 a4) := by rw [← hW1]; exact r4
              have r5' : W1.cell? ⟨br, orr + q * 6 + 5, none⟩ = some (.int .i64 a5) := by rw [← hW1]; exact r5
              have b2' : W1.cell? ⟨wq.heap.size, 2, none⟩ = some (.slice (some ⟨br, orr, none⟩) rs.length cr) := by rw [← hW1]; exact b2
              have hs1 := HI1.out.size
              rw [hW1]
              clear hW1 HK HI r0 r1 r2 r3 r4 r5 x0 b0 b1 b2 HXi HGi BXi
              go_wp2_with (at_builtin; refine wpList_append_own _ rfl _ _ 44 rfl wx.heap.size 48 k0 (.agg #[.int .i64 0, .int .i64 0, .int .i64 0, .int .i64 0, .int .i64 0, .int .i64 0]) 6 48 Try.underlying44 hk hv0 hv1 hv2 rfl (by decide) (.slice A7 zs.length c7) zs.length (rls zs) rfl (HK1.out.alloc _) ⟨W1.heap.size, 0, none⟩ 1 1 [.int .i64 a0, .int .i64 a1, .int .i64 a2, .int .i64 a3, .int .i64 a4, .int .i64 a5] rfl rfl (cells_six (by go_simp) (by go_simp) (by go_simp) (by go_simp) (by go_simp) (by go_simp)) ?c2 ?c3 ?c4 ?c5 ?_)
              case c2 => intro u hu; simp at hu; rcases hu with rfl | rfl | rfl | rfl | rfl | rfl <;> rfl
              case c3 => unfold maxLen; omega
              case c4 => omega
              case c5 => first | omega | (simp; omega)
              intro v4 w4 hown4 hgrow4 _
              obtain ⟨A4, c4, rfl⟩ := (ORow.of_own hown4).shape
              have HI4 := Lib.hid ((HI1.out.alloc (by omega) _).grown hgrow4 (by first | omega | (simp; omega)) (fun j hj => (HK1.out.lt j hj).1))
              have HLEN := Lib.hid (show (zs ++ [(a0, a1, a2, a3, a4, a5)]).length = zs.length + 1 by simp)
              have HK4 := Lib.hid (show w4.ownsRow wx.heap.size 48 6 (.slice A4 (zs.length + 1) c4) (zs ++ [(a0, a1, a2, a3, a4, a5)]).length (rls (zs ++ [(a0, a1, a2, a3, a4, a5)])) from by rw [HLEN.out, rls_append]; exact hown4)
              clear hown4 hgrow4
              go_wp2_with fail
              go_roundw
              case rel => exact ⟨q + 1, A4, c4, by omega, by go_num, by rw [E.out, HLEN.out], Lib.hid (by rw [E.out]; have := HK4.out; rw [HLEN.out] at this ⊢; exact this), HI4⟩
              case measure => simp [intOf]; omega
            · obtain rfl : q = rs.length := by omega
              rw [List.take_length] at HK ⊢
              rw [HRD.out] at HK ⊢
              have BX6 := BXi.out
              have D6 : Below wq.heap.size wq wr := De.out.trans (HI.out.mono (by omega))
              have hobr := HO.out.lt
              have OB6 : BoxN wr ob #[.int .i64 nw, .int .i64 kp, .slice A2 ys.length c2, .slice A k c] 30 := (D6.block ob hobr).trans HO.out
              have g2 := BX6.frozen (i := 2)
              obtain ⟨W7, hW7⟩ : ∃ W7, wr.setCell ⟨wq.heap.size, 2, none⟩ (.slice A7 rd.length c7) = W7 := ⟨_, rfl⟩
              have BX7 : BoxN W7 wq.heap.size #[.int .i64 Wv, .int .i64 Kv, .slice A7 rd.length c7] 51 := by rw [← hW7]; exact heap_setCell_same wr wq.heap.size 2 _ _ (.slice A7 rd.length c7) BX6
              have OB7 : BoxN W7 ob #[.int .i64 nw, .int .i64 kp, .slice A2 ys.length c2, .slice A k c] 30 := by rw [← hW7]; exact (Below.heap_setCell _ _ _ _ (by simp; omega)).trans OB6
              have own7 : W7.ownsRow wx.heap.size 48 6 (.slice A7 rd.length c7) rd.length (rls rd) := by rw [← hW7]; exact own_set_box HK.out BX6 lv_ne_rt 2 _
              have D7 : Below wq.heap.size wq W7 := by rw [← hW7]; exact D6.setCell (p := ⟨wq.heap.size, 2, none⟩) (Nat.le_refl _) _
              have HW7 := Lib.hid hW7
              have x70 := BX7.cell (i := 0) rfl
              have x71 := BX7.cell (i := 1) rfl
              have x72 := BX7.cell (i := 2) rfl
              have o73 := OB7.cell (i := 3) rfl
              have s7 := D7.size
              have OB8 := Lib.hid (show BoxN (W7.alloc (.cells #[.int .i64 Wv, .int .i64 Kv, .slice A7 rd.length c7] 51)) ob #[.int .i64 nw, .int .i64 kp, .slice A2 ys.length c2, .slice A k c] 30 from (Below.heap_alloc _ _ _ OB7.lt).trans OB7)
              have own8 := Lib.hid (own7.alloc (.cells #[.int .i64 Wv, .int .i64 Kv, .slice A7 rd.length c7] 51))
              have D8 := Lib.hid (show Below wq.heap.size wq (W7.alloc (.cells #[.int .i64 Wv, .int .i64 Kv, .slice A7 rd.length c7] 51)) from D7.alloc s7 _)
              have OR8 := Lib.hid (u_own_below HLB.out.row D8.out)
              have RW8 := Lib.hid (u_own_below HR.out D8.out)
              have HG8 := Lib.hid (HG.out.low (D8.out.mono hsz))
              clear OB6 D6 hW7 OB7 own7 D7 BX7 x0 b0 b1 HXi HGi
              go_upto_region 18 with fail
              rw [HW7.out]
              clear BX6 g2 b2 BXi
              go_wp2_with (at_builtin; refine wpList_append_own _ rfl _ _ 28 rfl w1.heap.size 51 j0 (.agg #[.int .i64 0, .int .i64 0, .slice none 0 0]) 3 40 Try.underlying28 hj hy0 hy1 hy2 rfl (by decide) (.slice A k c) k (lvs es) rfl OR8.out ⟨W7.heap.size, 0, none⟩ 1 1 [.int .i64 Wv, .int .i64 Kv, .slice A7 rd.length c7] rfl rfl (three_cells' (by go_simp) (by go_simp) (by go_simp)) ?c2 ?c3 ?c4 ?c5 ?_)
              case c2 => intro u hu; simp at hu; rcases hu with rfl | rfl | rfl <;> rfl
              case c3 => unfold maxLen; omega
              case c4 => omega
              case c5 => simp; omega
              intro v9 w9 hown9 hgrow9 _
              obtain ⟨A9, c9, rfl⟩ := (ORow.of_own hown9).shape
              have OB9 : BoxN w9 ob #[.int .i64 nw, .int .i64 kp, .slice A2 ys.length c2, .slice A k c] 30 := OB8.out.kept hgrow9 (own_ne_box OR8.out OB8.out lv_ne_ic)
              have LB9 := HST.out _ w9 wx.heap.size (.slice A9 (k + 1) c9) (.slice A7 rd.length c7) D8.out (by omega) own8.out hgrow9 hown9
              have RW9 := own_kept_type RW8.out OR8.out pt_ne_lv hgrow9
              have HG9 := Lib.hid (HG8.out.low ((Below.refl _ _).grown hgrow9 HG8.out.size (fun j e => (OR8.out.lt j e).1)))
              have o93 := OB9.cell (i := 3) rfl
              have f93 := OB9.frozen (i := 3)
              have HO10 := Lib.hid (show BoxN (w9.setCell ⟨ob, 3, none⟩ (.slice A9 (k + 1) c9)) ob #[.int .i64 nw, .int .i64 kp, .slice A2 ys.length c2, .slice A9 (k + 1) c9] 30 from heap_setCell_same w9 ob 3 _ _ (.slice A9 (k + 1) c9) OB9)
              have LB10 := Lib.hid (LB9.setBox OB9 lv_ne_ic rt_ne_ic 3 (.slice A9 (k + 1) c9))
              have RW10 := Lib.hid (own_set_box RW9 OB9 pt_ne_ic 3 (.slice A9 (k + 1) c9))
              have HG10 := Lib.hid (HG9.out.set 3 (.slice A9 (k + 1) c9))
              clear OB9 LB9 RW9 HG9 hown9 hgrow9
              go_wp2_with fail
              go_roundw
              case rel => exact ⟨k + 1, A9, c9, _, by omega, by go_num, HO10, LB10, RW10, HG10⟩
              case measure => simp [intOf]; omega
        · obtain rfl : k = ls.length := by omega
          have HRr : BoxN wq (w.heap.size + 1) #[.int .i64 0, .int .i64 0, .slice none 0 0, .slice none 0 0] 30 := (HG.out.block _ (by omega) (by omega)).trans R1.out
          have y0 := HO.out.cell (i := 0) rfl
          have y1 := HO.out.cell (i := 1) rfl
          have y2 := HO.out.cell (i := 2) rfl
          have y3 := HO.out.cell (i := 3) rfl
          have r0 := HRr.cell (i := 0) rfl
          have r1 := HRr.cell (i := 1) rfl
          have r2 := HRr.cell (i := 2) rfl
          have r3 := HRr.cell (i := 3) rfl
          have f0 := HRr.frozen (i := 0)
          have f1 := HRr.frozen (i := 1)
          have f2 := HRr.frozen (i := 2)
          have f3 := HRr.frozen (i := 3)
          have hne1 : ¬ ob = w.heap.size + 1 := by omega
          have hne2 : ¬ w.heap.size + 1 = ob := by omega
          have hll2 : (ls.map (dropL nw)).length = ls.length := by simp
          have HCD := Lib.hid (show CD wq w1.heap.size wq.heap.size (dropC nw (nw, kp, rp, ls)) (.slice A2 ys.length c2) (.slice A ls.length c) es from
            ⟨by show ORow wq _ _ 43 2 (.slice A2 ys.length c2) (dropP nw kp rp).length (prs (dropP nw kp rp)); rw [HYS.out]; exact ORow.of_own HR.out,
             LB.ld (ls := ls.map (dropL nw)) (by rw [hll2]; exact HLB.out), fun g hg hl => by
              rcases hl with hl | ⟨j, hj', hl⟩
              · exact own_type_ne HR.out HLB.out.row pt_ne_lv (obk_own hg) (obk_own hl)
              · exact own_type_ne HR.out (HLB.out.lv j (by have : j < (ls.map (dropL nw)).length := hj'; omega)).2.2 pt_ne_rt (obk_own hg) (obk_own hl)⟩)
          have HBf := Lib.hid (B1.out.trans (HG.out.below (B := w.heap.size) (by omega) (by omega)))
          have hszf : w.heap.size ≤ w1.heap.size := by omega
          clear HRr HXr hll2
          go_wp2_with fail
          refine bodyPost_ret (v := .agg #[.int .i64 nw, .int .i64 kp, .slice A2 ys.length c2, .slice A ls.length c]) (by simp [results, Try.results77, go_sem, r0, r1, r2, r3]) rfl ⟨.slice A2 ys.length c2, .slice A ls.length c, es, rfl, (CD.at_ (W := wq) HCD.out (fun g hg => ?_)).lift hszf (by simp [World.setCell]), ?_⟩
          · have hlo := (HCD.out.lt hg).1
            repeat (first | with_reducible rfl | refine (Below.heap_setCell _ _ _ _ (by simp; omega)).trans ?_)
          · repeat (first | with_reducible exact HBf.out | refine Below.setCell ?_ (by simp; try omega) _)
end Go.Proofs.Ytcjpedolmnahfaa
