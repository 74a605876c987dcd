/- Walks: the model's copy of a cascade, told by rows of the call's own, empty ones too. -/
import Derived.Test.YtcjpedolmnahfaaWv
import Derived.Test.YtcjpedolmnahfaaZi
set_option linter.unusedVariables false
set_option linter.unusedSimpArgs false
namespace Go.Proofs.Ytcjpedolmnahfaa
open Go.RowKit

theorem LB.co {W : World} {base : Nat} {nw kp : Int} {rp : List (Int × Int)} {rv v : Value} {ls : List Lv} {es : List LvC} (h : LB W base v ls ls.length es) (hr : W.ownsRow base 43 2 rv rp.length (prs rp)) : CO W base (nw, kp, rp, ls) rv v es :=
  ⟨hr, h.len, h.row, fun j hj => ⟨(h.lv j hj).1, (h.lv j hj).2.1⟩, fun j hj => (h.lv j hj).2.2, fun i j g hi hj hne ei ej => by
    rcases Nat.lt_or_gt_of_ne hne with hlt | hgt
    · exact h.dist i j g hlt hj ei ej
    · exact h.dist j i g hgt hi ej ei⟩

set_option maxRecDepth 100000 in
set_option maxHeartbeats 8000000 in
theorem l8CopyO_any (v : Value) (c : Cs) (w : World) (h : CV w w.heap.size v c) (hl4 : c.2.2.2.length ≤ 1000) :
    Calls Try.prog 76 #[v] w (CPostO w.heap.size c w) := by
  obtain ⟨nw, kp, rp, ls⟩ := c
  obtain ⟨rv, lv, rfl, hP, hL, z1, z2⟩ := h
  clear z1 z2
  simp only at hP hL hl4 ⊢
  have HP := Lib.hid hP
  have HL := Lib.hid hL
  have HPS := Lib.hid (show ∀ q ∈ prs rp, q.oneCell' = true from prs_one2 rp)
  obtain ⟨z3, hpl, Ap, cp, rfl, z4⟩ := hP
  obtain ⟨z5, hll, Al, cl, rfl, z6⟩ := hL
  clear z3 z4 z5 z6
  obtain ⟨i0, hi, hz0, hz1, hz2⟩ := info_parts info_pt
  obtain ⟨w1, hw1⟩ : ∃ w1, (w.alloc (.cells #[.int .i64 nw, .int .i64 kp, .slice Ap rp.length cp, .slice Al ls.length cl] 30)).alloc (.cells #[.int .i64 0, .int .i64 0, .slice none 0 0, .slice none 0 0] 30) = w1 := ⟨_, rfl⟩
  have B1 := Lib.hid (show Below w.heap.size w w1 from by rw [← hw1]; exact ((Below.refl _ w).alloc (Nat.le_refl _) _).alloc (by simp) _)
  have X1 : Hid (BoxN w1 w.heap.size #[.int .i64 nw, .int .i64 kp, .slice Ap rp.length cp, .slice Al ls.length cl] 30) := Lib.hid (by
    have h := World.alloc_heap_new w (.cells #[.int .i64 nw, .int .i64 kp, .slice Ap rp.length cp, .slice Al ls.length cl] 30)
    rw [← hw1]
    exact (Below.heap_alloc _ _ _ (by simp)).trans h)
  have R1 : Hid (BoxN w1 (w.heap.size + 1) #[.int .i64 0, .int .i64 0, .slice none 0 0, .slice none 0 0] 30) := Lib.hid (by
    have h := World.alloc_heap_new (w.alloc (.cells #[.int .i64 nw, .int .i64 kp, .slice Ap rp.length cp, .slice Al ls.length cl] 30)) (.cells #[.int .i64 0, .int .i64 0, .slice none 0 0, .slice none 0 0] 30)
    rw [World.size_alloc] at h
    rw [← hw1]; exact h)
  have hsz1 : w.heap.size + 2 ≤ w1.heap.size := by rw [← hw1]; simp
  have HW1 := Lib.hid hw1
  clear hw1
  have x0 := X1.out.cell (i := 0) rfl
  have x1 := X1.out.cell (i := 1) rfl
  have x2 := X1.out.cell (i := 2) rfl
  have hS0 : KC w1 w.heap.size w1.heap.size (.int .i64 nw) (.int .i64 kp) (.slice Ap rp.length cp) w1.drew := ⟨x0, x1, x2, (Below.refl _ _).drew, Nat.le_refl _, by omega⟩
  have HS0 := Lib.hid hS0
  have HSr := Lib.hid (fun W (hb : Below w1.heap.size w1 W) => (show Src W (.slice Ap rp.length cp) rp.length (prs rp) from (HP.out.below (B1.out.trans (hb.mono (by omega)))).src))
  clear hS0
  have OBz2 : Hid (BoxN ((w1.alloc (.cells #[] 43)).alloc (.cells #[.int .i64 0, .int .i64 0, .slice none 0 0, .slice none 0 0] 30)) (w1.heap.size + 1) #[.int .i64 0, .int .i64 0, .slice none 0 0, .slice none 0 0] 30) := Lib.hid (by
    have h := World.alloc_heap_new (w1.alloc (.cells #[] 43)) (.cells #[.int .i64 0, .int .i64 0, .slice none 0 0, .slice none 0 0] 30)
    rw [World.size_alloc] at h
    exact h)
  have OBz3 : Hid (BoxN ((w1.alloc (.cells #[.int .i64 0, .int .i64 0, .slice none 0 0, .slice none 0 0] 30)).alloc (.cells #[] 43)) w1.heap.size #[.int .i64 0, .int .i64 0, .slice none 0 0, .slice none 0 0] 30) := Lib.hid ((Below.heap_alloc _ _ _ (by simp)).trans (World.alloc_heap_new w1 _))
  go_enter Try.func76, Try.ntmps76
  go_upto_region 1 with fail
  rw [HW1.out]
  go_cut [3] (fun cv wx => ∃ (ob : Nat) (pa : Option Addr) (pc : Nat), cv = .pointer (some ⟨ob, 0, none⟩) ∧ BoxN wx ob #[.int .i64 nw, .int .i64 kp, .slice pa rp.length pc, .slice none 0 0] 30 ∧ wx.ownsRow w1.heap.size 43 2 (.slice pa rp.length pc) rp.length (prs rp) ∧ Below w1.heap.size w1 wx ∧ w1.heap.size ≤ ob)
  case first =>
    go_region_held3 (fun W => KC w1 w.heap.size w1.heap.size (.int .i64 nw) (.int .i64 kp) (.slice Ap rp.length cp) W ∧ W.cell? ⟨w.heap.size, 0, none⟩ = some (.int .i64 nw) ∧ W.cell? ⟨w.heap.size, 1, none⟩ = some (.int .i64 kp) ∧ W.cell? ⟨w.heap.size, 2, none⟩ = some (.slice Ap rp.length cp))
      (first | with_reducible assumption | (with_reducible refine KC.of (KC.low (And.left (by assumption)) ?_); (refine Below.setCell (Below.setCell (Below.setCell (Below.setCell (Below.refl _ _) ?_ _) ?_ _) ?_ _) ?_ _); all_goals first | (simp; done) | (simp; omega)) | with_reducible exact KC.of HS0.out | with_reducible exact KC.of (KC.allocD (And.left (by assumption)) _) | with_reducible exact KC.of (KC.alloc (And.left (by assumption)) _) | with_reducible exact KC.of (KC.swap (And.left (by assumption)) (by assumption) _) | with_reducible exact KC.of (KC.grown (And.left (by assumption)) (by assumption) (fun k hk => by simp [Value.ownBlock] at hk; omega)))
      (first
        | (refine step_append_src _ rfl _ _ 27 rfl w1.heap.size 43 i0 (.agg #[.int .i64 0, .int .i64 0]) 2 16 Try.underlying27 hi hz0 hz1 hz2 rfl (by decide) (.slice (some ⟨w1.heap.size, 0, none⟩) 0 0) 0 [] rfl ((World.ownsRow_made w1 (base := w1.heap.size) (e := 43) (size := 2) #[] 0 (Nat.le_refl _) (by simp [maxLen]) rfl).drew) (.slice Ap rp.length cp) rp.length (prs rp) rfl (HSr.out _ (KC.bl (And.left (by assumption)))) (prs_length rp) HPS.out (by unfold maxLen; omega) (by omega) (by simp; try omega) ?_; intro v4 w4 hown4 hgrow4; rw [Nat.zero_add, List.nil_append] at hown4; obtain ⟨pa, pc, rfl⟩ := (ORow.of_own hown4).shape; have hz4 : w1.heap.size ≤ w4.heap.size := Nat.le_trans (by simp; try omega) hgrow4.size)
        | (refine step_append_src _ rfl _ _ 27 rfl w1.heap.size 43 i0 (.agg #[.int .i64 0, .int .i64 0]) 2 16 Try.underlying27 hi hz0 hz1 hz2 rfl (by decide) (.slice (some ⟨w1.heap.size, 0, none⟩) 0 0) 0 [] rfl (((World.ownsRow_made w1 (base := w1.heap.size) (e := 43) (size := 2) #[] 0 (Nat.le_refl _) (by simp [maxLen]) rfl).alloc _).drew) (.slice Ap rp.length cp) rp.length (prs rp) rfl (HSr.out _ (KC.bl (And.left (by assumption)))) (prs_length rp) HPS.out (by unfold maxLen; omega) (by omega) (by simp; try omega) ?_; intro v4 w4 hown4 hgrow4; rw [Nat.zero_add, List.nil_append] at hown4; obtain ⟨pa, pc, rfl⟩ := (ORow.of_own hown4).shape; have hz4 : w1.heap.size ≤ w4.heap.size := Nat.le_trans (by simp; try omega) hgrow4.size; have OB4 : BoxN w4 (w1.heap.size + 1) #[.int .i64 0, .int .i64 0, .slice none 0 0, .slice none 0 0] 30 := (hgrow4.block _ (by first | (simp; done) | (simp; omega)) (by simp [Value.ownBlock])).trans OBz2.out; have f0 := OB4.frozen (i := 0); have f1 := OB4.frozen (i := 1); have f2 := OB4.frozen (i := 2); have f3 := OB4.frozen (i := 3); have o0 := OB4.cell (i := 0) rfl; have o1 := OB4.cell (i := 1) rfl; have o2 := OB4.cell (i := 2) rfl; have o3 := OB4.cell (i := 3) rfl)
        | (refine step_append_src _ rfl _ _ 27 rfl w1.heap.size 43 i0 (.agg #[.int .i64 0, .int .i64 0]) 2 16 Try.underlying27 hi hz0 hz1 hz2 rfl (by decide) (.slice (some ⟨w1.heap.size + 1, 0, none⟩) 0 0) 0 [] rfl (by have hq := World.ownsRow_made (w1.alloc (.cells #[.int .i64 0, .int .i64 0, .slice none 0 0, .slice none 0 0] 30)) (base := w1.heap.size) (e := 43) (size := 2) #[] 0 (by simp) (by simp [maxLen]) rfl; rw [World.size_alloc] at hq; exact hq.drew) (.slice Ap rp.length cp) rp.length (prs rp) rfl (HSr.out _ (KC.bl (And.left (by assumption)))) (prs_length rp) HPS.out (by unfold maxLen; omega) (by omega) (by simp; try omega) ?_; intro v4 w4 hown4 hgrow4; rw [Nat.zero_add, List.nil_append] at hown4; obtain ⟨pa, pc, rfl⟩ := (ORow.of_own hown4).shape; have hz4 : w1.heap.size ≤ w4.heap.size := Nat.le_trans (by simp; try omega) hgrow4.size; have OB4 : BoxN w4 (w1.heap.size) #[.int .i64 0, .int .i64 0, .slice none 0 0, .slice none 0 0] 30 := (hgrow4.block _ (by first | (simp; done) | (simp; omega)) (by simp [Value.ownBlock])).trans OBz3.out; have f0 := OB4.frozen (i := 0); have f1 := OB4.frozen (i := 1); have f2 := OB4.frozen (i := 2); have f3 := OB4.frozen (i := 3); have o0 := OB4.cell (i := 0) rfl; have o1 := OB4.cell (i := 1) rfl; have o2 := OB4.cell (i := 2) rfl; have o3 := OB4.cell (i := 3) rfl))
    all_goals
      go_wp2_with fail
      go_meet
      case rel => first
        | exact ⟨_, pa, pc, rfl, World.alloc_heap_new w4 _, hown4.alloc _, KC.bl (And.left (by assumption)), hz4⟩
        | exact ⟨_, pa, pc, rfl, BoxN.set4 OB4 _ _ _ _, own_set4 hown4 OB4 pt_ne_ic _ _ _ _, KC.bl (And.left (by assumption)), by omega⟩
  case rest =>
    obtain ⟨ob, pa, pc, rfl, hob, hraw, hbc, hobl⟩ := hcut
    have HOB := Lib.hid hob
    have HRW := Lib.hid hraw
    have HBC := Lib.hid hbc
    have hobw := hob.lt
    have HL1 := Lib.hid (show LS w1 w.heap.size (.slice Al ls.length cl) ls from HL.out.below B1.out)
    obtain ⟨j0, hj, hy0, hy1, hy2⟩ := info_parts info_lv
    obtain ⟨k0, hk, hv0, hv1, hv2⟩ := info_parts info_rl
    clear hob hraw hbc HS0 HSr x0 x1 x2
    have HX := Lib.hid (fun W (hb : Below w1.heap.size w1 W) => (show BoxN W w.heap.size #[.int .i64 nw, .int .i64 kp, .slice Ap rp.length cp, .slice Al ls.length cl] 30 from (hb.block _ (by omega)).trans X1.out))
    go_wp2_with fail
    go_loopw [4] (fun i wr => ∃ (k : Nat) (A : Option Addr) (c : Nat) (es : List LvC), k ≤ ls.length ∧ i = .int .i64 (k : Int) ∧ Hid (BoxN wr ob #[.int .i64 nw, .int .i64 kp, .slice pa rp.length pc, .slice A k c] 30) ∧ Hid (LB wr w1.heap.size (.slice A k c) ls k es) ∧ Hid (wr.ownsRow w1.heap.size 43 2 (.slice pa rp.length pc) rp.length (prs rp)) ∧ Hid (Below w1.heap.size w1 wr))
      (fun i _ => ls.length - (intOf i).toNat)
    case atStart => exact ⟨0, none, 0, [], Nat.zero_le _, rfl, HOB, Lib.hid ⟨rfl, World.ownsRow_nil _ _ _ _, fun j hj => by omega, fun i j g hij hj => by omega⟩, HRW, HBC⟩
    case round =>
      obtain ⟨k, A, c, es, hk2, rfl, HO, HLB, HR, HB⟩ := hrel
      have hsz := HB.out.size
      have HXr := HX.out _ HB.out
      have x3 := HXr.cell (i := 3) rfl
      by_cases hlt : k < ls.length
      · have hltI : (k : Int) < (ls.length : Int) := by omega
        obtain ⟨_, _, A', c', hv, h3⟩ := HL1.out
        injection hv with e1 e2 e3
        subst e1 e3
        clear e2
        rcases h3 with h3 | ⟨bl, ol, rfl, hbl, hc⟩
        · subst h3; simp at hlt
        obtain ⟨l0, l1, r, l2, hr⟩ := hc k hlt
        have d0 := (HB.out.cell (p := ⟨bl, ol + k * 3, none⟩) (show bl < w1.heap.size by omega)).trans l0
        have d1 := (HB.out.cell (p := ⟨bl, ol + k * 3 + 1, none⟩) (show bl < w1.heap.size by omega)).trans l1
        have d2 := (HB.out.cell (p := ⟨bl, ol + k * 3 + 2, none⟩) (show bl < w1.heap.size by omega)).trans l2
        clear l0 l1 l2 hc
        have hr' := hr
        have hrl := hr.2.1
        obtain ⟨_, _, Ar, cr, rfl, _⟩ := hr
        have HRL := Lib.hid (fun W (hb : Below w1.heap.size w1 W) => (hr'.below (hb.mono (by omega))).src)
        obtain ⟨Wv, Kv, rs, hx⟩ : ∃ Wv Kv rs, ls.getD k zLv = (Wv, Kv, rs) := ⟨_, _, _, rfl⟩
        have HXX := Lib.hid hx
        rw [hx] at d0 d1 d2 hrl HRL
        simp only at d0 d1 d2 hrl HRL
        have HST := Lib.hid (fun (W1 W2 : World) (lo : Nat) (v' r : Value) (hb : Below wr.heap.size wr W1) (hlo : wr.heap.size ≤ lo) (hr : W1.ownsRow lo 48 6 r rs.length (rls rs)) (hg : W1.grownBy W2 (Value.ownBlock (.slice A k c))) (hrow : W2.ownsRow w1.heap.size 51 3 v' (k + 1) (lvs es ++ [.int .i64 Wv, .int .i64 Kv, r])) => (by
          have h := HLB.out.step hb hlo (by omega) (by rw [hx]; exact hr) hg (by rw [hx]; exact hrow)
          rw [hx] at h; exact h : LB W2 w1.heap.size v' ls (k + 1) (es ++ [(Wv, Kv, r)])))
        clear hx hr'
        obtain ⟨wx, hwx⟩ : ∃ wx, wr.alloc (.cells #[.int .i64 Wv, .int .i64 Kv, .slice Ar rs.length cr] 51) = wx := ⟨_, rfl⟩
        have BX : BoxN wx wr.heap.size #[.int .i64 Wv, .int .i64 Kv, .slice Ar rs.length cr] 51 := by rw [← hwx]; exact World.alloc_heap_new wr _
        have hszx : wr.heap.size < wx.heap.size := BX.lt
        have Dx := Lib.hid (show Below wr.heap.size wr wx from by rw [← hwx]; exact (Below.refl _ _).alloc (Nat.le_refl _) _)
        have BX2 : BoxN (wx.alloc (.cells #[] 48)) wr.heap.size #[.int .i64 Wv, .int .i64 Kv, .slice Ar rs.length cr] 51 := (Below.heap_alloc _ _ _ BX.lt).trans BX
        have b2 := BX2.cell (i := 2) rfl
        have OE := Lib.hid (World.ownsRow_made wx (base := wx.heap.size) (e := 48) (size := 6) #[] 0 (Nat.le_refl _) (by simp [maxLen]) rfl)
        have De := Lib.hid (show Below wr.heap.size wr (wx.alloc (.cells #[] 48)) from Dx.out.alloc (by omega) _)
        have HWX := Lib.hid hwx
        clear hwx
        go_upto_region 6 with fail
        rw [HWX.out]
        go_wp2_with (at_builtin; refine wpList_append_src rfl _ _ 44 rfl wx.heap.size 48 k0 (.agg #[.int .i64 0, .int .i64 0, .int .i64 0, .int .i64 0, .int .i64 0, .int .i64 0]) 6 48 Try.underlying44 hk hv0 hv1 hv2 rfl (by decide) (.slice (some ⟨wx.heap.size, 0, none⟩) 0 0) 0 [] rfl OE.out (.slice Ar rs.length cr) rs.length (rls rs) rfl (HRL.out _ (HB.out.trans (De.out.mono hsz))) (rls_length rs) (rls_one rs) ?c3 ?c4 ?c5 ?_)
        case c3 => unfold maxLen; omega
        case c4 => omega
        case c5 => simp
        intro v6 w6 hown6 hgrow6
        try rw [Nat.zero_add, List.nil_append] at hown6
        obtain ⟨ra, rc, rfl⟩ := (ORow.of_own hown6).shape
        have BX6 : BoxN w6 wr.heap.size #[.int .i64 Wv, .int .i64 Kv, .slice Ar rs.length cr] 51 := BX2.kept hgrow6 (by simp [Value.ownBlock]; omega)
        have D6 : Below wr.heap.size wr w6 := De.out.grown hgrow6 (by simp; omega) (fun k e => by simp [Value.ownBlock] at e; omega)
        have hobr := HO.out.lt
        have OB6 : BoxN w6 ob #[.int .i64 nw, .int .i64 kp, .slice pa rp.length pc, .slice A k c] 30 := (D6.block ob hobr).trans HO.out
        have g2 := BX6.frozen (i := 2)
        have b62 := BX6.cell (i := 2) rfl
        obtain ⟨W7, hW7⟩ : ∃ W7, w6.setCell ⟨wr.heap.size, 2, none⟩ (.slice ra rs.length rc) = W7 := ⟨_, rfl⟩
        have BX7 : BoxN W7 wr.heap.size #[.int .i64 Wv, .int .i64 Kv, .slice ra rs.length rc] 51 := by rw [← hW7]; exact heap_setCell_same w6 wr.heap.size 2 _ _ (.slice ra rs.length rc) BX6
        have OB7 : BoxN W7 ob #[.int .i64 nw, .int .i64 kp, .slice pa rp.length pc, .slice A k c] 30 := by rw [← hW7]; exact (Below.heap_setCell _ _ _ _ (by simp; omega)).trans OB6
        have own7 : W7.ownsRow wx.heap.size 48 6 (.slice ra rs.length rc) rs.length (rls rs) := by rw [← hW7]; exact own_set_box hown6 BX6 lv_ne_rt 2 _
        have D7 : Below wr.heap.size wr W7 := by rw [← hW7]; exact D6.setCell (p := ⟨wr.heap.size, 2, none⟩) (Nat.le_refl _) _
        have HW7 := Lib.hid hW7
        have x70 := BX7.cell (i := 0) rfl
        have x71 := BX7.cell (i := 1) rfl
        have x72 := BX7.cell (i := 2) rfl
        have o73 := OB7.cell (i := 3) rfl
        have s7 := D7.size
        have OB8 := Lib.hid (show BoxN (W7.alloc (.cells #[.int .i64 Wv, .int .i64 Kv, .slice ra rs.length rc] 51)) ob #[.int .i64 nw, .int .i64 kp, .slice pa rp.length pc, .slice A k c] 30 from (Below.heap_alloc _ _ _ OB7.lt).trans OB7)
        have own8 := Lib.hid (own7.alloc (.cells #[.int .i64 Wv, .int .i64 Kv, .slice ra rs.length rc] 51))
        have D8 := Lib.hid (show Below wr.heap.size wr (W7.alloc (.cells #[.int .i64 Wv, .int .i64 Kv, .slice ra rs.length rc] 51)) from D7.alloc s7 _)
        have OR8 := Lib.hid (u_own_below HLB.out.row D8.out)
        have RW8 := Lib.hid (u_own_below HR.out D8.out)
        have LS7 := Lib.hid hszx
        clear hgrow6 hown6 OB6 D6 hW7 BX2 b2 BX OB7 own7 D7 BX7
        go_upto_region 7 with fail
        rw [HW7.out]
        go_wp2_with (at_builtin; refine wpList_append_own _ rfl _ _ 28 rfl w1.heap.size 51 j0 (.agg #[.int .i64 0, .int .i64 0, .slice none 0 0]) 3 40 Try.underlying28 hj hy0 hy1 hy2 rfl (by decide) (.slice A k c) k (lvs es) rfl OR8.out ⟨W7.heap.size, 0, none⟩ 1 1 [.int .i64 Wv, .int .i64 Kv, .slice ra rs.length rc] rfl rfl (three_cells' (by go_simp) (by go_simp) (by go_simp)) ?c2 ?c3 ?c4 ?c5 ?_)
        case c2 => intro u hu; simp at hu; rcases hu with rfl | rfl | rfl <;> rfl
        case c3 => unfold maxLen; omega
        case c4 => omega
        case c5 => simp; omega
        intro v9 w9 hown9 hgrow9 _
        obtain ⟨A9, c9, rfl⟩ := (ORow.of_own hown9).shape
        have OB9 : BoxN w9 ob #[.int .i64 nw, .int .i64 kp, .slice pa rp.length pc, .slice A k c] 30 := OB8.out.kept hgrow9 (own_ne_box OR8.out OB8.out lv_ne_ic)
        have LB9 := HST.out _ w9 wx.heap.size (.slice A9 (k + 1) c9) (.slice ra rs.length rc) D8.out (by omega) own8.out hgrow9 hown9
        have RW9 := own_kept_type RW8.out OR8.out pt_ne_lv hgrow9
        have HB9 := Lib.hid ((HB.out.trans (D8.out.mono hsz)).grown hgrow9 (Nat.le_trans hsz D8.out.size) (fun j e => (OR8.out.lt j e).1))
        have o93 := OB9.cell (i := 3) rfl
        have f93 := OB9.frozen (i := 3)
        have HO10 := Lib.hid (show BoxN (w9.setCell ⟨ob, 3, none⟩ (.slice A9 (k + 1) c9)) ob #[.int .i64 nw, .int .i64 kp, .slice pa rp.length pc, .slice A9 (k + 1) c9] 30 from heap_setCell_same w9 ob 3 _ _ (.slice A9 (k + 1) c9) OB9)
        have LB10 := Lib.hid (LB9.setBox OB9 lv_ne_ic rt_ne_ic 3 (.slice A9 (k + 1) c9))
        have RW10 := Lib.hid (own_set_box RW9 OB9 pt_ne_ic 3 (.slice A9 (k + 1) c9))
        have HB10 := Lib.hid (HB9.out.setCell (p := ⟨ob, 3, none⟩) hobl (.slice A9 (k + 1) c9))
        clear OB9 LB9 RW9 HB9 hown9 hgrow9
        go_wp2_with fail
        go_roundw
        case rel => exact ⟨k + 1, A9, c9, _, by omega, by go_num, HO10, LB10, RW10, HB10⟩
        case measure => simp [intOf]; omega
      · obtain rfl : k = ls.length := by omega
        have HRr : BoxN wr (w.heap.size + 1) #[.int .i64 0, .int .i64 0, .slice none 0 0, .slice none 0 0] 30 := (HB.out.block _ (by omega)).trans R1.out
        have y0 := HO.out.cell (i := 0) rfl
        have y1 := HO.out.cell (i := 1) rfl
        have y2 := HO.out.cell (i := 2) rfl
        have y3 := HO.out.cell (i := 3) rfl
        have r0 := HRr.cell (i := 0) rfl
        have r1 := HRr.cell (i := 1) rfl
        have r2 := HRr.cell (i := 2) rfl
        have r3 := HRr.cell (i := 3) rfl
        have f0 := HRr.frozen (i := 0)
        have f1 := HRr.frozen (i := 1)
        have f2 := HRr.frozen (i := 2)
        have f3 := HRr.frozen (i := 3)
        have hne1 : ¬ ob = w.heap.size + 1 := by omega
        have hne2 : ¬ w.heap.size + 1 = ob := by omega
        have HCD := Lib.hid (show CO wr w1.heap.size (nw, kp, rp, ls) (.slice pa rp.length pc) (.slice A ls.length c) es from HLB.out.co HR.out)
        have HBf := Lib.hid (B1.out.trans (HB.out.mono (by omega)))
        have hszf : w.heap.size ≤ w1.heap.size := by omega
        clear HRr HXr
        go_wp2_with fail
        refine bodyPost_ret (v := .agg #[.int .i64 nw, .int .i64 kp, .slice pa rp.length pc, .slice A ls.length c]) (by simp [results, Try.results76, go_sem, r0, r1, r2, r3]) rfl ⟨.slice pa rp.length pc, .slice A ls.length c, es, rfl, (CO.at_ (W := wr) HCD.out (fun g hg => ?_)).lift hszf, ?_⟩
        · have hlo := (HCD.out.lt hg).1
          repeat (first | with_reducible rfl | refine (Below.heap_setCell _ _ _ _ (by simp; omega)).trans ?_)
        · repeat (first | with_reducible exact HBf.out | refine Below.setCell ?_ (by simp; try omega) _)
end Go.Proofs.Ytcjpedolmnahfaa
