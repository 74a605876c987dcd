/- Walks: DrawPointsOk, DrawBlockOf, DrawPointsOf. -/
import Derived.Test.YtldjeacpkndcbaaDoorDs
import Derived.Deep.RegionLaw
set_option linter.unusedVariables false
set_option linter.unusedSimpArgs false
namespace Go.Proofs.YtldjeacpkndcbaaDoor
open Go.RowKit

def PtsPost9 (w : World) (e : Ending) (w' : World) : Prop :=
  ∃ v xs, e = .returned v ∧ w'.ownsRow w.heap.size 89 2 v xs.length (prs xs) ∧ xs.length ≤ 9 ∧ (∀ j, Rng (xs.getD j (0, 0)).1 ∧ Rng (xs.getD j (0, 0)).2) ∧ Below w.heap.size w w'

theorem made_pt (w : World) (a b : Value) (base : Nat) (h : base ≤ w.heap.size) : (w.alloc (.cells #[a, b] 89)).ownsRow base 89 2 (.slice (some ⟨w.heap.size, 0, none⟩) 1 1) 1 [a, b] :=
  ⟨rfl, .inr ⟨w.heap.size, 1, #[a, b], rfl, h, heap_alloc_new w _, Nat.le_refl _, by simp [maxLen], rfl, rfl⟩⟩

set_option maxRecDepth 100000 in
set_option maxHeartbeats 1000000 in
theorem DrawPointsOk_any (A : Option Addr) (n c : Nat) (w : World) (h : CodeAt w A n c) :
    Calls Tryd.prog 24 #[.slice A n c] w (PtsPost9 w) := by
  have H1 := Lib.hid h
  clear h
  go_enter Tryd.func24, Tryd.ntmps24
  go_wp2_with fail
  refine (open_any A n c _ H1.out).mono ?_
  rintro e w1 ⟨rfl, hrd, hb1⟩
  have HB1 := Lib.hid hb1
  have Hrd := Lib.hid hrd
  clear hrd hb1
  go_wp2_with fail
  refine (drawnPts_any 9 (by omega) _ _ _ Hrd.out).mono ?_
  rintro e w2 ⟨v, xs, rfl, ho, hrd2, hg, hl, hr⟩
  have HB2 := Lib.hid (HB1.out.grown hg HB1.out.size (fun k hk => by injection hk with hk; omega))
  have HO := Lib.hid (u_ownsRow_base ho HB1.out.size)
  clear ho hg hrd2
  go_wp2_with fail
  go_ret
  exact ⟨v, xs, rfl, HO.out, hl, hr, HB2.out⟩

set_option maxRecDepth 100000 in
set_option maxHeartbeats 2000000 in
theorem DrawBlockOf_any (A : Option Addr) (n c : Nat) (w : World) (h : CodeAt w A n c) :
    Calls Tryd.prog 18 #[.slice A n c] w (PtsPost9 w) := by
  have H1 := Lib.hid h
  clear h
  go_enter Tryd.func18, Tryd.ntmps18
  go_wp2_with fail
  refine (open_any A n c _ H1.out).mono ?_
  rintro e w1 ⟨rfl, hrd, hb1⟩
  have HB1 := Lib.hid hb1
  have Hrd := Lib.hid hrd
  clear hrd hb1
  go_wp2_with fail
  refine (drawnPts_any 9 (by omega) _ _ _ Hrd.out).mono ?_
  rintro e w2 ⟨v, xs, rfl, ho, hrd2, hg, hl, hr⟩
  have HB2 := Lib.hid (HB1.out.grown hg HB1.out.size (fun k hk => by injection hk with hk; omega))
  have HO1 := Lib.hid ho
  have hglt : w.heap.size < w1.heap.size := Hrd.out.lt
  have HO := Lib.hid (u_ownsRow_base ho HB1.out.size)
  have Hr := Lib.hid hr
  have Hrd2 := Lib.hid hrd2
  obtain ⟨_, _, Av, cv, rfl, _⟩ := PL.of_own ho rfl hr (by omega)
  clear ho hg hrd2 hr
  by_cases h0 : xs.length = 0
  · have hi : ((xs.length : Int) == 0) = true := by simp [h0]
    have hd : decide ((xs.length : Int) = 0) = true := by simp [h0]
    go_wp2_with fail
    refine (once_any _ _ 8 _ Hrd2.out (by omega) (by omega)).mono ?_
    rintro e w4 ⟨q, rfl, ⟨b, rfl⟩, hrd4, hgr4⟩
    have HB4 := Lib.hid (HB2.out.grown hgr4 HB2.out.size (fun k hk => by injection hk with hk; omega))
    cases b with
    | true =>
      have hx : xs = [] := List.eq_nil_of_length_eq_zero h0
      go_wp2_with fail
      go_ret
      refine ⟨_, [], rfl, ?_, by simp, fun j => ⟨by simpa using rng_zero, by simpa using rng_zero⟩, HB4.out⟩
      subst hx
      exact u_ownsRow_base (own_grown HO1.out hgr4 hglt) HB1.out.size
    | false =>
      have Hrd4 := Lib.hid hrd4
      clear hrd4 hgr4
      go_wp2_with fail
      refine (below_any _ _ 99 _ Hrd4.out (by omega) (by omega)).mono ?_
      rintro e w5 ⟨q, rfl, ⟨x, rfl, hx0, hx1⟩, hrd5, hgr5⟩
      have HB5 := Lib.hid (HB4.out.grown hgr5 HB4.out.size (fun k hk => by injection hk with hk; omega))
      have Hrd5 := Lib.hid hrd5
      clear hrd5 hgr5
      go_wp2_with fail
      refine (num_any _ _ _ Hrd5.out).mono ?_
      rintro e w6 ⟨q, rfl, ⟨y, rfl, hy0, hy1⟩, hrd6, hgr6⟩
      have HB6 := Lib.hid (HB5.out.grown hgr6 HB5.out.size (fun k hk => by injection hk with hk; omega))
      clear hrd6 hgr6
      have hmade := made_pt w6 (.int .i64 x) (.int .i64 y) w.heap.size HB6.out.size
      have HM := Lib.hid hmade
      clear hmade
      go_wp2_with fail
      go_ret
      refine ⟨_, [(x, y)], rfl, HM.out, by simp, fun j => ?_, HB6.out.alloc HB6.out.size _⟩
      rcases j with _ | j
      · exact ⟨⟨by show -9223372036854775808 ≤ x; omega, by show x ≤ 9223372036854775807; omega⟩, ⟨hy0, hy1⟩⟩
      · exact ⟨by simpa using rng_zero, by simpa using rng_zero⟩
  · have hi : ((xs.length : Int) == 0) = false := by simp [h0]
    have hd : decide ((xs.length : Int) = 0) = false := by simp [h0]
    go_wp2_with fail
    go_ret
    exact ⟨_, xs, rfl, HO.out, hl, Hr.out, HB2.out⟩
theorem KB.other {w : World} {g : Nat} {N : Int} {D : ByteArray} (h : KB w g N D) {a : Addr} (ha : g ≠ a.block) (v : Value) : KB (w.setCell a v) g N D := by
  have ha' : ¬ a.block = g := fun e => ha e.symm
  unfold KB at h ⊢
  simp only [World.setCell, Array.getElem?_modify, if_neg ha', h]
theorem KB.set0 {w : World} {g : Nat} {N N' : Int} {D : ByteArray} (h : KB w g N D) : KB (w.setCell ⟨g, 0, none⟩ (.int .i64 N')) g N' D := by
  unfold KB at h ⊢
  simp only [World.setCell, Array.getElem?_modify, if_pos, h, Option.map_some]
  rfl
theorem KB.set1 {w : World} {g : Nat} {N : Int} {D D' : ByteArray} (h : KB w g N D) : KB (w.setCell ⟨g, 1, none⟩ (.string D')) g N D' := by
  unfold KB at h ⊢
  simp only [World.setCell, Array.getElem?_modify, if_pos, h, Option.map_some]
  rfl
def BlkDraw (w : World) (e : Ending) (w' : World) : Prop :=
  ∃ N s, e = .returned (.agg #[.int .i64 N, .string s]) ∧ Rng N ∧ s.size ≤ 2000 ∧ Below w.heap.size w w'
structure DBk (w : World) (b : Nat) (N : Int) (s : ByteArray) (W : World) : Prop where
  hb : w.heap.size + 1 < b
  r : KB W w.heap.size 0 ⟨#[]⟩
  v : KB W b N s
  rd : Rd W (w.heap.size + 1) (w.heap.size + 1)
  f : Below w.heap.size w W
theorem DBk.drew {w : World} {b : Nat} {N : Int} {s : ByteArray} {W : World} (h : DBk w b N s W) : DBk w b N s W.drew := ⟨h.hb, h.r, h.v, h.rd.drew, h.f.drew⟩
theorem DBk.read {w : World} {b : Nat} {N : Int} {s : ByteArray} {W W' : World} (h : DBk w b N s W) (hrd : Rd W' (w.heap.size + 1) (w.heap.size + 1)) (hg : W.grownBy W' (some (w.heap.size + 1))) : DBk w b N s W' :=
  ⟨h.hb, h.r.grown hg (by omega), h.v.grown hg (by have := h.hb; omega), hrd, h.f.grown hg h.f.size (fun k hk => by injection hk with hk; omega)⟩
theorem dt_wrap64 (x : Int) : Rng (wrap64 x) := by unfold Rng wrap64; omega
theorem dt_wrap (x : Int) : Rng (IntKind.i64.wrap x) := by rw [IntWalk.i64_left x]; unfold Rng wrap64; omega

set_option maxRecDepth 100000 in
set_option maxHeartbeats 4000000 in
theorem DrawPointsOf_any (A : Option Addr) (n c : Nat) (w : World) (h : CodeAt w A n c) :
    Calls Tryd.prog 21 #[.slice A n c] w (BlkDraw w) := by
  have H1 := Lib.hid (h.below (below1 w (.cells #[.int .i64 0, .string ⟨#[]⟩] 38)))
  have HK0 := Lib.hid (KB.new w 0 ⟨#[]⟩)
  have HB0 := Lib.hid (below1 w (.cells #[.int .i64 0, .string ⟨#[]⟩] 38))
  have z0 : w.heap.size < (w.alloc (.cells #[.int .i64 0, .string ⟨#[]⟩] 38)).heap.size := by simp
  have hz0 : (w.alloc (.cells #[.int .i64 0, .string ⟨#[]⟩] 38)).heap.size = w.heap.size + 1 := by simp
  have HZ0 := Lib.hid hz0
  clear h hz0
  go_enter Tryd.func21, Tryd.ntmps21
  go_wp2_with fail
  refine (open_any A n c _ H1.out).mono ?_
  rintro e w1 ⟨rfl, hrd, hb1⟩
  rw [HZ0.out] at hrd
  have C1 := Lib.hid (H1.out.below hb1)
  have K1 := Lib.hid (HK0.out.below hb1 z0)
  have F1 := Lib.hid (HB0.out.trans (hb1.mono HB0.out.size))
  have R1 := Lib.hid hrd
  clear hrd hb1 H1
  go_wp2_with fail
  refine (DrawBlockOf_any A n c _ C1.out).mono ?_
  rintro e w2 ⟨v, xs, rfl, ho, hl, hr, hb2⟩
  have P2 := Lib.hid (PL.of_own ho rfl hr (by omega))
  have K2 := Lib.hid (K1.out.below hb2 K1.out.lt)
  have R2 := Lib.hid (R1.out.below hb2)
  have F2 := Lib.hid (F1.out.trans (hb2.mono F1.out.size))
  have hbk := bkD_size xs
  have hbn := bkN_rng xs (by omega)
  have z12 : w.heap.size + 1 < w2.heap.size := R2.out.lt
  clear ho hb2 K1 R1 F1 C1
  go_wp2_with fail
  refine (specBlockOf_any v xs _ P2.out).mono ?_
  rintro e w3 ⟨rfl, hb3⟩
  have z3 := hb3.size
  have HD := Lib.hid (show DBk w w3.heap.size (bkN xs) (bkD xs) (w3.alloc (.cells #[.int .i64 (bkN xs), .string (bkD xs)] 38)) from
    ⟨by omega, (K2.out.below hb3 K2.out.lt).below (below1 _ _) (Nat.lt_of_lt_of_le K2.out.lt z3), KB.new _ _ _, (R2.out.below hb3).alloc _, (F2.out.trans (hb3.mono F2.out.size)).trans ((below1 _ _).mono (by have := F2.out.size; omega))⟩)
  clear hb3 K2 R2 F2 P2 hl hr
  generalize bkN xs = N at *
  generalize bkD xs = D at *
  go_wp2_with fail
  refine (below_any _ _ 4 _ HD.out.rd (by omega) (by omega)).mono ?_
  rintro e w4 ⟨q, rfl, ⟨y, rfl, hy0, hy1⟩, hrd4, hgr4⟩
  have HD4 := Lib.hid (HD.out.read hrd4 hgr4)
  clear hrd4 hgr4 HD z3 z12
  generalize w3.heap.size = bb at *
  by_cases y2 : y = 2
  · subst y2
    have x1 := HD4.out.v.c1
    go_wp2_with fail
    refine (hurt_any _ _ D _ HD4.out.rd (by omega)).mono ?_
    rintro e w5 ⟨q, rfl, ⟨t, rfl, hts⟩, hrd5, hgr5⟩
    have HD5 := HD4.out.read hrd5 hgr5
    have hb := HD5.hb
    have f1 := HD5.v.f 1
    have c1 := HD5.v.c1
    have HV := HD5.v.set1 (D' := t)
    have HR := HD5.r.other (a := ⟨bb, 1, none⟩) (by show w.heap.size ≠ bb; omega) (.string t)
    have k0 := HV.c0
    have k1 := HV.c1
    have r0 := HR.c0
    have r1 := HR.c1
    have g0 := HR.f 0
    have g1 := HR.f 1
    have HF := Lib.hid (HD5.f.setCell (show w.heap.size ≤ (⟨bb, 1, none⟩ : Addr).block by show w.heap.size ≤ bb; omega) (.string t))
    clear hrd5 hgr5 HD4 HV HR HD5 x1
    go_wp2_with fail
    apply bodyPost_ret
    · simp [results, Tryd.results21, go_sem, r0, r1]; rfl
    · rfl
    · exact ⟨N, t, rfl, hbn, by omega, (HF.out.setCell (by simp) _).setCell (by simp) _⟩
  · have y2b : (y == 2) = false := by simpa using y2
    have y2d : decide (y = 2) = false := by simpa using y2
    by_cases y3 : y = 3
    · subst y3
      have HDX := HD4
      clear HD4
      go_wp2_with fail
      have k0 := HDX.out.v.c0
      have k1 := HDX.out.v.c1
      have f0 := HDX.out.v.f 0
      go_region_law (first
        | (go_simp; go_at_call 54; (refine (below_any (w.heap.size + 1) (w.heap.size + 1) _ _ (by first | exact HDX.out.rd | exact HDX.out.drew.rd) (by omega) (by omega)).mono ?_); rintro e W5 ⟨_, rfl, ⟨y, rfl, hy0, hy1⟩, hrdX, hgrX⟩; have HDY : DBk w bb N D W5 := (by first | exact HDX.out.read hrdX hgrX | exact HDX.out.drew.read hrdX hgrX); clear HDX; have HDX := Lib.hid HDY; have k0 := HDY.v.c0; have k1 := HDY.v.c1; have f0 := HDY.v.f 0; clear hrdX hgrX HDY hy0 hy1))
      all_goals
        have hb := HDX.out.hb
        have r0 := HDX.out.r.c0
        have r1 := HDX.out.r.c1
        have g0 := HDX.out.r.f 0
        have g1 := HDX.out.r.f 1
        have HF := Lib.hid HDX.out.f
        have hle : w.heap.size ≤ bb := by omega
        have hne : ¬ bb = w.heap.size := by omega
        have hne' : ¬ w.heap.size = bb := by omega
        clear HDX hb
        go_wp2_with fail
        apply bodyPost_ret
        · simp [results, Tryd.results21, go_sem, r0, r1, hne, hne']; rfl
        · rfl
        · exact ⟨_, D, rfl, by first | exact dt_wrap _ | exact dt_wrap64 _, by omega, ((HF.out.setCell (by show w.heap.size ≤ bb; exact hle) _).setCell (by simp) _).setCell (by simp) _⟩
    · have y3b : (y == 3) = false := by simpa using y3
      have y3d : decide (y = 3) = false := by simpa using y3
      have k0 := HD4.out.v.c0
      have k1 := HD4.out.v.c1
      have r0 := HD4.out.r.c0
      have r1 := HD4.out.r.c1
      have g0 := HD4.out.r.f 0
      have g1 := HD4.out.r.f 1
      go_wp2_with fail
      apply bodyPost_ret
      · simp [results, Tryd.results21, go_sem, r0, r1]; rfl
      · rfl
      · exact ⟨N, D, rfl, hbn, by omega, (HD4.out.f.setCell (by simp) _).setCell (by simp) _⟩
end Go.Proofs.YtldjeacpkndcbaaDoor

/- Walks: the law FnBlocks. -/
set_option linter.unusedVariables false
set_option linter.unusedSimpArgs false
namespace Go.Proofs.YtldjeacpkndcbaaDoor
open Go.RowKit

theorem below_drewN_s {B : Nat} {a w : World} (h : Below B a w) (n : Nat) : Below B a (w.drewN n) := ⟨h.os, h.tape, h.output, h.size, h.block⟩
set_option maxRecDepth 100000 in
set_option maxHeartbeats 2000000 in
theorem samePointsB_any (v u : Value) (xs : List (Int × Int)) (w : World) (h : PL w w.heap.size v xs) (h' : PL w w.heap.size u xs) :
    Calls Tryd.prog 25 #[v, u] w fun e w' => e = .returned (.bool true) ∧ Below w.heap.size w w' := by
  obtain ⟨_, hlen, A, c, rfl, h3⟩ := h
  obtain ⟨_, _, A', c', rfl, h3'⟩ := h'
  go_enter Tryd.func25, Tryd.ntmps25
  go_wp2_with fail
  go_loopw [5] (fun i wr => ∃ (j k : Nat), j ≤ xs.length ∧ i = .int .i64 j ∧ wr = w.drewN k) (fun i _ => xs.length - (intOf i).toNat)
  case atStart => exact ⟨0, 0, Nat.zero_le _, rfl, rfl⟩
  case round =>
    obtain ⟨j, k, hk, rfl, rfl⟩ := hrel
    by_cases hlt : j < xs.length
    · rcases h3 with h3 | ⟨b, off, rfl, hbl, hc⟩
      · subst h3; simp at hlt
      rcases h3' with h3' | ⟨b', off', rfl, hbl', hc'⟩
      · subst h3'; simp at hlt
      have hx0 : w.cell? ⟨b, off + j * 2, none⟩ = some (.int .i64 (xs.getD j (0, 0)).1) := (hc j hlt).1
      have hy0 : w.cell? ⟨b', off' + j * 2, none⟩ = some (.int .i64 (xs.getD j (0, 0)).1) := (hc' j hlt).1
      have hx1 : w.cell? ⟨b, off + j * 2 + 1, none⟩ = some (.int .i64 (xs.getD j (0, 0)).2) := (hc j hlt).2
      have hy1 : w.cell? ⟨b', off' + j * 2 + 1, none⟩ = some (.int .i64 (xs.getD j (0, 0)).2) := (hc' j hlt).2
      clear hc hc'
      generalize (xs.getD j (0, 0)).1 = z0 at *
      generalize (xs.getD j (0, 0)).2 = z1 at *
      go_wp2_with fail
      go_quiet (fail)
      go_wp2_with fail
      go_roundw
      case rel => exact ⟨j + 1, _, by omega, by go_num, rfl⟩
      case measure => simp [intOf]; omega
    · obtain rfl : j = xs.length := by omega
      go_wp2_with fail
      go_ret
      exact ⟨rfl, below_drewN_s (Below.refl _ _) _⟩

/-- what the law's later calls need of a world -/
structure BQ (w : World) (v : Value) (xs : List (Int × Int)) (gb gw gx : Nat) (N : Int) (D : ByteArray) (M : Int) (E : ByteArray) (vx vy vz : Value) (X Z : List (Int × Int)) (W : World) : Prop where
  i : PL W W.heap.size v xs
  b : KB W gb N D
  c : KB W gw N D
  d : KB W gx M E
  x : PL W W.heap.size vx X
  y : PL W W.heap.size vy X
  z : PL W W.heap.size vz Z
  f : Below w.heap.size w W
theorem BQ.next {w : World} {v : Value} {xs : List (Int × Int)} {gb gw gx : Nat} {N : Int} {D : ByteArray} {M : Int} {E : ByteArray} {vx vy vz : Value} {X Z : List (Int × Int)} {W W' : World} (h : BQ w v xs gb gw gx N D M E vx vy vz X Z W) (hb : Below W.heap.size W W') : BQ w v xs gb gw gx N D M E vx vy vz X Z W' :=
  ⟨(h.i.below hb).up hb.size, h.b.below hb h.b.lt, h.c.below hb h.c.lt, h.d.below hb h.d.lt, (h.x.below hb).up hb.size, (h.y.below hb).up hb.size, (h.z.below hb).up hb.size, h.f.trans (hb.mono h.f.size)⟩
theorem du_back {xs : List (Int × Int)} (hr : ∀ j, Rng (xs.getD j (0, 0)).1 ∧ Rng (xs.getD j (0, 0)).2) (h : bkB xs = true) : ptsB (bkD xs) (bkN xs) = some xs := ptsB_back hr h rfl rfl

set_option maxRecDepth 100000 in
set_option maxHeartbeats 8000000 in
theorem walkFnBlocks (A : Option Addr) (n c : Nat) (w : World) (h : n ≤ 1048576 → CodeAt w A n c) (hT : Tab w) :
    Calls Tryd.prog 4 #[.slice A n c] w fun e w' => e = .returned (.bool true) ∧ Below w.heap.size w w' := by
  have hbig := fun W => big_any A n c W
  have HTab := Lib.hid hT
  clear hT
  by_cases hn : n ≤ 1048576
  · have H := Lib.hid (h hn)
    have hd : decide (1048576 < (n : Int)) = false := by simp; omega
    rw [hd] at hbig
    have Hbig := Lib.hid hbig
    clear hbig hd h
    go_enter Tryd.func4, Tryd.ntmps4
    go_wp2_with fail
    refine (Hbig.out _).mono ?_
    rintro e w' ⟨rfl, rfl⟩
    go_wp2_with fail
    refine (DrawBlockOf_any A n c _ H.out).mono ?_
    rintro e w1 ⟨v, xs, rfl, hown, hxl, hxr, hb1⟩
    have I1 := Lib.hid (PL.of_own hown rfl hxr (by omega))
    have B1 := Lib.hid hb1
    have C1 := Lib.hid (H.out.below hb1)
    have HRx := Lib.hid hxr
    clear hown hxr hb1 H
    have him := Lib.hid (fun W h hT => implBlockOf_any v xs W h hT)
    have hsp := Lib.hid (fun W h => specBlockOf_any v xs W h)
    have hsx := Lib.hid (fun v u W h h' => samePointsB_any v u xs W h h')
    have HBack := Lib.hid (du_back HRx.out)
    have hDs : (bkD xs).size ≤ 1000000000000 := by have := bkD_size xs; omega
    unfold BlkPost at him hsp
    generalize bkN xs = N at *
    generalize bkD xs = D at *
    generalize bkB xs = F at *
    go_wp2_with fail
    refine (him.out _ I1.out (HTab.out.below B1.out)).mono ?_
    rintro e w2 ⟨rfl, hb2⟩
    have ha : Below w2.heap.size w2 (w2.alloc (.cells #[.int .i64 N, .string D] 38)) := below1 w2 _
    have hb2a := hb2.trans (ha.mono hb2.size)
    have I2 := Lib.hid ((I1.out.below hb2a).up hb2a.size)
    have C2 := Lib.hid (C1.out.below hb2a)
    have B2 := Lib.hid (B1.out.trans (hb2a.mono B1.out.size))
    have S2 := Lib.hid (KB.new w2 N D)
    clear hb2 ha hb2a I1 B1 C1
    go_wp2_with fail
    refine (hsp.out _ I2.out).mono ?_
    rintro e w3 ⟨rfl, hb3⟩
    have ha : Below w3.heap.size w3 (w3.alloc (.cells #[.int .i64 N, .string D] 38)) := below1 w3 _
    have hb3a := hb3.trans (ha.mono hb3.size)
    have I3 := Lib.hid ((I2.out.below hb3a).up hb3a.size)
    have C3 := Lib.hid (C2.out.below hb3a)
    have B3 := Lib.hid (B2.out.trans (hb3a.mono B2.out.size))
    have S3 := Lib.hid (S2.out.below hb3a S2.out.lt)
    have T3 := Lib.hid (KB.new w3 N D)
    clear hb3 ha hb3a I2 B2 S2 C2
    go_wp2_with fail
    generalize w2.heap.size = gb at *
    generalize w3.alloc (.cells #[.int .i64 N, .string D] 38) = w4 at *
    generalize w3.heap.size = gw at *
    refine (DrawPointsOf_any A n c _ C3.out).mono ?_
    rintro e w5 ⟨M, E, rfl, hM, hE, hb5⟩
    have ha : Below w5.heap.size w5 (w5.alloc (.cells #[.int .i64 M, .string E] 38)) := below1 w5 _
    have hb5a := hb5.trans (ha.mono hb5.size)
    have I5 := Lib.hid ((I3.out.below hb5a).up hb5a.size)
    have C5 := Lib.hid (C3.out.below hb5a)
    have B5 := Lib.hid (B3.out.trans (hb5a.mono B3.out.size))
    have S5 := Lib.hid (S3.out.below hb5a S3.out.lt)
    have T5 := Lib.hid (T3.out.below hb5a T3.out.lt)
    have D5 := Lib.hid (KB.new w5 M E)
    clear hb5 ha hb5a I3 B3 S3 T3 C3
    obtain ⟨hrng0, hlen⟩ := pts_ok E M
    have hrng := Lib.hid hrng0
    have hEs : E.size ≤ 1000000000000 := by omega
    have h1 := Lib.hid (fun W => specPointsOf_any M E W (by unfold maxLen; omega))
    have h2 := Lib.hid (fun W hT => implPointsOf_any M E W hEs hT)
    have HSome := Lib.hid (show ptsF (ptsB E M) = true → bkB (ptsX (ptsB E M)) = true ∧ bkN (ptsX (ptsB E M)) = M ∧ bkD (ptsX (ptsB E M)) = E from fun h => by
      cases hp : ptsB E M with
      | none => rw [hp] at h; cases h
      | some X => obtain ⟨q1, q2, q3, _⟩ := ptsB_some hp; exact ⟨q1, q2, q3⟩)
    clear hrng0
    unfold POutF at h1 h2
    generalize ptsX (ptsB E M) = X at *
    generalize ptsF (ptsB E M) = R at *
    have d0 := D5.out.c0
    have d1 := D5.out.c1
    go_wp2_with fail
    generalize w5.alloc (.cells #[.int .i64 M, .string E] 38) = w6 at *
    generalize w5.heap.size = gx at *
    refine (h2.out _ (HTab.out.below B5.out)).mono ?_
    rintro e w7 ⟨vx, rfl, hown1, hb7⟩
    have X7 := Lib.hid (PL.of_own hown1 rfl hrng.out (by omega))
    have I7 := Lib.hid ((I5.out.below hb7).up hb7.size)
    have C7 := Lib.hid (C5.out.below hb7)
    have B7 := Lib.hid (B5.out.trans (hb7.mono B5.out.size))
    have S7 := Lib.hid (S5.out.below hb7 S5.out.lt)
    have T7 := Lib.hid (T5.out.below hb7 T5.out.lt)
    have D7 := Lib.hid (D5.out.below hb7 D5.out.lt)
    clear hb7 hown1 I5 C5 B5 S5 T5 D5 d0 d1
    have d0 := D7.out.c0
    have d1 := D7.out.c1
    go_wp2_with fail
    refine (h1.out _).mono ?_
    rintro e w8 ⟨vy, rfl, hown2, hb8⟩
    have Y8 := Lib.hid (PL.of_own hown2 rfl hrng.out (by omega))
    have X8 := Lib.hid ((X7.out.below hb8).up hb8.size)
    have I8 := Lib.hid ((I7.out.below hb8).up hb8.size)
    have C8 := Lib.hid (C7.out.below hb8)
    have B8 := Lib.hid (B7.out.trans (hb8.mono B7.out.size))
    have S8 := Lib.hid (S7.out.below hb8 S7.out.lt)
    have T8 := Lib.hid (T7.out.below hb8 T7.out.lt)
    have D8 := Lib.hid (D7.out.below hb8 D7.out.lt)
    clear hb8 hown2 I7 C7 B7 S7 T7 D7 d0 d1 X7
    go_wp2_with fail
    refine (DrawPointsOk_any A n c _ C8.out).mono ?_
    rintro e w9 ⟨vz, zs, rfl, hown3, hzl, hzr, hb9⟩
    have HQ := Lib.hid (show BQ w v xs gb gw gx N D M E vx vy vz X zs w9 from ⟨(I8.out.below hb9).up hb9.size, S8.out.below hb9 S8.out.lt, T8.out.below hb9 T8.out.lt, D8.out.below hb9 D8.out.lt, (X8.out.below hb9).up hb9.size, (Y8.out.below hb9).up hb9.size, PL.of_own hown3 rfl hzr (by omega), B8.out.trans (hb9.mono B8.out.size)⟩)
    clear hb9 hown3 hzr I8 C8 B8 S8 T8 D8 X8 Y8
    have hsX := Lib.hid (fun v u W h h' => samePointsB_any v u X W h h')
    have hit := Lib.hid (fun v W h => implPointsOk_any v zs W h)
    have hst := Lib.hid (fun v W h => specPointsOk_any v zs W h)
    have hbX2 := Lib.hid (fun W h hT => implBlockOf_any vx X W h hT)
    unfold BlkPost at hbX2
    unfold BoolPost at hit hst
    generalize ptsOkB zs = Zb at *
    have b0 := HQ.out.b.c0
    have b1 := HQ.out.b.c1
    have c0 := HQ.out.c.c0
    have c1 := HQ.out.c.c1
    have d0 := HQ.out.d.c0
    have d1 := HQ.out.d.c1
    go_wp2_with fail
    refine (hsX.out _ _ _ HQ.out.x HQ.out.y).mono ?_
    rintro e w10 ⟨rfl, hbX⟩
    have HQT := Lib.hid (HQ.out.next hbX)
    clear HQ hbX b0 b1 c0 c1 d0 d1
    have HQ := HQT
    clear HQT
    have b0 := HQ.out.b.c0
    have b1 := HQ.out.b.c1
    have c0 := HQ.out.c.c0
    have c1 := HQ.out.c.c1
    have d0 := HQ.out.d.c0
    have d1 := HQ.out.d.c1
    go_wp2_with fail
    refine (hit.out _ _ HQ.out.z).mono ?_
    rintro e w11 ⟨rfl, hbX⟩
    have HQT := Lib.hid (HQ.out.next hbX)
    clear HQ hbX b0 b1 c0 c1 d0 d1
    have HQ := HQT
    clear HQT
    have b0 := HQ.out.b.c0
    have b1 := HQ.out.b.c1
    have c0 := HQ.out.c.c0
    have c1 := HQ.out.c.c1
    have d0 := HQ.out.d.c0
    have d1 := HQ.out.d.c1
    go_wp2_with fail
    refine (hst.out _ _ HQ.out.z).mono ?_
    rintro e w12 ⟨rfl, hbX⟩
    have HQT := Lib.hid (HQ.out.next hbX)
    clear HQ hbX b0 b1 c0 c1 d0 d1
    have HQ := HQT
    clear HQT
    have b0 := HQ.out.b.c0
    have b1 := HQ.out.b.c1
    have c0 := HQ.out.c.c0
    have c1 := HQ.out.c.c1
    have d0 := HQ.out.d.c0
    have d1 := HQ.out.d.c1
    cases R with
    | false =>
      cases F with
      | false =>
        go_wp2_with fail
        go_ret
        exact ⟨rfl, HQ.out.f⟩
      | true =>
        have hback := HBack.out rfl
        have hPX := Lib.hid (fun W hT => implPointsOf_any N D W hDs hT)
        rw [hback] at hPX
        unfold POutF at hPX
        clear hback
        go_wp2_with fail
        refine (hPX.out _ (HTab.out.below HQ.out.f)).mono ?_
        rintro e wb ⟨vb, rfl, hob, hbX⟩
        have hob' : wb.ownsRow _ 89 2 vb xs.length (prs xs) := hob
        have PB := Lib.hid (PL.of_own hob' rfl HRx.out (by omega))
        have HQT := Lib.hid (HQ.out.next hbX)
        clear HQ hbX hob hob' b0 b1 c0 c1 d0 d1
        have HQ := HQT
        clear HQT
        go_wp2_with fail
        refine (hsx.out _ _ _ PB.out HQ.out.i).mono ?_
        rintro e we ⟨rfl, hbX⟩
        have HF := Lib.hid (HQ.out.next hbX).f
        clear hbX
        go_wp2_with fail
        go_ret
        exact ⟨rfl, HF.out⟩
    | true =>
      obtain ⟨q1, q2, q3⟩ := HSome.out rfl
      rw [q1, q2, q3] at hbX2
      clear q1 q2 q3 HSome
      go_wp2_with fail
      refine (hbX2.out _ HQ.out.x (HTab.out.below HQ.out.f)).mono ?_
      rintro e w13 ⟨rfl, hbY⟩
      have hbX : Below _ _ (w13.alloc (.cells #[.int .i64 M, .string E] 38)) := hbY.trans ((below1 w13 _).mono hbY.size)
      have K13 := KB.new w13 M E
      have a0 := K13.c0
      have a1 := K13.c1
      have HQT := Lib.hid (HQ.out.next hbX)
      clear HQ hbX hbY b0 b1 c0 c1 d0 d1 K13
      have HQ := HQT
      clear HQT
      have b0 := HQ.out.b.c0
      have b1 := HQ.out.b.c1
      have c0 := HQ.out.c.c0
      have c1 := HQ.out.c.c1
      have d0 := HQ.out.d.c0
      have d1 := HQ.out.d.c1
      cases F with
      | false =>
        go_wp2_with fail
        go_ret
        exact ⟨rfl, HQ.out.f⟩
      | true =>
        have hback := HBack.out rfl
        have hPX := Lib.hid (fun W hT => implPointsOf_any N D W hDs hT)
        rw [hback] at hPX
        unfold POutF at hPX
        clear hback
        go_wp2_with fail
        refine (hPX.out _ (HTab.out.below HQ.out.f)).mono ?_
        rintro e wb ⟨vb, rfl, hob, hbX⟩
        have hob' : wb.ownsRow _ 89 2 vb xs.length (prs xs) := hob
        have PB := Lib.hid (PL.of_own hob' rfl HRx.out (by omega))
        have HQT := Lib.hid (HQ.out.next hbX)
        clear HQ hbX hob hob' b0 b1 c0 c1 d0 d1
        have HQ := HQT
        clear HQT
        go_wp2_with fail
        refine (hsx.out _ _ _ PB.out HQ.out.i).mono ?_
        rintro e we ⟨rfl, hbX⟩
        have HF := Lib.hid (HQ.out.next hbX).f
        clear hbX
        go_wp2_with fail
        go_ret
        exact ⟨rfl, HF.out⟩
  · have hd : decide (1048576 < (n : Int)) = true := by simp; omega
    rw [hd] at hbig
    have Hbig := Lib.hid hbig
    clear hbig hd h
    go_enter Tryd.func4, Tryd.ntmps4
    go_wp2_with fail
    refine (Hbig.out _).mono ?_
    rintro e w' ⟨rfl, rfl⟩
    go_wp2_with fail
    go_ret
    exact ⟨rfl, Below.refl _ _⟩
end Go.Proofs.YtldjeacpkndcbaaDoor
