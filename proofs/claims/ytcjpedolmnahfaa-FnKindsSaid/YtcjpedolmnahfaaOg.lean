/- Walks: cascades: the program's check, whole. -/
import Derived.Test.YtcjpedolmnahfaaOf
set_option linter.unusedVariables false
set_option linter.unusedSimpArgs false
namespace Go.Proofs.Ytcjpedolmnahfaa
open Go.RowKit Go.Shelf

attribute [local go_sem] Oper.semAt_some

def finV (LB : Nat) (ps : List Lp) : Value := match ps.getLast? with | none => .pointer (some ⟨LB, 0, none⟩) | some p => .pointer (some ⟨p.1.1, p.1.2, none⟩)
def lvO {W : World} {n₀ : Nat} (pre : List (LX W n₀)) : List Lv := pre.map (fun y => y.1.2)
theorem lvO_snoc {W : World} {n₀ : Nat} (pre : List (LX W n₀)) (x : LX W n₀) : lvO (pre ++ [x]) = lvO pre ++ [x.1.2] := by simp [lvO]
theorem lst_snocW (ps : List Lv) (x : Lv) : lstW (ps ++ [x]) = x.1 := by simp [lstW]
theorem lst_snocK (k : Int) (ps : List Lv) (x : Lv) : lstK k (ps ++ [x]) = x.2.1 := by simp [lstK]
theorem fin_snoc {W : World} {n₀ : Nat} (LB : Nat) (pre : List (LX W n₀)) (x : LX W n₀) : finV LB ((pre ++ [x]).map Subtype.val) = .pointer (some ⟨x.1.1.1, x.1.1.2, none⟩) := by simp [finV]
theorem chk_snoc {W : World} {n₀ : Nat} (nw kp : Int) (pre : List (LX W n₀)) (x : LX W n₀) : lvsB nw 1 kp (lvO (pre ++ [x])) = (lvsB nw 1 kp (lvO pre) && lvB nw (lstW (lvO pre)) (lstK kp (lvO pre)) x.1.2) := by
  rw [lvO_snoc, lvsB_snoc]; rfl
theorem grew_below_og {w w' : World} (h : Below w.heap.size w w') (row : Option Nat) : w.grownBy w' row := ⟨h.os, h.tape, h.output, h.size, fun i hi _ => h.block i hi⟩
theorem cascB_all {nw kp : Int} {rp : List (Int × Int)} {ls : List Lv} (hn : 0 ≤ nw ∧ nw ≤ 1000000000000) (hk : 1 ≤ kp ∧ kp ≤ 1000000000) (hr : rawM nw kp rp = true) (h4 : ls.length ≤ 4) (hB : lvsB nw 1 kp ls = true) : cascB (nw, kp, rp, ls) = true := by
  unfold rawM at hr
  rw [Bool.and_eq_true] at hr
  unfold cascB headB
  simp only [hB, hr.1, hr.2, vIn_true hn.1 hn.2, vIn_true hk.1 hk.2, decide_eq_true h4, Bool.and_self, Bool.and_true]
theorem fin_cells {W0 W : World} {n₀ LB : Nat} {kp : Int} (pre : List (LX W0 n₀)) (hL : BoxN W LB #[.int .i64 1, .int .i64 kp, .slice none 0 0] 51) (hb : Below n₀ W0 W) :
    ∃ b o, finV LB (pre.map Subtype.val) = .pointer (some ⟨b, o, none⟩) ∧ W.cell? ⟨b, o, none⟩ = some (.int .i64 (lstW (lvO pre))) ∧ W.cell? ⟨b, o + 1, none⟩ = some (.int .i64 (lstK kp (lvO pre))) := by
  rcases List.eq_nil_or_concat pre with rfl | ⟨p, y, rfl⟩
  · exact ⟨LB, 0, rfl, hL.cell rfl, hL.cell rfl⟩
  · have h := y.2.below hb
    rw [List.concat_eq_append]
    refine ⟨y.1.1.1, y.1.1.2, fin_snoc _ _ _, ?_, ?_⟩
    · rw [lvO_snoc, lst_snocW]; exact h.2.1
    · rw [lvO_snoc, lst_snocK]; exact h.2.2.1
theorem lvB_eq (nw w k : Int) (x : Lv) : lvB nw w k x = (shpB w k x && rlsM nw x) := rfl

set_option maxRecDepth 100000 in
set_option maxHeartbeats 4000000 in
theorem implCascadeOk_go (nw kp : Int) (Ap Al : Option Addr) (cp cl : Nat) (rp : List (Int × Int)) (ls : List Lv) (w : World) (hP : PL w w.heap.size (.slice Ap rp.length cp) rp) (hL : LS w w.heap.size (.slice Al ls.length cl) ls)
    (hn : 0 ≤ nw ∧ nw ≤ 1000000000000) (hk : 1 ≤ kp ∧ kp ≤ 1000000000) (hr : rawM nw kp rp = true) (h4 : ls.length ≤ 4) :
    Calls Try.prog 20 #[.agg #[.int .i64 nw, .int .i64 kp, .slice Ap rp.length cp, .slice Al ls.length cl]] w (BoolPost (cascB (nw, kp, rp, ls)) w) := by
  refine (callsIn_wide (n := 4)).1 ?_
  have HTk := Lib.hid (fun w => timesOk_any nw kp Ap Al rp.length ls.length cp cl w)
  rw [vIn_true hn.1 hn.2, vIn_true hk.1 hk.2, Bool.and_true] at HTk
  have HRw := Lib.hid (fun w h => rawOk_any nw kp (.slice Ap rp.length cp) Al ls.length cl rp w h hn hk)
  rw [hr] at HRw
  have HLv := Lib.hid (fun w => levels_any nw kp Ap Al rp.length ls.length cp cl w)
  have HP := Lib.hid hP
  have hd : decide (4 < ls.length) = false := by simp; omega
  refine callsIn_of_wp_marks Try.func20 rfl trivial ?_ rfl
  simp only [Try.ntmps20, List.size_toArray, List.length_cons, List.length_nil, Nat.reduceAdd, Nat.reduceSub, Array.replicate_succ, Array.replicate_zero, List.push_toArray, List.append_toArray, List.nil_append, List.cons_append]
  have B0 := Lib.hid (((Below.refl w.heap.size w).alloc (Nat.le_refl _) (.cells #[.int .i64 nw, .int .i64 kp, .slice Ap rp.length cp, .slice Al ls.length cl] 30)).alloc (by simp) (.cells #[.bool false] 4))
  have HP1 := Lib.hid ((HP.out.below B0.out).up B0.out.size)
  gi_wp2
  refine ⟨trivial, ?_⟩
  refine (callsIn_wide.2 (HTk.out _)).mono ?_
  rintro e w2 ⟨rfl, hb2⟩
  have z0 : w2.cell? ⟨w.heap.size, 0, none⟩ = some (.int .i64 nw) := (hb2.cell (p := ⟨w.heap.size, 0, none⟩) (by first | (simp; done) | (simp; omega))).trans (by go_simp)
  have z1 : w2.cell? ⟨w.heap.size, 1, none⟩ = some (.int .i64 kp) := (hb2.cell (p := ⟨w.heap.size, 1, none⟩) (by first | (simp; done) | (simp; omega))).trans (by go_simp)
  have z2 : w2.cell? ⟨w.heap.size, 2, none⟩ = some (.slice Ap rp.length cp) := (hb2.cell (p := ⟨w.heap.size, 2, none⟩) (by first | (simp; done) | (simp; omega))).trans (by go_simp)
  have z3 : w2.cell? ⟨w.heap.size, 3, none⟩ = some (.slice Al ls.length cl) := (hb2.cell (p := ⟨w.heap.size, 3, none⟩) (by first | (simp; done) | (simp; omega))).trans (by go_simp)
  have HB2 := Lib.hid (B0.out.trans (hb2.mono (by first | (simp; done) | (simp; omega))))
  have bR2 := Lib.hid (show Boxed w2 (w.heap.size + 1) 4 (.bool false) from (hb2.block (w.heap.size + 1) (by first | (simp; done) | (simp; omega))).trans (by have h := Boxed.new (w.alloc (.cells #[.int .i64 nw, .int .i64 kp, .slice Ap rp.length cp, .slice Al ls.length cl] 30)) 4 (.bool false); rw [World.size_alloc] at h; exact h))
  have bC2 := Lib.hid (show BoxN w2 w.heap.size #[.int .i64 nw, .int .i64 kp, .slice Ap rp.length cp, .slice Al ls.length cl] 30 from (hb2.block w.heap.size (by first | (simp; done) | (simp; omega))).trans ((Below.heap_alloc _ _ _ (by simp)).trans (World.alloc_heap_new w (.cells #[.int .i64 nw, .int .i64 kp, .slice Ap rp.length cp, .slice Al ls.length cl] 30))))
  have hs2 : w.heap.size + 2 ≤ w2.heap.size := by have := hb2.size; simp at this; omega
  have HP2 := Lib.hid ((HP.out.below HB2.out).up HB2.out.size)
  clear hb2
  gi_wp2
  refine ⟨trivial, ?_⟩
  refine (callsIn_wide.2 (HRw.out _ HP2.out)).mono ?_
  rintro e w3 ⟨rfl, hb3⟩
  have y0 : w3.cell? ⟨w.heap.size, 0, none⟩ = some (.int .i64 nw) := (hb3.cell (p := ⟨w.heap.size, 0, none⟩) (show w.heap.size < w2.heap.size by omega)).trans z0
  have y1 : w3.cell? ⟨w.heap.size, 1, none⟩ = some (.int .i64 kp) := (hb3.cell (p := ⟨w.heap.size, 1, none⟩) (show w.heap.size < w2.heap.size by omega)).trans z1
  have y2 : w3.cell? ⟨w.heap.size, 2, none⟩ = some (.slice Ap rp.length cp) := (hb3.cell (p := ⟨w.heap.size, 2, none⟩) (show w.heap.size < w2.heap.size by omega)).trans z2
  have y3 : w3.cell? ⟨w.heap.size, 3, none⟩ = some (.slice Al ls.length cl) := (hb3.cell (p := ⟨w.heap.size, 3, none⟩) (show w.heap.size < w2.heap.size by omega)).trans z3
  have HB3 := Lib.hid (HB2.out.trans (hb3.mono HB2.out.size))
  have bR3 := Lib.hid (show Boxed w3 (w.heap.size + 1) 4 (.bool false) from (hb3.block (w.heap.size + 1) (by omega)).trans bR2.out)
  have bC3 := Lib.hid (show BoxN w3 w.heap.size #[.int .i64 nw, .int .i64 kp, .slice Ap rp.length cp, .slice Al ls.length cl] 30 from (hb3.block w.heap.size (by omega)).trans bC2.out)
  have hs3 : w.heap.size + 2 ≤ w3.heap.size := by have := hb3.size; omega
  have hlt3 : w.heap.size < w3.heap.size := by omega
  clear hb3 z0 z1 z2 z3 HP2 HB2 bR2 hs2
  gi_wp2
  refine ⟨trivial, ?_⟩
  refine (callsIn_wide.2 (HLv.out _)).mono ?_
  rintro e W0 ⟨rfl, hW0⟩
  have D0 := Lib.hid (show Below w3.heap.size w3 W0 from by rw [hW0]; exact (((Below.refl _ w3).alloc (Nat.le_refl _) _).alloc (by simp) _).alloc (by simp; omega) _)
  have nF : Boxed W0 (w3.heap.size + 1) 84 (.pointer (some ⟨w3.heap.size, 0, none⟩)) := by
    have h := (Boxed.new (w3.alloc (.cells #[.int .i64 1, .int .i64 kp, .slice none 0 0] 51)) 84 (.pointer (some ⟨w3.heap.size, 0, none⟩))).alloc (.cells #[.int .i64 nw, .int .i64 kp, .slice Ap rp.length cp, .slice Al ls.length cl] 30)
    rw [World.size_alloc] at h
    rw [hW0]; exact h
  have nB : BoxN W0 (w3.heap.size + 2) #[.int .i64 nw, .int .i64 kp, .slice Ap rp.length cp, .slice Al ls.length cl] 30 := by
    have h := World.alloc_heap_new ((w3.alloc (.cells #[.int .i64 1, .int .i64 kp, .slice none 0 0] 51)).alloc (.cells #[.pointer (some ⟨w3.heap.size, 0, none⟩)] 84)) (.cells #[.int .i64 nw, .int .i64 kp, .slice Ap rp.length cp, .slice Al ls.length cl] 30)
    rw [World.size_alloc, World.size_alloc] at h
    rw [hW0]; exact h
  have nL : BoxN W0 w3.heap.size #[.int .i64 1, .int .i64 kp, .slice none 0 0] 51 := by
    have h := World.alloc_heap_new w3 (.cells #[.int .i64 1, .int .i64 kp, .slice none 0 0] 51)
    rw [hW0]
    exact (Below.heap_alloc _ _ _ (by simp; omega)).trans ((Below.heap_alloc _ _ _ (by simp)).trans h)
  have hs0 : W0.heap.size = w3.heap.size + 3 := by rw [hW0]; simp
  clear hW0
  have hs0' := Lib.hid hs0
  clear hs0
  have hsW := hs0'.out
  obtain ⟨_, _, A', c', hA', hcl⟩ := hL
  cases hA'
  obtain ⟨b, off, hA, hls⟩ : ∃ b off, (0 < ls.length → Al = some ⟨b, off, none⟩) ∧ ∀ j, j < ls.length → LvHere w w.heap.size (lpAt b off ls j) := by
    rcases hcl with hcl | ⟨b, off, rfl, hbl, hcl⟩
    · exact ⟨0, 0, fun h => by rw [hcl] at h; simp at h, fun j hj => by rw [hcl] at hj; simp at hj⟩
    · exact ⟨b, off, fun _ => rfl, fun j hj => ⟨hbl, (hcl j hj).1, (hcl j hj).2.1, (hcl j hj).2.2⟩⟩
  have BW0 := Lib.hid (HB3.out.trans (D0.out.mono HB3.out.size))
  have nR : Boxed W0 (w.heap.size + 1) 4 (.bool false) := (D0.out.block (w.heap.size + 1) (by omega)).trans bR3.out
  have nC : BoxN W0 w.heap.size #[.int .i64 nw, .int .i64 kp, .slice Ap rp.length cp, .slice Al ls.length cl] 30 := (D0.out.block w.heap.size (by omega)).trans bC3.out
  gi_wp2
  refine wpIn_rangeFunc_ownG rfl (by omega) (gf := 99) (lb := #[.pointer (some ⟨w3.heap.size + 1 + 1, 0, none⟩)]) rfl trivial (enters_of Try.func99 (by kernel_rfl) rfl)
    (α := LX w w.heap.size) (encs := fun x => #[.pointer (some ⟨x.1.1.1, x.1.1.2, none⟩)]) (Kp := KpL w.heap.size (w3.heap.size + 1 + 1)) (S := fun ys => ys.map Subtype.val = (List.range ls.length).map (lpAt b off ls)) (Sp := fun pre => ∃ k, k ≤ ls.length ∧ pre.map Subtype.val = (List.range k).map (lpAt b off ls)) (N := ls.length) (w0 := W0)
    (fun l J Jx W hW _ _ hY h0 => levels1_in 3 (by omega) l (w3.heap.size + 1 + 1) w.heap.size b off cl Al w ls hA (by omega) hls J Jx hY W ((hW.cell (p := ⟨w3.heap.size + 1 + 1, 3, none⟩) (show w3.heap.size + 1 + 1 < W0.heap.size by omega)).trans (nB.cell rfl)) h0)
    (fun h k => h.trans k) (fun W l o o' h1 h2 h3 h4 => ⟨belowK_b (by omega) W l o o' h1 h2 h3 h4, (grownBy_putObj' W l o').block _ (by have := (Array.getElem?_eq_some_iff.1 h2).1; omega) (fun e => by injection e with e; omega)⟩) (Below.refl _ _) (fun _ => rfl)
    (fun pre W => Boxed W (w3.heap.size + 1) 84 (finV w3.heap.size (pre.map Subtype.val)) ∧ Boxed W (w.heap.size + 1) 4 (.bool false) ∧ BoxN W w3.heap.size #[.int .i64 1, .int .i64 kp, .slice none 0 0] 51 ∧ BoxN W w.heap.size #[.int .i64 nw, .int .i64 kp, .slice Ap rp.length cp, .slice Al ls.length cl] 30 ∧ BoxN W (w3.heap.size + 2) #[.int .i64 nw, .int .i64 kp, .slice Ap rp.length cp, .slice Al ls.length cl] 30 ∧ (lvsB nw 1 kp (lvO pre) = true ∧ 1 ≤ lstW (lvO pre) ∧ 0 ≤ lstK kp (lvO pre)) ∧ Below w.heap.size w W)
    (fun c pre W => c = .ret ∧ lvsB nw 1 kp (lvO pre) = false ∧ Boxed W (w.heap.size + 1) 4 (.bool false) ∧ Below w.heap.size w W)
    (fun pre X Y row hs hg hr => by
      obtain ⟨h1, h2, h3, h4, h4b, h5, h6⟩ := hs
      exact ⟨boxed_own _ _ (fun (_ : Unit) => _) () X Y row h1 hg (fun r e => (hr r e).2), boxed_own _ _ (fun (_ : Unit) => _) () X Y row h2 hg (fun r e => (hr r e).2), h3.own hg (fun r e => (hr r e).2), h4.own hg (fun r e => (hr r e).2), h4b.own hg (fun r e => (hr r e).2), h5, h6.grown hg h6.size (fun r e => by have := (hr r e).1; omega)⟩)
    (fun c pre X Y row hs hg hr => by
      obtain ⟨h0, h1, h2, h6⟩ := hs
      exact ⟨h0, h1, boxed_own _ _ (fun (_ : Unit) => _) () X Y row h2 hg (fun r e => (hr r e).2), h6.grown hg h6.size (fun r e => by have := (hr r e).1; omega)⟩)
    ⟨nF, nR, nL, nC, nB, ⟨rfl, (show (1 : Int) ≤ 1 by omega), by show 0 ≤ kp; omega⟩, BW0.out⟩
    (fun x => { tmps := #[.agg #[.int .i64 nw, .int .i64 kp, .slice Ap rp.length cp, .slice Al ls.length cl], .pointer (some ⟨w.heap.size, 0, none⟩), .pointer (some ⟨w.heap.size + 1, 0, none⟩), .pointer (some ⟨w3.heap.size + 1, 0, none⟩), .pointer (some ⟨x.1.1.1, x.1.1.2, none⟩), .agg #[.int .i64 nw, .int .i64 kp, .slice Ap rp.length cp, .slice Al ls.length cl], .bool true, .bool false, .bool false, .agg #[.int .i64 nw, .int .i64 kp, .slice Ap rp.length cp, .slice Al ls.length cl], .bool true, .bool false, .bool false, .bool false, .pointer (some ⟨w.heap.size, 3, none⟩), .slice Al ls.length cl, .int .i64 ls.length, .bool (decide (4 < (ls.length : Int))), .bool (decide (4 < (ls.length : Int))), .pointer (some ⟨w.heap.size, 1, none⟩), .int .i64 kp, .agg #[.int .i64 1, .int .i64 kp, .slice none 0 0], .pointer (some ⟨w3.heap.size, 0, none⟩), .agg #[.int .i64 nw, .int .i64 kp, .slice Ap rp.length cp, .slice Al ls.length cl], .func (.func 99) #[] #[.pointer (some ⟨w3.heap.size + 1 + 1, 0, none⟩)], .pointer (some ⟨x.1.1.1, x.1.1.2, none⟩), undef, undef, undef, undef, undef, undef, undef, undef, undef, undef, undef, undef], defers := [] }) ?assign ?body ?done ?stop
  case assign =>
    intro l x W K hK
    gi_wp2
    exact hK
  case body =>
    rintro l pre x W ⟨hF, hR, hL, hC, hN, ⟨hB, hW1, hK0⟩, hBl⟩ hlt
    obtain ⟨fb, fo, hfin, d0, d1⟩ := fin_cells pre hL hBl
    rw [hfin] at hF
    have hchk := Lib.hid (chk_snoc nw kp pre x)
    have hfs := Lib.hid (fin_snoc w3.heap.size pre x)
    have hlw := Lib.hid (by rw [lvO_snoc]; exact lst_snocW _ _ : lstW (lvO (pre ++ [x])) = x.1.2.1)
    have hlk := Lib.hid (by rw [lvO_snoc]; exact lst_snocK kp _ _ : lstK kp (lvO (pre ++ [x])) = x.1.2.2.1)
    obtain ⟨⟨⟨xb, xo⟩, ⟨lw, lk, lr⟩⟩, hx0⟩ := x
    have hxW := hx0.below hBl
    obtain ⟨hxb, c0, c1, rv, c2, hrl⟩ := hxW
    simp only at hxb c0 c1 c2 hrl
    generalize lstW (lvO pre) = fw at *
    generalize lstK kp (lvO pre) = fk at *
    have hxb' : xb < W.heap.size := Nat.lt_of_lt_of_le hxb hBl.size
    have hFo := fun W' (e : ∃ q, W' = W.drewN q) => follows_any xb xo fb fo lw lk fw fk (lw, lk, lr) W' rfl rfl hW1 hK0 (by obtain ⟨q, rfl⟩ := e; exact c0) (by obtain ⟨q, rfl⟩ := e; exact c1) (by obtain ⟨q, rfl⟩ := e; exact d0) (by obtain ⟨q, rfl⟩ := e; exact d1)
    rw [hB, Bool.true_and, lvB_eq] at hchk
    have cF := hF.cell
    have fF := hF.frozen
    have cC := hC.cell (i := 0) rfl
    have HBl := Lib.hid hBl
    have cR := hR.cell
    have fR := hR.frozen
    cases hsh : shpB fw fk (lw, lk, lr) with
    | false =>
      rw [hsh] at hFo hchk
      have HFo := Lib.hid (hFo W ⟨0, rfl⟩)
      clear hFo hsh hB
      gi_wp2_with (refine ⟨trivial, ?_⟩; gi_at_call 59; refine (CallsIn.inRound l (callsIn_wide.2 HFo.out)).mono ?_; rintro e W2 ⟨rfl, q, rfl⟩)
      refine ⟨trivial, ?_⟩
      gi_wp2
      exact ⟨KeepsFrom.of_grownBy ((grown_drewN (World.grownBy.refl W (some (w.heap.size + 1))) q).trans (grownBy_setCell' _ _ _)) (fun j e => by injection e with e; omega), rfl, by rw [hchk.out]; rfl, (show Boxed (W.drewN q) (w.heap.size + 1) 4 (.bool false) from hR).set _, (below_drewN_u HBl.out q).setCell (by simp) _⟩
    | true =>
      have hin := shpB_in hsh
      rw [hsh, Bool.true_and] at hchk
      rw [hsh] at hFo
      have HFo := Lib.hid (hFo W ⟨0, rfl⟩)
      simp only at hin
      have HRo := Lib.hid (fun q => lvRollsOk_any xb xo lw lk nw rv lr (W.drewN q) hxb' hin.1 hn (by omega) c0 c1 c2 (hrl.up hBl.size))
      clear hFo hsh hB
      cases hrs : rlsM nw (lw, lk, lr) with
      | false =>
        rw [hrs] at HRo hchk
        clear hrs
        gi_wp2_with (first
          | (refine ⟨trivial, ?_⟩; gi_at_call 59; refine (CallsIn.inRound l (callsIn_wide.2 HFo.out)).mono ?_; rintro e W2 ⟨rfl, q, rfl⟩)
          | (refine ⟨trivial, ?_⟩; gi_at_call 60; refine (CallsIn.inRound l (callsIn_wide.2 (HRo.out q))).mono ?_; rintro e W3 ⟨rfl, hb3⟩; have hR3 : Boxed W3 (w.heap.size + 1) 4 (.bool false) := (hb3.block (w.heap.size + 1) hR.lt).trans hR; have cR3 := hR3.cell; have fR3 := hR3.frozen; have hF3 : Boxed W3 (w3.heap.size + 1) 84 (.pointer (some ⟨fb, fo, none⟩)) := (hb3.block (w3.heap.size + 1) hF.lt).trans hF; have cF3 := hF3.cell; have fF3 := hF3.frozen))
        have hg := (grown_drewN (World.grownBy.refl W (some (w.heap.size + 1))) q).trans ((grew_below_og hb3 (some (w.heap.size + 1))).trans (grownBy_setCell' W3 (w.heap.size + 1) (.bool false)))
        exact ⟨KeepsFrom.of_grownBy hg (fun j e => by injection e with e; omega), rfl, hchk.out, hR3.set _, ((below_drewN_u HBl.out q).trans (hb3.mono HBl.out.size)).setCell (by simp) _⟩
      | true =>
        rw [hrs] at HRo hchk
        clear hrs
        gi_wp2_with (first
          | (refine ⟨trivial, ?_⟩; gi_at_call 59; refine (CallsIn.inRound l (callsIn_wide.2 HFo.out)).mono ?_; rintro e W2 ⟨rfl, q, rfl⟩)
          | (refine ⟨trivial, ?_⟩; gi_at_call 60; refine (CallsIn.inRound l (callsIn_wide.2 (HRo.out q))).mono ?_; rintro e W3 ⟨rfl, hb3⟩; have hR3 : Boxed W3 (w.heap.size + 1) 4 (.bool false) := (hb3.block (w.heap.size + 1) hR.lt).trans hR; have cR3 := hR3.cell; have fR3 := hR3.frozen; have hF3 : Boxed W3 (w3.heap.size + 1) 84 (.pointer (some ⟨fb, fo, none⟩)) := (hb3.block (w3.heap.size + 1) hF.lt).trans hF; have cF3 := hF3.cell; have fF3 := hF3.frozen))
        have hg := (grown_drewN (World.grownBy.refl W (some (w3.heap.size + 1))) q).trans ((grew_below_og hb3 (some (w3.heap.size + 1))).trans (grownBy_setCell' W3 (w3.heap.size + 1) (.pointer (some ⟨xb, xo, none⟩))))
        have hbb := ((below_drewN_u (Below.refl w.heap.size W) q).trans (hb3.mono HBl.out.size)).setCell (p := ⟨w3.heap.size + 1, 0, none⟩) (by show w.heap.size ≤ w3.heap.size + 1; omega) (.pointer (some ⟨xb, xo, none⟩))
        exact ⟨KeepsFrom.of_grownBy hg (fun j e => by injection e with e; omega), ⟨hbb, hg.block _ hN.lt (fun e => by injection e with e; omega)⟩,
          by rw [hfs.out]; exact hF3.set _, hR3.other (by omega) _, (hg.block _ hL.lt (fun e => by injection e with e; omega)).trans hL, (hg.block _ hC.lt (fun e => by injection e with e; omega)).trans hC, (hg.block _ hN.lt (fun e => by injection e with e; omega)).trans hN,
          ⟨hchk.out, by rw [hlw.out]; exact hin.1.1, by rw [hlk.out]; show 0 ≤ lk; omega⟩, HBl.out.trans hbb⟩
  case done =>
    rintro D ys W hD hys ⟨hF, hR, hL, hC, hN, ⟨hB, hW1, hK0⟩, hBl⟩ hK
    have hys2 : lvO ys = ls := by
      have e : lvO ys = (ys.map Subtype.val).map Prod.snd := by unfold lvO; rw [List.map_map]; rfl
      rw [e, hys, List.map_map]
      apply List.ext_getElem (by simp)
      intro j h1 h2
      simp [lpAt, List.getD_eq_getElem?_getD, h2]
    rw [hys2] at hB
    have HB := Lib.hid hB
    have cR := hR.cell
    have fR := hR.frozen
    clear hys hys2 hB
    gi_wp2
    have hDs : w.heap.size + 1 < D := by omega
    have hK1 : (W.setCell ⟨w.heap.size + 1, 0, none⟩ (.bool true)).heap[D]? = some (.deferred (some [])) := (Below.heap_setCell _ _ _ D (by show D ≠ w.heap.size + 1; omega)).trans hK
    refine ⟨by simp, .inl ⟨_, _, rfl, run_takeDeferred hK1, ?_⟩⟩
    have hR1 : Boxed (W.setCell ⟨w.heap.size + 1, 0, none⟩ (.bool true)) (w.heap.size + 1) 4 (.bool true) := hR.set _
    have hR2 : Boxed ((W.setCell ⟨w.heap.size + 1, 0, none⟩ (.bool true)).putObj D (.deferred none)) (w.heap.size + 1) 4 (.bool true) := ((grownBy_putObj' _ D (.deferred none)).block _ hR1.lt (fun e => by injection e with e; omega)).trans hR1
    have rc := hR2.cell
    refine ⟨.bool true, by simp [results, Try.results20, go_sem, rc], ?_, (hBl.setCell (p := ⟨w.heap.size + 1, 0, none⟩) (by simp) (.bool true)).trans (belowK_b (w := w) (Nat.le_refl _) _ D _ _ (by omega) hK1 rfl rfl)⟩
    rw [cascB_all hn hk hr h4 HB.out]
  case stop =>
    rintro D c pre W hD ⟨k, hk2, hpre⟩ ⟨rfl, hB, hR, hBl⟩ hK
    have cR := hR.cell
    have fR := hR.frozen
    gi_wp2
    refine ⟨by simp, .inl ⟨_, _, rfl, run_takeDeferred hK, ?_⟩⟩
    have hR2 : Boxed (W.putObj D (.deferred none)) (w.heap.size + 1) 4 (.bool false) := ((grownBy_putObj' _ D (.deferred none)).block _ hR.lt (fun e => by injection e with e; omega)).trans hR
    have rc := hR2.cell
    refine ⟨.bool false, by simp [results, Try.results20, go_sem, rc], ?_, hBl.trans (belowK_b (w := w) (Nat.le_refl _) W D _ _ (by omega) hK rfl rfl)⟩
    have hp : lvO pre = ls.take k := by
      have e : lvO pre = (pre.map Subtype.val).map Prod.snd := by unfold lvO; rw [List.map_map]; rfl
      rw [e, hpre, List.map_map]
      apply List.ext_getElem (by simp; omega)
      intro j h1 h2
      simp at h1
      simp [lpAt, List.getD_eq_getElem?_getD, show j < ls.length by omega]
    have hb2 : lvsB nw 1 kp ls = false := by
      have := lvsB_app nw (ls.take k) (ls.drop k) 1 kp (by rw [← hp]; exact hB)
      rwa [List.take_append_drop] at this
    have : cascB (nw, kp, rp, ls) = false := by unfold cascB; rw [hb2]; simp
    rw [this]

set_option maxRecDepth 100000 in
set_option maxHeartbeats 4000000 in
theorem implCascadeOk_times (nw kp : Int) (Ap Al : Option Addr) (cp cl m : Nat) (rp : List (Int × Int)) (w : World) (h : (vIn nw 0 1000000000000 && vIn kp 1 1000000000) = false) :
    Calls Try.prog 20 #[.agg #[.int .i64 nw, .int .i64 kp, .slice Ap rp.length cp, .slice Al m cl]] w (BoolPost false w) := by
  refine (callsIn_wide (n := 4)).1 ?_
  have HTk := Lib.hid (fun w => timesOk_any nw kp Ap Al rp.length m cp cl w)
  rw [h] at HTk
  clear h
  refine callsIn_of_wp_marks Try.func20 rfl trivial ?_ rfl
  simp only [Try.ntmps20, List.size_toArray, List.length_cons, List.length_nil, Nat.reduceAdd, Nat.reduceSub, Array.replicate_succ, Array.replicate_zero, List.push_toArray, List.append_toArray, List.nil_append, List.cons_append]
  have B0 := Lib.hid (((Below.refl w.heap.size w).alloc (Nat.le_refl _) (.cells #[.int .i64 nw, .int .i64 kp, .slice Ap rp.length cp, .slice Al m cl] 30)).alloc (by simp) (.cells #[.bool false] 4))
  gi_wp2
  refine ⟨trivial, ?_⟩
  refine (callsIn_wide.2 (HTk.out _)).mono ?_
  rintro e w2 ⟨rfl, hb2⟩
  have HB2 := Lib.hid (B0.out.trans (hb2.mono (by first | (simp; done) | (simp; omega))))
  have bR2 : Boxed w2 (w.heap.size + 1) 4 (.bool false) := (hb2.block (w.heap.size + 1) (by first | (simp; done) | (simp; omega))).trans (by have h := Boxed.new (w.alloc (.cells #[.int .i64 nw, .int .i64 kp, .slice Ap rp.length cp, .slice Al m cl] 30)) 4 (.bool false); rw [World.size_alloc] at h; exact h)
  have bC2 : BoxN w2 w.heap.size #[.int .i64 nw, .int .i64 kp, .slice Ap rp.length cp, .slice Al m cl] 30 := (hb2.block w.heap.size (by first | (simp; done) | (simp; omega))).trans ((Below.heap_alloc _ _ _ (by simp)).trans (World.alloc_heap_new w (.cells #[.int .i64 nw, .int .i64 kp, .slice Ap rp.length cp, .slice Al m cl] 30)))
  have c2 := bR2.cell
  have f2 := bR2.frozen
  clear hb2
  gi_wp2
  refine ⟨trivial, ?_⟩
  gi_wp2
  have rc := (bR2.set (.bool false)).cell
  exact ⟨.bool false, by simp [results, Try.results20, go_sem, rc], rfl, HB2.out.setCell (by simp) _⟩

set_option maxRecDepth 100000 in
set_option maxHeartbeats 4000000 in
theorem implCascadeOk_raw (nw kp : Int) (Ap Al : Option Addr) (cp cl m : Nat) (rp : List (Int × Int)) (w : World) (hn : 0 ≤ nw ∧ nw ≤ 1000000000000) (hk : 1 ≤ kp ∧ kp ≤ 1000000000) (hP : PL w w.heap.size (.slice Ap rp.length cp) rp) (h : rawM nw kp rp = false) :
    Calls Try.prog 20 #[.agg #[.int .i64 nw, .int .i64 kp, .slice Ap rp.length cp, .slice Al m cl]] w (BoolPost false w) := by
  refine (callsIn_wide (n := 4)).1 ?_
  have HTk := Lib.hid (fun w => timesOk_any nw kp Ap Al rp.length m cp cl w)
  rw [vIn_true hn.1 hn.2, vIn_true hk.1 hk.2, Bool.and_true] at HTk
  have HRw := Lib.hid (fun w h => rawOk_any nw kp (.slice Ap rp.length cp) Al m cl rp w h hn hk)
  rw [h] at HRw
  have HP := Lib.hid hP
  clear h hP
  refine callsIn_of_wp_marks Try.func20 rfl trivial ?_ rfl
  simp only [Try.ntmps20, List.size_toArray, List.length_cons, List.length_nil, Nat.reduceAdd, Nat.reduceSub, Array.replicate_succ, Array.replicate_zero, List.push_toArray, List.append_toArray, List.nil_append, List.cons_append]
  have B0 := Lib.hid (((Below.refl w.heap.size w).alloc (Nat.le_refl _) (.cells #[.int .i64 nw, .int .i64 kp, .slice Ap rp.length cp, .slice Al m cl] 30)).alloc (by simp) (.cells #[.bool false] 4))
  gi_wp2
  refine ⟨trivial, ?_⟩
  refine (callsIn_wide.2 (HTk.out _)).mono ?_
  rintro e w2 ⟨rfl, hb2⟩
  have HB2 := Lib.hid (B0.out.trans (hb2.mono (by first | (simp; done) | (simp; omega))))
  have bR2 : Boxed w2 (w.heap.size + 1) 4 (.bool false) := (hb2.block (w.heap.size + 1) (by first | (simp; done) | (simp; omega))).trans (by have h := Boxed.new (w.alloc (.cells #[.int .i64 nw, .int .i64 kp, .slice Ap rp.length cp, .slice Al m cl] 30)) 4 (.bool false); rw [World.size_alloc] at h; exact h)
  have bC2 : BoxN w2 w.heap.size #[.int .i64 nw, .int .i64 kp, .slice Ap rp.length cp, .slice Al m cl] 30 := (hb2.block w.heap.size (by first | (simp; done) | (simp; omega))).trans ((Below.heap_alloc _ _ _ (by simp)).trans (World.alloc_heap_new w (.cells #[.int .i64 nw, .int .i64 kp, .slice Ap rp.length cp, .slice Al m cl] 30)))
  have z0 := bC2.cell (i := 0) rfl
  have z1 := bC2.cell (i := 1) rfl
  have z2 := bC2.cell (i := 2) rfl
  have z3 := bC2.cell (i := 3) rfl
  have HP2 := Lib.hid ((HP.out.below HB2.out).up HB2.out.size)
  have bR2 := Lib.hid bR2
  have bC2 := Lib.hid bC2
  clear hb2
  gi_wp2
  refine ⟨trivial, ?_⟩
  refine (callsIn_wide.2 (HRw.out _ HP2.out)).mono ?_
  rintro e w3 ⟨rfl, hb3⟩
  have bR3 : Boxed w3 (w.heap.size + 1) 4 (.bool false) := (hb3.block (w.heap.size + 1) bR2.out.lt).trans bR2.out
  have bC3 : BoxN w3 w.heap.size #[.int .i64 nw, .int .i64 kp, .slice Ap rp.length cp, .slice Al m cl] 30 := (hb3.block w.heap.size bC2.out.lt).trans bC2.out
  have y3 := bC3.cell (i := 3) rfl
  have c3 := bR3.cell
  have f3 := bR3.frozen
  have HB3 := Lib.hid (HB2.out.trans (hb3.mono HB2.out.size))
  clear hb3 z0 z1 z2 z3 HP2 HB2 bR2 bC2
  gi_wp2
  have rc := (bR3.set (.bool false)).cell
  exact ⟨.bool false, by simp [results, Try.results20, go_sem, rc], rfl, HB3.out.setCell (by simp) _⟩

set_option maxRecDepth 100000 in
set_option maxHeartbeats 4000000 in
theorem implCascadeOk_len (nw kp : Int) (Ap Al : Option Addr) (cp cl m : Nat) (rp : List (Int × Int)) (w : World) (hn : 0 ≤ nw ∧ nw ≤ 1000000000000) (hk : 1 ≤ kp ∧ kp ≤ 1000000000) (hP : PL w w.heap.size (.slice Ap rp.length cp) rp) (h : rawM nw kp rp = true) (h4 : 4 < m) :
    Calls Try.prog 20 #[.agg #[.int .i64 nw, .int .i64 kp, .slice Ap rp.length cp, .slice Al m cl]] w (BoolPost false w) := by
  refine (callsIn_wide (n := 4)).1 ?_
  have HTk := Lib.hid (fun w => timesOk_any nw kp Ap Al rp.length m cp cl w)
  rw [vIn_true hn.1 hn.2, vIn_true hk.1 hk.2, Bool.and_true] at HTk
  have HRw := Lib.hid (fun w h => rawOk_any nw kp (.slice Ap rp.length cp) Al m cl rp w h hn hk)
  rw [h] at HRw
  have HP := Lib.hid hP
  clear h hP
  refine callsIn_of_wp_marks Try.func20 rfl trivial ?_ rfl
  simp only [Try.ntmps20, List.size_toArray, List.length_cons, List.length_nil, Nat.reduceAdd, Nat.reduceSub, Array.replicate_succ, Array.replicate_zero, List.push_toArray, List.append_toArray, List.nil_append, List.cons_append]
  have B0 := Lib.hid (((Below.refl w.heap.size w).alloc (Nat.le_refl _) (.cells #[.int .i64 nw, .int .i64 kp, .slice Ap rp.length cp, .slice Al m cl] 30)).alloc (by simp) (.cells #[.bool false] 4))
  gi_wp2
  refine ⟨trivial, ?_⟩
  refine (callsIn_wide.2 (HTk.out _)).mono ?_
  rintro e w2 ⟨rfl, hb2⟩
  have HB2 := Lib.hid (B0.out.trans (hb2.mono (by first | (simp; done) | (simp; omega))))
  have bR2 : Boxed w2 (w.heap.size + 1) 4 (.bool false) := (hb2.block (w.heap.size + 1) (by first | (simp; done) | (simp; omega))).trans (by have h := Boxed.new (w.alloc (.cells #[.int .i64 nw, .int .i64 kp, .slice Ap rp.length cp, .slice Al m cl] 30)) 4 (.bool false); rw [World.size_alloc] at h; exact h)
  have bC2 : BoxN w2 w.heap.size #[.int .i64 nw, .int .i64 kp, .slice Ap rp.length cp, .slice Al m cl] 30 := (hb2.block w.heap.size (by first | (simp; done) | (simp; omega))).trans ((Below.heap_alloc _ _ _ (by simp)).trans (World.alloc_heap_new w (.cells #[.int .i64 nw, .int .i64 kp, .slice Ap rp.length cp, .slice Al m cl] 30)))
  have z0 := bC2.cell (i := 0) rfl
  have z1 := bC2.cell (i := 1) rfl
  have z2 := bC2.cell (i := 2) rfl
  have z3 := bC2.cell (i := 3) rfl
  have HP2 := Lib.hid ((HP.out.below HB2.out).up HB2.out.size)
  have bR2 := Lib.hid bR2
  have bC2 := Lib.hid bC2
  clear hb2
  gi_wp2
  refine ⟨trivial, ?_⟩
  refine (callsIn_wide.2 (HRw.out _ HP2.out)).mono ?_
  rintro e w3 ⟨rfl, hb3⟩
  have bR3 : Boxed w3 (w.heap.size + 1) 4 (.bool false) := (hb3.block (w.heap.size + 1) bR2.out.lt).trans bR2.out
  have bC3 : BoxN w3 w.heap.size #[.int .i64 nw, .int .i64 kp, .slice Ap rp.length cp, .slice Al m cl] 30 := (hb3.block w.heap.size bC2.out.lt).trans bC2.out
  have y3 := bC3.cell (i := 3) rfl
  have c3 := bR3.cell
  have f3 := bR3.frozen
  have HB3 := Lib.hid (HB2.out.trans (hb3.mono HB2.out.size))
  clear hb3 z0 z1 z2 z3 HP2 HB2 bR2 bC2
  gi_wp2
  have rc := (bR3.set (.bool false)).cell
  exact ⟨.bool false, by simp [results, Try.results20, go_sem, rc], rfl, HB3.out.setCell (by simp) _⟩

theorem CV.cell2 {w : World} {B : Nat} {v : Value} {c : Cs} (h : CV w B v c) : ∃ Ap cp Al cl, v = .agg #[.int .i64 c.1, .int .i64 c.2.1, .slice Ap c.2.2.1.length cp, .slice Al c.2.2.2.length cl] ∧ PL w B (.slice Ap c.2.2.1.length cp) c.2.2.1 ∧ LS w B (.slice Al c.2.2.2.length cl) c.2.2.2 := by
  obtain ⟨rv, lv, rfl, h1, h2, _, _⟩ := h
  obtain ⟨_, _, A, c1, rfl, _⟩ := id h1
  obtain ⟨_, _, A', c1', rfl, _⟩ := id h2
  exact ⟨A, c1, A', c1', rfl, h1, h2⟩
theorem implCascadeOk_any (v : Value) (c : Cs) (w : World) (h : CV w w.heap.size v c) :
    Calls Try.prog 20 #[v] w (BoolPost (cascB c) w) := by
  obtain ⟨Ap, cp, Al, cl, rfl, hP, hL⟩ := h.cell2
  obtain ⟨nw, kp, rp, ls⟩ := c
  simp only at hP hL ⊢
  by_cases ht : (0 ≤ nw ∧ nw ≤ 1000000000000) ∧ (1 ≤ kp ∧ kp ≤ 1000000000)
  · cases hr : rawM nw kp rp with
    | false =>
      have e : cascB (nw, kp, rp, ls) = false := by
        unfold rawM at hr
        unfold cascB headB
        rw [Bool.and_eq_false_iff] at hr
        rcases hr with hr | hr <;> simp [hr]
      rw [e]
      exact implCascadeOk_raw nw kp Ap Al cp cl _ rp w ht.1 ht.2 hP hr
    | true =>
      by_cases h4 : ls.length ≤ 4
      · exact implCascadeOk_go nw kp Ap Al cp cl rp ls w hP hL ht.1 ht.2 hr h4
      · have e : cascB (nw, kp, rp, ls) = false := by
          unfold cascB headB
          simp [show ¬ ls.length ≤ 4 from h4]
        rw [e]
        exact implCascadeOk_len nw kp Ap Al cp cl _ rp w ht.1 ht.2 hP hr (by omega)
  · have e1 : (vIn nw 0 1000000000000 && vIn kp 1 1000000000) = false := by
      by_cases h1 : 0 ≤ nw ∧ nw ≤ 1000000000000
      · rw [vIn_false (fun h => ht ⟨h1, h⟩), Bool.and_false]
      · rw [vIn_false h1, Bool.false_and]
    have e : cascB (nw, kp, rp, ls) = false := by
      unfold cascB headB
      rw [Bool.and_eq_false_iff] at e1
      rcases e1 with e1 | e1 <;> simp [e1]
    rw [e]
    exact implCascadeOk_times nw kp Ap Al cp cl _ rp w e1
end Go.Proofs.Ytcjpedolmnahfaa
