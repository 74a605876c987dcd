/- Walks: the spans of blocks: plain facts; the program's sequence of them. -/
import Derived.RangeFuncBox
import Derived.RangeFuncLeaves
import Derived.RangeFuncNested
import Derived.Shelf.Abstract
import Derived.OwnWalkIn
import Derived.TacticsInMore
import Derived.LoopNIn
import Derived.LoopIn
import Derived.Sort.QuietIn
import Derived.Test.YtanoohfhifhhaaaDoorEq
import Derived.Sort.CutIn
set_option linter.unusedVariables false
set_option linter.unusedSimpArgs false
namespace Go.Proofs.YtanoohfhifhhaaaDoor
open Go.RowKit Go.Shelf

attribute [local go_sem] Oper.semAt_some

/-- the points of block k, its first and its last time -/
def ptsAt (bs : List (Int × ByteArray)) (k : Nat) : List (Int × Int) := ptsX (ptsB (bs.getD k (0, emB)).2 (bs.getD k (0, emB)).1)
def frB (bs : List (Int × ByteArray)) (k : Nat) : Int := ((ptsAt bs k).getD 0 (0, 0)).1
def toB (bs : List (Int × ByteArray)) (k : Nat) : Int := ((ptsAt bs k).getD ((ptsAt bs k).length - 1) (0, 0)).1
def spN (bs : List (Int × ByteArray)) : Nat := match uncO bs with
  | none => 0
  | some _ => bs.length
theorem unc_pre {bs : List (Int × ByteArray)} : ∀ {n : Nat} {xs : List (Int × Int)}, uncT bs n = some xs → ∀ k, k ≤ n → ∃ pre, uncT bs k = some pre ∧ pre <+: xs
  | 0, xs, h, k, hk => by
    obtain rfl : k = 0 := by omega
    exact ⟨xs, h, List.prefix_refl _⟩
  | n + 1, xs, h, k, hk => by
    by_cases e : k = n + 1
    · subst e; exact ⟨xs, h, List.prefix_refl _⟩
    · cases h0 : uncT bs n with
      | none => rw [uncT, h0] at h; cases h
      | some ys =>
        obtain ⟨pre, h1, h2⟩ := unc_pre h0 k (by omega)
        rw [uncT_step h0] at h
        cases hp : ptsB (bs.getD n (0, emB)).2 (bs.getD n (0, emB)).1 with
        | none => rw [hp] at h; cases h
        | some zs =>
          rw [hp] at h
          obtain rfl := Option.some.inj h
          exact ⟨pre, h1, h2.trans (List.prefix_append _ _)⟩
theorem unc_at {bs : List (Int × ByteArray)} {xs : List (Int × Int)} (h : uncO bs = some xs) {k : Nat} (hk : k < bs.length) : ∃ pre, uncT bs k = some pre ∧ 0 < (ptsAt bs k).length ∧ ((ptsAt bs k).length : Int) = (bs.getD k (0, emB)).1 ∧ (ptsAt bs k).length ≤ 120 ∧
    uncT bs (k + 1) = some (pre ++ ptsAt bs k) ∧ pre.length + (ptsAt bs k).length ≤ xs.length ∧ (∀ j, j < (ptsAt bs k).length → xs.getD (pre.length + j) (0, 0) = (ptsAt bs k).getD j (0, 0)) ∧ (k + 1 < bs.length → pre.length + (ptsAt bs k).length < xs.length) ∧ ptsB (bs.getD k (0, emB)).2 (bs.getD k (0, emB)).1 = some (ptsAt bs k) := by
  have hu := (uncO_some h).2.2.2.2
  have step : ∀ k, k < bs.length → ∃ pre, uncT bs k = some pre ∧ 0 < (ptsAt bs k).length ∧ ((ptsAt bs k).length : Int) = (bs.getD k (0, emB)).1 ∧ (ptsAt bs k).length ≤ 120 ∧ uncT bs (k + 1) = some (pre ++ ptsAt bs k) ∧ ptsB (bs.getD k (0, emB)).2 (bs.getD k (0, emB)).1 = some (ptsAt bs k) := by
    intro k hk
    obtain ⟨pre, h1, _⟩ := unc_pre hu k (by omega)
    obtain ⟨q, h2, _⟩ := unc_pre hu (k + 1) (by omega)
    have h3 := uncT_step h1
    rw [h2] at h3
    cases hp : ptsB (bs.getD k (0, emB)).2 (bs.getD k (0, emB)).1 with
    | none => rw [hp] at h3; cases h3
    | some ys =>
      rw [hp] at h3
      have e : ptsAt bs k = ys := by unfold ptsAt; rw [hp]; rfl
      obtain ⟨q1, _, _, q4, q5, _⟩ := ptsB_some hp
      rw [e]
      exact ⟨pre, h1, (bk_ok q1).2, q4, q5, by rw [h2]; exact h3, rfl⟩
  obtain ⟨pre, h1, h2, h3, h4, h5, h6⟩ := step k hk
  obtain ⟨q, h7, r, h8⟩ := unc_pre hu (k + 1) (by omega)
  obtain rfl : q = pre ++ ptsAt bs k := by rw [h5] at h7; exact (Option.some.inj h7).symm
  refine ⟨pre, h1, h2, h3, h4, h5, by rw [← h8]; simp, fun j hj => ?_, fun hk2 => ?_, h6⟩
  · rw [← h8, List.getD_eq_getElem?_getD, List.getD_eq_getElem?_getD, List.getElem?_append_left (by simp; omega), List.getElem?_append_right (by omega)]
    simp
  · obtain ⟨pre2, g1, g2, _, _, g5, _⟩ := step (k + 1) hk2
    obtain ⟨q2, g7, g8⟩ := unc_pre hu (k + 1 + 1) (by omega)
    obtain rfl : pre2 = pre ++ ptsAt bs k := by rw [h5] at g1; exact (Option.some.inj g1).symm
    obtain rfl : q2 = pre ++ ptsAt bs k ++ ptsAt bs (k + 1) := by rw [g5] at g7; exact (Option.some.inj g7).symm
    have := g8.length_le
    simp at this; omega

/-- what a round keeps that writes into the box b0 and its row alone -/
def KpO (b0 : Nat) (W W' : World) : Prop := W.heap.size ≤ W'.heap.size ∧ ∀ u, W.cell? ⟨b0, 0, none⟩ = some u → ∃ u', W'.cell? ⟨b0, 0, none⟩ = some u' ∧ (∀ k, u'.ownBlock = some k → u.ownBlock = some k ∨ W.heap.size ≤ k ∧ k < W'.heap.size) ∧
  ∀ (k : Nat) (o : Obj), W.heap[k]? = some o → o.isCells = true → k ≠ b0 → u.ownBlock ≠ some k → W'.heap[k]? = some o
theorem KpO.refl (b0 : Nat) (W : World) : KpO b0 W W := ⟨Nat.le_refl _, fun u hu => ⟨u, hu, fun k hk => .inl hk, fun k o h _ _ _ => h⟩⟩
theorem KpO.trans {b0 : Nat} {A B C : World} (h : KpO b0 A B) (k : KpO b0 B C) : KpO b0 A C := by
  refine ⟨Nat.le_trans h.1 k.1, fun u hu => ?_⟩
  obtain ⟨u', hu', h1, h2⟩ := h.2 u hu
  obtain ⟨u'', hu'', k1, k2⟩ := k.2 u' hu'
  have hs := h.1
  have ks := k.1
  refine ⟨u'', hu'', fun q hq => ?_, fun q o hq hc hb hn => ?_⟩
  · rcases k1 q hq with e | ⟨e1, e2⟩
    · rcases h1 q e with e | ⟨e1, e2⟩
      · exact .inl e
      · exact .inr ⟨e1, by omega⟩
    · exact .inr ⟨by omega, e2⟩
  · refine k2 q o (h2 q o hq hc hb hn) hc hb (fun e => ?_)
    rcases h1 q e with e | ⟨e1, _⟩
    · exact hn e
    · have := (Array.getElem?_eq_some_iff.1 hq).1; omega
theorem KpO.of_below {b0 : Nat} {A B : World} (h : Below A.heap.size A B) : KpO b0 A B :=
  ⟨h.size, fun u hu => ⟨u, by
    have hb : b0 < A.heap.size := World.block_lt_of_cell? A _ hu
    exact (h.cell (p := ⟨b0, 0, none⟩) hb).trans hu, fun k hk => .inl hk, fun k o ho _ _ _ => (h.block k (Array.getElem?_eq_some_iff.1 ho).1).trans ho⟩⟩
theorem KpO.putObj {b0 : Nat} (W : World) (l : Nat) (o o' : Obj) (hb : b0 < l) (h : W.heap[l]? = some o) (hc : o.isCells = false) : KpO b0 W (W.putObj l o') := by
  have hg := grownBy_putObj' W l o'
  refine ⟨hg.size, fun u hu => ⟨u, ?_, fun k hk => .inl hk, fun k q hk hq hn _ => ?_⟩⟩
  · have hlt : b0 < W.heap.size := World.block_lt_of_cell? W _ hu
    have := hg.block b0 hlt (fun e => by injection e with e; omega)
    simp only [World.cell?, this] at hu ⊢
    exact hu
  · refine (hg.block k (Array.getElem?_eq_some_iff.1 hk).1 (fun e => ?_)).trans hk
    injection e with e
    subst e
    rw [h] at hk; cases hk; rw [hc] at hq; cases hq
/-- what stood in a box of cells that isn't b0's stands -/
theorem KpO.blk {b0 : Nat} {A B : World} (h : KpO b0 A B) {u : Value} (hu : A.cell? ⟨b0, 0, none⟩ = some u) (hn : u.ownBlock = none) {k : Nat} {o : Obj} (hk : A.heap[k]? = some o) (hc : o.isCells = true) (hb : k ≠ b0) : B.heap[k]? = some o := by
  obtain ⟨u', _, _, h2⟩ := h.2 u hu
  exact h2 k o hk hc hb (by rw [hn]; simp)
theorem cell_obj {W : World} {b i : Nat} {v : Value} (h : W.cell? ⟨b, i, none⟩ = some v) : ∃ o : Obj, W.heap[b]? = some o ∧ o.isCells = true := by
  unfold World.cell? at h
  cases ho : W.heap[b]? with
  | none => simp [ho] at h
  | some o =>
    refine ⟨o, rfl, ?_⟩
    cases o <;> simp_all [Obj.isCells]
theorem KpO.cell {b0 : Nat} {A B : World} (h : KpO b0 A B) {u : Value} (hu : A.cell? ⟨b0, 0, none⟩ = some u) (hn : u.ownBlock = none) {b i : Nat} {v : Value} (hk : A.cell? ⟨b, i, none⟩ = some v) (hb : b ≠ b0) : B.cell? ⟨b, i, none⟩ = some v := by
  obtain ⟨o, ho, hc⟩ := cell_obj hk
  have := h.blk hu hn ho hc hb
  simp only [World.cell?, this, ho] at hk ⊢
  exact hk
end Go.Proofs.YtanoohfhifhhaaaDoor

/- Walks: the program's sequence of blocks' spans. -/
set_option linter.unusedVariables false
set_option linter.unusedSimpArgs false
namespace Go.Proofs.YtanoohfhifhhaaaDoor
open Go.RowKit Go.Shelf

attribute [local go_sem] Oper.semAt_some

def spE (bs : List (Int × ByteArray)) (k : Nat) : Array Value := #[.int .i64 (k : Int), .agg #[.int .i64 (frB bs k), .int .i64 (toB bs k)]]
theorem grew_ey {w w' : World} (h : Below w.heap.size w w') (row : Option Nat) : w.grownBy w' row := ⟨h.os, h.tape, h.output, h.size, fun i hi _ => h.block i hi⟩

theorem yield_two {e : Ending} {P Q : Prop} (h : e = .returned (.bool true) ∧ P ∨ e = .returned (.bool false) ∧ Q) : ∃ b : Bool, e = .returned (.bool b) ∧ (b = true → P) ∧ (b = false → Q) := by
  rcases h with ⟨h1, h2⟩ | ⟨h1, h2⟩
  · exact ⟨true, h1, (fun _ => h2), (fun h => by cases h)⟩
  · exact ⟨false, h1, (fun h => by cases h), (fun _ => h2)⟩

set_option maxRecDepth 100000 in
set_option maxHeartbeats 8000000 in
theorem span1_in (n : Nat) (hn : 1 ≤ n) (l Bn b0 : Nat) (A : Option Addr) (c : Nat) (bs : List (Int × ByteArray)) (hsz : ∀ j, (bs.getD j (0, emB)).2.size ≤ 1048576) (J Jx : List Nat → World → Prop)
    (hY : ∀ pre (x : Nat) W, x < spN bs → J pre W → pre.length < spN bs → YieldAt Fence.wide (n - 1) Tryd.prog l (spE bs x) W fun e W' =>
      (e = .returned (.bool true) ∧ J (pre ++ [x]) W' ∧ KpO b0 W W') ∨ (e = .returned (.bool false) ∧ Jx (pre ++ [x]) W'))
    (W : World) (hBn : W.cell? ⟨Bn, 0, none⟩ = some (.slice A bs.length c)) (hbn : Bn ≠ b0) (u0 : Value) (hu0 : W.cell? ⟨b0, 0, none⟩ = some u0) (hub : u0.ownBlock = none) (hP : BL W W.heap.size (.slice A bs.length c) bs) (hcell : bs = [] ∨ ∀ b off, A = some ⟨b, off, none⟩ → b ≠ b0) (hT : Tab W) (hJ : AbidesFrom W.heap.size J) (h0 : J [] W) :
    CallsIn Fence.wide n Tryd.prog 85 #[.func (.yield l) #[] #[], .pointer (some ⟨Bn, 0, none⟩)] W fun e W' => (∃ v, e = .returned v) ∧
      ((∃ ys, ys = List.range (spN bs) ∧ J ys W') ∨ (∃ pre, pre <+: List.range (spN bs) ∧ Jx pre W')) := by
  have HJ := Lib.hid hJ
  have HY := Lib.hid hY
  have HU := Lib.hid (fun h => implUnchunked_any (.slice A bs.length c) bs W hP hsz h)
  unfold POutF at HU
  have HU1 := Lib.hid (HU.out hT)
  have hlen := hP.2.1
  obtain ⟨_, _, A', c', he, h3⟩ := hP
  injection he with e1 e2 e3
  subst e1
  clear e2 e3
  have hb0W : b0 < W.heap.size := World.block_lt_of_cell? W _ hu0
  have hBnW : Bn < W.heap.size := World.block_lt_of_cell? W _ hBn
  clear hJ hY HU hT
  cases hu : uncO bs with
  | none =>
    have E := Lib.hid (show spN bs = 0 by unfold spN; rw [hu])
    rw [hu] at HU1
    clear hu
    refine callsIn_of_wp Tryd.func85 rfl trivial ?_ rfl
    simp only [Tryd.ntmps85, List.size_toArray, List.length_cons, List.length_nil, Nat.reduceAdd, Nat.reduceSub, Array.replicate_succ, Array.replicate_zero, List.push_toArray, List.append_toArray, List.nil_append, List.cons_append]
    gi_wp2
    refine ⟨trivial, ?_⟩
    refine (callsIn_wide.2 HU1.out).mono ?_
    rintro e w2 ⟨v2, rfl, _, hb2⟩
    have HJ2 := Lib.hid (HJ.out _ _ _ none h0 (grew_ey hb2 none) (fun r e => by cases e))
    gi_wp2
    refine bodyPost_ret (results_none rfl _ _ _) rfl ?_
    rw [E.out]
    exact ⟨⟨_, rfl⟩, .inl ⟨_, rfl, HJ2.out⟩⟩
  | some xs =>
    have E := Lib.hid (show spN bs = bs.length by unfold spN; rw [hu])
    rw [E.out] at HY ⊢
    have HAT := Lib.hid (fun k hk => unc_at hu (k := k) hk)
    obtain ⟨_, hxl, _, hbl, hut⟩ := uncO_some hu
    have HUT := Lib.hid hut
    rw [hu] at HU1
    clear hu hut
    refine callsIn_of_wp Tryd.func85 rfl trivial ?_ rfl
    simp only [Tryd.ntmps85, List.size_toArray, List.length_cons, List.length_nil, Nat.reduceAdd, Nat.reduceSub, Array.replicate_succ, Array.replicate_zero, List.push_toArray, List.append_toArray, List.nil_append, List.cons_append]
    gi_wp2
    refine ⟨trivial, ?_⟩
    refine (callsIn_wide.2 HU1.out).mono ?_
    rintro e w2 ⟨v2, rfl, ho2, hb2⟩
    have ho2' : w2.ownsRow W.heap.size 41 2 v2 xs.length (prs xs) := ho2
    have HJ2 := Lib.hid (HJ.out _ _ _ none h0 (grew_ey hb2 none) (fun r e => by cases e))
    have HK2 := Lib.hid (CapOk.of_own ho2')
    have x2 : w2.cell? ⟨Bn, 0, none⟩ = some (.slice A bs.length c) := (hb2.cell (p := ⟨Bn, 0, none⟩) hBnW).trans hBn
    have U2 := Lib.hid ((hb2.cell (p := ⟨b0, 0, none⟩) hb0W).trans hu0)
    have HO2 := Lib.hid ho2'
    have HB2 := Lib.hid hb2
    clear ho2 ho2' hb2 HU1
    gi_wp2
    have HV : Hid (0 < bs.length → ∃ gp cp, v2 = .slice (some ⟨gp, 0, none⟩) xs.length cp ∧ gp ≠ b0 ∧ xs.length ≤ cp ∧ cp ≤ maxLen ∧ ∀ j, j < xs.length → w2.cell? ⟨gp, j * 2, none⟩ = some (.int .i64 (xs.getD j (0, 0)).1)) := Lib.hid (fun h => by
      obtain ⟨pre, _, g1, _, _, _, g2, _⟩ := HAT.out 0 h
      have hx0 : 0 < xs.length := by omega
      obtain ⟨gp, cp, hv⟩ := own_form2 HO2.out hx0
      subst hv
      refine ⟨gp, cp, rfl, (by have := (HO2.out.lt gp rfl).1; omega), HK2.out.at_.1, HK2.out.at_.2, fun j hj => ?_⟩
      rw [HO2.out.cellAt _ (by omega)]; exact prs_get0 _ _ hj)
    gi_loopw [3, 16] (fun p i wr => ∃ k : Nat, k ≤ bs.length ∧ i = .int .i64 (k : Int) ∧ Hid (J (List.range k) wr) ∧ W.heap.size ≤ wr.heap.size ∧ Hid (KpO b0 w2 wr) ∧ Hid (k < bs.length → ∃ gp cp pre, v2 = .slice (some ⟨gp, 0, none⟩) xs.length cp ∧ uncT bs k = some pre ∧ p = .slice (some ⟨gp, pre.length * 2, none⟩) (xs.length - pre.length) (cp - pre.length)))
      (fun _ i _ => bs.length - (intOf i).toNat)
    case atStart =>
      refine ⟨0, Nat.zero_le _, rfl, HJ2, HB2.out.size, Lib.hid (KpO.refl _ _), Lib.hid (fun h => ?_)⟩
      obtain ⟨gp, cp, hv, _⟩ := HV.out h
      exact ⟨gp, cp, [], hv, rfl, by rw [hv]; simp⟩
    case round =>
      obtain ⟨k, hk, rfl, HJk, hsz, HKW, HPS⟩ := hrel
      by_cases hlt : k < bs.length
      · obtain ⟨gp, cp, pre, hv, hpre, rfl⟩ := HPS.out hlt
        obtain ⟨gp', cp', hv', hgb, hc1, hc2, hpc⟩ := HV.out (by omega)
        have HVX := Lib.hid hv
        rw [hv] at hv'
        injection hv' with q1 _ q3
        injection q1 with q1
        injection q1 with q1 _ _
        subst q1
        subst q3
        obtain ⟨pre', g0, g1, g2, g3, g4, g5, g6, g7, g8⟩ := HAT.out k hlt
        obtain rfl : pre = pre' := by rw [hpre] at g0; exact Option.some.inj g0
        have HT := Lib.hid (show List.range (k + 1) = List.range k ++ [k] from List.range_succ)
        have HLen : Hid ((List.range k).length < bs.length) := Lib.hid (by rw [List.length_range]; exact hlt)
        have HPre : Hid (List.range (k + 1) <+: List.range bs.length) := Lib.hid (by
          obtain ⟨d, hd⟩ : ∃ d, bs.length = k + 1 + d := ⟨bs.length - (k + 1), by omega⟩
          rw [hd]; exact ⟨(List.range d).map (fun x => k + 1 + x), List.range_add.symm⟩)
        rcases h3 with h3 | ⟨b, off, rfl, hbb, hcb⟩
        · subst h3; simp at hlt
        have hbne : b ≠ b0 := by
          rcases hcell with hcell | hcell
          · subst hcell; simp at hlt
          · exact hcell b off rfl
        obtain ⟨y0, y1⟩ := hcb k hlt
        have y0 := (HB2.out.cell (p := ⟨b, off + k * 2, none⟩) hbb).trans y0
        have y1 := (HB2.out.cell (p := ⟨b, off + k * 2 + 1, none⟩) hbb).trans y1
        have z0 : wr.cell? ⟨b, off + k * 2, none⟩ = some (.int .i64 (bs.getD k (0, emB)).1) := HKW.out.cell U2.out hub y0 hbne
        have z1 : wr.cell? ⟨b, off + k * 2 + 1, none⟩ = some (.string (bs.getD k (0, emB)).2) := HKW.out.cell U2.out hub y1 hbne
        obtain ⟨M, hM⟩ : ∃ M, (ptsAt bs k).length = M := ⟨_, rfl⟩
        obtain ⟨q, hq⟩ : ∃ q, M - 1 = q := ⟨_, rfl⟩
        have p0 := HKW.out.cell U2.out hub (hpc pre.length (by omega)) hgb
        have p1 := HKW.out.cell U2.out hub (hpc (pre.length + q) (by omega)) hgb
        have e0 := g6 0 (by omega)
        have e1 := g6 q (by omega)
        rw [Nat.add_zero] at e0
        rw [e0] at p0
        rw [e1] at p1
        have HSE : Hid (spE bs k = #[.int .i64 (k : Int), .agg #[.int .i64 ((ptsAt bs k).getD 0 (0, 0)).1, .int .i64 ((ptsAt bs k).getD q (0, 0)).1]]) := Lib.hid (by
          unfold spE frB toB; rw [hM, hq])
        rw [← g2, hM] at z0
        rw [hM] at g5 g7 g1 g3
        generalize (bs.getD k (0, emB)).2 = D at *
        generalize ((ptsAt bs k).getD 0 (0, 0)).1 = tf at *
        generalize ((ptsAt bs k).getD q (0, 0)).1 = tt at *
        obtain ⟨o, ho⟩ : ∃ o, pre.length = o := ⟨_, rfl⟩
        rw [ho] at p0 p1 g5 g7 ⊢
        have HPO := Lib.hid (show uncT bs (k + 1) = some (pre ++ ptsAt bs k) ∧ (pre ++ ptsAt bs k).length = o + M from ⟨g4, by rw [List.length_append, ho, hM]⟩)
        rw [show (o + q) * 2 = o * 2 + q * 2 by omega] at p1
        have eQ : IntKind.i64.wrap ((M : Int) - 1) = (q : Int) := by rw [IntWalk.i64_in _ (by omega)]; omega
        have hqo : q < xs.length - o := by omega
        have hqi : (q : Int) < ((xs.length - o : Nat) : Int) := by omega
        have hoi : 0 < xs.length - o := by omega
        have hMo : (M : Int) ≤ ((xs.length - o : Nat) : Int) := by omega
        obtain ⟨W1, hW1⟩ : ∃ W1, wr.alloc (.cells #[.int .i64 (M : Int), .string D] 36) = W1 := ⟨_, rfl⟩
        have hk1 : KpO b0 wr W1 := by rw [← hW1]; exact KpO.of_below (below1 wr _)
        have KB1 : KB W1 wr.heap.size (M : Int) D := by rw [← hW1]; exact KB.new wr _ _
        have hsz1 : wr.heap.size < W1.heap.size := KB1.lt
        have HJ1 := Lib.hid (show J (List.range k) W1 by rw [← hW1]; exact HJ.out _ _ _ none HJk.out (World.grownBy_alloc wr _ none) (fun r e => by cases e))
        have HJ1d := Lib.hid (show J (List.range k) W1.drew from HJ.out _ _ _ none HJ1.out (grew_drewN_en W1 1 none) (fun r e => by cases e))
        have v0 := KB1.c0
        have gl : gp < wr.heap.size := World.block_lt_of_cell? wr _ p0
        have p0' : W1.cell? ⟨gp, o * 2, none⟩ = some (.int .i64 tf) := by rw [← hW1]; exact ((below1 wr _).cell (p := ⟨gp, o * 2, none⟩) gl).trans p0
        have p1' : W1.cell? ⟨gp, o * 2 + q * 2, none⟩ = some (.int .i64 tt) := by rw [← hW1]; exact ((below1 wr _).cell (p := ⟨gp, o * 2 + q * 2, none⟩) gl).trans p1
        obtain ⟨fn, tmps, assign, body, hy, hR⟩ := HY.out (List.range k) k W1.drew hlt HJ1d.out HLen.out
        rw [HSE.out] at hy
        have HW1 := Lib.hid hW1
        clear hW1 hpc hcb y0 y1 p0 p1 e0 e1 g0 g6 HPS hv hpre hM hq g1 g2 g4
        gi_upto_region 5 with fail
        rw [HW1.out]
        rename_i K1 hK1
        refine wpIn_mono (Q := Exit.then K1 (fun _ _ _ => False)) ?_ ?post
        case post =>
          intro e a' w' h
          cases e <;> first | exact h | exact h.elim
        gi_region_with (refine hR.mono ?_; intro e W3 hy2; obtain ⟨bb, rfl, hy3, hy4⟩ := yield_two hy2)
        all_goals
          obtain ⟨u1, hu1, hu1b, _⟩ := HKW.out.2 u0 U2.out
          have hu1' : W1.cell? ⟨b0, 0, none⟩ = some u1 := by rw [← HW1.out]; exact ((below1 wr _).cell (p := ⟨b0, 0, none⟩) (World.block_lt_of_cell? wr _ hu1)).trans hu1
          have hnb : u1.ownBlock ≠ some wr.heap.size := fun e => by
            rcases hu1b _ e with e | ⟨_, e⟩
            · rw [hub] at e; cases e
            · omega
          have hbne0 : wr.heap.size ≠ b0 := by omega
          cases bb with
          | true =>
            obtain ⟨hJ3, hk3⟩ := hy3 rfl
            have hk3 : KpO b0 W1 W3 := hk3
            obtain ⟨u3, hu3, _, hbk⟩ := hk3.2 u1 hu1'
            have KB3 : KB W3 wr.heap.size (M : Int) D := hbk _ _ KB1 rfl hbne0 hnb
            have v3 := KB3.c0
            have HK3 := Lib.hid (HKW.out.trans (hk1.trans hk3))
            have HJ3 := Lib.hid (show J (List.range (k + 1)) W3 by rw [HT.out]; exact hJ3)
            have hs3 := hk3.1
            clear hu1 hu1' hu1b hnb hu3 hbk KB3 hJ3 hk3 hy3 hy4 hR hy v0 p0' p1' z0 z1
            by_cases hcm : cp - o = M
            · gi_wp2
              go_roundw
              case rel =>
                refine ⟨_, _, _, _, ⟨k + 1, by omega, by go_num, HJ3, by omega, Lib.hid (fun h => ?_)⟩, rfl, rfl, rfl, rfl⟩
                have := g7 h
                omega
              case measure => simp [intOf]; omega
            · gi_wp2
              go_roundw
              case rel =>
                refine ⟨_, _, _, _, ⟨k + 1, by omega, by go_num, HJ3, by omega, Lib.hid (fun h => ?_)⟩, rfl, rfl, rfl, rfl⟩
                refine ⟨gp, cp, HVX.out, pre ++ ptsAt bs k, HPO.out.1, ?_⟩
                rw [HPO.out.2, show o * 2 + M * 2 = (o + M) * 2 by omega, Nat.sub_sub, Nat.sub_sub]
              case measure => simp [intOf]; omega
          | false =>
            have hJX := Lib.hid (show Jx (List.range (k + 1)) W3 by rw [HT.out]; exact hy4 rfl)
            clear hu1 hu1' hu1b hnb hy3 hy4 hR hy v0 p0' p1' z0 z1
            gi_wp2
            refine bodyPost_ret (results_none rfl _ _ _) rfl ?_
            exact ⟨⟨_, rfl⟩, .inr ⟨_, HPre.out, hJX.out⟩⟩
      · obtain rfl : k = bs.length := by omega
        gi_wp2
        go_end0
        first | exact ⟨⟨_, rfl⟩, .inl ⟨_, rfl, HJk.out⟩⟩ | exact ⟨⟨_, rfl⟩, .inl HJk.out⟩

theorem spans_any (A : Option Addr) (n c : Nat) (w : World) :
    Calls Tryd.prog 56 #[.slice A n c] w fun e w' => e = .returned (.func (.func 85) #[] #[.pointer (some ⟨w.heap.size, 0, none⟩)]) ∧ w' = w.alloc (.cells #[.slice A n c] 27) := by
  go_enter Tryd.func56, Tryd.ntmps56
  go_wp2_with fail
  go_ret
  exact ⟨rfl, rfl⟩

/-- the same, each index with what is known of it -/
theorem span2_in (n : Nat) (hn : 1 ≤ n) (l Bn b0 : Nat) (A : Option Addr) (c : Nat) (bs : List (Int × ByteArray)) (hsz : ∀ j, (bs.getD j (0, emB)).2.size ≤ 1048576) (J Jx : List {x : Nat // x < spN bs} → World → Prop)
    (hY : ∀ pre (x : {x : Nat // x < spN bs}) W, J pre W → pre.length < spN bs → YieldAt Fence.wide (n - 1) Tryd.prog l (spE bs x.1) W fun e W' =>
      (e = .returned (.bool true) ∧ J (pre ++ [x]) W' ∧ KpO b0 W W') ∨ (e = .returned (.bool false) ∧ Jx (pre ++ [x]) W'))
    (W : World) (hBn : W.cell? ⟨Bn, 0, none⟩ = some (.slice A bs.length c)) (hbn : Bn ≠ b0) (u0 : Value) (hu0 : W.cell? ⟨b0, 0, none⟩ = some u0) (hub : u0.ownBlock = none) (hP : BL W W.heap.size (.slice A bs.length c) bs) (hcell : bs = [] ∨ ∀ b off, A = some ⟨b, off, none⟩ → b ≠ b0) (hT : Tab W) (hJ : AbidesFrom W.heap.size J) (h0 : J [] W) :
    CallsIn Fence.wide n Tryd.prog 85 #[.func (.yield l) #[] #[], .pointer (some ⟨Bn, 0, none⟩)] W fun e W' => (∃ v, e = .returned v) ∧
      ((∃ ys, ys.map Subtype.val = List.range (spN bs) ∧ J ys W') ∨ (∃ pre, pre.map Subtype.val <+: List.range (spN bs) ∧ Jx pre W')) := by
  refine (span1_in n hn l Bn b0 A c bs hsz (fun pre W => ∃ ys : List {x : Nat // x < spN bs}, ys.map Subtype.val = pre ∧ J ys W) (fun pre W => ∃ ys : List {x : Nat // x < spN bs}, ys.map Subtype.val = pre ∧ Jx ys W) ?_ W hBn hbn u0 hu0 hub hP hcell hT ?_ ⟨[], rfl, h0⟩).mono ?_
  · rintro pre x W1 hx ⟨ys, rfl, hj⟩ hl
    rw [List.length_map] at hl
    obtain ⟨fn, tmps, assign, body, hy, hR⟩ := hY ys ⟨x, hx⟩ W1 hj hl
    refine ⟨fn, tmps, assign, body, hy, hR.mono ?_⟩
    rintro e W2 (⟨h1, h2, h3⟩ | ⟨h1, h2⟩)
    · exact .inl ⟨h1, ⟨_, by simp, h2⟩, h3⟩
    · exact .inr ⟨h1, ⟨_, by simp, h2⟩⟩
  · rintro pre X Y row ⟨ys, h1, h2⟩ hg hr
    exact ⟨ys, h1, hJ ys X Y row h2 hg hr⟩
  · rintro e W2 ⟨h1, ⟨ys, rfl, zs, h2, h3⟩ | ⟨pre, h2, zs, rfl, h4⟩⟩
    · exact ⟨h1, .inl ⟨zs, h2, h3⟩⟩
    · exact ⟨h1, .inr ⟨zs, h2, h4⟩⟩
end Go.Proofs.YtanoohfhifhhaaaDoor

/- Walks: the chunk of a time, both. -/
set_option linter.unusedVariables false
set_option linter.unusedSimpArgs false
namespace Go.Proofs.YtanoohfhifhhaaaDoor
open Go.RowKit Go.Shelf

attribute [local go_sem] Oper.semAt_some

def hitB (bs : List (Int × ByteArray)) (t : Int) (i : Nat) : Bool := decide (frB bs i ≤ t) && decide (t ≤ toB bs i)
def ctM (bs : List (Int × ByteArray)) (t : Int) : Int := match (List.range (spN bs)).find? (hitB bs t) with
  | some i => (i : Int)
  | none => -1
theorem ctM_none {bs : List (Int × ByteArray)} {t : Int} (h : ∀ i, i < spN bs → hitB bs t i = false) : ctM bs t = -1 := by
  unfold ctM
  rw [List.find?_eq_none.2 (fun i hi => by rw [h i (List.mem_range.1 hi)]; simp)]
theorem ctM_some {bs : List (Int × ByteArray)} {t : Int} {k : Nat} (hk : k < spN bs) (h : ∀ i, i < k → hitB bs t i = false) (hh : hitB bs t k = true) : ctM bs t = (k : Int) := by
  unfold ctM
  have e : (List.range (spN bs)).find? (hitB bs t) = some k := by
    obtain ⟨d, hd⟩ : ∃ d, spN bs = k + (1 + d) := ⟨spN bs - (k + 1), by omega⟩
    rw [hd, List.range_add, List.find?_append, List.find?_eq_none.2 (fun i hi => by rw [h i (List.mem_range.1 hi)]; simp)]
    rw [show 1 + d = d + 1 by omega, List.range_succ_eq_map, List.map_cons, List.find?_cons_of_pos (by simpa using hh)]
    simp
  rw [e]
theorem ctM_bd (bs : List (Int × ByteArray)) (t : Int) (h : bs.length ≤ 1048576) : -1 ≤ ctM bs t ∧ ctM bs t < 1048576 := by
  by_cases hx : ∃ k, k < spN bs ∧ hitB bs t k = true
  · unfold ctM
    cases hf : (List.range (spN bs)).find? (hitB bs t) with
    | none => simp
    | some i =>
      have := List.mem_range.1 (List.mem_of_find?_eq_some hf)
      have h2 : spN bs ≤ bs.length := by unfold spN; split <;> omega
      simp only; omega
  · rw [ctM_none (fun i hi => by
      cases hb : hitB bs t i with
      | false => rfl
      | true => exact absurd ⟨i, hi, hb⟩ hx)]
    omega

set_option maxRecDepth 100000 in
set_option maxHeartbeats 8000000 in
theorem specChunkAt_any (v : Value) (bs : List (Int × ByteArray)) (t : Int) (w : World) (h : BL w w.heap.size v bs) (hsz : ∀ j, (bs.getD j (0, emB)).2.size ≤ 1048576) :
    Calls Tryd.prog 24 #[v, .int .i64 t] w fun e w' => e = .returned (.int .i64 (ctM bs t)) ∧ Below w.heap.size w w' := by
  have HU := Lib.hid (specUnchunked_any v bs w h hsz)
  have HPO := Lib.hid (fun n s W hs => specPointsOf_any n s W hs)
  have hlen := h.2.1
  unfold POutF at HU HPO
  obtain ⟨_, _, A, c, rfl, h3⟩ := h
  have HSZ := Lib.hid hsz
  clear hsz
  cases hu : uncO bs with
  | none =>
    have E := Lib.hid (show ctM bs t = -1 from ctM_none (fun i hi => by have e : spN bs = 0 := (by unfold spN; rw [hu]); omega))
    rw [hu] at HU
    have hff : ptsF (none : Option (List (Int × Int))) = false := rfl
    rw [hff] at HU
    clear hu hff
    go_enter Tryd.func24, Tryd.ntmps24
    go_wp2_with fail
    refine HU.out.mono ?_
    rintro e w1 ⟨v1, rfl, _, hb1⟩
    have HB := Lib.hid hb1
    clear hb1
    go_wp2_with fail
    refine wp_loop_rounds 1 ?_
    rw [rounds_succ]
    go_wp2_with fail
    go_ret
    rw [E.out]
    exact ⟨rfl, HB.out⟩
  | some xs =>
    have E := Lib.hid (show spN bs = bs.length by unfold spN; rw [hu])
    have HAT := Lib.hid (fun k hk => unc_at hu (k := k) hk)
    have HN := Lib.hid (fun h => @ctM_none bs t h)
    have HS := Lib.hid (fun k hk h hh => @ctM_some bs t k hk h hh)
    rw [E.out] at HN HS
    rw [hu] at HU
    have hff : ptsF (some xs) = true := rfl
    rw [hff] at HU
    clear hu hff
    go_enter Tryd.func24, Tryd.ntmps24
    go_wp2_with fail
    refine HU.out.mono ?_
    rintro e w1 ⟨v1, rfl, _, hb1⟩
    have HB1 := Lib.hid hb1
    clear hb1
    go_wp2_with fail
    go_loopw [7] (fun i wr => ∃ k : Nat, k ≤ bs.length ∧ i = .int .i64 (k : Int) ∧ Hid (∀ i, i < k → hitB bs t i = false) ∧ Hid (Below w.heap.size w wr))
      (fun i _ => bs.length - (intOf i).toNat)
    case atStart => exact ⟨0, Nat.zero_le _, rfl, Lib.hid (fun i hi => by omega), HB1⟩
    case round =>
      obtain ⟨k, hk, rfl, HNO, HB⟩ := hrel
      by_cases hlt : k < bs.length
      · rcases h3 with h3 | ⟨b, off, rfl, hbb, hcb⟩
        · subst h3; simp at hlt
        obtain ⟨y0, y1⟩ := hcb k hlt
        have z0 := (HB.out.cell (p := ⟨b, off + k * 2, none⟩) hbb).trans y0
        have z1 := (HB.out.cell (p := ⟨b, off + k * 2 + 1, none⟩) hbb).trans y1
        obtain ⟨pre, _, g1, g2, g3, _, _, _, _, g8⟩ := HAT.out k hlt
        have HP := Lib.hid (fun W => HPO.out (bs.getD k (0, emB)).1 (bs.getD k (0, emB)).2 W (by have := HSZ.out k; unfold maxLen; omega))
        rw [g8] at HP
        have HFR := Lib.hid (show frB bs k = ((ptsAt bs k).getD 0 (0, 0)).1 from rfl)
        have HTO := Lib.hid (show toB bs k = ((ptsAt bs k).getD ((ptsAt bs k).length - 1) (0, 0)).1 from rfl)
        have hff : ptsF (some (ptsAt bs k)) = true := rfl
        have HXX := Lib.hid (show ptsX (some (ptsAt bs k)) = ptsAt bs k from rfl)
        rw [HXX.out, hff] at HP
        generalize (bs.getD k (0, emB)).1 = N at *
        generalize (bs.getD k (0, emB)).2 = D at *
        have HHIT := Lib.hid (show hitB bs t k = (decide (frB bs k ≤ t) && decide (t ≤ toB bs k)) from rfl)
        generalize frB bs k = fr at *
        generalize toB bs k = tl at *
        generalize ptsAt bs k = ys at *
        obtain ⟨M, hM⟩ : ∃ M, ys.length = M := ⟨_, rfl⟩
        rw [hM] at g1 g3 HTO HP
        obtain ⟨q, hq⟩ : ∃ q, M - 1 = q := ⟨_, rfl⟩
        rw [hq] at HTO
        have eQ : IntKind.i64.wrap ((M : Int) - 1) = (q : Int) := by rw [IntWalk.i64_in _ (by omega)]; omega
        have hzz := HB.out.size
        clear hcb y0 y1 g8 g2 hff
        go_wp2_with fail
        refine (HP.out _).mono ?_
        rintro e w2 ⟨v2, rfl, ho2, hb2⟩
        have ho2' : w2.ownsRow wr.heap.size 41 2 v2 M (prs ys) := ho2
        obtain ⟨gp, cp, rfl⟩ := own_form2 ho2' (by omega)
        have HB2 := Lib.hid (HB.out.trans (hb2.mono hzz))
        have p0 : w2.cell? ⟨gp, 0, none⟩ = some (.int .i64 fr) := by rw [ho2'.cellAt 0 (by omega), HFR.out]; exact prs_get0 ys 0 (by omega)
        have p1 : w2.cell? ⟨gp, q * 2, none⟩ = some (.int .i64 tl) := by rw [ho2'.cellAt (q * 2) (by omega), HTO.out]; exact prs_get0 ys q (by omega)
        have hqM : q < M := by omega
        have hqI : (q : Int) < (M : Int) := by omega
        have hM0 : 0 < M := by omega
        clear ho2 ho2' hb2 z0 z1 hq hM
        by_cases a1 : fr ≤ t
        · have c1 : decide (fr ≤ t) = true := decide_eq_true a1
          by_cases a2 : t ≤ tl
          · have c2 : decide (t ≤ tl) = true := decide_eq_true a2
            have ER := Lib.hid (HS.out k hlt HNO.out (by rw [HHIT.out, c1, c2]; rfl))
            go_wp2_with fail
            go_ret
            rw [ER.out]
            exact ⟨rfl, HB2.out⟩
          · have c2 : decide (t ≤ tl) = false := decide_eq_false a2
            have HNN := Lib.hid (show ∀ i, i < k + 1 → hitB bs t i = false from fun i hi => by
              by_cases e : i = k
              · subst e; rw [HHIT.out, c1, c2]; rfl
              · exact HNO.out i (by omega))
            go_wp2_with fail
            go_roundw
            case rel => exact ⟨k + 1, by omega, by go_num, HNN, HB2⟩
            case measure => simp [intOf]; omega
        · have c1 : decide (fr ≤ t) = false := decide_eq_false a1
          have HNN := Lib.hid (show ∀ i, i < k + 1 → hitB bs t i = false from fun i hi => by
            by_cases e : i = k
            · subst e; rw [HHIT.out, c1]; rfl
            · exact HNO.out i (by omega))
          go_wp2_with fail
          go_roundw
          case rel => exact ⟨k + 1, by omega, by go_num, HNN, HB2⟩
          case measure => simp [intOf]; omega
      · obtain rfl : k = bs.length := by omega
        have ER := Lib.hid (HN.out HNO.out)
        go_wp2_with fail
        go_ret
        rw [ER.out]
        exact ⟨rfl, HB.out⟩
end Go.Proofs.YtanoohfhifhhaaaDoor
