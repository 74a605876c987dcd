/- Walks: rolls from a sequence: ranges over functions. -/
import Derived.RangeFuncBox
import Derived.RangeFuncLeaves
import Derived.RangeFuncNested
import Derived.Shelf.Abstract
import Derived.OwnWalkIn
import Derived.TacticsInMore
import Derived.LoopNIn
import Derived.LoopIn
import Derived.Test.YtcjpedolmnahfaaYo
import Derived.Test.YtcjpedolmnahfaaYl
import Derived.Test.YtcjpedolmnahfaaYq
set_option linter.unusedVariables false
set_option linter.unusedSimpArgs false
namespace Go.Proofs.Ytcjpedolmnahfaa
open Go.RowKit Go.Shelf

attribute [local go_sem] Oper.semAt_some

abbrev RX := {x : R6 // 0 ≤ x.1 ∧ Rng6 x}
open Classical in
noncomputable def rxOf (x : R6) : RX := if h : 0 ≤ x.1 ∧ Rng6 x then ⟨x, h⟩ else ⟨z6, Int.le_refl 0, rng6_zero⟩
theorem rxOf_eq {x : R6} (h : 0 ≤ x.1 ∧ Rng6 x) : (rxOf x).1 = x := by unfold rxOf; rw [dif_pos h]
def agR (x : R6) : Value := .agg #[.int .i64 x.1, .int .i64 x.2.1, .int .i64 x.2.2.1, .int .i64 x.2.2.2.1, .int .i64 x.2.2.2.2.1, .int .i64 x.2.2.2.2.2]
def ceR (x : R6) : Array Value := #[.int .i64 x.1, .int .i64 x.2.1, .int .i64 x.2.2.1, .int .i64 x.2.2.2.1, .int .i64 x.2.2.2.2.1, .int .i64 x.2.2.2.2.2]
def sgl (p : Int × Int) : R6 := (p.1, 1, p.2, p.2, p.2, p.2)
def foldI (W : Int) (pre : List RX) : List R6 := (pre.map Subtype.val).foldl (addI W) []
theorem foldI_snoc (W : Int) (pre : List RX) (x : RX) : foldI W (pre ++ [x]) = addI W (foldI W pre) x.1 := by simp [foldI]
theorem foldI_len (W : Int) : ∀ pre : List RX, (foldI W pre).length ≤ pre.length := by
  intro pre
  unfold foldI
  suffices H : ∀ (l : List R6) (acc : List R6), (l.foldl (addI W) acc).length ≤ acc.length + l.length by
    have := H (pre.map Subtype.val) []
    simpa using this
  intro l
  induction l with
  | nil => intro acc; simp
  | cons x l ih => intro acc; have h1 := ih (addI W acc x); have h2 := addI_len W acc x; simp only [List.foldl_cons, List.length_cons]; omega

/-- a variable's box that holds a roll -/
def BoxR (W : World) (B : Nat) (x : R6) : Prop := W.heap[B]? = some (.cells (ceR x) 48 (0, 0))
theorem BoxR.lt {W : World} {B : Nat} {x : R6} (h : BoxR W B x) : B < W.heap.size := (Array.getElem?_eq_some_iff.1 h).1
theorem BoxR.new (W : World) (x : R6) : BoxR (W.alloc (.cells (ceR x) 48)) W.heap.size x := World.alloc_heap_new W _
theorem BoxR.kept {W W' : World} {row : Option Nat} {B : Nat} {x : R6} (h : BoxR W B x) (hg : W.grownBy W' row) (hne : some B ≠ row) : BoxR W' B x := (hg.block B h.lt hne).trans h
theorem BoxR.own {X Y : World} {row : Option Nat} {B : Nat} {x : R6} (h : BoxR X B x) (hg : X.grownBy Y row) (hr : ∀ r, row = some r → ∃ o : Obj, X.heap[r]? = some o ∧ o.isCells = false) : BoxR Y B x :=
  h.kept hg (fun e => by obtain ⟨o, ho, hc⟩ := hr B e.symm; rw [h] at ho; cases ho; cases hc)
theorem BoxR.c0 {W : World} {B : Nat} {x : R6} (h : BoxR W B x) : W.cell? ⟨B, 0, none⟩ = some (.int .i64 x.1) := by simp [World.cell?, show W.heap[B]? = _ from h, ceR]
theorem BoxR.c1 {W : World} {B : Nat} {x : R6} (h : BoxR W B x) : W.cell? ⟨B, 1, none⟩ = some (.int .i64 x.2.1) := by simp [World.cell?, show W.heap[B]? = _ from h, ceR]
theorem BoxR.c2 {W : World} {B : Nat} {x : R6} (h : BoxR W B x) : W.cell? ⟨B, 2, none⟩ = some (.int .i64 x.2.2.1) := by simp [World.cell?, show W.heap[B]? = _ from h, ceR]
theorem BoxR.c3 {W : World} {B : Nat} {x : R6} (h : BoxR W B x) : W.cell? ⟨B, 3, none⟩ = some (.int .i64 x.2.2.2.1) := by simp [World.cell?, show W.heap[B]? = _ from h, ceR]
theorem BoxR.c4 {W : World} {B : Nat} {x : R6} (h : BoxR W B x) : W.cell? ⟨B, 4, none⟩ = some (.int .i64 x.2.2.2.2.1) := by simp [World.cell?, show W.heap[B]? = _ from h, ceR]
theorem BoxR.c5 {W : World} {B : Nat} {x : R6} (h : BoxR W B x) : W.cell? ⟨B, 5, none⟩ = some (.int .i64 x.2.2.2.2.2) := by simp [World.cell?, show W.heap[B]? = _ from h, ceR]
theorem keeps_own {w w' : World} {base : Nat} {e : TypeId} {size : Nat} {v : Value} {n : Nat} {xs : List Value} (hown : w.ownsRow base e size v n xs) (hg : w.grownBy w' v.ownBlock) : KeepsOthers w w' :=
  KeepsOthers.of_grownBy hg fun j o ej hj => by
    rcases hown.2 with ⟨rfl, _⟩ | ⟨g, cap, cur, rfl, _, hgb, _⟩
    · simp [Value.ownBlock] at ej
    · obtain rfl : g = j := by simpa [Value.ownBlock] using ej
      rw [hgb] at hj; cases hj; rfl

set_option maxRecDepth 100000 in
set_option maxHeartbeats 4000000 in
theorem single1_in (n : Nat) (hn : 1 ≤ n) (l Bn n₀ : Nat) (A : Option Addr) (c : Nat) (xs : List (Int × Int)) (hg : ∀ j, j < xs.length → 0 ≤ (xs.getD j (0, 0)).1 ∧ Rng (xs.getD j (0, 0)).1 ∧ Rng (xs.getD j (0, 0)).2) (hl : xs.length ≤ 1048576) (J Jx : List RX → World → Prop)
    (hY : ∀ pre (x : RX) W, J pre W → pre.length < xs.length → YieldAt Fence.wide (n - 1) Try.prog l #[agR x.1] W fun e W' =>
      (e = .returned (.bool true) ∧ J (pre ++ [x]) W' ∧ Below n₀ W W') ∨ (e = .returned (.bool false) ∧ Jx (pre ++ [x]) W'))
    (W : World) (hBn : W.cell? ⟨Bn, 0, none⟩ = some (.slice A xs.length c)) (hn₀ : n₀ ≤ W.heap.size) (hP : PL W n₀ (.slice A xs.length c) xs) (hJ : AbidesFrom W.heap.size J) (h0 : J [] W) :
    CallsIn Fence.wide n Try.prog 109 #[.func (.yield l) #[] #[], .pointer (some ⟨Bn, 0, none⟩)] W fun e W' => (∃ v, e = .returned v) ∧
      ((∃ ys, ys = xs.map (fun p => rxOf (sgl p)) ∧ J ys W') ∨ (∃ pre, pre <+: xs.map (fun p => rxOf (sgl p)) ∧ Jx pre W')) := by
  obtain ⟨_, _, A', c', hA, h3⟩ := hP
  cases hA
  have HG := Lib.hid hg
  have HJ := Lib.hid hJ
  have HY := Lib.hid hY
  have hRO := Lib.hid (fun t v W => rollOf_any t v W)
  clear hg hJ hY
  refine callsIn_of_wp Try.func109 rfl trivial ?_ rfl
  simp only [Try.ntmps109, List.size_toArray, List.length_cons, List.length_nil, Nat.reduceAdd, Nat.reduceSub, Array.replicate_succ, Array.replicate_zero, List.push_toArray, List.append_toArray, List.nil_append, List.cons_append]
  gi_wp2
  gi_loopw [7] (fun i wr => ∃ k : Nat, k ≤ xs.length ∧ i = .int .i64 k ∧ Hid (J ((xs.take k).map (fun p => rxOf (sgl p))) wr) ∧ W.heap.size ≤ wr.heap.size ∧ Below n₀ W wr)
    (fun i _ => xs.length - (intOf i).toNat)
  case atStart => exact ⟨0, Nat.zero_le _, rfl, Lib.hid h0, Nat.le_refl _, Below.refl _ _⟩
  case round =>
    obtain ⟨k, hk, rfl, HJk, hsz, hb⟩ := hrel
    by_cases hlt : k < xs.length
    · rcases h3 with h3 | ⟨b, off, rfl, hbl, hc⟩
      · subst h3; simp at hlt
      have hx0 : wr.cell? ⟨b, off + k * 2, none⟩ = some (.int .i64 (xs.getD k (0, 0)).1) := (hb.cell (p := ⟨b, off + k * 2, none⟩) hbl).trans (hc k hlt).1
      have hx1 : wr.cell? ⟨b, off + k * 2 + 1, none⟩ = some (.int .i64 (xs.getD k (0, 0)).2) := (hb.cell (p := ⟨b, off + k * 2 + 1, none⟩) hbl).trans (hc k hlt).2
      clear hc
      have hgk := HG.out k hlt
      have HT : Hid ((xs.take (k + 1)).map (fun p => rxOf (sgl p)) = (xs.take k).map (fun p => rxOf (sgl p)) ++ [rxOf (sgl (xs.getD k (0, 0)))]) := Lib.hid (by
        rw [List.take_add_one, List.getElem?_eq_getElem hlt, List.getD_eq_getElem?_getD, List.getElem?_eq_getElem hlt, List.map_append]
        rfl)
      have HLen : Hid (((xs.take k).map (fun p => rxOf (sgl p))).length < xs.length) := Lib.hid (by rw [List.length_map, List.length_take]; omega)
      have HPre : Hid ((xs.take (k + 1)).map (fun p => rxOf (sgl p)) <+: xs.map (fun p => rxOf (sgl p))) := Lib.hid (by
        rw [List.map_take]; exact List.take_prefix _ _)
      obtain ⟨pre1, hp1⟩ : ∃ q, q = (xs.take (k + 1)).map (fun p => rxOf (sgl p)) := ⟨_, rfl⟩
      rw [← hp1] at HT HPre
      have HZ := Lib.hid hp1
      clear hp1
      generalize (xs.take k).map (fun p => rxOf (sgl p)) = pre at *
      generalize xs.getD k (0, 0) = p at *
      obtain ⟨t, v⟩ := p
      have HX : Hid ((rxOf (sgl (t, v))).1 = (t, 1, v, v, v, v)) := Lib.hid (rxOf_eq ⟨hgk.1, hgk.2.1, (show Rng 1 from ⟨by omega, by omega⟩), hgk.2.2, hgk.2.2, hgk.2.2, hgk.2.2⟩)
      simp only at hx0 hx1
      have HB := Lib.hid hb
      have Hsz := Lib.hid hsz
      clear hgk hb hsz
      gi_wp2_with (refine ⟨trivial, ?_⟩; gi_at_call 110; refine (callsIn_wide.2 (hRO.out t v _)).mono ?_; rintro e w2 ⟨rfl, hb2⟩; obtain ⟨fn, tmps, assign, body, hy, hR⟩ := HY.out pre (rxOf (sgl (t, v))) w2 (HJ.out _ _ _ none HJk.out (((World.grownBy_alloc wr (.cells #[.int .i64 t, .int .i64 v] 43) none)).trans (grew_of_below hb2 none)) (fun r e => by cases e)) HLen.out; rw [HX.out] at hy; dsimp only [agR] at hy; have HB2 := Lib.hid ((HB.out.alloc (by have := Hsz.out; omega) (.cells #[.int .i64 t, .int .i64 v] 43)).trans (hb2.mono (by have := Hsz.out; simp; omega))); have Hs2 := Lib.hid (show wr.heap.size ≤ w2.heap.size by have := hb2.size; simp at this; omega); clear hb2)
      refine hR.mono ?_
      rintro e W3 (⟨rfl, hJ3, hk3⟩ | ⟨rfl, hJx3⟩)
      · gi_wp2
        go_roundw
        case rel => exact ⟨k + 1, by omega, by go_num, Lib.hid (by rw [← HZ.out, HT.out]; exact hJ3), by have := hk3.size; have := Hs2.out; have := Hsz.out; omega, HB2.out.trans hk3⟩
        case measure => simp [intOf]; omega
      · gi_wp2
        refine bodyPost_ret (results_none rfl _ _ _) rfl ?_
        exact ⟨⟨_, rfl⟩, .inr ⟨pre1, HPre.out, by rw [HT.out]; exact hJx3⟩⟩
    · obtain rfl : k = xs.length := by omega
      rw [List.take_length] at HJk
      gi_wp2
      go_end0
      exact ⟨⟨_, rfl⟩, .inl ⟨_, rfl, HJk.out⟩⟩

theorem single_stops (n : Nat) (hn : 1 ≤ n) (Bn n₀ : Nat) (A : Option Addr) (c : Nat) (xs : List (Int × Int)) (hg : ∀ j, j < xs.length → 0 ≤ (xs.getD j (0, 0)).1 ∧ Rng (xs.getD j (0, 0)).1 ∧ Rng (xs.getD j (0, 0)).2) (hl : xs.length ≤ 1048576)
    (w : World) (hBn : Bn < w.heap.size) (hn₀ : n₀ ≤ w.heap.size) (hc : w.cell? ⟨Bn, 0, none⟩ = some (.slice A xs.length c)) (hP : PL w n₀ (.slice A xs.length c) xs) :
    SeqStopsK Fence.wide n Try.prog 109 #[.pointer (some ⟨Bn, 0, none⟩)] (fun x : RX => #[agR x.1]) (Below n₀) (fun ys => ys = xs.map (fun p => rxOf (sgl p))) (fun pre => pre <+: xs.map (fun p => rxOf (sgl p))) xs.length w := fun l J Jx W hW hJ _ hY h0 =>
  single1_in n hn l Bn n₀ A c xs hg hl J Jx hY W ((hW.cell (p := ⟨Bn, 0, none⟩) hBn).trans hc) (Nat.le_trans hn₀ hW.size) (hP.below (hW.mono hn₀)) hJ h0

set_option maxRecDepth 100000 in
set_option maxHeartbeats 1000000 in
theorem singleRolls_any (A : Option Addr) (n c : Nat) (w : World) :
    Calls Try.prog 70 #[.slice A n c] w fun e w' => e = .returned (.func (.func 109) #[] #[.pointer (some ⟨w.heap.size, 0, none⟩)]) ∧ w' = w.alloc (.cells #[.slice A n c] 27) := by
  go_enter Try.func70, Try.ntmps70
  go_wp2_with fail
  go_ret
  exact ⟨rfl, rfl⟩

set_option maxRecDepth 100000 in
set_option maxHeartbeats 4000000 in
theorem combined_any (gf : Nat) (lb : Array Value) (L : List RX) (Wd : Int) (w : World) (hW : 1 ≤ Wd) (hL : L.length ≤ 1000)
    (eg : ∀ args w, (callFunc gf args).run Try.prog w = .ok (.enter gf args) w)
    (Sp : List RX → Prop) (hseq : SeqStopsK Fence.wide 3 Try.prog gf lb (fun x : RX => #[agR x.1]) (Below w.heap.size) (fun ys => ys = L) Sp L.length w) :
    Calls Try.prog 69 #[.func (.func gf) #[] lb, .int .i64 Wd] w (ROwnPost w.heap.size (foldI Wd L) w) := by
  refine (callsIn_wide (n := 4)).1 ?_
  have HAR := Lib.hid (fun v xs a0 a1 a2 a3 a4 a5 W hR h0 hl hb h => addRoll_any w.heap.size v xs a0 a1 a2 a3 a4 a5 Wd W hW h0 hR hl hb h)
  refine callsIn_of_wp_marks Try.func69 rfl trivial ?_ rfl
  simp only [Try.ntmps69, List.size_toArray, List.length_cons, List.length_nil, Nat.reduceAdd, Nat.reduceSub, Array.replicate_succ, Array.replicate_zero, List.push_toArray, List.append_toArray, List.nil_append, List.cons_append]
  gi_wp2
  have bW := (Boxed.new w 2 (.int .i64 Wd)).alloc (.cells #[.slice none 0 0] 44)
  have bO := Boxed.new (w.alloc (.cells #[.int .i64 Wd] 2)) 44 (.slice none 0 0)
  rw [World.size_alloc] at bO
  have hB0 : Below w.heap.size w ((w.alloc (.cells #[.int .i64 Wd] 2)).alloc (.cells #[.slice none 0 0] 44)) := ((Below.refl _ w).alloc (Nat.le_refl _) _).alloc (by simp) _
  have hsz : ((w.alloc (.cells #[.int .i64 Wd] 2)).alloc (.cells #[.slice none 0 0] 44)).heap.size = w.heap.size + 2 := by simp
  obtain ⟨W0, hW0⟩ : ∃ W0, (w.alloc (.cells #[.int .i64 Wd] 2)).alloc (.cells #[.slice none 0 0] 44) = W0 := ⟨_, rfl⟩
  rw [hW0] at bW bO hB0 hsz ⊢
  clear hW0
  refine wpIn_rangeFunc_ownH rfl (by omega) (gf := gf) (lb := lb) rfl trivial eg hseq belowK_t (belowK_b (by omega)) hB0 (fun _ => rfl)
    (fun pre W => ((∃ v, Boxed W (w.heap.size + 1) 44 v ∧ W.ownsRow w.heap.size 48 6 v (foldI Wd pre).length (rls (foldI Wd pre)) ∧ True) ∧ Boxed W w.heap.size 2 (.int .i64 Wd)) ∧ Below w.heap.size w W)
    (fun _ _ _ => False)
    (OwnFrom.and (OwnFrom.and (Own.from (holdsRow_own w.heap.size (w.heap.size + 1) 44 48 6 (fun pre => (foldI Wd pre).length) (fun pre => rls (foldI Wd pre)) (fun _ _ => True)) _) (Own.from (boxed_own _ _ _) _)) (ownFrom_below (Nat.le_refl _) (by omega)))
    (fun _ _ _ _ _ hs _ _ => hs)
    ⟨⟨⟨_, bO, World.ownsRow_nil _ _ _ _, trivial⟩, bW⟩, hB0⟩
    (fun x a' W => ∃ Bx, w.heap.size + 1 < Bx ∧ BoxR W Bx x.1 ∧ a' = { tmps := #[.func (.func gf) #[] lb, .int .i64 Wd, undef, .pointer (some ⟨w.heap.size, 0, none⟩), .slice none 0 0, .pointer (some ⟨w.heap.size + 1, 0, none⟩), .pointer (some ⟨Bx, 0, none⟩), .func (.func gf) #[] lb, agR x.1, undef, undef, undef, undef, undef], defers := [] })
    (fun x a' _ X Y row hs hg hr => by obtain ⟨Bx, h1, h2, h3⟩ := hs; exact ⟨Bx, h1, h2.own hg (fun r e => (hr r e).2), h3⟩)
    ?assign ?body ?done ?stop
  case assign =>
    rintro l pre x W K ⟨⟨⟨v, hv, hrow, -⟩, bW1⟩, hB1⟩ hK
    obtain ⟨⟨x0, x1, x2, x3, x4, x5⟩, hx⟩ := x
    have hlt := hv.lt
    simp only [agR]
    gi_wp2
    exact hK _ _ ((KeepsOthers.alloc _ _).from _) ((Below.refl _ W).alloc hB1.size _) ⟨⟨⟨v, hv.alloc _, hrow.alloc _, trivial⟩, bW1.alloc _⟩, hB1.alloc hB1.size _⟩ ⟨W.heap.size, hlt, BoxR.new W (x0, x1, x2, x3, x4, x5), rfl⟩
  case body =>
    rintro l pre x a' W hl _ ⟨⟨⟨v, hv, hrow, -⟩, bW1⟩, hB1⟩ ⟨Bx, hBx, bX, rfl⟩ hlt
    obtain ⟨⟨x0, x1, x2, x3, x4, x5⟩, hx⟩ := x
    have hfl := foldI_len Wd pre
    have cO := hv.cell
    have fO := hv.frozen
    have cW := bW1.cell
    have d0 := bX.c0
    have d1 := bX.c1
    have d2 := bX.c2
    have d3 := bX.c3
    have d4 := bX.c4
    have d5 := bX.c5
    have h1' : 1 ≤ 4 - 1 - 1 := by omega
    simp only at d0 d1 d2 d3 d4 d5
    gi_wp2_with (refine ⟨trivial, ?_⟩; gi_at_call 108; refine (CallsIn.inRound l (callsIn_wide.2 (HAR.out v _ x0 x1 x2 x3 x4 x5 W hx.2.1 hx.1 (by omega) hB1.size hrow))).mono ?_; rintro e w2 ⟨v2, rfl, hown2, hg2, hb2⟩; obtain ⟨b2, l2, c2, rfl⟩ : ∃ b l c, v2 = .slice b l c := (by rcases hown2.2 with ⟨rfl, _⟩ | ⟨g, cap, cur, rfl, _⟩ <;> exact ⟨_, _, _, rfl⟩); have hv2 := hv.kept hg2 (hv.not_row (by decide) hrow); have cO2 := hv2.cell; have fO2 := hv2.frozen)
    have hk2 := (keeps_own hrow hg2).trans (KeepsOthers.setCell w2 ⟨w.heap.size + 1, 0, none⟩ (.slice b2 l2 c2))
    have hb3 := hb2.setCell (p := ⟨w.heap.size + 1, 0, none⟩) (by simp) (.slice b2 l2 c2)
    exact ⟨hk2.from _, hb3, ⟨⟨⟨_, hv2.set _, by rw [foldI_snoc]; exact hown2.kept (grownBy_setCell' w2 _ _) (.inr (hv2.not_row (by decide) hown2).symm), trivial⟩, (bW1.kept hg2 (bW1.not_row (by decide) hrow)).other (by omega) _⟩, hB1.trans hb3⟩⟩
  case done =>
    rintro D ys W hD rfl ⟨⟨⟨v, hv, hrow, -⟩, bW1⟩, hB1⟩ hK
    have hc := hv.cell
    gi_wp2
    refine ⟨by simp, .inl ⟨_, _, rfl, run_takeDeferred hK, ?_⟩⟩
    exact ⟨_, results_tmp rfl _ _ _, v, rfl, ownsRow_putObj hrow _ hK rfl, hB1.trans (belowK_b (w := w) (Nat.le_refl _) W D _ _ (by omega) hK rfl rfl)⟩
  case stop =>
    rintro D c pre W _ _ h _
    exact h.elim
end Go.Proofs.Ytcjpedolmnahfaa

/- Walks: the rolls of points: the program. -/
set_option linter.unusedVariables false
set_option linter.unusedSimpArgs false
namespace Go.Proofs.Ytcjpedolmnahfaa
open Go.RowKit Go.Shelf

theorem lastR_app (xs : List R6) (x : R6) : lastR (xs ++ [x]) = x := by
  unfold lastR
  rw [List.getD_eq_getElem?_getD]
  simp
theorem lastR_set (xs : List R6) (x : R6) (h : ¬ xs.length = 0) : lastR (xs.set (xs.length - 1) x) = x := by
  unfold lastR
  rw [List.length_set, getD_set_rl _ _ _ _ (by omega), if_pos rfl]
theorem lastR_addS (xs : List R6) (x : R6) : (lastR (addS xs x)).1 = x.1 := by
  by_cases h : xs.length = 0 ∨ ¬ (lastR xs).1 = x.1
  · rw [addS_app h, lastR_app]
  · have h1 : ¬ xs.length = 0 := fun e => h (.inl e)
    have h2 : (lastR xs).1 = x.1 := by
      by_cases e : (lastR xs).1 = x.1
      · exact e
      · exact absurd (.inr e) h
    rw [addS_in h1 h2, lastR_set _ _ h1]
    exact h2
theorem addI_eq {W : Int} {xs : List R6} {x : R6} (h : xs.length = 0 ∨ (lastR xs).1 ≤ (winR W x).1) : addI W xs x = addS xs (winR W x) := by
  by_cases h0 : xs.length = 0
  · rw [addI_app (.inl h0), addS_app (.inl h0)]
  · have h1 : (lastR xs).1 ≤ (winR W x).1 := h.resolve_left h0
    by_cases h2 : (lastR xs).1 < (winR W x).1
    · rw [addI_app (.inr h2), addS_app (.inr (by omega))]
    · rw [addI_in h0 h2, addS_in h0 (by omega)]
theorem win_sgl (W : Int) (p : Int × Int) : winR W (sgl p) = oneR W p := by
  have := Int.emod_add_mul_ediv p.1 W
  have h2 := Int.mul_comm W (p.1 / W)
  unfold winR sgl oneR
  simp only [Prod.mk.injEq, and_true]
  omega
theorem ediv_mono_mul {s t W : Int} (h : s ≤ t) (hW : 1 ≤ W) : s / W * W ≤ t / W * W := by
  have := Int.ediv_le_ediv (show 0 < W by omega) h
  exact Int.mul_le_mul_of_nonneg_right this (by omega)
theorem sgl_good {p : Int × Int} (h0 : 0 ≤ p.1) (h1 : Rng p.1) (h2 : Rng p.2) : (rxOf (sgl p)).1 = sgl p :=
  rxOf_eq ⟨h0, h1, (show Rng 1 from ⟨by omega, by omega⟩), h2, h2, h2, h2⟩
theorem foldI_rolls {xs : List (Int × Int)} {W : Int} (hp : ptsOkB xs = true) (hr : ∀ j, Rng (xs.getD j (0, 0)).1 ∧ Rng (xs.getD j (0, 0)).2) (hW : 1 ≤ W) :
    ∀ k, k ≤ xs.length → foldI W ((xs.take k).map (fun p => rxOf (sgl p))) = rollsL (xs.take k) W ∧ (0 < k → (lastR (rollsL (xs.take k) W)).1 = (xs.getD (k - 1) (0, 0)).1 / W * W) := by
  intro k
  induction k with
  | zero => intro _; exact ⟨rfl, fun h => by omega⟩
  | succ k ih =>
    intro hk
    obtain ⟨h1, h2⟩ := ih (by omega)
    have hlt : k < xs.length := by omega
    have hg := ptsOkB_at hp hlt
    have hs := rollsL_succ (l := xs) W hlt
    have hm : (xs.take (k + 1)).map (fun p => rxOf (sgl p)) = (xs.take k).map (fun p => rxOf (sgl p)) ++ [rxOf (sgl (xs.getD k (0, 0)))] := by
      rw [List.take_add_one, List.getElem?_eq_getElem hlt, List.getD_eq_getElem?_getD, List.getElem?_eq_getElem hlt, List.map_append]
      rfl
    have hl : (lastR (rollsL (xs.take (k + 1)) W)).1 = (xs.getD k (0, 0)).1 / W * W := by rw [hs, lastR_addS]; rfl
    refine ⟨?_, fun _ => by rw [hl]; rfl⟩
    rw [hm, foldI_snoc, sgl_good hg.1.1 (hr k).1 (hr k).2, h1, addI_eq ?_, win_sgl, hs]
    by_cases h0 : (rollsL (xs.take k) W).length = 0
    · exact .inl h0
    · right
      have hk0 : 0 < k := by
        rcases Nat.eq_zero_or_pos k with e | e
        · subst e; exact absurd rfl h0
        · exact e
      rw [win_sgl, h2 hk0]
      rcases hg.2 with e | e
      · omega
      · exact ediv_mono_mul (Int.le_of_lt e) hW

set_option maxRecDepth 100000 in
set_option maxHeartbeats 2000000 in
theorem implRollsOf_any (v : Value) (xs : List (Int × Int)) (W : Int) (w : World) (h : PL w w.heap.size v xs) :
    Calls Try.prog 25 #[v, .int .i64 W] w (RFlagPost w.heap.size (rollsM xs W) (rollsB xs W) w) := by
  have HP := Lib.hid h
  have hS := Lib.hid (fun W' h => smallPoints_any v xs W' h)
  have hW := Lib.hid (fun w => widthOk_any W w)
  obtain ⟨hr, _, A, c, rfl, _⟩ := h
  have Hr := Lib.hid hr
  clear hr
  have hSR := Lib.hid (fun w => singleRolls_any A xs.length c w)
  cases hs : ptsSmB xs with
  | false =>
    have E := Lib.hid (show rollsM xs W = [] from by unfold rollsM; rw [if_neg (by rw [hs]; simp)])
    have E2 := Lib.hid (show rollsB xs W = false from by unfold rollsB; rw [hs]; rfl)
    rw [hs] at hS
    clear hs
    go_enter Try.func25, Try.ntmps25
    go_wp2_with fail
    refine (hS.out _ HP.out).mono ?_
    rintro e w1 ⟨rfl, hb1⟩
    go_wp2_with fail
    go_ret2
    exact ⟨_, by rw [E2.out]; rfl, by rw [E.out]; exact World.ownsRow_nil _ _ _ _, hb1⟩
  | true =>
    cases hwd : wdB W with
    | false =>
      have E := Lib.hid (show rollsM xs W = [] from by unfold rollsM; rw [if_neg (by rw [hwd]; simp)])
      have E2 := Lib.hid (show rollsB xs W = false from by unfold rollsB; rw [hwd, hs]; rfl)
      rw [hs] at hS
      rw [hwd] at hW
      clear hs hwd
      go_enter Try.func25, Try.ntmps25
      go_wp2_with fail
      refine (hS.out _ HP.out).mono ?_
      rintro e w1 ⟨rfl, hb1⟩
      go_wp2_with (go_at_call 68; refine (hW.out _).mono ?_; rintro e w' ⟨rfl, rfl⟩)
      go_ret2
      exact ⟨_, by rw [E2.out]; rfl, by rw [E.out]; exact World.ownsRow_nil _ _ _ _, hb1⟩
    | true =>
      have E := Lib.hid (show rollsM xs W = rollsL xs W from by unfold rollsM; rw [if_pos ⟨hs, hwd⟩])
      have E2 := Lib.hid (show rollsB xs W = true from by unfold rollsB; rw [hwd, hs]; rfl)
      have hpk := Lib.hid (show ptsOkB xs = true from by unfold ptsSmB at hs; rw [Bool.and_eq_true] at hs; exact hs.2)
      have hwi := Lib.hid (wdB_in hwd)
      have hlen := Lib.hid (ptsOkB_len hpk.out)
      have HF := Lib.hid (show foldI W (xs.map (fun p => rxOf (sgl p))) = rollsL xs W from by
        have := (foldI_rolls hpk.out Hr.out hwi.out.1 xs.length (Nat.le_refl _)).1
        rwa [List.take_length] at this)
      rw [hs] at hS
      rw [hwd] at hW
      clear hs hwd
      go_enter Try.func25, Try.ntmps25
      go_wp2_with fail
      refine (hS.out _ HP.out).mono ?_
      rintro e w1 ⟨rfl, hb1⟩
      have HB1 := Lib.hid hb1
      clear hb1
      go_wp2_with (go_at_call 68; refine (hW.out _).mono ?_; rintro e w' ⟨rfl, rfl⟩)
      refine (hSR.out _).mono ?_
      rintro e w2 ⟨rfl, hw2⟩
      have hb2 : Below w1.heap.size w1 w2 := by rw [hw2]; exact (Below.refl _ _).alloc (Nat.le_refl _) _
      have hcell : w2.cell? ⟨w1.heap.size, 0, none⟩ = some (.slice A xs.length c) := by rw [hw2]; go_simp
      have hs2 : w1.heap.size < w2.heap.size := by rw [hw2]; simp
      have HB2 := Lib.hid (HB1.out.trans (hb2.mono HB1.out.size))
      have HP2 := Lib.hid (HP.out.below HB2.out)
      have HC := Lib.hid (combined_any 109 #[.pointer (some ⟨w1.heap.size, 0, none⟩)] (xs.map (fun p => rxOf (sgl p))) W w2 hwi.out.1 (by rw [List.length_map]; have := hlen.out; omega) (enters_of Try.func109 (by kernel_rfl) rfl) _
        (by rw [List.length_map]; exact single_stops 3 (by omega) w1.heap.size w2.heap.size A c xs (fun j hj => ⟨(ptsOkB_all hpk.out j hj).1, (Hr.out j).1, (Hr.out j).2⟩) (by have := hlen.out; omega) w2 hs2 (Nat.le_refl _) hcell (HP2.out.up HB2.out.size)))
      clear hw2 hb2 hcell HP HP2
      go_wp2_with fail
      refine HC.out.mono ?_
      rintro e w3 ⟨v3, rfl, hown3, hb3⟩
      rw [HF.out] at hown3
      have HO3 := Lib.hid (own_mono hown3 HB2.out.size)
      have HB3 := Lib.hid (HB2.out.trans (hb3.mono HB2.out.size))
      clear hown3 hb3 HC
      go_wp2_with fail
      go_ret2
      exact ⟨_, by rw [E2.out]; rfl, by rw [E.out]; exact HO3.out, HB3.out⟩
end Go.Proofs.Ytcjpedolmnahfaa
