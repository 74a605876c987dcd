/- Walks: dropping chunks: plain, the model. -/
import Derived.Test.YtanoohfhifhhaaaDoorEz
import Derived.Test.YtanoohfhifhhaaaDoorEm
import Derived.Test.YtanoohfhifhhaaaDoorProg
import Derived.RangeFuncBox
import Derived.RangeFuncNested
import Derived.OrdersHeld
import Derived.Stop.RegionWithIn
import Derived.Maps.AppendAt
set_option linter.unusedVariables false
set_option linter.unusedSimpArgs false
namespace Go.Proofs.YtanoohfhifhhaaaDoor
open Go.RowKit

def drB (bs : List (Int × ByteArray)) (t : Int) (i : Nat) : Bool := decide (t ≤ toB bs i)
def drP (bs : List (Int × ByteArray)) (t : Int) (pre : List Nat) : List (Int × ByteArray) := (pre.filter (drB bs t)).map fun i => bs.getD i (0, emB)
def dropM (bs : List (Int × ByteArray)) (t : Int) : List (Int × ByteArray) := drP bs t (List.range (spN bs))
theorem drP_snoc (bs : List (Int × ByteArray)) (t : Int) (pre : List Nat) (x : Nat) : drP bs t (pre ++ [x]) = drP bs t pre ++ (if drB bs t x = true then [bs.getD x (0, emB)] else []) := by
  unfold drP
  rw [List.filter_append, List.map_append]
  congr 1
  by_cases h : drB bs t x = true
  · rw [if_pos h, List.filter_cons_of_pos h]; rfl
  · rw [if_neg h, List.filter_cons_of_neg h]; rfl
theorem drP_succ (bs : List (Int × ByteArray)) (t : Int) (k : Nat) : drP bs t (List.range (k + 1)) = drP bs t (List.range k) ++ (if drB bs t k = true then [bs.getD k (0, emB)] else []) := by
  rw [List.range_succ, drP_snoc]
theorem drP_len (bs : List (Int × ByteArray)) (t : Int) (pre : List Nat) : (drP bs t pre).length ≤ pre.length := by
  unfold drP; rw [List.length_map]; exact List.length_filter_le _ _

set_option maxRecDepth 100000 in
set_option maxHeartbeats 8000000 in
theorem specDropChunks_any (v : Value) (bs : List (Int × ByteArray)) (t : Int) (w : World) (h : BL w w.heap.size v bs) (hsz : ∀ j, (bs.getD j (0, emB)).2.size ≤ 1048576) :
    Calls Tryd.prog 29 #[v, .int .i64 t] w (BOwnPost w.heap.size (dropM bs t) w) := by
  obtain ⟨w0, hw0⟩ : ∃ w0, w.alloc (.cells #[] 36) = w0 := ⟨_, rfl⟩
  have B00 := Lib.hid (show Below w.heap.size w w0 by rw [← hw0]; exact below1 w _)
  have M0 : Hid (w0.ownsRow w.heap.size 36 2 (.slice (some ⟨w.heap.size, 0, none⟩) 0 0) 0 (bks [])) := Lib.hid (by
    have h9 := World.ownsRow_made w (base := w.heap.size) (e := 36) (size := 2) #[] 0 (Nat.le_refl _) (by simp [maxLen]) rfl
    rw [← hw0]; simpa [bks] using h9)
  have HW0 := Lib.hid hw0
  clear hw0
  have HU := Lib.hid (specUnchunked_any v bs w0 ((h.below B00.out).up B00.out.size) hsz)
  have HPO := Lib.hid (fun n s W hs => specPointsOf_any n s W hs)
  have hlen := h.2.1
  unfold POutF at HU HPO
  unfold BOwnPost
  obtain ⟨_, _, A, c, rfl, h3⟩ := h
  have HSZ := Lib.hid hsz
  obtain ⟨i0, hi, hz0, hz1, hz2⟩ := info_parts info_bk
  clear hsz
  cases hu : uncO bs with
  | none =>
    have E := Lib.hid (show dropM bs t = [] by have e : spN bs = 0 := (by unfold spN; rw [hu]); unfold dropM; rw [e]; rfl)
    rw [hu] at HU
    have hff : ptsF (none : Option (List (Int × Int))) = false := rfl
    rw [hff] at HU
    clear hu hff
    go_enter Tryd.func29, Tryd.ntmps29
    go_wp2_with fail
    rw [HW0.out]
    refine HU.out.mono ?_
    rintro e w1 ⟨v1, rfl, _, hb1⟩
    have M1 := Lib.hid (u_own_below M0.out hb1)
    have hb1 := B00.out.trans (hb1.mono B00.out.size)
    have HB := Lib.hid hb1
    clear hb1
    go_wp2_with fail
    refine wp_loop_rounds 1 ?_
    rw [rounds_succ]
    go_wp2_with fail
    go_ret
    rw [E.out]
    exact ⟨_, rfl, M1.out, HB.out⟩
  | some xs =>
    have E := Lib.hid (show spN bs = bs.length by unfold spN; rw [hu])
    have HAT := Lib.hid (fun k hk => unc_at hu (k := k) hk)
    rw [hu] at HU
    have hff : ptsF (some xs) = true := rfl
    rw [hff] at HU
    clear hu hff
    go_enter Tryd.func29, Tryd.ntmps29
    go_wp2_with fail
    rw [HW0.out]
    refine HU.out.mono ?_
    rintro e w1 ⟨v1, rfl, _, hb1⟩
    have M1 := Lib.hid (u_own_below M0.out hb1)
    have hb1 := B00.out.trans (hb1.mono B00.out.size)
    have HB1 := Lib.hid hb1
    clear hb1
    go_wp2_with fail
    go_loopw [5, 8] (fun u i wr => ∃ k : Nat, k ≤ bs.length ∧ i = .int .i64 (k : Int) ∧ Hid (wr.ownsRow w.heap.size 36 2 u (drP bs t (List.range k)).length (bks (drP bs t (List.range k)))) ∧ Hid (Below w.heap.size w wr))
      (fun _ i _ => bs.length - (intOf i).toNat)
    case atStart => exact ⟨0, Nat.zero_le _, rfl, M1, HB1⟩
    case round =>
      obtain ⟨k, hk, rfl, HO, HB⟩ := hrel
      have hlk := drP_len bs t (List.range k)
      rw [List.length_range] at hlk
      have HSU := Lib.hid (drP_succ bs t k)
      by_cases hlt : k < bs.length
      · rcases h3 with h3 | ⟨b, off, rfl, hbb, hcb⟩
        · subst h3; simp at hlt
        obtain ⟨y0, y1⟩ := hcb k hlt
        have z0 := (HB.out.cell (p := ⟨b, off + k * 2, none⟩) hbb).trans y0
        have z1 := (HB.out.cell (p := ⟨b, off + k * 2 + 1, none⟩) hbb).trans y1
        obtain ⟨pre, _, g1, g2, g3, _, _, _, _, g8⟩ := HAT.out k hlt
        have HP := Lib.hid (fun W => HPO.out (bs.getD k (0, emB)).1 (bs.getD k (0, emB)).2 W (by have := HSZ.out k; unfold maxLen; omega))
        rw [g8] at HP
        have HTO := Lib.hid (show toB bs k = ((ptsAt bs k).getD ((ptsAt bs k).length - 1) (0, 0)).1 from rfl)
        have hff : ptsF (some (ptsAt bs k)) = true := rfl
        have HXX := Lib.hid (show ptsX (some (ptsAt bs k)) = ptsAt bs k from rfl)
        rw [HXX.out, hff] at HP
        have hpair : bs.getD k (0, emB) = ((bs.getD k (0, emB)).1, (bs.getD k (0, emB)).2) := rfl
        have hDrB : drB bs t k = decide (t ≤ toB bs k) := rfl
        rw [hpair] at HSU
        generalize (bs.getD k (0, emB)).1 = N at *
        generalize (bs.getD k (0, emB)).2 = D at *
        clear hpair
        rw [hDrB] at HSU
        generalize toB bs k = tl at *
        generalize ptsAt bs k = ys at *
        obtain ⟨M, hM⟩ : ∃ M, ys.length = M := ⟨_, rfl⟩
        rw [hM] at g1 g3 HTO HP
        obtain ⟨q, hq⟩ : ∃ q, M - 1 = q := ⟨_, rfl⟩
        rw [hq] at HTO
        have eQ : IntKind.i64.wrap ((M : Int) - 1) = (q : Int) := by rw [IntWalk.i64_in _ (by omega)]; omega
        have hzz := HB.out.size
        clear hcb y0 y1 g8 g2 hff
        go_wp2_with fail
        refine (HP.out _).mono ?_
        rintro e w2 ⟨v2, rfl, ho2, hb2⟩
        have ho2' : w2.ownsRow wr.heap.size 41 2 v2 M (prs ys) := ho2
        obtain ⟨gp, cp, rfl⟩ := own_form2 ho2' (by omega)
        have HB2 := Lib.hid (HB.out.trans (hb2.mono hzz))
        have HO2 := Lib.hid (u_own_below HO.out hb2)
        have x0' : w2.cell? ⟨b, off + k * 2, none⟩ = some (.int .i64 N) := (hb2.cell (p := ⟨b, off + k * 2, none⟩) (show b < wr.heap.size by omega)).trans z0
        have x1' : w2.cell? ⟨b, off + k * 2 + 1, none⟩ = some (.string D) := (hb2.cell (p := ⟨b, off + k * 2 + 1, none⟩) (show b < wr.heap.size by omega)).trans z1
        have hbw2 : b < w2.heap.size := by have := hb2.size; omega
        have hww2 := HB2.out.size
        have p1 : w2.cell? ⟨gp, q * 2, none⟩ = some (.int .i64 tl) := by rw [ho2'.cellAt (q * 2) (by omega), HTO.out]; exact prs_get0 ys q (by omega)
        have hqM : q < M := by omega
        have hqI : (q : Int) < (M : Int) := by omega
        have hM0 : 0 < M := by omega
        clear ho2 ho2' hb2 z0 z1 hq hM
        by_cases a2 : t ≤ tl
        · have c2 : decide (t ≤ tl) = true := decide_eq_true a2
          rw [c2, if_pos rfl] at HSU
          go_wp2_with (at_builtin; refine wpList_append_own _ rfl _ _ 27 rfl w.heap.size 36 i0 (.agg #[.int .i64 0, .string emB]) 2 24 Tryd.underlying27 hi hz0 hz1 hz2 rfl (by decide) _ _ _ rfl (HO2.out.alloc _) ⟨w2.heap.size, 0, none⟩ 1 1 [.int .i64 N, .string D] rfl rfl (two_cellsB (by go_simp) (by go_simp)) ?c2 ?c3 ?c4 ?c5 ?_)
          case c2 => first | rfl | exact ⟨rfl, rfl⟩ | (intro u hu; simp at hu; rcases hu with rfl | rfl <;> rfl)
          case c3 => unfold maxLen; omega
          case c4 => omega
          case c5 => first | omega | (simp; omega)
          intro v' w4 hown' hgrow _
          have hb4 : Below w.heap.size w2 w4 := by
            have h1 : Below w.heap.size w2 (w2.alloc (.cells #[.int .i64 N, .string D] 36)) := (Below.refl _ w2).alloc hww2 _
            exact h1.grown hgrow (by simp; omega) (fun q hq => (HO2.out.lt q hq).1)
          have HB4 := Lib.hid (HB2.out.trans hb4)
          have HO4 := Lib.hid (show w4.ownsRow w.heap.size 36 2 v' (drP bs t (List.range (k + 1))).length (bks (drP bs t (List.range (k + 1)))) by rw [HSU.out, bks_append, List.length_append]; exact hown')
          clear hown' hgrow hb4
          go_wp2_with fail
          go_roundw
          case rel => exact ⟨k + 1, by omega, by go_num, HO4, HB4⟩
          case measure => simp [intOf]; omega
        · have c2 : decide (t ≤ tl) = false := decide_eq_false a2
          rw [c2, if_neg (by simp), List.append_nil] at HSU
          have HO4 := Lib.hid (show w2.ownsRow w.heap.size 36 2 _ (drP bs t (List.range (k + 1))).length (bks (drP bs t (List.range (k + 1)))) by rw [HSU.out]; exact HO2.out)
          go_wp2_with fail
          go_roundw
          case rel => exact ⟨k + 1, by omega, by go_num, HO4, HB2⟩
          case measure => simp [intOf]; omega
      · obtain rfl : k = bs.length := by omega
        have ER := Lib.hid (show dropM bs t = drP bs t (List.range bs.length) by unfold dropM; rw [E.out])
        go_wp2_with fail
        go_ret
        rw [ER.out]
        exact ⟨_, rfl, HO.out, HB.out⟩
end Go.Proofs.YtanoohfhifhhaaaDoor

/- Walks: the chunk of a time: the program. -/
set_option linter.unusedVariables false
set_option linter.unusedSimpArgs false
namespace Go.Proofs.YtanoohfhifhhaaaDoor
open Go.RowKit Go.Shelf

attribute [local go_sem] Oper.semAt_some

/-- a variable's box that holds a span -/
def BoxS (W : World) (B : Nat) (f t : Int) : Prop := W.heap[B]? = some (.cells #[.int .i64 f, .int .i64 t] 75 (0, 0))
theorem BoxS.lt {W : World} {B : Nat} {f t : Int} (h : BoxS W B f t) : B < W.heap.size := (Array.getElem?_eq_some_iff.1 h).1
theorem BoxS.new (W : World) (f t : Int) : BoxS (W.alloc (.cells #[.int .i64 f, .int .i64 t] 75)) W.heap.size f t := World.alloc_heap_new W _
theorem BoxS.kept {W W' : World} {row : Option Nat} {B : Nat} {f t : Int} (h : BoxS W B f t) (hg : W.grownBy W' row) (hne : some B ≠ row) : BoxS W' B f t := (hg.block B h.lt hne).trans h
theorem BoxS.own {X Y : World} {row : Option Nat} {B : Nat} {f t : Int} (h : BoxS X B f t) (hg : X.grownBy Y row) (hr : ∀ r, row = some r → ∃ o : Obj, X.heap[r]? = some o ∧ o.isCells = false) : BoxS Y B f t :=
  h.kept hg (fun e => by obtain ⟨o, ho, hc⟩ := hr B e.symm; rw [h] at ho; cases ho; cases hc)
theorem BoxS.c0 {W : World} {B : Nat} {f t : Int} (h : BoxS W B f t) : W.cell? ⟨B, 0, none⟩ = some (.int .i64 f) := by simp [World.cell?, show W.heap[B]? = _ from h]
theorem BoxS.c1 {W : World} {B : Nat} {f t : Int} (h : BoxS W B f t) : W.cell? ⟨B, 1, none⟩ = some (.int .i64 t) := by simp [World.cell?, show W.heap[B]? = _ from h]

theorem prefix_range {p0 : List Nat} {x n : Nat} (h : p0 ++ [x] <+: List.range n) : x < n ∧ ∀ i, i < x → i ∈ p0 := by
  obtain ⟨r, hr⟩ := h
  have hg : ∀ j : Nat, (p0 ++ [x] ++ r)[j]? = (List.range n)[j]? := fun j => by rw [hr]
  have h1 := hg p0.length
  rw [List.append_assoc, List.getElem?_append_right (Nat.le_refl _)] at h1
  simp only [Nat.sub_self, List.singleton_append, List.getElem?_cons_zero] at h1
  have h2 : p0.length < n := by
    by_cases h : p0.length < n
    · exact h
    · rw [List.getElem?_eq_none (by simp; omega)] at h1; cases h1
  rw [List.getElem?_range h2] at h1
  injection h1 with h1
  subst h1
  refine ⟨h2, fun i hi => ?_⟩
  have h3 := hg i
  rw [List.append_assoc, List.getElem?_append_left hi, List.getElem?_range (by omega)] at h3
  exact List.mem_of_getElem? h3

set_option maxRecDepth 100000 in
set_option maxHeartbeats 8000000 in
theorem implChunkAt_any (v : Value) (bs : List (Int × ByteArray)) (t : Int) (w : World) (h : BL w w.heap.size v bs) (hsz : ∀ j, (bs.getD j (0, emB)).2.size ≤ 1048576) (hT : Tab w) :
    Calls Tryd.prog 23 #[v, .int .i64 t] w fun e w' => e = .returned (.int .i64 (ctM bs t)) ∧ Below w.heap.size w w' := by
  refine (callsIn_wide (n := 4)).1 ?_
  have HP := Lib.hid h
  have HTab := Lib.hid hT
  have HSZ := Lib.hid hsz
  have hlen := h.2.1
  obtain ⟨_, _, A, c, rfl, h3⟩ := h
  have HSP := Lib.hid (fun W => spans_any A bs.length c W)
  have H3 := Lib.hid h3
  clear hT hsz h3
  refine callsIn_of_wp_marks Tryd.func23 rfl trivial ?_ rfl
  simp only [Tryd.ntmps23, List.size_toArray, List.length_cons, List.length_nil, Nat.reduceAdd, Nat.reduceSub, Array.replicate_succ, Array.replicate_zero, List.push_toArray, List.append_toArray, List.nil_append, List.cons_append]
  gi_wp2
  refine ⟨trivial, ?_⟩
  refine (callsIn_wide.2 (HSP.out _)).mono ?_
  rintro e W0 ⟨rfl, hW0⟩
  simp only [World.size_alloc]
  have X0 : Boxed W0 (w.heap.size + 1) 2 (.int .i64 0) := by
    have h := Boxed.new (w.alloc (.cells #[.int .i64 t] 2)) 2 (.int .i64 0)
    rw [World.size_alloc] at h
    rw [hW0]; exact h.alloc _
  have XT : Boxed W0 w.heap.size 2 (.int .i64 t) := by
    rw [hW0]; exact ((Boxed.new w 2 (.int .i64 t)).alloc _).alloc _
  have X1 : Boxed W0 (w.heap.size + 1 + 1) 27 (.slice A bs.length c) := by
    have h := Boxed.new ((w.alloc (.cells #[.int .i64 t] 2)).alloc (.cells #[.int .i64 0] 2)) 27 (.slice A bs.length c)
    rw [World.size_alloc, World.size_alloc] at h
    rw [hW0]; exact h
  have B0 : Below w.heap.size w W0 := by rw [hW0]; exact (((Below.refl _ w).alloc (Nat.le_refl _) _).alloc (by simp) _).alloc (by simp; omega) _
  have hsz0 : W0.heap.size = w.heap.size + 3 := by rw [hW0]; simp
  have HNO := Lib.hid (fun h => @ctM_none bs t h)
  have HYE := Lib.hid (fun k hk h hh => @ctM_some bs t k hk h hh)
  clear hW0
  gi_wp2
  refine wpIn_rangeFunc_ownH rfl (by omega) (gf := 85) (lb := #[.pointer (some ⟨w.heap.size + 1 + 1, 0, none⟩)]) rfl trivial (enters_of Tryd.func85 (by kernel_rfl) rfl)
    (α := Nat) (encs := fun k => spE bs k) (Kp := KpO (w.heap.size + 1)) (S := fun ys => ys = List.range (spN bs)) (Sp := fun pre => pre <+: List.range (spN bs)) (N := spN bs) (w0 := W0)
    (fun l J Jx W hW hJ _ hY h0 => span1_in 3 (by omega) l (w.heap.size + 1 + 1) (w.heap.size + 1) A c bs HSZ.out J Jx (fun pre x W _ h1 h2 => hY pre x W h1 h2) W ((hW.cell (p := ⟨w.heap.size + 1 + 1, 0, none⟩) X1.lt).trans X1.cell) (by omega) (.int .i64 0) ((hW.cell (p := ⟨w.heap.size + 1, 0, none⟩) X0.lt).trans X0.cell) rfl ((HP.out.below (B0.trans (hW.mono B0.size))).up (Nat.le_trans B0.size hW.size)) (by
      rcases H3.out with h | ⟨b, off, hA, hb, _⟩
      · exact .inl h
      · refine .inr fun b' off' hA' => ?_
        rw [hA] at hA'; injection hA' with e; injection e with e; omega) (HTab.out.below (B0.trans (hW.mono B0.size))) hJ h0)
    (fun h k => h.trans k) (fun W l o o' h1 h2 h3 h4 => KpO.putObj W l o o' (by omega) h2 h3) (Below.refl _ _) (fun _ => rfl)
    (fun pre W => ((Boxed W (w.heap.size + 1) 2 (.int .i64 0) ∧ Boxed W w.heap.size 2 (.int .i64 t)) ∧ Below w.heap.size w W) ∧ ∀ i ∈ pre, hitB bs t i = false)
    (fun cd pre W => cd = .ret ∧ (∃ p0 x, pre = p0 ++ [x] ∧ (∀ i ∈ p0, hitB bs t i = false) ∧ hitB bs t x = true ∧ Boxed W (w.heap.size + 1) 2 (.int .i64 (x : Int))) ∧ Below w.heap.size w W)
    (OwnFrom.and (OwnFrom.and (OwnFrom.and (Own.from (boxed_own _ _ _) _) (Own.from (boxed_own _ _ _) _)) (ownFrom_below (Nat.le_refl _) (by omega))) (ownFrom_pure _ _))
    ?hIx
    ⟨⟨⟨X0, XT⟩, B0⟩, fun i hi => by simp at hi⟩
    (fun x a' W => ∃ Bx, w.heap.size + 1 < Bx ∧ BoxS W Bx (frB bs x) (toB bs x) ∧ a' = { tmps := #[.slice A bs.length c, .int .i64 t, undef, .pointer (some ⟨w.heap.size, 0, none⟩), .pointer (some ⟨w.heap.size + 1, 0, none⟩), .int .i64 (x : Int), .pointer (some ⟨Bx, 0, none⟩), .slice A bs.length c, .func (.func 85) #[] #[.pointer (some ⟨w.heap.size + 1 + 1, 0, none⟩)], .int .i64 (x : Int), .agg #[.int .i64 (frB bs x), .int .i64 (toB bs x)], undef, undef, undef, undef, undef, undef, undef, undef, undef, undef, undef], defers := [] })
    (fun x a' _ X Y row hs hg hr => by obtain ⟨Bx, h1, h2, h3⟩ := hs; exact ⟨Bx, h1, h2.own hg (fun r e => (hr r e).2), h3⟩)
    ?assign ?body ?done ?stop
  case hIx =>
    rintro cd pre X Y row ⟨rfl, ⟨p0, x, h1, h2, h3, h4⟩, h5⟩ hg hr
    refine ⟨rfl, ⟨p0, x, h1, h2, h3, ?_⟩, ?_⟩
    · exact h4.kept hg (fun e => by obtain ⟨_, o, ho, hc⟩ := hr _ e.symm; rw [h4] at ho; cases ho; cases hc)
    · exact h5.grown hg h5.size (fun r e => by have := (hr r e).1; omega)
  case assign =>
    rintro l pre x W K ⟨⟨⟨hx0, hxt⟩, hB⟩, hno⟩ hK
    have hlt := hx0.lt
    simp only [spE]
    gi_wp2
    exact hK _ _ ((KeepsOthers.alloc _ _).from _) (KpO.of_below (below1 W _)) ⟨⟨⟨hx0.alloc _, hxt.alloc _⟩, hB.alloc hB.size _⟩, hno⟩ ⟨W.heap.size, hlt, BoxS.new W _ _, rfl⟩
  case body =>
    rintro l pre x a' W hl _ ⟨⟨⟨hx0, hxt⟩, hB⟩, hno⟩ ⟨Bx, hBx, bX, rfl⟩ hlt
    have d0 := bX.c0
    have d1 := bX.c1
    have dt := hxt.cell
    have cr := hx0.cell
    have fr := hx0.frozen
    have HH := Lib.hid (show hitB bs t x = (decide (frB bs x ≤ t) && decide (t ≤ toB bs x)) from rfl)
    have hext : ∀ b : Bool, hitB bs t x = false → ∀ i ∈ pre ++ [x], hitB bs t i = false := fun _ h i hi => by
      rcases List.mem_append.1 hi with h1 | h1
      · exact hno i h1
      · obtain rfl : i = x := by simpa using h1
        exact h
    have HEX := Lib.hid (hext true)
    have HNO := Lib.hid hno
    clear hext hno
    generalize frB bs x = ff at *
    generalize toB bs x = gg at *
    by_cases a1 : ff ≤ t
    · have c1 : decide (ff ≤ t) = true := decide_eq_true a1
      by_cases a2 : t ≤ gg
      · have c2 : decide (t ≤ gg) = true := decide_eq_true a2
        have HI := Lib.hid (show hitB bs t x = true by rw [HH.out, c1, c2]; rfl)
        gi_wp2
        exact ⟨(KeepsOthers.setCell _ _ _).from _, rfl, ⟨pre, x, rfl, HNO.out, HI.out, hx0.set _⟩, hB.setCell (p := ⟨w.heap.size + 1, 0, none⟩) (by simp) _⟩
      · have c2 : decide (t ≤ gg) = false := decide_eq_false a2
        have HI := Lib.hid (show hitB bs t x = false by rw [HH.out, c1, c2]; rfl)
        gi_wp2
        exact ⟨(KeepsOthers.refl _).from _, KpO.refl _ _, ⟨⟨hx0, hxt⟩, hB⟩, HEX.out HI.out⟩
    · have c1 : decide (ff ≤ t) = false := decide_eq_false a1
      have HI := Lib.hid (show hitB bs t x = false by rw [HH.out, c1]; rfl)
      gi_wp2
      exact ⟨(KeepsOthers.refl _).from _, KpO.refl _ _, ⟨⟨hx0, hxt⟩, hB⟩, HEX.out HI.out⟩
  case done =>
    rintro D ys W hD rfl ⟨⟨⟨hx0, hxt⟩, hB⟩, hno⟩ hK
    have cr := hx0.cell
    have fr := hx0.frozen
    have ER := Lib.hid (HNO.out (fun i hi => hno i (List.mem_range.2 hi)))
    clear hno
    gi_wp2
    have q1 : Boxed (W.setCell ⟨w.heap.size + 1, 0, none⟩ (.int .i64 (-1))) (w.heap.size + 1) 2 (.int .i64 (-1)) := hx0.set _
    have hK2 := (KeepsOthers.setCell W ⟨w.heap.size + 1, 0, none⟩ (.int .i64 (-1))).same D _ hK rfl
    have q2 : Boxed ((W.setCell ⟨w.heap.size + 1, 0, none⟩ (.int .i64 (-1))).putObj D (.deferred none)) (w.heap.size + 1) 2 (.int .i64 (-1)) := q1.kept (grownBy_putObj' _ D (.deferred none)) (by intro e; injection e with e; omega)
    have q3 := q2.cell
    have hB2 := hB.setCell (p := ⟨w.heap.size + 1, 0, none⟩) (by simp) (.int .i64 (-1))
    refine ⟨by simp, .inl ⟨_, _, rfl, run_takeDeferred hK2, ?_⟩⟩
    rw [ER.out]
    exact ⟨_, (by simp [results, Tryd.results23, go_sem, q3]), rfl, hB2.trans (belowK_b (w := w) (Nat.le_refl _) _ D _ _ (by omega) hK2 rfl rfl)⟩
  case stop =>
    rintro D cd pre W hD hpre ⟨rfl, ⟨p0, x, rfl, h2, h3, h4⟩, h5⟩ hK
    obtain ⟨hx1, hx2⟩ := prefix_range hpre
    have ER := Lib.hid (HYE.out x hx1 (fun i hi => h2 i (hx2 i hi)) h3)
    clear h2 h3
    gi_wp2
    have q2 : Boxed (W.putObj D (.deferred none)) (w.heap.size + 1) 2 (.int .i64 (x : Int)) := h4.kept (grownBy_putObj' _ D (.deferred none)) (by intro e; injection e with e; omega)
    have q3 := q2.cell
    refine ⟨by simp, .inl ⟨_, _, rfl, run_takeDeferred hK, ?_⟩⟩
    rw [ER.out]
    exact ⟨_, (by simp [results, Tryd.results23, go_sem, q3]), rfl, h5.trans (belowK_b (w := w) (Nat.le_refl _) _ D _ _ (by omega) hK rfl rfl)⟩
end Go.Proofs.YtanoohfhifhhaaaDoor

/- Walks: a region that draws its order, in a round of a range over a function: walked under one condition on the world. -/
set_option linter.unusedVariables false
set_option linter.unusedSimpArgs false
namespace Go.Proofs.YtanoohfhifhhaaaDoor
open Go.RowKit

def noDefer (ops : Array Oper) : Bool := ops.toList.all fun o => match o.op with
  | .defer _ => false
  | _ => true
theorem noDefer_at {ops : Array Oper} (h : noDefer ops = true) {i : Nat} {o : Oper} (hi : ops[i]? = some o) : ∀ c, o.op ≠ .defer c := by
  intro c e
  obtain ⟨hlt, rfl⟩ := Array.getElem?_eq_some_iff.1 hi
  have h1 := List.all_eq_true.1 h ops[i] (by simp)
  rw [e] at h1
  cases h1
theorem rows_round {P : Program} {l n : Nat} {row : String} {args : Array Value} {w : World} {R : Value → World → Prop} (h : Rows P row args w R) : RowsIn (Fence.wide.inRound l) n P row args w R := by
  intro c cs _
  obtain ⟨v, w', r, s⟩ := h c cs
  exact ⟨v, w', r, stepsIn_wide.2 s⟩
theorem oper_round {P : Program} {l n : Nat} {o : Oper} {a : Act} {w : World} {K : Act → World → Prop} {Q : Exit → Act → World → Prop} (hnd : ∀ c, o.op ≠ .defer c) (h : o.wp P a w K Q) : o.wpIn (Fence.wide.inRound l) n P a w K Q := by
  unfold Oper.wpIn
  refine ⟨fun f _ => trivial, ?_⟩
  rw [Fence.inRound_round, Oper.semAt_some l _ _ hnd]
  unfold Oper.wp at h
  generalize (execOp a.eval o).run P w = r at h ⊢
  cases r with
  | ok x w' =>
    cases x with
    | value v => exact h
    | skip => exact h
    | defer d => exact h
    | enter f args => exact ⟨fun hd => by simp [Fence.wide] at hd, CallsIn.inRound l (callsIn_wide.2 h)⟩
    | row row args => exact ⟨fun hd => by simp [Fence.wide] at hd, rows_round h⟩
    | _ => exact False.elim h
  | halt x w' => cases x <;> exact h
theorem wpAnyIn_of_held {P : Program} {md : Region.Mode} {ops : Array Oper} {Q : Exit → Act → World → Prop} {S : World → Prop} {l n : Nat} (hd : noDefer ops = true) (hN : ¬ LetsOut Q) :
    ∀ (fuel : Nat) (listed : Array Bool) (a : Act) (w : World), wpAnyH P md ops Q S fuel listed a w → wpAnyIn (Fence.wide.inRound l) n P md ops Q fuel listed a w := by
  intro fuel
  induction fuel with
  | zero => intro listed a w h; exact h
  | succ fuel ih =>
    intro listed a w h
    refine ⟨h.1, fun i hi => ?_⟩
    have h2 := h.2 i hi
    unfold wpOp at h2
    unfold wpOpIn
    cases ho : ops[i]? with
    | none =>
      rw [ho] at h2
      exact ih _ _ _ h2.2
    | some o =>
      rw [ho] at h2
      simp only at h2 ⊢
      split
      · rename_i hw
        rw [if_pos hw] at h2
        rcases h2 with h2 | h2
        · exact Oper.wpIn_mono (fun a' w' h' => ih _ a' w' h'.2) (oper_round (noDefer_at hd ho) h2)
        · exact absurd h2.2 hN
      · rename_i hw
        rw [if_neg hw] at h2
        exact ⟨fun f _ => trivial, ih _ _ _ h2.2⟩
/-- a region that draws, in a round: one condition on the world, as 'wpAnyH' has it -/
theorem wpIn_region_held_round {P : Program} {id : Nat} {ops : Array Oper} {Q : Exit → Act → World → Prop} {S : World → Prop} {l n : Nat} {a : Act} {w : World} (hd : noDefer ops = true) (hm : P.follows .mixedOrders = true) (hN : ¬ LetsOut Q) (hS : S w.drew)
    (h : S w.drew → wpAnyH P .any ops Q S ops.size (Array.replicate ops.size false) a w.drew) : (Code.region id ops true).wpIn (Fence.wide.inRound l) n P Q a w :=
  wpIn_region_any hm (wpAnyIn_of_held hd hN _ _ _ _ (h hS))
theorem letsOut_then {R : Act → World → Prop} : ¬ LetsOut (Exit.then R (fun _ _ _ => False)) := by
  intro h
  first | exact h | exact h default default | simp [LetsOut, Exit.then] at h
end Go.Proofs.YtanoohfhifhhaaaDoor

/- Walks: dropping chunks: the program. -/
set_option linter.unusedVariables false
set_option linter.unusedSimpArgs false
namespace Go.Proofs.YtanoohfhifhhaaaDoor
open Go.RowKit Go.Shelf

attribute [local go_sem] Oper.semAt_some

theorem grew_gi {w w' : World} (h : Below w.heap.size w w') (row : Option Nat) : w.grownBy w' row := ⟨h.os, h.tape, h.output, h.size, fun i hi _ => h.block i hi⟩
theorem step_append_ownY {P : Program} (w : World) {ops : Array Oper} {o : Oper} {a : Act} {K : Act → World → Prop} {Q : Exit → Act → World → Prop} {E : Prop} (hgd : o.guard = none) (s x : Operand) (t : TypeId)
    (ho : o.op = .call { callee := .builtin .append, args := #[s, x], argTypes := #[t, t] })
    (base : Nat) (e : TypeId) (i : TypeInfo) (z : Value) (size bytes : Nat) (ht : P.underlying t = some (.slice e)) (hi : P.info? e = some i) (hz : i.zero = some z)
    (hsize : i.size = size) (hby : i.bytes = bytes) (hzs : z.cells.size = size) (hsz : 0 < size)
    (v : Value) (n : Nat) (xs : List Value) (hs : a.eval s = v) (hown : w.ownsRow base e size v n xs)
    (ad : Addr) (m c : Nat) (news : List Value) (hx : a.eval x = .slice (some ad) m c) (hl : news.length = m * size) (hnews : ∀ j u, news[j]? = some u → w.cell? (ad.add j) = some u) (h1 : ∀ u ∈ news, u.oneCell' = true)
    (h63 : n + m ≤ maxLen) (hbytes : (n + m) * bytes ≤ 140737488355328) (hbase : base ≤ w.heap.size)
    (h : ∀ v' w', w'.ownsRow base e size v' (n + m) (xs ++ news) → w.grownBy w' v.ownBlock → (v'.ownBlock = v.ownBlock ∨ v'.ownBlock = some w.heap.size) → K (a.put o.dst v') w') :
    if Region.wanted o (yielded ops a.tmps) = true then Oper.wp P o a w K Q else E := by
  have hw : Region.wanted o (yielded ops a.tmps) = true := by simp [Region.wanted, hgd]
  rw [if_pos hw]
  obtain ⟨v', w', hr, h2, h3, _, h5⟩ := run_append_own_at (P := P) w base t o.type e i z size bytes ht hi hz hsize hby hzs hsz v n xs hown ad m c news hl hnews h1 h63 hbytes hbase
  unfold Oper.wp execOp
  simp only [ho, resolve, invoke, builtin, Sem.run_bind, Sem.run_pure, Result.andThen_ok, List.map_toArray, List.map_cons, List.map_nil, hs, hx, hr]
  exact h v' w' h2 h3 h5

/-- what stands in a round: the variables' boxes, the row of blocks -/
structure DpJ (bs : List (Int × ByteArray)) (t : Int) (w : World) (A0 : Option Addr) (c : Nat) (pre : List {x : Nat // x < spN bs}) (W : World) (v : Value) : Prop where
  l : Boxed W w.heap.size 27 (.slice A0 bs.length c)
  q : Boxed W (w.heap.size + 1) 2 (.int .i64 t)
  o : Boxed W (w.heap.size + 2) 27 v
  r : W.ownsRow (w.heap.size + 3) 36 2 v (drP bs t (pre.map Subtype.val)).length (bks (drP bs t (pre.map Subtype.val)))
  b : Below w.heap.size w W
  z : w.heap.size + 3 ≤ W.heap.size
theorem DpJ.below {bs : List (Int × ByteArray)} {t : Int} {w : World} {A0 : Option Addr} {c : Nat} {pre : List {x : Nat // x < spN bs}} {W W' : World} {v : Value} (h : DpJ bs t w A0 c pre W v) (hb : Below W.heap.size W W') : DpJ bs t w A0 c pre W' v :=
  have hg := grew_gi hb none
  ⟨h.l.kept hg (by simp), h.q.kept hg (by simp), h.o.kept hg (by simp), u_own_below h.r hb, h.b.trans (hb.mono (by have := h.z; omega)), Nat.le_trans h.z hb.size⟩
theorem DpJ.mach {bs : List (Int × ByteArray)} {t : Int} {w : World} {A0 : Option Addr} {c : Nat} {pre : List {x : Nat // x < spN bs}} {X Y : World} {v : Value} {row : Option Nat} (h : DpJ bs t w A0 c pre X v) (hg : X.grownBy Y row) (hr : ∀ r, row = some r → w.heap.size + 3 ≤ r ∧ ∃ o : Obj, X.heap[r]? = some o ∧ o.isCells = false) : DpJ bs t w A0 c pre Y v := by
  refine ⟨h.l.kept hg (fun e => by have := (hr _ e.symm).1; omega), h.q.kept hg (fun e => by have := (hr _ e.symm).1; omega), h.o.kept hg (fun e => by have := (hr _ e.symm).1; omega), ?_, h.b.grown hg h.b.size (fun r e => by have := (hr r e).1; omega), Nat.le_trans h.z hg.size⟩
  refine ⟨h.r.1, ?_⟩
  rcases h.r.2 with h0 | ⟨g, cap, cur, rfl, hb, hh, hq⟩
  · exact .inl h0
  · refine .inr ⟨g, cap, cur, rfl, hb, (hg.block g (Array.getElem?_eq_some_iff.1 hh).1 (fun e => ?_)).trans hh, hq⟩
    obtain ⟨_, o, ho, hc⟩ := hr g e.symm
    rw [hh] at ho; cases ho; cases hc
/-- the worlds behind an append of one block to the row, and behind the store -/
theorem DpJ.app {bs : List (Int × ByteArray)} {t : Int} {w : World} {A0 : Option Addr} {c : Nat} {pre : List {x : Nat // x < spN bs}} {x : {x : Nat // x < spN bs}} {W W2 w1 : World} {v v' : Value} {tmp : Obj} {N : Int} {D : ByteArray} (hd : drB bs t x.1 = true) (hp : bs.getD x.1 (0, emB) = (N, D)) (hW : DpJ bs t w A0 c pre W v) (hB : Below W.heap.size W W2) (h : DpJ bs t w A0 c pre W2 v)
    (hown' : w1.ownsRow (w.heap.size + 3) 36 2 v' ((drP bs t (pre.map Subtype.val)).length + 1) (bks (drP bs t (pre.map Subtype.val)) ++ [.int .i64 N, .string D])) (hgrow : (W2.alloc tmp).grownBy w1 v.ownBlock) (hat : v'.ownBlock = v.ownBlock ∨ v'.ownBlock = some (W2.alloc tmp).heap.size) :
    Boxed w1 (w.heap.size + 2) 27 v ∧ Boxed w1 w.heap.size 27 (.slice A0 bs.length c) ∧ Below w.heap.size w w1 ∧
      (KeepsOthers W (w1.setCell ⟨w.heap.size + 2, 0, none⟩ v') ∧ KpO (w.heap.size + 2) W (w1.setCell ⟨w.heap.size + 2, 0, none⟩ v') ∧ DpJ bs t w A0 c (pre ++ [x]) (w1.setCell ⟨w.heap.size + 2, 0, none⟩ v') v') := by
  have hne : ∀ k, k < w.heap.size + 3 → some k ≠ v.ownBlock := fun k hk he => by have := (h.r.lt k he.symm).1; omega
  have hne' : ∀ k, k < w.heap.size + 3 → some k ≠ v'.ownBlock := fun k hk he => by have := (hown'.lt k he.symm).1; omega
  have o1 := (h.o.alloc tmp).kept hgrow (hne _ (by omega))
  have l1 := (h.l.alloc tmp).kept hgrow (hne _ (by omega))
  have q1 := (h.q.alloc tmp).kept hgrow (hne _ (by omega))
  have hz := h.z
  have hzg := hgrow.size
  have hzB := hB.size
  simp only [World.size_alloc] at hzg
  have b1 : Below w.heap.size w w1 := ((h.b.alloc (by omega) tmp).grown hgrow (by simp; omega) (fun j ej => by have := (h.r.lt j ej).1; omega))
  have keep : KeepsOthers W2 w1 := (KeepsOthers.alloc W2 tmp).trans (KeepsOthers.of_grownBy hgrow fun j o ej hj => by
    rcases (h.r.alloc tmp).2 with ⟨rfl, _⟩ | ⟨g, cap, cur, rfl, _, hgb, _⟩
    · simp [Value.ownBlock] at ej
    · obtain rfl : g = j := by simpa [Value.ownBlock] using ej
      rw [hgb] at hj; cases hj; rfl)
  have hzs : (w1.setCell ⟨w.heap.size + 2, 0, none⟩ v').heap.size = w1.heap.size := by simp [World.setCell]
  have keep2 : KeepsOthers W (w1.setCell ⟨w.heap.size + 2, 0, none⟩ v') := ((KeepsOthers.of_grownBy (grew_gi hB none) (fun j o ej => by cases ej)).trans keep).trans (KeepsOthers.setCell _ _ _)
  have hkp : KpO (w.heap.size + 2) W (w1.setCell ⟨w.heap.size + 2, 0, none⟩ v') := by
    refine ⟨by omega, fun u hu => ⟨v', (o1.set v').cell, fun k hk => ?_, fun k o hk hc hn hu2 => ?_⟩⟩
    · obtain rfl : u = v := by have := hW.o.cell; rw [hu] at this; exact Option.some.inj this
      rcases hat with e | e
      · rw [e] at hk; exact .inl hk
      · have h2 := (hown'.lt k hk).2
        rw [e] at hk; injection hk with hk
        simp only [World.size_alloc] at hk
        exact .inr ⟨by omega, by omega⟩
    · obtain rfl : u = v := by have := hW.o.cell; rw [hu] at this; exact Option.some.inj this
      have hkl : k < W.heap.size := (Array.getElem?_eq_some_iff.1 hk).1
      exact ((Below.heap_setCell _ _ _ k hn).trans ((hgrow.block k (by simp; omega) (fun e => hu2 e.symm)).trans ((Below.heap_alloc _ _ _ (by omega)).trans (hB.block k hkl)))).trans hk
  refine ⟨o1, l1, b1, keep2, hkp, l1.other (by omega) _, q1.other (by omega) _, o1.set v', ?_, b1.setCell (p := ⟨w.heap.size + 2, 0, none⟩) (by simp) _, by omega⟩
  rw [List.map_append]
  show World.ownsRow _ _ _ _ _ (drP bs t (pre.map Subtype.val ++ [x.1])).length (bks (drP bs t (pre.map Subtype.val ++ [x.1])))
  rw [drP_snoc, hd, if_pos rfl, hp, bks_append, List.length_append]
  exact hown'.kept (grownBy_setCell' _ _ _) (.inr (hne' _ (by omega)).symm)
set_option maxRecDepth 100000 in
theorem clone_gi (s : ByteArray) (w : World) (hs : s.size ≤ 1048576) :
    Calls Tryd.prog 61 #[.string s] w fun e w' => e = .returned (.string s) ∧ Below w.heap.size w w' := by
  have H := Lib.hid (fun W => Tryd.stringslite_Clone s W (by omega))
  go_enter Tryd.func61, Tryd.ntmps61
  go_wp2_with fail
  refine (H.out _).mono ?_
  rintro e w2 ⟨rfl, hb2⟩
  go_wp2_with fail
  go_ret
  exact ⟨rfl, hb2⟩
/-- what the loads of a round read: the list's box, the block's two cells -/
def KD (lb ba off n c x : Nat) (N : Int) (D : ByteArray) (W : World) : Prop := W.cell? ⟨lb, 0, none⟩ = some (.slice (some ⟨ba, off, none⟩) n c) ∧ W.cell? ⟨ba, off + x * 2, none⟩ = some (.int .i64 N) ∧ W.cell? ⟨ba, off + x * 2 + 1, none⟩ = some (.string D)

set_option maxRecDepth 100000 in
set_option maxHeartbeats 8000000 in
theorem implDropChunks_any (v : Value) (bs : List (Int × ByteArray)) (t : Int) (w : World) (h : BL w w.heap.size v bs) (hsz : ∀ j, (bs.getD j (0, emB)).2.size ≤ 1048576) (hT : Tab w) :
    Calls Tryd.prog 28 #[v, .int .i64 t] w (BOwnPost w.heap.size (dropM bs t) w) := by
  obtain ⟨i0, hii, hz0, hz1, hz2⟩ := info_parts info_bk
  refine (callsIn_wide (n := 4)).1 ?_
  have HP := Lib.hid h
  have HTab := Lib.hid hT
  have HSZ := Lib.hid hsz
  have hlen := h.2.1
  obtain ⟨_, _, A0, c, rfl, h3⟩ := h
  have HSP := Lib.hid (fun W => spans_any A0 bs.length c W)
  have H3 := Lib.hid h3
  clear hT hsz h3
  refine callsIn_of_wp_marks Tryd.func28 rfl trivial ?_ rfl
  simp only [Tryd.ntmps28, List.size_toArray, List.length_cons, List.length_nil, Nat.reduceAdd, Nat.reduceSub, Array.replicate_succ, Array.replicate_zero, List.push_toArray, List.append_toArray, List.nil_append, List.cons_append]
  gi_wp2
  refine ⟨trivial, ?_⟩
  refine (callsIn_wide.2 (HSP.out _)).mono ?_
  rintro e W0 ⟨rfl, hW0⟩
  simp only [World.size_alloc]
  have X1 : Boxed W0 w.heap.size 27 (.slice A0 bs.length c) := by
    rw [hW0]; exact (((Boxed.new w 27 (.slice A0 bs.length c)).alloc _).alloc _).alloc _
  have XT : Boxed W0 (w.heap.size + 1) 2 (.int .i64 t) := by
    have h := Boxed.new (w.alloc (.cells #[.slice A0 bs.length c] 27)) 2 (.int .i64 t)
    rw [World.size_alloc] at h
    rw [hW0]; exact (h.alloc _).alloc _
  have X0 : Boxed W0 (w.heap.size + 2) 27 (.slice none 0 0) := by
    have h := Boxed.new ((w.alloc (.cells #[.slice A0 bs.length c] 27)).alloc (.cells #[.int .i64 t] 2)) 27 (.slice none 0 0)
    rw [World.size_alloc, World.size_alloc] at h
    rw [hW0]; exact h.alloc _
  have X2 : Boxed W0 (w.heap.size + 3) 27 (.slice A0 bs.length c) := by
    have h := Boxed.new (((w.alloc (.cells #[.slice A0 bs.length c] 27)).alloc (.cells #[.int .i64 t] 2)).alloc (.cells #[.slice none 0 0] 27)) 27 (.slice A0 bs.length c)
    rw [World.size_alloc, World.size_alloc, World.size_alloc] at h
    rw [hW0]; exact h
  have B0 : Below w.heap.size w W0 := by rw [hW0]; exact ((((Below.refl _ w).alloc (Nat.le_refl _) _).alloc (by simp) _).alloc (by simp; omega) _).alloc (by simp; omega) _
  have hsz0 : W0.heap.size = w.heap.size + 4 := by rw [hW0]; simp
  have J0 : DpJ bs t w A0 c [] W0 (.slice none 0 0) := ⟨X1, XT, X0, World.ownsRow_nil _ _ _ _, B0, by omega⟩
  clear hW0
  gi_wp2
  refine wpIn_rangeFunc_ownH rfl (by omega) (gf := 85) (lb := #[.pointer (some ⟨w.heap.size + 3, 0, none⟩)]) rfl trivial (enters_of Tryd.func85 (by kernel_rfl) rfl)
    (α := {x : Nat // x < spN bs}) (encs := fun x => spE bs x.1) (Kp := KpO (w.heap.size + 2)) (S := fun ys => ys.map Subtype.val = List.range (spN bs)) (Sp := fun pre => pre.map Subtype.val <+: List.range (spN bs)) (N := spN bs) (w0 := W0)
    (fun l J Jx W hW hJ _ hY h0 => span2_in 3 (by omega) l (w.heap.size + 3) (w.heap.size + 2) A0 c bs HSZ.out J Jx (fun pre x W h1 h2 => hY pre x W h1 h2) W ((hW.cell (p := ⟨w.heap.size + 3, 0, none⟩) X2.lt).trans X2.cell) (by omega) (.slice none 0 0) ((hW.cell (p := ⟨w.heap.size + 2, 0, none⟩) X0.lt).trans X0.cell) rfl ((HP.out.below (B0.trans (hW.mono B0.size))).up (Nat.le_trans B0.size hW.size)) (by
      rcases H3.out with h | ⟨b, off, hA, hb, _⟩
      · exact .inl h
      · refine .inr fun b' off' hA' => ?_
        rw [hA] at hA'; injection hA' with e; injection e with e; omega) (HTab.out.below (B0.trans (hW.mono B0.size))) hJ h0)
    (fun h k => h.trans k) (fun W l o o' h1 h2 h3 h4 => KpO.putObj W l o o' (by omega) h2 h3) (Below.refl _ _) (fun _ => rfl)
    (fun pre W => ∃ v, DpJ bs t w A0 c pre W v)
    (fun cd pre W => False)
    (fun pre X Y row hs hg hr => by
      obtain ⟨v, h1⟩ := hs
      exact ⟨v, h1.mach hg (fun r e => ⟨by have := (hr r e).1; omega, (hr r e).2⟩)⟩)
    (fun c pre X Y row hs hg hr => hs)
    ⟨_, J0⟩
    (fun x a' W => ∃ Bx, w.heap.size + 2 < Bx ∧ BoxS W Bx (frB bs x.1) (toB bs x.1) ∧ a' = { tmps := #[.slice A0 bs.length c, .int .i64 t, .pointer (some ⟨w.heap.size, 0, none⟩), .pointer (some ⟨w.heap.size + 1, 0, none⟩), .slice none 0 0, .pointer (some ⟨w.heap.size + 2, 0, none⟩), .int .i64 (x.1 : Int), .pointer (some ⟨Bx, 0, none⟩), .slice A0 bs.length c, .func (.func 85) #[] #[.pointer (some ⟨w.heap.size + 3, 0, none⟩)], .int .i64 (x.1 : Int), .agg #[.int .i64 (frB bs x.1), .int .i64 (toB bs x.1)], undef, undef, undef, undef, undef, undef, undef, undef, undef, undef, undef, undef, undef, undef, undef, undef, undef, undef, undef, undef], defers := [] })
    (fun x a' _ X Y row hs hg hr => by obtain ⟨Bx, h1, h2, h3⟩ := hs; exact ⟨Bx, h1, h2.own hg (fun r e => (hr r e).2), h3⟩)
    ?assign ?body ?done ?stop
  case assign =>
    rintro l pre x W K ⟨v, hI⟩ hK
    have hlt := hI.z
    simp only [spE]
    gi_wp2
    exact hK _ _ ((KeepsOthers.alloc _ _).from _) (KpO.of_below (below1 W _)) ⟨v, hI.below (below1 W _)⟩ ⟨W.heap.size, by omega, BoxS.new W _ _, rfl⟩
  case body =>
    rintro l pre ⟨x, hx⟩ a' W hl _ ⟨v, hI⟩ ⟨Bx, hBx, bX, rfl⟩ hlt
    have d1 := bX.c1
    have dt := hI.q.cell
    have hN : spN bs ≤ bs.length := by unfold spN; split <;> omega
    have hxl : x < bs.length := by omega
    have hp : bs.getD x (0, emB) = ((bs.getD x (0, emB)).1, (bs.getD x (0, emB)).2) := rfl
    have hDS := HSZ.out x
    rcases H3.out with h3 | ⟨ba, off, hA0, hba, hcb⟩
    · subst h3; simp at hxl
    obtain ⟨g0, g1⟩ := hcb x hxl
    have hpl := drP_len bs t (pre.map Subtype.val)
    rw [List.length_map] at hpl
    have HX := Lib.hid (fun (hd : drB bs t x = true) (W2 : World) (w1 : World) (v' : Value) (tmp : Obj) hb h h1 h2 h3 => DpJ.app (x := ⟨x, hx⟩) (W := W) (W2 := W2) (w1 := w1) (v' := v') (tmp := tmp) hd hp hI hb h h1 h2 h3)
    have HDB := Lib.hid (show drB bs t x = decide (t ≤ toB bs x) from rfl)
    have HSN := Lib.hid (drP_snoc bs t (pre.map Subtype.val) x)
    have HI := Lib.hid hI
    have HKD := Lib.hid (fun (W' : World) (hl : Boxed W' w.heap.size 27 (.slice A0 bs.length c)) (hb : Below w.heap.size w W') => (show KD w.heap.size ba off bs.length c x (bs.getD x (0, emB)).1 (bs.getD x (0, emB)).2 W' from ⟨by rw [← hA0]; exact hl.cell, (hb.cell (p := ⟨ba, off + x * 2, none⟩) hba).trans g0, (hb.cell (p := ⟨ba, off + x * 2 + 1, none⟩) hba).trans g1⟩))
    have HAZ := Lib.hid hA0
    obtain ⟨nl, hnl⟩ : ∃ nl, (drP bs t (pre.map Subtype.val)).length = nl := ⟨_, rfl⟩
    rw [hnl] at hpl
    have HNL := Lib.hid hnl
    have hnl1 : nl < 1048576 := by omega
    clear hp hcb g0 g1 hI hA0 hpl hnl
    generalize toB bs x = gg at *
    generalize frB bs x = ff at *
    generalize (bs.getD x (0, emB)).1 = N at *
    generalize (bs.getD x (0, emB)).2 = D at *
    by_cases a2 : t ≤ gg
    · have c2 : decide (t ≤ gg) = true := decide_eq_true a2
      have HX := Lib.hid (HX.out (by rw [HDB.out, c2]))
      gi_wp2
      refine Go.wpIn_mono (Q := Exit.then (fun (_ : Act) (W' : World) => KeepsOthers W W' ∧ KpO (w.heap.size + 2) W W' ∧ ∃ v', DpJ bs t w A0 c (pre ++ [⟨x, hx⟩]) W' v') (fun _ _ _ => False)) ?_ ?post
      case post =>
        rintro e a' W' hq
        cases e with
        | normal =>
          obtain ⟨q1, q2, q3⟩ := hq
          exact ⟨q1.from _, q2, q3⟩
        | _ => exact hq.elim
      have hSW : KD w.heap.size ba off bs.length c x N D W.drew := HKD.out _ (HI.out.below (Below.refl W.heap.size W).drew).l (HI.out.below (Below.refl W.heap.size W).drew).b
      have HID := Lib.hid (HI.out.below (Below.refl W.heap.size W).drew)
      have hA1 := HAZ.out
      subst hA1
      obtain ⟨Av, nv, cv, rfl⟩ : ∃ A n c, v = .slice A n c := by
        rcases HI.out.r.2 with ⟨rfl, _⟩ | ⟨g, cap, cur, rfl, _⟩ <;> exact ⟨_, _, _, rfl⟩
      have HCx := Lib.hid (fun W => clone_gi D W hDS)
      clear d1 dt bX
      refine wpIn_region_held_round (S := KD w.heap.size ba off bs.length c x N D) (by kernel_rfl) (by kernel_rfl) letsOut_then hSW (fun hS0 => ?_)
      refine wpAnyH_take (i := 1) (v := .slice (some ⟨ba, off, none⟩) bs.length c) rfl (by kernel_rfl) (by kernel_rfl) (by kernel_rfl) (fun _ _ _ h => h) (Or.inl ⟨by kernel_rfl, ?t1⟩) (by assumption) ?_
      case t1 =>
        intro W hW
        have y0 := hW.1
        have y1 := hW.2.1
        have y2 := hW.2.2
        clear hW
        go_simp
      refine wpAnyH_take (i := 2) (v := .int .i64 (x : Int)) rfl (by kernel_rfl) (by kernel_rfl) (by kernel_rfl) (fun _ _ _ h => h) (Or.inl ⟨by kernel_rfl, ?t2⟩) (by assumption) ?_
      case t2 =>
        intro W hW
        have y0 := hW.1
        have y1 := hW.2.1
        have y2 := hW.2.2
        clear hW
        go_simp
      refine wpAnyH_take (i := 3) (v := .pointer (some ⟨ba, off + x * 2, none⟩)) rfl (by kernel_rfl) (by kernel_rfl) (by kernel_rfl) (fun _ _ _ h => h) (Or.inl ⟨by kernel_rfl, ?t3⟩) (by assumption) ?_
      case t3 =>
        intro W hW
        have y0 := hW.1
        have y1 := hW.2.1
        have y2 := hW.2.2
        clear hW
        go_simp
      refine wpAnyH_take (i := 4) (v := .pointer (some ⟨ba, off + x * 2, none⟩)) rfl (by kernel_rfl) (by kernel_rfl) (by kernel_rfl) (fun _ _ _ h => h) (Or.inl ⟨by kernel_rfl, ?t4⟩) (by assumption) ?_
      case t4 =>
        intro W hW
        have y0 := hW.1
        have y1 := hW.2.1
        have y2 := hW.2.2
        clear hW
        go_simp
      refine wpAnyH_take (i := 5) (v := .int .i64 N) rfl (by kernel_rfl) (by kernel_rfl) (by kernel_rfl) (fun _ _ _ h => h) (Or.inl ⟨by kernel_rfl, ?t5⟩) (by assumption) ?_
      case t5 =>
        intro W hW
        have y0 := hW.1
        have y1 := hW.2.1
        have y2 := hW.2.2
        clear hW
        go_simp
      refine wpAnyH_take (i := 6) (v := .slice (some ⟨ba, off, none⟩) bs.length c) rfl (by kernel_rfl) (by kernel_rfl) (by kernel_rfl) (fun _ _ _ h => h) (Or.inl ⟨by kernel_rfl, ?t6⟩) (by assumption) ?_
      case t6 =>
        intro W hW
        have y0 := hW.1
        have y1 := hW.2.1
        have y2 := hW.2.2
        clear hW
        go_simp
      refine wpAnyH_take (i := 7) (v := .int .i64 (x : Int)) rfl (by kernel_rfl) (by kernel_rfl) (by kernel_rfl) (fun _ _ _ h => h) (Or.inl ⟨by kernel_rfl, ?t7⟩) (by assumption) ?_
      case t7 =>
        intro W hW
        have y0 := hW.1
        have y1 := hW.2.1
        have y2 := hW.2.2
        clear hW
        go_simp
      refine wpAnyH_take (i := 8) (v := .pointer (some ⟨ba, off + x * 2, none⟩)) rfl (by kernel_rfl) (by kernel_rfl) (by kernel_rfl) (fun _ _ _ h => h) (Or.inl ⟨by kernel_rfl, ?t8⟩) (by assumption) ?_
      case t8 =>
        intro W hW
        have y0 := hW.1
        have y1 := hW.2.1
        have y2 := hW.2.2
        clear hW
        go_simp
      refine wpAnyH_take (i := 9) (v := .pointer (some ⟨ba, off + x * 2 + 1, none⟩)) rfl (by kernel_rfl) (by kernel_rfl) (by kernel_rfl) (fun _ _ _ h => h) (Or.inl ⟨by kernel_rfl, ?t9⟩) (by assumption) ?_
      case t9 =>
        intro W hW
        have y0 := hW.1
        have y1 := hW.2.1
        have y2 := hW.2.2
        clear hW
        go_simp
      refine wpAnyH_take (i := 10) (v := .string D) rfl (by kernel_rfl) (by kernel_rfl) (by kernel_rfl) (fun _ _ _ h => h) (Or.inl ⟨by kernel_rfl, ?t10⟩) (by assumption) ?_
      case t10 =>
        intro W hW
        have y0 := hW.1
        have y1 := hW.2.1
        have y2 := hW.2.2
        clear hW
        go_simp
      refine wpAnyH_ready (rs := [0, 11]) (by kernel_rfl) (by simp) ?_
      refine AllReadyH.cons rfl (fun K0 hK0 => ?_) (AllReadyH.cons rfl (fun K11 hK11 => ?_) AllReadyH.nil)
      · have z0 := HID.out.o.cell
        go_simp
        refine hK0.out _ _ (by assumption) (fun _ => ?_)
        clear hK0 K0 z0
        refine wpAnyH_ready (rs := [11]) (by kernel_rfl) (by simp) ?_
        refine AllReadyH.cons rfl (fun K11 hK11 => ?_) AllReadyH.nil
        go_simp
        go_at_call 61
        refine (HCx.out _).mono ?_
        rintro e W2 ⟨rfl, hb2⟩
        have hT2 : DpJ bs t w (some ⟨ba, off, none⟩) c pre W2 (.slice Av nv cv) := HID.out.below hb2
        have hS2 : KD w.heap.size ba off bs.length c x N D W2 := HKD.out _ hT2.l hT2.b
        have hz2w := hT2.z
        have HR2 := Lib.hid (show W2.ownsRow (w.heap.size + 3) 36 2 (.slice Av nv cv) nl (bks (drP bs t (pre.map Subtype.val))) from (by have h := hT2.r; rw [HNL.out] at h; exact h))
        have HB2 := Lib.hid (show Below W.heap.size W W2 from ((Below.refl W.heap.size W).drew).trans hb2)
        clear hb2
        try go_simp
        refine hK11.out _ _ hS2 (fun _ => ?_)
        clear hK11 K11
        refine wpAnyH_take (i := 12) (v := .agg #[.int .i64 N, .string D]) rfl (by kernel_rfl) (by kernel_rfl) (by kernel_rfl) (fun _ _ _ h => h) (Or.inl ⟨by kernel_rfl, ?t12⟩) (by assumption) ?_
        case t12 =>
          intro W hW
          clear hW
          go_simp
        refine wpAnyH_ready (rs := [13]) (by kernel_rfl) (by simp) ?_
        refine AllReadyH.cons rfl (fun K13 hK13 => ?_) AllReadyH.nil
        go_simp
        have hS3 : KD w.heap.size ba off bs.length c x N D (W2.alloc (.cells #[.int .i64 N, .string D] 36)) := HKD.out _ (hT2.l.alloc _) (hT2.b.alloc (by omega) _)
        refine hK13.out _ _ hS3 (fun _ => ?_)
        clear hK13 K13
        refine wpAnyH_ready (rs := [14]) (by kernel_rfl) (by simp) ?_
        refine AllReadyH.cons rfl (fun K14 hK14 => ?_) AllReadyH.nil
        refine step_append_ownY _ rfl _ _ 27 rfl (w.heap.size + 3) 36 i0 (.agg #[.int .i64 0, .string emB]) 2 24 Tryd.underlying27 hii hz0 hz1 hz2 rfl (by decide) (.slice Av nv cv) nl (bks (drP bs t (pre.map Subtype.val))) rfl (HR2.out.alloc _) ⟨W2.heap.size, 0, none⟩ 1 1 [.int .i64 N, .string D] rfl rfl (two_cellsB (by go_simp) (by go_simp)) (by intro u hu; simp at hu; rcases hu with rfl | rfl <;> rfl) (by unfold maxLen; omega) (by omega) (by simp; omega) ?_
        intro v' w4 hown' hgrow hat
        obtain ⟨o4, l4, b4, hfin⟩ := HX.out W2 w4 v' _ HB2.out hT2 (by rw [HNL.out]; exact hown') hgrow hat
        have hS4 := HKD.out _ l4 b4
        obtain ⟨g', cap', rfl⟩ := ownsRow_succ hown'
        have hf4 := o4.frozen
        have hc4 := o4.cell
        clear o4 l4 b4 hown' hgrow hat
        refine hK14.out _ _ hS4 (fun _ => ?_)
        clear hK14 K14
        refine wpAnyH_ready (rs := [15]) (by kernel_rfl) (by simp) ?_
        refine AllReadyH.cons rfl (fun K15 hK15 => ?_) AllReadyH.nil
        go_simp
        refine hK15.out _ _ (HKD.out _ hfin.2.2.l hfin.2.2.b) (fun _ => ?_)
        clear hK15 K15
        refine wpAnyH_done (by kernel_rfl) ?_ _
        exact ⟨hfin.1, hfin.2.1, _, hfin.2.2⟩
      · go_simp
        go_at_call 61
        refine (HCx.out _).mono ?_
        rintro e W2 ⟨rfl, hb2⟩
        have hT2 : DpJ bs t w (some ⟨ba, off, none⟩) c pre W2 (.slice Av nv cv) := HID.out.below hb2
        have hS2 : KD w.heap.size ba off bs.length c x N D W2 := HKD.out _ hT2.l hT2.b
        have hz2w := hT2.z
        have HR2 := Lib.hid (show W2.ownsRow (w.heap.size + 3) 36 2 (.slice Av nv cv) nl (bks (drP bs t (pre.map Subtype.val))) from (by have h := hT2.r; rw [HNL.out] at h; exact h))
        have HB2 := Lib.hid (show Below W.heap.size W W2 from ((Below.refl W.heap.size W).drew).trans hb2)
        clear hb2
        try go_simp
        refine hK11.out _ _ hS2 (fun _ => ?_)
        clear hK11 K11
        refine wpAnyH_take (i := 12) (v := .agg #[.int .i64 N, .string D]) rfl (by kernel_rfl) (by kernel_rfl) (by kernel_rfl) (fun _ _ _ h => h) (Or.inl ⟨by kernel_rfl, ?t12⟩) (by assumption) ?_
        case t12 =>
          intro W hW
          clear hW
          go_simp
        refine wpAnyH_ready (rs := [0, 13]) (by kernel_rfl) (by simp) ?_
        refine AllReadyH.cons rfl (fun K0 hK0 => ?_) (AllReadyH.cons rfl (fun K13 hK13 => ?_) AllReadyH.nil)
        · have z0 := hT2.o.cell
          go_simp
          refine hK0.out _ _ (by assumption) (fun _ => ?_)
          clear hK0 K0 z0
          refine wpAnyH_ready (rs := [13]) (by kernel_rfl) (by simp) ?_
          refine AllReadyH.cons rfl (fun K13 hK13 => ?_) AllReadyH.nil
          go_simp
          have hS3 : KD w.heap.size ba off bs.length c x N D (W2.alloc (.cells #[.int .i64 N, .string D] 36)) := HKD.out _ (hT2.l.alloc _) (hT2.b.alloc (by omega) _)
          refine hK13.out _ _ hS3 (fun _ => ?_)
          clear hK13 K13
          refine wpAnyH_ready (rs := [14]) (by kernel_rfl) (by simp) ?_
          refine AllReadyH.cons rfl (fun K14 hK14 => ?_) AllReadyH.nil
          refine step_append_ownY _ rfl _ _ 27 rfl (w.heap.size + 3) 36 i0 (.agg #[.int .i64 0, .string emB]) 2 24 Tryd.underlying27 hii hz0 hz1 hz2 rfl (by decide) (.slice Av nv cv) nl (bks (drP bs t (pre.map Subtype.val))) rfl (HR2.out.alloc _) ⟨W2.heap.size, 0, none⟩ 1 1 [.int .i64 N, .string D] rfl rfl (two_cellsB (by go_simp) (by go_simp)) (by intro u hu; simp at hu; rcases hu with rfl | rfl <;> rfl) (by unfold maxLen; omega) (by omega) (by simp; omega) ?_
          intro v' w4 hown' hgrow hat
          obtain ⟨o4, l4, b4, hfin⟩ := HX.out W2 w4 v' _ HB2.out hT2 (by rw [HNL.out]; exact hown') hgrow hat
          have hS4 := HKD.out _ l4 b4
          obtain ⟨g', cap', rfl⟩ := ownsRow_succ hown'
          have hf4 := o4.frozen
          have hc4 := o4.cell
          clear o4 l4 b4 hown' hgrow hat
          refine hK14.out _ _ hS4 (fun _ => ?_)
          clear hK14 K14
          refine wpAnyH_ready (rs := [15]) (by kernel_rfl) (by simp) ?_
          refine AllReadyH.cons rfl (fun K15 hK15 => ?_) AllReadyH.nil
          go_simp
          refine hK15.out _ _ (HKD.out _ hfin.2.2.l hfin.2.2.b) (fun _ => ?_)
          clear hK15 K15
          refine wpAnyH_done (by kernel_rfl) ?_ _
          exact ⟨hfin.1, hfin.2.1, _, hfin.2.2⟩
        · go_simp
          have hS3 : KD w.heap.size ba off bs.length c x N D (W2.alloc (.cells #[.int .i64 N, .string D] 36)) := HKD.out _ (hT2.l.alloc _) (hT2.b.alloc (by omega) _)
          refine hK13.out _ _ hS3 (fun _ => ?_)
          clear hK13 K13
          refine wpAnyH_ready (rs := [0]) (by kernel_rfl) (by simp) ?_
          refine AllReadyH.cons rfl (fun K0 hK0 => ?_) AllReadyH.nil
          have z0 := (hT2.below ((Below.refl _ _).alloc (Nat.le_refl _) (.cells #[.int .i64 N, .string D] 36))).o.cell
          go_simp
          refine hK0.out _ _ (by assumption) (fun _ => ?_)
          clear hK0 K0 z0
          refine wpAnyH_ready (rs := [14]) (by kernel_rfl) (by simp) ?_
          refine AllReadyH.cons rfl (fun K14 hK14 => ?_) AllReadyH.nil
          refine step_append_ownY _ rfl _ _ 27 rfl (w.heap.size + 3) 36 i0 (.agg #[.int .i64 0, .string emB]) 2 24 Tryd.underlying27 hii hz0 hz1 hz2 rfl (by decide) (.slice Av nv cv) nl (bks (drP bs t (pre.map Subtype.val))) rfl (HR2.out.alloc _) ⟨W2.heap.size, 0, none⟩ 1 1 [.int .i64 N, .string D] rfl rfl (two_cellsB (by go_simp) (by go_simp)) (by intro u hu; simp at hu; rcases hu with rfl | rfl <;> rfl) (by unfold maxLen; omega) (by omega) (by simp; omega) ?_
          intro v' w4 hown' hgrow hat
          obtain ⟨o4, l4, b4, hfin⟩ := HX.out W2 w4 v' _ HB2.out hT2 (by rw [HNL.out]; exact hown') hgrow hat
          have hS4 := HKD.out _ l4 b4
          obtain ⟨g', cap', rfl⟩ := ownsRow_succ hown'
          have hf4 := o4.frozen
          have hc4 := o4.cell
          clear o4 l4 b4 hown' hgrow hat
          refine hK14.out _ _ hS4 (fun _ => ?_)
          clear hK14 K14
          refine wpAnyH_ready (rs := [15]) (by kernel_rfl) (by simp) ?_
          refine AllReadyH.cons rfl (fun K15 hK15 => ?_) AllReadyH.nil
          go_simp
          refine hK15.out _ _ (HKD.out _ hfin.2.2.l hfin.2.2.b) (fun _ => ?_)
          clear hK15 K15
          refine wpAnyH_done (by kernel_rfl) ?_ _
          exact ⟨hfin.1, hfin.2.1, _, hfin.2.2⟩

    · have c2 : decide (t ≤ gg) = false := decide_eq_false a2
      have HI2 := Lib.hid (show drB bs t x = false by rw [HDB.out, c2])
      gi_wp2
      refine ⟨(KeepsOthers.refl _).from _, KpO.refl _ _, _, HI.out.l, HI.out.q, HI.out.o, ?_, HI.out.b, HI.out.z⟩
      have := HI.out.r
      rw [List.map_append]
      show World.ownsRow _ _ _ _ _ (drP bs t (pre.map Subtype.val ++ [x])).length (bks (drP bs t (pre.map Subtype.val ++ [x])))
      rw [HSN.out, HI2.out, if_neg (by simp), List.append_nil]
      exact this
  case done =>
    rintro D ys W hD hys ⟨v, hI⟩ hK
    have hO := hI.o
    have hc := hI.o.cell
    have hr := hI.r
    rw [hys] at hr
    have HR := Lib.hid (show W.ownsRow (w.heap.size + 3) 36 2 v (dropM bs t).length (bks (dropM bs t)) from hr)
    have HB := Lib.hid hI.b
    clear hys hI hr
    have hK2 := hK
    have q2 : Boxed (W.putObj D (.deferred none)) (w.heap.size + 2) 27 v := hO.kept (grownBy_putObj' _ D (.deferred none)) (by intro e; injection e with e; omega)
    have q3 := q2.cell
    gi_wp2
    refine ⟨by simp, .inl ⟨_, _, rfl, run_takeDeferred hK2, ?_⟩⟩
    refine ⟨v, (by simp [results, Tryd.results28, go_sem, q3]), v, rfl, ?_, HB.out.trans (belowK_b (w := w) (Nat.le_refl _) _ D _ _ (by omega) hK2 rfl rfl)⟩
    have h9 := HR.out
    refine ⟨h9.1, ?_⟩
    rcases h9.2 with h0 | ⟨g, cap, cur, rfl, hb, hh, hq⟩
    · exact .inl h0
    · refine .inr ⟨g, cap, cur, rfl, by omega, ((grownBy_putObj' W D (.deferred none)).block g (Array.getElem?_eq_some_iff.1 hh).1 (fun e => ?_)).trans hh, hq⟩
      injection e with e
      subst e
      rw [hh] at hK2; cases hK2
  case stop =>
    rintro D cd pre W hD hpre h
    exact h.elim
end Go.Proofs.YtanoohfhifhhaaaDoor
