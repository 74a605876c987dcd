/- Walks: sorted: slices.Values, AppendSeq, Collect, Sorted at numbers; below. -/
import Derived.RangeFuncFrom
import Derived.Shelf.SlIterI.Collect
import Derived.Shelf.Abstract
import Derived.Shelf.AbstractIn
import Derived.OwnWalkIn
import Derived.TacticsInMore
import Derived.LoopNIn
import Derived.LoopIn
import Derived.Sort.OwnSorted
import Derived.Test.YtljmiodkmddllaaShh
import Derived.Test.YtljmiodkmddllaaBb
set_option linter.unusedVariables false
set_option linter.unusedSimpArgs false
namespace Go.Proofs.Ytljmiodkmddllaa
open Go.RowKit Go.Shelf Go.Sort

attribute [local go_sem] Oper.semAt_some

set_option maxRecDepth 100000 in
set_option maxHeartbeats 2000000 in
/-- the iterator over a slice of numbers that lies below n0, whatever a round does that keeps what lies below n0 -/
theorem valuesIt_any (F : Fence) (n l B0 n0 : Nat) (sv : Value) (zs : List Int) (hF : F.fn 75) (hro : F.round = none) (hn : 1 ≤ n) (J Jx : List Int → World → Prop)
    (hY : ∀ pre x W, J pre W → pre.length < zs.length → YieldAt F (n - 1) Try.prog l #[.int .i64 x] W fun e W' => (e = .returned (.bool true) ∧ J (pre ++ [x]) W' ∧ Below n0 W W') ∨ (e = .returned (.bool false) ∧ Jx (pre ++ [x]) W'))
    (W : World) (hB : W.cell? ⟨B0, 0, none⟩ = some sv) (hI : IL W n0 sv zs) (h0 : J [] W) :
    CallsIn F n Try.prog 75 #[.func (.yield l) #[] #[], .pointer (some ⟨B0, 0, none⟩)] W fun e W' => (∃ v, e = .returned v) ∧ ((∃ ys, ys = zs ∧ J ys W') ∨ (∃ pre, True ∧ Jx pre W')) := by
  obtain ⟨hr, hlen, A, c, rfl, h3⟩ := hI
  clear hr
  refine callsIn_of_wp Try.func75 rfl hF ?_ hro
  simp only [Try.ntmps75, List.size_toArray, List.length_cons, List.length_nil, Nat.reduceAdd, Nat.reduceSub, Array.replicate_succ, Array.replicate_zero, List.push_toArray, List.append_toArray, List.nil_append, List.cons_append]
  gi_wp2
  gi_loopw [7] (fun i wr => ∃ k : Nat, k ≤ zs.length ∧ i = .int .i64 k ∧ J (zs.take k) wr ∧ Below n0 W wr)
    (fun i _ => zs.length - (Go.RowKit.intOf i).toNat)
  case atStart => exact ⟨0, Nat.zero_le _, rfl, h0, Below.refl _ _⟩
  case round =>
    obtain ⟨k, hk, rfl, hJs, hnx⟩ := hrel
    by_cases hlt : k < zs.length
    · rcases h3 with h3 | ⟨b, off, rfl, hbl, hc⟩
      · subst h3; simp at hlt
      have hcx : wr.cell? ⟨b, off + k, none⟩ = some (.int .i64 (zs.getD k 0)) := (hnx.cell (p := ⟨b, off + k, none⟩) hbl).trans (hc k hlt)
      obtain ⟨fn, tmps, assign, body, hy, hR⟩ := hY _ (zs.getD k 0) wr hJs (by rw [List.length_take]; omega)
      have HT := Lib.hid (take_snoc_int hlt)
      clear hc
      generalize zs.getD k 0 = x at *
      gi_wp2
      refine hR.mono ?_
      rintro e W3 (⟨rfl, hJ3, hk3⟩ | ⟨rfl, hJx3⟩)
      · gi_wp2
        go_roundw
        case rel => exact ⟨k + 1, by omega, by simp, by rw [HT.out]; exact hJ3, hnx.trans hk3⟩
        case measure => simp [Go.RowKit.intOf]; omega
      · gi_wp2
        refine bodyPost_ret (results_none rfl _ _ _) rfl ?_
        exact ⟨⟨_, rfl⟩, .inr ⟨_, trivial, hJx3⟩⟩
    · obtain rfl : k = zs.length := by omega
      gi_wp2
      go_end0
      rw [List.take_length] at hJs
      exact ⟨⟨_, rfl⟩, .inl ⟨_, rfl, hJs⟩⟩

/-- between two rounds of AppendSeq -/
structure ApI (w0 : World) (Bs : Nat) (ss : List Int) (W : World) : Prop where
  box : ∃ v, W.heap[Bs]? = some (.cells #[v] 22 (0, 0)) ∧ W.ownsRow w0.heap.size 2 1 v ss.length (ints ss)
  below : Below w0.heap.size w0 W
theorem ApI.from (w0 : World) (Bs B : Nat) (hB : w0.heap.size ≤ B) : OwnFrom B (ApI w0 Bs) := by
  intro s W W' row h hg hr
  obtain ⟨v, hv, hrow⟩ := h.box
  have hne : ∀ {j : Nat} {o : Obj}, W.heap[j]? = some o → o.isCells = true → row ≠ some j := by
    intro j o hj ho e
    obtain ⟨_, o', ho', hc⟩ := hr j e
    rw [hj] at ho'
    cases ho'
    rw [hc] at ho
    cases ho
  refine ⟨⟨v, (hg.block Bs (Array.getElem?_eq_some_iff.1 hv).1 (fun e => hne hv rfl e.symm)).trans hv, hrow.kept hg ?_⟩, h.below.grown hg h.below.size (fun k e => Nat.le_trans hB (hr k e).1)⟩
  cases hk : v.ownBlock with
  | none => exact .inl rfl
  | some k =>
    right
    rcases hrow.2 with ⟨rfl, _⟩ | ⟨g, cap, cur, rfl, _, hgb, _⟩
    · cases hk
    · cases hk
      exact fun e => hne hgb rfl e.symm

set_option maxRecDepth 100000 in
set_option maxHeartbeats 4000000 in
theorem appendSeq_any (n B0 : Nat) (sv : Value) (zs : List Int) (w : World) (hn : 3 ≤ n) (hB0 : B0 < w.heap.size) (hc : w.cell? ⟨B0, 0, none⟩ = some sv) (hI : IL w w.heap.size sv zs) :
    CallsIn Fence.wide n Try.prog 78 #[.slice none 0 0, .func (.func 75) #[] #[.pointer (some ⟨B0, 0, none⟩)]] w fun e w' => ∃ v, e = .returned v ∧ w'.ownsRow w.heap.size 2 1 v zs.length (ints zs) ∧ Below w.heap.size w w' := by
  have hlen := hI.2.1
  obtain ⟨i0, hi, hz0, hz1, hz2⟩ := info_parts u_info_i64
  refine callsIn_of_wp_marks Try.func78 rfl trivial ?_ rfl
  simp only [Try.ntmps78, List.size_toArray, List.length_cons, List.length_nil, Nat.reduceAdd, Nat.reduceSub, Array.replicate_succ, Array.replicate_zero, List.push_toArray, List.append_toArray, List.nil_append, List.cons_append]
  gi_wp2
  obtain ⟨W0, hW0⟩ : ∃ W0, w.alloc (.cells #[.slice none 0 0] 22) = W0 := ⟨_, rfl⟩
  have hv0 : W0.heap[w.heap.size]? = some (.cells #[.slice none 0 0] 22 (0, 0)) := by rw [← hW0]; exact World.alloc_heap_new w _
  have hb0 : Below w.heap.size w W0 := by rw [← hW0]; exact (Below.refl _ w).alloc (Nat.le_refl _) _
  have hs0 : W0.heap.size = w.heap.size + 1 := by rw [← hW0]; simp
  rw [hW0]
  clear hW0
  have h0 : ApI w w.heap.size [] W0 := ⟨⟨_, hv0, World.ownsRow_nil _ _ _ _⟩, hb0⟩
  have hc0 : W0.cell? ⟨B0, 0, none⟩ = some sv := (hb0.cell (p := ⟨B0, 0, none⟩) hB0).trans hc
  have hI0 : IL W0 w.heap.size sv zs := hI.below hb0
  refine wpIn_rangeFunc_ownF rfl (by omega) (gf := 75) (lb := #[.pointer (some ⟨B0, 0, none⟩)]) rfl trivial (enters_of Try.func75 (by kernel_rfl) rfl)
    (α := Int) (encs := fun x => #[.int .i64 x]) (Kp := Below w.heap.size) (S := fun ys => ys = zs) (Sp := fun _ => True) (N := zs.length) (w0 := W0)
    (fun l J Jx W hW _ _ hY hJ0 => valuesIt_any Fence.wide _ l B0 w.heap.size sv zs trivial rfl (by omega) J Jx hY W ((hW.cell (p := ⟨B0, 0, none⟩) (show B0 < W0.heap.size by omega)).trans hc0) (hI0.below (hW.mono (by omega))) hJ0)
    (fun h k => h.trans k) (fun W l o o' h1 h2 h3 h4 => belowK_b (w := W0) (by omega) W l o o' h1 h2 h3 h4) (Below.refl _ _) (fun _ => rfl)
    (ApI w w.heap.size) (fun c pre W => False) (ApI.from w _ _ (by omega)) (fun c pre X Y row hs hg hr => hs) h0
    (fun x => { tmps := #[.slice none 0 0, .func (.func 75) #[] #[.pointer (some ⟨B0, 0, none⟩)], .pointer (some ⟨w.heap.size, 0, none⟩), undef, .slice none 0 0, .int .i64 x, .func (.func 75) #[] #[.pointer (some ⟨B0, 0, none⟩)], .int .i64 x, undef, undef, undef, undef, undef], defers := [] }) ?assign ?body ?done ?stop
  case assign =>
    intro l x W K hK
    gi_wp2
    exact hK
  case body =>
    intro l pre x W hA hlt
    obtain ⟨v, hv, hrow⟩ := hA.box
    obtain ⟨hcv, hfv⟩ := cell_of_box_a hv
    have hbw := hA.below.size
    have hvl : w.heap.size < W.heap.size := (Array.getElem?_eq_some_iff.1 hv).1
    have hneB : v.ownBlock ≠ some w.heap.size := by
      intro e
      rcases hrow.2 with ⟨rfl, _⟩ | ⟨g, cap, cur, rfl, _, hgb, _⟩
      · cases e
      · have e' : g = w.heap.size := by injection e
        rw [e', hv] at hgb
        injection hgb with e1
        injection e1 with _ e2 _
        exact absurd e2 (by decide)
    have HB := Lib.hid hA.below
    have HV := Lib.hid hv
    have HR := Lib.hid hrow
    have hrowA := hrow.alloc (.cells #[.int .i64 x] 2)
    clear hv hA hI hI0 hc0 h0
    gi_wp2_with (gi_at_builtin
                 refine wpListIn_append_own _ rfl _ _ 22 rfl w.heap.size 2 i0 (.int .i64 0) 1 8 Try.underlying22 hi hz0 hz1 hz2 rfl (by decide) v pre.length (ints pre) rfl hrowA ⟨W.heap.size, 0, none⟩ 1 1 [.int .i64 x] rfl rfl (cell_one_new W _ _) (by intro q hq; simp at hq; subst hq; rfl) (by unfold maxLen; omega) (by omega) (by simp; omega) ?_
                 intro v' w3 hown' hg3 hnil3
                 have hv3 : w3.heap[w.heap.size]? = some (.cells #[v] 22 (0, 0)) := (hg3.block w.heap.size (by simp; omega) (fun e => hneB e.symm)).trans ((Below.heap_alloc _ _ _ hvl).trans HV.out)
                 obtain ⟨hc3, hf3⟩ := cell_of_box_a hv3
                 obtain ⟨g', cap', rfl, hgb⟩ : ∃ g' cap', v' = .slice (some ⟨g', 0, none⟩) (pre.length + 1) cap' ∧ ∃ cur, w3.heap[g']? = some (.cells cur 2 (0, 0)) := by
                   rcases hown'.2 with ⟨_, h0⟩ | ⟨g, cap, cur, h1, _, h2, _⟩
                   · exact absurd h0 (by omega)
                   · exact ⟨g, cap, h1, cur, h2⟩
                 have HO' := Lib.hid hown'
                 have HG3 := Lib.hid hg3
                 have HGB := Lib.hid hgb
                 have HV3 := Lib.hid hv3
                 clear hown' hg3 hnil3 hv3 hgb
                 go_frame)
    have kc : KeepsOthers W w3 := (KeepsOthers.alloc W _).trans (KeepsOthers.of_grownBy HG3.out (fun j o hj ho => by
      rcases hrowA.2 with ⟨rfl, _⟩ | ⟨g, cap, cur, rfl, _, hgb, _⟩
      · cases hj
      · injection hj with e
        rw [← e, hgb] at ho
        cases ho
        rfl))
    have hb3 : Below w.heap.size W w3 := ((Below.refl _ W).alloc (by omega) _).grown HG3.out (by simp; omega) (fun k hk => (HR.out.lt _ hk).1)
    have hb4 : Below w.heap.size W (w3.setCell ⟨w.heap.size, 0, none⟩ (.slice (some ⟨g', 0, none⟩) (pre.length + 1) cap')) := hb3.setCell (Nat.le_refl _) _
    obtain ⟨cur', hgb'⟩ := HGB.out
    have hne' : g' ≠ w.heap.size := by
      intro e
      rw [e, HV3.out] at hgb'
      injection hgb' with e1
      injection e1 with _ e2 _
      exact absurd e2 (by decide)
    refine ⟨kc.trans (KeepsOthers.setCell _ _ _), hb4, ⟨⟨_, heap_setCell_box_a _ HV3.out, ?_⟩, HB.out.trans hb4⟩⟩
    rw [List.length_append, ints_append]
    exact HO'.out.kept (grownBy_setCell0_a _ _ _) (.inr (fun e => hne' (by injection e)))
  case done =>
    intro D xs W hD hS hA hDD
    subst hS
    obtain ⟨v, hv, hrow⟩ := hA.box
    obtain ⟨hcv, hfv⟩ := cell_of_box_a hv
    have hne : v.ownBlock = none ∨ v.ownBlock ≠ some D := by
      rcases hrow.2 with ⟨rfl, _⟩ | ⟨g, cap, cur, rfl, _, hgb, _⟩
      · exact .inl rfl
      · right
        intro e
        have e' : g = D := by injection e
        rw [e', hDD] at hgb
        cases hgb
    have HB := Lib.hid hA.below
    have HR := Lib.hid hrow
    clear hv hrow hA hI hI0 hc0 h0
    gi_wp2
    refine ⟨by simp, .inl ⟨_, _, rfl, run_takeDeferred hDD, ?_⟩⟩
    exact ⟨_, results_tmp rfl _ _ _, v, rfl, HR.out.kept (grownBy_putObj_a _ _ _) hne, HB.out.grown (grownBy_putObj_a _ _ _) HB.out.size (fun k e => by injection e with e; omega)⟩
  case stop =>
    intro D c pre W _ _ h _
    exact h.elim

set_option maxRecDepth 100000 in
set_option maxHeartbeats 2000000 in
/-- the program's sorted: a new list -/
theorem sorted_any (v : Value) (zs : List Int) (w : World) (h : IL w w.heap.size v zs) :
    Calls Try.prog 52 #[v] w (OwnPost w.heap.size (zs.mergeSort fun x y => decide (x ≤ y)) w) := by
  have hlen := h.2.1
  have HI := Lib.hid h
  obtain ⟨-, -, A, c, rfl, -⟩ := h
  refine (callsIn_wide (n := 7)).1 ?_
  have cV : ∀ (a : Option Addr) (n c : Nat) (W : World), CallsIn Fence.wide 6 Try.prog 67 #[.slice a n c] W fun e w' => e = .returned (.func (.func 75) #[] #[.pointer (some ⟨W.heap.size, 0, none⟩)]) ∧ w' = W.alloc (.cells #[.slice a n c] 22) := by
    intro a n c W
    refine callsIn_of_wp Try.func67 rfl trivial ?_ rfl
    simp only [Try.ntmps67, List.size_toArray, List.length_cons, List.length_nil, Nat.reduceAdd, Nat.reduceSub, Array.replicate_succ, Array.replicate_zero, List.push_toArray, List.append_toArray, List.nil_append, List.cons_append]
    gi_wp2
    go_ret
    exact ⟨rfl, rfl⟩
  have b1 : Below w.heap.size w (w.alloc (.cells #[.slice A zs.length c] 22)) := (Below.refl _ _).alloc (Nat.le_refl _) _
  have hI1 : IL (w.alloc (.cells #[.slice A zs.length c] 22)) (w.alloc (.cells #[.slice A zs.length c] 22)).heap.size (.slice A zs.length c) zs := (HI.out.below b1).up (by simp)
  have cAS : CallsIn Fence.wide 4 Try.prog 78 #[.slice none 0 0, .func (.func 75) #[] #[.pointer (some ⟨w.heap.size, 0, none⟩)]] (w.alloc (.cells #[.slice A zs.length c] 22)) fun e w' => ∃ v, e = .returned v ∧ w'.ownsRow w.heap.size 2 1 v zs.length (ints zs) ∧ Below w.heap.size w w' :=
    (appendSeq_any 4 w.heap.size (.slice A zs.length c) zs _ (by omega) (by simp) (by simp) hI1).mono (by
      rintro e w' ⟨v, rfl, h1, h2⟩
      exact ⟨v, rfl, u_ownsRow_base h1 (by simp), b1.trans (h2.mono (by simp))⟩)
  have cC : CallsIn Fence.wide 5 Try.prog 73 #[.func (.func 75) #[] #[.pointer (some ⟨w.heap.size, 0, none⟩)]] (w.alloc (.cells #[.slice A zs.length c] 22)) fun e w' => ∃ v, e = .returned v ∧ w'.ownsRow w.heap.size 2 1 v zs.length (ints zs) ∧ Below w.heap.size w w' := by
    have HAS := Lib.hid cAS
    have hfA : Fence.wide.fn 78 := trivial
    clear cAS cV hI1
    refine callsIn_of_wp Try.func73 rfl trivial ?_ rfl
    simp only [Try.ntmps73, List.size_toArray, List.length_cons, List.length_nil, Nat.reduceAdd, Nat.reduceSub, Array.replicate_succ, Array.replicate_zero, List.push_toArray, List.append_toArray, List.nil_append, List.cons_append]
    gi_wp2_with (gi_at_call 78; refine HAS.out.mono ?_; rintro e w' ⟨v, rfl, h1, h2⟩)
    go_ret
    exact ⟨v, rfl, h1, h2⟩
  have cS : CallsIn Fence.wide 6 Try.prog 66 #[.func (.func 75) #[] #[.pointer (some ⟨w.heap.size, 0, none⟩)]] (w.alloc (.cells #[.slice A zs.length c] 22)) fun e w' => ∃ v, e = .returned v ∧ w'.ownsRow w.heap.size 2 1 v zs.length (ints (zs.mergeSort fun x y => decide (x ≤ y))) ∧ Below w.heap.size w w' := by
    have HCC := Lib.hid cC
    have hfC : Fence.wide.fn 73 := trivial
    have hfS : Fence.wide.fn 74 := trivial
    have HLT : zs.length < 4611686018427387904 := by omega
    clear cAS cV cC hI1
    refine callsIn_of_wp Try.func66 rfl trivial ?_ rfl
    simp only [Try.ntmps66, List.size_toArray, List.length_cons, List.length_nil, Nat.reduceAdd, Nat.reduceSub, Array.replicate_succ, Array.replicate_zero, List.push_toArray, List.append_toArray, List.nil_append, List.cons_append]
    gi_wp2_with (gi_at_call 73; refine HCC.out.mono ?_; rintro e w1 ⟨v, rfl, h1, h2⟩)
    rcases h1.2 with ⟨rfl, hz⟩ | ⟨g, cap, cur, rfl, hbase, hgb, r1, r2, r3, r4⟩
    · have hss : zs = [] := List.eq_nil_of_length_eq_zero hz
      subst hss
      have HS0 := Lib.hid (fun W => (callsIn_wide (n := 5)).2 (AnyM.slices_Sort_int_none Try.sortM none 0 W))
      gi_wp2_with (gi_at_call 74; refine (HS0.out _).mono ?_; rintro e w' ⟨rfl, rfl⟩)
      go_ret
      exact ⟨.slice none 0 0, rfl, by simpa using h1, h2⟩
    · have hH : Holds encZ w1 g 0 zs.toArray := holds_of_block_i hgb (by simpa [ints, encZ] using r4)
      have HSS := Lib.hid ((callsIn_wide (n := 5)).2 (AnyM.slices_Sort_int Try.sortM g 0 cap zs w1 hH (Array.getElem?_eq_some_iff.1 hgb).1 HLT))
      gi_wp2_with (gi_at_call 74; refine HSS.out.mono ?_; rintro e w' ⟨rfl, nn, os, rfl⟩)
      go_ret
      exact ⟨_, rfl, ownsRow_sorted_i (by simp) hbase hgb r1 r2 r3, h2.grown (grownBy_sorted_i _) h2.size (fun j hj => by cases hj; exact hbase)⟩
  have HV := Lib.hid cV
  have hfV : Fence.wide.fn 67 := trivial
  have hfD : Fence.wide.fn 66 := trivial
  have HS := Lib.hid cS
  clear cV cS cC cAS hI1 b1
  refine callsIn_of_wp Try.func52 rfl trivial ?_ rfl
  simp only [Try.ntmps52, List.size_toArray, List.length_cons, List.length_nil, Nat.reduceAdd, Nat.reduceSub, Array.replicate_succ, Array.replicate_zero, List.push_toArray, List.append_toArray, List.nil_append, List.cons_append]
  gi_wp2_with (first
    | (gi_at_call 67; refine (HV.out _ _ _ _).mono ?_; rintro e w' ⟨rfl, rfl⟩)
    | (gi_at_call 66; refine HS.out.mono ?_; rintro e w' ⟨v, rfl, h1, h2⟩))
  go_ret
  refine ⟨_, rfl, ?_, h2⟩
  rw [List.length_mergeSort]
  exact h1
end Go.Proofs.Ytljmiodkmddllaa
