/- Walks: the program's chunks: a range over slices.Chunk. -/
import Derived.RangeFuncBox
import Derived.RangeFuncLeaves
import Derived.RangeFuncNested
import Derived.Shelf.Abstract
import Derived.OwnWalkIn
import Derived.TacticsInMore
import Derived.LoopNIn
import Derived.LoopIn
import Derived.Sort.QuietIn
import Derived.Test.YtanoohfhifhhaaaDoorEm
set_option linter.unusedVariables false
set_option linter.unusedSimpArgs false
namespace Go.Proofs.YtanoohfhifhhaaaDoor
open Go.RowKit Go.Shelf

attribute [local go_sem] Oper.semAt_some

/-- the part of a slice that a chunk is -/
def ckV (A : Option Addr) (n s k : Nat) : Value := .slice (Option.map (fun x => x.add (k * s * 2)) A) (min s (n - k * s)) (min s (n - k * s))

/-- the two blocks lie as they lay -/
def Kep (a b : Nat) (W W' : World) : Prop := W'.heap[a]? = W.heap[a]? ∧ W'.heap[b]? = W.heap[b]? ∧ W.heap.size ≤ W'.heap.size
theorem Kep.refl (a b : Nat) (W : World) : Kep a b W W := ⟨rfl, rfl, Nat.le_refl _⟩
theorem Kep.trans {a b : Nat} {A B C : World} (h : Kep a b A B) (k : Kep a b B C) : Kep a b A C := ⟨k.1.trans h.1, k.2.1.trans h.2.1, Nat.le_trans h.2.2 k.2.2⟩
theorem Kep.cellA {a b o : Nat} {A B : World} (h : Kep a b A B) : B.cell? ⟨a, o, none⟩ = A.cell? ⟨a, o, none⟩ := by
  simp only [World.cell?, h.1]
theorem Kep.cellB {a b o : Nat} {A B : World} (h : Kep a b A B) : B.cell? ⟨b, o, none⟩ = A.cell? ⟨b, o, none⟩ := by
  simp only [World.cell?, h.2.1]
theorem Kep.drewN {a b q : Nat} {A B : World} (h : Kep a b (A.drewN q) B) : Kep a b A B := h
theorem grew_drewN_en (w : World) (n : Nat) (row : Option Nat) : w.grownBy (w.drewN n) row := ⟨rfl, rfl, rfl, Nat.le_refl _, fun _ _ _ => rfl⟩
theorem below_drewN_step_en {B q : Nat} {w W : World} (h : Below B (w.drewN q) W) : Below B w W := ⟨h.os, h.tape, h.output, h.size, h.block⟩
set_option maxRecDepth 100000 in
set_option maxHeartbeats 4000000 in
theorem chunk1_in (n : Nat) (hn : 1 ≤ n) (l Bn Bm : Nat) (A : Option Addr) (c N s m : Nat) (hs1 : 1 ≤ s) (hs2 : s ≤ 120) (hN : N ≤ 1048576) (hc1 : N ≤ c) (hc2 : c ≤ maxLen) (hm : ∀ k, k * s < N ↔ k < m) (J Jx : List Nat → World → Prop)
    (hY : ∀ pre (x : Nat) W, J pre W → pre.length < m → YieldAt Fence.wide (n - 1) Tryd.prog l #[ckV A N s x] W fun e W' =>
      (e = .returned (.bool true) ∧ J (pre ++ [x]) W' ∧ Kep Bn Bm W W') ∨ (e = .returned (.bool false) ∧ Jx (pre ++ [x]) W'))
    (W : World) (hBn : W.cell? ⟨Bn, 0, none⟩ = some (.slice A N c)) (hBm : W.cell? ⟨Bm, 0, none⟩ = some (.int .i64 (s : Int))) (hJ : AbidesFrom W.heap.size J) (h0 : J [] W) :
    CallsIn Fence.wide n Tryd.prog 73 #[.func (.yield l) #[] #[], .pointer (some ⟨Bn, 0, none⟩), .pointer (some ⟨Bm, 0, none⟩)] W fun e W' => (∃ v, e = .returned v) ∧
      ((∃ ys, ys = List.range m ∧ J ys W') ∨ (∃ pre, pre <+: List.range m ∧ Jx pre W')) := by
  unfold maxLen at hc2
  have HJ := Lib.hid hJ
  have HY := Lib.hid hY
  have HM := Lib.hid hm
  clear hJ hY hm
  refine callsIn_of_wp Tryd.func73 rfl trivial ?_ rfl
  simp only [Tryd.ntmps73, List.size_toArray, List.length_cons, List.length_nil, Nat.reduceAdd, Nat.reduceSub, Array.replicate_succ, Array.replicate_zero, List.push_toArray, List.append_toArray, List.nil_append, List.cons_append]
  gi_wp2
  gi_loopw [4] (fun i wr => ∃ k : Nat, k ≤ m ∧ i = .int .i64 ((k * s : Nat) : Int) ∧ Hid (J (List.range k) wr) ∧ W.heap.size ≤ wr.heap.size ∧ Hid (Kep Bn Bm W wr))
    (fun i _ => N + 120 - (intOf i).toNat)
  case atStart => exact ⟨0, Nat.zero_le _, by simp, Lib.hid h0, Nat.le_refl _, Lib.hid (Kep.refl _ _ _)⟩
  case round =>
    obtain ⟨k, hk, rfl, HJk, hsz, HB⟩ := hrel
    have x0 : wr.cell? ⟨Bn, 0, none⟩ = some (.slice A N c) := HB.out.cellA.trans hBn
    have x1 : wr.cell? ⟨Bm, 0, none⟩ = some (.int .i64 (s : Int)) := HB.out.cellB.trans hBm
    have hlt := HM.out k
    have HSM := Lib.hid (show (k + 1) * s = k * s + s from Nat.succ_mul k s)
    by_cases hlt2 : k < m
    · have hi' := hlt.2 hlt2
      have HT := Lib.hid (show List.range (k + 1) = List.range k ++ [k] from List.range_succ)
      have HLen : Hid ((List.range k).length < m) := Lib.hid (by rw [List.length_range]; exact hlt2)
      have HPre : Hid (List.range (k + 1) <+: List.range m) := Lib.hid (by
        obtain ⟨d, rfl⟩ : ∃ d, m = k + 1 + d := ⟨m - (k + 1), by omega⟩
        exact ⟨(List.range d).map (fun x => k + 1 + x), List.range_add.symm⟩)
      have hv : ckV A N s k = .slice (Option.map (fun x => x.add (k * s * 2)) A) (min s (N - k * s)) (min s (N - k * s)) := rfl
      have HV := Lib.hid hv
      clear hv hlt
      obtain ⟨i, hI⟩ : ∃ i, k * s = i := ⟨_, rfl⟩
      rw [hI] at hi' HV HSM ⊢
      have hiI : (i : Int) < (N : Int) := by omega
      have hci : ¬ c = i := by omega
      gi_wp2
      gi_quiet (fail)
      have HD := Lib.hid (show (((i : Int) + min (s : Int) ((N - i : Nat) : Int)).toNat - i) = min s (N - i) by omega)
      obtain ⟨fn, tmps, assign, body, hy, hR⟩ := HY.out (List.range k) k (wr.drewN nq) (HJ.out _ _ _ none HJk.out (grew_drewN_en wr nq _) (fun r e => by cases e)) HLen.out
      rw [HV.out, ← HD.out] at hy
      gi_wp2
      refine hR.mono ?_
      rintro e W3 (⟨rfl, hJ3, hk3⟩ | ⟨rfl, hJx3⟩)
      · have HK3 := Lib.hid (HB.out.trans hk3.drewN)
        have hs3 := hk3.2.2
        have hs3' : wr.heap.size ≤ W3.heap.size := hs3
        have x1' : W3.cell? ⟨Bm, 0, none⟩ = some (.int .i64 (s : Int)) := HK3.out.cellB.trans hBm
        have HJ3 := Lib.hid (show J (List.range (k + 1)) W3 by rw [HT.out]; exact hJ3)
        have e9 : IntKind.i64.wrap ((i : Int) + (s : Int)) = ((i + s : Nat) : Int) := by rw [IntWalk.i64_in _ (by omega)]; omega
        clear hJ3 hk3 hs3 x0 x1
        gi_wp2
        go_roundw
        case rel => exact ⟨k + 1, by omega, by rw [HSM.out]; go_num, HJ3.out, by omega, Lib.hid HK3.out⟩
        case measure => simp [intOf]; omega
      · have HJX := Lib.hid (show Jx (List.range (k + 1)) W3 by rw [HT.out]; exact hJx3)
        gi_wp2
        refine bodyPost_ret (results_none rfl _ _ _) rfl ?_
        exact ⟨⟨_, rfl⟩, .inr ⟨_, HPre.out, HJX.out⟩⟩
    · obtain rfl : k = m := by omega
      have hge : ¬ ((k * s : Nat) : Int) < (N : Int) := by omega
      gi_wp2
      go_end0
      first | exact ⟨⟨_, rfl⟩, .inl ⟨_, rfl, HJk.out⟩⟩ | exact ⟨⟨_, rfl⟩, .inl HJk.out⟩

theorem chunk_any (A : Option Addr) (n c s : Nat) (w : World) (hs : 1 ≤ s) :
    Calls Tryd.prog 47 #[.slice A n c, .int .i64 (s : Int)] w fun e w' => e = .returned (.func (.func 73) #[] #[.pointer (some ⟨w.heap.size, 0, none⟩), .pointer (some ⟨w.heap.size + 1, 0, none⟩)]) ∧ w' = (w.alloc (.cells #[.slice A n c] 24)).alloc (.cells #[.int .i64 (s : Int)] 3) := by
  have hq : ¬ (s : Int) < 1 := by omega
  go_enter Tryd.func47, Tryd.ntmps47
  go_wp2_with fail
  go_ret
  exact ⟨rfl, rfl⟩
theorem PL.ck {w : World} {B : Nat} {A : Option Addr} {c : Nat} {xs : List (Int × Int)} (h : PL w B (.slice A xs.length c) xs) (s k : Nat) : PL w B (ckV A xs.length s k) (chk xs s (k * s)) := by
  unfold ckV
  by_cases hi : k * s < xs.length
  · exact h.part s (k * s) _ _ hi rfl _ (fun b off hA => by rw [hA]; simp [Addr.add])
  · have e1 : chk xs s (k * s) = [] := List.eq_nil_of_length_eq_zero (by rw [chk_len]; omega)
    rw [e1, show min s (xs.length - k * s) = 0 by omega]
    exact ⟨fun j => ⟨by simpa using rng_zero, by simpa using rng_zero⟩, Nat.zero_le _, _, _, rfl, .inl rfl⟩
theorem chkT_map (xs : List (Int × Int)) (s k : Nat) : chkT xs s k = (List.range k).map fun i => bkOf (chk xs s (i * s)) := rfl

set_option maxRecDepth 100000 in
set_option maxHeartbeats 4000000 in
theorem implChunks_good (A : Option Addr) (c s : Nat) (xs : List (Int × Int)) (w : World) (hP : PL w w.heap.size (.slice A xs.length c) xs) (hc1 : xs.length ≤ c) (hc2 : c ≤ maxLen) (hT : Tab w) (hok : ptsOkB xs = true) (hs1 : 1 ≤ s) (hs2 : s ≤ 120) :
    Calls Tryd.prog 15 #[.slice A xs.length c, .int .i64 (s : Int)] w (BOutF w.heap.size (chkT xs s (nCh xs.length s)) true w) := by
  refine (callsIn_wide (n := 4)).1 ?_
  have HP := Lib.hid hP
  have HTab := Lib.hid hT
  have hl := ptsOk_len hok
  have hOk := Lib.hid (fun W h => implPointsOk_any (.slice A xs.length c) xs W h)
  rw [hok] at hOk
  have hBk := Lib.hid (fun v p W h hT => implBlockOf_any v p W h hT)
  have hCh := Lib.hid (fun W => chunk_any A xs.length c s W hs1)
  unfold BoolPost at hOk
  unfold BlkPost at hBk
  obtain ⟨i0, hi, hz0, hz1, hz2⟩ := info_parts info_bk
  have hq1 : decide ((s : Int) < 1) = false := decide_eq_false (by omega)
  have hq2 : decide ((120 : Int) < (s : Int)) = false := decide_eq_false (by omega)
  have hnl := nCh_le (n := xs.length) hs1
  have HLT := Lib.hid (fun k => @nCh_lt xs.length s k hs1)
  obtain ⟨m, hm⟩ : ∃ m, nCh xs.length s = m := ⟨_, rfl⟩
  rw [hm] at HLT hnl ⊢
  clear hP hT hok hm
  refine callsIn_of_wp_marks Tryd.func15 rfl trivial ?_ rfl
  simp only [Tryd.ntmps15, List.size_toArray, List.length_cons, List.length_nil, Nat.reduceAdd, Nat.reduceSub, Array.replicate_succ, Array.replicate_zero, List.push_toArray, List.append_toArray, List.nil_append, List.cons_append]
  gi_wp2
  refine ⟨trivial, ?_⟩
  refine (callsIn_wide.2 (hOk.out _ HP.out)).mono ?_
  rintro e w1 ⟨rfl, hb1⟩
  have B1 := Lib.hid hb1
  clear hb1
  gi_wp2
  refine ⟨trivial, ?_⟩
  refine (callsIn_wide.2 (hCh.out _)).mono ?_
  rintro e W0 ⟨rfl, hW0⟩
  obtain ⟨b0, hb0⟩ : ∃ b0, w1.heap.size = b0 := ⟨_, rfl⟩
  simp only [World.size_alloc, hb0]
  have hbw : w.heap.size ≤ b0 := by rw [← hb0]; exact B1.out.size
  have hsz : W0.heap.size = b0 + 3 := by rw [hW0]; simp [hb0]
  have X0 : Boxed W0 b0 27 (.slice none 0 0) := by
    rw [hW0, ← hb0]; exact ((Boxed.new w1 27 (.slice none 0 0)).alloc _).alloc _
  have X1 : Boxed W0 (b0 + 1) 24 (.slice A xs.length c) := by
    have h := Boxed.new (w1.alloc (.cells #[.slice none 0 0] 27)) 24 (.slice A xs.length c)
    rw [World.size_alloc, hb0] at h
    rw [hW0]; exact h.alloc _
  have X2 : Boxed W0 (b0 + 2) 3 (.int .i64 (s : Int)) := by
    have h := Boxed.new ((w1.alloc (.cells #[.slice none 0 0] 27)).alloc (.cells #[.slice A xs.length c] 24)) 3 (.int .i64 (s : Int))
    rw [World.size_alloc, World.size_alloc, hb0] at h
    rw [hW0]; exact h
  have B0 : Below w.heap.size w W0 := by rw [hW0]; exact ((B1.out.alloc B1.out.size _).alloc (by simp; omega) _).alloc (by simp; omega) _
  clear hW0 hb0
  gi_wp2
  refine wpIn_rangeFunc_ownG rfl (by omega) (gf := 73) (lb := #[.pointer (some ⟨b0 + 1, 0, none⟩), .pointer (some ⟨b0 + 1 + 1, 0, none⟩)]) rfl trivial (enters_of Tryd.func73 (by kernel_rfl) rfl)
    (α := Nat) (encs := fun k => #[ckV A xs.length s k]) (Kp := Kep (b0 + 1) (b0 + 1 + 1)) (S := fun ys => ys = List.range m) (Sp := fun pre => pre <+: List.range m) (N := m) (w0 := W0)
    (fun l J Jx W hW hJ _ hY h0 => chunk1_in 3 (by omega) l (b0 + 1) (b0 + 1 + 1) A c xs.length s m hs1 hs2 (by omega) hc1 hc2 HLT.out J Jx hY W ((hW.cell (p := ⟨b0 + 1, 0, none⟩) X1.lt).trans X1.cell) ((hW.cell (p := ⟨b0 + 1 + 1, 0, none⟩) X2.lt).trans X2.cell) hJ h0)
    (fun h k => h.trans k) (fun W l o o' h1 h2 h3 h4 => ⟨(grownBy_putObj' W l o').block _ (by have := (Array.getElem?_eq_some_iff.1 h2).1; omega) (fun e => by injection e with e; omega), (grownBy_putObj' W l o').block _ (by have := (Array.getElem?_eq_some_iff.1 h2).1; omega) (fun e => by injection e with e; omega), (grownBy_putObj' W l o').size⟩) (Below.refl _ _) (fun _ => rfl)
    (fun pre W => (((∃ v, Boxed W b0 27 v ∧ W.ownsRow w.heap.size 36 2 v pre.length (bks (pre.map fun i => bkOf (chk xs s (i * s)))) ∧ True) ∧ Boxed W (b0 + 1) 24 (.slice A xs.length c)) ∧ Boxed W (b0 + 1 + 1) 3 (.int .i64 (s : Int))) ∧ Below w.heap.size w W)
    (fun _ _ _ => False)
    (OwnFrom.and (OwnFrom.and (OwnFrom.and (Own.from (holdsRow_own w.heap.size b0 27 36 2 (fun pre : List Nat => pre.length) (fun pre : List Nat => bks (pre.map fun i => bkOf (chk xs s (i * s)))) (fun _ _ => True)) _) (Own.from (boxed_own _ _ _) _)) (Own.from (boxed_own _ _ _) _)) (ownFrom_below (Nat.le_refl _) (by omega)))
    (fun _ _ _ _ _ hs _ _ => hs)
    ⟨⟨⟨⟨_, X0, World.ownsRow_nil _ _ _ _, trivial⟩, X1⟩, X2⟩, B0⟩
    (fun x : Nat => { tmps := #[.slice A xs.length c, .int .i64 (s : Int), undef, undef, .slice none 0 0, .bool false, .pointer (some ⟨b0, 0, none⟩), ckV A xs.length s x, undef, undef, .slice A xs.length c, .bool true, .bool false, .bool false, .int .i64 (s : Int), .bool false, .bool false, .bool false, .int .i64 (s : Int), .bool false, .bool false, .slice A xs.length c, .int .i64 (s : Int), .func (.func 73) #[] #[.pointer (some ⟨b0 + 1, 0, none⟩), .pointer (some ⟨b0 + 1 + 1, 0, none⟩)], ckV A xs.length s x, undef, undef, undef, undef, undef, undef, undef, undef, undef, undef], defers := [] }) ?assign ?body ?done ?stop
  case assign =>
    intro l x W K hK
    gi_wp2
    exact hK
  case body =>
    rintro l pre x W ⟨⟨⟨⟨v, hv, hrow, -⟩, hx1⟩, hx2⟩, hB⟩ hlt
    have hpl : pre.length ≤ 1000 := by omega
    have hPc := Lib.hid ((HP.out.ck s x).below hB |>.up hB.size)
    have hTb := Lib.hid (HTab.out.below hB)
    gi_wp2
    refine ⟨trivial, ?_⟩
    refine (CallsIn.inRound l (callsIn_wide.2 (hBk.out _ _ W hPc.out hTb.out))).mono ?_
    rintro e w2 ⟨rfl, hb2⟩
    have hg2 : W.grownBy w2 none := ⟨hb2.os, hb2.tape, hb2.output, hb2.size, fun i hi _ => hb2.block i hi⟩
    have hv2 := hv.kept hg2 (by simp)
    have hr2 := u_own_below hrow hb2
    have hy1 := hx1.kept hg2 (by simp)
    have hy2 := hx2.kept hg2 (by simp)
    have hs2' := hb2.size
    have hB2 := hB.trans (hb2.mono hB.size)
    have hB2s := hB2.size
    have hko := KeepsOthers.of_grownBy hg2 (fun j o ej hj => by cases ej)
    have hbn : bkOf (chk xs s (x * s)) = (bkN (chk xs s (x * s)), bkD (chk xs s (x * s))) := rfl
    have HBN := Lib.hid hbn
    clear hbn
    generalize bkN (chk xs s (x * s)) = N1 at *
    generalize bkD (chk xs s (x * s)) = D1 at *
    generalize bkB (chk xs s (x * s)) = F1
    have hv3 := hv2.alloc (.cells #[.int .i64 N1, .string D1] 36)
    have hr3 := hr2.alloc (.cells #[.int .i64 N1, .string D1] 36)
    have hy13 := hy1.alloc (.cells #[.int .i64 N1, .string D1] 36)
    have hy23 := hy2.alloc (.cells #[.int .i64 N1, .string D1] 36)
    have cO := hv3.cell
    have fO := hv3.frozen
    have hlb : b0 < w2.heap.size := hv2.lt
    clear hPc hTb
    gi_wp2_with (gi_at_builtin; refine wpListIn_append_own _ rfl _ _ 27 rfl w.heap.size 36 i0 (.agg #[.int .i64 0, .string emB]) 2 24 Tryd.underlying27 hi hz0 hz1 hz2 rfl (by decide) _ _ _ rfl (hr3.alloc _) ⟨w2.heap.size + 1, 0, none⟩ 1 1 [.int .i64 N1, .string D1] rfl rfl (two_cellsB (by go_simp) (by go_simp)) (by intro u hu; simp at hu; rcases hu with rfl | rfl <;> rfl) (by unfold maxLen; omega) (by omega) (by simp; omega) ?_; intro v' w4 hown' hgrow _; obtain ⟨g', cap', rfl⟩ := ownsRow_succ hown'; obtain ⟨hv4, hv5, hr5, hk5, hb5⟩ := hv3.appended (by decide) hr3 (by simp; omega) (by omega) hown' hgrow; have hc4 := hv4.cell; have hf4 := hv4.frozen)
    have hz1 : Boxed w4 (b0 + 1) 24 (.slice A xs.length c) := (hy13.alloc _).kept hgrow (hy13.not_row (by decide) hr3)
    have hz2 : Boxed w4 (b0 + 1 + 1) 3 (.int .i64 (s : Int)) := (hy23.alloc _).kept hgrow (hy23.not_row (by decide) hr3)
    have hz1' := hz1.other (B' := b0) (by omega) (.slice (some ⟨g', 0, none⟩) (pre.length + 1) cap')
    have hz2' := hz2.other (B' := b0) (by omega) (.slice (some ⟨g', 0, none⟩) (pre.length + 1) cap')
    exact ⟨((hko.trans (KeepsOthers.alloc _ _)).trans hk5).from _, ⟨hz1'.trans hx1.symm, hz2'.trans hx2.symm, by have h9 := hb5.size; simp at h9 ⊢; omega⟩, ⟨⟨⟨_, hv5, by rw [List.map_append, bks_append, List.length_append, List.map_cons, List.map_nil, HBN.out]; exact hr5, trivial⟩, hz1'⟩, hz2'⟩, (hB2.alloc hB2s _).trans hb5⟩
  case done =>
    rintro D ys W hD rfl ⟨⟨⟨⟨v, hv, hrow, -⟩, hx1⟩, hx2⟩, hB⟩ hK
    have hc := hv.cell
    gi_wp2
    refine ⟨by simp, .inl ⟨_, _, rfl, run_takeDeferred hK, ?_⟩⟩
    rw [← chkT_map] at hrow
    refine ⟨_, results_tmp2 rfl _ _ _, v, rfl, ?_, hB.trans (belowK_b (w := w) (Nat.le_refl _) W D _ _ (by omega) hK rfl rfl)⟩
    rw [chkT_len]
    rw [List.length_range] at hrow
    exact ownsRow_putObj hrow _ hK rfl
  case stop =>
    rintro D c pre W _ _ h _
    exact h.elim

set_option maxRecDepth 100000 in
set_option maxHeartbeats 4000000 in
theorem implChunks_bad (v : Value) (xs : List (Int × Int)) (z : Int) (w : World) (h : PL w w.heap.size v xs) (hb : chsB xs z = false) :
    Calls Tryd.prog 15 #[v, .int .i64 z] w (BOutF w.heap.size [] false w) := by
  have HP := Lib.hid h
  have hOk := Lib.hid (fun W h => implPointsOk_any v xs W h)
  unfold BoolPost at hOk
  obtain ⟨_, _, A, c, rfl, _⟩ := h
  cases hp : ptsOkB xs with
  | false =>
    rw [hp] at hOk
    clear hp hb
    go_enter Tryd.func15, Tryd.ntmps15
    go_wp2_with fail
    refine (hOk.out _ HP.out).mono ?_
    rintro e w1 ⟨rfl, hb1⟩
    go_wp2_with fail
    go_ret2
    exact ⟨_, rfl, World.ownsRow_nil _ _ _ _, hb1⟩
  | true =>
    rw [hp] at hOk
    unfold chsB at hb
    rw [hp, Bool.true_and] at hb
    clear hp
    by_cases h1 : z < 1
    · have d1 : decide (z < 1) = true := decide_eq_true h1
      clear hb
      go_enter Tryd.func15, Tryd.ntmps15
      go_wp2_with fail
      refine (hOk.out _ HP.out).mono ?_
      rintro e w1 ⟨rfl, hb1⟩
      go_wp2_with fail
      go_ret2
      exact ⟨_, rfl, World.ownsRow_nil _ _ _ _, hb1⟩
    · have h2 : 120 < z := by
        by_cases h3 : 120 < z
        · exact h3
        · unfold vIn at hb; simp at hb; omega
      have d1 : decide (z < 1) = false := decide_eq_false h1
      have d2 : decide (120 < z) = true := decide_eq_true h2
      clear hb
      go_enter Tryd.func15, Tryd.ntmps15
      go_wp2_with fail
      refine (hOk.out _ HP.out).mono ?_
      rintro e w1 ⟨rfl, hb1⟩
      go_wp2_with fail
      go_ret2
      exact ⟨_, rfl, World.ownsRow_nil _ _ _ _, hb1⟩

theorem implChunks_any (v : Value) (xs : List (Int × Int)) (z : Int) (w : World) (h : PL w w.heap.size v xs) (hcap : CapOk v) (hT : Tab w) :
    Calls Tryd.prog 15 #[v, .int .i64 z] w (BOutF w.heap.size (chsM xs z) (chsB xs z) w) := by
  cases hb : chsB xs z with
  | false =>
    have e : chsM xs z = [] := by unfold chsM; rw [hb]; rfl
    rw [e]
    exact implChunks_bad v xs z w h hb
  | true =>
    have e : chsM xs z = chkT xs z.toNat (nCh xs.length z.toNat) := by unfold chsM; rw [hb]; rfl
    rw [e]
    unfold chsB at hb
    rw [Bool.and_eq_true] at hb
    have hz : 1 ≤ z ∧ z ≤ 120 := by have := hb.2; unfold vIn at this; simpa using this
    obtain ⟨s, rfl⟩ : ∃ s : Nat, z = (s : Int) := ⟨z.toNat, by omega⟩
    obtain ⟨_, _, A, c, rfl, _⟩ := id h
    obtain ⟨hc1, hc2⟩ := hcap.at_
    exact implChunks_good A c s xs w h hc1 hc2 hT hb.1 (by omega) (by omega)
end Go.Proofs.YtanoohfhifhhaaaDoor
