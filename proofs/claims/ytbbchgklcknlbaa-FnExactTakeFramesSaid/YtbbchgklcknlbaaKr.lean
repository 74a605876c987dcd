/- Walks: the program's TakeFrames. -/
import Derived.Test.YtbbchgklcknlbaaZz
import Derived.Test.YtbbchgklcknlbaaKq
import Derived.Test.YtbbchgklcknlbaaKp
set_option linter.unusedVariables false
set_option linter.unusedSimpArgs false
namespace Go.Proofs.Ytbbchgklcknlbaa
open Go.RowKit Go.Shelf

attribute [local go_sem] Oper.semAt_some

set_option maxRecDepth 100000 in
theorem clone_any (s : ByteArray) (w : World) (hs : s.size ≤ 1048576) :
    Calls Try.prog 54 #[.string s] w fun e w' => e = .returned (.string s) ∧ Below w.heap.size w w' := by
  have H := Lib.hid (fun W => Try.stringslite_Clone s W (by omega))
  go_enter Try.func54, Try.ntmps54
  go_wp2_with fail
  refine (H.out _).mono ?_
  rintro e w2 ⟨rfl, hb2⟩
  go_wp2_with fail
  go_ret
  exact ⟨rfl, hb2⟩
theorem fOk_stops (s : ByteArray) : ∃ N, FrTo s N ∧ fOk s N = false := by
  rcases Classical.em (∃ N, FrTo s N ∧ fOk s N = false) with h | h
  · exact h
  · exfalso
    have hall : ∀ k, FrTo s k := by
      intro k
      induction k with
      | zero => intro j hj; omega
      | succ k ih =>
        cases hk : fOk s k with
        | true => exact ih.step hk
        | false => exact absurd ⟨k, ih, hk⟩ h
    have := Fr_size (s.size + 1) (hall _)
    omega
theorem kr_len {s : ByteArray} {N : Nat} (h : FrTo s N) : 8 * N ≤ s.size := by
  have := Fr_size N h
  omega
theorem fD_size (s : ByteArray) (x : Nat) : (fD s x).size ≤ s.size := by
  unfold fD rdD tl
  rw [ByteArray.size_extract, ByteArray.size_extract]
  generalize hd4 _ = m
  omega
def strNs (s : ByteArray) (N : Nat) (pre : List {x : Nat // x < N}) : List ByteArray := pre.map (fun x => fD s x.1)
theorem strNs_snoc (s : ByteArray) (N : Nat) (pre : List {x : Nat // x < N}) (x : {x : Nat // x < N}) : strNs s N (pre ++ [x]) = strNs s N pre ++ [fD s x.1] := by simp [strNs]
theorem strNs_all (s : ByteArray) (N : Nat) (ys : List {x : Nat // x < N}) (h : ys.map Subtype.val = List.range N) : strNs s N ys = fL s N := by
  rw [fL_range, ← h, List.map_map]; rfl
/-- what stands in a round: the two variables' boxes, the argument's, the row of texts -/
structure TkJ (s : ByteArray) (N : Nat) (w : World) (pre : List {x : Nat // x < N}) (W : World) (v : Value) : Prop where
  o : Boxed W w.heap.size 22 v
  l : Boxed W (w.heap.size + 1) 2 (.int .i64 (lastA s (pre.map Subtype.val) : Int))
  q : Boxed W (w.heap.size + 2) 9 (.string s)
  r : W.ownsRow (w.heap.size + 3) 9 1 v pre.length (strv (strNs s N pre))
  b : Below w.heap.size w W
  z : w.heap.size + 3 ≤ W.heap.size
theorem TkJ.below {s : ByteArray} {N : Nat} {w : World} {pre : List {x : Nat // x < N}} {W W' : World} {v : Value} (h : TkJ s N w pre W v) (hb : Below W.heap.size W W') : TkJ s N w pre W' v :=
  have hg := kq_grew hb none
  ⟨h.o.kept hg (by simp), h.l.kept hg (by simp), h.q.kept hg (by simp), u_own_below h.r hb, h.b.trans (hb.mono (by have := h.z; omega)), Nat.le_trans h.z hb.size⟩
theorem TkJ.mach {s : ByteArray} {N : Nat} {w : World} {pre : List {x : Nat // x < N}} {X Y : World} {v : Value} {row : Option Nat} (h : TkJ s N w pre X v) (hg : X.grownBy Y row) (hr : ∀ r, row = some r → w.heap.size + 3 ≤ r ∧ ∃ o : Obj, X.heap[r]? = some o ∧ o.isCells = false) : TkJ s N w pre Y v := by
  refine ⟨h.o.kept hg (fun e => by have := (hr _ e.symm).1; omega), h.l.kept hg (fun e => by have := (hr _ e.symm).1; omega), h.q.kept hg (fun e => by have := (hr _ e.symm).1; omega), ?_, h.b.grown hg h.b.size (fun r e => by have := (hr r e).1; omega), Nat.le_trans h.z hg.size⟩
  refine ⟨h.r.1, ?_⟩
  rcases h.r.2 with h0 | ⟨g, cap, cur, rfl, hb, hh, hq⟩
  · exact .inl h0
  · refine .inr ⟨g, cap, cur, rfl, hb, (hg.block g (Array.getElem?_eq_some_iff.1 hh).1 (fun e => ?_)).trans hh, hq⟩
    obtain ⟨_, o, ho, hc⟩ := hr g e.symm
    rw [hh] at ho; cases ho; cases hc
/-- the world behind an append of one text to the row -/
theorem TkJ.app {s : ByteArray} {N : Nat} {w : World} {pre : List {x : Nat // x < N}} {x : {x : Nat // x < N}} {W w1 : World} {v v' : Value} {tmp : Obj} {e : Int} (h : TkJ s N w pre W v)
    (hown' : w1.ownsRow (w.heap.size + 3) 9 1 v' (pre.length + 1) (strv (strNs s N pre) ++ [.string (fD s x.1)])) (hgrow : (W.alloc tmp).grownBy w1 v.ownBlock) :
    (Boxed w1 w.heap.size 22 v ∧ Boxed (w1.setCell ⟨w.heap.size, 0, none⟩ v') (w.heap.size + 1) 2 (.int .i64 (lastA s (pre.map Subtype.val) : Int))) ∧ KeepsOthers W ((w1.setCell ⟨w.heap.size, 0, none⟩ v').setCell ⟨w.heap.size + 1, 0, none⟩ (.int .i64 (fA s (x.1 + 1) : Int))) ∧
      TkJ s N w (pre ++ [x]) ((w1.setCell ⟨w.heap.size, 0, none⟩ v').setCell ⟨w.heap.size + 1, 0, none⟩ (.int .i64 (fA s (x.1 + 1) : Int))) v' := by
  have hne : ∀ k, k < w.heap.size + 3 → some k ≠ v.ownBlock := fun k hk he => by have := (h.r.lt k he.symm).1; omega
  have hne' : ∀ k, k < w.heap.size + 3 → some k ≠ v'.ownBlock := fun k hk he => by have := (hown'.lt k he.symm).1; omega
  have o1 := (h.o.alloc tmp).kept hgrow (hne _ (by omega))
  have l1 := (h.l.alloc tmp).kept hgrow (hne _ (by omega))
  have s1 := (h.q.alloc tmp).kept hgrow (hne _ (by omega))
  have hz := h.z
  have hz1 : w.heap.size + 3 ≤ w1.heap.size := by have := hgrow.size; simp at this; omega
  have b1 : Below w.heap.size w w1 := ((h.b.alloc (by omega) tmp).grown hgrow (by simp; omega) (fun j ej => by have := (h.r.lt j ej).1; omega))
  have keep : KeepsOthers W w1 := (KeepsOthers.alloc W tmp).trans (KeepsOthers.of_grownBy hgrow fun j o ej hj => by
    rcases (h.r.alloc tmp).2 with ⟨rfl, _⟩ | ⟨g, cap, cur, rfl, _, hgb, _⟩
    · simp [Value.ownBlock] at ej
    · obtain rfl : g = j := by simpa [Value.ownBlock] using ej
      rw [hgb] at hj; cases hj; rfl)
  refine ⟨⟨o1, l1.other (by omega) _⟩, (keep.trans (KeepsOthers.setCell _ _ _)).trans (KeepsOthers.setCell _ _ _), ?_, ?_, ?_, ?_, ?_, ?_⟩
  · exact (o1.set v').other (by omega) _
  · have := (l1.other (B' := w.heap.size) (by omega) v').set (.int .i64 (fA s (x.1 + 1) : Int))
    have e2 : lastA s ((pre ++ [x]).map Subtype.val) = fA s (x.1 + 1) := by rw [List.map_append]; exact lastA_snoc s _ _
    rw [e2]
    exact this
  · exact (s1.other (by omega) _).other (by omega) _
  · rw [strNs_snoc, strv_append, List.length_append]
    exact (hown'.kept (grownBy_setCell' w1 _ _) (.inr (hne' _ (by omega)).symm)).kept (grownBy_setCell' _ _ _) (.inr (hne' _ (by omega)).symm)
  · exact (b1.setCell (p := ⟨w.heap.size, 0, none⟩) (by simp) _).setCell (p := ⟨w.heap.size + 1, 0, none⟩) (by simp) _
  · simpa [World.setCell] using hz1

theorem step_append_ownZ {P : Program} (w : World) {ops : Array Oper} {o : Oper} {a : Act} {K : Act → World → Prop} {Q : Exit → Act → World → Prop} {E : Prop} (hgd : o.guard = none) (s x : Operand) (t : TypeId)
    (ho : o.op = .call { callee := .builtin .append, args := #[s, x], argTypes := #[t, t] })
    (base : Nat) (e : TypeId) (i : TypeInfo) (z : Value) (size bytes : Nat) (ht : P.underlying t = some (.slice e)) (hi : P.info? e = some i) (hz : i.zero = some z)
    (hsize : i.size = size) (hby : i.bytes = bytes) (hzs : z.cells.size = size) (hsz : 0 < size)
    (v : Value) (n : Nat) (xs : List Value) (hs : a.eval s = v) (hown : w.ownsRow base e size v n xs)
    (ad : Addr) (m c : Nat) (news : List Value) (hx : a.eval x = .slice (some ad) m c) (hl : news.length = m * size) (hnews : ∀ j u, news[j]? = some u → w.cell? (ad.add j) = some u) (h1 : ∀ u ∈ news, u.oneCell' = true)
    (h63 : n + m ≤ maxLen) (hbytes : (n + m) * bytes ≤ 140737488355328) (hbase : base ≤ w.heap.size)
    (h : ∀ v' w', w'.ownsRow base e size v' (n + m) (xs ++ news) → w.grownBy w' v.ownBlock → (v' = .slice none 0 0 ↔ v = .slice none 0 0 ∧ m = 0) → K (a.put o.dst v') w') :
    if Region.wanted o (yielded ops a.tmps) = true then Oper.wp P o a w K Q else E := by
  have hw : Region.wanted o (yielded ops a.tmps) = true := by simp [Region.wanted, hgd]
  rw [if_pos hw]
  exact wp_append_own w s x t ho base e i z size bytes ht hi hz hsize hby hzs hsz v n xs hs hown ad m c news hx hl hnews h1 h63 hbytes hbase h
set_option maxRecDepth 100000 in
theorem frames_any (s : ByteArray) (w : World) :
    Calls Try.prog 53 #[.string s] w fun e w' => e = .returned (.func (.func 99) #[] #[.pointer (some ⟨w.heap.size, 0, none⟩)]) ∧ w' = w.alloc (.cells #[.string s] 9) := by
  go_enter Try.func53, Try.ntmps53
  go_wp2_with fail
  go_ret
  exact ⟨rfl, rfl⟩
set_option maxRecDepth 100000 in
set_option maxHeartbeats 4000000 in
theorem implTakeFrames_any (s : ByteArray) (w : World) (hs : s.size ≤ 1048576) :
    Calls Try.prog 16 #[.string s] w (TkPost s w.heap.size w) := by
  obtain ⟨N, hF, hNo⟩ := fOk_stops s
  have hN8 := kr_len hF
  obtain ⟨i0, hii, hz0, hz1, hz2⟩ := info_parts info_strK
  have HCL := Lib.hid (fun x W => clone_any (fD s x) W (Nat.le_trans (fD_size s x) hs))
  refine (callsIn_wide (n := 4)).1 ?_
  refine callsIn_of_wp_marks Try.func16 rfl trivial ?_ rfl
  simp only [Try.ntmps16, List.size_toArray, List.length_cons, List.length_nil, Nat.reduceAdd, Nat.reduceSub, Array.replicate_succ, Array.replicate_zero, List.push_toArray, List.append_toArray, List.nil_append, List.cons_append]
  gi_wp2_with (refine ⟨trivial, ?_⟩; gi_at_call 53; refine (callsIn_wide.2 (frames_any _ _)).mono ?_; rintro e w2 ⟨rfl, rfl⟩)
  obtain ⟨W0, hW0⟩ : ∃ W0, (((w.alloc (.cells #[.slice none 0 0] 22)).alloc (.cells #[.int .i64 0] 2)).alloc (.cells #[.string s] 9)) = W0 := ⟨_, rfl⟩
  have J0 : TkJ s N w [] W0 (.slice none 0 0) := by
    have o0 := ((Boxed.new w 22 (.slice none 0 0)).alloc (.cells #[.int .i64 0] 2)).alloc (.cells #[.string s] 9)
    have l0 := (Boxed.new (w.alloc (.cells #[.slice none 0 0] 22)) 2 (.int .i64 0)).alloc (.cells #[.string s] 9)
    have q0 := Boxed.new ((w.alloc (.cells #[.slice none 0 0] 22)).alloc (.cells #[.int .i64 0] 2)) 9 (.string s)
    rw [World.size_alloc] at l0
    rw [World.size_alloc, World.size_alloc] at q0
    rw [hW0] at o0 l0 q0
    refine ⟨o0, l0, q0, World.ownsRow_nil _ _ _ _, ?_, ?_⟩
    · rw [← hW0]; exact (((Below.refl _ w).alloc (Nat.le_refl _) _).alloc (by simp) _).alloc (by simp; omega) _
    · rw [← hW0]; simp
  rw [hW0]
  have hs0 : w.heap.size + 2 < W0.heap.size := by have := J0.z; omega
  have hz3 : W0.heap.size = w.heap.size + 3 := by rw [← hW0]; simp
  clear hW0
  have HJ0 := Lib.hid J0
  refine wpIn_rangeFunc_ownG rfl (by omega) (gf := 99) (lb := #[.pointer (some ⟨w.heap.size + 2, 0, none⟩)]) rfl trivial (enters_of Try.func99 (by kernel_rfl) rfl)
    (α := {x : Nat // x < N}) (encs := fun x => #[.string (fD s x.1), .int .i64 (fA s (x.1 + 1) : Int)]) (Kp := fun W W' => W'.heap[w.heap.size + 2]? = W.heap[w.heap.size + 2]?) (S := fun ys => ys.map Subtype.val = List.range N) (Sp := fun pre => ∃ k, k ≤ N ∧ pre.map Subtype.val = List.range k) (N := N) (w0 := W0)
    (fun l J Jx W hW hJ _ hY h0 => frames1_in 3 (by omega) l (w.heap.size + 2) N s hs hF hNo J Jx hY W ((hW.cell (p := ⟨w.heap.size + 2, 0, none⟩) hs0).trans HJ0.out.q.cell) hJ h0)
    (fun h k => k.trans h) (fun W l o o' h1 h2 h3 h4 => (grownBy_putObj' W l o').block _ (by have := (Array.getElem?_eq_some_iff.1 h2).1; omega) (fun e => by injection e with e; omega)) (Below.refl _ _) (fun _ => rfl)
    (fun pre W => ∃ v, TkJ s N w pre W v)
    (fun c pre W => False)
    (fun pre X Y row hs hg hr => by
      obtain ⟨v, h1⟩ := hs
      exact ⟨v, h1.mach hg (fun r e => ⟨by have := (hr r e).1; omega, (hr r e).2⟩)⟩)
    (fun c pre X Y row hs hg hr => hs)
    ⟨_, J0⟩
    (fun x => { tmps := #[.string s, undef, .slice none 0 0, .int .i64 0, .pointer (some ⟨w.heap.size, 0, none⟩), .pointer (some ⟨w.heap.size + 1, 0, none⟩), .string (fD s x.1), .int .i64 (fA s (x.1 + 1) : Int), .string s, .func (.func 99) #[] #[.pointer (some ⟨w.heap.size + 1 + 1, 0, none⟩)], .string (fD s x.1), .int .i64 (fA s (x.1 + 1) : Int), undef, undef, undef, undef, undef, undef, undef, undef], defers := [] }) ?assign ?body ?done ?stop
  case assign =>
    intro l x W K hK
    gi_wp2
    exact hK
  case body =>
    rintro l pre ⟨x, hx⟩ W ⟨v, hI⟩ hlt
    have hc := hI.o.cell
    have hfr := hI.o.frozen
    have HI := Lib.hid hI
    obtain ⟨Av, nv, cv, rfl⟩ : ∃ A n c, v = .slice A n c := by
      rcases hI.r.2 with ⟨rfl, _⟩ | ⟨g, cap, cur, rfl, _⟩ <;> exact ⟨_, _, _, rfl⟩
    have hpl : pre.length ≤ 131072 := by omega
    have HX := Lib.hid (fun (W : World) (w1 : World) (v' : Value) tmp (h : TkJ s N w pre W (.slice Av nv cv)) h1 h2 => TkJ.app (x := ⟨x, hx⟩) (v' := v') (tmp := tmp) (e := 0) (W := W) (w1 := w1) h h1 h2)
    have HCx := Lib.hid (HCL.out x)
    dsimp only at HX
    generalize fA s (x + 1) = a at *
    generalize fD s x = D at *
    clear hI
    have HID := Lib.hid (HI.out.below (Below.refl W.heap.size W).drew)
    gi_wp2
    refine wpIn_mono (Q := Exit.then (fun a' W' => ∃ t12 t13 t14 t15 v' : Value, a' = { tmps := #[.string s, undef, .slice none 0 0, .int .i64 0, .pointer (some ⟨w.heap.size, 0, none⟩), .pointer (some ⟨w.heap.size + 1, 0, none⟩), .string D, .int .i64 (a : Int), .string s, .func (.func 99) #[] #[.pointer (some ⟨w.heap.size + 1 + 1, 0, none⟩)], .string D, .int .i64 (a : Int), t12, t13, t14, t15, v', undef, undef, undef], defers := [] } ∧
      ∃ W2 w1, Below W.heap.size W W2 ∧ W' = w1.setCell ⟨w.heap.size, 0, none⟩ v' ∧ w1.ownsRow (w.heap.size + 3) 9 1 v' (pre.length + 1) (strv (strNs s N pre) ++ [.string D]) ∧ ∃ tmp, (W2.alloc tmp).grownBy w1 (Value.slice Av nv cv).ownBlock) (fun _ _ _ => False)) ?_ ?post
    case post =>
      rintro e a' W' hq
      cases e with
      | normal =>
        obtain ⟨t12, t13, t14, t15, v', rfl, W2, w1, hb2, rfl, hown, tmp, hgrow⟩ := hq
        obtain ⟨⟨o1, l1⟩, hk, hJ2⟩ := HX.out W2 w1 v' tmp (HI.out.below hb2) hown hgrow
        have l1c := l1.cell
        have l1f := l1.frozen
        have hq2 := hJ2.q
        have HJ2 := Lib.hid hJ2
        have HK2 := Lib.hid hk
        have HB2 := Lib.hid hb2
        have HQ2 := Lib.hid hq2
        clear hJ2 hk hb2 hq2 hown hgrow l1 o1
        gi_wp2
        exact ⟨((KeepsOthers.of_grownBy (kq_grew HB2.out none) (fun j o ej => by cases ej)).trans HK2.out).from _, (show _ = some _ from HQ2.out).trans HI.out.q.symm, _, HJ2.out⟩
      | _ => exact hq.elim
    refine wpIn_region_held_round (S := fun _ => True) (by kernel_rfl) (by kernel_rfl) letsOut_then trivial (fun _ => ?_)
    refine wpAnyH_take (i := 1) (v := .string D) rfl (by kernel_rfl) (by kernel_rfl) (by kernel_rfl) (fun _ _ _ h => h) (Or.inl ⟨by kernel_rfl, ?t1⟩) trivial ?_
    case t1 =>
      intro X hX
      go_simp
    refine wpAnyH_ready (rs := [0, 2]) (by kernel_rfl) (by simp) ?_
    refine AllReadyH.cons rfl (fun K0 hK0 => ?_) (AllReadyH.cons rfl (fun K2 hK2 => ?_) AllReadyH.nil)
    · have z0 := (HID.out).o.cell
      go_simp
      refine hK0.out _ _ trivial (fun _ => ?_)
      clear hK0 K0 z0
      refine wpAnyH_ready (rs := [2]) (by kernel_rfl) (by simp) ?_
      refine AllReadyH.cons rfl (fun K2 hK2 => ?_) AllReadyH.nil
      go_simp
      go_at_call 54
      refine (HCx.out _).mono ?_
      rintro e w2 ⟨rfl, hb2⟩
      have hT2 : TkJ s N w pre w2 (.slice Av nv cv) := HID.out.below hb2
      have hB2 : Below W.heap.size W w2 := (Below.refl W.heap.size W).drew.trans hb2
      try go_simp
      refine hK2.out _ _ trivial (fun _ => ?_)
      clear hK2 K2 hb2
      refine wpAnyH_ready (rs := [3]) (by kernel_rfl) (by simp) ?_
      refine AllReadyH.cons rfl (fun K3 hK3 => ?_) AllReadyH.nil
      go_simp
      refine hK3.out _ _ trivial (fun _ => ?_)
      clear hK3 K3
      refine wpAnyH_ready (rs := [4]) (by kernel_rfl) (by simp) ?_
      refine AllReadyH.cons rfl (fun K4 hK4 => ?_) AllReadyH.nil
      refine step_append_ownZ _ rfl _ _ 22 rfl (w.heap.size + 3) 9 i0 (.string em0) 1 16 Try.underlying22 hii hz0 hz1 hz2 rfl (by decide) (.slice Av nv cv) pre.length (strv (strNs s N pre)) rfl (hT2.r.alloc _) ⟨w2.heap.size, 0, none⟩ 1 1 [.string D] rfl rfl (cell_one_new _ _ _) (by simp [Value.oneCell']) (by unfold maxLen; omega) (by omega) (by have := hT2.z; simp; omega) ?_
      intro v' w4 hown' hgrow _
      obtain ⟨g', cap', rfl⟩ := ownsRow_succ hown'
      have h4 := (HX.out w2 w4 _ _ hT2 hown' hgrow).1.1
      have hf4 := h4.frozen
      have hc4 := h4.cell
      clear h4
      refine hK4.out _ _ trivial (fun _ => ?_)
      clear hK4 K4
      refine wpAnyH_ready (rs := [5]) (by kernel_rfl) (by simp) ?_
      refine AllReadyH.cons rfl (fun K5 hK5 => ?_) AllReadyH.nil
      go_simp
      refine hK5.out _ _ trivial (fun _ => ?_)
      clear hK5 K5
      refine wpAnyH_done (by kernel_rfl) ?_ _
      exact ⟨_, _, _, _, _, rfl, _, _, hB2, rfl, hown', _, hgrow⟩
    · go_simp
      go_at_call 54
      refine (HCx.out _).mono ?_
      rintro e w2 ⟨rfl, hb2⟩
      have hT2 : TkJ s N w pre w2 (.slice Av nv cv) := HID.out.below hb2
      have hB2 : Below W.heap.size W w2 := (Below.refl W.heap.size W).drew.trans hb2
      try go_simp
      refine hK2.out _ _ trivial (fun _ => ?_)
      clear hK2 K2 hb2
      refine wpAnyH_ready (rs := [0, 3]) (by kernel_rfl) (by simp) ?_
      refine AllReadyH.cons rfl (fun K0 hK0 => ?_) (AllReadyH.cons rfl (fun K3 hK3 => ?_) AllReadyH.nil)
      · have z0 := (hT2).o.cell
        go_simp
        refine hK0.out _ _ trivial (fun _ => ?_)
        clear hK0 K0 z0
        refine wpAnyH_ready (rs := [3]) (by kernel_rfl) (by simp) ?_
        refine AllReadyH.cons rfl (fun K3 hK3 => ?_) AllReadyH.nil
        go_simp
        refine hK3.out _ _ trivial (fun _ => ?_)
        clear hK3 K3
        refine wpAnyH_ready (rs := [4]) (by kernel_rfl) (by simp) ?_
        refine AllReadyH.cons rfl (fun K4 hK4 => ?_) AllReadyH.nil
        refine step_append_ownZ _ rfl _ _ 22 rfl (w.heap.size + 3) 9 i0 (.string em0) 1 16 Try.underlying22 hii hz0 hz1 hz2 rfl (by decide) (.slice Av nv cv) pre.length (strv (strNs s N pre)) rfl (hT2.r.alloc _) ⟨w2.heap.size, 0, none⟩ 1 1 [.string D] rfl rfl (cell_one_new _ _ _) (by simp [Value.oneCell']) (by unfold maxLen; omega) (by omega) (by have := hT2.z; simp; omega) ?_
        intro v' w4 hown' hgrow _
        obtain ⟨g', cap', rfl⟩ := ownsRow_succ hown'
        have h4 := (HX.out w2 w4 _ _ hT2 hown' hgrow).1.1
        have hf4 := h4.frozen
        have hc4 := h4.cell
        clear h4
        refine hK4.out _ _ trivial (fun _ => ?_)
        clear hK4 K4
        refine wpAnyH_ready (rs := [5]) (by kernel_rfl) (by simp) ?_
        refine AllReadyH.cons rfl (fun K5 hK5 => ?_) AllReadyH.nil
        go_simp
        refine hK5.out _ _ trivial (fun _ => ?_)
        clear hK5 K5
        refine wpAnyH_done (by kernel_rfl) ?_ _
        exact ⟨_, _, _, _, _, rfl, _, _, hB2, rfl, hown', _, hgrow⟩
      · go_simp
        refine hK3.out _ _ trivial (fun _ => ?_)
        clear hK3 K3
        refine wpAnyH_ready (rs := [0]) (by kernel_rfl) (by simp) ?_
        refine AllReadyH.cons rfl (fun K0 hK0 => ?_) AllReadyH.nil
        have z0 := (hT2.below ((Below.refl _ _).alloc (Nat.le_refl _) (.cells #[.string D] 9))).o.cell
        go_simp
        refine hK0.out _ _ trivial (fun _ => ?_)
        clear hK0 K0 z0
        refine wpAnyH_ready (rs := [4]) (by kernel_rfl) (by simp) ?_
        refine AllReadyH.cons rfl (fun K4 hK4 => ?_) AllReadyH.nil
        refine step_append_ownZ _ rfl _ _ 22 rfl (w.heap.size + 3) 9 i0 (.string em0) 1 16 Try.underlying22 hii hz0 hz1 hz2 rfl (by decide) (.slice Av nv cv) pre.length (strv (strNs s N pre)) rfl (hT2.r.alloc _) ⟨w2.heap.size, 0, none⟩ 1 1 [.string D] rfl rfl (cell_one_new _ _ _) (by simp [Value.oneCell']) (by unfold maxLen; omega) (by omega) (by have := hT2.z; simp; omega) ?_
        intro v' w4 hown' hgrow _
        obtain ⟨g', cap', rfl⟩ := ownsRow_succ hown'
        have h4 := (HX.out w2 w4 _ _ hT2 hown' hgrow).1.1
        have hf4 := h4.frozen
        have hc4 := h4.cell
        clear h4
        refine hK4.out _ _ trivial (fun _ => ?_)
        clear hK4 K4
        refine wpAnyH_ready (rs := [5]) (by kernel_rfl) (by simp) ?_
        refine AllReadyH.cons rfl (fun K5 hK5 => ?_) AllReadyH.nil
        go_simp
        refine hK5.out _ _ trivial (fun _ => ?_)
        clear hK5 K5
        refine wpAnyH_done (by kernel_rfl) ?_ _
        exact ⟨_, _, _, _, _, rfl, _, _, hB2, rfl, hown', _, hgrow⟩
  case done =>
    rintro D ys W hD hys ⟨v, hI⟩ hK
    have hc := hI.o.cell
    have hl := hI.l.cell
    rw [hys, lastA_range] at hl
    have HI := Lib.hid hI
    have HN := Lib.hid hF
    have HNo := Lib.hid hNo
    have HYS := Lib.hid (strNs_all s N ys hys)
    have hlen : ys.length = N := by
      have h := congrArg List.length hys
      rwa [List.length_map, List.length_range] at h
    have HLN := Lib.hid hlen
    generalize hae : fA s N = a at *
    have HAE := Lib.hid hae
    clear hae hlen hI hF hNo hys
    gi_wp2
    refine wpIn_mono (Q := Exit.then (fun a' W' => W' = W.drew ∧ a' = { tmps := #[.string s, undef, v, .int .i64 (a : Int), .pointer (some ⟨w.heap.size, 0, none⟩), .pointer (some ⟨w.heap.size + 1, 0, none⟩), undef, undef, .string s, .func (.func 99) #[] #[.pointer (some ⟨w.heap.size + 1 + 1, 0, none⟩)], undef, undef, undef, undef, undef, undef, undef, undef, v, .int .i64 (a : Int)], defers := [{ target := .collected D, args := #[] }] }) (fun _ _ _ => False)) ?_ ?post
    case post =>
      rintro e a' W' hq
      cases e with
      | normal =>
        obtain ⟨rfl, rfl⟩ := hq
        gi_wp2
        refine ⟨by simp, .inl ⟨_, _, rfl, run_takeDeferred hK, ?_⟩⟩
        have hb2 : Below w.heap.size w W.drew := HI.out.b.drew
        have ho2 : (W.drew).ownsRow (w.heap.size + 3) 9 1 v ys.length (strv (strNs s N ys)) := (HI.out.below (Below.refl W.heap.size W).drew).r
        rw [HYS.out, HLN.out] at ho2
        refine ⟨_, results_tmp2 rfl _ _ _, N, v, by rw [HAE.out]; rfl, HN.out, HNo.out, u_ownsRow_base (ownsRow_putObj ho2 _ hK rfl) (by omega), hb2.trans (belowK_b (w := w) (Nat.le_refl _) W.drew D _ _ (by omega) hK rfl rfl)⟩
      | _ => exact hq.elim
    gi_region_with (fail)
    all_goals exact ⟨rfl, rfl⟩
  case stop =>
    rintro D c pre W hD _ hF
    exact hF.elim
end Go.Proofs.Ytbbchgklcknlbaa
