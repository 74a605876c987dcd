/- Walks: cascades: add: a point and its rolls. -/
import Derived.Stop.RegionWithIn
import Derived.Test.YtcjpedolmnahfaaZv
import Derived.Test.YtcjpedolmnahfaaZm
set_option linter.unusedVariables false
set_option linter.unusedSimpArgs false
namespace Go.Proofs.Ytcjpedolmnahfaa
open Go.RowKit Go.Shelf

attribute [local go_sem] Oper.semAt_some

/-- what the loads of a round read: the point's box, the level's width -/
def KW (t v Wd : Int) (pb gl i : Nat) (W : World) : Prop := W.cell? ⟨pb, 0, none⟩ = some (.int .i64 t) ∧ W.cell? ⟨pb, 1, none⟩ = some (.int .i64 v) ∧ W.cell? ⟨gl, i, none⟩ = some (.int .i64 Wd)

set_option maxRecDepth 100000 in
set_option maxHeartbeats 8000000 in
theorem add_go (cb base : Nat) (nw kp t v : Int) (pa A3 : Option Addr) (pc c3 : Nat) (rp : List (Int × Int)) (ls : List Lv) (es : List LvC) (w : World)
    (hC : BoxN w cb #[.int .i64 nw, .int .i64 kp, .slice pa rp.length pc, .slice A3 ls.length c3] 30) (hD : CO w base (nw, kp, rp, ls) (.slice pa rp.length pc) (.slice A3 ls.length c3) es) (hbw : base ≤ w.heap.size)
    (ht : 0 ≤ t ∧ t ≤ 1000000000000) (hv : Rng v) (hrl : rp.length ≤ 1000000) (hll : ls.length ≤ 1000)
    (hlv : ∀ j, j < ls.length → 1 ≤ (ls.getD j zLv).1 ∧ (ls.getD j zLv).2.2.length ≤ 1000000) :
    Calls Try.prog 72 #[.pointer (some ⟨cb, 0, none⟩), .agg #[.int .i64 t, .int .i64 v]] w fun e w' => (∃ v, e = .returned v) ∧ w'.os = w.os ∧ w'.tape = w.tape ∧ w'.output = w.output ∧ w.heap.size ≤ w'.heap.size ∧ (∀ k, k < base → ¬ k = cb → w'.heap[k]? = w.heap[k]?) ∧
      ∃ pa' pc' es', BoxN w' cb #[.int .i64 nw, .int .i64 kp, .slice pa' (rp.length + 1) pc', .slice A3 ls.length c3] 30 ∧ CO w' base (nw, kp, rp ++ [(t, v)], ls.map (addLvI (t, v))) (.slice pa' (rp.length + 1) pc') (.slice A3 ls.length c3) es' := by
  refine (callsIn_wide (n := 4)).1 ?_
  refine callsIn_of_wp_marks Try.func72 rfl trivial ?_ rfl
  simp only [Try.ntmps72, List.size_toArray, List.length_cons, List.length_nil, Nat.reduceAdd, Nat.reduceSub, Array.replicate_succ, Array.replicate_zero, List.push_toArray, List.append_toArray, List.nil_append, List.cons_append]
  obtain ⟨w1, hw1⟩ : ∃ w1, w.alloc (.cells #[.int .i64 t, .int .i64 v] 43) = w1 := ⟨_, rfl⟩
  have P1 : BoxN w1 w.heap.size #[.int .i64 t, .int .i64 v] 43 := by rw [← hw1]; exact World.alloc_heap_new w _
  have B1 : Below w.heap.size w w1 := by rw [← hw1]; exact (Below.refl _ _).alloc (Nat.le_refl _) _
  have S1 := P1.lt
  have C1 : BoxN w1 cb #[.int .i64 nw, .int .i64 kp, .slice pa rp.length pc, .slice A3 ls.length c3] 30 := (B1.block _ hC.lt).trans hC
  have D1 := hD.at_ (W' := w1) (fun g hg => B1.block g (hD.lt hg).2)
  have HW1 := Lib.hid hw1
  have HC1 := Lib.hid C1
  have HP1 := Lib.hid P1
  have HD1 := Lib.hid D1
  have HB1 := Lib.hid B1
  have HCW := Lib.hid hC.lt
  have HLT := Lib.hid (fun g hg => (hD.raw.lt g hg))
  clear hw1 C1 P1 D1 B1 hC hD
  gi_wp2
  rw [HW1.out]
  rename_i Q' K hK
  have p0 := HP1.out.cell (i := 0) rfl
  have p1 := HP1.out.cell (i := 1) rfl
  have q2 := HC1.out.cell (i := 2) rfl
  have f2 := HC1.out.frozen (i := 2)
  have HA := Lib.hid (show BoxN (w1.alloc (.cells #[.int .i64 t, .int .i64 v] 43)) cb #[.int .i64 nw, .int .i64 kp, .slice pa rp.length pc, .slice A3 ls.length c3] 30 from (Below.heap_alloc _ _ _ HC1.out.lt).trans HC1.out)
  have q2a := HA.out.cell (i := 2) rfl
  obtain ⟨i0, hi, hz0, hz1, hz2⟩ := info_parts info_pt
  refine Go.wpIn_mono (Q := Exit.then (fun (a : Act) (W : World) => ∃ (pa2 : Option Addr) (pc2 : Nat) (W2 : World) (t5 t6 t7 t8 t9 t10 t11 t12 t13 t14 : Value), a = { tmps := #[.pointer (some ⟨cb, 0, none⟩), .agg #[.int .i64 t, .int .i64 v], undef, .pointer (some ⟨w.heap.size, 0, none⟩), undef, t5, t6, t7, t8, t9, t10, t11, t12, t13, t14, undef, undef, undef, undef, undef, undef, undef, undef, undef, undef, undef, undef, undef, undef, undef, undef, undef, undef, undef], defers := [] } ∧ W = W2.setCell ⟨cb, 2, none⟩ (.slice pa2 (rp.length + 1) pc2) ∧
      W2.ownsRow base 43 2 (.slice pa2 (rp.length + 1) pc2) (rp.length + 1) (prs rp ++ [.int .i64 t, .int .i64 v]) ∧ w1.grownBy W2 (Value.ownBlock (.slice pa rp.length pc))) (fun _ _ _ => False)) ?_ ?post
  case post =>
    rintro e a W hq
    cases e with
    | normal =>
      refine hK _ _ ?_
      obtain ⟨pa2, pc2, W2, t5, t6, t7, t8, t9, t10, t11, t12, t13, t14, rfl, rfl, hor, hgr⟩ := hq
      obtain ⟨W3, hW3⟩ : ∃ W3, W2.setCell ⟨cb, 2, none⟩ (.slice pa2 (rp.length + 1) pc2) = W3 := ⟨_, rfl⟩
      rw [hW3]
      have hRn : W2.ownsRow base 43 2 (.slice pa2 (rp.length + 1) pc2) (rp ++ [(t, v)]).length (prs (rp ++ [(t, v)])) := by rw [List.length_append, prs_append]; exact hor
      have D2 := HD1.out.setRaw hRn hgr
      have C2 := BoxN.kept HC1.out hgr (own_ne_box HD1.out.raw HC1.out pt_ne_ic)
      have hcw := HCW.out
      have k3 : ∀ k, ¬ k = cb → W3.heap[k]? = W2.heap[k]? := fun k hk => by rw [← hW3]; exact Below.heap_setCell _ _ _ k hk
      have C3 : BoxN W3 cb #[.int .i64 nw, .int .i64 kp, .slice pa2 (rp.length + 1) pc2, .slice A3 ls.length c3] 30 := by rw [← hW3]; exact heap_setCell_same W2 cb 2 _ _ (.slice pa2 (rp.length + 1) pc2) C2
      have D3 : CO W3 base (nw, kp, rp ++ [(t, v)], ls) (.slice pa2 (rp.length + 1) pc2) (.slice A3 ls.length c3) es := by rw [← hW3]; exact D2.setBox C2 2 _
      have P2 := BoxN.kept HP1.out hgr (fun e => by have := HLT.out _ e; omega)
      have P3 : BoxN W3 w.heap.size #[.int .i64 t, .int .i64 v] 43 := (k3 _ (by omega)).trans P2
      have sz2 := hgr.size
      have sz3l : W3.heap.size ≤ W2.heap.size := by rw [← hW3]; simp [World.setCell]
      have sz3g : W2.heap.size ≤ W3.heap.size := by rw [← hW3]; simp [World.setCell]
      have sz1 := HB1.out.size
      have G3 : Chg (fun b => base ≤ b ∨ b = cb) w W3 := by
        refine ⟨?_, ?_, ?_, by omega, fun k hk hne => (k3 k (fun e => hne (.inr e))).trans ((hgr.block k (by omega) (fun e => hne (.inl (HLT.out k e.symm).1))).trans (HB1.out.block k hk))⟩
        · rw [← hW3]; exact hgr.os.trans HB1.out.os
        · rw [← hW3]; exact hgr.tape.trans HB1.out.tape
        · rw [← hW3]; exact hgr.output.trans HB1.out.output
      have q0 := BoxN.cell (i := 0) C3 rfl
      have q1 := BoxN.cell (i := 1) C3 rfl
      have q2 := BoxN.cell (i := 2) C3 rfl
      have q3 := BoxN.cell (i := 3) C3 rfl
      have HLv := Lib.hid (fun W => levels_any nw kp pa2 A3 (rp.length + 1) ls.length pc2 c3 W)
      clear HC1 HP1 HD1 HB1 HW1 HA HLT HCW hor hgr k3 hK p0 p1 q2a f2 D2 C2 P2 hRn hW3 hi hz0 hz1 hz2
      gi_wp2
      refine ⟨trivial, ?_⟩
      refine (callsIn_wide.2 (HLv.out _)).mono ?_
      rintro e W0 ⟨rfl, hW0⟩
      have N0 : BoxN W0 W3.heap.size #[.int .i64 nw, .int .i64 kp, .slice pa2 (rp.length + 1) pc2, .slice A3 ls.length c3] 30 := by rw [hW0]; exact World.alloc_heap_new W3 _
      have D0 : Below W3.heap.size W3 W0 := by rw [hW0]; exact (Below.refl _ _).alloc (Nat.le_refl _) _
      have hs0 : W3.heap.size < W0.heap.size := N0.lt
      have C0 : BoxN W0 cb #[.int .i64 nw, .int .i64 kp, .slice pa2 (rp.length + 1) pc2, .slice A3 ls.length c3] 30 := (D0.block _ (by omega)).trans C3
      have P0 : BoxN W0 w.heap.size #[.int .i64 t, .int .i64 v] 43 := (D0.block _ (by omega)).trans P3
      have R0 := D3.at_ (W' := W0) (fun g hg => D0.block g (D3.lt hg).2)
      have G0 : Chg (fun b => base ≤ b ∨ b = cb) w W0 := G3.trans ⟨D0.os, D0.tape, D0.output, D0.size, fun k hk _ => D0.block k hk⟩
      obtain ⟨gl, hA⟩ : ∃ gl, 0 < ls.length → A3 = some ⟨gl, 0, none⟩ := by
        rcases D3.row.2 with ⟨h0, h1⟩ | ⟨g, cap, cur, he, _⟩
        · have h1 : ls.length = 0 := h1
          exact ⟨0, fun h => by omega⟩
        · injection he with e1 _ _; exact ⟨g, fun _ => e1⟩
      clear hW0 C3 P3 D3 G3 q0 q1 q2 q3
      gi_wp2
      refine wpIn_rangeFunc_ownG rfl (by omega) (gf := 99) (lb := #[.pointer (some ⟨W3.heap.size, 0, none⟩)]) rfl trivial (enters_of Try.func99 (by kernel_rfl) rfl)
        (α := {x : Nat // x < ls.length}) (encs := fun x => #[.pointer (some ⟨gl, x.1 * 3, none⟩)]) (Kp := fun W W' => W'.heap[W3.heap.size]? = W.heap[W3.heap.size]?) (S := fun ys => ys.map Subtype.val = List.range ls.length) (Sp := fun pre => ∃ k, k ≤ ls.length ∧ pre.map Subtype.val = List.range k) (N := ls.length) (w0 := W0)
        (fun l J Jx W hW _ _ hY h0 => levels2_in 3 (by omega) l W3.heap.size gl c3 ls.length A3 hA (by omega) J Jx hY W ((hW.cell (p := ⟨W3.heap.size, 3, none⟩) hs0).trans (N0.cell rfl)) h0)
        (fun h k => k.trans h) (fun W l o o' h1 h2 h3 h4 => (grownBy_putObj' W l o').block _ (by have := (Array.getElem?_eq_some_iff.1 h2).1; omega) (fun e => by injection e with e; omega)) (Below.refl _ _) (fun _ => rfl)
        (fun pre W => (∃ es', CO W base (nw, kp, rp ++ [(t, v)], foldA (t, v) (pre.map Subtype.val) ls) (.slice pa2 (rp.length + 1) pc2) (.slice A3 ls.length c3) es') ∧ BoxN W cb #[.int .i64 nw, .int .i64 kp, .slice pa2 (rp.length + 1) pc2, .slice A3 ls.length c3] 30 ∧ BoxN W w.heap.size #[.int .i64 t, .int .i64 v] 43 ∧ BoxN W W3.heap.size #[.int .i64 nw, .int .i64 kp, .slice pa2 (rp.length + 1) pc2, .slice A3 ls.length c3] 30 ∧ Chg (fun b => base ≤ b ∨ b = cb) w W ∧ W0.heap.size ≤ W.heap.size)
        (fun c pre W => False)
        (fun pre X Y row hs hg hr => by
          obtain ⟨⟨es', h1⟩, h2, h3, h4, h5, h6⟩ := hs
          exact ⟨⟨es', h1.mach hg (fun r e => (hr r e).2)⟩, h2.own hg (fun r e => (hr r e).2), h3.own hg (fun r e => (hr r e).2), h4.own hg (fun r e => (hr r e).2), h5.trans (Chg.grown hg (fun k e => .inl (by have := (hr k e).1; omega))), Nat.le_trans h6 hg.size⟩)
        (fun c pre X Y row hs hg hr => hs)
        ⟨⟨es, R0⟩, C0, P0, N0, G0, Nat.le_refl _⟩
        (fun x => { tmps := #[.pointer (some ⟨cb, 0, none⟩), .agg #[.int .i64 t, .int .i64 v], undef, .pointer (some ⟨w.heap.size, 0, none⟩), .pointer (some ⟨gl, x.1 * 3, none⟩), t5, t6, t7, t8, t9, t10, t11, t12, t13, t14, .pointer (some ⟨cb, 0, none⟩), .pointer (some ⟨cb, 0, none⟩), .agg #[.int .i64 nw, .int .i64 kp, .slice pa2 (rp.length + 1) pc2, .slice A3 ls.length c3], .func (.func 99) #[] #[.pointer (some ⟨W3.heap.size, 0, none⟩)], .pointer (some ⟨gl, x.1 * 3, none⟩), undef, undef, undef, undef, undef, undef, undef, undef, undef, undef, undef, undef, undef, undef], defers := [] }) ?assign ?body ?done ?stop
      case assign =>
        intro l x W K hK
        gi_wp2
        exact hK
      case body =>
        rintro l pre ⟨x, hx⟩ W ⟨⟨es', h1⟩, h2, h3, h4, h5, h6⟩ hlt
        have hA' := hA (by omega)
        subst hA'
        have hsn := foldA_snoc (t, v) (pre.map Subtype.val) ls x
        have hsh := foldA_shape (t, v) ls _ (pre.map Subtype.val) rfl x
        obtain ⟨L, hLd⟩ : ∃ L, foldA (t, v) (pre.map Subtype.val) ls = L := ⟨_, rfl⟩
        have hLl : L.length = ls.length := by rw [← hLd]; exact foldA_length _ _ _ _ rfl
        rw [hLd] at h1 hsh hsn
        rw [List.length_map] at hsh
        have hxv := hlv x hx
        have hW1 : 1 ≤ (L.getD x zLv).1 := by rw [hsh.1]; exact hxv.1
        have hW2 : (L.getD x zLv).2.2.length + 1 ≤ 1048576 := by have := hsh.2.2; omega
        have hxL : x < L.length := by omega
        have hro := h1.own x hxL
        have hel := h1.lv x hxL
        have hlen : es'.length = L.length := h1.len
        have hlrow : W.ownsRow base 51 3 (.slice (some ⟨gl, 0, none⟩) ls.length c3) ls.length (lvs es') := by have := h1.row; rw [← hLl]; rw [← hLl] at this; exact this
        have c0 : W.cell? ⟨gl, x * 3, none⟩ = some (.int .i64 (L.getD x zLv).1) := by rw [hlrow.cellAt _ (by omega), ← hel.1]; exact lvs_get0 _ _ (by omega)
        have c2 : W.cell? ⟨gl, x * 3 + 2, none⟩ = some (es'.getD x zLc).2.2 := by rw [hlrow.cellAt _ (by omega)]; exact lvs_get2 _ _ (by omega)
        have p0 := h3.cell (i := 0) rfl
        have p1 := h3.cell (i := 1) rfl
        have HRO := Lib.hid (fun W => rollOf_any t v W)
        have HAR := Lib.hid (fun W' hb hW' => addRollL_any base (es'.getD x zLc).2.2 (L.getD x zLv).2.2 t 1 v v v v (L.getD x zLv).1 W' hW1 ht.1 ⟨by omega, by omega⟩ hW2 hb hW')
        obtain ⟨ra, rc, hrv⟩ := (ORow.of_own hro).shape
        obtain ⟨rn, hrn⟩ : ∃ rn, (L.getD x zLv).2.2.length = rn := ⟨_, rfl⟩
        obtain ⟨Wd, hWd⟩ : ∃ Wd, (L.getD x zLv).1 = Wd := ⟨_, rfl⟩
        have hbW : base ≤ W.heap.size := by have := h5.size; omega
        have hl0 : (lvs es')[x * 3]? = some (.int .i64 (L.getD x zLv).1) := by rw [← hel.1]; exact lvs_get0 _ _ (by omega)
        rw [hrv, hrn] at c2
        rw [hrv, hWd, hrn] at HAR
        rw [hWd] at c0 hl0
        have H1 := Lib.hid h1
        have H2 := Lib.hid h2
        have H3 := Lib.hid h3
        have H4 := Lib.hid h4
        have H5 := Lib.hid h5
        have HSN := Lib.hid hsn
        have HROW := Lib.hid hro
        have HLR := Lib.hid hlrow
        have HRN := Lib.hid hrn
        have HRV := Lib.hid hrv
        have HWD := Lib.hid hWd
        clear h1 h2 h3 h4 h5 hsn hro hlrow hel hsh hxv hrn hrv hWd hLd N0 C0 P0 R0 G0 D0 HLv
        gi_wp2
        refine Go.wpIn_mono (Q := Exit.then (fun (_ : Act) (W' : World) => ∃ (r' : Value) (W2 : World), W' = W2.setCell ⟨gl, x * 3 + 2, none⟩ r' ∧ W2.ownsRow base 48 6 r' (addI Wd (L.getD x zLv).2.2 (t, 1, v, v, v, v)).length (rls (addI Wd (L.getD x zLv).2.2 (t, 1, v, v, v, v))) ∧ W.grownBy W2 (Value.ownBlock (.slice ra rn rc)) ∧ (r'.ownBlock = Value.ownBlock (.slice ra rn rc) ∨ ∃ g, r'.ownBlock = some g ∧ W.heap.size ≤ g)) (fun _ _ _ => False)) ?_ ?bpost
        case bpost =>
          rintro e a W' hq
          cases e with
          | normal =>
            obtain ⟨r', W2, rfl, hor, hgr, hat⟩ := hq
            have hrw : (es'.getD x zLc).2.2 = .slice ra rn rc := by rw [HRV.out, HRN.out]
            have hgr' : W.grownBy W2 (es'.getD x zLc).2.2.ownBlock := by rw [hrw]; exact hgr
            have hlL : L.length = ls.length := by omega
            have hst : ∀ k, k < W.heap.size → ¬ (es'.getD x zLc).2.2.ownBlock = some k → ¬ k = gl → (W2.setCell ⟨gl, x * 3 + 2, none⟩ r').heap[k]? = W.heap[k]? := fun k hk h1 h2 => (Below.heap_setCell _ _ _ k h2).trans (hgr'.block k hk (fun e => h1 e.symm))
            have hS := CO.setRolls (c3 := c3) (gl := gl) (W2 := W2) (r' := r') (kept := addI Wd (L.getD x zLv).2.2 (t, 1, v, v, v, v)) (by rw [hlL]; exact H1.out) hxL hor hgr' (by rw [hrw]; exact hat)
            have hsz : W.heap.size ≤ (W2.setCell ⟨gl, x * 3 + 2, none⟩ r').heap.size := by have := hgr'.size; simpa [World.setCell] using this
            have hrx : OBk (nw, kp, rp ++ [(t, v)], L) (.slice pa2 (rp.length + 1) pc2) (.slice (some ⟨gl, 0, none⟩) ls.length c3) es' gl := .inr (.inl rfl)
            have hrj : ∀ k, (es'.getD x zLc).2.2.ownBlock = some k → OBk (nw, kp, rp ++ [(t, v)], L) (.slice pa2 (rp.length + 1) pc2) (.slice (some ⟨gl, 0, none⟩) ls.length c3) es' k := fun k hk => .inr (.inr ⟨x, hxL, hk⟩)
            have hbox : ∀ k (cs : Array Value), BoxN W k cs 30 → (W2.setCell ⟨gl, x * 3 + 2, none⟩ r').heap[k]? = W.heap[k]? := fun k cs hB => hst k hB.lt (fun e => H1.out.ne_box hB k (hrj k e) rfl) (fun e => H1.out.ne_box hB gl hrx e.symm)
            refine ⟨⟨hsz, fun k o hk h0 ho => (hst k (Array.getElem?_eq_some_iff.1 h0).1 (fun e => ?_) (fun e => ?_)).trans h0⟩, hbox _ _ H4.out, ⟨_, by rw [List.map_append]; show CO _ base (nw, kp, rp ++ [(t, v)], foldA (t, v) (pre.map Subtype.val ++ [x]) ls) _ _ _; rw [HSN.out, addLvI, HWD.out]; rw [hlL] at hS; rw [← HWD.out] at hS ⊢; exact hS⟩, (hbox _ _ H2.out).trans H2.out, (hst _ H3.out.lt (own_ne_box HROW.out H3.out (by decide)) (fun e => own_ne_box HLR.out H3.out (by decide) (by rw [e]; rfl))).trans H3.out, (hbox _ _ H4.out).trans H4.out, H5.out.trans ⟨hgr'.os, hgr'.tape, hgr'.output, hsz, fun k hk hne => hst k hk (fun e => hne (.inl (H1.out.lt (hrj k e)).1)) (fun e => hne (.inl (by rw [e]; exact (H1.out.lt hrx).1)))⟩, Nat.le_trans h6 hsz⟩
            · obtain ⟨o', ho', hc⟩ := H1.out.isCells (hrj k e)
              rw [h0] at ho'; cases ho'; rw [hc] at ho; cases ho
            · obtain ⟨o', ho', hc⟩ := H1.out.isCells hrx
              rw [← e, h0] at ho'; cases ho'; rw [hc] at ho; cases ho
          | _ => exact hq.elim
        have HL0 := Lib.hid hl0
        clear hl0
        have hgp : ¬ gl = w.heap.size := fun e => own_ne_box HLR.out H3.out (by decide) (by rw [e]; rfl)
        refine wpIn_region_held_round (S := KW t v Wd w.heap.size gl (x * 3)) (by kernel_rfl) (by kernel_rfl) letsOut_then (show KW t v Wd w.heap.size gl (x * 3) W.drew from ⟨p0, p1, c0⟩) (fun hS0 => ?_)
        refine wpAnyH_take (i := 0) (v := .pointer (some ⟨gl, x * 3, none⟩)) rfl (by kernel_rfl) (by kernel_rfl) (by kernel_rfl) (fun _ _ _ h => h) (Or.inl ⟨by kernel_rfl, ?t0⟩) (by assumption) ?_
        case t0 =>
          intro W hW
          have z0 := hW.1
          have z1 := hW.2.1
          have z2 := hW.2.2
          clear hW
          go_simp
        refine wpAnyH_take (i := 1) (v := .pointer (some ⟨gl, x * 3, none⟩)) rfl (by kernel_rfl) (by kernel_rfl) (by kernel_rfl) (fun _ _ _ h => h) (Or.inl ⟨by kernel_rfl, ?t1⟩) (by assumption) ?_
        case t1 =>
          intro W hW
          have z0 := hW.1
          have z1 := hW.2.1
          have z2 := hW.2.2
          clear hW
          go_simp
        refine wpAnyH_take (i := 2) (v := .pointer (some ⟨gl, x * 3, none⟩)) rfl (by kernel_rfl) (by kernel_rfl) (by kernel_rfl) (fun _ _ _ h => h) (Or.inl ⟨by kernel_rfl, ?t2⟩) (by assumption) ?_
        case t2 =>
          intro W hW
          have z0 := hW.1
          have z1 := hW.2.1
          have z2 := hW.2.2
          clear hW
          go_simp
        refine wpAnyH_take (i := 3) (v := .pointer (some ⟨gl, x * 3 + 2, none⟩)) rfl (by kernel_rfl) (by kernel_rfl) (by kernel_rfl) (fun _ _ _ h => h) (Or.inl ⟨by kernel_rfl, ?t3⟩) (by assumption) ?_
        case t3 =>
          intro W hW
          have z0 := hW.1
          have z1 := hW.2.1
          have z2 := hW.2.2
          clear hW
          go_simp
        refine wpAnyH_take (i := 5) (v := .agg #[.int .i64 t, .int .i64 v]) rfl (by kernel_rfl) (by kernel_rfl) (by kernel_rfl) (fun _ _ _ h => h) (Or.inl ⟨by kernel_rfl, ?t5⟩) (by assumption) ?_
        case t5 =>
          intro W hW
          have z0 := hW.1
          have z1 := hW.2.1
          have z2 := hW.2.2
          clear hW
          go_simp
        refine wpAnyH_take (i := 7) (v := .pointer (some ⟨gl, x * 3, none⟩)) rfl (by kernel_rfl) (by kernel_rfl) (by kernel_rfl) (fun _ _ _ h => h) (Or.inl ⟨by kernel_rfl, ?t7⟩) (by assumption) ?_
        case t7 =>
          intro W hW
          have z0 := hW.1
          have z1 := hW.2.1
          have z2 := hW.2.2
          clear hW
          go_simp
        refine wpAnyH_take (i := 8) (v := .pointer (some ⟨gl, x * 3, none⟩)) rfl (by kernel_rfl) (by kernel_rfl) (by kernel_rfl) (fun _ _ _ h => h) (Or.inl ⟨by kernel_rfl, ?t8⟩) (by assumption) ?_
        case t8 =>
          intro W hW
          have z0 := hW.1
          have z1 := hW.2.1
          have z2 := hW.2.2
          clear hW
          go_simp
        refine wpAnyH_take (i := 9) (v := .pointer (some ⟨gl, x * 3, none⟩)) rfl (by kernel_rfl) (by kernel_rfl) (by kernel_rfl) (fun _ _ _ h => h) (Or.inl ⟨by kernel_rfl, ?t9⟩) (by assumption) ?_
        case t9 =>
          intro W hW
          have z0 := hW.1
          have z1 := hW.2.1
          have z2 := hW.2.2
          clear hW
          go_simp
        refine wpAnyH_take (i := 10) (v := .int .i64 Wd) rfl (by kernel_rfl) (by kernel_rfl) (by kernel_rfl) (fun _ _ _ h => h) (Or.inl ⟨by kernel_rfl, ?t10⟩) (by assumption) ?_
        case t10 =>
          intro W hW
          have z0 := hW.1
          have z1 := hW.2.1
          have z2 := hW.2.2
          clear hW
          go_simp
        refine wpAnyH_ready (rs := [4, 6]) (by kernel_rfl) (by simp) ?_
        refine AllReadyH.cons rfl (fun K4 hK4 => ?_) ?_
        · go_simp
          refine hK4.out _ _ (by assumption) (fun hS1 => ?_)
          clear hK4 K4
          refine wpAnyH_ready (rs := [6]) (by kernel_rfl) (by simp) ?_
          refine AllReadyH.cons rfl (fun K6 hK6 => ?_) AllReadyH.nil
          go_simp
          go_at_call 110
          refine (HRO.out _).mono ?_
          rintro e W2 ⟨rfl, hb2⟩
          have HB2 := Lib.hid (show Below W.heap.size W W2 from ((Below.refl W.heap.size W).drew).trans hb2)
          have d2 : W2.cell? ⟨gl, x * 3 + 2, none⟩ = some (.slice ra rn rc) := (HB2.out.cell (p := ⟨gl, x * 3 + 2, none⟩) (HLR.out.lt gl rfl).2).trans c2
          have hS2 : KW t v Wd w.heap.size gl (x * 3) W2 := ⟨(HB2.out.cell (p := ⟨w.heap.size, 0, none⟩) H3.out.lt).trans p0, (HB2.out.cell (p := ⟨w.heap.size, 1, none⟩) H3.out.lt).trans p1, (HB2.out.cell (p := ⟨gl, x * 3, none⟩) (HLR.out.lt gl rfl).2).trans c0⟩
          have HO2 := Lib.hid (u_own_below HROW.out HB2.out)
          clear hb2
          try go_simp
          refine hK6.out _ _ hS2 (fun hS3 => ?_)
          clear hK6 K6
          refine wpAnyH_ready (rs := [11]) (by kernel_rfl) (by simp) ?_
          refine AllReadyH.cons rfl (fun K11 hK11 => ?_) AllReadyH.nil
          go_simp
          go_at_call 108
          refine (HAR.out _ (by have := HB2.out.size; omega) (by have h := HO2.out; rw [HRV.out, HRN.out] at h; exact h)).mono ?_
          rintro e W4 ⟨r', rfl, hor, hgr, hbl, hat⟩
          have r4 := own_kept_type (show W2.ownsRow base 51 3 (.slice (some ⟨gl, 0, none⟩) ls.length c3) ls.length (lvs es') from u_own_below HLR.out HB2.out) HO2.out (by decide) (by rw [HRV.out, HRN.out]; exact hgr)
          have f4 := r4.frozenAt (x * 3 + 2)
          have e2 : W4.cell? ⟨gl, x * 3 + 2, none⟩ = some (es'.getD x zLc).2.2 := (by rw [r4.cellAt _ (by have := HRN.out; omega)]; exact lvs_get2 _ _ (by omega))
          have B4 : BoxN W4 w.heap.size #[.int .i64 t, .int .i64 v] 43 := BoxN.kept ((HB2.out.block _ H3.out.lt).trans H3.out) hgr (fun e => own_ne_box HROW.out H3.out (by decide) (by rw [HRV.out, HRN.out]; exact e))
          have w4 : W4.cell? ⟨gl, x * 3, none⟩ = some (.int .i64 Wd) := (r4.cellAt (x * 3) (by have := HRN.out; omega)).trans HL0.out
          have s4 := r4.stored (x * 3 + 2) r'
          obtain ⟨ra4, rc4, hr4⟩ := (ORow.of_own hor).shape
          obtain ⟨nk, hnk⟩ : ∃ nk, (addI Wd (L.getD x zLv).2.2 (t, 1, v, v, v, v)).length = nk := ⟨_, rfl⟩
          rw [hnk] at hr4
          clear hnk
          subst hr4
          try go_simp
          refine hK11.out _ _ ⟨BoxN.cell (i := 0) B4 rfl, BoxN.cell (i := 1) B4 rfl, w4⟩ (fun hS4 => ?_)
          clear hK11 K11
          refine wpAnyH_take (i := 12) (v := .pointer (some ⟨gl, x * 3, none⟩)) rfl (by kernel_rfl) (by kernel_rfl) (by kernel_rfl) (fun _ _ _ h => h) (Or.inl ⟨by kernel_rfl, ?t12⟩) (by assumption) ?_
          case t12 =>
            intro W hW
            have z0 := hW.1
            have z1 := hW.2.1
            have z2 := hW.2.2
            clear hW
            go_simp
          refine wpAnyH_take (i := 13) (v := .pointer (some ⟨gl, x * 3 + 2, none⟩)) rfl (by kernel_rfl) (by kernel_rfl) (by kernel_rfl) (fun _ _ _ h => h) (Or.inl ⟨by kernel_rfl, ?t13⟩) (by assumption) ?_
          case t13 =>
            intro W hW
            have z0 := hW.1
            have z1 := hW.2.1
            have z2 := hW.2.2
            clear hW
            go_simp
          refine wpAnyH_ready (rs := [14]) (by kernel_rfl) (by simp) ?_
          refine AllReadyH.cons rfl (fun K14 hK14 => ?_) AllReadyH.nil
          go_simp
          refine hK14.out _ _ ⟨(heap_cell (Below.heap_setCell _ _ _ _ (fun e => hgp e.symm))).trans (BoxN.cell (i := 0) B4 rfl), (heap_cell (Below.heap_setCell _ _ _ _ (fun e => hgp e.symm))).trans (BoxN.cell (i := 1) B4 rfl), (s4.1.cellAt (x * 3) (by have := HRN.out; omega)).trans (by rw [List.getElem?_set_ne (by omega)]; exact HL0.out)⟩ (fun hS5 => ?_)
          clear hK14 K14
          refine wpAnyH_done (by kernel_rfl) ?_ _
          exact ⟨_, _, rfl, hor, ((grew_of_below HB2.out _).trans hgr), hat.imp id (fun ⟨g, h1, h2⟩ => ⟨g, h1, by have := HB2.out.size; omega⟩)⟩
        · refine AllReadyH.cons rfl (fun K6 hK6 => ?_) AllReadyH.nil
          go_simp
          go_at_call 110
          refine (HRO.out _).mono ?_
          rintro e W2 ⟨rfl, hb2⟩
          have HB2 := Lib.hid (show Below W.heap.size W W2 from ((Below.refl W.heap.size W).drew).trans hb2)
          have d2 : W2.cell? ⟨gl, x * 3 + 2, none⟩ = some (.slice ra rn rc) := (HB2.out.cell (p := ⟨gl, x * 3 + 2, none⟩) (HLR.out.lt gl rfl).2).trans c2
          have hS2 : KW t v Wd w.heap.size gl (x * 3) W2 := ⟨(HB2.out.cell (p := ⟨w.heap.size, 0, none⟩) H3.out.lt).trans p0, (HB2.out.cell (p := ⟨w.heap.size, 1, none⟩) H3.out.lt).trans p1, (HB2.out.cell (p := ⟨gl, x * 3, none⟩) (HLR.out.lt gl rfl).2).trans c0⟩
          have HO2 := Lib.hid (u_own_below HROW.out HB2.out)
          clear hb2
          try go_simp
          refine hK6.out _ _ hS2 (fun hS3 => ?_)
          clear hK6 K6
          refine wpAnyH_ready (rs := [4]) (by kernel_rfl) (by simp) ?_
          refine AllReadyH.cons rfl (fun K4 hK4 => ?_) AllReadyH.nil
          go_simp
          refine hK4.out _ _ (by assumption) (fun hS1 => ?_)
          clear hK4 K4
          refine wpAnyH_ready (rs := [11]) (by kernel_rfl) (by simp) ?_
          refine AllReadyH.cons rfl (fun K11 hK11 => ?_) AllReadyH.nil
          go_simp
          go_at_call 108
          refine (HAR.out _ (by have := HB2.out.size; omega) (by have h := HO2.out; rw [HRV.out, HRN.out] at h; exact h)).mono ?_
          rintro e W4 ⟨r', rfl, hor, hgr, hbl, hat⟩
          have r4 := own_kept_type (show W2.ownsRow base 51 3 (.slice (some ⟨gl, 0, none⟩) ls.length c3) ls.length (lvs es') from u_own_below HLR.out HB2.out) HO2.out (by decide) (by rw [HRV.out, HRN.out]; exact hgr)
          have f4 := r4.frozenAt (x * 3 + 2)
          have e2 : W4.cell? ⟨gl, x * 3 + 2, none⟩ = some (es'.getD x zLc).2.2 := (by rw [r4.cellAt _ (by have := HRN.out; omega)]; exact lvs_get2 _ _ (by omega))
          have B4 : BoxN W4 w.heap.size #[.int .i64 t, .int .i64 v] 43 := BoxN.kept ((HB2.out.block _ H3.out.lt).trans H3.out) hgr (fun e => own_ne_box HROW.out H3.out (by decide) (by rw [HRV.out, HRN.out]; exact e))
          have w4 : W4.cell? ⟨gl, x * 3, none⟩ = some (.int .i64 Wd) := (r4.cellAt (x * 3) (by have := HRN.out; omega)).trans HL0.out
          have s4 := r4.stored (x * 3 + 2) r'
          obtain ⟨ra4, rc4, hr4⟩ := (ORow.of_own hor).shape
          obtain ⟨nk, hnk⟩ : ∃ nk, (addI Wd (L.getD x zLv).2.2 (t, 1, v, v, v, v)).length = nk := ⟨_, rfl⟩
          rw [hnk] at hr4
          clear hnk
          subst hr4
          try go_simp
          refine hK11.out _ _ ⟨BoxN.cell (i := 0) B4 rfl, BoxN.cell (i := 1) B4 rfl, w4⟩ (fun hS4 => ?_)
          clear hK11 K11
          refine wpAnyH_take (i := 12) (v := .pointer (some ⟨gl, x * 3, none⟩)) rfl (by kernel_rfl) (by kernel_rfl) (by kernel_rfl) (fun _ _ _ h => h) (Or.inl ⟨by kernel_rfl, ?t12⟩) (by assumption) ?_
          case t12 =>
            intro W hW
            have z0 := hW.1
            have z1 := hW.2.1
            have z2 := hW.2.2
            clear hW
            go_simp
          refine wpAnyH_take (i := 13) (v := .pointer (some ⟨gl, x * 3 + 2, none⟩)) rfl (by kernel_rfl) (by kernel_rfl) (by kernel_rfl) (fun _ _ _ h => h) (Or.inl ⟨by kernel_rfl, ?t13⟩) (by assumption) ?_
          case t13 =>
            intro W hW
            have z0 := hW.1
            have z1 := hW.2.1
            have z2 := hW.2.2
            clear hW
            go_simp
          refine wpAnyH_ready (rs := [14]) (by kernel_rfl) (by simp) ?_
          refine AllReadyH.cons rfl (fun K14 hK14 => ?_) AllReadyH.nil
          go_simp
          refine hK14.out _ _ ⟨(heap_cell (Below.heap_setCell _ _ _ _ (fun e => hgp e.symm))).trans (BoxN.cell (i := 0) B4 rfl), (heap_cell (Below.heap_setCell _ _ _ _ (fun e => hgp e.symm))).trans (BoxN.cell (i := 1) B4 rfl), (s4.1.cellAt (x * 3) (by have := HRN.out; omega)).trans (by rw [List.getElem?_set_ne (by omega)]; exact HL0.out)⟩ (fun hS5 => ?_)
          clear hK14 K14
          refine wpAnyH_done (by kernel_rfl) ?_ _
          exact ⟨_, _, rfl, hor, ((grew_of_below HB2.out _).trans hgr), hat.imp id (fun ⟨g, h1, h2⟩ => ⟨g, h1, by have := HB2.out.size; omega⟩)⟩
      case done =>
        rintro D ys W hD hys ⟨⟨es', h1⟩, h2, h3, h4, h5, h6⟩ hK
        rw [hys, foldA_all] at h1
        gi_wp2
        refine ⟨by simp, .inl ⟨_, _, rfl, run_takeDeferred hK, ?_⟩⟩
        have hg := grownBy_putObj' W D (.deferred none)
        have hG := h5.trans (Chg.grown (S := fun b => base ≤ b ∨ b = cb) hg (fun k e => .inl (by injection e with e; omega)))
        have hr : ∀ r, some D = some r → ∃ o : Obj, W.heap[r]? = some o ∧ o.isCells = false := fun r e => by cases e; exact ⟨_, hK, rfl⟩
        exact ⟨_, results_none_zc rfl _ _ _, ⟨_, rfl⟩, hG.os, hG.tape, hG.output, hG.size, fun k hk hne => hG.block k (by omega) (by omega), pa2, pc2, es', h2.own hg hr, h1.mach hg hr⟩
      case stop =>
        rintro D c pre W _ _ h _
        exact h.elim
    | _ => exact hq.elim
  clear hK
  refine wpIn_wide.2 ?_
  go_region_law (refine step_append_ownR _ rfl _ _ 27 rfl base 43 i0 (.agg #[.int .i64 0, .int .i64 0]) 2 16 Try.underlying27 hi hz0 hz1 hz2 rfl (by decide) (.slice pa rp.length pc) rp.length (prs rp) rfl ((HD1.out.raw.alloc _).drew) ⟨w1.heap.size, 0, none⟩ 1 1 [.int .i64 t, .int .i64 v] rfl rfl (two_cells (by go_simp) (by go_simp)) (fun u hu => by simp at hu; rcases hu with rfl | rfl <;> rfl) (by unfold maxLen; omega) (by omega) (by first | omega | (simp; omega)) ?_; intro v4 w4 hown4 hgrow4; obtain ⟨A4, c4, rfl⟩ := (ORow.of_own hown4).shape; have HO4 : BoxN w4 cb #[.int .i64 nw, .int .i64 kp, .slice pa rp.length pc, .slice A3 ls.length c3] 30 := BoxN.kept (show BoxN (w1.alloc (.cells #[.int .i64 t, .int .i64 v] 43)).drew cb #[.int .i64 nw, .int .i64 kp, .slice pa rp.length pc, .slice A3 ls.length c3] 30 from HA.out) hgrow4 (own_ne_box (HD1.out.raw.alloc _) HA.out pt_ne_ic); have f2 := HO4.frozen (i := 2); have q2 := HO4.cell (i := 2) rfl)
  all_goals exact ⟨_, _, _, _, _, _, _, _, _, _, _, _, _, rfl, rfl, hown4, ((World.grownBy_alloc w1 _ _).trans (grew_drewN _ 1 _)).trans hgrow4⟩
end Go.Proofs.Ytcjpedolmnahfaa

/- Walks: Ingest: the program. -/
set_option linter.unusedVariables false
set_option linter.unusedSimpArgs false
namespace Go.Proofs.Ytcjpedolmnahfaa
open Go.RowKit

theorem addLvI_eq {p : Int × Int} {x : Lv} (hW : 1 ≤ x.1) (h : x.2.2.length = 0 ∨ (lastR x.2.2).1 ≤ (winR x.1 (p.1, 1, p.2, p.2, p.2, p.2)).1) : addLvI p x = addLv p x := by
  unfold addLvI addLv
  rw [addI_eq h]
  have e : winR x.1 (p.1, 1, p.2, p.2, p.2, p.2) = oneR x.1 p := by
    unfold winR oneR
    have := Int.mul_ediv_add_emod p.1 x.1
    rw [Int.mul_comm] at this
    show (p.1 - p.1 % x.1, _) = (p.1 / x.1 * x.1, _)
    rw [show p.1 - p.1 % x.1 = p.1 / x.1 * x.1 by omega]
  rw [e]
theorem casc_small {c : Cs} (h : cascB c = true) : c.2.2.1.length ≤ 120 ∧ c.2.2.2.length ≤ 4 ∧ ∀ j, j < c.2.2.2.length → 1 ≤ (c.2.2.2.getD j zLv).1 ∧ (c.2.2.2.getD j zLv).2.2.length ≤ 400 := by
  unfold cascB at h
  rw [Bool.and_eq_true, Bool.and_eq_true] at h
  obtain ⟨h1, h2, h3, h4⟩ := headB_in h.1
  refine ⟨?_, by omega, fun j hj => ?_⟩
  · unfold ptsSmB at h3
    rw [Bool.and_eq_true] at h3
    have := (timesOkB_rng (show timesOkB (c.2.2.1.map Prod.fst) = true from h3.2)).1
    rwa [List.length_map] at this
  · have hl := lvsB_at h.2.2 j hj
    generalize (if j = 0 then (1 : Int) else (c.2.2.2.getD (j - 1) zLv).1) = w0 at hl
    generalize (if j = 0 then c.2.1 else (c.2.2.2.getD (j - 1) zLv).2.1) = k0 at hl
    generalize c.2.2.2.getD j zLv = x at *
    unfold lvB at hl
    rw [Bool.and_eq_true, Bool.and_eq_true] at hl
    obtain ⟨a, b, _⟩ := rollsOkB_in hl.2.1
    exact ⟨b.1, a⟩
theorem ing_eq {c : Cs} {p : Int × Int} (h : cascB c = true) (hp : c.1 < p.1) : dropC p.1 (c.1, c.2.1, c.2.2.1 ++ [p], c.2.2.2.map (addLvI p)) = ingC p c := by
  have e : c.2.2.2.map (addLvI p) = c.2.2.2.map (addLv p) := by
    refine List.map_congr_left (fun x hx => ?_)
    obtain ⟨j, hj, rfl⟩ := List.getElem_of_mem hx
    have e1 : c.2.2.2.getD j zLv = c.2.2.2[j] := by simp [List.getD_eq_getElem?_getD, hj]
    have h1 := (casc_small h).2.2 j hj
    have h2 := casc_last h hp hj (p.1, 1, p.2, p.2, p.2, p.2) rfl
    rw [e1] at h1 h2
    exact addLvI_eq h1.1 h2
  unfold ingC addC
  rw [e]
  rfl
theorem addI_mem {W : Int} {xs : List R6} {x r : R6} (h : r ∈ addI W xs x) : r.1 = (winR W x).1 ∨ ∃ r' ∈ xs, r.1 = r'.1 := by
  unfold addI at h
  split at h
  · rw [List.mem_append] at h
    rcases h with h | h
    · exact .inr ⟨r, h, rfl⟩
    · rw [List.mem_singleton] at h; subst h; exact .inl rfl
  · rename_i hc
    have h0 : ¬ xs.length = 0 := fun e => hc (.inl e)
    rcases List.mem_or_eq_of_mem_set h with h | h
    · exact .inr ⟨r, h, rfl⟩
    · subst h
      refine .inr ⟨lastR xs, ?_, rfl⟩
      show xs.getD (xs.length - 1) z6 ∈ xs
      rw [List.getD_eq_getElem?_getD, List.getElem?_eq_getElem (by omega)]
      exact List.getElem_mem _
theorem ing_adv {c : Cs} {p : Int × Int} (h : cascB c = true) (hp : c.1 < p.1) (h0 : 0 ≤ p.1) : ∀ j, j < (c.2.2.2.map (addLvI p)).length → (1 ≤ ((c.2.2.2.map (addLvI p)).getD j zLv).1 ∧ ((c.2.2.2.map (addLvI p)).getD j zLv).1 ≤ 1000000) ∧ (0 ≤ ((c.2.2.2.map (addLvI p)).getD j zLv).2.1 ∧ ((c.2.2.2.map (addLvI p)).getD j zLv).2.1 ≤ 1000000000) ∧ ((c.2.2.2.map (addLvI p)).getD j zLv).2.2.length ≤ 1048576 ∧ ∀ r ∈ ((c.2.2.2.map (addLvI p)).getD j zLv).2.2, 0 ≤ r.1 ∧ r.1 ≤ p.1 := by
  intro j hj
  rw [List.length_map] at hj
  have hg : (c.2.2.2.map (addLvI p)).getD j zLv = addLvI p (c.2.2.2.getD j zLv) := by simp [List.getD_eq_getElem?_getD, hj]
  rw [hg]
  have a := casc_adv h p.1 (by omega) j hj
  have b := (casc_small h).2.2 j hj
  generalize c.2.2.2.getD j zLv = x at a b
  have hl := addI_len x.1 x.2.2 (p.1, 1, p.2, p.2, p.2, p.2)
  refine ⟨a.1, a.2.1, by show (addI _ _ _).length ≤ _; omega, fun r hr => ?_⟩
  rcases addI_mem hr with e | ⟨r', hr', e⟩
  · rw [e]
    show 0 ≤ p.1 - p.1 % x.1 ∧ p.1 - p.1 % x.1 ≤ p.1
    have e1 := Int.emod_nonneg p.1 (show x.1 ≠ 0 by omega)
    have e2 := Int.mul_nonneg (Int.ediv_nonneg h0 (show 0 ≤ x.1 by omega)) (show 0 ≤ x.1 by omega)
    have e3 := Int.mul_ediv_add_emod p.1 x.1
    rw [Int.mul_comm] at e3
    omega
  · rw [e]; exact a.2.2.2 r' hr'

set_option maxRecDepth 100000 in
set_option maxHeartbeats 8000000 in
theorem implIngest_any (cv : Value) (c : Cs) (t v : Int) (w : World) (h : CV w w.heap.size cv c) :
    Calls Try.prog 28 #[cv, .agg #[.int .i64 t, .int .i64 v]] w (NPost w.heap.size (ingM c (t, v)) (ingB c (t, v)) w) := by
  have HV := Lib.hid h
  have hOk := Lib.hid (fun W h => implCascadeOk_any cv c W h)
  have hOk2 := Lib.hid (fun v c W h => implCascadeOk_any v c W h)
  have hCp := Lib.hid (fun W h => copiedO_any cv c W h)
  have hSm := Lib.hid (fun W => isSmall_any v W)
  have hAdv := Lib.hid (fun hc hn h0 => ing_adv (c := c) (p := (t, v)) hc hn h0)
  have hEq := Lib.hid (fun hc hn => ing_eq (c := c) (p := (t, v)) hc hn)
  have hSz := Lib.hid (fun hc => casc_small (c := c) hc)
  have hCr := Lib.hid (fun hc hp hv => ingC_cr (c := c) (p := (t, v)) hc hp hv)
  have hKp := Lib.hid (fun hc => cascB_keep (c := c) hc)
  have hTB : ingB c (t, v) = ((cascB c && (decide (c.1 < t ∧ t ≤ 1000000000000) && smB v)) && cascB (ingC (t, v) c)) := rfl
  have HTN := Lib.hid (ingM_no (c := c) (p := (t, v)))
  have HTY := Lib.hid (ingM_yes (c := c) (p := (t, v)))
  obtain ⟨nw0, kp, rp, ls⟩ := c
  obtain ⟨rv, lv, rfl, hP, hL, z1, z2⟩ := h
  simp only at hP hL
  obtain ⟨z3, hpl, Ap, cp, rfl, z4⟩ := hP
  obtain ⟨z5, hll, Al, cl, rfl, z6⟩ := hL
  clear z1 z2 z3 z4 z5 z6
  obtain ⟨w1, hw1⟩ : ∃ w1, ((w.alloc (.cells #[.int .i64 nw0, .int .i64 kp, .slice Ap rp.length cp, .slice Al ls.length cl] 30)).alloc (.cells #[.int .i64 t, .int .i64 v] 43)).alloc (.cells #[.int .i64 0, .int .i64 0, .slice none 0 0, .slice none 0 0] 30) = w1 := ⟨_, rfl⟩
  have B1 := Lib.hid (show Below w.heap.size w w1 from by rw [← hw1]; exact (((Below.refl _ w).alloc (Nat.le_refl _) _).alloc (by simp) _).alloc (by simp; omega) _)
  have X1 : Hid (BoxN w1 w.heap.size #[.int .i64 nw0, .int .i64 kp, .slice Ap rp.length cp, .slice Al ls.length cl] 30) := Lib.hid (by
    have h := World.alloc_heap_new w (.cells #[.int .i64 nw0, .int .i64 kp, .slice Ap rp.length cp, .slice Al ls.length cl] 30)
    rw [← hw1]
    exact (Below.heap_alloc _ _ _ (by simp; omega)).trans ((Below.heap_alloc _ _ _ (by simp)).trans h))
  have P1 : Hid (BoxN w1 (w.heap.size + 1) #[.int .i64 t, .int .i64 v] 43) := Lib.hid (by
    have h := World.alloc_heap_new (w.alloc (.cells #[.int .i64 nw0, .int .i64 kp, .slice Ap rp.length cp, .slice Al ls.length cl] 30)) (.cells #[.int .i64 t, .int .i64 v] 43)
    rw [World.size_alloc] at h
    rw [← hw1]
    exact (Below.heap_alloc _ _ _ (by simp)).trans h)
  have R1 : Hid (BoxN w1 (w.heap.size + 2) #[.int .i64 0, .int .i64 0, .slice none 0 0, .slice none 0 0] 30) := Lib.hid (by
    have h := World.alloc_heap_new ((w.alloc (.cells #[.int .i64 nw0, .int .i64 kp, .slice Ap rp.length cp, .slice Al ls.length cl] 30)).alloc (.cells #[.int .i64 t, .int .i64 v] 43)) (.cells #[.int .i64 0, .int .i64 0, .slice none 0 0, .slice none 0 0] 30)
    rw [World.size_alloc, World.size_alloc] at h
    rw [← hw1]; exact h)
  have S1 : w.heap.size + 3 ≤ w1.heap.size := by rw [← hw1]; simp
  have HW1 := Lib.hid hw1
  clear hw1
  have x0 := X1.out.cell (i := 0) rfl
  have x1 := X1.out.cell (i := 1) rfl
  have x2 := X1.out.cell (i := 2) rfl
  have x3 := X1.out.cell (i := 3) rfl
  go_enter Try.func28, Try.ntmps28
  go_wp2_with fail
  rw [HW1.out]
  go_wp2_with fail
  refine (hOk.out _ ((HV.out.below B1.out).up B1.out.size)).mono ?_
  rintro e w2 ⟨rfl, hb2⟩
  have X2 : Hid (BoxN w2 w.heap.size #[.int .i64 nw0, .int .i64 kp, .slice Ap rp.length cp, .slice Al ls.length cl] 30) := Lib.hid (X1.out.below hb2)
  have P2 : Hid (BoxN w2 (w.heap.size + 1) #[.int .i64 t, .int .i64 v] 43) := Lib.hid (P1.out.below hb2)
  have R2 : Hid (BoxN w2 (w.heap.size + 2) #[.int .i64 0, .int .i64 0, .slice none 0 0, .slice none 0 0] 30) := Lib.hid (R1.out.below hb2)
  have S2 := hb2.size
  have B2 := Lib.hid (B1.out.trans (hb2.mono (by omega)))
  clear x0 x1 x2 x3 hb2 X1 R1 B1 P1
  have x0 := X2.out.cell (i := 0) rfl
  have x1 := X2.out.cell (i := 1) rfl
  have x2 := X2.out.cell (i := 2) rfl
  have x3 := X2.out.cell (i := 3) rfl
  have p0 := P2.out.cell (i := 0) rfl
  have p1 := P2.out.cell (i := 1) rfl
  have r0 := R2.out.cell (i := 0) rfl
  have r1 := R2.out.cell (i := 1) rfl
  have r2 := R2.out.cell (i := 2) rfl
  have r3 := R2.out.cell (i := 3) rfl
  have f0 := R2.out.frozen (i := 0)
  have f1 := R2.out.frozen (i := 1)
  have f2 := R2.out.frozen (i := 2)
  have f3 := R2.out.frozen (i := 3)

  cases hc : cascB (nw0, kp, rp, ls) with
  | false =>
    have HTF := Lib.hid (show ingB (nw0, kp, rp, ls) (t, v) = false from by rw [hTB, hc]; try rfl)
    clear hc hTB hEq hAdv hSz hCr hKp
    go_wp2_with fail
    rw [HTN.out HTF.out, HTF.out]
    refine bodyPost_ret (v := .tuple #[.agg #[.int .i64 0, .int .i64 0, .slice none 0 0, .slice none 0 0], .bool false]) (by simp [results, Try.results28, go_sem, r0, r1, r2, r3]) rfl ⟨_, _, [], rfl, zC_cd _ _ _, ?_⟩
    repeat (first | with_reducible exact B2.out | refine Below.setCell ?_ (by simp; try omega) _)
  | true =>
  by_cases g1 : nw0 < t
  case neg =>
    have g1' : decide (t ≤ nw0) = true := by simp; omega
    have HTF := Lib.hid (show ingB (nw0, kp, rp, ls) (t, v) = false from by rw [hTB, hc, decide_eq_false (by intro h; exact g1 h.1)]; try rfl)
    clear hc hTB hEq hAdv hSz hCr hKp
    go_wp2_with fail
    rw [HTN.out HTF.out, HTF.out]
    refine bodyPost_ret (v := .tuple #[.agg #[.int .i64 0, .int .i64 0, .slice none 0 0, .slice none 0 0], .bool false]) (by simp [results, Try.results28, go_sem, r0, r1, r2, r3]) rfl ⟨_, _, [], rfl, zC_cd _ _ _, ?_⟩
    repeat (first | with_reducible exact B2.out | refine Below.setCell ?_ (by simp; try omega) _)

  have g1' : decide (t ≤ nw0) = false := by simp; omega
  by_cases g2 : t ≤ 1000000000000
  case neg =>
    have g2' : decide (1000000000000 < t) = true := by simp; omega
    have HTF := Lib.hid (show ingB (nw0, kp, rp, ls) (t, v) = false from by rw [hTB, hc, decide_eq_false (by intro h; exact g2 h.2)]; try rfl)
    clear hc hTB hEq hAdv hSz hCr hKp
    go_wp2_with fail
    rw [HTN.out HTF.out, HTF.out]
    refine bodyPost_ret (v := .tuple #[.agg #[.int .i64 0, .int .i64 0, .slice none 0 0, .slice none 0 0], .bool false]) (by simp [results, Try.results28, go_sem, r0, r1, r2, r3]) rfl ⟨_, _, [], rfl, zC_cd _ _ _, ?_⟩
    repeat (first | with_reducible exact B2.out | refine Below.setCell ?_ (by simp; try omega) _)

  have g2' : decide (1000000000000 < t) = false := by simp; omega
  cases hs : smB v with
  | false =>
    rw [hs] at hSm
    have HTF := Lib.hid (show ingB (nw0, kp, rp, ls) (t, v) = false from by rw [hTB, hc, hs, decide_eq_true (And.intro g1 g2)]; try rfl)
    clear hc hTB hEq hAdv hSz hCr hKp
    clear hs
    go_wp2_with fail
    refine (hSm.out _).mono ?_
    rintro e w2b ⟨rfl, rfl⟩
    go_wp2_with fail
    rw [HTN.out HTF.out, HTF.out]
    refine bodyPost_ret (v := .tuple #[.agg #[.int .i64 0, .int .i64 0, .slice none 0 0, .slice none 0 0], .bool false]) (by simp [results, Try.results28, go_sem, r0, r1, r2, r3]) rfl ⟨_, _, [], rfl, zC_cd _ _ _, ?_⟩
    repeat (first | with_reducible exact B2.out | refine Below.setCell ?_ (by simp; try omega) _)

  | true =>
  rw [hs] at hSm
  have hHB := Lib.hid (show ingB (nw0, kp, rp, ls) (t, v) = cascB (ingC (t, v) (nw0, kp, rp, ls)) from by rw [hTB, hc, hs, decide_eq_true (And.intro g1 g2)]; rfl)
  obtain ⟨hv1, hv2⟩ : -1000000000 ≤ v ∧ v ≤ 1000000000 := by unfold smB vIn at hs; exact decide_eq_true_iff.1 hs
  obtain ⟨hn0, hk0, _⟩ := hKp.out hc
  have hn0' : 0 ≤ nw0 ∧ nw0 ≤ 1000000000000 := hn0
  have hk0' : 1 ≤ kp ∧ kp ≤ 1000000000 := hk0
  obtain ⟨hq1, hq2, hq3⟩ := hSz.out hc
  have hq1 : rp.length ≤ 120 := hq1
  have hq2 : ls.length ≤ 4 := hq2
  have hq3 : ∀ j, j < ls.length → 1 ≤ (ls.getD j zLv).1 ∧ (ls.getD j zLv).2.2.length ≤ 400 := hq3
  have HQ3 := Lib.hid (show ∀ j, j < ls.length → 1 ≤ (ls.getD j zLv).1 ∧ (ls.getD j zLv).2.2.length ≤ 1000000 from fun j hj => ⟨(hq3 j hj).1, by have := (hq3 j hj).2; omega⟩)
  have hlv := Lib.hid (hAdv.out hc g1 (by show 0 ≤ t; omega))
  have hEQ := Lib.hid (hEq.out hc g1)
  have hCR := Lib.hid (hCr.out hc (by show 0 ≤ t ∧ t ≤ 1000000000000; omega) (by show Rng v; unfold Rng; omega))
  clear hc hTB hAdv hKp hOk hn0 hk0 hEq hSz hCr hq3 hs
  have hvr : Rng v := ⟨by omega, by omega⟩
  have ht0 : 0 ≤ t := by omega
  go_wp2_with fail
  refine (hSm.out _).mono ?_
  rintro e w2b ⟨rfl, rfl⟩
  go_wp2_with fail
  refine (hCp.out _ ((HV.out.below B2.out).up B2.out.size)).mono ?_
  rintro e w3 ⟨rv3, lv3, es3, rfl, hco3, hb3⟩
  have S3 := hb3.size
  have R3 : Hid (BoxN w3 (w.heap.size + 2) #[.int .i64 0, .int .i64 0, .slice none 0 0, .slice none 0 0] 30) := Lib.hid (R2.out.below hb3)
  have P3 : Hid (BoxN w3 (w.heap.size + 1) #[.int .i64 t, .int .i64 v] 43) := Lib.hid (P2.out.below hb3)
  have B3 := Lib.hid (B2.out.trans (hb3.mono (by omega)))
  obtain ⟨pa, pc, rfl⟩ := (ORow.of_own hco3.raw).shape
  obtain ⟨A3, c3, rfl⟩ := (ORow.of_own hco3.row).shape
  obtain ⟨w4, hw4⟩ : ∃ w4, w3.alloc (.cells #[.int .i64 nw0, .int .i64 kp, .slice pa rp.length pc, .slice A3 ls.length c3] 30) = w4 := ⟨_, rfl⟩
  have hb4 : Below w3.heap.size w3 w4 := by rw [← hw4]; exact (Below.refl _ _).alloc (Nat.le_refl _) _
  have X4 : BoxN w4 w3.heap.size #[.int .i64 nw0, .int .i64 kp, .slice pa rp.length pc, .slice A3 ls.length c3] 30 := by rw [← hw4]; exact World.alloc_heap_new w3 _
  have R4 : Hid (BoxN w4 (w.heap.size + 2) #[.int .i64 0, .int .i64 0, .slice none 0 0, .slice none 0 0] 30) := Lib.hid (R3.out.below hb4)
  have P4 : Hid (BoxN w4 (w.heap.size + 1) #[.int .i64 t, .int .i64 v] 43) := Lib.hid (P3.out.below hb4)
  have S4 := hb4.size
  have B4 := Lib.hid (B3.out.trans (hb4.mono (by omega)))
  have HA := Lib.hid (add_go w3.heap.size w2.heap.size nw0 kp t v pa A3 pc c3 rp ls es3 w4 X4 (hco3.at_ (fun g hg => hb4.block g (hco3.lt hg).2)) (by omega) ⟨ht0, g2⟩ hvr (by omega) (by omega) HQ3.out)
  have p0 := P4.out.cell (i := 0) rfl
  have p1 := P4.out.cell (i := 1) rfl
  have HW4 := Lib.hid hw4
  clear hw4 hb4 X4 hco3 hb3 x0 x1 x2 x3 r0 r1 r2 r3 f0 f1 f2 f3 R3 B3 R2 B2 X2 P2 P3
  go_upto_region 4 with fail
  rw [HW4.out]
  go_wp2_with fail
  refine HA.out.mono ?_
  rintro e w5 ⟨⟨ve, rfl⟩, ho, hta, hou, hs, hbk, pa5, pc5, es5, hbx, hco⟩
  have R5 : Hid (BoxN w5 (w.heap.size + 2) #[.int .i64 0, .int .i64 0, .slice none 0 0, .slice none 0 0] 30) := Lib.hid ((hbk _ (by omega) (by omega)).trans R4.out)
  have P5 : Hid (BoxN w5 (w.heap.size + 1) #[.int .i64 t, .int .i64 v] 43) := Lib.hid ((hbk _ (by omega) (by omega)).trans P4.out)
  have B5 := Lib.hid (B4.out.trans (show Below w.heap.size w4 w5 from ⟨ho, hta, hou, hs, fun k hk => hbk k (by omega) (by omega)⟩))
  have hco' : CO w5 w2.heap.size (nw0, kp, rp ++ [(t, v)], ls.map (addLvI (t, v))) (.slice pa5 (rp ++ [(t, v)]).length pc5) (.slice A3 (ls.map (addLvI (t, v))).length c3) es5 := by rw [List.length_append, List.length_map]; exact hco
  have hbx' : BoxN w5 w3.heap.size #[.int .i64 nw0, .int .i64 kp, .slice pa5 (rp ++ [(t, v)]).length pc5, .slice A3 (ls.map (addLvI (t, v))).length c3] 30 := by rw [List.length_append, List.length_map]; exact hbx
  have hAd := Lib.hid (advance_co w3.heap.size w2.heap.size nw0 t kp pa5 A3 pc5 c3 (rp ++ [(t, v)]) (ls.map (addLvI (t, v))) es5 w5 hbx' hco' (by omega) ⟨ht0, g2⟩ ⟨by omega, by omega⟩ (by rw [List.length_append]; simp; omega) (by rw [List.length_map]; omega) hlv.out)
  have p0 := P5.out.cell (i := 0) rfl
  have S5 := B5.out.size
  clear HA R4 P4 B4 hco hbx hco' hbx' hbk ho hta hou p1 HW4
  go_wp2_with fail
  refine hAd.out.mono ?_
  rintro e w6 ⟨⟨ve6, rfl⟩, ho, hta, hou, hs6, hbk, rv6, es6, hbx, hcd⟩
  have R6 : Hid (BoxN w6 (w.heap.size + 2) #[.int .i64 0, .int .i64 0, .slice none 0 0, .slice none 0 0] 30) := Lib.hid ((hbk _ (by omega) (by omega)).trans R5.out)
  have B6 := Lib.hid (B5.out.trans (show Below w.heap.size w5 w6 from ⟨ho, hta, hou, hs6, fun k hk => hbk k (by omega) (by omega)⟩))
  rw [List.length_map] at hbx hcd
  have hcd : CD w6 w2.heap.size w5.heap.size (ingC (t, v) (nw0, kp, rp, ls)) rv6 (.slice A3 ls.length c3) es6 := by rw [← hEQ.out]; exact hcd
  obtain ⟨m6, hm6⟩ : ∃ m6, (ingC (t, v) (nw0, kp, rp, ls)).2.2.1.length = m6 := ⟨_, rfl⟩
  obtain ⟨pa6, pc6, rfl⟩ : ∃ a c, rv6 = .slice a m6 c := by rw [← hm6]; exact hcd.raw.shape
  have hc6 := Lib.hid (hOk2.out _ (ingC (t, v) (nw0, kp, rp, ls)) w6 (show CV w6 w6.heap.size (.agg #[.int .i64 t, .int .i64 kp, .slice pa6 m6 pc6, .slice A3 ls.length c3]) _ from hcd.cv hCR.out))
  have y0 := hbx.cell (i := 0) rfl
  have y1 := hbx.cell (i := 1) rfl
  have y2 := hbx.cell (i := 2) rfl
  have y3 := hbx.cell (i := 3) rfl
  have HBX := Lib.hid hbx
  have HCD := Lib.hid hcd
  have S6 : w5.heap.size ≤ w6.heap.size := hs6
  clear hcd hbx hbk ho hta hou R5 P5 B5 hAd p0 hOk2 hlv hEQ hCR hm6
  go_wp2_with fail
  refine hc6.out.mono ?_
  rintro e w7 ⟨rfl, hb7⟩
  have X7 : Hid (BoxN w7 w3.heap.size #[.int .i64 t, .int .i64 kp, .slice pa6 m6 pc6, .slice A3 ls.length c3] 30) := Lib.hid (HBX.out.below hb7)
  have R7 : Hid (BoxN w7 (w.heap.size + 2) #[.int .i64 0, .int .i64 0, .slice none 0 0, .slice none 0 0] 30) := Lib.hid (R6.out.below hb7)
  have B7 := Lib.hid (B6.out.trans (hb7.mono (by omega)))
  have S7 := hb7.size
  have HCD7 := Lib.hid (HCD.out.below hb7)
  have y0 := X7.out.cell (i := 0) rfl
  have y1 := X7.out.cell (i := 1) rfl
  have y2 := X7.out.cell (i := 2) rfl
  have y3 := X7.out.cell (i := 3) rfl
  have r0 := R7.out.cell (i := 0) rfl
  have r1 := R7.out.cell (i := 1) rfl
  have r2 := R7.out.cell (i := 2) rfl
  have r3 := R7.out.cell (i := 3) rfl
  have f0 := R7.out.frozen (i := 0)
  have f1 := R7.out.frozen (i := 1)
  have f2 := R7.out.frozen (i := 2)
  have f3 := R7.out.frozen (i := 3)
  have hne1 : ¬ w3.heap.size = w.heap.size + 2 := by omega
  have hne2 : ¬ w.heap.size + 2 = w3.heap.size := by omega
  clear hb7 HCD R6 B6 HBX hc6 HV hCp hSm
  cases hi : cascB (ingC (t, v) (nw0, kp, rp, ls)) with
  | false =>
    have HTF := Lib.hid (show ingB (nw0, kp, rp, ls) (t, v) = false from by rw [hHB.out, hi])
    clear hi hHB
    go_wp2_with fail
    rw [HTN.out HTF.out, HTF.out]
    refine bodyPost_ret (v := .tuple #[.agg #[.int .i64 0, .int .i64 0, .slice none 0 0, .slice none 0 0], .bool false]) (by simp [results, Try.results28, go_sem, r0, r1, r2, r3]) rfl ⟨_, _, [], rfl, zC_cd _ _ _, ?_⟩
    repeat (first | with_reducible exact B7.out | refine Below.setCell ?_ (by simp; try omega) _)
  | true =>
    have HTT := Lib.hid (show ingB (nw0, kp, rp, ls) (t, v) = true from by rw [hHB.out, hi])
    clear hi hHB
    go_wp2_with fail
    rw [HTY.out HTT.out, HTT.out]
    refine bodyPost_ret (v := .tuple #[.agg #[.int .i64 t, .int .i64 kp, .slice pa6 m6 pc6, .slice A3 ls.length c3], .bool true]) (by simp [results, Try.results28, go_sem, r0, r1, r2, r3]) rfl ⟨.slice pa6 m6 pc6, .slice A3 ls.length c3, es6, rfl, (CD.at_ (W := w7) HCD7.out (fun g hg => ?_)).lift (by omega) (by simp [World.setCell]; omega), ?_⟩
    · have hlo := (HCD7.out.lt hg).1
      repeat (first | with_reducible rfl | refine (Below.heap_setCell _ _ _ _ (by simp; omega)).trans ?_)
    · repeat (first | with_reducible exact B7.out | refine Below.setCell ?_ (by simp; try omega) _)
end Go.Proofs.Ytcjpedolmnahfaa
