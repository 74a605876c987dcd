/- Walks: cascades: copied, told by rows of the call's own, empty ones too. -/
import Derived.Test.YtcjpedolmnahfaaYy
set_option linter.unusedVariables false
set_option linter.unusedSimpArgs false
namespace Go.Proofs.Ytcjpedolmnahfaa
open Go.RowKit Go.Shelf
attribute [local go_sem] Oper.semAt_some
theorem own_same {W W' : World} {base sz n : Nat} {e : TypeId} {v : Value} {xs : List Value} (h : W.ownsRow base e sz v n xs) (hb : ∀ g, v.ownBlock = some g → W'.heap[g]? = W.heap[g]?) : W'.ownsRow base e sz v n xs := by
  refine ⟨h.1, ?_⟩
  rcases h.2 with h | ⟨g, cap, cur, rfl, hbase, hg, hr⟩
  · exact .inl h
  · exact .inr ⟨g, cap, cur, rfl, hbase, (hb g rfl).trans hg, hr⟩
theorem own_lift {W : World} {base base' sz n : Nat} {e : TypeId} {v : Value} {xs : List Value} (h : W.ownsRow base e sz v n xs) (hb : base' ≤ base) : W.ownsRow base' e sz v n xs := by
  refine ⟨h.1, ?_⟩
  rcases h.2 with h | ⟨g, cap, cur, rfl, hbase, hg, hr⟩
  · exact .inl h
  · exact .inr ⟨g, cap, cur, rfl, Nat.le_trans hb hbase, hg, hr⟩
theorem own_cells {W : World} {base sz n : Nat} {e : TypeId} {v : Value} {xs : List Value} (h : W.ownsRow base e sz v n xs) {g : Nat} (hg : v.ownBlock = some g) : ∃ o : Obj, W.heap[g]? = some o ∧ o.isCells = true := by
  rcases h.2 with ⟨rfl, _⟩ | ⟨g', cap, cur, rfl, hbase, hh, hr⟩
  · cases hg
  · have e : g' = g := by injection hg
    subst e
    exact ⟨_, hh, rfl⟩
/-- a cascade whose rows are the call's own, all apart, empty ones too -/
structure CO (W : World) (base : Nat) (c : Cs) (rv lv : Value) (es : List LvC) : Prop where
  raw : W.ownsRow base 43 2 rv c.2.2.1.length (prs c.2.2.1)
  len : es.length = c.2.2.2.length
  row : W.ownsRow base 51 3 lv c.2.2.2.length (lvs es)
  lv : ∀ j, j < c.2.2.2.length → (es.getD j zLc).1 = (c.2.2.2.getD j zLv).1 ∧ (es.getD j zLc).2.1 = (c.2.2.2.getD j zLv).2.1
  own : ∀ j, j < c.2.2.2.length → W.ownsRow base 48 6 (es.getD j zLc).2.2 (c.2.2.2.getD j zLv).2.2.length (rls (c.2.2.2.getD j zLv).2.2)
  dist : ∀ i j g, i < c.2.2.2.length → j < c.2.2.2.length → ¬ i = j → (es.getD i zLc).2.2.ownBlock = some g → ¬ (es.getD j zLc).2.2.ownBlock = some g
def OBk (c : Cs) (rv lv : Value) (es : List LvC) (g : Nat) : Prop := rv.ownBlock = some g ∨ lv.ownBlock = some g ∨ ∃ j, j < c.2.2.2.length ∧ (es.getD j zLc).2.2.ownBlock = some g
theorem CO.lt {W : World} {base : Nat} {c : Cs} {rv lv : Value} {es : List LvC} (h : CO W base c rv lv es) {g : Nat} (hg : OBk c rv lv es g) : base ≤ g ∧ g < W.heap.size := by
  rcases hg with hg | hg | ⟨j, hj, hg⟩
  · exact h.raw.lt g hg
  · exact h.row.lt g hg
  · exact (h.own j hj).lt g hg
theorem CO.at_ {W W' : World} {base : Nat} {c : Cs} {rv lv : Value} {es : List LvC} (h : CO W base c rv lv es) (hb : ∀ g, OBk c rv lv es g → W'.heap[g]? = W.heap[g]?) : CO W' base c rv lv es :=
  ⟨own_same h.raw (fun g hg => hb g (.inl hg)), h.len, own_same h.row (fun g hg => hb g (.inr (.inl hg))), h.lv, fun j hj => own_same (h.own j hj) (fun g hg => hb g (.inr (.inr ⟨j, hj, hg⟩))), h.dist⟩
theorem CO.lift {W : World} {base base' : Nat} {c : Cs} {rv lv : Value} {es : List LvC} (h : CO W base c rv lv es) (hb : base' ≤ base) : CO W base' c rv lv es :=
  ⟨own_lift h.raw hb, h.len, own_lift h.row hb, h.lv, fun j hj => own_lift (h.own j hj) hb, h.dist⟩
theorem CO.isCells {W : World} {base : Nat} {c : Cs} {rv lv : Value} {es : List LvC} (h : CO W base c rv lv es) {g : Nat} (hg : OBk c rv lv es g) : ∃ o : Obj, W.heap[g]? = some o ∧ o.isCells = true := by
  rcases hg with hg | hg | ⟨j, hj, hg⟩
  · exact own_cells h.raw hg
  · exact own_cells h.row hg
  · exact own_cells (h.own j hj) hg
theorem CO.cd {W : World} {base : Nat} {c : Cs} {rv lv : Value} {es : List LvC} (h : CO W base c rv lv es) : CD W base W.heap.size c rv lv es := by
  refine ⟨ORow.of_own h.raw, ⟨h.len, ORow.of_own h.row, fun j hj => ⟨(h.lv j hj).1, (h.lv j hj).2, ORow.of_own (h.own j hj)⟩, fun j g hj hg => own_type_ne (h.own j hj) h.row (by decide) (obk_own hg), fun i j g hij hj hi hj' => (have hj2 : j < c.2.2.2.length := hj; h.dist i j g (by omega) hj2 (by omega) (obk_own hi) (obk_own hj'))⟩, fun g hg hS => ?_⟩
  rcases hS with hS | ⟨j, hj, hS⟩
  · exact own_type_ne h.raw h.row (by decide) (obk_own hg) (obk_own hS)
  · exact own_type_ne h.raw (h.own j hj) (by decide) (obk_own hg) (obk_own hS)
theorem CopI.co {n₀ base : Nat} {v rv : Value} {nw kp : Int} {rp : List (Int × Int)} {ls : List Lv} {pre : List Nat} {es : List LvC} {W : World} (h : CopI n₀ base v ls pre es W) (hp : ∀ j, j < ls.length → j ∈ pre) (hr : W.ownsRow base 43 2 rv rp.length (prs rp)) : CO W base (nw, kp, rp, ls) rv v es :=
  ⟨hr, h.len, h.row, h.lv, fun j hj => h.own j hj (hp j hj), fun i j g hi hj hij => h.dist i j g hi hj (hp i hi) (hp j hj) hij⟩
def CPostO (base : Nat) (c : Cs) (w : World) (e : Ending) (w' : World) : Prop :=
  ∃ rv lv es, e = .returned (.agg #[.int .i64 c.1, .int .i64 c.2.1, rv, lv]) ∧ CO w' base c rv lv es ∧ Below w.heap.size w w'
set_option maxRecDepth 100000 in
set_option maxHeartbeats 8000000 in
theorem copiedO_go (nw kp : Int) (Ap Al : Option Addr) (cp cl : Nat) (rp : List (Int × Int)) (ls : List Lv) (w : World) (hP : PL w w.heap.size (.slice Ap rp.length cp) rp) (hL : LS w w.heap.size (.slice Al ls.length cl) ls) :
    Calls Try.prog 65 #[.agg #[.int .i64 nw, .int .i64 kp, .slice Ap rp.length cp, .slice Al ls.length cl]] w (CPostO w.heap.size (nw, kp, rp, ls) w) := by
  refine (callsIn_wide (n := 4)).1 ?_
  have HP := Lib.hid hP
  have HL := Lib.hid hL
  have HRR := Lib.hid hL.rolls
  have hll := hL.2.1
  have HCp := Lib.hid (fun W h => clonePt_any (.slice Ap rp.length cp) rp W h)
  have HCl := Lib.hid (fun W h hB => cloneLv_any w.heap.size (.slice Al ls.length cl) ls W h hB)
  clear hP hL
  refine callsIn_of_wp_marks Try.func65 rfl trivial ?_ rfl
  simp only [Try.ntmps65, List.size_toArray, List.length_cons, List.length_nil, Nat.reduceAdd, Nat.reduceSub, Array.replicate_succ, Array.replicate_zero, List.push_toArray, List.append_toArray, List.nil_append, List.cons_append]
  obtain ⟨w1, hw1⟩ : ∃ w1, (w.alloc (.cells #[.int .i64 nw, .int .i64 kp, .slice Ap rp.length cp, .slice Al ls.length cl] 30)).alloc (.cells #[.int .i64 0, .int .i64 0, .slice none 0 0, .slice none 0 0] 30) = w1 := ⟨_, rfl⟩
  have B1 := Lib.hid (show Below w.heap.size w w1 from by rw [← hw1]; exact ((Below.refl _ w).alloc (Nat.le_refl _) _).alloc (by simp) _)
  have X1 : Hid (BoxN w1 w.heap.size #[.int .i64 nw, .int .i64 kp, .slice Ap rp.length cp, .slice Al ls.length cl] 30) := Lib.hid (by
    have h := World.alloc_heap_new w (.cells #[.int .i64 nw, .int .i64 kp, .slice Ap rp.length cp, .slice Al ls.length cl] 30)
    rw [← hw1]
    exact (Below.heap_alloc _ _ _ (by simp)).trans h)
  have R1 : Hid (BoxN w1 (w.heap.size + 1) #[.int .i64 0, .int .i64 0, .slice none 0 0, .slice none 0 0] 30) := Lib.hid (by
    have h := World.alloc_heap_new (w.alloc (.cells #[.int .i64 nw, .int .i64 kp, .slice Ap rp.length cp, .slice Al ls.length cl] 30)) (.cells #[.int .i64 0, .int .i64 0, .slice none 0 0, .slice none 0 0] 30)
    rw [World.size_alloc] at h
    rw [← hw1]; exact h)
  have S1 : w.heap.size + 2 ≤ w1.heap.size := by rw [← hw1]; simp
  have HW1 := Lib.hid hw1
  clear hw1
  gi_wp2
  refine ⟨trivial, ?_⟩
  rw [HW1.out]
  refine (callsIn_wide.2 (HCp.out _ ((HP.out.below B1.out).up B1.out.size))).mono ?_
  rintro e w2 ⟨v2, rfl, ho2, hb2⟩
  obtain ⟨pa, pc, rfl⟩ := (ORow.of_own ho2).shape
  have X2 : BoxN w2 w.heap.size #[.int .i64 nw, .int .i64 kp, .slice Ap rp.length cp, .slice Al ls.length cl] 30 := (hb2.block _ X1.out.lt).trans X1.out
  have R2 : BoxN w2 (w.heap.size + 1) #[.int .i64 0, .int .i64 0, .slice none 0 0, .slice none 0 0] 30 := (hb2.block _ R1.out.lt).trans R1.out
  obtain ⟨ws2, hws2⟩ : ∃ ws2, w2.setCell ⟨w.heap.size, 2, none⟩ (.slice pa rp.length pc) = ws2 := ⟨_, rfl⟩
  have X2s : Hid (BoxN ws2 w.heap.size #[.int .i64 nw, .int .i64 kp, .slice pa rp.length pc, .slice Al ls.length cl] 30) := Lib.hid (by rw [← hws2]; exact heap_setCell_same w2 w.heap.size 2 _ _ (.slice pa rp.length pc) X2)
  have R2s : Hid (BoxN ws2 (w.heap.size + 1) #[.int .i64 0, .int .i64 0, .slice none 0 0, .slice none 0 0] 30) := Lib.hid (by rw [← hws2]; exact (Below.heap_setCell _ _ _ _ (by simp)).trans R2)
  have O2s := Lib.hid (show ws2.ownsRow (w.heap.size + 2) 43 2 (.slice pa rp.length pc) rp.length (prs rp) from by rw [← hws2]; exact own_set_other (oi_lift ho2 S1) _ _ _ (by omega))
  have B2s := Lib.hid (show Below w.heap.size w ws2 from by rw [← hws2]; exact (B1.out.trans (hb2.mono B1.out.size)).setCell (p := ⟨w.heap.size, 2, none⟩) (Nat.le_refl _) _)
  have S2s : w.heap.size + 2 ≤ ws2.heap.size := by have := hb2.size; rw [← hws2]; simp [World.setCell]; omega
  have HWS2 := Lib.hid hws2
  have y2 := X2.cell (i := 2) rfl
  have f2 := X2.frozen (i := 2)
  have z3 := X2s.out.cell (i := 3) rfl
  rw [← hws2] at z3
  clear hws2 ho2 hb2 X2 R2
  gi_wp2
  refine ⟨trivial, ?_⟩
  rw [HWS2.out]
  refine (callsIn_wide.2 (HCl.out _ (HL.out.below B2s.out) B2s.out.size)).mono ?_
  rintro e w3 ⟨v3, es, rfl, hel, ho3, hrd, hb3⟩
  obtain ⟨A3, c3, rfl⟩ := (ORow.of_own ho3).shape
  have X3 : BoxN w3 w.heap.size #[.int .i64 nw, .int .i64 kp, .slice pa rp.length pc, .slice Al ls.length cl] 30 := (hb3.block _ X2s.out.lt).trans X2s.out
  have R3 : BoxN w3 (w.heap.size + 1) #[.int .i64 0, .int .i64 0, .slice none 0 0, .slice none 0 0] 30 := (hb3.block _ R2s.out.lt).trans R2s.out
  obtain ⟨ws3, hws3⟩ : ∃ ws3, w3.setCell ⟨w.heap.size, 3, none⟩ (.slice A3 ls.length c3) = ws3 := ⟨_, rfl⟩
  have X3s : Hid (BoxN ws3 w.heap.size #[.int .i64 nw, .int .i64 kp, .slice pa rp.length pc, .slice A3 ls.length c3] 30) := Lib.hid (by rw [← hws3]; exact heap_setCell_same w3 w.heap.size 3 _ _ (.slice A3 ls.length c3) X3)
  have R3s : Hid (BoxN ws3 (w.heap.size + 1) #[.int .i64 0, .int .i64 0, .slice none 0 0, .slice none 0 0] 30) := Lib.hid (by rw [← hws3]; exact (Below.heap_setCell _ _ _ _ (by simp)).trans R3)
  have O3s := Lib.hid (show ws3.ownsRow (w.heap.size + 2) 43 2 (.slice pa rp.length pc) rp.length (prs rp) from by rw [← hws3]; exact own_set_other (u_own_below O2s.out hb3) _ _ _ (by omega))
  have L3s := Lib.hid (show ws3.ownsRow (w.heap.size + 2) 51 3 (.slice A3 ls.length c3) ls.length (lvs es) from by rw [← hws3]; exact own_set_other (oi_lift ho3 S2s) _ _ _ (by omega))
  have B3s := Lib.hid (show Below w.heap.size w ws3 from by rw [← hws3]; exact (B2s.out.trans (hb3.mono B2s.out.size)).setCell (p := ⟨w.heap.size, 3, none⟩) (Nat.le_refl _) _)
  have S3s : w.heap.size + 2 ≤ ws3.heap.size := by have := hb3.size; rw [← hws3]; simp [World.setCell]; omega
  have B3x : Below w.heap.size ws2 ws3 := by rw [← hws3]; exact (hb3.mono B2s.out.size).setCell (p := ⟨w.heap.size, 3, none⟩) (Nat.le_refl _) _
  have HRD := Lib.hid (fun j hj => (⟨(hrd j hj).1, (hrd j hj).2.1, (hrd j hj).2.2.below B3x⟩ : (es.getD j zLc).1 = (ls.getD j zLv).1 ∧ (es.getD j zLc).2.1 = (ls.getD j zLv).2.1 ∧ RL ws3 w.heap.size (es.getD j zLc).2.2 (ls.getD j zLv).2.2))
  clear B3x
  have HEL := Lib.hid hel
  have HWS3 := Lib.hid hws3
  have y3 := X3.cell (i := 3) rfl
  have f3 := X3.frozen (i := 3)
  have q0 := BoxN.cell (i := 0) X3s.out rfl
  have q1 := BoxN.cell (i := 1) X3s.out rfl
  have q2 := BoxN.cell (i := 2) X3s.out rfl
  have q3 := BoxN.cell (i := 3) X3s.out rfl
  rw [← hws3] at q0 q1 q2 q3
  have HLv := Lib.hid (fun W => levels_any nw kp pa A3 rp.length ls.length pc c3 W)
  clear hws3 ho3 hb3 hrd hel X3 R3 y2 f2 z3 O2s X2s R2s
  gi_wp2
  refine ⟨trivial, ?_⟩
  rw [HWS3.out]
  refine (callsIn_wide.2 (HLv.out _)).mono ?_
  rintro e W0 ⟨rfl, hW0⟩
  have N0 : Hid (BoxN W0 ws3.heap.size #[.int .i64 nw, .int .i64 kp, .slice pa rp.length pc, .slice A3 ls.length c3] 30) := Lib.hid (by rw [hW0]; exact World.alloc_heap_new ws3 _)
  have D0 := Lib.hid (show Below ws3.heap.size ws3 W0 from by rw [hW0]; exact (Below.refl _ _).alloc (Nat.le_refl _) _)
  have hs0 : ws3.heap.size < W0.heap.size := N0.out.lt
  have BW0 := Lib.hid (B3s.out.trans (D0.out.mono B3s.out.size))
  have X0 : BoxN W0 w.heap.size #[.int .i64 nw, .int .i64 kp, .slice pa rp.length pc, .slice A3 ls.length c3] 30 := (D0.out.block _ X3s.out.lt).trans X3s.out
  have R0 : BoxN W0 (w.heap.size + 1) #[.int .i64 0, .int .i64 0, .slice none 0 0, .slice none 0 0] 30 := (D0.out.block _ R3s.out.lt).trans R3s.out
  have P0 := u_own_below O3s.out D0.out
  have hrd0 : ∀ j, j < ls.length → RL W0 w.heap.size (es.getD j zLc).2.2 (ls.getD j zLv).2.2 := fun j hj => (HRD.out j hj).2.2.below (D0.out.mono B3s.out.size)
  have I0 : CopI w.heap.size (w.heap.size + 2) (.slice A3 ls.length c3) ls [] es W0 := ⟨HEL.out, u_own_below L3s.out D0.out, fun j hj => ⟨(HRD.out j hj).1, (HRD.out j hj).2.1⟩, fun j hj _ => hrd0 j hj, fun j hj hp => absurd hp (List.not_mem_nil), fun i j g hi hj hp => absurd hp (List.not_mem_nil)⟩
  obtain ⟨gl, hA⟩ : ∃ gl, 0 < ls.length → A3 = some ⟨gl, 0, none⟩ := by
    rcases L3s.out.2 with ⟨h0, h1⟩ | ⟨g, cap, cur, he, _⟩
    · exact ⟨0, fun h => by omega⟩
    · injection he with e1 _ _; exact ⟨g, fun _ => e1⟩
  clear hW0
  gi_wp2
  refine wpIn_rangeFunc_ownG rfl (by omega) (gf := 99) (lb := #[.pointer (some ⟨ws3.heap.size, 0, none⟩)]) rfl trivial (enters_of Try.func99 (by kernel_rfl) rfl)
    (α := {x : Nat // x < ls.length}) (encs := fun x => #[.pointer (some ⟨gl, x.1 * 3, none⟩)]) (Kp := fun W W' => W'.heap[ws3.heap.size]? = W.heap[ws3.heap.size]?) (S := fun ys => ys.map Subtype.val = List.range ls.length) (Sp := fun pre => ∃ k, k ≤ ls.length ∧ pre.map Subtype.val = List.range k) (N := ls.length) (w0 := W0)
    (fun l J Jx W hW _ _ hY h0 => levels2_in 3 (by omega) l ws3.heap.size gl c3 ls.length A3 hA hll J Jx hY W ((hW.cell (p := ⟨ws3.heap.size, 3, none⟩) hs0).trans (N0.out.cell rfl)) h0)
    (fun h k => k.trans h) (fun W l o o' h1 h2 h3 h4 => (grownBy_putObj' W l o').block _ (by have := (Array.getElem?_eq_some_iff.1 h2).1; omega) (fun e => by injection e with e; omega)) (Below.refl _ _) (fun _ => rfl)
    (fun pre W => (∃ es', CopI w.heap.size (w.heap.size + 2) (.slice A3 ls.length c3) ls (pre.map Subtype.val) es' W) ∧ BoxN W w.heap.size #[.int .i64 nw, .int .i64 kp, .slice pa rp.length pc, .slice A3 ls.length c3] 30 ∧ BoxN W (w.heap.size + 1) #[.int .i64 0, .int .i64 0, .slice none 0 0, .slice none 0 0] 30 ∧ W.ownsRow (w.heap.size + 2) 43 2 (.slice pa rp.length pc) rp.length (prs rp) ∧ Below w.heap.size w W ∧ W0.heap.size ≤ W.heap.size)
    (fun c pre W => False)
    (fun pre X Y row hs hg hr => by
      obtain ⟨⟨es', h1⟩, h2, h3, h4, h5, h6⟩ := hs
      have hwz : w.heap.size ≤ W0.heap.size := BW0.out.size
      exact ⟨⟨es', h1.mach hg (fun r e => ⟨Nat.le_trans hwz (hr r e).1, (hr r e).2⟩) h5.size⟩, h2.own hg (fun r e => (hr r e).2), h3.own hg (fun r e => (hr r e).2), own_mach h4 hg (fun r e => (hr r e).2), h5.grown hg h5.size (fun r e => Nat.le_trans hwz (hr r e).1), Nat.le_trans h6 hg.size⟩)
    (fun c pre X Y row hs hg hr => hs)
    ⟨⟨es, I0⟩, X0, R0, P0, BW0.out, Nat.le_refl _⟩
    (fun x => { tmps := #[.agg #[.int .i64 nw, .int .i64 kp, .slice Ap rp.length cp, .slice Al ls.length cl], .pointer (some ⟨w.heap.size, 0, none⟩), .pointer (some ⟨w.heap.size + 1, 0, none⟩), .pointer (some ⟨gl, x.1 * 3, none⟩), .pointer (some ⟨w.heap.size, 2, none⟩), .slice Ap rp.length cp, .slice pa rp.length pc, .pointer (some ⟨w.heap.size, 2, none⟩), .pointer (some ⟨w.heap.size, 3, none⟩), .slice Al ls.length cl, .slice A3 ls.length c3, .pointer (some ⟨w.heap.size, 3, none⟩), .agg #[.int .i64 nw, .int .i64 kp, .slice pa rp.length pc, .slice A3 ls.length c3], .func (.func 99) #[] #[.pointer (some ⟨ws3.heap.size, 0, none⟩)], .pointer (some ⟨gl, x.1 * 3, none⟩), undef, undef, undef, undef, undef, undef, undef, undef, undef], defers := [] }) ?assign ?body ?done ?stop
  case assign =>
    intro l x W K hK
    gi_wp2
    exact hK
  case body =>
    rintro l pre ⟨x, hx⟩ W ⟨⟨es', hI⟩, hX, hR, hPr, hBl, hsz⟩ hlt
    have hA' := hA (by omega)
    subst hA'
    have hwz : w.heap.size + 2 ≤ W.heap.size := by have := BW0.out.size; omega
    have hrl := hI.rl hBl.size hx (HRR.out x hx)
    have hel := hI.len
    have c2 : W.cell? ⟨gl, x * 3 + 2, none⟩ = some (es'.getD x zLc).2.2 := by rw [hI.row.cellAt _ (by omega)]; exact lvs_get2 _ _ (by omega)
    have hglo := hI.row.lt gl rfl
    have hgs : gl < W0.heap.size := by
      have h1 := L3s.out.lt gl rfl
      exact Nat.lt_trans h1.2 hs0
    have hgn : ¬ gl = ws3.heap.size := by
      have h1 := L3s.out.lt gl rfl
      omega
    have HI := Lib.hid hI
    obtain ⟨ra, rc, hrv⟩ : ∃ a c, (es'.getD x zLc).2.2 = .slice a (ls.getD x zLv).2.2.length c := by
      obtain ⟨_, _, a, c, e, _⟩ := hrl
      exact ⟨a, c, e⟩
    rw [hrv] at c2 hrl
    have HCr := Lib.hid (cloneRl_any _ _ W hrl)
    obtain ⟨rn, hrn⟩ : ∃ rn, (ls.getD x zLv).2.2.length = rn := ⟨_, rfl⟩
    have HRN := Lib.hid hrn
    rw [hrn] at c2 HCr
    have hBlH := Lib.hid hBl
    have HX := Lib.hid hX
    have HR := Lib.hid hR
    have HPr := Lib.hid hPr
    clear hrl hrv hrn hI hBl hX hR hPr hA
    gi_wp2_with (refine ⟨trivial, ?_⟩; gi_at_call 105; refine (CallsIn.inRound l (callsIn_wide.2 HCr.out)).mono ?_; rintro e W2 ⟨r, rfl, hor, hb⟩; obtain ⟨ra2, rc2, rfl⟩ := (ORow.of_own hor).shape; have hrow2 := u_own_below HI.out.row hb; have d2 : W2.cell? ⟨gl, x * 3 + 2, none⟩ = some (es'.getD x zLc).2.2 := (by rw [hrow2.cellAt _ (by omega)]; exact lvs_get2 _ _ (by omega)); have f2 := hrow2.frozenAt (x * 3 + 2); have HOR := Lib.hid hor; have HB2 := Lib.hid hb; clear hor hb hrow2 c2)
    have hst := HI.out.step (by omega) hwz hx HB2.out (r := .slice ra2 rn rc2) (by rw [HRN.out]; exact HOR.out)
    have hgw : W.grownBy (W2.setCell ⟨gl, x * 3 + 2, none⟩ (.slice ra2 rn rc2)) (some gl) := (grew_below_yy HB2.out _).trans (grown_set (World.grownBy.refl W2 (some gl)) _ _)
    have hgl2 : w.heap.size + 2 ≤ gl := hglo.1
    refine ⟨KeepsFrom.of_grownBy hgw (fun j e => by injection e with e; omega), hgw.block _ (by omega) (fun e => by injection e with e; omega), ⟨_, by rw [List.map_append]; exact hst⟩, (hgw.block _ HX.out.lt (fun e => by injection e with e; omega)).trans HX.out, (hgw.block _ HR.out.lt (fun e => by injection e with e; omega)).trans HR.out, own_kept_type HPr.out HI.out.row (by decide) hgw, hBlH.out.grown hgw hBlH.out.size (fun k e => by injection e with e; omega), Nat.le_trans hsz hgw.size⟩
  case done =>
    rintro D ys W hD hys ⟨⟨es', hI⟩, hX, hR, hPr, hBl, hsz⟩ hK
    have hall : ∀ j, j < ls.length → j ∈ ys.map Subtype.val := fun j hj => by rw [hys]; exact List.mem_range.2 hj
    have HCD := Lib.hid (hI.co (nw := nw) (kp := kp) hall hPr)
    have HK := Lib.hid hK
    have HBl := Lib.hid hBl
    have x0 := hX.cell (i := 0) rfl
    have x1 := hX.cell (i := 1) rfl
    have x2 := hX.cell (i := 2) rfl
    have x3 := hX.cell (i := 3) rfl
    have r0 := hR.cell (i := 0) rfl
    have r1 := hR.cell (i := 1) rfl
    have r2 := hR.cell (i := 2) rfl
    have r3 := hR.cell (i := 3) rfl
    have g0 := hR.frozen (i := 0)
    have g1 := hR.frozen (i := 1)
    have g2 := hR.frozen (i := 2)
    have g3 := hR.frozen (i := 3)
    obtain ⟨W4, hW4⟩ : ∃ W4, (((W.setCell ⟨w.heap.size + 1, 0, none⟩ (.int .i64 nw)).setCell ⟨w.heap.size + 1, 1, none⟩ (.int .i64 kp)).setCell ⟨w.heap.size + 1, 2, none⟩ (.slice pa rp.length pc)).setCell ⟨w.heap.size + 1, 3, none⟩ (.slice A3 ls.length c3) = W4 := ⟨_, rfl⟩
    have s0 := heap_setCell_same W (w.heap.size + 1) 0 _ _ (.int .i64 nw) hR
    have s1 := heap_setCell_same _ (w.heap.size + 1) 1 _ _ (.int .i64 kp) s0
    have s2 := heap_setCell_same _ (w.heap.size + 1) 2 _ _ (.slice pa rp.length pc) s1
    have s3 := heap_setCell_same _ (w.heap.size + 1) 3 _ _ (.slice A3 ls.length c3) s2
    rw [hW4] at s3
    have R4 : BoxN W4 (w.heap.size + 1) #[.int .i64 nw, .int .i64 kp, .slice pa rp.length pc, .slice A3 ls.length c3] 30 := s3
    have B4 : ∀ k, ¬ k = w.heap.size + 1 → W4.heap[k]? = W.heap[k]? := fun k hk => by
      rw [← hW4]
      exact ((Below.heap_setCell _ _ _ k hk).trans ((Below.heap_setCell _ _ _ k hk).trans ((Below.heap_setCell _ _ _ k hk).trans (Below.heap_setCell _ _ _ k hk))))
    have HL4 := Lib.hid (show Below w.heap.size w W4 from by
      rw [← hW4]
      exact (((hBl.setCell (p := ⟨w.heap.size + 1, 0, none⟩) (by simp) _).setCell (p := ⟨w.heap.size + 1, 1, none⟩) (by simp) _).setCell (p := ⟨w.heap.size + 1, 2, none⟩) (by simp) _).setCell (p := ⟨w.heap.size + 1, 3, none⟩) (by simp) _)
    have hDs : w.heap.size + 1 < D := by have := BW0.out.size; omega
    have hK4 : W4.heap[D]? = some (.deferred (some [])) := (B4 D (by omega)).trans hK
    have HK4 := Lib.hid hK4
    have HB4 := Lib.hid B4
    have HR4 := Lib.hid R4
    have HW4 := Lib.hid hW4
    have hsz4 : W.heap.size ≤ W4.heap.size := by rw [← hW4]; simp [World.setCell]
    clear s0 s1 s2 s3 R4 B4 hW4 hK4 hI hX hR hPr hBl hK hys hall hA
    gi_wp2
    rw [HW4.out]
    refine ⟨by simp, .inl ⟨_, _, rfl, run_takeDeferred HK4.out, ?_⟩⟩
    have hR5 : BoxN (W4.putObj D (.deferred none)) (w.heap.size + 1) #[.int .i64 nw, .int .i64 kp, .slice pa rp.length pc, .slice A3 ls.length c3] 30 := ((grownBy_putObj' W4 D (.deferred none)).block _ HR4.out.lt (fun e => by injection e with e; omega)).trans HR4.out
    have c0 := hR5.cell (i := 0) rfl
    have c1 := hR5.cell (i := 1) rfl
    have c2 := hR5.cell (i := 2) rfl
    have c3' := hR5.cell (i := 3) rfl
    refine ⟨.agg #[.int .i64 nw, .int .i64 kp, .slice pa rp.length pc, .slice A3 ls.length c3], by simp [results, Try.results65, go_sem, c0, c1, c2, c3'], _, _, es', rfl, (CO.at_ (W := W) HCD.out (fun g hg => ?_)).lift (by omega), ?_⟩
    · have hlt := HCD.out.lt hg
      obtain ⟨ob, ho, hc⟩ := HCD.out.isCells hg
      have hgD : ¬ g = D := by
        rintro rfl
        have := HB4.out g (by omega)
        rw [HK4.out, ho] at this
        injection this with this
        subst this
        cases hc
      exact ((grownBy_putObj' W4 D (.deferred none)).block g (by omega) (fun e => by injection e with e; exact hgD e)).trans (HB4.out g (by omega))
    · exact HL4.out.trans ⟨rfl, rfl, rfl, (grownBy_putObj' W4 D (.deferred none)).size, fun k hk => (grownBy_putObj' W4 D (.deferred none)).block k (by have := HL4.out.size; omega) (fun e => by injection e with e; omega)⟩
  case stop =>
    rintro D c pre W hD _ hF
    exact hF.elim
theorem copiedO_any (v : Value) (c : Cs) (w : World) (h : CV w w.heap.size v c) :
    Calls Try.prog 65 #[v] w (CPostO w.heap.size c w) := by
  obtain ⟨nw, kp, rp, ls⟩ := c
  obtain ⟨rv, lv, rfl, hP, hL, z1, z2⟩ := h
  simp only at hP hL ⊢
  obtain ⟨_, _, Ap, cp, rfl, _⟩ := id hP
  obtain ⟨_, _, Al, cl, rfl, _⟩ := id hL
  exact copiedO_go nw kp Ap Al cp cl rp ls w hP hL
end Go.Proofs.Ytcjpedolmnahfaa
