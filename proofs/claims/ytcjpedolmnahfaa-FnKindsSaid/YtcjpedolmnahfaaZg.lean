/- Walks: cascades: advance again, whatever block the cascade's box is: only no row's. -/
import Derived.Test.YtcjpedolmnahfaaZc
set_option linter.unusedVariables false
set_option linter.unusedSimpArgs false
namespace Go.Proofs.Ytcjpedolmnahfaa
open Go.RowKit Go.Shelf

attribute [local go_sem] Oper.semAt_some

set_option maxRecDepth 100000 in
set_option maxHeartbeats 8000000 in
theorem advance2_go (cb base top : Nat) (nw0 nw kp : Int) (pa A3 : Option Addr) (pc c3 : Nat) (rp : List (Int × Int)) (ls : List Lv) (es : List LvC) (w : World)
    (hC : BoxN w cb #[.int .i64 nw0, .int .i64 kp, .slice pa rp.length pc, .slice A3 ls.length c3] 30) (hD : CD w base top (nw0, kp, rp, ls) (.slice pa rp.length pc) (.slice A3 ls.length c3) es) (hcb : ∀ g, CBk (nw0, kp, rp, ls) (.slice pa rp.length pc) (.slice A3 ls.length c3) es g → ¬ g = cb) (hcbw : cb < w.heap.size) (hbw : base ≤ w.heap.size) (htop : top ≤ w.heap.size)
    (hn : 0 ≤ nw ∧ nw ≤ 1000000000000) (hk : 0 ≤ kp ∧ kp ≤ 1000000000) (hrl : rp.length ≤ 1048576) (hll : ls.length ≤ 1048576)
    (hlv : ∀ j, j < ls.length → (1 ≤ (ls.getD j zLv).1 ∧ (ls.getD j zLv).1 ≤ 1000000) ∧ (0 ≤ (ls.getD j zLv).2.1 ∧ (ls.getD j zLv).2.1 ≤ 1000000000) ∧ (ls.getD j zLv).2.2.length ≤ 1048576 ∧ ∀ r ∈ (ls.getD j zLv).2.2, 0 ≤ r.1 ∧ r.1 ≤ nw) :
    Calls Try.prog 73 #[.pointer (some ⟨cb, 0, none⟩), .int .i64 nw] w fun e w' => (∃ v, e = .returned v) ∧ w'.os = w.os ∧ w'.tape = w.tape ∧ w'.output = w.output ∧ w.heap.size ≤ w'.heap.size ∧ (∀ k, k < base → ¬ k = cb → w'.heap[k]? = w.heap[k]?) ∧
      ∃ rv' es', BoxN w' cb #[.int .i64 nw, .int .i64 kp, rv', .slice A3 ls.length c3] 30 ∧ CD w' base top (dropC nw (nw0, kp, rp, ls)) rv' (.slice A3 ls.length c3) es' := by
  refine (callsIn_wide (n := 4)).1 ?_
  refine callsIn_of_wp_marks Try.func73 rfl trivial ?_ rfl
  simp only [Try.ntmps73, List.size_toArray, List.length_cons, List.length_nil, Nat.reduceAdd, Nat.reduceSub, Array.replicate_succ, Array.replicate_zero, List.push_toArray, List.append_toArray, List.nil_append, List.cons_append]
  obtain ⟨ws, hws⟩ : ∃ ws, w.setCell ⟨cb, 0, none⟩ (.int .i64 nw) = ws := ⟨_, rfl⟩
  have sS : ws.heap.size = w.heap.size := by rw [← hws]; simp [World.setCell]
  have Cs : BoxN ws cb #[.int .i64 nw, .int .i64 kp, .slice pa rp.length pc, .slice A3 ls.length c3] 30 := by rw [← hws]; exact heap_setCell_same w cb 0 _ _ (.int .i64 nw) hC
  have Ks : ∀ k, ¬ k = cb → ws.heap[k]? = w.heap[k]? := fun k hk => by rw [← hws]; exact Below.heap_setCell _ _ _ k hk
  have Fs : ws.os = w.os ∧ ws.tape = w.tape ∧ ws.output = w.output := by rw [← hws]; exact ⟨rfl, rfl, rfl⟩
  obtain ⟨w1, hw1⟩ : ∃ w1, (ws.alloc (.cells #[.pointer (some ⟨cb, 0, none⟩)] 129)).alloc (.cells #[.int .i64 nw] 2) = w1 := ⟨_, rfl⟩
  have Ba : Below w.heap.size ws w1 := by rw [← hw1]; exact ((Below.refl _ ws).alloc (by omega) _).alloc (by simp; omega) _
  have P1 : BoxN w1 w.heap.size #[.pointer (some ⟨cb, 0, none⟩)] 129 := by
    have h := World.alloc_heap_new ws (.cells #[.pointer (some ⟨cb, 0, none⟩)] 129)
    rw [sS] at h
    rw [← hw1]
    exact (Below.heap_alloc _ _ _ (by simp; omega)).trans h
  have N1 : BoxN w1 (w.heap.size + 1) #[.int .i64 nw] 2 := by
    have h := World.alloc_heap_new (ws.alloc (.cells #[.pointer (some ⟨cb, 0, none⟩)] 129)) (.cells #[.int .i64 nw] 2)
    rw [World.size_alloc, sS] at h
    rw [← hw1]; exact h
  have C1 : BoxN w1 cb #[.int .i64 nw, .int .i64 kp, .slice pa rp.length pc, .slice A3 ls.length c3] 30 := (Ba.block _ hcbw).trans Cs
  have S1 : w1.heap.size = w.heap.size + 2 := by rw [← hw1]; simp; omega
  have K1 : ∀ k, k < w.heap.size → ¬ k = cb → w1.heap[k]? = w.heap[k]? := fun k hk hne => (Ba.block k hk).trans (Ks k hne)
  have F1 : w1.os = w.os ∧ w1.tape = w.tape ∧ w1.output = w.output := ⟨Ba.os.trans Fs.1, Ba.tape.trans Fs.2.1, Ba.output.trans Fs.2.2⟩
  have D1 : CD w1 base top (nw0, kp, rp, ls) (.slice pa rp.length pc) (.slice A3 ls.length c3) es := hD.at_ (W' := w1) (fun g hg => K1 g (by have := hD.lt hg; omega) (hcb g hg))
  have x0 := hC.cell (i := 0) rfl
  have f0 := hC.frozen (i := 0)
  have q2 := C1.cell (i := 2) rfl
  have p0 := P1.cell (i := 0) rfl
  have HW1 := Lib.hid hw1
  have HWS := Lib.hid hws
  have HC1 := Lib.hid C1
  have HP1 := Lib.hid P1
  have HN1 := Lib.hid N1
  have HK1 := Lib.hid K1
  have HF1 := Lib.hid F1
  have HD1 := Lib.hid D1
  have HCB := Lib.hid hcb
  have hadv : ∀ g, obk (.slice pa rp.length pc) rp.length = some g → AdvF (w.heap.size + 1) w.heap.size cb nw kp g w1.drew := fun g hg => by
    have h1 := D1.raw.lt hg
    have h2 := hcb g (.inl hg)
    exact ⟨(BoxN.cell (W := w1.drew) (i := 0) N1 rfl), (BoxN.cell (W := w1.drew) (i := 0) P1 rfl), (BoxN.cell (W := w1.drew) (i := 1) C1 rfl), by omega, by omega, by omega⟩
  have HDel := Lib.hid (deletePtO_any (.pointer (some ⟨w.heap.size + 1, 0, none⟩)) (.pointer (some ⟨w.heap.size, 0, none⟩)) (fun p => !decide (nw - kp < p.1)) (fun W => ∀ g, obk (.slice pa rp.length pc) rp.length = some g → AdvF (w.heap.size + 1) w.heap.size cb nw kp g W) rp base top (.slice pa rp.length pc) w1.drew
    (fun g hg => ⟨fun W W' hF hgr g' hg' => by rw [hg] at hg'; cases hg'; exact (advP_pred (w.heap.size + 1) w.heap.size cb g nw kp rp hn hk).keep W W' (hF g hg) hgr, fun p hp W hF => (advP_pred (w.heap.size + 1) w.heap.size cb g nw kp rp hn hk).call p hp W (hF g hg)⟩) hadv (D1.raw.at_ (W' := w1.drew) (fun _ _ => rfl)) hrl)
  clear sS Cs Ks Fs Ba P1 N1 C1 K1 F1 D1 hadv hcb
  rw [← hw1] at p0 q2
  rw [← hws] at p0 q2
  clear hw1 hws hD
  gi_wp2
  rw [HWS.out, HW1.out]
  clear x0 f0 p0 q2
  rename_i Q' K hK
  have p0 := HP1.out.cell (i := 0) rfl
  have q2 := HC1.out.cell (i := 2) rfl
  have hbl : Hid (∀ g, obk (.slice pa rp.length pc) rp.length = some g → base ≤ g ∧ g < top ∧ ¬ g = cb) := Lib.hid (fun g hg => ⟨by have := HD1.out.raw.lt hg; omega, by have := HD1.out.raw.lt hg; omega, HCB.out g (.inl hg)⟩)
  have HBD := Lib.hid (Below.refl w1.heap.size w1).drew
  obtain ⟨nk, hnk⟩ : ∃ nk, (rp.filter (fun p => !!decide (nw - kp < p.1))).length = nk := ⟨_, rfl⟩
  refine Go.wpIn_mono (Q := Exit.then (fun (a : Act) (W : World) => ∃ (pa2 : Option Addr) (pc2 : Nat) (W2 : World) (t1 t2 t3 t4 t5 t6 t7 t8 t9 : Value), a = { tmps := #[.pointer (some ⟨cb, 0, none⟩), .int .i64 nw, .pointer (some ⟨w.heap.size, 0, none⟩), .pointer (some ⟨w.heap.size + 1, 0, none⟩), undef, .pointer (some ⟨cb, 0, none⟩), .int .i64 nw, .pointer (some ⟨cb, 0, none⟩), .pointer (some ⟨cb, 0, none⟩), t1, t2, t3, t4, t5, t6, t7, t8, t9, undef, undef, undef, undef, undef, undef, undef, undef, undef, undef, undef, undef, undef, undef], defers := [] } ∧ W = W2.setCell ⟨cb, 2, none⟩ (.slice pa2 nk pc2) ∧
      ORow W2 base top 43 2 (.slice pa2 nk pc2) nk (prs (rp.filter (fun p => !!decide (nw - kp < p.1)))) ∧ (∀ g, obk (.slice pa2 nk pc2) nk = some g → obk (.slice pa rp.length pc) rp.length = some g) ∧ Chg (fun b => obk (.slice pa rp.length pc) rp.length = some b) w1 W2) (fun _ _ _ => False)) ?_ ?post
  case post =>
    rintro e a W hq
    cases e with
    | normal =>
      refine hK _ _ ?_
      obtain ⟨pa2, pc2, W2, t1, t2, t3, t4, t5, t6, t7, t8, t9, rfl, rfl, hor, hob, hch⟩ := hq
      obtain ⟨W3, hW3⟩ : ∃ W3, W2.setCell ⟨cb, 2, none⟩ (.slice pa2 nk pc2) = W3 := ⟨_, rfl⟩
      rw [hW3]
      have sz2 := hch.size
      have sz3 : W3.heap.size = W2.heap.size := by rw [← hW3]; simp [World.setCell]
      have k2 : ∀ k, k < w1.heap.size → ¬ (base ≤ k ∧ k < top ∧ ¬ k = cb) → W2.heap[k]? = w1.heap[k]? := fun k hk hne => hch.block k hk (fun e => hne (hbl.out k e))
      have k3 : ∀ k, ¬ k = cb → W3.heap[k]? = W2.heap[k]? := fun k hk => by rw [← hW3]; exact Below.heap_setCell _ _ _ k hk
      have C3 : BoxN W3 cb #[.int .i64 nw, .int .i64 kp, .slice pa2 nk pc2, .slice A3 ls.length c3] 30 := by rw [← hW3]; exact heap_setCell_same W2 cb 2 _ _ (.slice pa2 nk pc2) ((k2 cb (by omega) (by omega)).trans HC1.out)
      have P3 : BoxN W3 w.heap.size #[.pointer (some ⟨cb, 0, none⟩)] 129 := (k3 _ (by omega)).trans ((k2 _ (by omega) (by omega)).trans HP1.out)
      have N3 : BoxN W3 (w.heap.size + 1) #[.int .i64 nw] 2 := (k3 _ (by omega)).trans ((k2 _ (by omega) (by omega)).trans HN1.out)
      have R3 : ORow W3 base top 43 2 (.slice pa2 nk pc2) nk (prs (rp.filter (fun p => !!decide (nw - kp < p.1)))) := hor.at_ (fun g hg => k3 g (hbl.out g (hob g hg)).2.2)
      have L3 : LD W3 base top (.slice A3 ls.length c3) ls es := HD1.out.lvl.at_ (fun g hg => (k3 g (HCB.out g (.inr hg))).trans (hch.block g (HD1.out.lvl.lt hg).2.2 (fun e => HD1.out.off g e hg)))
      have O3 : ∀ g, obk (.slice pa2 nk pc2) nk = some g → ¬ LBk (.slice A3 ls.length c3) ls es g := fun g hg => HD1.out.off g (hob g hg)
      have G3 : Chg (fun b => base ≤ b ∨ b = cb) w W3 := by
        refine ⟨?_, ?_, ?_, by omega, fun k hk hne => (k3 k (fun e => hne (.inr e))).trans ((k2 k (by omega) (fun e => hne (.inl e.1))).trans (HK1.out k hk (fun e => hne (.inr e))))⟩
        · rw [← hW3]; exact hch.os.trans HF1.out.1
        · rw [← hW3]; exact hch.tape.trans HF1.out.2.1
        · rw [← hW3]; exact hch.output.trans HF1.out.2.2
      have p03 := BoxN.cell (i := 0) P3 rfl
      have q0 := BoxN.cell (i := 0) C3 rfl
      have q1 := BoxN.cell (i := 1) C3 rfl
      have q2 := BoxN.cell (i := 2) C3 rfl
      have q3 := BoxN.cell (i := 3) C3 rfl
      have sz3l := Nat.le_of_eq sz3
      have sz3g := Nat.le_of_eq sz3.symm
      clear sz3
      have HLv := Lib.hid (fun W => levels_any nw kp pa2 A3 nk ls.length pc2 c3 W)
      clear HC1 HP1 HN1 HK1 HF1 HD1 HDel HBD HW1 HWS hbl hor hch k2 k3 hK p0
      gi_wp2
      refine ⟨trivial, ?_⟩
      refine (callsIn_wide.2 (HLv.out _)).mono ?_
      rintro e W0 ⟨rfl, hW0⟩
      have N0 : BoxN W0 W3.heap.size #[.int .i64 nw, .int .i64 kp, .slice pa2 nk pc2, .slice A3 ls.length c3] 30 := by rw [hW0]; exact World.alloc_heap_new W3 _
      have D0 : Below W3.heap.size W3 W0 := by rw [hW0]; exact (Below.refl _ _).alloc (Nat.le_refl _) _
      have hs0 : W3.heap.size < W0.heap.size := N0.lt
      have C0 : BoxN W0 cb #[.int .i64 nw, .int .i64 kp, .slice pa2 nk pc2, .slice A3 ls.length c3] 30 := (D0.block _ (by omega)).trans C3
      have Nn0 : BoxN W0 (w.heap.size + 1) #[.int .i64 nw] 2 := (D0.block _ (by omega)).trans N3
      have R0 := R3.at_ (W' := W0) (fun g hg => D0.block g (R3.lt hg).2.2)
      have L0 := L3.at_ (W' := W0) (fun g hg => D0.block g (L3.lt hg).2.2)
      have G0 : Chg (fun b => base ≤ b ∨ b = cb) w W0 := G3.trans ⟨D0.os, D0.tape, D0.output, D0.size, fun k hk _ => D0.block k hk⟩
      obtain ⟨gl, hA⟩ : ∃ gl, 0 < ls.length → A3 = some ⟨gl, 0, none⟩ := by
        rcases L3.row with ⟨h, _⟩ | ⟨h0, _⟩
        · rcases h.2 with ⟨h0, h1⟩ | ⟨g, cap, cur, he, _⟩
          · exact ⟨0, fun h => by omega⟩
          · injection he with e1 _ _; exact ⟨g, fun _ => e1⟩
        · exact ⟨0, fun h => by omega⟩
      clear hW0 C3 P3 N3 R3 L3 G3 p03 q0 q1 q2 q3
      gi_wp2
      refine wpIn_rangeFunc_ownH rfl (by omega) (gf := 99) (lb := #[.pointer (some ⟨W3.heap.size, 0, none⟩)]) rfl trivial (enters_of Try.func99 (by kernel_rfl) rfl)
        (α := {x : Nat // x < ls.length}) (encs := fun x => #[.pointer (some ⟨gl, x.1 * 3, none⟩)]) (Kp := fun W W' => W'.heap[W3.heap.size]? = W.heap[W3.heap.size]?) (S := fun ys => ys.map Subtype.val = List.range ls.length) (Sp := fun pre => ∃ k, k ≤ ls.length ∧ pre.map Subtype.val = List.range k) (N := ls.length) (w0 := W0)
        (fun l J Jx W hW _ _ hY h0 => levels2_in 3 (by omega) l W3.heap.size gl c3 ls.length A3 hA hll J Jx hY W ((hW.cell (p := ⟨W3.heap.size, 3, none⟩) hs0).trans (N0.cell rfl)) h0)
        (fun h k => k.trans h) (fun W l o o' h1 h2 h3 h4 => (grownBy_putObj' W l o').block _ (by have := (Array.getElem?_eq_some_iff.1 h2).1; omega) (fun e => by injection e with e; omega)) (Below.refl _ _) (fun _ => rfl)
        (fun pre W => ∃ es', LD W base top (.slice A3 ls.length c3) (updL nw (pre.map Subtype.val) ls) es' ∧ (∀ g, obk (.slice pa2 nk pc2) nk = some g → ¬ LBk (.slice A3 ls.length c3) (updL nw (pre.map Subtype.val) ls) es' g) ∧ ORow W base top 43 2 (.slice pa2 nk pc2) nk (prs (rp.filter (fun p => !!decide (nw - kp < p.1)))) ∧ BoxN W cb #[.int .i64 nw, .int .i64 kp, .slice pa2 nk pc2, .slice A3 ls.length c3] 30 ∧ BoxN W (w.heap.size + 1) #[.int .i64 nw] 2 ∧ Chg (fun b => base ≤ b ∨ b = cb) w W ∧ W0.heap.size ≤ W.heap.size ∧ ∀ g, LBk (.slice A3 ls.length c3) (updL nw (pre.map Subtype.val) ls) es' g → ¬ g = cb)
        (fun c pre W => False)
        (fun pre X Y row hs hg hr => by
          obtain ⟨es', h1, h2, h3, h4, h5, h6, h7, h8⟩ := hs
          have hb : ∀ k, k < W0.heap.size → Y.heap[k]? = X.heap[k]? := fun k hk => hg.block k (by omega) (fun e => by have := (hr k e.symm).1; omega)
          exact ⟨es', h1.at_ (fun g hg' => hb g (by have := (h1.lt hg').2.1; omega)), h2, h3.at_ (fun g hg' => hb g (by have := (h3.lt hg').2.1; omega)), (hb cb (by omega)).trans h4, (hb _ (by omega)).trans h5, h6.trans (Chg.grown hg (fun k e => .inl (by have := (hr k e).1; omega))), Nat.le_trans h7 hg.size, h8⟩)
        (fun c pre X Y row hs hg hr => hs)
        ⟨es, by rw [List.map_nil, updL_nil]; exact L0, by rw [List.map_nil, updL_nil]; exact O3, R0, C0, Nn0, G0, Nat.le_refl _, by rw [List.map_nil, updL_nil]; exact fun g hg => HCB.out g (.inr hg)⟩
        (fun x a' W => ∃ Bx, W0.heap.size ≤ Bx ∧ BoxN W Bx #[.pointer (some ⟨gl, x.1 * 3, none⟩)] 84 ∧ a' = { tmps := #[.pointer (some ⟨cb, 0, none⟩), .int .i64 nw, .pointer (some ⟨w.heap.size, 0, none⟩), .pointer (some ⟨w.heap.size + 1, 0, none⟩), .pointer (some ⟨Bx, 0, none⟩), .pointer (some ⟨cb, 0, none⟩), .int .i64 nw, .pointer (some ⟨cb, 0, none⟩), .pointer (some ⟨cb, 0, none⟩), t1, t2, t3, t4, t5, t6, t7, t8, t9, .pointer (some ⟨cb, 0, none⟩), .pointer (some ⟨cb, 0, none⟩), .agg #[.int .i64 nw, .int .i64 kp, .slice pa2 nk pc2, .slice A3 ls.length c3], .func (.func 99) #[] #[.pointer (some ⟨W3.heap.size, 0, none⟩)], .pointer (some ⟨gl, x.1 * 3, none⟩), undef, undef, undef, undef, undef, undef, undef, undef, undef], defers := [] })
        (fun x a' _ X Y row hs hg hr => by obtain ⟨Bx, h1, h2, h3⟩ := hs; exact ⟨Bx, h1, h2.own hg (fun r e => (hr r e).2), h3⟩)
        ?assign ?body ?done ?stop
      case assign =>
        rintro l pre x W K hI hK
        obtain ⟨es', h1, h2, h3, h4, h5, h6, h7, h8⟩ := hI
        gi_wp2
        have hb : ∀ k, k < W.heap.size → (W.alloc (.cells #[.pointer (some ⟨gl, x.1 * 3, none⟩)] 84)).heap[k]? = W.heap[k]? := fun k hk => Below.heap_alloc _ _ _ hk
        exact hK _ _ ((KeepsOthers.alloc _ _).from _) (hb _ (by omega)) ⟨es', h1.at_ (fun g hg' => hb g (h1.lt hg').2.2), h2, h3.at_ (fun g hg' => hb g (h3.lt hg').2.2), (hb cb h4.lt).trans h4, (hb _ h5.lt).trans h5, h6.trans ⟨rfl, rfl, rfl, by simp, fun k hk _ => hb k hk⟩, by simp; omega, h8⟩ ⟨W.heap.size, h7, World.alloc_heap_new W _, rfl⟩
      case body =>
        rintro l pre ⟨x, hx⟩ a' W hl _ ⟨es', h1, h2, h3, h4, h5, h6, h7, h8⟩ ⟨Bx, hBx, bX, rfl⟩ hlt
        have hA' := hA (by omega)
        subst hA'
        have hsn := updL_snoc nw (pre.map Subtype.val) ls hx
        obtain ⟨L, hLd⟩ : ∃ L, updL nw (pre.map Subtype.val) ls = L := ⟨_, rfl⟩
        have hLl : L.length = ls.length := by rw [← hLd]; exact updL_length _ _ _
        have hxv : (1 ≤ (L.getD x zLv).1 ∧ (L.getD x zLv).1 ≤ 1000000) ∧ (0 ≤ (L.getD x zLv).2.1 ∧ (L.getD x zLv).2.1 ≤ 1000000000) ∧ (L.getD x zLv).2.2.length ≤ 1048576 ∧ ∀ r ∈ (L.getD x zLv).2.2, 0 ≤ r.1 ∧ r.1 ≤ nw := by
          have h := hlv x hx
          rw [← hLd, updL_getD _ _ _ hx]
          split
          · exact ⟨h.1, h.2.1, Nat.le_trans (List.length_filter_le _ _) h.2.2.1, fun r hr => h.2.2.2 r (List.mem_filter.1 (show r ∈ List.filter _ _ from hr)).1⟩
          · exact h
        rw [hLd] at h1 h2 h8 hsn
        have H8 := Lib.hid h8
        clear h8
        have hlen := h1.len
        have hel := h1.lv x (by omega)
        have hlrow : W.ownsRow base 51 3 (.slice (some ⟨gl, 0, none⟩) ls.length c3) ls.length (lvs es') := by
          rcases h1.row with ⟨h, _⟩ | ⟨h0, _⟩
          · rw [hLl] at h; exact h
          · omega
        have hglb := h1.row.lt (g := gl) (by rw [obk_pos (by omega)]; rfl)
        have c0 : W.cell? ⟨gl, x * 3, none⟩ = some (.int .i64 (L.getD x zLv).1) := by rw [hlrow.cellAt _ (by omega), ← hel.1]; exact lvs_get0 _ _ (by omega)
        have c1 : W.cell? ⟨gl, x * 3 + 1, none⟩ = some (.int .i64 (L.getD x zLv).2.1) := by rw [hlrow.cellAt _ (by omega), ← hel.2.1]; exact lvs_get1 _ _ (by omega)
        have c2 : W.cell? ⟨gl, x * 3 + 2, none⟩ = some (es'.getD x zLc).2.2 := by rw [hlrow.cellAt _ (by omega)]; exact lvs_get2 _ _ (by omega)
        have hap : ∀ g, obk (es'.getD x zLc).2.2 (L.getD x zLv).2.2.length = some g → ¬ gl = g ∧ base ≤ g ∧ g < top := fun g hg => ⟨fun e => h1.apart x g (by omega) hg (by rw [e]; rfl), (hel.2.2.lt hg).1, (hel.2.2.lt hg).2.1⟩
        have HD := deleteRlO_any (.pointer (some ⟨Bx, 0, none⟩)) (.pointer (some ⟨w.heap.size + 1, 0, none⟩)) (fun r => !rolAt nw (L.getD x zLv) r) (fun W' => ∀ g, obk (es'.getD x zLc).2.2 (L.getD x zLv).2.2.length = some g → AdvR Bx (w.heap.size + 1) gl (x * 3) (L.getD x zLv).1 (L.getD x zLv).2.1 nw g W') (L.getD x zLv).2.2 base top (es'.getD x zLc).2.2 W.drew
          (fun g hg => ⟨fun V V' hF hgr g' hg' => by rw [hg] at hg'; cases hg'; exact (advR_pred Bx (w.heap.size + 1) gl (x * 3) g nw (L.getD x zLv) hxv.1 hn hxv.2.1 hxv.2.2.2).keep V V' (hF g hg) hgr, fun p hp V hF => (advR_pred Bx (w.heap.size + 1) gl (x * 3) g nw (L.getD x zLv) hxv.1 hn hxv.2.1 hxv.2.2.2).call p hp V (hF g hg)⟩)
          (fun g hg => ⟨BoxN.cell (W := W.drew) (i := 0) bX rfl, BoxN.cell (W := W.drew) (i := 0) h5 rfl, c0, c1, by have := hap g hg; omega, by have := hap g hg; omega, (hap g hg).1⟩)
          (hel.2.2.at_ (W' := W.drew) (fun _ _ => rfl)) hxv.2.2.1
        rw [show (L.getD x zLv).2.2.filter (fun p => !!rolAt nw (L.getD x zLv) p) = dropR nw (L.getD x zLv) from by unfold dropR; congr 1; funext r; simp] at HD
        obtain ⟨kn, hkn⟩ : ∃ kn, (dropR nw (L.getD x zLv)).length = kn := ⟨_, rfl⟩
        obtain ⟨ra, rc, hrv⟩ := hel.2.2.shape
        obtain ⟨rn, hrn⟩ : ∃ rn, (L.getD x zLv).2.2.length = rn := ⟨_, rfl⟩
        have HDel := Lib.hid HD
        rw [hrv, hrn] at HDel c2
        have H1 := Lib.hid h1
        have H2 := Lib.hid h2
        have H3 := Lib.hid h3
        have H4 := Lib.hid h4
        have H5 := Lib.hid h5
        have H6 := Lib.hid h6
        have HLR := Lib.hid hlrow
        have HAP := Lib.hid hap
        have HSN := Lib.hid hsn
        have HBX := Lib.hid bX
        have HEL := Lib.hid hel
        have b0 := bX.cell (i := 0) rfl
        have hbxl := bX.lt
        clear HD h1 h2 h3 h4 h5 h6 hlrow hap hsn bX hel c0 c1 L0 O3 R0 C0 Nn0 G0 N0 D0
        gi_wp2
        refine Go.wpIn_mono (Q := Exit.then (fun (_ : Act) (W' : World) => ∃ (ra2 : Option Addr) (rc2 : Nat) (W2 : World), W' = W2.setCell ⟨gl, x * 3 + 2, none⟩ (.slice ra2 kn rc2) ∧ ORow W2 base top 48 6 (.slice ra2 kn rc2) kn (rls (dropR nw (L.getD x zLv))) ∧ (∀ g, obk (.slice ra2 kn rc2) kn = some g → obk (.slice ra rn rc) rn = some g) ∧ Chg (fun b => obk (.slice ra rn rc) rn = some b) W W2) (fun _ _ _ => False)) ?_ ?bpost
        case bpost =>
          rintro e a W' hq
          cases e with
          | normal =>
            obtain ⟨ra2, rc2, W2, rfl, hor, hob, hch⟩ := hq
            have hu := LD.upd (r' := .slice ra2 kn rc2) (kept := dropR nw (L.getD x zLv)) H1.out hLl hx (by rw [hrv, hrn]; exact hch) (by rw [hkn]; exact hor) (by rw [hkn, hrv, hrn]; exact hob)
            have hst : ∀ k, k < W.heap.size → ¬ (base ≤ k ∧ k < top) → (W2.setCell ⟨gl, x * 3 + 2, none⟩ (.slice ra2 kn rc2)).heap[k]? = W.heap[k]? := fun k hk hne => hu.2.block k hk (fun e => hne (by have := H1.out.lt e; omega))
            have hlbk : ∀ g, LBk (.slice (some ⟨gl, 0, none⟩) ls.length c3) (L.set x ((L.getD x zLv).1, (L.getD x zLv).2.1, dropR nw (L.getD x zLv))) (es'.set x ((es'.getD x zLc).1, (es'.getD x zLc).2.1, .slice ra2 kn rc2)) g → LBk (.slice (some ⟨gl, 0, none⟩) ls.length c3) L es' g := fun g hg => lbk_set (by omega) hlen (by rw [hkn, hrv, hrn]; exact hob) hg
            have hsz' := hu.2.size
            have hu1 := hu.1
            rw [HSN.out] at hu1 hlbk
            exact ⟨⟨hsz', fun k o hk h0 ho => (hst k (Array.getElem?_eq_some_iff.1 h0).1 (by omega)).trans h0⟩, hst _ (by omega) (by omega), _, (by rw [List.map_append]; exact hu1), (by rw [List.map_append]; exact fun g hg hS => H2.out g hg (hlbk g hS)), H3.out.at_ (fun g hg => hu.2.block g (H3.out.lt hg).2.2 (fun e => H2.out g hg e)), (hu.2.block cb H4.out.lt (fun e => H8.out cb e rfl)).trans H4.out, (hst _ H5.out.lt (by omega)).trans H5.out, H6.out.trans (hu.2.mono (fun k hk => .inl (H1.out.lt hk).1)), Nat.le_trans h7 hsz', (by rw [List.map_append]; exact fun g hg => H8.out g (hlbk g hg))⟩
          | _ => exact hq.elim
        gi_region_with (refine ⟨trivial, ?_⟩; gi_at_call 113; refine (CallsIn.inRound l (callsIn_wide.2 HDel.out)).mono ?_; rintro e W2 ⟨v2, rfl, hor, hob, hch⟩; rw [hkn] at hor hob; obtain ⟨ra2, rc2, rfl⟩ := hor.shape; have hbk2 := (show ∀ g, obk (.slice ra rn rc) rn = some g → ¬ gl = g ∧ base ≤ g ∧ g < top from (by rw [← hrn, ← hrv]; exact HAP.out)); have b2 := (hch.block Bx hbxl (fun e => by have := hbk2 _ e; omega)).trans HBX.out; have b02 := BoxN.cell (i := 0) b2 rfl; have r2 := own_at_zc HLR.out (hch.block gl (by rw [size_drew_zc]; omega) (fun e => (hbk2 _ e).1 rfl)); have c22 := (show W2.cell? ⟨gl, x * 3 + 2, none⟩ = some (es'.getD x zLc).2.2 from (by rw [r2.cellAt _ (by omega)]; exact lvs_get2 _ _ (by omega))); have f22 := r2.frozenAt (x * 3 + 2); have HOR := Lib.hid hor; have HOB := Lib.hid hob; have HCH := Lib.hid hch; clear hor hob hch hbk2 b2 r2)
        all_goals exact ⟨_, _, _, rfl, HOR.out, HOB.out, (show Chg (fun b => obk (.slice ra rn rc) rn = some b) W W.drew from ⟨rfl, rfl, rfl, Nat.le_refl _, fun _ _ _ => rfl⟩).trans HCH.out⟩
      case done =>
        rintro D ys W hD hys ⟨es', h1, h2, h3, h4, h5, h6, h7, _⟩ hK
        have hall : ∀ j, j < ls.length → j ∈ ys.map Subtype.val := fun j hj => by rw [hys]; exact List.mem_range.2 hj
        rw [updL_all nw hall] at h1 h2
        gi_wp2
        refine ⟨by simp, .inl ⟨_, _, rfl, run_takeDeferred hK, ?_⟩⟩
        have hb : ∀ k, k < W0.heap.size → (W.putObj D (.deferred none)).heap[k]? = W.heap[k]? := fun k hk => (grownBy_putObj' W D _).block k (by omega) (fun e => by injection e with e; omega)
        have hg := grownBy_putObj' W D (.deferred none)
        have hG := h6.trans (Chg.grown (S := fun b => base ≤ b ∨ b = cb) hg (fun k e => .inl (by injection e with e; omega)))
        refine ⟨_, results_none_zc rfl _ _ _, ⟨_, rfl⟩, hG.os, hG.tape, hG.output, hG.size, fun k hk hne => hG.block k (by omega) (by omega), .slice pa2 nk pc2, es', (hb cb (by omega)).trans h4, ?_⟩
        refine ⟨?_, h1.at_ (fun g hg' => hb g (by have := (h1.lt hg').2.1; omega)), ?_⟩
        · rw [show (dropC nw (nw0, kp, rp, ls)).2.2.1 = rp.filter (fun p => !!decide (nw - kp < p.1)) from (filter_old nw kp rp).symm, hnk]
          exact h3.at_ (fun g hg' => hb g (by have := (h3.lt hg').2.1; omega))
        · rw [show (dropC nw (nw0, kp, rp, ls)).2.2.1 = rp.filter (fun p => !!decide (nw - kp < p.1)) from (filter_old nw kp rp).symm, hnk]
          exact h2
      case stop =>
        rintro D c pre W _ _ h _
        exact h.elim
    | _ => exact hq.elim
  clear hK
  gi_region_with (refine ⟨trivial, ?_⟩; gi_at_call 111; refine (callsIn_wide.2 HDel.out).mono ?_; rintro e W2 ⟨v2, rfl, hor, hob, hch⟩; rw [hnk] at hor hob; obtain ⟨pa2, pc2, rfl⟩ := hor.shape; have p2 := (hch.block w.heap.size (by rw [size_drew_zc]; omega) (fun e => by have := hbl.out _ e; omega)).trans HP1.out; have c2 := (hch.block cb (by rw [size_drew_zc]; omega) (fun e => by have := hbl.out _ e; omega)).trans HC1.out; have p02 := BoxN.cell (i := 0) p2 rfl; have f22 := BoxN.frozen (i := 2) c2; have c22 := BoxN.cell (i := 2) c2 rfl; have HOR := Lib.hid hor; have HOB := Lib.hid hob; have HCH := Lib.hid hch; clear hor hob hch p2 c2)
  all_goals exact ⟨_, _, _, _, _, _, _, _, _, _, _, _, rfl, rfl, HOR.out, HOB.out, (show Chg (fun b => obk (.slice pa rp.length pc) rp.length = some b) w1 w1.drew from ⟨rfl, rfl, rfl, Nat.le_refl _, fun _ _ _ => rfl⟩).trans HCH.out⟩
end Go.Proofs.Ytcjpedolmnahfaa
