/- Walks: the program's ReadValues. -/
import Derived.Test.YtldjeacpkndcbaaDoorQr
set_option linter.unusedVariables false
set_option linter.unusedSimpArgs false
namespace Go.Proofs.YtldjeacpkndcbaaDoor
open Go.RowKit

theorem tab_rd {w W W' : World} {g : Nat} (hT : Tab w) (hb : Below w.heap.size w W) (hg : w.heap.size ≤ g) (k : W.grownBy W' (some g)) : Tab W' := fun j hj => by
  have h0 := hT j hj
  have hlt := World.block_lt_of_cell? w _ h0
  have h1 := (hb.cell hlt).trans h0
  have hk := k.block _ (World.block_lt_of_cell? W _ h1) (fun e => by injection e with e; omega)
  refine Eq.trans ?_ h1
  simp only [World.cell?, hk]
/-- what ReadValues reads -/
def readVs (s : ByteArray) (N a n : Int) : Option (List Int × Nat) :=
  if (0 ≤ n ∧ n ≤ 120) ∧ hasB s N a 0 = true then valsB (BM.listOf s.data.toList N.toNat) n.toNat a.toNat else none
theorem ReadOut.below {r : Option (List Int × Nat)} {w0 w : World} {e : Ending} {w' : World} (h : ReadOut r w e w') (hb : w0.heap.size ≤ w.heap.size) : ReadOut r w0 e w' := by
  unfold ReadOut at *
  cases r with
  | none => exact h
  | some xq =>
    obtain ⟨v, h1, h2, h3⟩ := h
    exact ⟨v, h1, u_ownsRow_base h2 hb, h3⟩
set_option maxRecDepth 100000 in
set_option maxHeartbeats 1000000 in
theorem readFrom3_go (s : ByteArray) (n p b : Nat) (R : List Nat → Option (List Int × Nat)) (w : World) (hs : s.size ≤ maxLen) (h : hasB s (n : Int) (p : Int) 0 = true) (hpn : p ≤ n) (hs2 : s.size ≤ 2500) (hok : okB s (n : Int) = true) (hN : n ≤ 20000)
    (hread : ∀ (ws : List Nat) (g : Nat) (W : World), Below w.heap.size w W → w.heap.size ≤ g → BM.WordsF ws (fun j => decide (j < 8 * s.size) && BM.bitAt s.data.toList j) → RK W g ws (n : Int) (p : Int) → RdW ws n → Calls Tryd.prog 56 #[.pointer (some ⟨g, 0, none⟩), .pointer (some ⟨b, 0, none⟩)] W (ListOut g ws n (R ws) W)) :
    Calls Tryd.prog 55 #[.agg #[.string s, .int .i64 (n : Int)], .int .i64 (p : Int), .func (.func 56) #[] #[.pointer (some ⟨b, 0, none⟩)]] w fun e w' => (∃ ws, BM.WordsF ws (fun j => decide (j < 8 * s.size) && BM.bitAt s.data.toList j) ∧ RdW ws n ∧ ReadOut (R ws) w e w') ∧ Below w.heap.size w w' := by
  have Hok := Lib.hid hok
  clear hok
  have H := Lib.hid (fun W => hasBits_any s (n : Int) (p : Int) 0 W hs (by omega))
  rw [h] at H
  clear h
  have HRd := Lib.hid hread
  have hU := Lib.hid (fun W => unpacked_any s (n : Int) W hs2)
  go_enter_defers Tryd.func55, Tryd.ntmps55
  go_wp2_with fail
  refine (H.out _).mono ?_
  rintro e w1 ⟨rfl, hb⟩
  have ok0 : OkB ((w.alloc (.cells #[.string s, .int .i64 (n : Int)] 27)).alloc (.cells #[.bool false] 4)) (w.heap.size + 1) false := heap_alloc2_new _ _ _
  have rs0 : ((w.alloc (.cells #[.string s, .int .i64 (n : Int)] 27)).alloc (.cells #[.bool false] 4)).heap[w.heap.size]? = some (.cells #[.string s, .int .i64 (n : Int)] 27 (0, 0)) := heap_alloc2_old _ _ _
  have rs1 : w1.heap[w.heap.size]? = some (.cells #[.string s, .int .i64 (n : Int)] 27 (0, 0)) := (hb.block _ (by simp; omega)).trans rs0
  have b0 : w1.cell? ⟨w.heap.size, 0, none⟩ = some (.string s) := by rw [cell_of_row w1 _ 0 _ _ _ rs1]; rfl
  have b1 : w1.cell? ⟨w.heap.size, 1, none⟩ = some (.int .i64 (n : Int)) := by rw [cell_of_row w1 _ 1 _ _ _ rs1]; rfl
  have OK := Lib.hid (ok0.below hb)
  have HF := Lib.hid ((below2 w (.cells #[.string s, .int .i64 (n : Int)] 27) (.cells #[.bool false] 4)).trans (hb.mono (by simp; omega)))
  have hsz : w.heap.size + 2 ≤ w1.heap.size := by have := hb.size; simpa using this
  clear ok0 hb rs0 rs1 hread
  go_wp2_with fail
  refine (hU.out _).mono ?_
  rintro e w2 ⟨ws, rfl, hws, hb2⟩
  have HF2 := Lib.hid (HF.out.trans (hb2.mono (by omega)))
  have OK2 := Lib.hid (OK.out.below hb2)
  have HW := Lib.hid (rdW_of Hok.out hws hN)
  have hl := hws.1
  have HWS := Lib.hid hws
  have hsz2 : w1.heap.size ≤ w2.heap.size := hb2.size
  have ra : (w2.alloc (.cells (rdCells zeroWs 0 0) 120)).heap[w2.heap.size]? = some (.cells (rdCells zeroWs 0 0) 120 (0, 0)) := heap_alloc_new w2 _
  have RA := Lib.hid ra
  clear hb2 hws b0 b1 ra
  go_wp2_with (first
    | (with_reducible refine wl_alloc_rd ?_)
    | (with_reducible refine wl_build_rd _ _ ws (n : Int) (p : Int) hl ?b1 ?b2 ?_)
    | (with_reducible refine wl_store_rd _ _ ?gg w2.heap.size ws (n : Int) (p : Int) (rdCells zeroWs 0 0) ?hb ?ho hl ?hx ?hg ?hy ?_))
  case b1 => rfl
  case b2 => rfl
  case hb => exact RA.out
  case ho => exact rdCells_size zeroWs_len
  case hx => rfl
  case hg => rfl
  case hy => rfl
  have hk : RK ((w2.alloc (.cells (rdCells zeroWs 0 0) 120)).setRow w2.heap.size (rdCells ws (n : Int) (p : Int))) w2.heap.size ws (n : Int) (p : Int) := setRow_heap _ _ _ _ _ _ RA.out
  have hb3 : Below w2.heap.size w2 ((w2.alloc (.cells (rdCells zeroWs 0 0) 120)).setRow w2.heap.size (rdCells ws (n : Int) (p : Int))) := ((Below.refl w2.heap.size w2).alloc (Nat.le_refl _) _).trans ⟨rfl, rfl, rfl, by simp, fun k hk => setRow_other _ _ _ _ (by omega)⟩
  generalize ((w2.alloc (.cells (rdCells zeroWs 0 0) 120)).setRow w2.heap.size (rdCells ws (n : Int) (p : Int))) = wa at *
  have hba : Below w.heap.size w wa := HF2.out.trans (hb3.mono (by omega))
  have hza := hb3.size
  refine (HRd.out ws w2.heap.size wa hba (by omega) HWS.out hk HW.out).mono ?_
  intro e w3 h3
  have OKa := OK2.out.below hb3
  cases hr : R ws with
  | none =>
    obtain ⟨⟨u, pv, rfl⟩, hg3⟩ := h3.none' hr
    have ok3 := OKa.grown hg3 (by omega)
    have c3 := ok3.c
    have f3 := ok3.f
    have HB := Lib.hid (grown_below (m := w.heap.size) hba hg3 (by omega) (by omega))
    have hre := Lib.hid hr
    clear h3 ok3 hg3 hba hb3 OKa hk
    refine leaves_cons (f := 98) (args := #[.pointer (some ⟨w.heap.size + 1, 0, none⟩)]) (by simp) (by simp [go_sem]) ?_
    refine (catch2_panicking ⟨w.heap.size + 1, 0, none⟩ false u pv [] _ c3 f3).mono ?_
    rintro e u' w'' ⟨rfl, rfl, rfl⟩
    have c4 : (w3.setCell ⟨w.heap.size + 1, 0, none⟩ (.bool false)).cell? ⟨w.heap.size + 1, 0, none⟩ = some (.bool false) := World.cell?_setCell_same' _ _ _ (by rw [c3]; rfl)
    have HB2 := Below.setCell HB.out (show w.heap.size ≤ (⟨w.heap.size + 1, 0, none⟩ : Addr).block by simp) (.bool false)
    simp only [Leaves, settle, List.all_cons, List.all_nil]
    simp [Leaves, results, Tryd.results55, go_sem, c4]
    exact ⟨⟨ws, HWS.out, HW.out, by rw [hre.out]; rfl⟩, HB2⟩
  | some dq =>
    obtain ⟨xs, q⟩ := dq
    obtain ⟨⟨v3, rfl, hown3⟩, hk3, hg3, hrng, hl3⟩ := h3.some' hr
    have ok3 := OKa.grown hg3 (by omega)
    have c3 := ok3.c
    have f3 := ok3.f
    have ca := hk3.at' hl
    have HB := Lib.hid (grown_below (m := w.heap.size) hba hg3 (by omega) (by omega))
    have HR := Lib.hid hr
    have HRn := Lib.hid hrng
    have HO3 := Lib.hid (u_ownsRow_base hown3 (Nat.le_refl _))
    have hwa : w2.heap.size < wa.heap.size := hk.lt
    clear h3 ok3 hg3 hba hb3 OKa hk hk3 hr hrng hown3
    go_wp2_with fail
    go_still_tail 5, (by kernel_rfl)
    change wpList _ _ _ _ _ w3.drew
    have c4 : w3.drew.cell? ⟨w.heap.size + 1, 0, none⟩ = some (.bool false) := c3
    have f4 : w3.drew.frozen? ⟨w.heap.size + 1, 0, none⟩ = false := f3
    have HO4 : Hid (w3.drew.ownsRow wa.heap.size 2 1 v3 xs.length (ints xs)) := Lib.hid HO3.out
    have HB4 : Hid (Below w.heap.size w w3.drew) := Lib.hid (by obtain ⟨h1, h2, h3, h4, h5⟩ := HB.out; exact ⟨h1, h2, h3, h4, h5⟩)
    generalize w3.drew = w4 at *
    go_wp2_with fail
    have c5 : (w4.setCell ⟨w.heap.size + 1, 0, none⟩ (.bool true)).cell? ⟨w.heap.size + 1, 0, none⟩ = some (.bool true) := World.cell?_setCell_same' _ _ _ (by rw [c4]; rfl)
    have HO5 := Lib.hid (own_setCell HO4.out (i := 0) (u := .bool true) (show w.heap.size + 1 < wa.heap.size by omega))
    have HB5 := Below.setCell HB4.out (show w.heap.size ≤ (⟨w.heap.size + 1, 0, none⟩ : Addr).block by simp) (.bool true)
    generalize (w4.setCell ⟨w.heap.size + 1, 0, none⟩ (.bool true)) = w5 at *
    refine leaves_cons (f := 98) (args := #[.pointer (some ⟨w.heap.size + 1, 0, none⟩)]) (by simp) (by simp [go_sem]) ?_
    refine (catch2_idle ⟨w.heap.size + 1, 0, none⟩ _).mono ?_
    rintro e u' w'' ⟨rfl, rfl, rfl⟩
    simp only [Leaves, settle]
    simp [Leaves, results, Tryd.results55, go_sem, c5]
    exact ⟨⟨ws, HWS.out, HW.out, by rw [HR.out]; exact ⟨_, rfl, u_ownsRow_base HO5.out (by omega), HRn.out, hl3⟩⟩, HB5⟩
set_option maxRecDepth 100000 in
set_option maxHeartbeats 1000000 in
theorem readValues1_any (g b : Nat) (ws : List Nat) (N p n : Nat) (w : World) (hb : w.cell? ⟨b, 0, none⟩ = some (.int .i64 (n : Int))) (h : RK w g ws (N : Int) (p : Int)) (hw : RdW ws N) (hp : p ≤ N) (hn : n ≤ 120) (hT : ∀ W, w.grownBy W (some g) → Tab W) (L : List Bool) (hL : BM.Words ws L) (hLN : L.length = N) :
    Calls Tryd.prog 56 #[.pointer (some ⟨g, 0, none⟩), .pointer (some ⟨b, 0, none⟩)] w (ListOut g ws N (fitB L p (valI (BM.getW ws) N n p)) w) := by
  have T := Lib.hid (values_any g ws N p n w h hw hp hn hT L hL hLN)
  clear h hw hT
  generalize fitB L p (valI (BM.getW ws) N n p) = r at *
  go_enter Tryd.func56, Tryd.ntmps56
  go_wp2_with fail
  refine T.out.mono ?_
  rintro e w' h
  cases r with
  | none =>
    obtain ⟨⟨u, pv, rfl⟩, hg⟩ := h.none' rfl
    go_wp2_with fail
    exact ⟨rfl, hg, ⟨_, _, rfl⟩⟩
  | some xq =>
    obtain ⟨xs, q⟩ := xq
    obtain ⟨⟨v, rfl, ho⟩, hk, hg, hr, hl⟩ := h.some' rfl
    go_wp2_with fail
    go_ret
    exact ⟨hg, v, rfl, ho, hk, hr, hl⟩
/-- readFrom with the reader of values, all its ends -/
theorem readFrom3_any (s : ByteArray) (N a : Int) (n b : Nat) (w : World) (hs : s.size ≤ maxLen) (hn : n ≤ 120) (hb : w.cell? ⟨b, 0, none⟩ = some (.int .i64 (n : Int))) (hbl : b < w.heap.size) (hT : Tab w) :
    Calls Tryd.prog 55 #[.agg #[.string s, .int .i64 N], .int .i64 a, .func (.func 56) #[] #[.pointer (some ⟨b, 0, none⟩)]] w fun e w' => ReadOut (readVs s N a (n : Int)) w e w' ∧ Below w.heap.size w w' := by
  unfold readVs
  cases h : hasB s N a 0 with
  | false =>
    rw [if_neg (by simp)]
    exact (readFrom2_bad s N a _ w hs h rfl).mono fun e w' h => ⟨h.1, h.2⟩
  | true =>
    rw [if_pos ⟨by omega, rfl⟩]
    have hh := h
    unfold hasB at hh
    rw [Bool.and_eq_true, decide_eq_true_iff] at hh
    obtain ⟨hok, _, ha, haN⟩ := hh
    obtain ⟨f0, f1, f2, f3⟩ := okB_facts hok
    obtain ⟨m, rfl⟩ : ∃ m : Nat, N = (m : Int) := ⟨N.toNat, by omega⟩
    obtain ⟨p, rfl⟩ : ∃ p : Nat, a = (p : Int) := ⟨a.toNat, by omega⟩
    obtain ⟨L, hL⟩ : ∃ L, L = BM.listOf s.data.toList m := ⟨_, rfl⟩
    have hLl : L.length = m := by rw [hL]; exact BM.listOf_length _ _
    refine (readFrom3_go s m p b (fun ws => fitB L p (valI (BM.getW ws) m n p)) w hs h (by omega) (by omega) hok (by omega) (fun ws g W hB hgg hws hK hw =>
      readValues1_any g b ws m p n W ((hB.cell (p := ⟨b, 0, none⟩) hbl).trans hb) hK hw (by omega) hn (fun W' k => tab_rd hT hB hgg k) L (by rw [hL]; exact ok_words hok hws) hLl)).mono ?_
    rintro e w' ⟨⟨ws, hws, hrw, ho⟩, hb⟩
    have hW := ok_words hok hws
    rw [← hL] at hW
    have e1 : valI (BM.getW ws) m n p = valI (numB L) m n p := valI_congr (by omega) (fun q k hk => BM.words_get hW q k hk) n
    rw [e1, ← hLl, fit_eq (by omega)] at ho
    rw [Int.toNat_natCast, Int.toNat_natCast, Int.toNat_natCast, ← hL]
    exact ⟨ho, hb⟩
set_option maxRecDepth 100000 in
set_option maxHeartbeats 1000000 in
theorem implReadValues_any (s : ByteArray) (N a n : Int) (w : World) (hs : s.size ≤ maxLen) (hT : Tab w) :
    Calls Tryd.prog 15 #[.agg #[.string s, .int .i64 N], .int .i64 a, .int .i64 n] w fun e w' => ReadOut (readVs s N a n) w e w' ∧ Below w.heap.size w w' := by
  have R := Lib.hid (fun (m b : Nat) W hm hb hl hT => readFrom3_any s N a m b W hs hm hb hl hT)
  by_cases hn : 0 ≤ n ∧ n ≤ 120
  · obtain ⟨h0, h1⟩ := hn
    obtain ⟨m, rfl⟩ : ∃ m : Nat, n = (m : Int) := ⟨n.toNat, by omega⟩
    have hc : ((w.alloc (.cells #[.string s, .int .i64 N] 27)).alloc (.cells #[.int .i64 (m : Int)] 2)).cell? ⟨w.heap.size + 1, 0, none⟩ = some (.int .i64 (m : Int)) := by go_simp
    have R1 := Lib.hid (R.out m (w.heap.size + 1) _ (by omega) hc (by simp) (hT.below (below2 w _ _)))
    have hB := Lib.hid (below2 w (.cells #[.string s, .int .i64 N] 27) (.cells #[.int .i64 (m : Int)] 2))
    generalize readVs s N a (m : Int) = r at *
    clear hc R
    go_enter Tryd.func15, Tryd.ntmps15
    go_wp2_with fail
    refine R1.out.mono ?_
    rintro e w2 ⟨ho, hb⟩
    have hb2 := hB.out.trans (hb.mono (by simp; omega))
    have ho2 := ho.below (w0 := w) (by simp; omega)
    clear hb ho
    cases r with
    | none =>
      unfold ReadOut at ho2
      subst ho2
      go_wp2_with fail
      go_ret3
      exact ⟨rfl, hb2⟩
    | some xq =>
      obtain ⟨xs, q⟩ := xq
      obtain ⟨v, rfl, ho3⟩ := ho2
      go_wp2_with fail
      go_ret3
      exact ⟨⟨v, rfl, ho3⟩, hb2⟩
  · have e : readVs s N a n = none := by unfold readVs; rw [if_neg (fun h => hn h.1)]
    rw [e]
    by_cases h0 : n < 0
    · go_enter Tryd.func15, Tryd.ntmps15
      go_wp2_with fail
      go_ret3
      exact ⟨rfl, below2 w _ _⟩
    · have h1 : (120 : Int) < n := by omega
      go_enter Tryd.func15, Tryd.ntmps15
      go_wp2_with fail
      go_ret3
      exact ⟨rfl, below2 w _ _⟩
end Go.Proofs.YtldjeacpkndcbaaDoor
