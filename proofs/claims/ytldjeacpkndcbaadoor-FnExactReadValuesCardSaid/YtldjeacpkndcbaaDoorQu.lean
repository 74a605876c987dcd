/- Walks: the document's ReadValues. -/
import Derived.Test.YtldjeacpkndcbaaDoorQt
import Derived.Deep.RegionLaw
import Derived.Deep.RegionHeld3
set_option linter.unusedVariables false
set_option linter.unusedSimpArgs false
namespace Go.Proofs.YtldjeacpkndcbaaDoor
open Go.RowKit

set_option maxRecDepth 100000 in
set_option maxHeartbeats 1000000 in
theorem l1Same_any (v u : Value) (xs ys : List Int) (w : World) (h : IL w w.heap.size v xs) (h' : IL w w.heap.size u ys) :
    Calls Tryd.prog 61 #[v, u] w (BoolPost (decide (xs = ys)) w) := by
  obtain ⟨hr, hlen, A, c, rfl, h3⟩ := h
  obtain ⟨hr', hlen', A', c', rfl, h3'⟩ := h'
  by_cases hl : xs.length = ys.length
  · have Hl := Lib.hid hl
    have hne : decide ((xs.length : Int) = (ys.length : Int)) = true := by simp; omega
    have hbne : ((xs.length : Int) != (ys.length : Int)) = false := by simp; omega
    clear hl
    go_enter Tryd.func61, Tryd.ntmps61
    go_wp2_with fail
    go_loopw [5] (fun i wr => ∃ k : Nat, k ≤ xs.length ∧ i = .int .i64 k ∧ (∀ j, j < k → xs.getD j 0 = ys.getD j 0) ∧ Below w.heap.size w wr) (fun i _ => xs.length - (intOf i).toNat)
    case atStart => exact ⟨0, Nat.zero_le _, rfl, fun j hj => by omega, Below.refl _ _⟩
    case round =>
      obtain ⟨k, hk, rfl, hag, hb⟩ := hrel
      have Hag := Lib.hid hag
      clear hag
      by_cases hlt : k < xs.length
      · have hlt' : k < ys.length := by have := Hl.out; omega
        rcases h3 with h3 | ⟨b, off, rfl, hbl, hc⟩
        · subst h3; simp at hlt
        rcases h3' with h3' | ⟨b', off', rfl, hbl', hc'⟩
        · subst h3'; simp at hlt'
        have hx : wr.cell? ⟨b, off + k, none⟩ = some (.int .i64 (xs.getD k 0)) := (hb.cell (p := ⟨b, off + k, none⟩) hbl).trans (hc k hlt)
        have hy : wr.cell? ⟨b', off' + k, none⟩ = some (.int .i64 (ys.getD k 0)) := (hb.cell (p := ⟨b', off' + k, none⟩) hbl').trans (hc' k hlt')
        have Hr := Lib.hid hr
        have Hr' := Lib.hid hr'
        by_cases e : xs.getD k 0 = ys.getD k 0
        · have E := Lib.hid e
          rw [← e] at hy
          generalize hX : xs.getD k 0 = x at hx hy
          have HX := Lib.hid hX
          clear hX hc hc' hr hr' e
          go_wp2_with fail
          go_region
          go_wp2_with fail
          go_roundw
          case rel =>
            refine ⟨k + 1, by omega, by go_num, fun j hj => ?_, by first | exact hb.drew | exact hb.drew.drew⟩
            by_cases e : j = k
            · subst e; exact E.out
            · exact Hag.out j (by omega)
          case measure => simp [intOf]; omega
        · have E := Lib.hid (ne_of_get k e)
          generalize hX : xs.getD k 0 = x at hx e
          generalize hY : ys.getD k 0 = y at hy e
          have HX := Lib.hid hX
          have HY := Lib.hid hY
          have hxy : decide (x = y) = false := by simpa using e
          have hxy' : (x != y) = true := by simpa using e
          clear hX hY hc hc' hr hr' e
          go_wp2_with fail
          go_region
          go_wp2_with fail
          go_ret
          exact ⟨by rw [E.out]; rfl, by first | exact hb.drew | exact hb.drew.drew⟩
      · obtain rfl : k = xs.length := by omega
        have e : xs = ys := ints_ext Hl.out (fun j hj => Hag.out j hj)
        have E := Lib.hid (show decide (xs = ys) = true from by simp [e])
        clear e
        go_wp2_with fail
        go_ret
        exact ⟨by rw [E.out]; rfl, hb⟩
  · have E := Lib.hid (ne_of_len hl)
    have hbne : ((xs.length : Int) != (ys.length : Int)) = true := by simp; omega
    have hbne2 : decide ((xs.length : Int) = (ys.length : Int)) = false := by simp; omega
    clear hl
    go_enter Tryd.func61, Tryd.ntmps61
    go_wp2_with fail
    go_ret
    exact ⟨by rw [E.out]; rfl, Below.refl _ _⟩
def TOutV (xs : List Int) (q : Int) (b : Bool) (w : World) (e : Ending) (w' : World) : Prop :=
  ∃ v, e = .returned (.tuple #[v, .int .i64 q, .bool b]) ∧ w'.ownsRow w.heap.size 2 1 v xs.length (ints xs) ∧ Below w.heap.size w w'
def rvX (r : Option (List Int × Nat)) : List Int := match r with | some (xs, _) => xs | none => []
def rvQ (r : Option (List Int × Nat)) : Int := match r with | some (_, q) => (q : Int) | none => 0
def rvB (r : Option (List Int × Nat)) : Bool := match r with | some _ => true | none => false
theorem TOutV.of_read {r : Option (List Int × Nat)} {w : World} {e : Ending} {w' : World} (h : ReadOut r w e w' ∧ Below w.heap.size w w') : TOutV (rvX r) (rvQ r) (rvB r) w e w' := by
  obtain ⟨h, hb⟩ := h
  cases r with
  | none => exact ⟨_, h, World.ownsRow_nil _ _ _ _, hb⟩
  | some xq =>
    obtain ⟨xs, q⟩ := xq
    obtain ⟨v, h1, h2, _⟩ := h
    exact ⟨v, h1, h2, hb⟩
def bitZ (l : List Bool) : List Int := l.map (fun b => ((b.toNat : Nat) : Int))
theorem bitInts_Z (l : List Bool) : bitInts l = ints (bitZ l) := by
  simp [bitInts, ints, bitZ, List.map_map, Function.comp_def]
theorem bitZ_len (l : List Bool) : (bitZ l).length = l.length := by simp [bitZ]
theorem bitZ_rng (l : List Bool) (j : Nat) : Rng ((bitZ l).getD j 0) := by
  simp only [bitZ, List.getD_eq_getElem?_getD, List.getElem?_map]
  cases l[j]? with
  | none => exact ⟨by simp, by simp⟩
  | some b => cases b <;> exact ⟨by simp, by simp⟩
theorem bitZ_inj {a b : List Bool} : (bitZ a = bitZ b) ↔ (a = b) := by
  constructor
  · intro h
    unfold bitZ at h
    induction a generalizing b with
    | nil => cases b with
      | nil => rfl
      | cons y b => simp at h
    | cons x a ih => cases b with
      | nil => simp at h
      | cons y b =>
        simp only [List.map_cons, List.cons.injEq] at h
        rw [ih h.2]
        congr 1
        cases x <;> cases y <;> simp at h <;> rfl
  · rintro rfl; rfl

theorem qu_cap {p q N c : Nat} (h1 : p < q) (h2 : q ≤ N) (h3 : N ≤ c) : (q : Int) ≤ (c : Int) ∧ ¬ c - p = 0 ∧ ¬ (c : Int) - (p : Int) = 0 := by omega
theorem own_ILZ {W : World} {base : Nat} {v : Value} {VB : List Bool} (ho : W.ownsRow base 2 1 v VB.length (bitInts VB)) (h : VB.length ≤ 20000) : IL W W.heap.size v (bitZ VB) := by
  rw [bitInts_Z] at ho
  exact IL.of_own ho (bitZ_len VB).symm (bitZ_rng VB) (by rw [bitZ_len]; omega)
theorem part_IL {W : World} {base gL cL N p q : Nat} {L : List Bool} (ho : W.ownsRow base 2 1 (.slice (some ⟨gL, 0, none⟩) N cL) N (bitInts L)) (hL : L.length = N) (hpq : p ≤ q) (hq : q ≤ N) (hN : N ≤ 20000) :
    IL W W.heap.size (.slice (some ⟨gL, p, none⟩) (q - p) (cL - p)) (bitZ ((L.drop p).take (q - p))) := by
  have hl : ((L.drop p).take (q - p)).length = q - p := by rw [List.length_take, List.length_drop]; omega
  refine ⟨bitZ_rng _, by rw [bitZ_len, hl]; omega, some ⟨gL, p, none⟩, cL - p, by rw [bitZ_len, hl], .inr ⟨gL, p, rfl, (ho.lt gL rfl).2, fun j hj => ?_⟩⟩
  rw [bitZ_len, hl] at hj
  rw [ho.cellAt (p + j) (by omega), bitInts_Z]
  rw [ints_get _ _ (by rw [bitZ_len]; omega)]
  congr 2
  simp only [bitZ, List.getD_eq_getElem?_getD, List.getElem?_map, List.getElem?_take, List.getElem?_drop]
  rw [if_pos hj]
theorem part_ILc {W : World} {base gL cL N p q : Nat} {L : List Bool} (ho : W.ownsRow base 2 1 (.slice (some ⟨gL, 0, none⟩) N cL) N (bitInts L)) (hL : L.length = N) (hpq : p ≤ q) (hq : q ≤ N) (hN : N ≤ 20000) (hc : N ≤ cL) :
    IL W W.heap.size (.slice (if cL = p then some ⟨gL, 0, none⟩ else some ⟨gL, p, none⟩) (q - p) (cL - p)) (bitZ ((L.drop p).take (q - p))) := by
  by_cases e : cL = p
  · rw [if_pos e]
    have hl : ((L.drop p).take (q - p)) = [] := by rw [show q - p = 0 by omega, List.take_zero]
    rw [hl]
    exact ⟨bitZ_rng _, by simp [bitZ], some ⟨gL, 0, none⟩, cL - p, by simp [bitZ]; omega, .inl rfl⟩
  · rw [if_neg e]
    exact part_IL ho hL hpq hq hN
theorem qu_cap2 {p q N c : Nat} (h1 : p ≤ q) (h2 : q ≤ N) (h3 : N ≤ c) : (q : Int) ≤ (c : Int) := by omega
theorem l1List_z (s : ByteArray) (n : Nat) (w : World) (h0 : n ≤ 100000) (h1 : n ≤ 8 * s.size) (hs : s.size ≤ maxLen) :
    Calls Tryd.prog 62 #[.agg #[.string s, .int .i64 (n : Int)]] w fun e w' => ∃ g c, e = .returned (.slice (some ⟨g, 0, none⟩) n c) ∧ w'.ownsRow w.heap.size 2 1 (.slice (some ⟨g, 0, none⟩) n c) n (bitInts (BM.listOf s.data.toList n)) ∧ n ≤ c ∧ c ≤ maxLen ∧ Below w.heap.size w w' := by
  refine (l1List_any s n w h0 h1 hs).mono fun e w' hp => ?_
  obtain ⟨v, he, hown, hb, hv⟩ := hp
  rw [BM.listOf_length] at hown
  rcases hown.2 with ⟨h, _⟩ | ⟨g, cap, cur, h, _, _, hc, hm, _⟩
  · exact absurd h hv
  · subst h
    exact ⟨g, cap, he, hown, hc, hm, hb⟩

set_option maxRecDepth 100000 in
set_option maxHeartbeats 4000000 in
theorem specReadValues_any (s : ByteArray) (N a n : Int) (w : World) (hs : s.size ≤ maxLen) :
    Calls Tryd.prog 16 #[.agg #[.string s, .int .i64 N], .int .i64 a, .int .i64 n] w (TOutV (rvX (readVs s N a n)) (rvQ (readVs s N a n)) (rvB (readVs s N a n)) w) := by
  have hok := fun W => specBitsOk_any s N W hs
  have HA := Lib.hid ((Below.refl w.heap.size w).alloc (Nat.le_refl _) (.cells #[.string s, .int .i64 N] 27))
  cases h : okB s N with
  | false =>
    have hV : readVs s N a n = none := by unfold readVs hasB; rw [h]; simp
    rw [hV]
    rw [h] at hok
    have Hok := Lib.hid hok
    clear hok h hV
    go_enter Tryd.func16, Tryd.ntmps16
    go_wp2_with fail
    refine (Hok.out _).mono ?_
    rintro e w1 ⟨rfl, hb1⟩
    have hf := HA.out.trans (hb1.mono (by simp))
    clear hb1
    go_wp2_with fail
    go_ret3
    exact ⟨_, rfl, World.ownsRow_nil _ _ _ _, hf⟩
  | true =>
    rw [h] at hok
    have Hok := Lib.hid hok
    clear hok
    by_cases hin : 0 ≤ a ∧ a ≤ N
    · have hI := Lib.hid (fun W => l1In_any a 0 N W)
      rw [inB_true hin.1 hin.2] at hI
      by_cases hnn : 0 ≤ n ∧ n ≤ 120
      · have hJ := Lib.hid (fun W => l1In_any n 0 120 W)
        rw [inB_true hnn.1 hnn.2] at hJ
        obtain ⟨f0, f1, f2, f3⟩ := okB_facts h
        obtain ⟨N, rfl⟩ : ∃ m : Nat, N = (m : Int) := ⟨N.toNat, by omega⟩
        obtain ⟨p, rfl⟩ : ∃ p : Nat, a = (p : Int) := ⟨a.toNat, by omega⟩
        obtain ⟨n, rfl⟩ : ∃ k : Nat, n = (k : Int) := ⟨n.toNat, by omega⟩
        have hV : readVs s (N : Int) (p : Int) (n : Int) = valsB (BM.listOf s.data.toList N) n p := by
          unfold readVs hasB
          rw [h, if_pos ⟨hnn, by rw [Bool.true_and, decide_eq_true_iff]; omega⟩, Int.toNat_natCast, Int.toNat_natCast, Int.toNat_natCast]
        have H3 := Lib.hid (fun W => l4Back_any s N p n W hs (by omega) (by omega) (by omega) (by omega) _ rfl)
        have HLi := Lib.hid (fun W => l1List_z s N W (by omega) (by omega) hs)
        have HOk := Lib.hid (fun xs q l t hr => valI_ok (num := numB (BM.listOf s.data.toList N)) (N := (BM.listOf s.data.toList N).length) (p := p) (by rw [BM.listOf_length]; omega) n xs q _ _ (valI_of n xs q l t hr).1)
        have hpN : p ≤ N := by omega
        have hn120 : n ≤ 120 := by omega
        have hN20 : N ≤ 20000 := by omega
        rw [hV]
        unfold valsB
        have HLen : Hid ((BM.listOf s.data.toList N).length = N) := Lib.hid (BM.listOf_length _ _)
        clear hV h f0 f1 f2 f3 hin hnn
        generalize BM.listOf s.data.toList N = L at *
        generalize hr : valG L n p = r at *
        have HRr := Lib.hid hr
        clear hr
        go_enter Tryd.func16, Tryd.ntmps16
        go_wp2_with fail
        refine (Hok.out _).mono ?_
        rintro e w1 ⟨rfl, hb1⟩
        obtain ⟨x0, x1, hgg⟩ := kept2' hb1 (g := w.heap.size) (s := s) (n := (N : Int)) (by simp) (by go_simp) (by go_simp)
        have HF := Lib.hid (HA.out.trans (hb1.mono (by simp)))
        clear hb1
        go_wp2_with fail
        refine (hI.out _).mono ?_
        rintro e w2 ⟨rfl, rfl⟩
        go_wp2_with fail
        refine (hJ.out _).mono ?_
        rintro e w2 ⟨rfl, rfl⟩
        go_wp2_with fail
        refine (H3.out _).mono ?_
        rintro e w3 ⟨ho, hb3⟩
        have HF3 := Lib.hid (HF.out.trans (hb3.mono HF.out.size))
        have hszF := HF.out.size
        obtain ⟨y0, y1, hg3⟩ := kept2' hb3 (g := w.heap.size) (s := s) (n := (N : Int)) hgg x0 x1
        clear hb3 x0 x1 hgg
        cases r with
        | none =>
          unfold BackV at ho
          subst ho
          go_wp2_with fail
          go_quiet (fail)
          go_wp2_with fail
          go_ret3
          exact ⟨_, rfl, World.ownsRow_nil _ _ _ _, eb_drewN HF3.out _⟩
        | some xq =>
          obtain ⟨xs, q, l, t⟩ := xq
          obtain ⟨v, rfl, hown⟩ := ho
          have hG := HOk.out xs q l t rfl
          have hpq := hG.pq
          have hqN := hG.qN
          have hlen := hG.len
          have HRg := Lib.hid hG.rng
          have HFit : Hid (fitB L p (some (xs, q, l, t)) = if (valTo xs xs.length).1 = (L.drop p).take (q - p) then some (xs, q) else none) := Lib.hid rfl
          have HOwn := Lib.hid hown
          have hNL := HLen.out
          have HVal := Lib.hid (fun W h => l4Values_any v xs W h (by omega))
          have HSm := Lib.hid (fun v u xs ys W h h' => l1Same_any v u xs ys W h h')
          have HIL0 := Lib.hid (IL.of_own hown rfl HRg.out (by omega))
          clear hG hown H3 HOk
          have hvl := (valTo_ok xs xs.length).2
          generalize (valTo xs xs.length).1 = VB at *
          rw [hlen] at hvl
          have hPB : Hid (((L.drop p).take (q - p)).length = q - p) := Lib.hid (by rw [List.length_take, List.length_drop]; omega)
          rw [hNL] at hqN
          have hi1 : (p : Int) ≤ (q : Int) := by omega
          have hi2 : (0 : Int) ≤ (p : Int) := by omega
          have ht1 : (p : Int).toNat = p := by omega
          have ht2 : (q : Int).toNat = q := by omega
          have hvl2 : VB.length ≤ 20000 := by omega
          have HK0 : Hid (w3.drew.cell? ⟨w.heap.size, 0, none⟩ = some (.string s) ∧ w3.drew.cell? ⟨w.heap.size, 1, none⟩ = some (.int .i64 (N : Int))) := Lib.hid ⟨y0, y1⟩
          have hg3' : w.heap.size < w3.heap.size := hg3
          have HIL1 : Hid (IL w3.drew w3.drew.heap.size v xs) := Lib.hid HIL0.out
          have hvs : ∃ A c, v = .slice A n c := by obtain ⟨_, _, A, c, hv, _⟩ := HIL0.out; exact ⟨A, c, by rw [← hlen]; exact hv⟩
          obtain ⟨Av, cv, rfl⟩ := hvs
          have HSB0 := fun W a b h h' => HSm.out a b (bitZ VB) (bitZ ((L.drop p).take (q - p))) W h h'
          by_cases hE : VB = (L.drop p).take (q - p)
          · rw [decide_eq_true (bitZ_inj.2 hE)] at HSB0
            have HSB := Lib.hid HSB0
            clear HSB0
            have HFit2 : Hid (fitB L p (some (xs, q, l, t)) = some (xs, q)) := Lib.hid (by rw [HFit.out, if_pos hE])
            clear hE
            go_wp2_with fail
            go_region_held3 (fun W => W.cell? ⟨w.heap.size, 0, none⟩ = some (.string s) ∧ W.cell? ⟨w.heap.size, 1, none⟩ = some (.int .i64 (N : Int)))
              (first | with_reducible assumption | with_reducible exact HK0.out)
              (first
                | (go_at_call 51; (with_reducible refine (HVal.out _ HIL1.out).mono ?_); rintro e w5 ⟨v1, rfl, ho1, hb1, hv1⟩; have HB5 := Lib.hid (show Below w3.heap.size w3 w5 from (Below.refl w3.heap.size w3).drew.trans hb1); have hB5 : w5.cell? ⟨w.heap.size, 0, none⟩ = some (.string s) ∧ w5.cell? ⟨w.heap.size, 1, none⟩ = some (.int .i64 (N : Int)) := ⟨(HB5.out.cell (p := ⟨w.heap.size, 0, none⟩) hg3').trans y0, (HB5.out.cell (p := ⟨w.heap.size, 1, none⟩) hg3').trans y1⟩; have HO1 := Lib.hid ho1; clear hb1 ho1)
                | (go_at_call 62; refine (HLi.out _).mono ?_; rintro e w6 ⟨gL, cL, rfl, ho2, hc2, hcm, hb2⟩; have HB6 := Lib.hid (HB5.out.trans (hb2.mono HB5.out.size)); have hB6 : w6.cell? ⟨w.heap.size, 0, none⟩ = some (.string s) ∧ w6.cell? ⟨w.heap.size, 1, none⟩ = some (.int .i64 (N : Int)) := ⟨(HB6.out.cell (p := ⟨w.heap.size, 0, none⟩) hg3').trans y0, (HB6.out.cell (p := ⟨w.heap.size, 1, none⟩) hg3').trans y1⟩; have HPI := Lib.hid (part_ILc ho2 hNL hpq hqN hN20 hc2); have HVI := Lib.hid (own_ILZ (u_own_below HO1.out hb2) hvl2); have hcq := qu_cap2 hpq hqN hc2; clear hb2 ho2 hc2 hcm)
                | (go_at_call 61; have HPJ := HPI.out; generalize (if cL = p then (some ⟨gL, 0, none⟩ : Option Addr) else some ⟨gL, p, none⟩) = PA at *; refine (HSB.out _ _ _ HVI.out HPJ).mono ?_; rintro e w7 ⟨rfl, hb7⟩; have HB7 := Lib.hid (HB6.out.trans (hb7.mono HB6.out.size)); have hB7 : w7.cell? ⟨w.heap.size, 0, none⟩ = some (.string s) ∧ w7.cell? ⟨w.heap.size, 1, none⟩ = some (.int .i64 (N : Int)) := ⟨(HB7.out.cell (p := ⟨w.heap.size, 0, none⟩) hg3').trans y0, (HB7.out.cell (p := ⟨w.heap.size, 1, none⟩) hg3').trans y1⟩; clear hb7))
            all_goals
              have HO7 := Lib.hid (u_own_below HOwn.out HB7.out)
              have HB9 := Lib.hid (HF3.out.trans (HB7.out.mono (by have := HF3.out.size; omega)))
              go_wp2_with fail
              go_ret3
              rw [HFit2.out]
              exact ⟨_, rfl, u_ownsRow_base HO7.out (by omega), HB9.out⟩
          · rw [decide_eq_false (fun h => hE (bitZ_inj.1 h))] at HSB0
            have HSB := Lib.hid HSB0
            clear HSB0
            have HFit2 : Hid (fitB L p (some (xs, q, l, t)) = none) := Lib.hid (by rw [HFit.out, if_neg hE])
            clear hE
            go_wp2_with fail
            go_region_held3 (fun W => W.cell? ⟨w.heap.size, 0, none⟩ = some (.string s) ∧ W.cell? ⟨w.heap.size, 1, none⟩ = some (.int .i64 (N : Int)))
              (first | with_reducible assumption | with_reducible exact HK0.out)
              (first
                | (go_at_call 51; (with_reducible refine (HVal.out _ HIL1.out).mono ?_); rintro e w5 ⟨v1, rfl, ho1, hb1, hv1⟩; have HB5 := Lib.hid (show Below w3.heap.size w3 w5 from (Below.refl w3.heap.size w3).drew.trans hb1); have hB5 : w5.cell? ⟨w.heap.size, 0, none⟩ = some (.string s) ∧ w5.cell? ⟨w.heap.size, 1, none⟩ = some (.int .i64 (N : Int)) := ⟨(HB5.out.cell (p := ⟨w.heap.size, 0, none⟩) hg3').trans y0, (HB5.out.cell (p := ⟨w.heap.size, 1, none⟩) hg3').trans y1⟩; have HO1 := Lib.hid ho1; clear hb1 ho1)
                | (go_at_call 62; refine (HLi.out _).mono ?_; rintro e w6 ⟨gL, cL, rfl, ho2, hc2, hcm, hb2⟩; have HB6 := Lib.hid (HB5.out.trans (hb2.mono HB5.out.size)); have hB6 : w6.cell? ⟨w.heap.size, 0, none⟩ = some (.string s) ∧ w6.cell? ⟨w.heap.size, 1, none⟩ = some (.int .i64 (N : Int)) := ⟨(HB6.out.cell (p := ⟨w.heap.size, 0, none⟩) hg3').trans y0, (HB6.out.cell (p := ⟨w.heap.size, 1, none⟩) hg3').trans y1⟩; have HPI := Lib.hid (part_ILc ho2 hNL hpq hqN hN20 hc2); have HVI := Lib.hid (own_ILZ (u_own_below HO1.out hb2) hvl2); have hcq := qu_cap2 hpq hqN hc2; clear hb2 ho2 hc2 hcm)
                | (go_at_call 61; have HPJ := HPI.out; generalize (if cL = p then (some ⟨gL, 0, none⟩ : Option Addr) else some ⟨gL, p, none⟩) = PA at *; refine (HSB.out _ _ _ HVI.out HPJ).mono ?_; rintro e w7 ⟨rfl, hb7⟩; have HB7 := Lib.hid (HB6.out.trans (hb7.mono HB6.out.size)); have hB7 : w7.cell? ⟨w.heap.size, 0, none⟩ = some (.string s) ∧ w7.cell? ⟨w.heap.size, 1, none⟩ = some (.int .i64 (N : Int)) := ⟨(HB7.out.cell (p := ⟨w.heap.size, 0, none⟩) hg3').trans y0, (HB7.out.cell (p := ⟨w.heap.size, 1, none⟩) hg3').trans y1⟩; clear hb7))
            all_goals
              have HB9 := Lib.hid (HF3.out.trans (HB7.out.mono (by have := HF3.out.size; omega)))
              go_wp2_with fail
              go_ret3
              rw [HFit2.out]
              exact ⟨_, rfl, World.ownsRow_nil _ _ _ _, HB9.out⟩
      · have hV : readVs s N a n = none := by unfold readVs; rw [if_neg (fun h => hnn h.1)]
        rw [hV]
        have hJ := Lib.hid (fun W => l1In_any n 0 120 W)
        rw [inB_false hnn] at hJ
        go_enter Tryd.func16, Tryd.ntmps16
        go_wp2_with fail
        refine (Hok.out _).mono ?_
        rintro e w1 ⟨rfl, hb1⟩
        obtain ⟨x0, x1, hgg⟩ := kept2' hb1 (g := w.heap.size) (s := s) (n := N) (by simp) (by go_simp) (by go_simp)
        have HF := Lib.hid (HA.out.trans (hb1.mono (by simp)))
        clear hb1
        go_wp2_with fail
        refine (hI.out _).mono ?_
        rintro e w2 ⟨rfl, rfl⟩
        go_wp2_with fail
        refine (hJ.out _).mono ?_
        rintro e w2 ⟨rfl, rfl⟩
        go_wp2_with fail
        go_ret3
        exact ⟨_, rfl, World.ownsRow_nil _ _ _ _, HF.out⟩
    · have hV : readVs s N a n = none := by
        unfold readVs hasB
        rw [h, if_neg (fun hh => by rw [Bool.true_and, decide_eq_true_iff] at hh; omega)]
      rw [hV]
      have hI := Lib.hid (fun W => l1In_any a 0 N W)
      rw [inB_false hin] at hI
      go_enter Tryd.func16, Tryd.ntmps16
      go_wp2_with fail
      refine (Hok.out _).mono ?_
      rintro e w1 ⟨rfl, hb1⟩
      obtain ⟨x0, x1, hgg⟩ := kept2' hb1 (g := w.heap.size) (s := s) (n := N) (by simp) (by go_simp) (by go_simp)
      have HF := Lib.hid (HA.out.trans (hb1.mono (by simp)))
      clear hb1
      go_wp2_with fail
      refine (hI.out _).mono ?_
      rintro e w2 ⟨rfl, rfl⟩
      go_wp2_with fail
      go_ret3
      exact ⟨_, rfl, World.ownsRow_nil _ _ _ _, HF.out⟩
end Go.Proofs.YtldjeacpkndcbaaDoor
