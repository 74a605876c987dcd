/- Walks: the model's l16Sorted. -/
import Derived.Test.YtljmiodkmddllaaBi
set_option linter.unusedVariables false
set_option linter.unusedSimpArgs false
namespace Go.Proofs.Ytljmiodkmddllaa
open Go.RowKit

theorem h_src {w : World} {base : Nat} {g n cap i m : Nat} {l : List Int} (h : w.ownsRow base 2 1 (.slice (some ⟨g, 0, none⟩) n cap) n (ints l)) (hl : l.length = n) (him : i + m ≤ n) :
    ∀ j u, (ints ((l.drop i).take m))[j]? = some u → w.cell? ((⟨g, i, none⟩ : Addr).add j) = some u := by
  intro j u hu
  have hj : j < ((l.drop i).take m).length := by
    have := (List.getElem?_eq_some_iff.1 hu).1
    rwa [ints_length] at this
  rw [ints_get _ _ hj] at hu
  rw [List.length_take, List.length_drop] at hj
  injection hu with hu
  rw [← hu, Addr.add_lit, h.cellAt (i + j) (by omega), ints_get _ _ (by omega)]
  congr 2
  simp [List.getD_eq_getElem?_getD, List.getElem?_take, List.getElem?_drop, show j < m by omega]
theorem own_shape {w : World} {base : Nat} {v : Value} {n : Nat} {xs : List Value} (h : w.ownsRow base 2 1 v n xs) (hn : 1 ≤ n) : ∃ g cap, v = .slice (some ⟨g, 0, none⟩) n cap ∧ n ≤ cap ∧ cap ≤ maxLen := by
  rcases h.2 with ⟨_, h0⟩ | ⟨g, cap, cur, rfl, _, _, h1, h2, _⟩
  · omega
  · exact ⟨g, cap, rfl, h1, h2⟩

set_option maxRecDepth 100000 in
set_option maxHeartbeats 8000000 in
theorem l16Sorted_any (v : Value) (xs : List (Int × Int)) (w : World) (h : PL w w.heap.size v xs) (hsm : xs.length ≤ 1000000) :
    Calls Try.prog 49 #[v] w (OwnPost w.heap.size (srt (xs.map Prod.snd)) w) := by
  obtain ⟨hr, hlen, A, c, rfl, h3⟩ := h
  have HG := Lib.hid (vsOf_getD xs)
  have HVL := Lib.hid (show (xs.map Prod.snd).length = xs.length by simp)
  clear hr
  obtain ⟨i0, hi, hz0, hz1, hz2⟩ := info_parts u_info_i64
  have hT1 : Below w.heap.size w (w.alloc (.cells #[] 2)) := (Below.refl _ _).alloc (Nat.le_refl _) _
  have hown1 : (w.alloc (.cells #[] 2)).ownsRow w.heap.size 2 1 (.slice (some ⟨w.heap.size, 0, none⟩) 0 0) 0 (ints []) := by
    have := World.ownsRow_made w (base := w.heap.size) (e := 2) (size := 1) #[] 0 (Nat.le_refl _) (by simp [maxLen]) rfl
    simpa [ints] using this
  have H1 := Lib.hid hT1
  have H2 := Lib.hid hown1
  clear hT1 hown1
  go_enter Try.func49, Try.ntmps49
  go_wp2_with fail
  go_loopw [3, 4] (fun u i wr => ∃ (k g cap : Nat), k ≤ xs.length ∧ i = .int .i64 (k : Int) ∧ u = .slice (some ⟨g, 0, none⟩) k cap ∧ k ≤ cap ∧ cap ≤ maxLen ∧ wr.ownsRow w.heap.size 2 1 u k (ints (srt ((xs.map Prod.snd).take k))) ∧ Below w.heap.size w wr)
      (fun _ i _ => xs.length - (Go.RowKit.intOf i).toNat)
  case atStart => exact ⟨0, w.heap.size, 0, Nat.zero_le _, by simp, rfl, Nat.le_refl _, Nat.zero_le _, by simpa [srt] using H2.out, H1.out⟩
  case round =>
    clear H1 H2
    obtain ⟨k, g, cap, hk, rfl, rfl, hkc, hcm, hown, hb⟩ := hrel
    by_cases hlt : k < xs.length
    · rcases h3 with h3 | ⟨b1, o1, rfl, hbl1, hc1⟩
      · subst h3; simp at hlt
      have hx : wr.cell? ⟨b1, o1 + k * 2 + 1, none⟩ = some (.int .i64 (xs.getD k (0, 0)).2) := (hb.cell (p := ⟨b1, o1 + k * 2 + 1, none⟩) hbl1).trans (hc1 k hlt).2
      have hV : (xs.map Prod.snd).take (k + 1) = (xs.map Prod.snd).take k ++ [(xs.getD k (0, 0)).2] := by
        rw [take_snoc_int (by rw [HVL.out]; exact hlt), HG.out]
      obtain ⟨O, hO⟩ : ∃ O, srt ((xs.map Prod.snd).take k) = O := ⟨_, rfl⟩
      have hOl : O.length = k := by rw [← hO, srt_length, List.length_take, HVL.out]; omega
      rw [hO] at hown
      have HINS := Lib.hid (fun (a : Nat) (x : Int) (ha : a ≤ k) (h1 : ∀ j, j < a → O.getD j 0 ≤ x) (h2 : a < k → x < O.getD a 0) => ins_srt (V := (xs.map Prod.snd).take k) (O := O) (x := x) (at_ := a) hO.symm (by omega) h1 (fun h => h2 (by omega)))
      have HV := Lib.hid hV
      generalize (xs.getD k (0, 0)).2 = x at *
      have HO := Lib.hid hown
      have HB := Lib.hid hb
      have HOL := Lib.hid hOl
      have hsz := hb.size
      clear hc1 hV hO hown hb hOl
      go_wp2_with fail
      go_loopw [5] (fun a w2 => ∃ (p q : Nat), p ≤ k ∧ a = .int .i64 (p : Int) ∧ Hid (∀ j, j < p → O.getD j 0 ≤ x) ∧ w2 = wr.drewN q) (fun a _ => k - (Go.RowKit.intOf a).toNat)
      case atStart => exact ⟨0, 0, Nat.zero_le _, by simp, Lib.hid (fun j hj => by omega), rfl⟩
      case round =>
        obtain ⟨p, q, hp, rfl, HP, rfl⟩ := hrel
        by_cases hpk : p < k
        · have hy : wr.cell? ⟨g, p, none⟩ = some (.int .i64 (O.getD p 0)) := by
            rw [HO.out.cellAt _ (by omega)]; exact ints_get _ _ (by rw [HOL.out]; exact hpk)
          have hd : decide (p < k) = true := by simp; omega
          have hd2 : decide ((p : Int) < (k : Int)) = true := by simp; omega
          by_cases hle : O.getD p 0 ≤ x
          · have H4 : Hid (∀ j, j < p + 1 → O.getD j 0 ≤ x) := Lib.hid (by
              intro j hj
              by_cases e : j = p
              · rw [e]; exact hle
              · exact HP.out j (by omega))
            generalize O.getD p 0 = y at *
            have hd3 : decide (y ≤ x) = true := by simp; omega
            go_wp2_with fail
            go_quiet (fail)
            clear hd hd2 hd3
            go_wp2_with fail
            go_roundw
            case rel => exact ⟨p + 1, _, by omega, by go_num, H4, rfl⟩
            case measure => simp [Go.RowKit.intOf]; omega
          · have HN := Lib.hid (HINS.out p x hp HP.out (fun _ => by omega))
            generalize O.getD p 0 = y at *
            have hd3 : decide (y ≤ x) = false := by simp; omega
            have hxy : ¬ y ≤ x := hle
            go_wp2_with fail
            go_quiet (fail)
            clear hd hd2
            obtain ⟨W, hW⟩ : ∃ W, (wr.drewN q).drewN nq = W := ⟨_, rfl⟩
            rw [hW]
            have bW : Below wr.heap.size wr W := by rw [← hW]; exact below_drewN_u (below_drewN_u (Below.refl _ _) _) _
            have sW : wr.heap.size ≤ W.heap.size := by rw [← hW]; exact Nat.le_refl _
            have HB1 := Lib.hid (HB.out.trans (bW.mono hsz))
            have HO1 := Lib.hid (u_own_below HO.out bW)
            have gl : g < W.heap.size := (HO1.out.lt g rfl).2
            have xW : W.cell? ⟨b1, o1 + k * 2 + 1, none⟩ = some (.int .i64 x) := (bW.cell (p := ⟨b1, o1 + k * 2 + 1, none⟩) (show b1 < wr.heap.size by omega)).trans hx
            clear hx hW bW
            have HM := Lib.hid (show (W.alloc (.cells #[] 2)).ownsRow W.heap.size 2 1 (.slice (some ⟨W.heap.size, 0, none⟩) 0 0) 0 [] from by
              have := World.ownsRow_made W (base := W.heap.size) (e := 2) (size := 1) #[] 0 (Nat.le_refl _) (by simp [maxLen]) rfl
              simpa using this)
            have HC := Lib.hid (h_src (i := 0) (m := p) (HO1.out.alloc (.cells #[] 2)) HOL.out (by omega))
            have HL1 := Lib.hid (show (ints ((O.drop 0).take p)).length = p * 1 from by rw [ints_length, List.length_take, List.length_drop, HOL.out]; omega)
            go_wp2_with (at_builtin; refine wpList_append_own _ rfl _ _ 22 rfl W.heap.size 2 i0 (.int .i64 0) 1 8 Try.underlying22 hi hz0 hz1 hz2 rfl (by decide) (.slice (some ⟨W.heap.size, 0, none⟩) 0 0) 0 [] rfl HM.out ⟨g, 0, none⟩ p cap (ints ((O.drop 0).take p)) rfl HL1.out HC.out (ints_one _) ?a4 ?a5 ?a6 ?_)
            case a4 => unfold maxLen; omega
            case a5 => omega
            case a6 => first | omega | (simp; omega) | simp
            intro v1 w1 hown1 hg1 _
            have b1' : Below W.heap.size W w1 := ((Below.refl W.heap.size W).alloc (Nat.le_refl _) _).grown hg1 (by simp) (fun k hk => by simp [Value.ownBlock] at hk; omega)
            have s1 := b1'.size
            have HW1 := Lib.hid b1'
            have HR1 := Lib.hid (hown1.alloc (.cells #[.int .i64 x] 2))
            have x1 : w1.cell? ⟨b1, o1 + k * 2 + 1, none⟩ = some (.int .i64 x) := (b1'.cell (p := ⟨b1, o1 + k * 2 + 1, none⟩) (show b1 < W.heap.size by omega)).trans xW
            clear hown1 hg1 b1' xW
            go_wp2_with (at_builtin; refine wpList_append_own _ rfl _ _ 22 rfl W.heap.size 2 i0 (.int .i64 0) 1 8 Try.underlying22 hi hz0 hz1 hz2 rfl (by decide) _ _ _ rfl HR1.out ⟨w1.heap.size, 0, none⟩ 1 1 [.int .i64 x] rfl rfl ?a2 ?a3 ?a4 ?a5 ?a6 ?_)
            case a2 => exact cell_one_new w1 _ _
            case a3 => intro q hq; simp at hq; subst hq; rfl
            case a4 => unfold maxLen; omega
            case a5 => omega
            case a6 => first | omega | (simp; omega) | simp
            intro v2 w2 hown2 hg2 _
            have b2' : Below W.heap.size W w2 := (HW1.out.alloc s1 _).grown hg2 (by simp; omega) (fun k hk => (HR1.out.lt k hk).1)
            have s2 := b2'.size
            have HW2 := Lib.hid b2'
            have HR2 := Lib.hid hown2
            have HO2 := Lib.hid (u_own_below HO1.out b2')
            have HC2 := Lib.hid (h_src (i := p) (m := k - p) HO2.out HOL.out (by omega))
            have HL2 := Lib.hid (show (ints ((O.drop p).take (k - p))).length = (k - p) * 1 from by rw [ints_length, List.length_take, List.length_drop, HOL.out]; omega)
            clear hown2 hg2 b2' x1
            go_wp2_with (at_builtin; refine wpList_append_own _ rfl _ _ 22 rfl W.heap.size 2 i0 (.int .i64 0) 1 8 Try.underlying22 hi hz0 hz1 hz2 rfl (by decide) _ _ _ rfl HR2.out ⟨g, p, none⟩ (k - p) (cap - p) (ints ((O.drop p).take (k - p))) ?a0 HL2.out HC2.out (ints_one _) ?a4 ?a5 ?a6 ?_)
            case a4 => unfold maxLen; omega
            case a5 => omega
            case a6 => exact s2
            case a0 => first | rfl | simp
            intro v3 w3 hown3 hg3 _
            have b3' : Below W.heap.size W w3 := HW2.out.grown hg3 s2 (fun k hk => (HR2.out.lt k hk).1)
            have hfin : w3.ownsRow w.heap.size 2 1 v3 (k + 1) (ints (srt ((xs.map Prod.snd).take (k + 1)))) := by
              have e1 : (ints (O.take p) ++ Value.int .i64 x :: ints ((O.drop p).take (k - p)) : List Value) = ints (srt ((xs.map Prod.snd).take (k + 1))) := by
                rw [HV.out, ← HN.out, List.take_of_length_le (l := O.drop p) (by rw [List.length_drop, HOL.out]; exact Nat.le_refl _), ints_append, ints_append, List.append_assoc]
                rfl
              have e2 : p + 1 + (k - p) = k + 1 := by omega
              try simp only [List.nil_append, List.append_assoc, List.singleton_append, List.drop_zero, Nat.zero_add] at hown3
              rw [e1, e2] at hown3
              exact u_ownsRow_base hown3 (by omega)
            obtain ⟨g3, cap3, hv3, hc3, hm3⟩ := own_shape hfin (by omega)
            have HF := Lib.hid hfin
            have HB3 := Lib.hid (HB1.out.trans (b3'.mono (by omega)))
            subst hv3
            clear hown3 hg3 b3' hfin
            go_wp2_with fail
            go_roundw
            case rel => exact ⟨k + 1, g3, cap3, by omega, by go_num, rfl, hc3, hm3, HF.out, HB3.out⟩
            case measure => simp [Go.RowKit.intOf]; omega
        · have HN := Lib.hid (HINS.out p x hp HP.out (fun h => absurd h hpk))
          have hd : decide (p < k) = false := by simp; omega
          have hd2 : decide ((p : Int) < (k : Int)) = false := by simp; omega
          go_wp2_with fail
          go_quiet (fail)
          clear hd hd2
          obtain ⟨W, hW⟩ : ∃ W, (wr.drewN q).drewN nq = W := ⟨_, rfl⟩
          rw [hW]
          have bW : Below wr.heap.size wr W := by rw [← hW]; exact below_drewN_u (below_drewN_u (Below.refl _ _) _) _
          have sW : wr.heap.size ≤ W.heap.size := by rw [← hW]; exact Nat.le_refl _
          have HB1 := Lib.hid (HB.out.trans (bW.mono hsz))
          have HO1 := Lib.hid (u_own_below HO.out bW)
          have gl : g < W.heap.size := (HO1.out.lt g rfl).2
          have xW : W.cell? ⟨b1, o1 + k * 2 + 1, none⟩ = some (.int .i64 x) := (bW.cell (p := ⟨b1, o1 + k * 2 + 1, none⟩) (show b1 < wr.heap.size by omega)).trans hx
          clear hx hW bW
          have HM := Lib.hid (show (W.alloc (.cells #[] 2)).ownsRow W.heap.size 2 1 (.slice (some ⟨W.heap.size, 0, none⟩) 0 0) 0 [] from by
            have := World.ownsRow_made W (base := W.heap.size) (e := 2) (size := 1) #[] 0 (Nat.le_refl _) (by simp [maxLen]) rfl
            simpa using this)
          have HC := Lib.hid (h_src (i := 0) (m := p) (HO1.out.alloc (.cells #[] 2)) HOL.out (by omega))
          have HL1 := Lib.hid (show (ints ((O.drop 0).take p)).length = p * 1 from by rw [ints_length, List.length_take, List.length_drop, HOL.out]; omega)
          go_wp2_with (at_builtin; refine wpList_append_own _ rfl _ _ 22 rfl W.heap.size 2 i0 (.int .i64 0) 1 8 Try.underlying22 hi hz0 hz1 hz2 rfl (by decide) (.slice (some ⟨W.heap.size, 0, none⟩) 0 0) 0 [] rfl HM.out ⟨g, 0, none⟩ p cap (ints ((O.drop 0).take p)) rfl HL1.out HC.out (ints_one _) ?a4 ?a5 ?a6 ?_)
          case a4 => unfold maxLen; omega
          case a5 => omega
          case a6 => first | omega | (simp; omega) | simp
          intro v1 w1 hown1 hg1 _
          have b1' : Below W.heap.size W w1 := ((Below.refl W.heap.size W).alloc (Nat.le_refl _) _).grown hg1 (by simp) (fun k hk => by simp [Value.ownBlock] at hk; omega)
          have s1 := b1'.size
          have HW1 := Lib.hid b1'
          have HR1 := Lib.hid (hown1.alloc (.cells #[.int .i64 x] 2))
          have x1 : w1.cell? ⟨b1, o1 + k * 2 + 1, none⟩ = some (.int .i64 x) := (b1'.cell (p := ⟨b1, o1 + k * 2 + 1, none⟩) (show b1 < W.heap.size by omega)).trans xW
          clear hown1 hg1 b1' xW
          go_wp2_with (at_builtin; refine wpList_append_own _ rfl _ _ 22 rfl W.heap.size 2 i0 (.int .i64 0) 1 8 Try.underlying22 hi hz0 hz1 hz2 rfl (by decide) _ _ _ rfl HR1.out ⟨w1.heap.size, 0, none⟩ 1 1 [.int .i64 x] rfl rfl ?a2 ?a3 ?a4 ?a5 ?a6 ?_)
          case a2 => exact cell_one_new w1 _ _
          case a3 => intro q hq; simp at hq; subst hq; rfl
          case a4 => unfold maxLen; omega
          case a5 => omega
          case a6 => first | omega | (simp; omega) | simp
          intro v2 w2 hown2 hg2 _
          have b2' : Below W.heap.size W w2 := (HW1.out.alloc s1 _).grown hg2 (by simp; omega) (fun k hk => (HR1.out.lt k hk).1)
          have s2 := b2'.size
          have HW2 := Lib.hid b2'
          have HR2 := Lib.hid hown2
          have HO2 := Lib.hid (u_own_below HO1.out b2')
          have HC2 := Lib.hid (h_src (i := p) (m := k - p) HO2.out HOL.out (by omega))
          have HL2 := Lib.hid (show (ints ((O.drop p).take (k - p))).length = (k - p) * 1 from by rw [ints_length, List.length_take, List.length_drop, HOL.out]; omega)
          clear hown2 hg2 b2' x1
          by_cases hcap : p < cap
          · go_wp2_with (at_builtin; refine wpList_append_own _ rfl _ _ 22 rfl W.heap.size 2 i0 (.int .i64 0) 1 8 Try.underlying22 hi hz0 hz1 hz2 rfl (by decide) _ _ _ rfl HR2.out ⟨g, p, none⟩ (k - p) (cap - p) (ints ((O.drop p).take (k - p))) ?a0 HL2.out HC2.out (ints_one _) ?a4 ?a5 ?a6 ?_)
            case a4 => unfold maxLen; omega
            case a5 => omega
            case a6 => exact s2
            case a0 => first | rfl | simp
            intro v3 w3 hown3 hg3 _
            have b3' : Below W.heap.size W w3 := HW2.out.grown hg3 s2 (fun k hk => (HR2.out.lt k hk).1)
            have hfin : w3.ownsRow w.heap.size 2 1 v3 (k + 1) (ints (srt ((xs.map Prod.snd).take (k + 1)))) := by
              have e1 : (ints (O.take p) ++ Value.int .i64 x :: ints ((O.drop p).take (k - p)) : List Value) = ints (srt ((xs.map Prod.snd).take (k + 1))) := by
                rw [HV.out, ← HN.out, List.take_of_length_le (l := O.drop p) (by rw [List.length_drop, HOL.out]; exact Nat.le_refl _), ints_append, ints_append, List.append_assoc]
                rfl
              have e2 : p + 1 + (k - p) = k + 1 := by omega
              try simp only [List.nil_append, List.append_assoc, List.singleton_append, List.drop_zero, Nat.zero_add] at hown3
              rw [e1, e2] at hown3
              exact u_ownsRow_base hown3 (by omega)
            obtain ⟨g3, cap3, hv3, hc3, hm3⟩ := own_shape hfin (by omega)
            have HF := Lib.hid hfin
            have HB3 := Lib.hid (HB1.out.trans (b3'.mono (by omega)))
            subst hv3
            clear hown3 hg3 b3' hfin
            go_wp2_with fail
            go_roundw
            case rel => exact ⟨k + 1, g3, cap3, by omega, by go_num, rfl, hc3, hm3, HF.out, HB3.out⟩
            case measure => simp [Go.RowKit.intOf]; omega
          · go_wp2_with (at_builtin; refine wpList_append_own _ rfl _ _ 22 rfl W.heap.size 2 i0 (.int .i64 0) 1 8 Try.underlying22 hi hz0 hz1 hz2 rfl (by decide) _ _ _ rfl HR2.out _ (k - p) _ (ints ((O.drop p).take (k - p))) rfl HL2.out (fun j u hu => by have h1 := (List.getElem?_eq_some_iff.1 hu).1; have h2 := HL2.out; omega) (ints_one _) ?a4 ?a5 ?a6 ?_)
            case a4 => unfold maxLen; omega
            case a5 => omega
            case a6 => exact s2
            intro v3 w3 hown3 hg3 _
            have b3' : Below W.heap.size W w3 := HW2.out.grown hg3 s2 (fun k hk => (HR2.out.lt k hk).1)
            have hfin : w3.ownsRow w.heap.size 2 1 v3 (k + 1) (ints (srt ((xs.map Prod.snd).take (k + 1)))) := by
              have e1 : (ints (O.take p) ++ Value.int .i64 x :: ints ((O.drop p).take (k - p)) : List Value) = ints (srt ((xs.map Prod.snd).take (k + 1))) := by
                rw [HV.out, ← HN.out, List.take_of_length_le (l := O.drop p) (by rw [List.length_drop, HOL.out]; exact Nat.le_refl _), ints_append, ints_append, List.append_assoc]
                rfl
              have e2 : p + 1 + (k - p) = k + 1 := by omega
              try simp only [List.nil_append, List.append_assoc, List.singleton_append, List.drop_zero, Nat.zero_add] at hown3
              rw [e1, e2] at hown3
              exact u_ownsRow_base hown3 (by omega)
            obtain ⟨g3, cap3, hv3, hc3, hm3⟩ := own_shape hfin (by omega)
            have HF := Lib.hid hfin
            have HB3 := Lib.hid (HB1.out.trans (b3'.mono (by omega)))
            subst hv3
            clear hown3 hg3 b3' hfin
            go_wp2_with fail
            go_roundw
            case rel => exact ⟨k + 1, g3, cap3, by omega, by go_num, rfl, hc3, hm3, HF.out, HB3.out⟩
            case measure => simp [Go.RowKit.intOf]; omega
    · obtain rfl : k = xs.length := by omega
      rw [List.take_of_length_le (by rw [HVL.out]; exact Nat.le_refl _)] at hown
      have HO := Lib.hid hown
      have HB := Lib.hid hb
      clear hown hb
      go_wp2_with fail
      go_ret
      exact ⟨_, rfl, by rw [srt_length, HVL.out]; exact HO.out, HB.out⟩
end Go.Proofs.Ytljmiodkmddllaa
