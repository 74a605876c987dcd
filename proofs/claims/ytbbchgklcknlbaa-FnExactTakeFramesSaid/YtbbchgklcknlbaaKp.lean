/- Walks: the model's frames. -/
import Derived.Deep.RegionLaw
import Derived.Test.YtbbchgklcknlbaaKo
set_option linter.unusedVariables false
set_option linter.unusedSimpArgs false
namespace Go.Proofs.Ytbbchgklcknlbaa
open Go.RowKit

theorem k_wi64 {x : Int} (h0 : 0 ≤ x) (h1 : x < 4611686018427387904) : IntKind.i64.wrap x = x := by
  simp only [IntKind.wrap, IntKind.bits, IntKind.signed]
  simp
  omega
theorem info_strK : (Try.prog.info? 9).map (fun i => (i.zero, i.size, i.bytes)) = some (some (.string em0), 1, 16) := by kernel_rfl
theorem own_made0 (w : World) : (w.alloc (.cells #[] 9)).ownsRow w.heap.size 9 1 (.slice (some ⟨w.heap.size, 0, none⟩) 0 0) 0 (strv []) :=
  ⟨by simp [strv], .inr ⟨w.heap.size, 0, _, rfl, Nat.le_refl _, heap_alloc_new w _, Nat.le_refl _, by unfold maxLen; omega, by simp, by simp [strv]⟩⟩
def pN (t : ByteArray) : Nat → Nat
  | 0 => 0
  | j + 1 => 256 * pN t j + byA t j
theorem pN_lt (t : ByteArray) : ∀ j, pN t j < 256 ^ j
  | 0 => by simp [pN]
  | j + 1 => by
    have h1 := pN_lt t j
    have h2 : byA t j < 256 := UInt8.toNat_lt _
    show 256 * pN t j + byA t j < 256 ^ (j + 1)
    rw [Nat.pow_succ]
    omega
theorem pN_four (t : ByteArray) : pN t 4 = hd4 t := by
  unfold hd4
  simp only [pN]
  omega
def TkPost (s : ByteArray) (base : Nat) (w : World) (e : Ending) (w' : World) : Prop :=
  ∃ k v, e = .returned (.tuple #[v, .int .i64 (fA s k : Int)]) ∧ FrTo s k ∧ fOk s k = false ∧ w'.ownsRow base 9 1 v k (strv (fL s k)) ∧ Below base w w'
set_option maxRecDepth 100000 in
set_option maxHeartbeats 4000000 in
theorem specTakeFrames_any (s : ByteArray) (w : World) (hs : s.size ≤ 1048576) :
    Calls Try.prog 15 #[.string s] w (TkPost s w.heap.size w) := by
  have HCS := Lib.hid (fun d W h => l15Sum_any d W h)
  go_enter Try.func15, Try.ntmps15
  go_wp2_with fail
  go_loopw [4, 5] (fun o a wr => ∃ k, a = .int .i64 (fA s k : Int) ∧ Hid (FrTo s k) ∧ Hid (wr.ownsRow w.heap.size 9 1 o k (strv (fL s k))) ∧ Below w.heap.size w wr) (fun _ a _ => s.size + 1 - (intOf a).toNat)
  case atStart => exact ⟨0, rfl, Lib.hid (fun j hj => by omega), Lib.hid (own_made0 w), (Below.refl _ _).alloc (Nat.le_refl _) _⟩
  case round =>
    obtain ⟨k, rfl, HF, HO, hb⟩ := hrel
    have HB := Lib.hid hb
    clear hb
    obtain ⟨hA, hA8⟩ := Fr_size k HF.out
    have HTS := Lib.hid (tl_size s (fA s k))
    have HSU := Lib.hid (fA_succ s k)
    have HLS := Lib.hid (fL_succ s k)
    have HBY := Lib.hid (fun j h => byA_tl s (fA s k) j h)
    have HE := Lib.hid (fun b c h => ext_tl s (fA s k) b c h)
    have HOKB := Lib.hid (show fOk s k = rdOk (tl s (fA s k)) from rfl)
    generalize hae : fA s k = a at *
    have HAE := Lib.hid hae
    clear hae
    by_cases h8 : a + 8 ≤ s.size
    · have hi8 : (a : Int) + 8 ≤ s.size := by omega
      have hw8 : wrap64 ((a : Int) + 8) = (a : Int) + 8 := by unfold wrap64; omega
      go_wp2_with fail
      go_loop [6, 7] (fun n i => ∃ j : Nat, j ≤ 4 ∧ i = .int .i64 j ∧ n = .int .i64 (pN (tl s a) j : Int)) (fun _ i => 4 - (intOf i).toNat)
      case atStart => exact ⟨0, Nat.zero_le _, rfl, rfl⟩
      case round =>
        obtain ⟨j, hj, rfl, rfl⟩ := hrel
        by_cases hj4 : j < 4
        · have hlt : a + j < s.size := by omega
          have hli : (a : Int) + (j : Int) < s.size := by omega
          have hby := Lib.hid (HBY.out j hlt)
          have hbt := s[a + j].toNat_lt
          have hpl := pN_lt (tl s a) j
          have HPS : Hid (pN (tl s a) (j + 1) = 256 * pN (tl s a) j + byA (tl s a) j) := Lib.hid rfl
          have hp4 : (256 : Nat) ^ j ≤ 256 ^ 3 := Nat.pow_le_pow_right (by omega) (by omega)
          generalize pN (tl s a) j = p at *
          have hp : p < 16777216 := by omega
          clear hpl hp4
          go_wp2_with fail
          go_round
          case rel => exact ⟨j + 1, by omega, by go_num, by rw [HPS.out, hby.out]; go_num⟩
          case measure => simp [intOf]; omega
        · obtain rfl : j = 4 := by omega
          rw [pN_four]
          go_wp2_with fail
          clear hj hj4
          have HSUM := Lib.hid (fun h => rdOk_sum (t := tl s a) h)
          have HRX : Hid (rdD (tl s a) = (tl s a).extract 8 (8 + hd4 (tl s a))) := Lib.hid rfl
          have HBAD := Lib.hid (fun h => rdOk_bad (s := tl s a) h)
          generalize hd4 (tl s a) = n at *
          by_cases hbig : 100000 < n
          · have hbi : (100000 : Int) < (n : Int) := by omega
            have HNO : Hid (fOk s k = false) := Lib.hid (by rw [HOKB.out]; exact HBAD.out (by omega))
            go_quiet (fail)
            go_wp2_with fail
            go_ret2
            exact ⟨k, _, by rw [HAE.out]; rfl, HF.out, HNO.out, HO.out, below_drewN_d HB.out _⟩
          · have hbi : ¬ (100000 : Int) < (n : Int) := by omega
            by_cases hlong : s.size < a + 8 + n
            · have hli : (s.size : Int) < (a : Int) + 8 + (n : Int) := by omega
              have hw9 : wrap64 ((a : Int) + 8 + (n : Int)) = (a : Int) + 8 + (n : Int) := by unfold wrap64; omega
              have HNO : Hid (fOk s k = false) := Lib.hid (by rw [HOKB.out]; exact HBAD.out (by rw [HTS.out]; omega))
              go_quiet (fail)
              go_wp2_with fail
              go_ret2
              exact ⟨k, _, by rw [HAE.out]; rfl, HF.out, HNO.out, HO.out, below_drewN_d HB.out _⟩
            · have hli : ¬ (s.size : Int) < (a : Int) + 8 + (n : Int) := by omega
              have hw9 : wrap64 ((a : Int) + 8 + (n : Int)) = (a : Int) + 8 + (n : Int) := by unfold wrap64; omega
              have hg1 : decide ((100000 : Int) < (n : Int)) = false := decide_eq_false hbi
              have hg2 : decide ((s.size : Int) < (a : Int) + 8 + (n : Int)) = false := decide_eq_false hli
              have hv8 : IntKind.i64.wrap ((a : Int) + 8) = (a : Int) + 8 := k_wi64 (by omega) (by omega)
              have hv9 : IntKind.i64.wrap ((a : Int) + 8 + (n : Int)) = (a : Int) + 8 + (n : Int) := k_wi64 (by omega) (by omega)
              have hv4 : IntKind.i64.wrap ((a : Int) + 4) = (a : Int) + 4 := k_wi64 (by omega) (by omega)
              have hg5 : decide ((s.size : Int) < IntKind.i64.wrap (IntKind.i64.wrap ((a : Int) + 8) + (n : Int))) = false := by rw [hv8, hv9]; exact hg2
              have hx1 : (0 : Int) ≤ (a : Int) + 8 := by omega
              have hx2 : (a : Int) + 8 ≤ (a : Int) + 8 + (n : Int) := by omega
              have hx3 : (a : Int) + 8 + (n : Int) ≤ s.size := by omega
              have hx4 : (0 : Int) ≤ (a : Int) + 4 := by omega
              have hx5 : (a : Int) + 4 ≤ (a : Int) + 8 := by omega
              have hx6 : a + 8 ≤ a + 8 + n := by omega
              have hx7 : a + 8 + n ≤ s.size := by omega
              have hx8 : ¬ ((a : Int) + 8 + (n : Int) < (a : Int) + 8) := by omega
              have hx9 : ¬ ((s.size : Int) < (a : Int) + 8) := by omega
              have hw4 : wrap64 ((a : Int) + 4) = (a : Int) + 4 := by unfold wrap64; omega
              have ht1 : ((a : Int) + 8).toNat = a + 8 := by omega
              have ht2 : ((a : Int) + 8 + (n : Int)).toNat = a + 8 + n := by omega
              have ht3 : ((a : Int) + 4).toNat = a + 4 := by omega
              have hg3 : decide (100000 < n) = false := decide_eq_false hbig
              have hg4 : decide (s.size < a + 8 + n) = false := decide_eq_false hlong
              have hl4 : a + 4 ≤ a + 8 := by omega
              have hl8 : a + 8 ≤ s.size := by omega
              have HSM : Hid (fOk s k = decide (bstr (le4 (CR.sumN (rdD (tl s a)).data.toList)) = s.extract (a + 4) (a + 8))) := Lib.hid (by rw [HOKB.out, HSUM.out (by rw [HTS.out]; omega), HE.out 4 8 h8])
              have HRD : Hid (rdD (tl s a) = s.extract (a + 8) (a + (8 + n))) := Lib.hid (by rw [HRX.out]; exact HE.out 8 (8 + n) (by omega))
              rw [HRD.out] at HSM
              have hz : (s.extract (a + 8) (a + (8 + n))).size ≤ maxLen := by rw [ByteArray.size_extract]; unfold maxLen; omega
              have HC2 : Hid (∀ W, Below wr.heap.size wr W → Calls Try.prog 52 #[.string (s.extract (a + 8) (a + 8 + n))] W fun e W' => e = .returned (.string (bstr (le4 (CR.sumN (s.extract (a + 8) (a + (8 + n))).data.toList)))) ∧ Below wr.heap.size wr W') := Lib.hid (fun W hb => by
                have h3 := HCS.out _ W hz
                rw [← Nat.add_assoc] at h3 ⊢
                exact h3.mono fun e W' hp => ⟨hp.1, hb.trans (hp.2.mono hb.size)⟩)
              obtain ⟨D, hD⟩ : ∃ D, D = s.extract (a + 8) (a + (8 + n)) := ⟨_, rfl⟩
              have HDE := Lib.hid hD
              rw [← hD] at HSM HC2
              obtain ⟨B, hB⟩ : ∃ B, B = bstr (le4 (CR.sumN D.data.toList)) := ⟨_, rfl⟩
              rw [← hB] at HSM HC2
              clear hD hB hz HSUM HBAD HBY HE HCS
              have HK0 := Lib.hid ((Below.refl wr.heap.size wr).drew)
              go_region_held3 (fun W => Below wr.heap.size wr W)
                (first | with_reducible assumption | with_reducible exact HK0.out)
                (first | (go_at_call 52; (with_reducible refine (HC2.out _ (by assumption)).mono ?_); rintro e w2 ⟨rfl, hb2⟩; have HB2 := Lib.hid hb2))
              all_goals
                clear hx1 hx2 hx3 hx4 hx5 hx8 hx9 hg1 hg2 hg3 hg4 hg5
                have HO2 := Lib.hid (u_own_below HO.out HB2.out)
                have HB3 := Lib.hid (HB.out.trans (HB2.out.mono HB.out.size))
                generalize s.extract (a + 4) (a + 8) = M at *
                clear hb2 HK0 HC2 hv8 hv9 hv4 hl4
                obtain ⟨cc, hcc⟩ : ∃ cc, (B.toList == M.toList) = cc := ⟨_, rfl⟩
                rw [hcc]
                have hbm1 : cc = true → B = M := fun h => by
                  rw [h] at hcc
                  have h2 := eq_of_beq hcc
                  rw [ByteArray.toList_eq, ByteArray.toList_eq] at h2
                  exact ba_ext h2
                have hbm2 : cc = false → ¬ B = M := fun h h2 => by
                  rw [h, h2] at hcc
                  simp at hcc
                cases cc with
                | true =>
                  have hBM := hbm1 rfl
                  clear hbm1 hbm2 hcc
                  rw [Bool.not_true]
                  have HYES : Hid (fOk s k = true) := Lib.hid (by rw [HSM.out]; exact decide_eq_true hBM)
                  subst hBM
                  have HCN := Lib.hid (cells_new w2 [.string (s.extract (a + 8) (a + 8 + n))] 9)
                  have HRE : Hid (rdD (tl s a) = s.extract (a + 8) (a + 8 + n)) := Lib.hid (by rw [HRD.out, Nat.add_assoc])
                  obtain ⟨i0, hii, hz0, hz1, hz2⟩ := info_parts info_strK
                  have hkl : k ≤ 131072 := by omega
                  go_wp2_with (at_builtin; refine wpList_append_own _ rfl _ _ 22 rfl w.heap.size 9 i0 (.string em0) 1 16 Try.underlying22 hii hz0 hz1 hz2 rfl (by decide) _ _ _ rfl (HO2.out.alloc _) ⟨w2.heap.size, 0, none⟩ 1 1 [.string (s.extract (a + 8) (a + 8 + n))] rfl rfl ?c1 ?c2 ?c3 ?c4 ?c5 ?_)
                  case c2 => first | rfl | exact HCN.out | (intro u hu; obtain rfl := List.mem_singleton.1 hu; rfl)
                  case c3 => unfold maxLen; omega
                  case c4 => omega
                  case c5 => have := HB3.out.size; simp; omega
                  intro v' w4 hown' hgrow _
                  have HB4 := Lib.hid ((HB3.out.alloc HB3.out.size (.cells #[.string (s.extract (a + 8) (a + 8 + n))] 9)).grown hgrow (by have := HB3.out.size; simp; omega) (fun q hq => (HO2.out.lt q hq).1))
                  have HO4 : Hid (w4.ownsRow w.heap.size 9 1 v' (k + 1) (strv (fL s (k + 1)))) := Lib.hid (by rw [HLS.out, strv_append, HRE.out]; exact hown')
                  clear hown' hgrow
                  go_wp2_with fail
                  go_roundw
                  case rel => exact ⟨k + 1, by rw [HSU.out]; go_num, Lib.hid (HF.out.step HYES.out), HO4, HB4.out⟩
                  case measure => simp [intOf]; omega
                | false =>
                  have hBM := hbm2 rfl
                  clear hbm1 hbm2 hcc
                  rw [Bool.not_false]
                  have HNO : Hid (fOk s k = false) := Lib.hid (by rw [HSM.out]; exact decide_eq_false hBM)
                  go_wp2_with fail
                  go_ret2
                  exact ⟨k, _, by rw [HAE.out]; rfl, HF.out, HNO.out, HO2.out, HB3.out⟩
    · have hi8 : ¬ (a : Int) + 8 ≤ s.size := by omega
      have HNO : Hid (fOk s k = false) := Lib.hid (by rw [HOKB.out]; exact rdOk_bad (by rw [HTS.out]; omega))
      go_wp2_with fail
      go_ret2
      exact ⟨k, _, by rw [HAE.out]; rfl, HF.out, HNO.out, HO.out, HB.out⟩
end Go.Proofs.Ytbbchgklcknlbaa
