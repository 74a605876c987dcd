/- Walks: moved quantiles; the law FnQuantileMoved. -/
import Derived.Test.YtljmiodkmddllaaBt
set_option linter.unusedVariables false
set_option linter.unusedSimpArgs false
namespace Go.Proofs.Ytljmiodkmddllaa
open Go.RowKit

def mvd (d : Int) (l : List (Int × Int)) : List (Int × Int) := l.map fun p => (p.1, p.2 + d)
theorem mvd_length (d : Int) (l : List (Int × Int)) : (mvd d l).length = l.length := by simp [mvd]
theorem mvd_fst (d : Int) (l : List (Int × Int)) : (mvd d l).map Prod.fst = l.map Prod.fst := by simp [mvd]
theorem mvd_snd (d : Int) (l : List (Int × Int)) : (mvd d l).map Prod.snd = (l.map Prod.snd).map (· + d) := by simp [mvd]
theorem srt_mvd (V : List Int) (d : Int) : srt (V.map (· + d)) = (srt V).map (· + d) := by
  symm
  refine srt_uniq ((srt_perm V).map _) ?_
  rw [List.pairwise_map]
  exact (srt_sorted V).imp (fun h => by omega)
theorem quB_mvd (d : Int) (l : List (Int × Int)) (m : Int) : quB (mvd d l) m = quB l m := by
  unfold quB ptsOkB; rw [mvd_fst, mvd_length]
theorem quV_mvd {d : Int} {l : List (Int × Int)} {m : Int} (h : quB l m = true) : quV (mvd d l) m = quV l m + d := by
  obtain ⟨h1, h2, h3⟩ := quB_parts h
  have hq := qIx_in (n := (l.length : Int)) (by omega) h3
  unfold quV
  rw [mvd_length, mvd_snd, srt_mvd]
  have hl : (qIx (l.length : Int) m).toNat < (srt (l.map Prod.snd)).length := by rw [srt_length, List.length_map]; omega
  simp [List.getD_eq_getElem?_getD, hl]
theorem quV_mem {l : List (Int × Int)} {m : Int} (h : quB l m = true) : quV l m ∈ l.map Prod.snd := by
  obtain ⟨h1, h2, h3⟩ := quB_parts h
  have hq := qIx_in (n := (l.length : Int)) (by omega) h3
  exact (srt_perm _).mem_iff.1 (getD_mem (by rw [srt_length, List.length_map]; omega))
theorem mvd_take_succ (d : Int) (l : List (Int × Int)) (k : Nat) (hk : k < l.length) : mvd d (l.take (k + 1)) = mvd d (l.take k) ++ [((l.getD k (0, 0)).1, (l.getD k (0, 0)).2 + d)] := by
  unfold mvd
  rw [List.take_add_one, List.getElem?_eq_getElem hk, List.map_append, List.getD_eq_getElem?_getD, List.getElem?_eq_getElem hk]
  rfl

set_option maxRecDepth 100000 in
set_option maxHeartbeats 8000000 in
theorem walkFnQuantileMoved (A : Option Addr) (n c : Nat) (w : World) (h : n ≤ 1048576 → CodeAt w A n c) :
    Calls Try.prog 12 #[.slice A n c] w fun e w' => e = .returned (.bool true) ∧ Below w.heap.size w w' := by
  have hbig := fun W => big_any A n c W
  by_cases hb : (n : Int) ≤ 1048576
  case neg =>
    have hd : decide (1048576 < (n : Int)) = true := by simp; omega
    rw [hd] at hbig
    have Hbig := Lib.hid hbig
    clear hbig hd h
    go_enter Try.func12, Try.ntmps12
    go_wp2_with fail
    refine (Hbig.out _).mono ?_
    rintro e w' ⟨rfl, rfl⟩
    go_wp2_with fail
    go_ret
    exact ⟨rfl, Below.refl _ _⟩
  · have hd : decide (1048576 < (n : Int)) = false := by simp; omega
    rw [hd] at hbig
    have Hbig := Lib.hid hbig
    have hcode := Lib.hid (h (by omega))
    have HD := Lib.hid (fun W h => DrawQuantile_any A n c W h)
    obtain ⟨i0, hi, hz0, hz1, hz2⟩ := info_parts info_pt
    clear hbig hd h
    go_enter Try.func12, Try.ntmps12
    go_wp2_with fail
    refine (Hbig.out _).mono ?_
    rintro e w' ⟨rfl, rfl⟩
    go_wp2_with fail
    refine (HD.out _ hcode.out).mono ?_
    rintro e w1 ⟨v, a, m, rfl, hown, hal, har, hmr, hb1⟩
    have HP1 := Lib.hid (PL.of_own hown rfl (fun j => prng_of har j) (by omega))
    have HB1 := Lib.hid hb1
    obtain ⟨-, -, A1, c1, rfl, hc1⟩ := HP1.out
    clear hown hmr hb1 hc1 HD hcode
    have HAR := Lib.hid har
    clear har
    have hI := Lib.hid (fun m' W (hW : PL W W.heap.size (.slice A1 a.length c1) a) => implQuantile_any _ a m' W hW)
    have hS := Lib.hid (fun m' W (hW : PL W W.heap.size (.slice A1 a.length c1) a) => specQuantile_any _ a m' W hW)
    cases eq : quB a m with
    | false =>
      have hI' := Lib.hid (hI.out m)
      have hS' := Lib.hid (hS.out m)
      rw [quM_no eq] at hI' hS'
      clear hI hS eq
      go_wp2_with fail
      refine (hI'.out _ HP1.out).mono ?_
      rintro e w2 ⟨rfl, hb2⟩
      have HB2 := Lib.hid (HB1.out.trans (hb2.mono HB1.out.size))
      have HP2 := Lib.hid ((HP1.out.below hb2).up hb2.size)
      clear hb2
      go_wp2_with fail
      refine (hS'.out _ HP2.out).mono ?_
      rintro e w3 ⟨rfl, hb3⟩
      have HB3 := Lib.hid (HB2.out.trans (hb3.mono HB2.out.size))
      clear hb3
      go_wp2_with fail
      go_ret
      exact ⟨rfl, HB3.out⟩
    | true =>
      have hI' := Lib.hid (hI.out m)
      have hS' := Lib.hid (hS.out m)
      rw [quM_yes eq] at hI' hS'
      have HML := Lib.hid (fun v W h => implQuantile_any v (mvd (n : Int) a) m W h)
      rw [quM_yes (by rw [quB_mvd]; exact eq), quV_mvd eq] at HML
      have HMT := Lib.hid (fun (k : Nat) (hk : k < a.length) => mvd_take_succ (n : Int) a k hk)
      have HML0 := Lib.hid (mvd_length (n : Int) a)
      have HMLk := Lib.hid (fun k : Nat => mvd_length (n : Int) (a.take k))
      have HQM := Lib.hid (quV_mem eq)
      clear hI hS eq
      generalize quV a m = q at *
      go_wp2_with fail
      refine (hI'.out _ HP1.out).mono ?_
      rintro e w2 ⟨rfl, hb2⟩
      have HB2 := Lib.hid (HB1.out.trans (hb2.mono HB1.out.size))
      have HP2 := Lib.hid ((HP1.out.below hb2).up hb2.size)
      clear hb2
      go_wp2_with fail
      refine (hS'.out _ HP2.out).mono ?_
      rintro e w3 ⟨rfl, hb3⟩
      have HB3 := Lib.hid (HB2.out.trans (hb3.mono HB2.out.size))
      have HP3 := Lib.hid ((HP2.out.below hb3).up hb3.size)
      clear hb3 HB1 HB2 HP1 HP2 hI' hS'
      obtain ⟨-, -, A3, c3, he3, h3⟩ := HP3.out
      injection he3 with e31 e32 e33
      subst e31 e33
      have H3 := Lib.hid h3
      clear h3 e32
      have H40 := Lib.hid (show Below w3.heap.size w3 (w3.alloc (.cells #[] 47)) from (Below.refl _ _).alloc (Nat.le_refl _) _)
      have H4O := Lib.hid (show (w3.alloc (.cells #[] 47)).ownsRow w3.heap.size 47 2 (.slice (some ⟨w3.heap.size, 0, none⟩) 0 0) 0 (prs []) from World.ownsRow_made w3 (base := w3.heap.size) (e := 47) (size := 2) #[] 0 (Nat.le_refl _) (by simp [maxLen]) rfl)
      go_wp2_with fail
      go_loopw [9, 10] (fun u i wr => ∃ k : Nat, k ≤ a.length ∧ i = .int .i64 (k : Int) ∧ wr.ownsRow w3.heap.size 47 2 u k (prs (mvd (n : Int) (a.take k))) ∧ Below w3.heap.size w3 wr ∧ Hid (∀ j, j < k → -1000000 ≤ (a.getD j (0, 0)).2 ∧ (a.getD j (0, 0)).2 ≤ 1000000)) (fun _ i _ => a.length - (Go.RowKit.intOf i).toNat)
      case atStart => exact ⟨0, Nat.zero_le _, by simp, H4O.out, H40.out, Lib.hid (fun j hj => by omega)⟩
      case round =>
        clear H40 H4O
        obtain ⟨k, hk, rfl, hown, hb, HJ⟩ := hrel
        have hz := hb.size
        by_cases hlt : k < a.length
        · rcases H3.out with h3 | ⟨b1, o1, rfl, hbl1, hc1⟩
          · rw [h3] at hlt; simp at hlt
          have hx0 : wr.cell? ⟨b1, o1 + k * 2, none⟩ = some (.int .i64 (a.getD k (0, 0)).1) := (hb.cell (p := ⟨b1, o1 + k * 2, none⟩) hbl1).trans (hc1 k hlt).1
          have hx1 : wr.cell? ⟨b1, o1 + k * 2 + 1, none⟩ = some (.int .i64 (a.getD k (0, 0)).2) := (hb.cell (p := ⟨b1, o1 + k * 2 + 1, none⟩) hbl1).trans (hc1 k hlt).2
          have HMK := Lib.hid (HMT.out k hlt)
          have HJK : Hid (-1000000 ≤ (a.getD k (0, 0)).2 ∧ (a.getD k (0, 0)).2 ≤ 1000000 → ∀ j, j < k + 1 → -1000000 ≤ (a.getD j (0, 0)).2 ∧ (a.getD j (0, 0)).2 ≤ 1000000) := Lib.hid (fun h j hj => by
            by_cases e : j = k
            · rw [e]; exact h
            · exact HJ.out j (by omega))
          clear hc1
          generalize (a.getD k (0, 0)).1 = t at *
          generalize (a.getD k (0, 0)).2 = x at *
          by_cases hx2 : x < -1000000
          · have HB := Lib.hid (HB3.out.trans (hb.mono HB3.out.size))
            clear hown hb
            go_wp2_with fail
            go_ret
            exact ⟨rfl, HB.out⟩
          by_cases hx3 : 1000000 < x
          · have HB := Lib.hid (HB3.out.trans (hb.mono HB3.out.size))
            clear hown hb
            go_wp2_with fail
            go_ret
            exact ⟨rfl, HB.out⟩
          have HJ1 := Lib.hid (HJK.out (by omega))
          have hY : IntKind.i64.wrap (x + (n : Int)) = x + (n : Int) := IntWalk.i64_in _ (by omega)
          generalize hYY : x + (n : Int) = y at HMK hY
          have Hb := Lib.hid hb
          have hownD : (wr.drew.alloc (.cells #[.int .i64 t, .int .i64 y] 47)).ownsRow w3.heap.size 47 2 u9 k (prs (mvd (n : Int) (a.take k))) := World.ownsRow.alloc (w := wr.drew) hown _
          clear hb HJ HJK
          have HPR : Hid (prs (mvd (n : Int) (a.take (k + 1))) = prs (mvd (n : Int) (a.take k)) ++ [.int .i64 t, .int .i64 y]) := Lib.hid (by rw [HMK.out, prs_append]; rfl)
          go_wp2_with fail
          go_region_law (first
            | (refine h_step_append_own _ rfl _ _ 34 rfl w3.heap.size 47 i0 (.agg #[.int .i64 0, .int .i64 0]) 2 16 Try.underlying34 hi hz0 hz1 hz2 rfl (by decide) u9 k (prs (mvd (n : Int) (a.take k))) rfl hownD ⟨wr.heap.size, 0, none⟩ 1 1 [.int .i64 t, .int .i64 y] rfl rfl (two_cells (by go_simp) (by go_simp)) (by intro q hq; simp at hq; rcases hq with rfl | rfl <;> rfl) (by unfold maxLen; omega) (by omega) (by simp; omega) ?_; intro v' w5 hown3 hgrow))
          all_goals
            rw [← HPR.out] at hown3
            have hb5 : Below w3.heap.size w3 w5 := ((Hb.out.drew).alloc (show w3.heap.size ≤ wr.heap.size by omega) _).grown hgrow (by simp; omega) (fun k hk => (hownD.lt _ hk).1)
            clear hgrow hownD hown
            go_simp
            go_wp2_with fail
            first
            | (go_roundw; (case rel => exact ⟨k + 1, by omega, by go_num, hown3, hb5, HJ1⟩); (case measure => simp [Go.RowKit.intOf]; omega))
            | exact ⟨⟨k + 1, by omega, by go_num, hown3, hb5, HJ1⟩, by simp [Go.RowKit.intOf]; omega⟩
        · obtain rfl : k = a.length := by omega
          rw [List.take_length] at hown
          have HB := Lib.hid (HB3.out.trans (hb.mono HB3.out.size))
          have HIP := Lib.hid (PL.of_own hown HML0.out.symm (prng_of (fun p hp => by
            unfold mvd at hp
            obtain ⟨q, hq, rfl⟩ := List.mem_map.1 hp
            obtain ⟨i, hi, rfl⟩ := List.getElem_of_mem hq
            have h1 := HAR.out _ hq
            have h2 := HJ.out i hi
            rw [List.getD_eq_getElem?_getD, List.getElem?_eq_getElem hi] at h2
            simp only [Option.getD_some] at h2
            exact ⟨h1.1, ⟨by omega, by omega⟩⟩)) (by rw [HML0.out]; omega))
          have hqb : -1000000 ≤ q ∧ q ≤ 1000000 := by
            obtain ⟨p, hp, hpq⟩ := List.mem_map.1 HQM.out
            obtain ⟨i, hi, rfl⟩ := List.getElem_of_mem hp
            have h2 := HJ.out i hi
            rw [List.getD_eq_getElem?_getD, List.getElem?_eq_getElem hi] at h2
            simp only [Option.getD_some] at h2
            rw [hpq] at h2
            exact h2
          have hY : IntKind.i64.wrap (q + (n : Int)) = q + (n : Int) := IntWalk.i64_in _ (by omega)
          clear hown hb HJ
          go_wp2_with fail
          refine (HML.out _ _ HIP.out).mono ?_
          rintro e w5 ⟨rfl, hb5⟩
          have HB5 := Lib.hid (HB.out.trans (hb5.mono HB.out.size))
          clear hb5
          go_wp2_with fail
          go_ret
          exact ⟨by first | rfl | simp, HB5.out⟩
end Go.Proofs.Ytljmiodkmddllaa
