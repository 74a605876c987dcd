/- Walks: the law FnIngestAll. -/
import Derived.Deep.DeepCutAuto
import Derived.Deep.RegionHeld3
import Derived.Test.YtkekpkfhljankaaCn
import Derived.Test.YtkekpkfhljankaaZy
set_option linter.unusedVariables false
set_option linter.unusedSimpArgs false
namespace Go.Proofs.Ytkekpkfhljankaa
open Go.RowKit

theorem take_getD_co {α : Type} (l : List α) (n j : Nat) (d : α) (h : j < n) : (l.take n).getD j d = l.getD j d := by
  rw [List.getD_eq_getElem?_getD, List.getD_eq_getElem?_getD, List.getElem?_take_of_lt h]
theorem drop_getD_co {α : Type} (l : List α) (n j : Nat) (d : α) : (l.drop n).getD j d = l.getD (n + j) d := by
  rw [List.getD_eq_getElem?_getD, List.getD_eq_getElem?_getD, List.getElem?_drop]
theorem PL.cut_co {w : World} {B b off n c : Nat} {xs : List (Int × Int)} (h : PL w B (.slice (some ⟨b, off, none⟩) xs.length c) xs) (k : Nat) (hk : k ≤ xs.length) : PL w B (.slice (some ⟨b, off, none⟩) k n) (xs.take k) := by
  obtain ⟨hr, hl, A, c', hv, h3⟩ := h
  have e : (xs.take k).length = k := by rw [List.length_take]; omega
  refine ⟨fun j => ?_, by omega, _, n, by rw [e], ?_⟩
  · by_cases hj : j < k
    · rw [take_getD_co _ _ _ _ hj]; exact hr j
    · rw [List.getD_eq_getElem?_getD, List.getElem?_eq_none (by omega)]; exact ⟨rng_zero, rng_zero⟩
  · rcases h3 with h3 | ⟨b', off', hA, hlt, hc⟩
    · left; rw [h3]; simp
    · cases hv
      cases hA
      refine .inr ⟨b, off, rfl, hlt, fun j hj => ?_⟩
      have hj' : j < k := by omega
      rw [take_getD_co _ _ _ _ hj']
      exact hc j (by omega)
theorem PL.off_co {w : World} {B b off n c : Nat} {xs : List (Int × Int)} (h : PL w B (.slice (some ⟨b, off, none⟩) xs.length c) xs) (k : Nat) (hk : k ≤ xs.length) : PL w B (.slice (some ⟨b, off + k * 2, none⟩) (xs.length - k) n) (xs.drop k) := by
  obtain ⟨hr, hl, A, c', hv, h3⟩ := h
  have e : (xs.drop k).length = xs.length - k := by rw [List.length_drop]
  refine ⟨fun j => ?_, by omega, _, n, by rw [e], ?_⟩
  · rw [drop_getD_co]; exact hr _
  · rcases h3 with h3 | ⟨b', off', hA, hlt, hc⟩
    · left; rw [h3]; simp
    · cases hv
      cases hA
      refine .inr ⟨b, off + k * 2, rfl, hlt, fun j hj => ?_⟩
      rw [drop_getD_co]
      have h1 := hc (k + j) (by omega)
      have e1 : off + k * 2 + j * 2 = off + (k + j) * 2 := by omega
      rw [e1]; exact h1

theorem iaC_add (ps : List (Int × Int)) (c : Cs) (k j : Nat) : iaC ps c (k + j) = iaC (ps.drop k) (iaC ps c k) j := by
  unfold iaC
  rw [List.take_add, List.foldl_append]
theorem iaC_take (ps : List (Int × Int)) (c : Cs) {k j : Nat} (h : j ≤ k) : iaC (ps.take k) c j = iaC ps c j := by
  unfold iaC
  rw [List.take_take, Nat.min_eq_left h]
theorem iaOk_take (ps : List (Int × Int)) (c : Cs) {k j : Nat} (h : j < k) : iaOk (ps.take k) c j = iaOk ps c j := by
  unfold iaOk
  rw [iaC_take ps c (by omega)]
  congr 1
  rw [List.getD_eq_getElem?_getD, List.getD_eq_getElem?_getD, List.getElem?_take]
  rw [if_pos h]
theorem iaOk_drop (ps : List (Int × Int)) (c : Cs) (k j : Nat) : iaOk (ps.drop k) (iaC ps c k) j = iaOk ps c (k + j) := by
  unfold iaOk
  rw [iaC_add]
  congr 1
  rw [List.getD_eq_getElem?_getD, List.getD_eq_getElem?_getD, List.getElem?_drop]
/-- points in two parts -/
theorem all_parts {c : Cs} {ps : List (Int × Int)} {k : Nat} (hl : ps.length ≤ 200) (hk : k ≤ ps.length) (h : ¬ allI c ps < (ps.length : Int)) :
    allI c ps = ps.length ∧ (allM c (ps.take k) = iaC ps c k ∧ allI c (ps.take k) = k) ∧ CR (iaC ps c k) ∧ (allM (iaC ps c k) (ps.drop k) = allM c ps ∧ allI (iaC ps c k) (ps.drop k) = ((ps.length - k : Nat) : Int)) := by
  cases hc : cascB c with
  | false => rw [(all_no hc).2] at h; omega
  | true =>
    have hn := iaN_le ps c
    rw [(all_yes hc rfl).2] at h
    have hN : iaN ps c = ps.length := by omega
    have hok := hn.2
    rw [hN] at hok
    have h1 : iaN (ps.take k) c = k := iaN_end (fun j hj => by rw [iaOk_take ps c hj]; exact hok j (by omega)) (by rw [List.length_take]; omega)
    have hck := iaC_casc hc k hk (fun j hj => hok j (by omega))
    have h2 : iaN (ps.drop k) (iaC ps c k) = ps.length - k := iaN_end (fun j hj => by rw [iaOk_drop]; exact hok _ (by omega)) (by rw [List.length_drop]; omega)
    refine ⟨(all_yes hc hN).2, ?_, cascB_cr hck, ?_⟩
    · rw [(all_yes hc h1).1, (all_yes hc h1).2, iaC_take ps c (Nat.le_refl k)]; exact ⟨rfl, rfl⟩
    · rw [(all_yes hck h2).1, (all_yes hck h2).2, ← iaC_add, (all_yes hc hN).1, show k + (ps.length - k) = ps.length by omega]; exact ⟨rfl, rfl⟩
theorem KS4.of {w1 W : World} {b : Nat} {c0 c1 c2 c3 : Value} {T : TypeId} (h1 : BoxN w1 b #[c0, c1, c2, c3] T) (h : Below w1.heap.size w1 W) : Below w1.heap.size w1 W ∧ W.cell? ⟨b, 0, none⟩ = some c0 ∧ W.cell? ⟨b, 1, none⟩ = some c1 ∧ W.cell? ⟨b, 2, none⟩ = some c2 ∧ W.cell? ⟨b, 3, none⟩ = some c3 :=
  have e1 : BoxN W b #[c0, c1, c2, c3] T := (h.block _ h1.lt).trans h1
  ⟨h, e1.cell (i := 0) rfl, e1.cell (i := 1) rfl, e1.cell (i := 2) rfl, e1.cell (i := 3) rfl⟩
theorem pl_empty (w : World) (B : Nat) (A : Option Addr) (c : Nat) : PL w B (.slice A 0 c) [] := ⟨fun j => ⟨by exact rng_zero, by exact rng_zero⟩, by simp, A, c, rfl, .inl rfl⟩

set_option maxRecDepth 100000 in
set_option maxHeartbeats 8000000 in
theorem walkFnIngestAll (A : Option Addr) (n ca : Nat) (w : World) (hcode : n ≤ 1048576 → CodeAt w A n ca) :
    Calls Try.prog 8 #[.slice A n ca] w fun e w' => e = .returned (.bool true) ∧ Below w.heap.size w w' := by
  by_cases hbig : (1048576 : Int) < n
  · have hb : decide (1048576 < (n : Int)) = true := decide_eq_true hbig
    clear hcode
    have HBG := Lib.hid (fun W => big_any A n ca W)
    rw [hb] at HBG
    go_enter Try.func8, Try.ntmps8
    go_wp2_with (go_at_call 29; refine (HBG.out _).mono ?_; rintro e w' ⟨rfl, rfl⟩)
    go_ret
    exact ⟨rfl, Below.refl _ _⟩
  · have hb : decide (1048576 < (n : Int)) = false := decide_eq_false hbig
    have HBG := Lib.hid (fun W => big_any A n ca W)
    rw [hb] at HBG
    have hD := Lib.hid (DrawIngestAll_any A n ca w (hcode (by omega)))
    have hIm := Lib.hid (fun v u c xs W h h' hc => implIngestAll_any v u c xs W h h' hc)
    have hSp := Lib.hid (fun v u c xs W h h' => specIngestAll_any v u c xs W h h')
    have hSa := Lib.hid (fun v u c W h h' => sameCascade_any v u c W h h')
    have hnb : n ≤ 1048576 := by omega
    clear hcode hb hbig
    go_enter Try.func8, Try.ntmps8
    go_wp2_with (go_at_call 29; refine (HBG.out _).mono ?_; rintro e w' ⟨rfl, rfl⟩)
    refine hD.out.mono ?_
    rintro e w1 ⟨rv, lv, es, c, pv, xs, rfl, hd, hcr, hpo, hpr, hpl, hb1⟩
    obtain ⟨nn, hnn⟩ : ∃ nn, c.2.2.1.length = nn := ⟨_, rfl⟩
    obtain ⟨mm, hmm⟩ : ∃ mm, c.2.2.2.length = mm := ⟨_, rfl⟩
    obtain ⟨ra, rc, rfl⟩ : ∃ a c', rv = .slice a nn c' := by rw [← hnn]; exact hd.raw.shape
    obtain ⟨la, lc, rfl⟩ : ∃ a c', lv = .slice a mm c' := by rw [← hmm]; exact hd.lvl.row.shape
    have hcap : ∃ (pA : Option Addr) (pc : Nat), pv = .slice pA xs.length pc ∧ xs.length ≤ pc ∧ (0 < pc → ∃ g, pA = some ⟨g, 0, none⟩) := by
      rcases hpo.2 with ⟨rfl, h0⟩ | ⟨g, cap, cur, rfl, _, _, h1, _⟩
      · exact ⟨none, 0, by rw [h0], by omega, fun h => by omega⟩
      · exact ⟨_, cap, rfl, h1, fun _ => ⟨g, rfl⟩⟩
    obtain ⟨pA, pc, rfl, hpc, hpA⟩ := hcap
    obtain ⟨w2, hw2⟩ : ∃ w2, w1.alloc (.cells #[.int .i64 c.1, .int .i64 c.2.1, .slice ra nn rc, .slice la mm lc] 32) = w2 := ⟨_, rfl⟩
    have hb2 : Below w1.heap.size w1 w2 := by rw [← hw2]; exact (Below.refl _ _).alloc (Nat.le_refl _) _
    obtain ⟨cb, hcb⟩ : ∃ cb, w1.heap.size = cb := ⟨_, rfl⟩
    have X2 : Hid (BoxN w2 cb #[.int .i64 c.1, .int .i64 c.2.1, .slice ra nn rc, .slice la mm lc] 32) := Lib.hid (by rw [← hcb, ← hw2]; exact World.alloc_heap_new w1 _)
    have C2 := Lib.hid (show CV w2 w2.heap.size (.agg #[.int .i64 c.1, .int .i64 c.2.1, .slice ra nn rc, .slice la mm lc]) c from (hd.below hb2).cv hcr)
    have P2 := Lib.hid (show PL w2 w2.heap.size (.slice pA xs.length pc) xs from ((PL.of_own hpo rfl (prng_of_ch hpr) (by omega)).below hb2).up hb2.size)
    have B2 := Lib.hid (hb1.trans (hb2.mono hb1.size))
    have HW2 := Lib.hid hw2
    have HCB := Lib.hid hcb
    have hdcr := (allM_cr c xs).1
    have hicr := (allM_cr c xs).2
    have hPT := Lib.hid (fun k hk h => all_parts (c := c) (ps := xs) (k := k) (by omega) hk h)
    have TI := Lib.hid (fun v u W h h' hc => hIm.out v u c xs W h h' hc)
    have TS := Lib.hid (fun v u W h h' => hSp.out v u c xs W h h')
    have hA1 := Lib.hid (fun k v u W h h' hc => hIm.out v u c (xs.take k) W h h' hc)
    have hA2 := Lib.hid (fun k v u W h h' hc => hIm.out v u (iaC xs c k) (xs.drop k) W h h' hc)
    obtain ⟨d, hdd⟩ : ∃ d, allM c xs = d := ⟨_, rfl⟩
    obtain ⟨i, hii⟩ : ∃ i, allI c xs = i := ⟨_, rfl⟩
    rw [hdd] at hdcr hPT TI TS
    rw [hii] at hicr hPT TI TS
    have DCR := Lib.hid hdcr
    obtain ⟨hi1, hi2⟩ := hicr
    have S1 := hb1.size
    have S2 := X2.out.lt
    have CRn := Lib.hid hcr
    have x0 := X2.out.cell (i := 0) rfl
    have x1 := X2.out.cell (i := 1) rfl
    have x2 := X2.out.cell (i := 2) rfl
    have x3 := X2.out.cell (i := 3) rfl
    have HPA := Lib.hid hpA
    clear hw2 hcb hd hcr hpo hpr hb1 hb2 hdcr hnn hmm hIm hSp hD HBG hdd hii hpA
    go_upto_region 4 with fail
    rw [HW2.out, HCB.out]
    go_wp2_with fail
    refine (TI.out _ _ _ C2.out P2.out ⟨_, _, rfl, hpc⟩).mono ?_
    rintro e w3 ⟨rv3, lv3, es3, rfl, hd3, hb3⟩
    obtain ⟨n3, hn3⟩ : ∃ n3, d.2.2.1.length = n3 := ⟨_, rfl⟩
    obtain ⟨m3, hm3⟩ : ∃ m3, d.2.2.2.length = m3 := ⟨_, rfl⟩
    obtain ⟨rb, rbc, rfl⟩ : ∃ a c', rv3 = .slice a n3 c' := by rw [← hn3]; exact hd3.raw.shape
    obtain ⟨lb, lbc, rfl⟩ : ∃ a c', lv3 = .slice a m3 c' := by rw [← hm3]; exact hd3.lvl.row.shape
    have HN3 := Lib.hid hn3
    have HM3 := Lib.hid hm3
    obtain ⟨w4, hw4⟩ : ∃ w4, w3.alloc (.cells #[.int .i64 d.1, .int .i64 d.2.1, .slice rb n3 rbc, .slice lb m3 lbc] 32) = w4 := ⟨_, rfl⟩
    obtain ⟨nb, hnb4⟩ : ∃ nb, w3.heap.size = nb := ⟨_, rfl⟩
    have hb4 : Below w3.heap.size w3 w4 := by rw [← hw4]; exact (Below.refl _ _).alloc (Nat.le_refl _) _
    have X4 : Hid (BoxN w4 nb #[.int .i64 d.1, .int .i64 d.2.1, .slice rb n3 rbc, .slice lb m3 lbc] 32) := Lib.hid (by rw [← hnb4, ← hw4]; exact World.alloc_heap_new w3 _)
    have D4 := Lib.hid (show CV w4 w4.heap.size (.agg #[.int .i64 d.1, .int .i64 d.2.1, .slice rb n3 rbc, .slice lb m3 lbc]) d from (hd3.below hb4).cv DCR.out)
    have B24 := Lib.hid (show Below w2.heap.size w2 w4 from hb3.trans (hb4.mono hb3.size))
    have Y4 : Hid (BoxN w4 cb #[.int .i64 c.1, .int .i64 c.2.1, .slice ra nn rc, .slice la mm lc] 32) := Lib.hid ((B24.out.block _ S2).trans X2.out)
    have C4 := Lib.hid ((C2.out.below B24.out).up B24.out.size)
    have P4 := Lib.hid ((P2.out.below B24.out).up B24.out.size)
    have S4 := X4.out.lt
    have S24 := B24.out.size
    have HW4 := Lib.hid hw4
    have HNB := Lib.hid hnb4
    have x0 := Y4.out.cell (i := 0) rfl
    have x1 := Y4.out.cell (i := 1) rfl
    have x2 := Y4.out.cell (i := 2) rfl
    have x3 := Y4.out.cell (i := 3) rfl
    clear hn3 hm3 hw4 hnb4 hd3 hb3 hb4 X2 C2 P2 TI
    go_upto_region 5 with fail
    rw [HW4.out, HNB.out]
    clear HW4 HW2
    go_wp2_with fail
    refine (TS.out _ _ _ C4.out P4.out).mono ?_
    rintro e w5 ⟨rv5, lv5, es5, rfl, hd5, hb5⟩
    obtain ⟨rf, rfc, rfl⟩ : ∃ a c', rv5 = .slice a n3 c' := by rw [← HN3.out]; exact hd5.raw.shape
    obtain ⟨lf, lfc, rfl⟩ : ∃ a c', lv5 = .slice a m3 c' := by rw [← HM3.out]; exact hd5.lvl.row.shape
    obtain ⟨w6, hw6⟩ : ∃ w6, w5.alloc (.cells #[.int .i64 d.1, .int .i64 d.2.1, .slice rf n3 rfc, .slice lf m3 lfc] 32) = w6 := ⟨_, rfl⟩
    obtain ⟨wb, hwb6⟩ : ∃ wb, w5.heap.size = wb := ⟨_, rfl⟩
    have hb6 : Below w5.heap.size w5 w6 := by rw [← hw6]; exact (Below.refl _ _).alloc (Nat.le_refl _) _
    have B46 := Lib.hid (show Below w4.heap.size w4 w6 from hb5.trans (hb6.mono hb5.size))
    have X6 := Lib.hid (show BoxN w6 nb #[.int .i64 d.1, .int .i64 d.2.1, .slice rb n3 rbc, .slice lb m3 lbc] 32 from (B46.out.block _ X4.out.lt).trans X4.out)
    have Y6 := Lib.hid (show BoxN w6 cb #[.int .i64 c.1, .int .i64 c.2.1, .slice ra nn rc, .slice la mm lc] 32 from (B46.out.block _ Y4.out.lt).trans Y4.out)
    have Z6 := Lib.hid (show BoxN w6 wb #[.int .i64 d.1, .int .i64 d.2.1, .slice rf n3 rfc, .slice lf m3 lfc] 32 from by rw [← hwb6, ← hw6]; exact World.alloc_heap_new w5 _)
    have C6 := Lib.hid ((C4.out.below B46.out).up B46.out.size)
    have D6 := Lib.hid ((D4.out.below B46.out).up B46.out.size)
    have E6 := Lib.hid (show CV w6 w6.heap.size (.agg #[.int .i64 d.1, .int .i64 d.2.1, .slice rf n3 rfc, .slice lf m3 lfc]) d from (hd5.below hb6).cv DCR.out)
    have P6 := Lib.hid ((P4.out.below B46.out).up B46.out.size)
    have BF := Lib.hid (B2.out.trans ((B24.out.trans (B46.out.mono S24)).mono B2.out.size))
    have HW6 := Lib.hid hw6
    have HWB := Lib.hid hwb6
    have u0 := X6.out.cell (i := 0) rfl
    have u1 := X6.out.cell (i := 1) rfl
    have u2 := X6.out.cell (i := 2) rfl
    have u3 := X6.out.cell (i := 3) rfl
    have z0 := Z6.out.cell (i := 0) rfl
    have z1 := Z6.out.cell (i := 1) rfl
    have z2 := Z6.out.cell (i := 2) rfl
    have z3 := Z6.out.cell (i := 3) rfl
    have HS6 := Lib.hid (hSa.out _ _ d w6 D6.out E6.out)
    clear hw6 hwb6 hd5 hb5 hb6 X4 Y4 C4 D4 P4 TS x0 x1 x2 x3
    go_upto_region 6 with fail
    rw [HW6.out, HWB.out]
    clear HW6
    go_wp2_with fail
    refine HS6.out.mono ?_
    rintro e w7 ⟨rfl, hb7⟩
    have X7 := Lib.hid (show BoxN w7 nb #[.int .i64 d.1, .int .i64 d.2.1, .slice rb n3 rbc, .slice lb m3 lbc] 32 from (hb7.block _ X6.out.lt).trans X6.out)
    have Y7 := Lib.hid (show BoxN w7 cb #[.int .i64 c.1, .int .i64 c.2.1, .slice ra nn rc, .slice la mm lc] 32 from (hb7.block _ Y6.out.lt).trans Y6.out)
    have Z7 := Lib.hid (show BoxN w7 wb #[.int .i64 d.1, .int .i64 d.2.1, .slice rf n3 rfc, .slice lf m3 lfc] 32 from (hb7.block _ Z6.out.lt).trans Z6.out)
    have C7 := Lib.hid ((C6.out.below hb7).up hb7.size)
    have D7 := Lib.hid ((D6.out.below hb7).up hb7.size)
    have E7 := Lib.hid ((E6.out.below hb7).up hb7.size)
    have P7 := Lib.hid ((P6.out.below hb7).up hb7.size)
    have BG := Lib.hid (BF.out.trans (hb7.mono BF.out.size))
    clear hb7 X6 Y6 Z6 C6 D6 E6 P6 u0 u1 u2 u3 z0 z1 z2 z3 HS6
    by_cases hil : i < (xs.length : Int)
    · have u0 := X7.out.cell (i := 0) rfl
      have u1 := X7.out.cell (i := 1) rfl
      have u2 := X7.out.cell (i := 2) rfl
      have u3 := X7.out.cell (i := 3) rfl
      have z0 := Z7.out.cell (i := 0) rfl
      have z1 := Z7.out.cell (i := 1) rfl
      have z2 := Z7.out.cell (i := 2) rfl
      have z3 := Z7.out.cell (i := 3) rfl
      have HS7 := Lib.hid (hSa.out _ _ d w7 D7.out E7.out)
      go_wp2_with fail
      refine HS7.out.mono ?_
      rintro e w8 ⟨rfl, hb8⟩
      go_wp2_with fail
      go_ret
      exact ⟨rfl, BG.out.trans (hb8.mono BG.out.size)⟩
    · have hild : decide (i < (xs.length : Int)) = false := decide_eq_false hil
      obtain ⟨k, hk⟩ : ∃ k, k = n % (xs.length + 1) := ⟨_, rfl⟩
      have hkl : k ≤ xs.length := by rw [hk]; have := Nat.mod_lt n (show 0 < xs.length + 1 by omega); omega
      obtain ⟨hi, hm1, hck, hm2⟩ := hPT.out k hkl (by omega)
      have ek : Int.tmod (n : Int) ((xs.length : Int) + 1) = (k : Int) := by
        rw [Int.tmod_eq_emod_of_nonneg (by omega), hk]; rfl
      have ew : IntKind.i64.wrap ((xs.length : Int) + 1) = (xs.length : Int) + 1 := IntWalk.i64_in _ (by omega)
      have hz0' : ¬ ((xs.length : Int) + 1 = 0) := by omega
      have hz1' : ((xs.length : Int) + 1 == 0) = false := by simpa using hz0'
      have hkI : (k : Int) ≤ (xs.length : Int) := by omega
      have hkc : (k : Int) ≤ (pc : Int) := by omega
      have hlc : (xs.length : Int) ≤ (pc : Int) := by omega
      have hA1' := Lib.hid (fun v u W h h' hc => (show Calls Try.prog 26 #[v, u] W (IPost W.heap.size (iaC xs c k) (k : Int) W) from by have := hA1.out k v u W h h' hc; rw [hm1.1, hm1.2] at this; exact this))
      have hA2' := Lib.hid (fun v u W h h' hc => (show Calls Try.prog 26 #[v, u] W (IPost W.heap.size d (((xs.length - k : Nat) : Int)) W) from by have := hA2.out k v u W h h' hc; rw [hm2.1, hm2.2] at this; exact this))
      obtain ⟨dk, hdk⟩ : ∃ dk, iaC xs c k = dk := ⟨_, rfl⟩
      rw [hdk] at hA1' hA2' hck
      have DKR := Lib.hid hck
      have HI := Lib.hid hi
      have HKK := Lib.hid hk
      have P7a := Lib.hid (show PL w7 w7.heap.size (.slice pA k pc) (xs.take k) from by
        by_cases h0 : xs.length = 0
        · have hx : xs = [] := List.eq_nil_of_length_eq_zero h0
          have hk0 : k = 0 := by omega
          rw [hx, hk0]; exact pl_empty _ _ _ _
        · obtain ⟨g, rfl⟩ := HPA.out (by omega)
          exact PL.cut_co P7.out k hkl)
      have hcapA : ∃ A cap, (Value.slice pA k pc) = .slice A (xs.take k).length cap ∧ (xs.take k).length ≤ cap := ⟨pA, pc, by rw [List.length_take, Nat.min_eq_left hkl], by rw [List.length_take]; omega⟩
      have HCA := Lib.hid hcapA
      clear hm1 hm2 hck hi hdk hk hcapA hA1 hA2 hPT
      have HIL := Lib.hid hil
      clear hil
      go_wp2_with fail
      go_upto_region 9 with fail
      go_cut [10, 11] (fun s1 s2 wx => ∃ (ob9 : Nat) (ra9 : Option Addr) (n9 rc9 : Nat) (la9 : Option Addr) (m9 lc9 : Nat), s1 = .pointer (some ⟨ob9, 0, none⟩) ∧ s2 = .int .i64 (k : Int) ∧ BoxN wx ob9 #[.int .i64 dk.1, .int .i64 dk.2.1, .slice ra9 n9 rc9, .slice la9 m9 lc9] 32 ∧ CV wx wx.heap.size (.agg #[.int .i64 dk.1, .int .i64 dk.2.1, .slice ra9 n9 rc9, .slice la9 m9 lc9]) dk ∧ Below w7.heap.size w7 wx)
      case first =>
        have HC1 : Hid (CV w7.drew w7.drew.heap.size _ _) := Lib.hid C7.out
        have HC2 : Hid (CV (w7.alloc (.cells #[.int .i64 0, .int .i64 0, .slice none 0 0, .slice none 0 0] 32)).drew (w7.alloc (.cells #[.int .i64 0, .int .i64 0, .slice none 0 0, .slice none 0 0] 32)).drew.heap.size _ _) := Lib.hid (show CV (w7.alloc (.cells #[.int .i64 0, .int .i64 0, .slice none 0 0, .slice none 0 0] 32)) (w7.alloc (.cells #[.int .i64 0, .int .i64 0, .slice none 0 0, .slice none 0 0] 32)).heap.size _ _ from (C7.out.below ((Below.refl _ _).alloc (Nat.le_refl _) _)).up (by simp))
        have HP1 : Hid (PL w7.drew w7.drew.heap.size _ _) := Lib.hid P7a.out
        have HP2 : Hid (PL (w7.alloc (.cells #[.int .i64 0, .int .i64 0, .slice none 0 0, .slice none 0 0] 32)).drew (w7.alloc (.cells #[.int .i64 0, .int .i64 0, .slice none 0 0, .slice none 0 0] 32)).drew.heap.size _ _) := Lib.hid (show PL (w7.alloc (.cells #[.int .i64 0, .int .i64 0, .slice none 0 0, .slice none 0 0] 32)) (w7.alloc (.cells #[.int .i64 0, .int .i64 0, .slice none 0 0, .slice none 0 0] 32)).heap.size _ _ from (P7a.out.below ((Below.refl _ _).alloc (Nat.le_refl _) _)).up (by simp))
        have OBz : Hid (BoxN (w7.alloc (.cells #[.int .i64 0, .int .i64 0, .slice none 0 0, .slice none 0 0] 32)) w7.heap.size #[.int .i64 0, .int .i64 0, .slice none 0 0, .slice none 0 0] 32) := Lib.hid (World.alloc_heap_new w7 _)
        have HKO := Lib.hid (fun W hW => KS4.of (W := W) Y7.out hW)
        have HK0 := Lib.hid (HKO.out _ (show Below w7.heap.size w7 w7.drew from (Below.refl _ _).drew))
        go_region_held3 (fun W => Below w7.heap.size w7 W ∧ W.cell? ⟨cb, 0, none⟩ = some (.int .i64 c.1) ∧ W.cell? ⟨cb, 1, none⟩ = some (.int .i64 c.2.1) ∧ W.cell? ⟨cb, 2, none⟩ = some (.slice ra nn rc) ∧ W.cell? ⟨cb, 3, none⟩ = some (.slice la mm lc))
          (first | with_reducible assumption | with_reducible exact HK0.out | with_reducible exact HKO.out _ (KSP.alloc HN3.out _) | with_reducible exact HKO.out _ (KSP.set4 HN3.out (by first | omega | (simp; done)) _ _ _ _) | with_reducible exact HKO.out _ (KSP.alloc (And.left (by assumption)) _) | with_reducible exact HKO.out _ (KSP.allocD (And.left (by assumption)) _) | with_reducible exact HKO.out _ (KSP.next (And.left (by assumption)) (by assumption)))
          (first | (go_at_call 26; (with_reducible refine (hA1'.out _ _ _ HC1.out HP1.out HCA.out).mono ?_); rintro e w3q ⟨rv3, lv3, es3, rfl, hd3, hb3⟩; have N3 := KSP.next (And.left (by assumption)) hb3; obtain ⟨ra8, rc8, hra⟩ := hd3.raw.shape; obtain ⟨la8, lc8, hla⟩ := hd3.lvl.row.shape; obtain ⟨n8, hn8⟩ : ∃ n8, dk.2.2.1.length = n8 := ⟨_, rfl⟩; obtain ⟨m8, hm8⟩ : ∃ m8, dk.2.2.2.length = m8 := ⟨_, rfl⟩; rw [hn8] at hra; rw [hm8] at hla; subst hra hla; have HD3 := Lib.hid hd3; have HN3 := Lib.hid N3; have szk := hb3.size; have sz3 := N3.size; clear hn8 hm8) | (go_at_call 26; (with_reducible refine (hA1'.out _ _ _ HC2.out HP2.out HCA.out).mono ?_); rintro e w3q ⟨rv3, lv3, es3, rfl, hd3, hb3⟩; have N3 := KSP.next (And.left (by assumption)) hb3; obtain ⟨ra8, rc8, hra⟩ := hd3.raw.shape; obtain ⟨la8, lc8, hla⟩ := hd3.lvl.row.shape; obtain ⟨n8, hn8⟩ : ∃ n8, dk.2.2.1.length = n8 := ⟨_, rfl⟩; obtain ⟨m8, hm8⟩ : ∃ m8, dk.2.2.2.length = m8 := ⟨_, rfl⟩; rw [hn8] at hra; rw [hm8] at hla; subst hra hla; have HD3 := Lib.hid hd3; have HN3 := Lib.hid N3; have szk := hb3.size; have sz3 := N3.size; clear hn8 hm8; (have OB3 : Hid (BoxN w3q w7.heap.size #[.int .i64 0, .int .i64 0, .slice none 0 0, .slice none 0 0] 32) := Lib.hid ((hb3.block _ (by simp)).trans OBz.out)); have hob3x := OB3.out.lt; have o0 := BoxN.cell (i := 0) OB3.out rfl; have o1 := BoxN.cell (i := 1) OB3.out rfl; have o2 := BoxN.cell (i := 2) OB3.out rfl; have o3 := BoxN.cell (i := 3) OB3.out rfl; have f0 := BoxN.frozen (i := 0) OB3.out; have f1 := BoxN.frozen (i := 1) OB3.out; have f2 := BoxN.frozen (i := 2) OB3.out; have f3 := BoxN.frozen (i := 3) OB3.out))
        all_goals
          go_wp2_with fail
          go_meet
          case rel => first
            | exact ⟨_, ra8, n8, rc8, la8, m8, lc8, rfl, (by first | rfl | exact congrArg (Value.int IntKind.i64) (by omega)), BoxN.set4 OB3.out _ _ _ _, (CD.set4n HD3.out (.inl (by simp)) _ _ _ _).cv DKR.out, KSP.set4 HN3.out (Nat.le_refl _) _ _ _ _⟩
            | exact ⟨_, ra8, n8, rc8, la8, m8, lc8, rfl, (by first | rfl | exact congrArg (Value.int IntKind.i64) (by omega)), World.alloc_heap_new w3q _, (HD3.out.below ((Below.refl _ _).alloc (Nat.le_refl _) _)).cv DKR.out, HN3.out.alloc (by omega) _⟩
      case rest =>
        obtain ⟨oa, rd, n8, rdc, ld, m8, ldc, rfl, rfl, hax, hac, hb8⟩ := hcut
        obtain ⟨w8, hw8⟩ : ∃ w8, wc = w8 := ⟨_, rfl⟩
        rw [hw8] at hax hac hb8 ⊢
        clear hw8
        have A8 := Lib.hid hax
        have AC8 := Lib.hid hac
        have X8 := Lib.hid (show BoxN w8 nb #[.int .i64 d.1, .int .i64 d.2.1, .slice rb n3 rbc, .slice lb m3 lbc] 32 from (hb8.block _ X7.out.lt).trans X7.out)
        have D8 := Lib.hid ((D7.out.below hb8).up hb8.size)
        have P8 := Lib.hid ((P7.out.below hb8).up hb8.size)
        have BH := Lib.hid (BG.out.trans (hb8.mono BG.out.size))
        have hxl : (xs.drop k).length = xs.length - k := List.length_drop
        clear hax hac hb8 X7 Y7 Z7 C7 D7 E7 P7 P7a
        have hkI2 : (0 : Int) ≤ (k : Int) := by omega
        have esub : (xs.length : Int) - (k : Int) = ((xs.length - k : Nat) : Int) := by omega
        have esubc : (pc : Int) - (k : Int) = ((pc - k : Nat) : Int) := by omega
        go_upto_region 10 with fail
        go_cut [12, 13] (fun s1 s2 wx => ∃ (ob9 : Nat) (ra9 : Option Addr) (n9 rc9 : Nat) (la9 : Option Addr) (m9 lc9 : Nat), s1 = .pointer (some ⟨ob9, 0, none⟩) ∧ s2 = .int .i64 (((xs.length - k : Nat) : Int)) ∧ BoxN wx ob9 #[.int .i64 d.1, .int .i64 d.2.1, .slice ra9 n9 rc9, .slice la9 m9 lc9] 32 ∧ CV wx wx.heap.size (.agg #[.int .i64 d.1, .int .i64 d.2.1, .slice ra9 n9 rc9, .slice la9 m9 lc9]) d ∧ Below w8.heap.size w8 wx)
        case first =>
          by_cases hkp : k = pc
          · have hkl2 : xs.length = k := by omega
            subst hkp
            have HPc := Lib.hid (show PL w8 w8.heap.size (.slice pA 0 0) (xs.drop k) from by rw [List.drop_eq_nil_of_le (by omega)]; exact pl_empty _ _ _ _)
            have HCc : Hid (∃ A cap, (Value.slice pA 0 0) = .slice A (xs.drop k).length cap ∧ (xs.drop k).length ≤ cap) := Lib.hid ⟨pA, 0, by rw [hxl, show xs.length - k = 0 by omega], by omega⟩
            have HKL2 := Lib.hid hkl2
            clear hkl2
            have HC1 : Hid (CV w8.drew w8.drew.heap.size _ _) := Lib.hid AC8.out
            have HC2 : Hid (CV (w8.alloc (.cells #[.int .i64 0, .int .i64 0, .slice none 0 0, .slice none 0 0] 32)).drew (w8.alloc (.cells #[.int .i64 0, .int .i64 0, .slice none 0 0, .slice none 0 0] 32)).drew.heap.size _ _) := Lib.hid (show CV (w8.alloc (.cells #[.int .i64 0, .int .i64 0, .slice none 0 0, .slice none 0 0] 32)) (w8.alloc (.cells #[.int .i64 0, .int .i64 0, .slice none 0 0, .slice none 0 0] 32)).heap.size _ _ from (AC8.out.below ((Below.refl _ _).alloc (Nat.le_refl _) _)).up (by simp))
            have HP1 : Hid (PL w8.drew w8.drew.heap.size _ _) := Lib.hid HPc.out
            have HP2 : Hid (PL (w8.alloc (.cells #[.int .i64 0, .int .i64 0, .slice none 0 0, .slice none 0 0] 32)).drew (w8.alloc (.cells #[.int .i64 0, .int .i64 0, .slice none 0 0, .slice none 0 0] 32)).drew.heap.size _ _) := Lib.hid (show PL (w8.alloc (.cells #[.int .i64 0, .int .i64 0, .slice none 0 0, .slice none 0 0] 32)) (w8.alloc (.cells #[.int .i64 0, .int .i64 0, .slice none 0 0, .slice none 0 0] 32)).heap.size _ _ from (HPc.out.below ((Below.refl _ _).alloc (Nat.le_refl _) _)).up (by simp))
            have OBz : Hid (BoxN (w8.alloc (.cells #[.int .i64 0, .int .i64 0, .slice none 0 0, .slice none 0 0] 32)) w8.heap.size #[.int .i64 0, .int .i64 0, .slice none 0 0, .slice none 0 0] 32) := Lib.hid (World.alloc_heap_new w8 _)
            have HKO := Lib.hid (fun W hW => KS4.of (W := W) A8.out hW)
            have HK0 := Lib.hid (HKO.out _ (show Below w8.heap.size w8 w8.drew from (Below.refl _ _).drew))
            go_region_held3 (fun W => Below w8.heap.size w8 W ∧ W.cell? ⟨oa, 0, none⟩ = some (.int .i64 dk.1) ∧ W.cell? ⟨oa, 1, none⟩ = some (.int .i64 dk.2.1) ∧ W.cell? ⟨oa, 2, none⟩ = some (.slice rd n8 rdc) ∧ W.cell? ⟨oa, 3, none⟩ = some (.slice ld m8 ldc))
              (first | with_reducible assumption | with_reducible exact HK0.out | with_reducible exact HKO.out _ (KSP.alloc HN3.out _) | with_reducible exact HKO.out _ (KSP.set4 HN3.out (by first | omega | (simp; done)) _ _ _ _) | with_reducible exact HKO.out _ (KSP.alloc (And.left (by assumption)) _) | with_reducible exact HKO.out _ (KSP.allocD (And.left (by assumption)) _) | with_reducible exact HKO.out _ (KSP.next (And.left (by assumption)) (by assumption)))
              (first | (go_at_call 26; (with_reducible refine (hA2'.out _ _ _ HC1.out HP1.out HCc.out).mono ?_); rintro e w3q ⟨rv3, lv3, es3, rfl, hd3, hb3⟩; have N3 := KSP.next (And.left (by assumption)) hb3; obtain ⟨ra8, rc8, hra⟩ := hd3.raw.shape; obtain ⟨la8, lc8, hla⟩ := hd3.lvl.row.shape; obtain ⟨n8, hn8⟩ : ∃ n8, d.2.2.1.length = n8 := ⟨_, rfl⟩; obtain ⟨m8, hm8⟩ : ∃ m8, d.2.2.2.length = m8 := ⟨_, rfl⟩; rw [hn8] at hra; rw [hm8] at hla; subst hra hla; have HD3 := Lib.hid hd3; have HN3 := Lib.hid N3; have szk := hb3.size; have sz3 := N3.size; clear hn8 hm8) | (go_at_call 26; (with_reducible refine (hA2'.out _ _ _ HC2.out HP2.out HCc.out).mono ?_); rintro e w3q ⟨rv3, lv3, es3, rfl, hd3, hb3⟩; have N3 := KSP.next (And.left (by assumption)) hb3; obtain ⟨ra8, rc8, hra⟩ := hd3.raw.shape; obtain ⟨la8, lc8, hla⟩ := hd3.lvl.row.shape; obtain ⟨n8, hn8⟩ : ∃ n8, d.2.2.1.length = n8 := ⟨_, rfl⟩; obtain ⟨m8, hm8⟩ : ∃ m8, d.2.2.2.length = m8 := ⟨_, rfl⟩; rw [hn8] at hra; rw [hm8] at hla; subst hra hla; have HD3 := Lib.hid hd3; have HN3 := Lib.hid N3; have szk := hb3.size; have sz3 := N3.size; clear hn8 hm8; (have OB3 : Hid (BoxN w3q w8.heap.size #[.int .i64 0, .int .i64 0, .slice none 0 0, .slice none 0 0] 32) := Lib.hid ((hb3.block _ (by simp)).trans OBz.out)); have hob3x := OB3.out.lt; have o0 := BoxN.cell (i := 0) OB3.out rfl; have o1 := BoxN.cell (i := 1) OB3.out rfl; have o2 := BoxN.cell (i := 2) OB3.out rfl; have o3 := BoxN.cell (i := 3) OB3.out rfl; have f0 := BoxN.frozen (i := 0) OB3.out; have f1 := BoxN.frozen (i := 1) OB3.out; have f2 := BoxN.frozen (i := 2) OB3.out; have f3 := BoxN.frozen (i := 3) OB3.out))
            all_goals
              go_wp2_with fail
              go_meet
              case rel => first
                | exact ⟨_, ra8, n8, rc8, la8, m8, lc8, rfl, (by first | rfl | exact congrArg (Value.int IntKind.i64) (by omega)), BoxN.set4 OB3.out _ _ _ _, (CD.set4n HD3.out (.inl (by simp)) _ _ _ _).cv DCR.out, KSP.set4 HN3.out (Nat.le_refl _) _ _ _ _⟩
                | exact ⟨_, ra8, n8, rc8, la8, m8, lc8, rfl, (by first | rfl | exact congrArg (Value.int IntKind.i64) (by omega)), World.alloc_heap_new w3q _, (HD3.out.below ((Below.refl _ _).alloc (Nat.le_refl _) _)).cv DCR.out, HN3.out.alloc (by omega) _⟩
          · have hkpI : (k : Int) < (pc : Int) := by omega
            have hkpN : k < pc := by omega
            have hkpE : ¬ pc = k := by omega
            obtain ⟨g, rfl⟩ := HPA.out (by omega)
            have HPc := Lib.hid (show PL w8 w8.heap.size (.slice (some ⟨g, k * 2, none⟩) (xs.length - k) (pc - k)) (xs.drop k) from by have h := PL.off_co (n := pc - k) P8.out k hkl; rwa [Nat.zero_add] at h)
            have HCc : Hid (∃ A cap, (Value.slice (some ⟨g, k * 2, none⟩) (xs.length - k) (pc - k)) = .slice A (xs.drop k).length cap ∧ (xs.drop k).length ≤ cap) := Lib.hid ⟨_, pc - k, by rw [hxl], by omega⟩
            have HC1 : Hid (CV w8.drew w8.drew.heap.size _ _) := Lib.hid AC8.out
            have HC2 : Hid (CV (w8.alloc (.cells #[.int .i64 0, .int .i64 0, .slice none 0 0, .slice none 0 0] 32)).drew (w8.alloc (.cells #[.int .i64 0, .int .i64 0, .slice none 0 0, .slice none 0 0] 32)).drew.heap.size _ _) := Lib.hid (show CV (w8.alloc (.cells #[.int .i64 0, .int .i64 0, .slice none 0 0, .slice none 0 0] 32)) (w8.alloc (.cells #[.int .i64 0, .int .i64 0, .slice none 0 0, .slice none 0 0] 32)).heap.size _ _ from (AC8.out.below ((Below.refl _ _).alloc (Nat.le_refl _) _)).up (by simp))
            have HP1 : Hid (PL w8.drew w8.drew.heap.size _ _) := Lib.hid HPc.out
            have HP2 : Hid (PL (w8.alloc (.cells #[.int .i64 0, .int .i64 0, .slice none 0 0, .slice none 0 0] 32)).drew (w8.alloc (.cells #[.int .i64 0, .int .i64 0, .slice none 0 0, .slice none 0 0] 32)).drew.heap.size _ _) := Lib.hid (show PL (w8.alloc (.cells #[.int .i64 0, .int .i64 0, .slice none 0 0, .slice none 0 0] 32)) (w8.alloc (.cells #[.int .i64 0, .int .i64 0, .slice none 0 0, .slice none 0 0] 32)).heap.size _ _ from (HPc.out.below ((Below.refl _ _).alloc (Nat.le_refl _) _)).up (by simp))
            have OBz : Hid (BoxN (w8.alloc (.cells #[.int .i64 0, .int .i64 0, .slice none 0 0, .slice none 0 0] 32)) w8.heap.size #[.int .i64 0, .int .i64 0, .slice none 0 0, .slice none 0 0] 32) := Lib.hid (World.alloc_heap_new w8 _)
            have HKO := Lib.hid (fun W hW => KS4.of (W := W) A8.out hW)
            have HK0 := Lib.hid (HKO.out _ (show Below w8.heap.size w8 w8.drew from (Below.refl _ _).drew))
            go_region_held3 (fun W => Below w8.heap.size w8 W ∧ W.cell? ⟨oa, 0, none⟩ = some (.int .i64 dk.1) ∧ W.cell? ⟨oa, 1, none⟩ = some (.int .i64 dk.2.1) ∧ W.cell? ⟨oa, 2, none⟩ = some (.slice rd n8 rdc) ∧ W.cell? ⟨oa, 3, none⟩ = some (.slice ld m8 ldc))
              (first | with_reducible assumption | with_reducible exact HK0.out | with_reducible exact HKO.out _ (KSP.alloc HN3.out _) | with_reducible exact HKO.out _ (KSP.set4 HN3.out (by first | omega | (simp; done)) _ _ _ _) | with_reducible exact HKO.out _ (KSP.alloc (And.left (by assumption)) _) | with_reducible exact HKO.out _ (KSP.allocD (And.left (by assumption)) _) | with_reducible exact HKO.out _ (KSP.next (And.left (by assumption)) (by assumption)))
              (first | (go_at_call 26; (with_reducible refine (hA2'.out _ _ _ HC1.out HP1.out HCc.out).mono ?_); rintro e w3q ⟨rv3, lv3, es3, rfl, hd3, hb3⟩; have N3 := KSP.next (And.left (by assumption)) hb3; obtain ⟨ra8, rc8, hra⟩ := hd3.raw.shape; obtain ⟨la8, lc8, hla⟩ := hd3.lvl.row.shape; obtain ⟨n8, hn8⟩ : ∃ n8, d.2.2.1.length = n8 := ⟨_, rfl⟩; obtain ⟨m8, hm8⟩ : ∃ m8, d.2.2.2.length = m8 := ⟨_, rfl⟩; rw [hn8] at hra; rw [hm8] at hla; subst hra hla; have HD3 := Lib.hid hd3; have HN3 := Lib.hid N3; have szk := hb3.size; have sz3 := N3.size; clear hn8 hm8) | (go_at_call 26; (with_reducible refine (hA2'.out _ _ _ HC2.out HP2.out HCc.out).mono ?_); rintro e w3q ⟨rv3, lv3, es3, rfl, hd3, hb3⟩; have N3 := KSP.next (And.left (by assumption)) hb3; obtain ⟨ra8, rc8, hra⟩ := hd3.raw.shape; obtain ⟨la8, lc8, hla⟩ := hd3.lvl.row.shape; obtain ⟨n8, hn8⟩ : ∃ n8, d.2.2.1.length = n8 := ⟨_, rfl⟩; obtain ⟨m8, hm8⟩ : ∃ m8, d.2.2.2.length = m8 := ⟨_, rfl⟩; rw [hn8] at hra; rw [hm8] at hla; subst hra hla; have HD3 := Lib.hid hd3; have HN3 := Lib.hid N3; have szk := hb3.size; have sz3 := N3.size; clear hn8 hm8; (have OB3 : Hid (BoxN w3q w8.heap.size #[.int .i64 0, .int .i64 0, .slice none 0 0, .slice none 0 0] 32) := Lib.hid ((hb3.block _ (by simp)).trans OBz.out)); have hob3x := OB3.out.lt; have o0 := BoxN.cell (i := 0) OB3.out rfl; have o1 := BoxN.cell (i := 1) OB3.out rfl; have o2 := BoxN.cell (i := 2) OB3.out rfl; have o3 := BoxN.cell (i := 3) OB3.out rfl; have f0 := BoxN.frozen (i := 0) OB3.out; have f1 := BoxN.frozen (i := 1) OB3.out; have f2 := BoxN.frozen (i := 2) OB3.out; have f3 := BoxN.frozen (i := 3) OB3.out))
            all_goals
              go_wp2_with fail
              go_meet
              case rel => first
                | exact ⟨_, ra8, n8, rc8, la8, m8, lc8, rfl, (by first | rfl | exact congrArg (Value.int IntKind.i64) (by omega)), BoxN.set4 OB3.out _ _ _ _, (CD.set4n HD3.out (.inl (by simp)) _ _ _ _).cv DCR.out, KSP.set4 HN3.out (Nat.le_refl _) _ _ _ _⟩
                | exact ⟨_, ra8, n8, rc8, la8, m8, lc8, rfl, (by first | rfl | exact congrArg (Value.int IntKind.i64) (by omega)), World.alloc_heap_new w3q _, (HD3.out.below ((Below.refl _ _).alloc (Nat.le_refl _) _)).cv DCR.out, HN3.out.alloc (by omega) _⟩
        case rest =>
          obtain ⟨oe, re, n9, rec, le, m9, lec, rfl, rfl, hax, hac, hb9⟩ := hcut
          obtain ⟨w9, hw9⟩ : ∃ w9, wc = w9 := ⟨_, rfl⟩
          rw [hw9] at hax hac hb9 ⊢
          clear hw9
          have X9 := Lib.hid (show BoxN w9 nb #[.int .i64 d.1, .int .i64 d.2.1, .slice rb n3 rbc, .slice lb m3 lbc] 32 from (hb9.block _ X8.out.lt).trans X8.out)
          have D9 := (D8.out.below hb9).up hb9.size
          have HS9 := Lib.hid (hSa.out _ _ d w9 hac D9)
          have BI := Lib.hid (BH.out.trans (hb9.mono BH.out.size))
          have x0 := X9.out.cell (i := 0) rfl
          have x1 := X9.out.cell (i := 1) rfl
          have x2 := X9.out.cell (i := 2) rfl
          have x3 := X9.out.cell (i := 3) rfl
          have y0 := BoxN.cell (i := 0) hax rfl
          have y1 := BoxN.cell (i := 1) hax rfl
          have y2 := BoxN.cell (i := 2) hax rfl
          have y3 := BoxN.cell (i := 3) hax rfl
          have es : IntKind.i64.wrap ((k : Int) + ((xs.length - k : Nat) : Int)) = (k : Int) + ((xs.length - k : Nat) : Int) := IntWalk.i64_in _ (by omega)
          have hfin : ((k : Int) + ((xs.length - k : Nat) : Int) == i) = true := by have := HI.out; simp; omega
          have hfin2 : decide ((k : Int) + ((xs.length - k : Nat) : Int) = i) = true := decide_eq_true (by have := HI.out; omega)
          have HF := Lib.hid hfin
          clear hax hac hb9 X8 D8 P8 A8 AC8 esub esubc
          go_wp2_with fail
          refine HS9.out.mono ?_
          rintro e w10 ⟨rfl, hb10⟩
          go_wp2_with fail
          go_ret
          exact ⟨by first | rfl | (have h := HF.out; simp at h ⊢; omega), BI.out.trans (hb10.mono BI.out.size)⟩
end Go.Proofs.Ytkekpkfhljankaa
