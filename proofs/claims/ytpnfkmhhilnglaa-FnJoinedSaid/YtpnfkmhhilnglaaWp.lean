/- Walks: Part of the model and of the program. -/
import Derived.Test.YtpnfkmhhilnglaaWo
set_option linter.unusedVariables false
set_option linter.unusedSimpArgs false
namespace Go.Proofs.Ytpnfkmhhilnglaa
open Go.RowKit

def partL (s : ByteArray) (N f n : Int) : List Bool := ((BM.listOf s.data.toList N.toNat).drop f.toNat).take n.toNat
def partS (s : ByteArray) (N f n : Int) : ByteArray := if hasB s N f n then ⟨(BM.pack (partL s N f n)).toArray⟩ else ⟨#[]⟩
def partN (s : ByteArray) (N f n : Int) : Int := if hasB s N f n then n else 0
theorem partS_bad {s : ByteArray} {N f n : Int} (h : hasB s N f n = false) : partS s N f n = ⟨#[]⟩ ∧ partN s N f n = 0 := by
  unfold partS partN; rw [h]; exact ⟨rfl, rfl⟩

set_option maxRecDepth 100000 in
set_option maxHeartbeats 1000000 in
theorem specPart_bad0 (s : ByteArray) (N f n : Int) (w : World) (hs : s.size ≤ maxLen) (h : okB s N = false) :
    Calls Try.prog 20 #[.agg #[.string s, .int .i64 N], .int .i64 f, .int .i64 n] w (BPost ⟨#[]⟩ 0 false w) := by
  have hok := fun W => specBitsOk_any s N W hs
  rw [h] at hok
  have Hok := Lib.hid hok
  have HR := Lib.hid (start2 w s N)
  clear hok h
  go_enter Try.func20, Try.ntmps20
  go_wp2_with fail
  refine (Hok.out _).mono ?_
  rintro e w1 ⟨rfl, hb1⟩
  have hr1 := HR.out.below hb1
  have hf := (below2 w _ _).trans (hb1.mono (by simp; try omega))
  have r0 := hr1.c0
  have r1 := hr1.c1
  have f0 := hr1.f 0
  have f1 := hr1.f 1
  clear hb1 hr1
  go_wp2_with fail
  exact bodyPost_ret (v := .tuple #[.agg #[.string ⟨#[]⟩, .int .i64 0], .bool false]) (by simp [results, Try.results20, go_sem, r0, r1]) rfl
    ⟨rfl, (hf.setCell (by simp) _).setCell (by simp) _⟩

set_option maxRecDepth 100000 in
set_option maxHeartbeats 1000000 in
theorem specPart_bad1 (s : ByteArray) (N f n : Int) (w : World) (hs : s.size ≤ maxLen) (h : okB s N = true) (b1 b2 b3 b4 : Bool)
    (h1 : decide (n < 0) = b1) (h2 : decide (f < 0) = b2) (h3 : decide (N < f) = b3) (h4 : b1 = false → b2 = false → b3 = false → decide (N - f < n) = b4) (hb : (b1 || b2 || b3 || b4) = true) (hf0 : b2 = false → 0 ≤ f) :
    Calls Try.prog 20 #[.agg #[.string s, .int .i64 N], .int .i64 f, .int .i64 n] w (BPost ⟨#[]⟩ 0 false w) := by
  have hok := fun W => specBitsOk_any s N W hs
  obtain ⟨hN0, hN1, _, _⟩ := okB_facts h
  rw [h] at hok
  have Hok := Lib.hid hok
  have HR := Lib.hid (start2 w s N)
  have HR2 := Lib.hid (start2b w s N (.cells #[.string ⟨#[]⟩, .int .i64 0] 25))
  clear hok h
  cases b1
  · cases b2
    · have hf0' := hf0 rfl
      cases b3
      · cases b4
        · simp at hb
        · have h4' := h4 rfl rfl rfl
          have hle : f ≤ N := by simp at h3; omega
          clear h4 hb hf0
          go_enter Try.func20, Try.ntmps20
          go_wp2_with fail
          refine (Hok.out _).mono ?_
          rintro e w1 ⟨rfl, hb1⟩
          have hr1 := HR.out.below hb1
          obtain ⟨x0, x1, hg⟩ := kept2' hb1 HR2.out.2.2 HR2.out.1 HR2.out.2.1
          have hf := (below2 w _ _).trans (hb1.mono (by simp; try omega))
          have r0 := hr1.c0
          have r1 := hr1.c1
          have f0 := hr1.f 0
          have f1 := hr1.f 1
          clear hb1 hr1
          go_wp2_with fail
          exact bodyPost_ret (v := .tuple #[.agg #[.string ⟨#[]⟩, .int .i64 0], .bool false]) (by simp [results, Try.results20, go_sem, r0, r1]) rfl
            ⟨rfl, (hf.setCell (by simp) _).setCell (by simp) _⟩
      · clear h4 hb hf0
        go_enter Try.func20, Try.ntmps20
        go_wp2_with fail
        refine (Hok.out _).mono ?_
        rintro e w1 ⟨rfl, hb1⟩
        have hr1 := HR.out.below hb1
        obtain ⟨x0, x1, hg⟩ := kept2' hb1 HR2.out.2.2 HR2.out.1 HR2.out.2.1
        have hf := (below2 w _ _).trans (hb1.mono (by simp; try omega))
        have r0 := hr1.c0
        have r1 := hr1.c1
        have f0 := hr1.f 0
        have f1 := hr1.f 1
        clear hb1 hr1
        go_wp2_with fail
        exact bodyPost_ret (v := .tuple #[.agg #[.string ⟨#[]⟩, .int .i64 0], .bool false]) (by simp [results, Try.results20, go_sem, r0, r1]) rfl
          ⟨rfl, (hf.setCell (by simp) _).setCell (by simp) _⟩
    · clear h3 h4 hb hf0
      go_enter Try.func20, Try.ntmps20
      go_wp2_with fail
      refine (Hok.out _).mono ?_
      rintro e w1 ⟨rfl, hb1⟩
      have hr1 := HR.out.below hb1
      have hf := (below2 w _ _).trans (hb1.mono (by simp; try omega))
      have r0 := hr1.c0
      have r1 := hr1.c1
      have f0 := hr1.f 0
      have f1 := hr1.f 1
      clear hb1 hr1
      go_wp2_with fail
      exact bodyPost_ret (v := .tuple #[.agg #[.string ⟨#[]⟩, .int .i64 0], .bool false]) (by simp [results, Try.results20, go_sem, r0, r1]) rfl
        ⟨rfl, (hf.setCell (by simp) _).setCell (by simp) _⟩
  · clear h2 h3 h4 hb hf0
    go_enter Try.func20, Try.ntmps20
    go_wp2_with fail
    refine (Hok.out _).mono ?_
    rintro e w1 ⟨rfl, hb1⟩
    have hr1 := HR.out.below hb1
    have hf := (below2 w _ _).trans (hb1.mono (by simp; try omega))
    have r0 := hr1.c0
    have r1 := hr1.c1
    have f0 := hr1.f 0
    have f1 := hr1.f 1
    clear hb1 hr1
    go_wp2_with fail
    exact bodyPost_ret (v := .tuple #[.agg #[.string ⟨#[]⟩, .int .i64 0], .bool false]) (by simp [results, Try.results20, go_sem, r0, r1]) rfl
      ⟨rfl, (hf.setCell (by simp) _).setCell (by simp) _⟩

set_option maxRecDepth 100000 in
set_option maxHeartbeats 1000000 in
theorem specPart_good (s : ByteArray) (N f n : Nat) (w : World) (hs : s.size ≤ maxLen) (h : okB s N = true) (hl : f + n ≤ N) (hn0 : 0 < n)
    (R : List UInt8) (hR : Hid (BM.pack (((BM.listOf s.data.toList N).drop f).take n) = R)) :
    Calls Try.prog 20 #[.agg #[.string s, .int .i64 N], .int .i64 f, .int .i64 n] w (BPost ⟨R.toArray⟩ n true w) := by
  have hok := fun W => specBitsOk_any s N W hs
  obtain ⟨hN0, hN1, hN2, _⟩ := okB_facts h
  rw [h] at hok
  have Hok := Lib.hid hok
  have hli := fun W => l1List_any s N W (by omega) (by omega) hs
  have Hli := Lib.hid hli
  have HR := Lib.hid (start2 w s N)
  have HR2 := Lib.hid (start2b w s N (.cells #[.string ⟨#[]⟩, .int .i64 0] 25))
  have HN2 := Lib.hid hN2
  have h3 : decide ((N : Int) < (f : Int)) = false := by simp; omega
  have h4 : decide ((N : Int) - (f : Int) < (n : Int)) = false := by simp; omega
  have h5 : (f : Int) ≤ (N : Int) := by omega
  clear hok h hli hN2
  go_enter Try.func20, Try.ntmps20
  go_wp2_with fail
  refine (Hok.out _).mono ?_
  rintro e w1 ⟨rfl, hb1⟩
  have hr1 := HR.out.below hb1
  obtain ⟨x0, x1, hg⟩ := kept2' hb1 HR2.out.2.2 HR2.out.1 HR2.out.2.1
  have hf := (below2 w _ _).trans (hb1.mono (by simp; try omega))
  have hz := hb1.size
  clear hb1
  go_wp2_with fail
  refine (Hli.out _).mono ?_
  rintro e w2 ⟨v1, rfl, hown, hb2, hvn⟩
  have hr2 := hr1.below hb2
  have hf2 := hf.trans (hb2.mono (by omega))
  rw [BM.listOf_length] at hown
  have hcap : ∃ g cap, v1 = .slice (some ⟨g, 0, none⟩) N cap ∧ N ≤ cap ∧ cap ≤ maxLen := by
    rcases hown.2 with ⟨hv, _⟩ | ⟨g, cap, cur, hv, _, _, hc, hm, _⟩
    · exact absurd hv hvn
    · exact ⟨g, cap, hv, hc, hm⟩
  obtain ⟨g, cap, rfl, hcap, hmax⟩ := hcap
  clear hr1 hf x0 x1 hvn hb2
  unfold maxLen at hmax
  have hfc : f < cap := by omega
  have hcells : IntsAt w2 w2.heap.size (some ⟨g, f, none⟩) (bitInts (((BM.listOf s.data.toList N).drop f).take n)) := by
    refine .inr ⟨g, f, rfl, ?_, ?_⟩
    · have := hown.lt g (by simp [Value.ownBlock]); omega
    · intro j u hu
      have hj : j < n := by
        rcases Nat.lt_or_ge j n with hj | hj
        · exact hj
        · rw [List.getElem?_eq_none (by rw [bitInts_length, List.length_take]; omega)] at hu; cases hu
      rw [hown.cellAt (f + j) (by omega)]
      unfold bitInts at hu ⊢
      rw [List.getElem?_map, List.getElem?_take, if_pos hj, List.getElem?_drop] at hu
      rw [List.getElem?_map]; exact hu
  have hlen : (((BM.listOf s.data.toList N).drop f).take n).length = n := by rw [List.length_take, List.length_drop, BM.listOf_length]; omega
  have hpk := l1Pack_any (some ⟨g, f, none⟩) (cap - f) _ w2 (by rw [hlen]; omega) hcells
  rw [hlen, hR.out] at hpk
  have Hpk := Lib.hid hpk
  have hz2 := hf2.size
  have hz2' : w.heap.size + 2 ≤ w2.heap.size := by have h1 := hr2.lt; omega
  clear hpk hlen hcells hown
  go_wp2_with fail
  refine Hpk.out.mono ?_
  rintro e w5 ⟨rfl, hb5⟩
  have hr5 := hr2.below hb5
  have hf5 := hf2.trans (hb5.mono (by omega))
  have r0 := hr5.c0
  have r1 := hr5.c1
  have f0 := hr5.f 0
  have f1 := hr5.f 1
  clear hb5 hr5 hr2 hf2
  go_wp2_with fail
  exact bodyPost_ret (v := .tuple #[.agg #[.string ⟨R.toArray⟩, .int .i64 (n : Int)], .bool true]) (by simp [results, Try.results20, go_sem, r0, r1]) rfl
    ⟨rfl, (hf5.setCell (by simp) _).setCell (by simp) _⟩

set_option maxRecDepth 100000 in
set_option maxHeartbeats 1000000 in
theorem specPart_zero (s : ByteArray) (N f : Nat) (w : World) (hs : s.size ≤ maxLen) (h : okB s N = true) (hl : f ≤ N) :
    Calls Try.prog 20 #[.agg #[.string s, .int .i64 N], .int .i64 f, .int .i64 0] w (BPost ⟨#[]⟩ 0 true w) := by
  have hok := fun W => specBitsOk_any s N W hs
  obtain ⟨hN0, hN1, hN2, _⟩ := okB_facts h
  rw [h] at hok
  have Hok := Lib.hid hok
  have hli := fun W => l1List_any s N W (by omega) (by omega) hs
  have Hli := Lib.hid hli
  have HR := Lib.hid (start2 w s N)
  have HR2 := Lib.hid (start2b w s N (.cells #[.string ⟨#[]⟩, .int .i64 0] 25))
  have HN2 := Lib.hid hN2
  have h3 : decide ((N : Int) < (f : Int)) = false := by simp; omega
  have h4 : decide ((N : Int) - (f : Int) < 0) = false := by simp; omega
  have h5 : (f : Int) ≤ (N : Int) := by omega
  clear hok h hli hN2
  go_enter Try.func20, Try.ntmps20
  go_wp2_with fail
  refine (Hok.out _).mono ?_
  rintro e w1 ⟨rfl, hb1⟩
  have hr1 := HR.out.below hb1
  obtain ⟨x0, x1, hg⟩ := kept2' hb1 HR2.out.2.2 HR2.out.1 HR2.out.2.1
  have hf := (below2 w _ _).trans (hb1.mono (by simp; try omega))
  have hz := hb1.size
  clear hb1
  go_wp2_with fail
  refine (Hli.out _).mono ?_
  rintro e w2 ⟨v1, rfl, hown, hb2, hvn⟩
  have hr2 := hr1.below hb2
  have hf2 := hf.trans (hb2.mono (by omega))
  rw [BM.listOf_length] at hown
  have hcap : ∃ g cap, v1 = .slice (some ⟨g, 0, none⟩) N cap ∧ N ≤ cap ∧ cap ≤ maxLen := by
    rcases hown.2 with ⟨hv, _⟩ | ⟨g, cap, cur, hv, _, _, hc, hm, _⟩
    · exact absurd hv hvn
    · exact ⟨g, cap, hv, hc, hm⟩
  obtain ⟨g, cap, rfl, hcap, hmax⟩ := hcap
  clear hr1 hf x0 x1 hvn hb2
  unfold maxLen at hmax
  have hz2' : w.heap.size + 2 ≤ w2.heap.size := by have h1 := hr2.lt; omega
  clear hown
  go_wp2_with fail
  all_goals
    refine (l1Pack_none _ _ _).mono ?_
    rintro e w5 ⟨rfl, hb5⟩
    have hr5 := hr2.below hb5
    have hf5 := hf2.trans (hb5.mono (by omega))
    have r0 := hr5.c0
    have r1 := hr5.c1
    have f0 := hr5.f 0
    have f1 := hr5.f 1
    clear hb5 hr5 hr2 hf2
    go_wp2_with fail
    exact bodyPost_ret (v := .tuple #[.agg #[.string ⟨#[]⟩, .int .i64 0], .bool true]) (by simp [results, Try.results20, go_sem, r0, r1]) rfl
      ⟨rfl, (hf5.setCell (by simp) _).setCell (by simp) _⟩

theorem specPart_any (s : ByteArray) (N f n : Int) (w : World) (hs : s.size ≤ maxLen) :
    Calls Try.prog 20 #[.agg #[.string s, .int .i64 N], .int .i64 f, .int .i64 n] w (BPost (partS s N f n) (partN s N f n) (hasB s N f n) w) := by
  cases h : okB s N with
  | false =>
    have hb : hasB s N f n = false := by unfold hasB; rw [h]; rfl
    rw [(partS_bad hb).1, (partS_bad hb).2, hb]
    exact specPart_bad0 s N f n w hs h
  | true =>
    obtain ⟨hN0, hN1, _⟩ := okB_facts h
    by_cases hl : 0 ≤ n ∧ 0 ≤ f ∧ f ≤ N - n
    · have hb : hasB s N f n = true := by unfold hasB; rw [h]; simp [hl]
      obtain ⟨K, rfl⟩ := Int.eq_ofNat_of_zero_le hl.1
      obtain ⟨A, rfl⟩ := Int.eq_ofNat_of_zero_le hl.2.1
      obtain ⟨M, rfl⟩ := Int.eq_ofNat_of_zero_le hN0
      unfold partS partN partL
      rw [hb, if_pos rfl, if_pos rfl, Int.toNat_natCast, Int.toNat_natCast, Int.toNat_natCast]
      by_cases hn0 : 0 < K
      · exact specPart_good s M A K w hs h (by omega) hn0 _ rfl
      · obtain rfl : K = 0 := by omega
        have hz := specPart_zero s M A w hs h (by omega)
        rw [List.take_zero, show BM.pack [] = [] from rfl, show ((0 : Nat) : Int) = 0 from rfl]
        exact hz
    · have hb : hasB s N f n = false := by unfold hasB; rw [h, Bool.true_and, decide_eq_false_iff_not]; exact hl
      rw [(partS_bad hb).1, (partS_bad hb).2, hb]
      refine specPart_bad1 s N f n w hs h _ _ _ (decide (N - f < n)) rfl rfl rfl (fun _ _ _ => rfl) ?_ (fun h2 => by simp at h2; exact h2)
      simp only [Bool.or_eq_true, decide_eq_true_eq]
      omega
end Go.Proofs.Ytpnfkmhhilnglaa
