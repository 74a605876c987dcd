/- Walks: PutBits of the program. -/
import Derived.Test.YtoajpbainmbhlaaWn
namespace Go.Proofs.Ytoajpbainmbhlaa
open Go.RowKit

set_option maxRecDepth 100000 in
set_option maxHeartbeats 1000000 in
theorem implPutBits_bad0 (s : ByteArray) (N v k : Int) (w : World) (hs : s.size ≤ maxLen) (h : okB s N = false) :
    Calls Try.prog 17 #[.agg #[.string s, .int .i64 N], .int .i64 v, .int .i64 k] w (BPost ⟨#[]⟩ 0 false w) := by
  have hok := fun W => implBitsOk_any s N W hs
  rw [h] at hok
  have Hok := Lib.hid hok
  have HR := Lib.hid (start2 w s N)
  clear hok h
  go_enter Try.func17, Try.ntmps17
  go_wp2_with fail
  refine (Hok.out _).mono ?_
  rintro e w1 ⟨rfl, hb1⟩
  have hr1 := HR.out.below hb1
  have hf := (below2 w _ _).trans (hb1.mono (by simp; try omega))
  have r0 := hr1.c0
  have r1 := hr1.c1
  have f0 := hr1.f 0
  have f1 := hr1.f 1
  clear hb1 hr1
  go_wp2_with fail
  exact bodyPost_ret (v := .tuple #[.agg #[.string ⟨#[]⟩, .int .i64 0], .bool false]) (by simp [results, Try.results17, go_sem, r0, r1]) rfl
    ⟨rfl, (hf.setCell (by simp) _).setCell (by simp) _⟩

set_option maxRecDepth 100000 in
set_option maxHeartbeats 1000000 in
theorem implPutBits_bad1 (s : ByteArray) (N v k : Int) (w : World) (hs : s.size ≤ maxLen) (h : okB s N = true) (hk : fitsB v k = false) :
    Calls Try.prog 17 #[.agg #[.string s, .int .i64 N], .int .i64 v, .int .i64 k] w (BPost ⟨#[]⟩ 0 false w) := by
  have hok := fun W => implBitsOk_any s N W hs
  rw [h] at hok
  have Hok := Lib.hid hok
  have hft := fun W => fitsIn_any v k W
  rw [hk] at hft
  have Hft := Lib.hid hft
  have HR := Lib.hid (start2 w s N)
  clear hok h hft hk
  go_enter Try.func17, Try.ntmps17
  go_wp2_with fail
  refine (Hok.out _).mono ?_
  rintro e w1 ⟨rfl, hb1⟩
  have hr1 := HR.out.below hb1
  have hf := (below2 w _ _).trans (hb1.mono (by simp; try omega))
  have r0 := hr1.c0
  have r1 := hr1.c1
  have f0 := hr1.f 0
  have f1 := hr1.f 1
  clear hb1 hr1
  go_wp2_with fail
  refine (Hft.out _).mono ?_
  rintro e w' ⟨rfl, rfl⟩
  go_wp2_with fail
  exact bodyPost_ret (v := .tuple #[.agg #[.string ⟨#[]⟩, .int .i64 0], .bool false]) (by simp [results, Try.results17, go_sem, r0, r1]) rfl
    ⟨rfl, (hf.setCell (by simp) _).setCell (by simp) _⟩

set_option maxRecDepth 100000 in
set_option maxHeartbeats 1000000 in
theorem implPutBits_bad2 (s : ByteArray) (N v k : Int) (w : World) (hs : s.size ≤ maxLen) (h : okB s N = true) (hk : fitsB v k = true) (hl : ¬ N + k ≤ 20000) :
    Calls Try.prog 17 #[.agg #[.string s, .int .i64 N], .int .i64 v, .int .i64 k] w (BPost ⟨#[]⟩ 0 false w) := by
  have hok := fun W => implBitsOk_any s N W hs
  obtain ⟨hN0, hN1, _, _⟩ := okB_facts h
  rw [h] at hok
  have Hok := Lib.hid hok
  have hk2 : 0 ≤ k ∧ k ≤ 64 := by
    have hk' := hk
    unfold fitsB at hk'; rw [decide_eq_true_iff] at hk'; omega
  obtain ⟨hk0, hk1⟩ := hk2
  have hft := fun W => fitsIn_any v k W
  rw [hk] at hft
  have Hft := Lib.hid hft
  have HR := Lib.hid (start2 w s N)
  have HR2 := Lib.hid (start2b w s N (.cells #[.string ⟨#[]⟩, .int .i64 0] 25))
  have hd : decide (20000 < N + k) = true := by simp; omega
  clear hok h hft hk
  go_enter Try.func17, Try.ntmps17
  go_wp2_with fail
  refine (Hok.out _).mono ?_
  rintro e w1 ⟨rfl, hb1⟩
  have hr1 := HR.out.below hb1
  obtain ⟨x0, x1, hg⟩ := kept2' hb1 HR2.out.2.2 HR2.out.1 HR2.out.2.1
  have hf := (below2 w _ _).trans (hb1.mono (by simp; try omega))
  have r0 := hr1.c0
  have r1 := hr1.c1
  have f0 := hr1.f 0
  have f1 := hr1.f 1
  clear hb1 hr1
  go_wp2_with fail
  refine (Hft.out _).mono ?_
  rintro e w' ⟨rfl, rfl⟩
  go_wp2_with fail
  exact bodyPost_ret (v := .tuple #[.agg #[.string ⟨#[]⟩, .int .i64 0], .bool false]) (by simp [results, Try.results17, go_sem, r0, r1]) rfl
    ⟨rfl, (hf.setCell (by simp) _).setCell (by simp) _⟩

theorem u64_of (v : Int) : IntKind.u64.wrap v = (u64of v : Int) := by rw [IntKind.wrap_u64]; unfold u64of; omega

set_option maxRecDepth 100000 in
set_option maxHeartbeats 1000000 in
theorem implPutBits_good (s : ByteArray) (N k : Nat) (v : Int) (w : World) (hs : s.size ≤ maxLen) (h : okB s N = true) (hk : fitsB v k = true) (hl : N + k ≤ 20000)
    (R : List UInt8) (hR : Hid (BM.pack (BM.listOf s.data.toList N ++ BM.digits (u64of v) k) = R)) :
    Calls Try.prog 17 #[.agg #[.string s, .int .i64 N], .int .i64 v, .int .i64 k] w (BPost ⟨R.toArray⟩ ((N : Int) + k) true w) := by
  have hok := fun W => implBitsOk_any s N W hs
  obtain ⟨hN0, hN1, hN2, _⟩ := okB_facts h
  have H := Lib.hid h
  rw [h] at hok
  have Hok := Lib.hid hok
  have hk1 : k ≤ 64 := by
    have hk' := hk
    unfold fitsB at hk'; rw [decide_eq_true_iff] at hk'; omega
  have hft := fun W => fitsIn_any v k W
  rw [hk] at hft
  have Hft := Lib.hid hft
  have hup := fun W => unpacked_any s N W (by omega)
  have Hup := Lib.hid hup
  have HR := Lib.hid (start2 w s N)
  have HR2 := Lib.hid (start2b w s N (.cells #[.string ⟨#[]⟩, .int .i64 0] 25))
  have HN2 := Lib.hid hN2
  clear hok h hft hk hup hN2
  go_enter Try.func17, Try.ntmps17
  go_wp2_with fail
  refine (Hok.out _).mono ?_
  rintro e w1 ⟨rfl, hb1⟩
  have hr1 := HR.out.below hb1
  obtain ⟨x0, x1, hg⟩ := kept2' hb1 HR2.out.2.2 HR2.out.1 HR2.out.2.1
  have hf := (below2 w _ _).trans (hb1.mono (by simp; try omega))
  have hz := hb1.size
  clear hb1
  go_wp2_with fail
  refine (Hft.out _).mono ?_
  rintro e w' ⟨rfl, rfl⟩
  go_wp2_with fail
  refine (Hup.out _).mono ?_
  rintro e w2 ⟨ws, rfl, hws, hb2⟩
  have hr2 := hr1.below hb2
  have hf2 := hf.trans (hb2.mono (by omega))
  have hz2 := hb2.size
  have hszw : w.heap.size + 2 ≤ w1.heap.size := by simpa using hz
  clear hb2 hf x0 x1 hr1 hz
  have hW := ok_words H.out hws
  have hB : BaBlk (w2.alloc (.cells (baCells zeroWs 0) 69)) w2.heap.size zeroWs 0 := BaBlk.new _ _ _
  have HB := Lib.hid hB
  clear hB
  go_wp2_with (first
    | (with_reducible refine wl_alloc_ba ?_)
    | (with_reducible refine wl_store_ba _ _ ?gg w2.heap.size zeroWs ws 0 N ?hb zeroWs_len ?hl ?hx ?hg ?hy ?_))
  case hb => exact HB.out
  case hl => exact hws.1
  case hx => rfl
  case hg => rfl
  case hy => rfl
  generalize hW3 : (w2.alloc (.cells (baCells zeroWs 0) 69)).setRow w2.heap.size (baCells ws N) = w3
  have hB3 : BaBlk w3 w2.heap.size ws N := by subst hW3; exact HB.out.setRow
  have hr3 : ResBlk w3 (w.heap.size + 1) := by
    subst hW3
    exact (setRow_other _ _ _ _ (by omega)).trans ((Below.heap_alloc _ _ _ (by omega)).trans hr2)
  have hf3 : Below w.heap.size w w3 := by
    subst hW3
    exact (hf2.alloc (by omega) _).trans ⟨rfl, rfl, rfl, by simp, fun k hk => setRow_other _ _ _ _ (by omega)⟩
  have hz3 : w2.heap.size < w3.heap.size := by subst hW3; simp
  clear hW3 HB hr2 hf2
  have hput := put_any w2.heap.size ws N (u64of v) k w3 hB3 hws.1 hws.2.1 hl hk1 (u64of_lt v)
  rw [← u64_of] at hput
  refine hput.mono ?_
  rintro e w4 ⟨rfl, hB4, hg4⟩
  have hr4 := hr3.grown hg4 (by intro he; injection he with he; omega)
  have hf4 := hf3.grown hg4 (by omega) (fun kk hkk => by injection hkk with hkk; omega)
  have hz4 := hg4.size
  have hW4 := BM.words_put hW (u64of v) k hk1 (by rw [BM.listOf_length]; exact hl)
  rw [BM.listOf_length] at hW4
  have hlen : (BM.listOf s.data.toList N ++ BM.digits (u64of v) k).length = N + k := by rw [List.length_append, BM.listOf_length, BM.digits_length]
  have hpk := packed_any w2.heap.size _ (BM.listOf s.data.toList N ++ BM.digits (u64of v) k) w4 (by rw [hlen]; exact hB4) hW4
  rw [hlen, hR.out, show ((N + k : Nat) : Int) = (N : Int) + (k : Int) from Int.natCast_add N k] at hpk
  have Hpk := Lib.hid hpk
  clear hpk hlen hW4 hB4 hg4 hr3 hf3 hput hB3 hW hws
  go_wp2_with fail
  refine Hpk.out.mono ?_
  rintro e w5 ⟨rfl, hb5⟩
  have hr5 := hr4.below hb5
  have hf5 := hf4.trans (hb5.mono (by omega))
  have r0 := hr5.c0
  have r1 := hr5.c1
  have f0 := hr5.f 0
  have f1 := hr5.f 1
  clear hb5 hr5 hr4 hf4
  go_wp2_with fail
  exact bodyPost_ret (v := .tuple #[.agg #[.string ⟨R.toArray⟩, .int .i64 ((N : Int) + k)], .bool true]) (by simp [results, Try.results17, go_sem, r0, r1]) rfl
    ⟨rfl, (hf5.setCell (by simp) _).setCell (by simp) _⟩

theorem implPutBits_any (s : ByteArray) (N v k : Int) (w : World) (hs : s.size ≤ maxLen) :
    Calls Try.prog 17 #[.agg #[.string s, .int .i64 N], .int .i64 v, .int .i64 k] w (BPost (putS s N v k) (putN s N v k) (putB s N v k) w) := by
  cases h : okB s N with
  | false =>
    have hb : putB s N v k = false := by unfold putB; rw [h]; rfl
    rw [(putS_bad hb).1, (putS_bad hb).2, hb]
    exact implPutBits_bad0 s N v k w hs h
  | true =>
    cases hk : fitsB v k with
    | false =>
      have hb : putB s N v k = false := by unfold putB; rw [h, hk]; rfl
      rw [(putS_bad hb).1, (putS_bad hb).2, hb]
      exact implPutBits_bad1 s N v k w hs h hk
    | true =>
      by_cases hl : N + k ≤ 20000
      · have hb : putB s N v k = true := by unfold putB; rw [h, hk]; simp [hl]
        obtain ⟨hN0, _⟩ := okB_facts h
        have hk0 : 0 ≤ k := by unfold fitsB at hk; rw [decide_eq_true_iff] at hk; omega
        obtain ⟨K, rfl⟩ := Int.eq_ofNat_of_zero_le hk0
        obtain ⟨M, rfl⟩ := Int.eq_ofNat_of_zero_le hN0
        unfold putS putN putL
        rw [hb, if_pos rfl, if_pos rfl, Int.toNat_natCast, Int.toNat_natCast]
        exact implPutBits_good s M K v w hs h hk (by omega) _ rfl
      · have hb : putB s N v k = false := by unfold putB; rw [h, hk]; simp [hl]
        rw [(putS_bad hb).1, (putS_bad hb).2, hb]
        exact implPutBits_bad2 s N v k w hs h hk hl
end Go.Proofs.Ytoajpbainmbhlaa
