/- Walks: Part of the program. -/
import Derived.Test.YtbgogpfhdfgjeaaWp
set_option linter.unusedVariables false
set_option linter.unusedSimpArgs false
namespace Go.Proofs.Ytbgogpfhdfgjeaa
open Go.RowKit

theorem below_setRow {B : Nat} {a w : World} (h : Below B a w) {g : Nat} (hg : B ≤ g) (cs : Array Value) : Below B a (w.setRow g cs) :=
  h.trans ⟨rfl, rfl, rfl, by simp, fun k hk => setRow_other w g k cs (by omega)⟩

set_option maxRecDepth 100000 in
set_option maxHeartbeats 1000000 in
theorem implPart_bad (s : ByteArray) (N f n : Int) (w : World) (hs : s.size ≤ maxLen) (hn2 : n ≤ 9223372036854775807) (h : hasB s N f n = false) :
    Calls Try.prog 16 #[.agg #[.string s, .int .i64 N], .int .i64 f, .int .i64 n] w (BPost ⟨#[]⟩ 0 false w) := by
  have hok := fun W => hasBits_any s N f n W hs hn2
  rw [h] at hok
  have Hok := Lib.hid hok
  have HR := Lib.hid (start2 w s N)
  clear hok h hn2
  go_enter Try.func16, Try.ntmps16
  go_wp2_with fail
  refine (Hok.out _).mono ?_
  rintro e w1 ⟨rfl, hb1⟩
  have hr1 := HR.out.below hb1
  have hf := (below2 w _ _).trans (hb1.mono (by simp; try omega))
  have r0 := hr1.c0
  have r1 := hr1.c1
  have f0 := hr1.f 0
  have f1 := hr1.f 1
  clear hb1 hr1
  go_wp2_with fail
  exact bodyPost_ret (v := .tuple #[.agg #[.string ⟨#[]⟩, .int .i64 0], .bool false]) (by simp [results, Try.results16, go_sem, r0, r1]) rfl
    ⟨rfl, (hf.setCell (by simp) _).setCell (by simp) _⟩

set_option maxRecDepth 100000 in
set_option maxHeartbeats 1000000 in
theorem implPart_good (s : ByteArray) (N f n : Nat) (w : World) (hs : s.size ≤ maxLen) (h : okB s N = true) (hl : f + n ≤ N)
    (R : List UInt8) (hR : Hid (BM.pack (((BM.listOf s.data.toList N).drop f).take n) = R)) :
    Calls Try.prog 16 #[.agg #[.string s, .int .i64 N], .int .i64 f, .int .i64 n] w (BPost ⟨R.toArray⟩ n true w) := by
  obtain ⟨hN0, hN1, hN2, _⟩ := okB_facts h
  have hh : hasB s N f n = true := by unfold hasB; rw [h, Bool.true_and, decide_eq_true_iff]; omega
  have hok := fun W => hasBits_any s N f n W hs (by omega)
  have H := Lib.hid h
  rw [hh] at hok
  have Hok := Lib.hid hok
  have hup := fun W => unpacked_any s N W (by omega)
  have Hup := Lib.hid hup
  have HR := Lib.hid (start2 w s N)
  have HR2 := Lib.hid (start2b w s N (.cells #[.string ⟨#[]⟩, .int .i64 0] 26))
  have HN2 := Lib.hid hN2
  clear hok h hh hup hN2
  go_enter Try.func16, Try.ntmps16
  go_wp2_with fail
  refine (Hok.out _).mono ?_
  rintro e w1 ⟨rfl, hb1⟩
  have hr1 := HR.out.below hb1
  obtain ⟨x0, x1, hg⟩ := kept2' hb1 HR2.out.2.2 HR2.out.1 HR2.out.2.1
  have hf := (below2 w _ _).trans (hb1.mono (by simp; try omega))
  have hz := hb1.size
  clear hb1
  go_wp2_with fail
  refine (Hup.out _).mono ?_
  rintro e w2 ⟨ws, rfl, hws, hb2⟩
  have hr2 := hr1.below hb2
  have hf2 := hf.trans (hb2.mono (by omega))
  have hz2 := hb2.size
  have hszw : w.heap.size + 2 ≤ w1.heap.size := by simpa using hz
  clear hb2 hf x0 x1 hr1 hz
  have hW := ok_words H.out hws
  have hB : BaBlk ((w2.alloc (.cells (baCells zeroWs 0) 71)).alloc (.cells (baCells zeroWs 0) 71)) w2.heap.size zeroWs 0 := heap_alloc2_old _ _ _
  have hC : BaBlk ((w2.alloc (.cells (baCells zeroWs 0) 71)).alloc (.cells (baCells zeroWs 0) 71)) (w2.heap.size + 1) zeroWs 0 := heap_alloc2_new _ _ _
  obtain ⟨w3, hW3⟩ : ∃ w3, w3 = (w2.alloc (.cells (baCells zeroWs 0) 71)).alloc (.cells (baCells zeroWs 0) 71) := ⟨_, rfl⟩
  have hr3 : ResBlk w3 (w.heap.size + 1) := by
    subst hW3
    exact (Below.heap_alloc _ _ _ (by simp; omega)).trans ((Below.heap_alloc _ _ _ (by omega)).trans hr2)
  have hf3 : Below w.heap.size w w3 := by
    subst hW3
    exact (hf2.alloc (by omega) _).alloc (by simp; omega) _
  have hz3 : w3.heap.size = w2.heap.size + 2 := by subst hW3; simp
  rw [← hW3] at hB hC
  have HB := Lib.hid hB
  have hB4 : BaBlk (w3.setRow w2.heap.size (baCells ws N)) w2.heap.size ws N := hB.setRow
  have hC4 : BaBlk (w3.setRow w2.heap.size (baCells ws N)) (w2.heap.size + 1) zeroWs 0 := (setRow_other _ _ _ _ (by omega)).trans hC
  have HC4 := Lib.hid hC4
  have hB5 : BaBlk ((w3.setRow w2.heap.size (baCells ws N)).setRow (w2.heap.size + 1) (baCells zeroWs 0)) w2.heap.size ws N := (setRow_other _ _ _ _ (by omega)).trans hB4
  have hC5 : BaBlk ((w3.setRow w2.heap.size (baCells ws N)).setRow (w2.heap.size + 1) (baCells zeroWs 0)) (w2.heap.size + 1) zeroWs 0 := hC4.setRow
  have hr5 : ResBlk ((w3.setRow w2.heap.size (baCells ws N)).setRow (w2.heap.size + 1) (baCells zeroWs 0)) (w.heap.size + 1) := (setRow_other _ _ _ _ (by omega)).trans ((setRow_other _ _ _ _ (by omega)).trans hr3)
  have hf5 : Below w.heap.size w ((w3.setRow w2.heap.size (baCells ws N)).setRow (w2.heap.size + 1) (baCells zeroWs 0)) :=
    below_setRow (below_setRow hf3 (by omega) _) (by omega) _
  have hz5 : ((w3.setRow w2.heap.size (baCells ws N)).setRow (w2.heap.size + 1) (baCells zeroWs 0)).heap.size = w2.heap.size + 2 := by simp [hz3]
  have Hz5 := Lib.hid hz5
  have HB5 := Lib.hid hB5
  have HC5 := Lib.hid hC5
  have Hr5 := Lib.hid hr5
  have Hf5 := Lib.hid hf5
  rw [hW3] at HB HC4 HB5 HC5 Hr5 Hf5 Hz5
  clear hB hC hr3 hf3 hz3 hB4 hC4 hB5 hC5 hr5 hf5 hz5 hr2 hf2 hW3 w3
  go_wp2_with (first
    | (with_reducible refine wl_alloc_ba ?_)
    | (with_reducible refine wl_build_ba0 ?_)
    | (with_reducible refine wl_store_ba (.tmp 8) _ ?gg w2.heap.size zeroWs ws 0 N ?hb zeroWs_len ?hl ?hx ?hg ?hy ?_)
    | (with_reducible refine wl_store_ba (.tmp 9) _ ?gg2 (w2.heap.size + 1) zeroWs zeroWs 0 0 ?hb2 zeroWs_len zeroWs_len ?hx2 ?hg2 ?hy2 ?_))
  case hb => exact HB.out
  case hl => exact hws.1
  case hx => rfl
  case hg => rfl
  case hy => rfl
  case hb2 => exact HC4.out
  case hx2 => rfl
  case hg2 => simp
  case hy2 => rfl
  generalize ((((w2.alloc (.cells (baCells zeroWs 0) 71)).alloc (.cells (baCells zeroWs 0) 71)).setRow w2.heap.size (baCells ws N)).setRow (w2.heap.size + 1) (baCells zeroWs 0)) = w3 at *
  have hpp := putPart_any (w2.heap.size + 1) w2.heap.size zeroWs ws [] (BM.listOf s.data.toList N) f n w3 HC5.out (by rw [BM.listOf_length]; exact HB5.out) (by omega) BM.words_zero hW (by rw [BM.listOf_length]; exact hl) (by simp; omega)
  rw [List.nil_append] at hpp
  have hlen : (((BM.listOf s.data.toList N).drop f).take n).length = n := by rw [List.length_take, List.length_drop, BM.listOf_length]; omega
  refine hpp.mono ?_
  rintro e w4 ⟨rfl, ws4, hB4, hW4, hg4⟩
  have hz5 := Hz5.out
  have hr4 := Hr5.out.grown hg4 (by intro he; injection he with he; omega)
  have hf4 := Hf5.out.grown hg4 (by omega) (fun kk hkk => by injection hkk with hkk; omega)
  have hz4 := hg4.size
  have hpk := packed_any (w2.heap.size + 1) ws4 _ w4 hB4 hW4
  rw [hlen, hR.out] at hpk
  have Hpk := Lib.hid hpk
  clear hpk hlen hW4 hB4 hg4 hpp hW hws HB HC4 HB5 HC5 Hr5 Hf5 hz5
  go_wp2_with fail
  refine Hpk.out.mono ?_
  rintro e w5 ⟨rfl, hb5⟩
  have hr5 := hr4.below hb5
  have hf5 := hf4.trans (hb5.mono (by have := Hz5.out; omega))
  have r0 := hr5.c0
  have r1 := hr5.c1
  have f0 := hr5.f 0
  have f1 := hr5.f 1
  clear hb5 hr5 hr4 hf4
  go_wp2_with fail
  exact bodyPost_ret (v := .tuple #[.agg #[.string ⟨R.toArray⟩, .int .i64 (n : Int)], .bool true]) (by simp [results, Try.results16, go_sem, r0, r1]) rfl
    ⟨rfl, (hf5.setCell (by simp) _).setCell (by simp) _⟩

theorem implPart_any (s : ByteArray) (N f n : Int) (w : World) (hs : s.size ≤ maxLen) (hn2 : n ≤ 9223372036854775807) :
    Calls Try.prog 16 #[.agg #[.string s, .int .i64 N], .int .i64 f, .int .i64 n] w (BPost (partS s N f n) (partN s N f n) (hasB s N f n) w) := by
  cases hb : hasB s N f n with
  | false =>
    rw [(partS_bad hb).1, (partS_bad hb).2]
    exact implPart_bad s N f n w hs hn2 hb
  | true =>
    have hb' := hb
    unfold hasB at hb'
    rw [Bool.and_eq_true, decide_eq_true_iff] at hb'
    obtain ⟨hN0, _⟩ := okB_facts hb'.1
    unfold partS partN partL
    obtain ⟨K, rfl⟩ := Int.eq_ofNat_of_zero_le hb'.2.1
    obtain ⟨A, rfl⟩ := Int.eq_ofNat_of_zero_le hb'.2.2.1
    obtain ⟨M, rfl⟩ := Int.eq_ofNat_of_zero_le hN0
    rw [hb, if_pos rfl, if_pos rfl, Int.toNat_natCast, Int.toNat_natCast, Int.toNat_natCast]
    exact implPart_good s M A K w hs hb'.1 (by omega) _ rfl
end Go.Proofs.Ytbgogpfhdfgjeaa
