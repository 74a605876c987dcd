/- Walks: Joined of the program, where it refuses. -/
import Derived.Test.YtbgogpfhdfgjeaaWr
set_option linter.unusedVariables false
set_option linter.unusedSimpArgs false
namespace Go.Proofs.Ytbgogpfhdfgjeaa
open Go.RowKit

set_option maxRecDepth 100000 in
set_option maxHeartbeats 1000000 in
theorem implJoined_bad0 (s : ByteArray) (N : Int) (t : ByteArray) (M : Int) (w : World) (hs : s.size ≤ maxLen) (h : okB s N = false) :
    Calls Try.prog 17 #[.agg #[.string s, .int .i64 N], .agg #[.string t, .int .i64 M]] w (BPost ⟨#[]⟩ 0 false w) := by
  have hok := fun W => implBitsOk_any s N W hs
  rw [h] at hok
  have Hok := Lib.hid hok
  have HJ := Lib.hid (JF.start w s N t M)
  unfold J3 at HJ
  clear hok h
  go_enter Try.func17, Try.ntmps17
  go_wp2_with fail
  refine (Hok.out _).mono ?_
  rintro e w1 ⟨rfl, hb1⟩
  have hj := HJ.out.below hb1
  have r0 := hj.r.c0
  have r1 := hj.r.c1
  have f0 := hj.r.f 0
  have f1 := hj.r.f 1
  have hf := hj.f
  clear hb1 hj
  go_wp2_with fail
  exact bodyPost_ret (v := .tuple #[.agg #[.string ⟨#[]⟩, .int .i64 0], .bool false]) (by simp [results, Try.results17, go_sem, r0, r1]) rfl
    ⟨rfl, (hf.setCell (by simp; omega) _).setCell (by simp; omega) _⟩

set_option maxRecDepth 100000 in
set_option maxHeartbeats 1000000 in
theorem implJoined_bad1 (s : ByteArray) (N : Int) (t : ByteArray) (M : Int) (w : World) (hs : s.size ≤ maxLen) (ht : t.size ≤ maxLen) (h : okB s N = true) (h2 : okB t M = false) :
    Calls Try.prog 17 #[.agg #[.string s, .int .i64 N], .agg #[.string t, .int .i64 M]] w (BPost ⟨#[]⟩ 0 false w) := by
  have hok := fun W => implBitsOk_any s N W hs
  rw [h] at hok
  have Hok := Lib.hid hok
  have hok2 := fun W => implBitsOk_any t M W ht
  rw [h2] at hok2
  have Hok2 := Lib.hid hok2
  have HJ := Lib.hid (JF.start w s N t M)
  unfold J3 at HJ
  clear hok h hok2 h2
  go_enter Try.func17, Try.ntmps17
  go_wp2_with fail
  refine (Hok.out _).mono ?_
  rintro e w1 ⟨rfl, hb1⟩
  have HJ1 := Lib.hid (HJ.out.below hb1)
  have b0 := HJ1.out.b0
  have b1 := HJ1.out.b1
  clear hb1
  go_wp2_with fail
  refine (Hok2.out _).mono ?_
  rintro e w2 ⟨rfl, hb1⟩
  have hj := HJ1.out.below hb1
  have r0 := hj.r.c0
  have r1 := hj.r.c1
  have f0 := hj.r.f 0
  have f1 := hj.r.f 1
  have hf := hj.f
  clear hb1 hj b0 b1
  go_wp2_with fail
  exact bodyPost_ret (v := .tuple #[.agg #[.string ⟨#[]⟩, .int .i64 0], .bool false]) (by simp [results, Try.results17, go_sem, r0, r1]) rfl
    ⟨rfl, (hf.setCell (by simp; omega) _).setCell (by simp; omega) _⟩

set_option maxRecDepth 100000 in
set_option maxHeartbeats 1000000 in
theorem implJoined_bad2 (s : ByteArray) (N : Int) (t : ByteArray) (M : Int) (w : World) (hs : s.size ≤ maxLen) (ht : t.size ≤ maxLen) (h : okB s N = true) (h2 : okB t M = true) (hl : ¬ N + M ≤ 20000) :
    Calls Try.prog 17 #[.agg #[.string s, .int .i64 N], .agg #[.string t, .int .i64 M]] w (BPost ⟨#[]⟩ 0 false w) := by
  have hok := fun W => implBitsOk_any s N W hs
  obtain ⟨hN0, hN1, _, _⟩ := okB_facts h
  obtain ⟨hM0, hM1, _, _⟩ := okB_facts h2
  rw [h] at hok
  have Hok := Lib.hid hok
  have hok2 := fun W => implBitsOk_any t M W ht
  rw [h2] at hok2
  have Hok2 := Lib.hid hok2
  have HJ := Lib.hid (JF.start w s N t M)
  unfold J3 at HJ
  have hd : decide (20000 < N + M) = true := by simp; omega
  clear hok h hok2 h2
  go_enter Try.func17, Try.ntmps17
  go_wp2_with fail
  refine (Hok.out _).mono ?_
  rintro e w1 ⟨rfl, hb1⟩
  have HJ1 := Lib.hid (HJ.out.below hb1)
  have b0 := HJ1.out.b0
  have b1 := HJ1.out.b1
  clear hb1
  go_wp2_with fail
  refine (Hok2.out _).mono ?_
  rintro e w2 ⟨rfl, hb1⟩
  have hj := HJ1.out.below hb1
  have a1 := hj.a1
  have b1 := hj.b1
  have r0 := hj.r.c0
  have r1 := hj.r.c1
  have f0 := hj.r.f 0
  have f1 := hj.r.f 1
  have hf := hj.f
  clear hb1 hj b0
  go_wp2_with fail
  exact bodyPost_ret (v := .tuple #[.agg #[.string ⟨#[]⟩, .int .i64 0], .bool false]) (by simp [results, Try.results17, go_sem, r0, r1]) rfl
    ⟨rfl, (hf.setCell (by simp; omega) _).setCell (by simp; omega) _⟩

end Go.Proofs.Ytbgogpfhdfgjeaa
