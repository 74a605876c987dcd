/- Walks: putPart out of the reader's bits. -/
import Derived.Test.YtanoohfhifhhaaaDoorHa
set_option linter.unusedVariables false
set_option linter.unusedSimpArgs false
namespace Go.Proofs.YtanoohfhifhhaaaDoor
open Go.RowKit

set_option maxRecDepth 100000 in
set_option maxHeartbeats 1000000 in
theorem putPartR_any (N P : Int) (ga gb : Nat) (wa wb : List Nat) (la lb : List Bool) (f n : Nat) (w : World) (hA : BaBlk w ga wa (la.length : Int)) (hB : RK w gb wb N P) (hne : gb ≠ ga)
    (hwa : BM.Words wa la) (hwb : BM.Words wb lb) (hf : f + n ≤ lb.length) (hn : la.length + n ≤ 20000) :
    Calls Tryd.prog 103 #[.pointer (some ⟨ga, 0, none⟩), .pointer (some ⟨gb, 0, none⟩), .int .i64 (f : Int), .int .i64 (n : Int)] w
      (PartPost ga (la ++ (lb.drop f).take n) w) := by
  have hlb := hwb.2.2.1
  have hgb : gb < w.heap.size := by
    rcases Nat.lt_or_ge gb w.heap.size with h | h
    · exact h
    · unfold RK at hB; rw [Array.getElem?_eq_none h] at hB; cases hB
  have HA := Lib.hid hA
  have HB := Lib.hid hB
  clear hA hB
  go_enter Tryd.func103, Tryd.ntmps103
  go_wp2_with fail
  go_loopw [2, 3] (fun x y wr => ∃ (k m : Nat) (ws : List Nat), Hid (k + m = n) ∧ k ≤ n ∧ m ≤ n ∧ x = .int .i64 ((f + k : Nat) : Int) ∧ y = .int .i64 (m : Int) ∧
      Hid (BaBlk wr ga ws ((la ++ (lb.drop f).take k).length : Int)) ∧ BM.Words ws (la ++ (lb.drop f).take k) ∧ w.grownBy wr (some ga))
    (fun _ y _ => (intOf y).toNat)
  case atStart => exact ⟨0, n, wa, Nat.zero_add _, Nat.zero_le _, Nat.le_refl _, rfl, rfl, by unfold Hid; simpa using HA.out, by simpa using hwa, World.grownBy.refl _ _⟩
  case round =>
    obtain ⟨k, m, ws, Hkm, hkn, hmn, rfl, rfl, Hblk, hws, hgr⟩ := hrel
    have hlen : (la ++ (lb.drop f).take k).length = la.length + k := by simp; omega
    have Hlen := Lib.hid hlen
    clear hlen
    have hBr : RK wr gb wb N P := (hgr.block gb hgb (by intro h; injection h with h; exact hne h)).trans HB.out
    have HBr := Lib.hid hBr
    clear hBr
    by_cases hm : 0 < m
    · have hmi : (0 : Int) < (m : Int) := by omega
      have hkm := Hkm.out
      have hkle : k + m ≤ n := by omega
      have Hblk' : BaBlk wr ga ws ((la.length + k : Nat) : Int) := by have := Hblk.out; rw [Hlen.out] at this; exact this
      by_cases h64 : m ≤ 64
      · have hget := rget_any gb wb (f + k) m wr (fun i hi => RK.word HBr.out hwb.1 i hi) hwb.1 hwb.2.1 (by omega) (by omega)
        have hput := put_any ga ws (la.length + k) (BM.getW wb (f + k) m) m wr Hblk' hws.1 hws.2.1 (by omega) (by omega) (BM.getW_lt hwb _ _ (by omega))
        have hpw := BM.part_words (s := m) hws hwb (by omega) (by omega) (by omega)
        rw [show ((f + k : Nat) : Int) = (f : Int) + (k : Int) from Int.natCast_add f k] at hget
        have Hget := Lib.hid hget
        have Hput := Lib.hid hput
        have Hpw := Lib.hid hpw
        clear hget hput hpw Hblk'
        have h64i : (m : Int) ≤ 64 := by omega
        clear hkm
        go_wp2_with fail
        refine Hget.out.mono ?_
        rintro e w' ⟨rfl, rfl⟩
        go_wp2_with fail
        refine Hput.out.mono ?_
        rintro e w2 ⟨rfl, hb2, hg2⟩
        have Hb2 := Lib.hid hb2
        clear hb2
        have hgr2 := grownBy_trans hgr hg2
        clear hg2 hgr
        go_wp2_with fail
        go_roundw
        case rel =>
          refine ⟨k + m, m - m, _, ?_, by omega, by omega, ?_, ?_, ?_, Hpw.out, hgr2⟩
          · have := Hkm.out; unfold Hid; omega
          · first | rfl | (congr 1; omega)
          · first | rfl | (congr 1; omega)
          · unfold Hid
            have e : (la ++ (lb.drop f).take (k + m)).length = la.length + k + m := by simp; omega
            rw [e]
            exact Hb2.out
        case measure => simp [intOf]; omega
      · have hget := rget_any gb wb (f + k) 64 wr (fun i hi => RK.word HBr.out hwb.1 i hi) hwb.1 hwb.2.1 (by omega) (by omega)
        have hput := put_any ga ws (la.length + k) (BM.getW wb (f + k) 64) 64 wr Hblk' hws.1 hws.2.1 (by omega) (by omega) (BM.getW_lt hwb _ _ (by omega))
        have hpw := BM.part_words (s := 64) hws hwb (by omega) (by omega) (by omega)
        rw [show ((f + k : Nat) : Int) = (f : Int) + (k : Int) from Int.natCast_add f k] at hget
        rw [show ((64 : Nat) : Int) = 64 from rfl] at hget hput
        have Hget := Lib.hid hget
        have Hput := Lib.hid hput
        have Hpw := Lib.hid hpw
        clear hget hput hpw Hblk'
        have h64i : ¬ (m : Int) ≤ 64 := by omega
        have h64j : (64 : Int) < (m : Int) := by omega
        clear hkm
        go_wp2_with fail
        refine Hget.out.mono ?_
        rintro e w' ⟨rfl, rfl⟩
        go_wp2_with fail
        refine Hput.out.mono ?_
        rintro e w2 ⟨rfl, hb2, hg2⟩
        have Hb2 := Lib.hid hb2
        clear hb2
        have hgr2 := grownBy_trans hgr hg2
        clear hg2 hgr
        go_wp2_with fail
        go_roundw
        case rel =>
          refine ⟨k + 64, m - 64, _, ?_, by omega, by omega, ?_, ?_, ?_, Hpw.out, hgr2⟩
          · have := Hkm.out; unfold Hid; omega
          · first | rfl | (congr 1; omega)
          · first | rfl | (congr 1; omega)
          · unfold Hid
            have e : (la ++ (lb.drop f).take (k + 64)).length = la.length + k + 64 := by simp; omega
            rw [e]
            exact Hb2.out
        case measure => simp [intOf]; omega
    · have hkm := Hkm.out
      have hm0 : m = 0 := by omega
      subst hm0
      have hkk : k = n := by omega
      clear hkm
      subst hkk
      go_wp2_with fail
      go_end0
      exact ⟨rfl, ws, Hblk.out, hws, hgr⟩
end Go.Proofs.YtanoohfhifhhaaaDoor
