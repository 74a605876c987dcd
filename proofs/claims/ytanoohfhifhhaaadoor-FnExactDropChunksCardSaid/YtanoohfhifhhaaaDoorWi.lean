/- Plain facts on digits and parts of lists of bits; no Go. -/
import Derived.Test.YtanoohfhifhhaaaDoorBn
import Derived.Test.YtanoohfhifhhaaaDoorWh
set_option linter.unusedVariables false
set_option linter.unusedSimpArgs false
namespace Go.Proofs.YtanoohfhifhhaaaDoor.BM
theorem digits_ofBits (f : Nat → Bool) (n : Nat) : digits (ofBits f n) n = (List.range n).map f := by
  apply list_ext_getD (by simp [digits])
  intro j hj
  rw [digits_length] at hj
  rw [digits_getD, if_pos hj, testBit_ofBits, if_pos (by omega), show n - 1 - (n - 1 - j) = j by omega]
  simp [List.getD_eq_getElem?_getD, hj]
theorem part_step (l : List Bool) (a k s : Nat) (h : a + k + s ≤ l.length) :
    (l.drop a).take (k + s) = (l.drop a).take k ++ (List.range s).map fun j => l.getD (a + k + j) false := by
  apply list_ext_getD (by simp; omega)
  intro j hj
  simp only [List.length_take, List.length_drop] at hj
  rw [getD_append]
  have hl : ((l.drop a).take k).length = k := by simp; omega
  rw [hl]
  by_cases hk : j < k
  · rw [if_pos hk]
    simp [List.getD_eq_getElem?_getD, hk, List.getElem?_take, show j < k + s by omega]
  · rw [if_neg hk]
    have h1 : j - k < s := by omega
    simp [List.getD_eq_getElem?_getD, List.getElem?_take, show j < k + s by omega, h1]
    congr 2
    omega
theorem part_words {ws wb : List Nat} {la lb : List Bool} {f k s : Nat} (hws : Words ws (la ++ (lb.drop f).take k)) (hwb : Words wb lb) (hs : s ≤ 64) (h : f + k + s ≤ lb.length) (hl : la.length + k + s ≤ 20000) :
    Words (putW ws (la.length + k) (getW wb (f + k) s) s) (la ++ (lb.drop f).take (k + s)) := by
  have hlen : (la ++ (lb.drop f).take k).length = la.length + k := by simp; omega
  have h1 := words_put hws (getW wb (f + k) s) s hs (by rw [hlen]; exact hl)
  rw [hlen, words_get hwb _ _ hs, digits_ofBits, List.append_assoc, ← part_step lb f k s h, ← words_get hwb _ _ hs] at h1
  exact h1
theorem getW_lt {wb : List Nat} {lb : List Bool} (hwb : Words wb lb) (a s : Nat) (hs : s ≤ 64) : getW wb a s < 2 ^ 64 := by
  rw [words_get hwb _ _ hs]
  exact Nat.lt_of_lt_of_le (ofBits_lt _ _) (Nat.pow_le_pow_right (by omega) hs)
theorem words_bound {ws : List Nat} {l : List Bool} (h : Words ws l) : ∀ i, ws.getD i 0 < 2 ^ 64 := h.2.1
end Go.Proofs.YtanoohfhifhhaaaDoor.BM

/- Walks: putPart. -/
set_option linter.unusedVariables false
set_option linter.unusedSimpArgs false
namespace Go.Proofs.YtanoohfhifhhaaaDoor
open Go.RowKit

def PartPost (ga : Nat) (l : List Bool) (w : World) (e : Ending) (w' : World) : Prop :=
  e = .returned (.tuple #[]) ∧ ∃ ws, BaBlk w' ga ws (l.length : Int) ∧ BM.Words ws l ∧ w.grownBy w' (some ga)

theorem grownBy_trans {a b c : World} {row : Option Nat} (h : a.grownBy b row) (k : b.grownBy c row) : a.grownBy c row :=
  ⟨k.os.trans h.os, k.tape.trans h.tape, k.output.trans h.output, Nat.le_trans h.size k.size, fun i hi hne => (k.block i (Nat.lt_of_lt_of_le hi h.size) hne).trans (h.block i hi hne)⟩

set_option maxRecDepth 100000 in
set_option maxHeartbeats 1000000 in
theorem putPart_any (ga gb : Nat) (wa wb : List Nat) (la lb : List Bool) (f n : Nat) (w : World) (hA : BaBlk w ga wa (la.length : Int)) (hB : BaBlk w gb wb (lb.length : Int)) (hne : gb ≠ ga)
    (hwa : BM.Words wa la) (hwb : BM.Words wb lb) (hf : f + n ≤ lb.length) (hn : la.length + n ≤ 20000) :
    Calls Tryd.prog 103 #[.pointer (some ⟨ga, 0, none⟩), .pointer (some ⟨gb, 0, none⟩), .int .i64 (f : Int), .int .i64 (n : Int)] w
      (PartPost ga (la ++ (lb.drop f).take n) w) := by
  have hlb := hwb.2.2.1
  have hgb : gb < w.heap.size := by
    rcases Nat.lt_or_ge gb w.heap.size with h | h
    · exact h
    · unfold BaBlk at hB; rw [Array.getElem?_eq_none h] at hB; cases hB
  have HA := Lib.hid hA
  have HB := Lib.hid hB
  clear hA hB
  go_enter Tryd.func103, Tryd.ntmps103
  go_wp2_with fail
  go_loopw [2, 3] (fun x y wr => ∃ (k m : Nat) (ws : List Nat), Hid (k + m = n) ∧ k ≤ n ∧ m ≤ n ∧ x = .int .i64 ((f + k : Nat) : Int) ∧ y = .int .i64 (m : Int) ∧
      Hid (BaBlk wr ga ws ((la ++ (lb.drop f).take k).length : Int)) ∧ BM.Words ws (la ++ (lb.drop f).take k) ∧ w.grownBy wr (some ga))
    (fun _ y _ => (intOf y).toNat)
  case atStart => exact ⟨0, n, wa, Nat.zero_add _, Nat.zero_le _, Nat.le_refl _, rfl, rfl, by unfold Hid; simpa using HA.out, by simpa using hwa, World.grownBy.refl _ _⟩
  case round =>
    obtain ⟨k, m, ws, Hkm, hkn, hmn, rfl, rfl, Hblk, hws, hgr⟩ := hrel
    have hlen : (la ++ (lb.drop f).take k).length = la.length + k := by simp; omega
    have Hlen := Lib.hid hlen
    clear hlen
    have hBr : BaBlk wr gb wb (lb.length : Int) := (hgr.block gb hgb (by intro h; injection h with h; exact hne h)).trans HB.out
    have HBr := Lib.hid hBr
    clear hBr
    by_cases hm : 0 < m
    · have hmi : (0 : Int) < (m : Int) := by omega
      have hkm := Hkm.out
      have hkle : k + m ≤ n := by omega
      have Hblk' : BaBlk wr ga ws ((la.length + k : Nat) : Int) := by have := Hblk.out; rw [Hlen.out] at this; exact this
      by_cases h64 : m ≤ 64
      · have hget := get_any gb wb _ (f + k) m wr HBr.out hwb.1 hwb.2.1 (by omega) (by omega)
        have hput := put_any ga ws (la.length + k) (BM.getW wb (f + k) m) m wr Hblk' hws.1 hws.2.1 (by omega) (by omega) (BM.getW_lt hwb _ _ (by omega))
        have hpw := BM.part_words (s := m) hws hwb (by omega) (by omega) (by omega)
        rw [show ((f + k : Nat) : Int) = (f : Int) + (k : Int) from Int.natCast_add f k] at hget
        have Hget := Lib.hid hget
        have Hput := Lib.hid hput
        have Hpw := Lib.hid hpw
        clear hget hput hpw Hblk'
        have h64i : (m : Int) ≤ 64 := by omega
        clear hkm
        go_wp2_with fail
        refine Hget.out.mono ?_
        rintro e w' ⟨rfl, rfl⟩
        go_wp2_with fail
        refine Hput.out.mono ?_
        rintro e w2 ⟨rfl, hb2, hg2⟩
        have Hb2 := Lib.hid hb2
        clear hb2
        have hgr2 := grownBy_trans hgr hg2
        clear hg2 hgr
        go_wp2_with fail
        go_roundw
        case rel =>
          refine ⟨k + m, m - m, _, ?_, by omega, by omega, ?_, ?_, ?_, Hpw.out, hgr2⟩
          · have := Hkm.out; unfold Hid; omega
          · first | rfl | (congr 1; omega)
          · first | rfl | (congr 1; omega)
          · unfold Hid
            have e : (la ++ (lb.drop f).take (k + m)).length = la.length + k + m := by simp; omega
            rw [e]
            exact Hb2.out
        case measure => simp [intOf]; omega
      · have hget := get_any gb wb _ (f + k) 64 wr HBr.out hwb.1 hwb.2.1 (by omega) (by omega)
        have hput := put_any ga ws (la.length + k) (BM.getW wb (f + k) 64) 64 wr Hblk' hws.1 hws.2.1 (by omega) (by omega) (BM.getW_lt hwb _ _ (by omega))
        have hpw := BM.part_words (s := 64) hws hwb (by omega) (by omega) (by omega)
        rw [show ((f + k : Nat) : Int) = (f : Int) + (k : Int) from Int.natCast_add f k] at hget
        rw [show ((64 : Nat) : Int) = 64 from rfl] at hget hput
        have Hget := Lib.hid hget
        have Hput := Lib.hid hput
        have Hpw := Lib.hid hpw
        clear hget hput hpw Hblk'
        have h64i : ¬ (m : Int) ≤ 64 := by omega
        have h64j : (64 : Int) < (m : Int) := by omega
        clear hkm
        go_wp2_with fail
        refine Hget.out.mono ?_
        rintro e w' ⟨rfl, rfl⟩
        go_wp2_with fail
        refine Hput.out.mono ?_
        rintro e w2 ⟨rfl, hb2, hg2⟩
        have Hb2 := Lib.hid hb2
        clear hb2
        have hgr2 := grownBy_trans hgr hg2
        clear hg2 hgr
        go_wp2_with fail
        go_roundw
        case rel =>
          refine ⟨k + 64, m - 64, _, ?_, by omega, by omega, ?_, ?_, ?_, Hpw.out, hgr2⟩
          · have := Hkm.out; unfold Hid; omega
          · first | rfl | (congr 1; omega)
          · first | rfl | (congr 1; omega)
          · unfold Hid
            have e : (la ++ (lb.drop f).take (k + 64)).length = la.length + k + 64 := by simp; omega
            rw [e]
            exact Hb2.out
        case measure => simp [intOf]; omega
    · have hkm := Hkm.out
      have hm0 : m = 0 := by omega
      subst hm0
      have hkk : k = n := by omega
      clear hkm
      subst hkk
      go_wp2_with fail
      go_end0
      exact ⟨rfl, ws, Hblk.out, hws, hgr⟩
end Go.Proofs.YtanoohfhifhhaaaDoor
