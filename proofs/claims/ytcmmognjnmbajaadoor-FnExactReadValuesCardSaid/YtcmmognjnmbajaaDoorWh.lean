/- Walks: packed. -/
import Derived.Test.YtcmmognjnmbajaaDoorWg
set_option linter.unusedVariables false
set_option linter.unusedSimpArgs false
namespace Go.Proofs.YtcmmognjnmbajaaDoor
open Go.RowKit

def byteNo (l : List Bool) (i : Nat) : Nat := BM.ofBits (fun t => l.getD (8 * i + t) false) 8
def doneCells (l : List Bool) (k : Nat) : List Value := (List.range (BM.bytesOf l.length)).map fun i => .int .u8 ((if i < k then byteNo l i else 0 : Nat) : Int)
theorem doneCells_length (l : List Bool) (k : Nat) : (doneCells l k).length = BM.bytesOf l.length := by simp [doneCells]
theorem doneCells_get (l : List Bool) (k i : Nat) (h : i < BM.bytesOf l.length) : (doneCells l k)[i]? = some (.int .u8 ((if i < k then byteNo l i else 0 : Nat) : Int)) := by
  simp [doneCells, h]
theorem doneCells_succ (l : List Bool) (k : Nat) (hk : k < BM.bytesOf l.length) : doneCells l (k + 1) = (doneCells l k).set k (.int .u8 (byteNo l k : Int)) := by
  apply List.ext_getElem?
  intro i
  by_cases hi : i < BM.bytesOf l.length
  · rw [doneCells_get _ _ _ hi, List.getElem?_set]
    by_cases h : k = i
    · subst h
      rw [if_pos rfl, if_pos (show k < (doneCells l k).length by rw [doneCells_length]; exact hi), if_pos (show k < k + 1 by omega)]
    · rw [if_neg h, doneCells_get _ _ _ hi]
      by_cases h2 : i < k
      · rw [if_pos h2, if_pos (by omega)]
      · rw [if_neg h2, if_neg (by omega)]
  · rw [List.getElem?_eq_none (by rw [doneCells_length]; omega), List.getElem?_eq_none (by rw [List.length_set, doneCells_length]; omega)]
theorem madeCells_done (l : List Bool) : (madeCells #[Value.int .u8 0] (BM.bytesOf l.length)).toList = doneCells l 0 := by
  apply List.ext_getElem?
  intro i
  by_cases hi : i < BM.bytesOf l.length
  · rw [doneCells_get _ _ _ hi]
    simp [madeCells, hi, Nat.mod_one]
  · rw [List.getElem?_eq_none (l := doneCells l 0) (by rw [doneCells_length]; omega), List.getElem?_eq_none (by simp [madeCells]; omega)]
theorem shr_byte {ws : List Nat} {l : List Bool} (h : BM.Words ws l) (k : Nat) :
    (ws.getD (k / 8) 0 : Int) / 2 ^ (56 - k % 8 * 8) % 256 = (byteNo l k : Int) := by
  rw [i_shr]
  have := BM.words_byte h k
  unfold byteNo
  rw [← this]
  generalize ws.getD (k / 8) 0 / 2 ^ (56 - k % 8 * 8) = z
  omega

set_option maxRecDepth 100000 in
set_option maxHeartbeats 1000000 in
theorem packed_any (g : Nat) (ws : List Nat) (l : List Bool) (w : World) (hb : BaBlk w g ws (l.length : Int)) (hw : BM.Words ws l) :
    Calls Tryd.prog 49 #[.pointer (some ⟨g, 0, none⟩)] w (RetBelow (.agg #[.string ⟨(BM.pack l).toArray⟩, .int .i64 (l.length : Int)]) w) := by
  have hll := hw.2.2.1
  have hg : g < w.heap.size := by
    rcases Nat.lt_or_ge g w.heap.size with h | h
    · exact h
    · unfold BaBlk at hb; rw [Array.getElem?_eq_none h] at hb; cases hb
  obtain ⟨i0, hi, hz0, hz1, hz2⟩ := info_parts info_u8
  have hm : (BM.bytesOf l.length : Int) = ((l.length : Int) + 7) / 8 := by unfold BM.bytesOf; omega
  have Hm := Lib.hid hm
  clear hm
  have hcn := hb.last hw.1
  have Hb := Lib.hid hb
  clear hb
  have hcn1 : (w.alloc (.cells #[Value.string ByteArray.empty, Value.int IntKind.i64 0] 27)).cell? ⟨g, 313, none⟩ = some (.int .i64 (l.length : Int)) := by
    rw [World.cell?_alloc_lt _ _ _ (by simpa using hg)]; exact hcn
  go_enter Tryd.func49, Tryd.ntmps49
  go_wp2_with (first
    | (go_at_call 89; refine (bytesFor_any _ _ (by omega) (by omega)).mono ?_; rintro e w' ⟨rfl, rfl⟩)
    | (at_make; refine wpList_make_full _ rfl _ _ 22 rfl (w.heap.size + 1) 5 i0 (.int .u8 0) 1 Tryd.underlying22 hi hz0 hz1 _ _ _ _ (BM.bytesOf l.length) rfl rfl Hm.out.symm Hm.out.symm ?b2 ?b3 ?b4 ?_))
  case b2 => rw [hz2]; unfold BM.bytesOf; omega
  case b3 => unfold BM.bytesOf maxLen; omega
  case b4 => simp
  intro w1 hown hgrow
  rw [madeCells_done] at hown
  have hb1 : Below w.heap.size w w1 := ((Below.refl _ _).alloc (Nat.le_refl _) _).grown hgrow (by simp) (fun k hk => by cases hk)
  have hsz1 : w.heap.size + 1 ≤ w1.heap.size := by have := hgrow.size; simpa using this
  have hres : w1.heap[w.heap.size]? = some (.cells #[.string ByteArray.empty, .int .i64 0] 27 (0, 0)) := by
    rw [hgrow.block _ (by simp) (by simp)]; exact heap_alloc_new w _
  clear hgrow hcn hcn1
  go_wp2_with fail
  go_loopw [13] (fun i wr => ∃ k : Nat, k ≤ BM.bytesOf l.length ∧ i = .int .i64 k ∧
      wr.ownsRow (w.heap.size + 1) 5 1 (.slice (some ⟨w.heap.size + 1, 0, none⟩) (BM.bytesOf l.length) (BM.bytesOf l.length)) (BM.bytesOf l.length) (doneCells l k) ∧
      Below w.heap.size w wr ∧ w.heap.size + 1 ≤ wr.heap.size ∧ wr.heap[w.heap.size]? = some (.cells #[.string ByteArray.empty, .int .i64 0] 27 (0, 0)))
    (fun i _ => BM.bytesOf l.length - (intOf i).toNat)
  case atStart => exact ⟨0, Nat.zero_le _, rfl, hown, hb1, hsz1, hres⟩
  case round =>
    clear hown hb1 hsz1 hres
    obtain ⟨k, hk, rfl, hown, hb1, hsz1, hres⟩ := hrel
    have Hbl : BaBlk wr g ws (l.length : Int) := (hb1.block g hg).trans Hb.out
    have hbo : BM.bytesOf l.length ≤ 2500 := by unfold BM.bytesOf; omega
    by_cases hlt : k < BM.bytesOf l.length
    · have hcell := Hbl.word (k / 8) (by rw [hw.1]; omega)
      have hfro : wr.frozen? ⟨w.heap.size + 1, k, none⟩ = false := hown.frozenAt _
      have hold : wr.cell? ⟨w.heap.size + 1, k, none⟩ = some (.int .u8 ((if k < k then byteNo l k else 0 : Nat) : Int)) := by
        rw [hown.cellAt _ (by omega)]; exact doneCells_get _ _ _ hlt
      have hval := shr_byte hw k
      generalize ws.getD (k / 8) 0 = y at hcell hval
      generalize ((if k < k then byteNo l k else 0 : Nat) : Int) = oldv at hold
      have Hval := Lib.hid hval
      clear hval
      have Hbl' := Lib.hid Hbl
      clear Hbl
      have hks : (k : Int) < (BM.bytesOf l.length : Int) := by omega
      have hbs := byteShift_any k wr.drew (by omega)
      have hw8 : IntKind.i64.wrap ((k : Int) / 8) = (k : Int) / 8 := IntWalk.i64_in _ (by omega)
      have h313 : (k : Int) / 8 < 313 := by omega
      have h08 : 0 ≤ (k : Int) / 8 := by omega
      have ht8 : ((k : Int) / 8).toNat = k / 8 := by omega
      have htk : (k : Int).toNat = k := by omega
      have hbs' := Lib.hid hbs
      clear hbs
      go_wp2_with fail
      refine wp_region_still_tail 14 (by kernel_rfl) (by kernel_rfl) ?_
      simp only [List.take_succ_cons, List.take_zero, List.drop_succ_cons, List.drop_zero]
      repeat still_step
      still_call hbs'.out
      repeat still_step
      refine wpStill_nil ?_
      change wpList _ _ _ _ _ wr.drew
      clear hw8 ht8
      generalize hwd : wr.drew = wd
      have hfd : wd.frozen? ⟨w.heap.size + 1, k, none⟩ = false := by subst hwd; exact hfro
      have hod : wd.cell? ⟨w.heap.size + 1, k, none⟩ = some (.int .u8 oldv) := by subst hwd; exact hold
      have hownd : wd.ownsRow (w.heap.size + 1) 5 1 (.slice (some ⟨w.heap.size + 1, 0, none⟩) (BM.bytesOf l.length) (BM.bytesOf l.length)) (BM.bytesOf l.length) (doneCells l k) := by subst hwd; exact hown.drew
      have hbd : Below w.heap.size w wd := by subst hwd; exact hb1.drew
      have hzd : w.heap.size + 1 ≤ wd.heap.size := by subst hwd; exact hsz1
      have hrd : wd.heap[w.heap.size]? = some (.cells #[.string ByteArray.empty, .int .i64 0] 27 (0, 0)) := by subst hwd; exact hres
      clear hwd hfro hold hown hb1 hsz1 hres hcell
      have Hrd := Lib.hid hrd
      clear hrd
      go_wp2_with fail
      go_roundw
      case rel =>
        refine ⟨k + 1, by omega, by go_num, ?_, ?_, ?_, ?_⟩
        · rw [doneCells_succ _ _ hlt, Hval.out]
          exact (hownd.stored k _).1
        · exact hbd.setCell (by simp) _
        · simpa [World.setCell] using hzd
        · rw [Below.heap_setCell _ _ _ _ (by simp)]; exact Hrd.out
      case measure => simp [intOf]; omega
    · obtain rfl : k = BM.bytesOf l.length := by omega
      have hconv : ∀ W : World, W.heap = wr.heap → (convert 22 9 (.slice (some ⟨w.heap.size + 1, 0, none⟩) (BM.bytesOf l.length) (BM.bytesOf l.length))).run Tryd.prog W = .ok (.string ⟨(BM.pack l).toArray⟩) W := by
        intro W hW
        have h := run_convert_bytes_arg (P := Tryd.prog) W 22 5 Tryd.underlying22 Tryd.underlying5 (w.heap.size + 1) 0 (BM.bytesOf l.length) (BM.bytesOf l.length)
          ((BM.pack l).map fun c => (c.toNat : Int)) (by simp [BM.pack_length])
          (fun i hi => by
            have hc : W.cell? ⟨w.heap.size + 1, 0 + i, none⟩ = wr.cell? ⟨w.heap.size + 1, 0 + i, none⟩ := by simp [World.cell?, hW]
            rw [hc, Nat.zero_add, hown.cellAt _ (by omega), doneCells_get _ _ _ hi, if_pos hi]
            have e : (BM.pack l)[i]? = some (BM.packByte l i) := by simp [BM.pack, hi]
            rw [List.getD_eq_getElem?_getD, List.getElem?_map, e]
            simp only [Option.map_some, Option.getD_some]
            rw [BM.packByte_toNat, byteNo]) 9 Tryd.underlying9
        have hstr : strOfNums ((BM.pack l).map fun c => (c.toNat : Int)) = ⟨(BM.pack l).toArray⟩ := by
          unfold strOfNums
          rw [List.map_map]
          congr 2
          rw [show ((fun n => UInt8.ofNat (Int.toNat n)) ∘ fun (c : UInt8) => (c.toNat : Int)) = id from funext fun c => by simp, List.map_id]
        rw [hstr] at h
        exact h
      have hcv := hconv wr.drew rfl
      have hcn := Hbl.last hw.1
      have hr0 : wr.cell? ⟨w.heap.size, 0, none⟩ = some (.string ByteArray.empty) := by rw [cell_of_row wr _ _ _ _ _ hres]; rfl
      have hr1 : wr.cell? ⟨w.heap.size, 1, none⟩ = some (.int .i64 0) := by rw [cell_of_row wr _ _ _ _ _ hres]; rfl
      have hf0 : wr.frozen? ⟨w.heap.size, 0, none⟩ = false := by simp [World.frozen?, hres]
      have hf1 : wr.frozen? ⟨w.heap.size, 1, none⟩ = false := by simp [World.frozen?, hres]
      clear hconv hres Hbl hown
      go_wp2_with fail
      go_region
      go_wp2_with fail
      exact bodyPost_ret (v := .agg #[.string ⟨(BM.pack l).toArray⟩, .int .i64 (l.length : Int)]) (by simp [results, Tryd.results49, go_sem, hr0, hr1]) rfl
        ⟨rfl, ((hb1.setCell (by simp) _).setCell (by simp) _).drew⟩
end Go.Proofs.YtcmmognjnmbajaaDoor
