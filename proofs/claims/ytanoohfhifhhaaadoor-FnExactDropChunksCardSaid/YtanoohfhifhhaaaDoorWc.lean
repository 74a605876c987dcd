/- Walks: the model's packing of bits. -/
import Derived.Test.YtanoohfhifhhaaaDoorWb
import Derived.BigRegion
import Derived.Laws.BytesArg
set_option linter.unusedVariables false
set_option linter.unusedSimpArgs false
namespace Go.Proofs.YtanoohfhifhhaaaDoor
open Go.RowKit

/-- the slice value '.slice A n c' holds the cells xs, below block B -/
def IntsAt (w : World) (B : Nat) (A : Option Addr) (xs : List Value) : Prop :=
  xs = [] ∨ ∃ b off, A = some ⟨b, off, none⟩ ∧ b < B ∧ ∀ j u, xs[j]? = some u → w.cell? ⟨b, off + j, none⟩ = some u

theorem info_u8 : (Tryd.prog.info? 5).map (fun i => (i.zero, i.size, i.bytes)) = some (some (.int .u8 0), 1, 1) := by kernel_rfl

/-- the bytes behind the first k bits -/
def packTo (l : List Bool) (k i : Nat) : Nat := BM.ofBits (fun t => (l.take k).getD (8 * i + t) false) 8
def packCells (l : List Bool) (k : Nat) : List Value := (List.range (BM.bytesOf l.length)).map fun i => .int .u8 (packTo l k i : Int)
theorem packCells_length (l : List Bool) (k : Nat) : (packCells l k).length = BM.bytesOf l.length := by simp [packCells]
theorem packTo_lt (l : List Bool) (k i : Nat) : packTo l k i < 256 := BM.ofBits_lt _ 8
theorem packCells_get (l : List Bool) (k i : Nat) (h : i < BM.bytesOf l.length) : (packCells l k)[i]? = some (.int .u8 (packTo l k i : Int)) := by
  simp [packCells, h]
theorem take_getD (l : List Bool) (k j : Nat) : (l.take k).getD j false = if j < k then l.getD j false else false := by
  rw [List.getD_eq_getElem?_getD, List.getElem?_take]; split <;> simp [List.getD_eq_getElem?_getD]
theorem packTo_zero (l : List Bool) (i : Nat) : packTo l 0 i = 0 := by
  unfold packTo; simp [BM.ofBits]
theorem packTo_other (l : List Bool) (k i : Nat) (h : i ≠ k / 8) : packTo l (k + 1) i = packTo l k i := by
  unfold packTo
  apply BM.ofBits_congr
  intro t ht
  rw [take_getD, take_getD]
  by_cases h1 : 8 * i + t < k
  · rw [if_pos h1, if_pos (by omega)]
  · rw [if_neg h1, if_neg (by omega)]
theorem ofBits_add (f g : Nat → Bool) (n t : Nat) (ht : t < n) (hf : f t = false) (hg : ∀ i, i < n → i ≠ t → g i = f i) : BM.ofBits g n = BM.ofBits f n + (g t).toNat * 2 ^ (n - 1 - t) := by
  induction n with
  | zero => omega
  | succ n ih =>
    rw [BM.ofBits, BM.ofBits]
    by_cases h : t = n
    · subst h
      rw [BM.ofBits_congr (f := g) (g := f) (n := t) (fun i hi => hg i (by omega) (by omega)), hf]
      simp
    · rw [ih (by omega) (fun i hi hne => hg i (by omega) hne), hg n (by omega) (by omega)]
      have e : n + 1 - 1 - t = (n - 1 - t) + 1 := by omega
      rw [e, Nat.pow_succ, ← Nat.mul_assoc]
      generalize (g t).toNat * 2 ^ (n - 1 - t) = y
      omega
theorem packTo_this (l : List Bool) (k : Nat) : packTo l (k + 1) (k / 8) = packTo l k (k / 8) + (l.getD k false).toNat * 2 ^ (7 - k % 8) := by
  unfold packTo
  rw [ofBits_add (fun t => (l.take k).getD (8 * (k / 8) + t) false) (fun t => (l.take (k + 1)).getD (8 * (k / 8) + t) false) 8 (k % 8) (by omega)]
  · congr 2
    rw [take_getD, if_pos (by omega)]
    congr 2; omega
  · show (l.take k).getD (8 * (k / 8) + k % 8) false = false
    rw [take_getD, if_neg (by omega)]
  · intro i hi hne
    show (l.take (k + 1)).getD (8 * (k / 8) + i) false = (l.take k).getD (8 * (k / 8) + i) false
    rw [take_getD, take_getD]
    by_cases h1 : 8 * (k / 8) + i < k
    · rw [if_pos h1, if_pos (by omega)]
    · rw [if_neg h1, if_neg (by omega)]
theorem packCells_succ (l : List Bool) (k : Nat) (hk : k < l.length) :
    packCells l (k + 1) = (packCells l k).set (k / 8) (.int .u8 ((packTo l k (k / 8) + (l.getD k false).toNat * 2 ^ (7 - k % 8) : Nat) : Int)) := by
  apply List.ext_getElem?
  intro i
  by_cases hi : i < BM.bytesOf l.length
  · rw [packCells_get _ _ _ hi, List.getElem?_set]
    by_cases h : k / 8 = i
    · subst h
      rw [if_pos rfl, if_pos (by rw [packCells_length]; exact hi), packTo_this]
    · rw [if_neg h, packCells_get _ _ _ hi, packTo_other _ _ _ (fun e => h e.symm)]
  · rw [List.getElem?_eq_none (by rw [packCells_length]; omega), List.getElem?_eq_none (by rw [List.length_set, packCells_length]; omega)]
theorem madeCells_pack (l : List Bool) : (madeCells #[Value.int .u8 0] (BM.bytesOf l.length)).toList = packCells l 0 := by
  apply List.ext_getElem?
  intro i
  by_cases hi : i < BM.bytesOf l.length
  · rw [packCells_get _ _ _ hi, packTo_zero]
    simp [madeCells, hi, Nat.mod_one]
  · rw [List.getElem?_eq_none (l := packCells l 0) (by rw [packCells_length]; omega), List.getElem?_eq_none (by simp [madeCells]; omega)]

theorem bytesOf_lt {k n : Nat} (h : k < n) : k / 8 < BM.bytesOf n := by unfold BM.bytesOf; omega

set_option maxRecDepth 100000 in
set_option maxHeartbeats 1000000 in
theorem l1Pack_some (b off c : Nat) (l : List Bool) (w : World) (hl : l.length ≤ 100000) (hb : b < w.heap.size)
    (hc : ∀ j, j < l.length → w.cell? ⟨b, off + j, none⟩ = some (.int .i64 ((l.getD j false).toNat : Int))) :
    Calls Tryd.prog 80 #[.slice (some ⟨b, off, none⟩) l.length c] w fun e w' =>
      e = .returned (.agg #[.string ⟨(BM.pack l).toArray⟩, .int .i64 (l.length : Int)]) ∧ Below w.heap.size w w' := by
  obtain ⟨i0, hi, hz0, hz1, hz2⟩ := info_parts info_u8
  have hm : (BM.bytesOf l.length : Int) = ((l.length : Int) + 7) / 8 := by unfold BM.bytesOf; omega
  have Hm := Lib.hid hm
  clear hm
  go_enter Tryd.func80, Tryd.ntmps80
  go_wp2_with (at_make; refine wpList_make_full _ rfl _ _ 22 rfl (w.heap.size + 1) 5 i0 (.int .u8 0) 1 Tryd.underlying22 hi hz0 hz1 _ _ _ _ (BM.bytesOf l.length) rfl rfl Hm.out.symm Hm.out.symm ?b2 ?b3 ?b4 ?_)
  case b2 => rw [hz2]; unfold BM.bytesOf; omega
  case b3 => unfold BM.bytesOf maxLen; omega
  case b4 => simp
  intro w1 hown hgrow
  rw [madeCells_pack] at hown
  have hb1 : Below w.heap.size w w1 := ((Below.refl _ _).alloc (Nat.le_refl _) _).grown hgrow (by simp) (fun k hk => by cases hk)
  have hsz1 : w.heap.size + 1 ≤ w1.heap.size := by have := hgrow.size; simpa using this
  have hres : w1.heap[w.heap.size]? = some (.cells #[.string ByteArray.empty, .int .i64 0] 77 (0, 0)) := by
    rw [hgrow.block _ (by simp) (by simp)]; exact heap_alloc_new w _
  clear hgrow
  go_wp2_with fail
  go_loopw [4] (fun i wr => ∃ k : Nat, k ≤ l.length ∧ i = .int .i64 k ∧
      wr.ownsRow (w.heap.size + 1) 5 1 (.slice (some ⟨w.heap.size + 1, 0, none⟩) (BM.bytesOf l.length) (BM.bytesOf l.length)) (BM.bytesOf l.length) (packCells l k) ∧
      Below w.heap.size w wr ∧ w.heap.size + 1 ≤ wr.heap.size ∧ wr.heap[w.heap.size]? = some (.cells #[.string ByteArray.empty, .int .i64 0] 77 (0, 0)))
    (fun i _ => l.length - (intOf i).toNat)
  case atStart => exact ⟨0, Nat.zero_le _, rfl, hown, hb1, hsz1, hres⟩
  case round =>
    clear hown hb1 hsz1 hres
    obtain ⟨k, hk, rfl, hown, hb1, hsz1, hres⟩ := hrel
    by_cases hlt : k < l.length
    · have hkb := bytesOf_lt hlt
      have hx := packTo_lt l k (k / 8)
      have hcell : wr.cell? ⟨w.heap.size + 1, k / 8, none⟩ = some (.int .u8 (packTo l k (k / 8) : Int)) := by
        rw [hown.cellAt _ (by omega)]; exact packCells_get _ _ _ hkb
      have hfro : wr.frozen? ⟨w.heap.size + 1, k / 8, none⟩ = false := hown.frozenAt _
      have hbit : wr.cell? ⟨b, off + k, none⟩ = some (.int .i64 ((l.getD k false).toNat : Int)) := by
        rw [hb1.cell (by exact hb)]; exact hc k hlt
      have hbl : (l.getD k false).toNat ≤ 1 := Bool.toNat_le _
      generalize hX : packTo l k (k / 8) = x at *
      generalize hY : (l.getD k false).toNat = y at *
      have HX := Lib.hid hX
      have HY := Lib.hid hY
      clear hX hY
      have hkb' : (k : Int) / 8 < (BM.bytesOf l.length : Int) := by omega
      go_wp2_with fail
      go_region
      have hval : (((x : Int) + (y : Int) * 2 ^ (7 - k % 8)) % 256) = ((x + y * 2 ^ (7 - k % 8) : Nat) : Int) := by
        have h1 := packTo_this l k
        have h2 := packTo_lt l (k + 1) (k / 8)
        rw [HX.out, HY.out] at h1
        have h3 : x + y * 2 ^ (7 - k % 8) < 256 := by omega
        have h4 : (((x : Int) + (y : Int) * 2 ^ (7 - k % 8))) = ((x + y * 2 ^ (7 - k % 8) : Nat) : Int) := by simp
        rw [h4]
        generalize x + y * 2 ^ (7 - k % 8) = z at *
        omega
      have hst := hown.stored (k / 8) (.int .u8 (((x : Int) + (y : Int) * 2 ^ (7 - k % 8)) % 256))
      have hown2 := hst.1
      rw [hval, show x = packTo l k (k / 8) from HX.out.symm, show y = (l.getD k false).toNat from HY.out.symm, ← packCells_succ l k hlt, HX.out, HY.out, ← hval] at hown2
      have hb2 : Below w.heap.size w (wr.setCell ⟨w.heap.size + 1, k / 8, none⟩ (.int .u8 (((x : Int) + (y : Int) * 2 ^ (7 - k % 8)) % 256))) := hb1.setCell (by simp) _
      have hres2 : (wr.setCell ⟨w.heap.size + 1, k / 8, none⟩ (.int .u8 (((x : Int) + (y : Int) * 2 ^ (7 - k % 8)) % 256))).heap[w.heap.size]? = some (.cells #[.string ByteArray.empty, .int .i64 0] 77 (0, 0)) := by
        rw [Below.heap_setCell _ _ _ _ (by simp)]; exact hres
      have hsz2 : w.heap.size + 1 ≤ (wr.setCell ⟨w.heap.size + 1, k / 8, none⟩ (.int .u8 (((x : Int) + (y : Int) * 2 ^ (7 - k % 8)) % 256))).heap.size := by simpa [World.setCell] using hsz1
      clear hst hown hcell hfro hres hb1 hsz1 hval
      generalize wr.setCell ⟨w.heap.size + 1, k / 8, none⟩ (.int .u8 (((x : Int) + (y : Int) * 2 ^ (7 - k % 8)) % 256)) = w2 at *
      go_wp2_with fail
      go_roundw
      case rel => exact ⟨k + 1, by omega, by go_num, hown2.drew, hb2.drew, hsz2, hres2⟩
      case measure => simp [intOf]; omega
    · obtain rfl : k = l.length := by omega
      have hconv := run_convert_bytes_arg (P := Tryd.prog) wr 22 5 Tryd.underlying22 Tryd.underlying5 (w.heap.size + 1) 0 (BM.bytesOf l.length) (BM.bytesOf l.length)
        ((BM.pack l).map fun c => (c.toNat : Int)) (by simp [BM.pack_length])
        (fun i hi => by
          rw [Nat.zero_add, hown.cellAt _ (by omega), packCells_get _ _ _ hi]
          have e : (BM.pack l)[i]? = some (BM.packByte l i) := by simp [BM.pack, hi]
          rw [List.getD_eq_getElem?_getD, List.getElem?_map, e]
          simp only [Option.map_some, Option.getD_some]
          rw [BM.packByte_toNat, packTo, List.take_length]) 9 Tryd.underlying9
      have hstr : strOfNums ((BM.pack l).map fun c => (c.toNat : Int)) = ⟨(BM.pack l).toArray⟩ := by
        unfold strOfNums
        rw [List.map_map]
        congr 2
        rw [show ((fun n => UInt8.ofNat (Int.toNat n)) ∘ fun (c : UInt8) => (c.toNat : Int)) = id from funext fun c => by simp, List.map_id]
      rw [hstr] at hconv
      clear hstr
      have hr0 : wr.cell? ⟨w.heap.size, 0, none⟩ = some (.string ByteArray.empty) := by rw [cell_of_row wr _ _ _ _ _ hres]; rfl
      have hr1 : wr.cell? ⟨w.heap.size, 1, none⟩ = some (.int .i64 0) := by rw [cell_of_row wr _ _ _ _ _ hres]; rfl
      have hf0 : wr.frozen? ⟨w.heap.size, 0, none⟩ = false := by simp [World.frozen?, hres]
      have hf1 : wr.frozen? ⟨w.heap.size, 1, none⟩ = false := by simp [World.frozen?, hres]
      clear hres
      go_wp2_with fail
      exact bodyPost_ret (v := .agg #[.string ⟨(BM.pack l).toArray⟩, .int .i64 (l.length : Int)]) (by simp [results, Tryd.results80, go_sem, hr0, hr1]) rfl
        ⟨rfl, (hb1.setCell (by simp) _).setCell (by simp) _⟩

set_option maxRecDepth 100000 in
set_option maxHeartbeats 1000000 in
theorem l1Pack_none (A : Option Addr) (c : Nat) (w : World) :
    Calls Tryd.prog 80 #[.slice A 0 c] w fun e w' =>
      e = .returned (.agg #[.string ⟨#[]⟩, .int .i64 0]) ∧ Below w.heap.size w w' := by
  obtain ⟨i0, hi, hz0, hz1, hz2⟩ := info_parts info_u8
  go_enter Tryd.func80, Tryd.ntmps80
  go_wp2_with (at_make; refine wpList_make_full _ rfl _ _ 22 rfl (w.heap.size + 1) 5 i0 (.int .u8 0) 1 Tryd.underlying22 hi hz0 hz1 _ _ _ _ 0 rfl rfl (by decide) (by decide) ?b2 ?b3 ?b4 ?_)
  case b2 => simp
  case b3 => unfold maxLen; omega
  case b4 => simp
  intro wr hown hgrow
  have hb1 : Below w.heap.size w wr := ((Below.refl _ _).alloc (Nat.le_refl _) _).grown hgrow (by simp) (fun k hk => by cases hk)
  have hres : wr.heap[w.heap.size]? = some (.cells #[.string ByteArray.empty, .int .i64 0] 77 (0, 0)) := by
    rw [hgrow.block _ (by simp) (by simp)]; exact heap_alloc_new w _
  have hr0 : wr.cell? ⟨w.heap.size, 0, none⟩ = some (.string ByteArray.empty) := by rw [cell_of_row wr _ _ _ _ _ hres]; rfl
  have hr1 : wr.cell? ⟨w.heap.size, 1, none⟩ = some (.int .i64 0) := by rw [cell_of_row wr _ _ _ _ _ hres]; rfl
  have hf0 : wr.frozen? ⟨w.heap.size, 0, none⟩ = false := by simp [World.frozen?, hres]
  have hf1 : wr.frozen? ⟨w.heap.size, 1, none⟩ = false := by simp [World.frozen?, hres]
  have hconv := run_convert_bytes_arg (P := Tryd.prog) wr 22 5 Tryd.underlying22 Tryd.underlying5 (w.heap.size + 1) 0 0 0 [] rfl (fun i hi => by omega) 9 Tryd.underlying9
  have hstr : strOfNums [] = ⟨#[]⟩ := rfl
  rw [hstr] at hconv
  clear hstr hres hgrow hown
  go_wp2_with fail
  refine wp_loop_rounds 1 ?_
  rw [rounds_succ]
  go_wp2_with fail
  exact bodyPost_ret (v := .agg #[.string ⟨#[]⟩, .int .i64 0]) (by simp [results, Tryd.results80, go_sem, hr0, hr1]) rfl
        ⟨rfl, (hb1.setCell (by simp) _).setCell (by simp) _⟩

theorem bitInts_get (l : List Bool) (j : Nat) (h : j < l.length) : (bitInts l)[j]? = some (.int .i64 ((l.getD j false).toNat : Int)) := by
  simp [bitInts, List.getD_eq_getElem?_getD, h]

/-- the packing of a slice that holds the bits l -/
theorem l1Pack_any (A : Option Addr) (c : Nat) (l : List Bool) (w : World) (hl : l.length ≤ 100000) (hA : IntsAt w w.heap.size A (bitInts l)) :
    Calls Tryd.prog 80 #[.slice A l.length c] w fun e w' =>
      e = .returned (.agg #[.string ⟨(BM.pack l).toArray⟩, .int .i64 (l.length : Int)]) ∧ Below w.heap.size w w' := by
  rcases hA with h | ⟨b, off, rfl, hb, hc⟩
  · have : l = [] := by simpa [bitInts] using h
    subst this
    exact l1Pack_none A c w
  · exact l1Pack_some b off c l w hl hb (fun j hj => hc j _ (bitInts_get l j hj))
theorem ints_own {w : World} {base : Nat} {e : TypeId} {v : Value} {n : Nat} {xs : List Value} (h : w.ownsRow base e 1 v n xs) (hn : n = xs.length) :
    ∃ A c, v = .slice A n c ∧ IntsAt w w.heap.size A xs := by
  rcases h.2 with ⟨rfl, h0⟩ | ⟨g, cap, cur, rfl, hb, hg, _⟩
  · subst h0
    exact ⟨none, 0, rfl, .inl (List.eq_nil_of_length_eq_zero hn.symm)⟩
  · refine ⟨_, cap, rfl, .inr ⟨g, 0, rfl, (Array.getElem?_eq_some_iff.1 hg).1, fun j u hu => ?_⟩⟩
    have hj : j < xs.length := by
      rcases Nat.lt_or_ge j xs.length with h | h
      · exact h
      · rw [List.getElem?_eq_none h] at hu; cases hu
    rw [Nat.zero_add, h.cellAt j (by omega)]; exact hu
end Go.Proofs.YtanoohfhifhhaaaDoor
