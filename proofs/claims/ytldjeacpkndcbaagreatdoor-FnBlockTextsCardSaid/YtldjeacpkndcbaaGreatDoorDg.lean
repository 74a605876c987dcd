/- Walks: the block of points. -/
import Derived.Test.YtldjeacpkndcbaaGreatDoorGc
import Derived.Test.YtldjeacpkndcbaaGreatDoorDb
import Derived.Test.YtldjeacpkndcbaaGreatDoorWt
import Derived.Test.YtldjeacpkndcbaaGreatDoorHk
import Derived.Test.YtldjeacpkndcbaaGreatDoorSd
import Derived.Test.YtldjeacpkndcbaaGreatDoorQn
import Derived.Test.YtldjeacpkndcbaaGreatDoorSe
set_option linter.unusedVariables false
set_option linter.unusedSimpArgs false
namespace Go.Proofs.YtldjeacpkndcbaaGreatDoor
open Go.RowKit

/-- the bits of a block of points -/
def bkL (xs : List (Int × Int)) : List Bool := timesL (xs.map Prod.fst) ++ (valTo (xs.map Prod.snd) (xs.map Prod.snd).length).1
def bkB (xs : List (Int × Int)) : Bool := ptsOkB xs && decide (0 < xs.length)
def bkN (xs : List (Int × Int)) : Int := if bkB xs = true then (xs.length : Int) else 0
def bkD (xs : List (Int × Int)) : ByteArray := if bkB xs = true then ⟨(BM.pack (bkL xs)).toArray⟩ else ⟨#[]⟩
/-- how BlockOf ends -/
def BlkPost (N : Int) (D : ByteArray) (B : Bool) (w : World) (e : Ending) (w' : World) : Prop := e = .returned (.tuple #[.agg #[.int .i64 N, .string D], .bool B]) ∧ Below w.heap.size w w'
theorem ptsOk_len {xs : List (Int × Int)} (h : ptsOkB xs = true) : xs.length ≤ 120 := by
  unfold ptsOkB timesOkB at h
  rw [Bool.and_eq_true, decide_eq_true_iff, List.length_map] at h
  exact h.1
/-- a block's box -/
def KB (w : World) (g : Nat) (N : Int) (D : ByteArray) : Prop := w.heap[g]? = some (.cells #[.int .i64 N, .string D] 25 (0, 0))
theorem KB.c0 {w : World} {g : Nat} {N : Int} {D : ByteArray} (h : KB w g N D) : w.cell? ⟨g, 0, none⟩ = some (.int .i64 N) := by rw [cell_of_row w g 0 _ _ _ h]; rfl
theorem KB.c1 {w : World} {g : Nat} {N : Int} {D : ByteArray} (h : KB w g N D) : w.cell? ⟨g, 1, none⟩ = some (.string D) := by rw [cell_of_row w g 1 _ _ _ h]; rfl
theorem KB.f {w : World} {g : Nat} {N : Int} {D : ByteArray} (h : KB w g N D) (i : Nat) : w.frozen? ⟨g, i, none⟩ = false := frozen_of_row w g i _ _ h
theorem KB.below {w w' : World} {g B : Nat} {N : Int} {D : ByteArray} (h : KB w g N D) (hb : Below B w w') (hg : g < B) : KB w' g N D := (hb.block g hg).trans h
theorem KB.new (w : World) (N : Int) (D : ByteArray) : KB (w.alloc (.cells #[.int .i64 N, .string D] 25)) w.heap.size N D := heap_alloc_new w _
theorem pack_none : BM.pack [] = [] := rfl

theorem field_bits (a : ByteArray) (b : Int) (w : World) : (Instr.field 51 (.agg #[.string a, .int .i64 b]) 0).run Tryz.prog w = .ok (.string a) w := by kernel_rfl
theorem gd_pack_list (l : List Bool) : (ByteArray.mk (BM.pack l).toArray).data.toList = BM.pack l := by simp
theorem gd_pack_size (l : List Bool) : (ByteArray.mk (BM.pack l).toArray).size = (l.length + 7) / 8 := by
  have h : (ByteArray.mk (BM.pack l).toArray).size = (BM.pack l).length := List.size_toArray
  rw [h, BM.pack_length]; unfold BM.bytesOf; omega
theorem gd_okB_pack (l : List Bool) (h : l.length ≤ 20000) : okB ⟨(BM.pack l).toArray⟩ (l.length : Int) = true := by
  unfold okB
  apply decide_eq_true
  refine ⟨by omega, by omega, ?_, ?_⟩
  · rw [gd_pack_size]; omega
  · rw [Int.toNat_natCast, gd_pack_list, BM.listOf_pack]
theorem gd_RB_new (w : World) (s : ByteArray) (N : Int) : RB (w.alloc (.cells #[.string s, .int .i64 N] 51)) w.heap.size s N := heap_alloc_new w _
/-- two packed lists joined -/
theorem joined_pack (TL VL : List Bool) (w : World) (hl : TL.length + VL.length ≤ 20000) (R : List UInt8) (hR : BM.pack (TL ++ VL) = R) :
    Calls Tryz.prog 89 #[.agg #[.string ⟨(BM.pack TL).toArray⟩, .int .i64 (TL.length : Int)], .agg #[.string ⟨(BM.pack VL).toArray⟩, .int .i64 (VL.length : Int)]] w (BPost ⟨R.toArray⟩ ((TL.length : Int) + VL.length) true w) := by
  have h1 := gd_pack_size TL
  have h2 := gd_pack_size VL
  exact implJoined_good _ TL.length _ VL.length w (by unfold maxLen; omega) (by unfold maxLen; omega) (gd_okB_pack TL (by omega)) (gd_okB_pack VL (by omega)) hl R (Lib.hid (by rw [gd_pack_list, gd_pack_list, BM.listOf_pack, BM.listOf_pack, hR]))

set_option maxRecDepth 100000 in
set_option maxHeartbeats 2000000 in
theorem specBlockOf_bad (v : Value) (xs : List (Int × Int)) (w : World) (h : PL w w.heap.size v xs) (hB : bkB xs = false) :
    Calls Tryz.prog 23 #[v] w (BlkPost 0 ⟨#[]⟩ false w) := by
  have hb0 : Below w.heap.size w (w.alloc (.cells #[.int .i64 0, .string ⟨#[]⟩] 25)) := below1 w _
  have hP := Lib.hid (specPointsOk_any v xs _ ((h.below hb0).up hb0.size))
  have HB0 := Lib.hid hb0
  have HK0 := Lib.hid (KB.new w 0 ⟨#[]⟩)
  obtain ⟨_, hlen, A, c, rfl, _⟩ := h
  have e0 : ptsOkB xs = true → (xs.length : Int) = 0 := fun hp => by
    unfold bkB at hB; rw [hp, Bool.true_and, decide_eq_false_iff_not] at hB; omega
  cases hp : ptsOkB xs with
  | false =>
    rw [hp] at hP
    clear hb0 e0
    go_enter Tryz.func23, Tryz.ntmps23
    go_wp2_with fail
    refine hP.out.mono ?_
    rintro e w1 ⟨rfl, hb1⟩
    have hK1 := HK0.out.below hb1 (by simp)
    have r0 := hK1.c0
    have r1 := hK1.c1
    have f0 := hK1.f 0
    have f1 := hK1.f 1
    have hf1 := HB0.out.trans (hb1.mono HB0.out.size)
    clear hb1 hK1
    go_wp2_with fail
    exact bodyPost_ret (v := .tuple #[.agg #[.int .i64 0, .string ⟨#[]⟩], .bool false]) (by simp [results, Tryz.results23, go_sem, r0, r1]) rfl ⟨rfl, by
      repeat (first | exact hf1 | refine Below.setCell ?_ (by simp) _)⟩
  | true =>
    have e1 := e0 hp
    have e2 : ((xs.length : Int) == 0) = true := by rw [beq_iff_eq]; exact e1
    have e3 : decide ((xs.length : Int) = 0) = true := decide_eq_true e1
    rw [hp] at hP
    clear hb0 e0
    go_enter Tryz.func23, Tryz.ntmps23
    go_wp2_with fail
    refine hP.out.mono ?_
    rintro e w1 ⟨rfl, hb1⟩
    have hK1 := HK0.out.below hb1 (by simp)
    have r0 := hK1.c0
    have r1 := hK1.c1
    have f0 := hK1.f 0
    have f1 := hK1.f 1
    have hf1 := HB0.out.trans (hb1.mono HB0.out.size)
    clear hb1 hK1
    go_wp2_with fail
    exact bodyPost_ret (v := .tuple #[.agg #[.int .i64 0, .string ⟨#[]⟩], .bool false]) (by simp [results, Tryz.results23, go_sem, r0, r1]) rfl ⟨rfl, by
      repeat (first | exact hf1 | refine Below.setCell ?_ (by simp) _)⟩

set_option maxRecDepth 100000 in
set_option maxHeartbeats 2000000 in
theorem specBlockOf_good (v : Value) (xs : List (Int × Int)) (w : World) (h : PL w w.heap.size v xs) (hp : ptsOkB xs = true) (h0 : 0 < xs.length) (R : List UInt8) (hR : BM.pack (bkL xs) = R) :
    Calls Tryz.prog 23 #[v] w (BlkPost (xs.length : Int) ⟨R.toArray⟩ true w) := by
  have hb0 : Below w.heap.size w (w.alloc (.cells #[.int .i64 0, .string ⟨#[]⟩] 25)) := below1 w _
  have hP := Lib.hid (specPointsOk_any v xs _ ((h.below hb0).up hb0.size))
  rw [hp] at hP
  have HB0 := Lib.hid hb0
  have HK0 := Lib.hid (KB.new w 0 ⟨#[]⟩)
  have HPl := Lib.hid ((h.below hb0).up hb0.size)
  have h120 := ptsOk_len hp
  have hr := h.1
  have Hr1 := Lib.hid (rng_fst hr)
  have Hr2 := Lib.hid (rng_snd hr)
  obtain ⟨_, hlen, A, c, rfl, _⟩ := h
  have HS := Lib.hid (fun W hW => l5Split_any (.slice A xs.length c) xs W hW)
  have HT3 := Lib.hid (fun v W hW => l3Times_any v (xs.map Prod.fst) W hW hp)
  have HV4 := Lib.hid (fun v W hW => l4Values_any v (xs.map Prod.snd) W hW (by simpa using h120))
  have hl1 : (timesL (xs.map Prod.fst)).length ≤ 46 * 120 := Nat.le_trans (timesTo_le _ _) (by simp; omega)
  have hl2 : (valTo (xs.map Prod.snd) (xs.map Prod.snd).length).1.length ≤ 77 * 120 := Nat.le_trans (valTo_ok _ _).2 (by simp; omega)
  have hLt : (xs.map Prod.fst).length = xs.length := by simp
  have hLv : (xs.map Prod.snd).length = xs.length := by simp
  have HRR := Lib.hid hR
  unfold bkL at HRR
  obtain ⟨i0, hi, hz0, hz1, hz2⟩ := info_parts u_info_i64
  have n0 : ((xs.length : Int) == 0) = false := by rw [beq_eq_false_iff_ne]; omega
  have n1 : decide ((xs.length : Int) = 0) = false := decide_eq_false (by omega)
  generalize timesL (xs.map Prod.fst) = TL at *
  generalize (valTo (xs.map Prod.snd) (xs.map Prod.snd).length).1 = VL at *
  generalize xs.map Prod.fst = ts at *
  generalize xs.map Prod.snd = vs at *
  have HLt := Lib.hid hLt
  have HLv := Lib.hid hLv
  clear hb0 hp hr hR hLt hLv
  go_enter Tryz.func23, Tryz.ntmps23
  go_wp2_with fail
  refine hP.out.mono ?_
  rintro e w1 ⟨rfl, hb1⟩
  have HK1 := Lib.hid (HK0.out.below hb1 (by simp))
  have HF1 := Lib.hid (HB0.out.trans (hb1.mono HB0.out.size))
  have HP1 := Lib.hid ((HPl.out.below hb1).up hb1.size)
  have z1 : w.heap.size < w1.heap.size := Nat.lt_of_lt_of_le (by simp) hb1.size
  clear hb1
  go_wp2_with fail
  refine (HS.out _ HP1.out).mono ?_
  rintro e w2 ⟨vt, vv, rfl, ot, ov, hb2⟩
  have HK2 := Lib.hid (HK1.out.below hb2 z1)
  have HF2 := Lib.hid (HF1.out.trans (hb2.mono HF1.out.size))
  have HIt := Lib.hid (IL.of_own ot rfl Hr1.out (by have := HLt.out; omega))
  have HIv := Lib.hid (IL.of_own ov rfl Hr2.out (by have := HLv.out; omega))
  have z2 : w.heap.size < w2.heap.size := Nat.lt_of_lt_of_le z1 hb2.size
  clear hb2 ot ov
  go_wp2_with fail
  refine (HT3.out _ _ HIt.out).mono ?_
  rintro e w3 ⟨v3, rfl, o3, hb3, nn3⟩
  have HK3 := Lib.hid (HK2.out.below hb3 z2)
  have HF3 := Lib.hid (HF2.out.trans (hb3.mono HF2.out.size))
  have HIv3 := Lib.hid ((HIv.out.below hb3).up hb3.size)
  have HO3 := Lib.hid o3
  have z3 : w.heap.size < w3.heap.size := Nat.lt_of_lt_of_le z2 hb3.size
  have z23 : w2.heap.size ≤ w3.heap.size := hb3.size
  clear hb3 o3
  go_wp2_with fail
  refine (HV4.out _ _ HIv3.out).mono ?_
  rintro e w4 ⟨v4, rfl, o4, hb4, nn4⟩
  have HK4 := Lib.hid (HK3.out.below hb4 z3)
  have HF4 := Lib.hid (HF3.out.trans (hb4.mono HF3.out.size))
  have HO34 := Lib.hid (u_own_below HO3.out hb4)
  have z4 : w.heap.size < w4.heap.size := Nat.lt_of_lt_of_le z3 hb4.size
  have z24 : w2.heap.size ≤ w4.heap.size := Nat.le_trans z23 hb4.size
  clear hb4
  obtain ⟨gB, cB, rfl⟩ : ∃ gB cB, v4 = .slice (some ⟨gB, 0, none⟩) VL.length cB := by
    rcases o4.2 with ⟨h, _⟩ | ⟨g, cap, cur, h, _⟩
    · exact absurd h nn4
    · exact ⟨g, cap, h⟩
  have Hcells := Lib.hid (show ∀ j u, (bitInts VL)[j]? = some u → w4.cell? ((⟨gB, 0, none⟩ : Addr).add j) = some u from o4.cells rfl)
  have Hln := Lib.hid (show (bitInts VL).length = VL.length * 1 by rw [bitInts_length, Nat.mul_one])
  have Hone := Lib.hid (bitInts_oneCell VL)
  clear o4
  go_wp2_with (at_builtin; refine wpList_append_own _ rfl _ _ 67 rfl w2.heap.size 2 i0 (.int .i64 0) 1 8 Tryz.underlying67 hi hz0 hz1 hz2 rfl (by decide) _ _ _ rfl HO34.out ⟨gB, 0, none⟩ VL.length cB (bitInts VL) rfl Hln.out Hcells.out Hone.out ?c3 ?c4 ?c5 ?_)
  case c3 => unfold maxLen; omega
  case c4 => omega
  case c5 => exact z24
  intro v5 w5 o5 hgrow hnn
  have hap : (bitInts TL ++ bitInts VL) = bitInts (TL ++ VL) := by simp [bitInts]
  rw [hap] at o5
  have hll : TL.length + VL.length = (TL ++ VL).length := by simp
  rw [hll] at o5
  have HF5 := Lib.hid (HF4.out.grown hgrow (Nat.le_of_lt z4) (fun k hk => Nat.le_trans (HF2.out.size) (HO34.out.lt k hk).1))
  have HK5 := Lib.hid (show KB w5 w.heap.size 0 ⟨#[]⟩ from (hgrow.block w.heap.size z4 (fun hk => by have := (HO34.out.lt _ hk.symm).1; omega)).trans HK4.out)
  have z5 : w.heap.size < w5.heap.size := Nat.lt_of_lt_of_le z4 hgrow.size
  have hlen2 : (TL ++ VL).length ≤ 100000 := by simp; omega
  have hgo : ∀ v', v' = v5 → v5 ≠ .slice none 0 0 → ∃ A5 c5, v5 = .slice A5 (TL ++ VL).length c5 ∧ IntsAt w5 w5.heap.size A5 (bitInts (TL ++ VL)) := by
    intro _ _ hnn5
    rcases o5.2 with ⟨h, _⟩ | ⟨g, cap, cur, h, _⟩
    · exact absurd h hnn5
    · subst h; exact ⟨_, _, rfl, intsAt_own o5⟩
  have hnn5 : v5 ≠ .slice none 0 0 := by first | exact hnn | exact fun h => nn3 (hnn.1 h).1
  obtain ⟨A5, c5, rfl, hA5⟩ := hgo _ rfl hnn5
  have HP5 := Lib.hid (l1Pack_any A5 c5 (TL ++ VL) w5 hlen2 hA5)
  rw [HRR.out] at HP5
  generalize (TL ++ VL).length = n5 at *
  clear hgrow o5 hA5 hnn5 hgo hap hnn Hcells Hln Hone HO34 HO3 HIv3 HIv HIt
  go_wp2_with fail
  refine HP5.out.mono ?_
  rintro e w6 ⟨rfl, hb6⟩
  have hK6 := HK5.out.below hb6 z5
  have hfd := field_bits (⟨R.toArray⟩ : ByteArray) (n5 : Int)
  have r0 := hK6.c0
  have r1 := hK6.c1
  have f0 := hK6.f 0
  have f1 := hK6.f 1
  have hf6 := HF5.out.trans (hb6.mono HF5.out.size)
  clear hb6 hK6
  go_wp2_with fail
  exact bodyPost_ret (v := .tuple #[.agg #[.int .i64 (xs.length : Int), .string ⟨R.toArray⟩], .bool true]) (by simp [results, Tryz.results23, go_sem, r0, r1]) rfl
    ⟨rfl, (hf6.setCell (by simp) _).setCell (by simp) _⟩

set_option maxRecDepth 100000 in
set_option maxHeartbeats 2000000 in
theorem implBlockOf_bad (v : Value) (xs : List (Int × Int)) (w : World) (h : PL w w.heap.size v xs) (hB : bkB xs = false) :
    Calls Tryz.prog 57 #[v] w (BlkPost 0 ⟨#[]⟩ false w) := by
  have hb0 : Below w.heap.size w (w.alloc (.cells #[.int .i64 0, .string ⟨#[]⟩] 25)) := below1 w _
  have hP := Lib.hid (implPointsOk_any v xs _ ((h.below hb0).up hb0.size))
  have HB0 := Lib.hid hb0
  have HK0 := Lib.hid (KB.new w 0 ⟨#[]⟩)
  obtain ⟨_, hlen, A, c, rfl, _⟩ := h
  by_cases e1 : (xs.length : Int) = 0
  · have e2 : ((xs.length : Int) == 0) = true := by rw [beq_iff_eq]; exact e1
    have e3 : decide ((xs.length : Int) = 0) = true := decide_eq_true e1
    have r0 := HK0.out.c0
    have r1 := HK0.out.c1
    have f0 := HK0.out.f 0
    have f1 := HK0.out.f 1
    clear hb0
    go_enter Tryz.func57, Tryz.ntmps57
    go_wp2_with fail
    exact bodyPost_ret (v := .tuple #[.agg #[.int .i64 0, .string ⟨#[]⟩], .bool false]) (by simp [results, Tryz.results57, go_sem, r0, r1]) rfl ⟨rfl, by
      repeat (first | exact HB0.out | refine Below.setCell ?_ (by simp) _)⟩
  · have e2 : ((xs.length : Int) == 0) = false := by rw [beq_eq_false_iff_ne]; exact e1
    have e3 : decide ((xs.length : Int) = 0) = false := decide_eq_false e1
    have hp : ptsOkB xs = false := by
      unfold bkB at hB
      cases hp : ptsOkB xs with
      | false => rfl
      | true => rw [hp, Bool.true_and, decide_eq_false_iff_not] at hB; omega
    rw [hp] at hP
    clear hb0
    go_enter Tryz.func57, Tryz.ntmps57
    go_wp2_with fail
    refine hP.out.mono ?_
    rintro e w1 ⟨rfl, hb1⟩
    have hK1 := HK0.out.below hb1 (by simp)
    have r0 := hK1.c0
    have r1 := hK1.c1
    have f0 := hK1.f 0
    have f1 := hK1.f 1
    have hf1 := HB0.out.trans (hb1.mono HB0.out.size)
    clear hb1 hK1
    go_wp2_with fail
    exact bodyPost_ret (v := .tuple #[.agg #[.int .i64 0, .string ⟨#[]⟩], .bool false]) (by simp [results, Tryz.results57, go_sem, r0, r1]) rfl ⟨rfl, by
      repeat (first | exact hf1 | refine Below.setCell ?_ (by simp) _)⟩

set_option maxRecDepth 100000 in
set_option maxHeartbeats 4000000 in
theorem implBlockOf_good (v : Value) (xs : List (Int × Int)) (w : World) (h : PL w w.heap.size v xs) (hT : Tab w) (hp : ptsOkB xs = true) (h0 : 0 < xs.length) (R : List UInt8) (hR : BM.pack (bkL xs) = R) :
    Calls Tryz.prog 57 #[v] w (BlkPost (xs.length : Int) ⟨R.toArray⟩ true w) := by
  have hb0 : Below w.heap.size w (w.alloc (.cells #[.int .i64 0, .string ⟨#[]⟩] 25)) := below1 w _
  have hP := Lib.hid (implPointsOk_any v xs _ ((h.below hb0).up hb0.size))
  rw [hp] at hP
  have HB0 := Lib.hid hb0
  have HK0 := Lib.hid (KB.new w 0 ⟨#[]⟩)
  have HPl := Lib.hid ((h.below hb0).up hb0.size)
  have HTab := Lib.hid hT
  have h120 := ptsOk_len hp
  have hr := h.1
  have Hr1 := Lib.hid (rng_fst hr)
  have Hr2 := Lib.hid (rng_snd hr)
  obtain ⟨_, hlen, A, c, rfl, _⟩ := h
  have HtO := Lib.hid (fun W hW => timesOf_any (.slice A xs.length c) xs W hW)
  have HvO := Lib.hid (fun W hW => valuesOf_any (.slice A xs.length c) xs W hW)
  have htB : tbL (xs.map Prod.fst) = timesL (xs.map Prod.fst) := by unfold tbL; rw [if_pos (show timesOkB (xs.map Prod.fst) = true from hp)]
  have HTB := Lib.hid (fun v W hW => implTimesBits_any v (xs.map Prod.fst) W hW)
  rw [show timesOkB (xs.map Prod.fst) = true from hp] at HTB
  unfold tbS at HTB
  rw [htB] at HTB
  have HVB := Lib.hid (fun v W hW hT => implValuesBits_good v (xs.map Prod.snd) W hW (by simpa using h120) hT _ _ (Lib.hid ⟨rfl, rfl⟩))
  have hl1 : (timesL (xs.map Prod.fst)).length ≤ 46 * 120 := Nat.le_trans (timesTo_le _ _) (by simp; omega)
  have hl2 : (valTo (xs.map Prod.snd) (xs.map Prod.snd).length).1.length ≤ 77 * 120 := Nat.le_trans (valTo_ok _ _).2 (by simp; omega)
  have hLt : (xs.map Prod.fst).length = xs.length := by simp
  have hLv : (xs.map Prod.snd).length = xs.length := by simp
  have HRR := Lib.hid hR
  unfold bkL at HRR
  have n0 : ((xs.length : Int) == 0) = false := by rw [beq_eq_false_iff_ne]; omega
  have n1 : decide ((xs.length : Int) = 0) = false := decide_eq_false (by omega)
  clear htB
  generalize timesL (xs.map Prod.fst) = TL at *
  generalize (valTo (xs.map Prod.snd) (xs.map Prod.snd).length).1 = VL at *
  generalize xs.map Prod.fst = ts at *
  generalize xs.map Prod.snd = vs at *
  have HLt := Lib.hid hLt
  have HLv := Lib.hid hLv
  have HJ := Lib.hid (fun W => joined_pack TL VL W (by omega) R HRR.out)
  clear hb0 hp hr hR hLt hLv hT
  go_enter Tryz.func57, Tryz.ntmps57
  go_wp2_with fail
  refine hP.out.mono ?_
  rintro e w1 ⟨rfl, hb1⟩
  have HK1 := Lib.hid (HK0.out.below hb1 (by simp))
  have HF1 := Lib.hid (HB0.out.trans (hb1.mono HB0.out.size))
  have HP1 := Lib.hid ((HPl.out.below hb1).up hb1.size)
  have z1 : w.heap.size < w1.heap.size := Nat.lt_of_lt_of_le (by simp) hb1.size
  clear hb1
  go_wp2_with fail
  refine (HtO.out _ HP1.out).mono ?_
  rintro e w2 ⟨v2, rfl, o2, hb2⟩
  have HK2 := Lib.hid (HK1.out.below hb2 z1)
  have HF2 := Lib.hid (HF1.out.trans (hb2.mono HF1.out.size))
  have HP2 := Lib.hid ((HP1.out.below hb2).up hb2.size)
  have HI2 := Lib.hid (IL.of_own o2 rfl Hr1.out (by have := HLt.out; omega))
  have z2 : w.heap.size < w2.heap.size := Nat.lt_of_lt_of_le z1 hb2.size
  clear hb2 o2
  go_wp2_with fail
  refine (HTB.out _ _ HI2.out).mono ?_
  rintro e w3 ⟨rfl, hb3⟩
  have HK3 := Lib.hid (HK2.out.below hb3 z2)
  have HF3 := Lib.hid (HF2.out.trans (hb3.mono HF2.out.size))
  have HP3 := Lib.hid ((HP2.out.below hb3).up hb3.size)
  have z3 : w.heap.size < w3.heap.size := Nat.lt_of_lt_of_le z2 hb3.size
  clear hb3
  have ha3 : Below w3.heap.size w3 (w3.alloc (.cells #[.string ⟨(BM.pack TL).toArray⟩, .int .i64 (TL.length : Int)] 51)) := below1 w3 _
  have HKa := Lib.hid (HK3.out.below ha3 z3)
  have HFa := Lib.hid (HF3.out.trans (ha3.mono HF3.out.size))
  have HPa := Lib.hid ((HP3.out.below ha3).up ha3.size)
  have HBa := Lib.hid (gd_RB_new w3 ⟨(BM.pack TL).toArray⟩ (TL.length : Int))
  have za : w3.heap.size < (w3.alloc (.cells #[.string ⟨(BM.pack TL).toArray⟩, .int .i64 (TL.length : Int)] 51)).heap.size := by simp
  go_wp2_with fail
  clear ha3
  generalize w3.alloc (.cells #[.string ⟨(BM.pack TL).toArray⟩, .int .i64 (TL.length : Int)] 51) = wa at *
  refine (HvO.out _ HPa.out).mono ?_
  rintro e w4 ⟨v4, rfl, o4, hb4⟩
  have HK4 := Lib.hid (HKa.out.below hb4 (by omega))
  have HF4 := Lib.hid (HFa.out.trans (hb4.mono HFa.out.size))
  have HI4 := Lib.hid (IL.of_own o4 rfl Hr2.out (by have := HLv.out; omega))
  have HB4 := Lib.hid (HBa.out.below hb4)
  have z4 : w3.heap.size < w4.heap.size := Nat.lt_of_lt_of_le za hb4.size
  clear hb4 o4
  go_wp2_with fail
  refine (HVB.out _ _ HI4.out (HTab.out.below HF4.out)).mono ?_
  rintro e w5 ⟨rfl, hb5⟩
  have HK5 := Lib.hid (HK4.out.below hb5 (by omega))
  have HF5 := Lib.hid (HF4.out.trans (hb5.mono HF4.out.size))
  have HB5 := Lib.hid (HB4.out.below hb5)
  have z5 : w3.heap.size < w5.heap.size := Nat.lt_of_lt_of_le z4 hb5.size
  clear hb5
  have ha5 : Below w5.heap.size w5 (w5.alloc (.cells #[.string ⟨(BM.pack VL).toArray⟩, .int .i64 (VL.length : Int)] 51)) := below1 w5 _
  have HKb := Lib.hid (HK5.out.below ha5 (by omega))
  have HFb := Lib.hid (HF5.out.trans (ha5.mono HF5.out.size))
  have HBb := Lib.hid (HB5.out.below ha5)
  have HCb := Lib.hid (gd_RB_new w5 ⟨(BM.pack VL).toArray⟩ (VL.length : Int))
  have zb : w5.heap.size < (w5.alloc (.cells #[.string ⟨(BM.pack VL).toArray⟩, .int .i64 (VL.length : Int)] 51)).heap.size := by simp
  have p0 := HB5.out.c0
  have p1 := HB5.out.c1
  clear ha5
  go_wp2_with fail
  refine (HJ.out _).mono ?_
  rintro e w6 ⟨rfl, hb6⟩
  have hf6 := HFb.out.trans (hb6.mono HFb.out.size)
  have hK6 := HKb.out.below hb6 (by omega)
  have r0 := hK6.c0
  have r1 := hK6.c1
  have f0 := hK6.f 0
  have f1 := hK6.f 1
  have z6 : w.heap.size < w6.heap.size := by have := hb6.size; omega
  clear hb6 hK6 p0 p1
  have q0 : (((w6.setCell ⟨w.heap.size, 0, none⟩ (.int .i64 (xs.length : Int))).setCell ⟨w.heap.size, 1, none⟩ (.string ⟨R.toArray⟩)).alloc (.cells #[.string ⟨R.toArray⟩, .int .i64 ((TL.length : Int) + (VL.length : Int))] 51)).cell? ⟨w.heap.size, 0, none⟩ = some (.int .i64 (xs.length : Int)) :=
    (World.cell?_alloc_lt _ _ _ (by simpa using z6)).trans (by simp [go_sem, r0, r1])
  have q1 : (((w6.setCell ⟨w.heap.size, 0, none⟩ (.int .i64 (xs.length : Int))).setCell ⟨w.heap.size, 1, none⟩ (.string ⟨R.toArray⟩)).alloc (.cells #[.string ⟨R.toArray⟩, .int .i64 ((TL.length : Int) + (VL.length : Int))] 51)).cell? ⟨w.heap.size, 1, none⟩ = some (.string ⟨R.toArray⟩) :=
    (World.cell?_alloc_lt _ _ _ (by simpa using z6)).trans (by simp [go_sem, r0, r1])
  have hs1 : Below w.heap.size w (w6.setCell ⟨w.heap.size, 0, none⟩ (.int .i64 (xs.length : Int))) := hf6.setCell (by simp) _
  have hs2 : Below w.heap.size w ((w6.setCell ⟨w.heap.size, 0, none⟩ (.int .i64 (xs.length : Int))).setCell ⟨w.heap.size, 1, none⟩ (.string ⟨R.toArray⟩)) := hs1.setCell (by simp) _
  have HQ := Lib.hid (hs2.alloc (by simp; omega) (.cells #[.string ⟨R.toArray⟩, .int .i64 ((TL.length : Int) + (VL.length : Int))] 51))
  clear hs1 hs2
  go_wp2_with fail
  exact bodyPost_ret (v := .tuple #[.agg #[.int .i64 (xs.length : Int), .string ⟨R.toArray⟩], .bool true]) (by simp [results, Tryz.results57, go_sem, q0, q1]) rfl ⟨rfl, HQ.out⟩

theorem specBlockOf_any (v : Value) (xs : List (Int × Int)) (w : World) (h : PL w w.heap.size v xs) :
    Calls Tryz.prog 23 #[v] w (BlkPost (bkN xs) (bkD xs) (bkB xs) w) := by
  unfold bkN bkD
  cases hB : bkB xs with
  | false => rw [if_neg (by simp), if_neg (by simp)]; exact specBlockOf_bad v xs w h hB
  | true =>
    rw [if_pos rfl, if_pos rfl]
    have hb := hB
    unfold bkB at hb
    rw [Bool.and_eq_true, decide_eq_true_iff] at hb
    exact specBlockOf_good v xs w h hb.1 hb.2 _ rfl
theorem implBlockOf_any (v : Value) (xs : List (Int × Int)) (w : World) (h : PL w w.heap.size v xs) (hT : Tab w) :
    Calls Tryz.prog 57 #[v] w (BlkPost (bkN xs) (bkD xs) (bkB xs) w) := by
  unfold bkN bkD
  cases hB : bkB xs with
  | false => rw [if_neg (by simp), if_neg (by simp)]; exact implBlockOf_bad v xs w h hB
  | true =>
    rw [if_pos rfl, if_pos rfl]
    have hb := hB
    unfold bkB at hb
    rw [Bool.and_eq_true, decide_eq_true_iff] at hb
    exact implBlockOf_good v xs w h hT hb.1 hb.2 _ rfl
end Go.Proofs.YtldjeacpkndcbaaGreatDoor

/- What the code's reader gives of a code, and that what it reads is the code of what it gives. -/
set_option linter.unusedVariables false
set_option linter.unusedSimpArgs false
namespace Go.Proofs.YtldjeacpkndcbaaGreatDoor
open Go.RowKit

theorem numL_mid (A C : List Bool) (v n : Nat) (hv : v < 2 ^ n) : numL (A ++ (BM.digits v n ++ C)) A.length n = v := by
  unfold numL
  rw [← BM.ofBits_testBit v n hv]
  rw [BM.ofBits_testBit v n hv]
  refine Eq.trans (BM.ofBits_congr (g := fun i => v.testBit (n - 1 - i)) fun i hi => ?_) (BM.ofBits_testBit v n hv)
  simp only [List.getD_eq_getElem?_getD]
  rw [List.getElem?_append_right (by omega), Nat.add_sub_cancel_left, List.getElem?_append_left (by rw [BM.digits_length]; exact hi)]
  have h := BM.digits_getD v n i
  rw [if_pos hi, List.getD_eq_getElem?_getD] at h
  exact h
theorem bit_at (A C : List Bool) (b : Bool) : numL (A ++ b :: C) A.length 1 = b.toNat := by
  have h := numL_mid A C b.toNat 1 (by cases b <;> decide)
  have e : BM.digits b.toNat 1 = [b] := by cases b <;> decide
  rw [e] at h
  simpa using h
theorem onesL_zero (m : Nat) : ∀ (j i : Nat) (A C : List Bool), onesL (A ++ (List.replicate j true ++ false :: C)) (j + 1 + m) i A.length = some (i + j, A.length + j + 1) := by
  intro j
  induction j with
  | zero =>
    intro i A C
    rw [show 0 + 1 + m = m + 1 by omega, onesL, if_pos (by simp)]
    rw [List.replicate_zero, List.nil_append, bit_at A C false, if_pos (by decide)]
    simp
  | succ j ih =>
    intro i A C
    have h := ih (i + 1) (A ++ [true]) C
    rw [List.replicate_succ, List.cons_append, show j + 1 + 1 + m = (j + 1 + m) + 1 by omega, onesL, if_pos (by simp), bit_at A _ true, if_neg (by decide)]
    simp only [List.append_assoc, List.singleton_append, List.length_append, List.length_cons, List.length_nil, Nat.zero_add] at h
    rw [h]
    simp; omega
theorem onesL_all : ∀ (j i : Nat) (A C : List Bool), onesL (A ++ (List.replicate j true ++ C)) j i A.length = some (i + j, A.length + j) := by
  intro j
  induction j with
  | zero => intro i A C; rfl
  | succ j ih =>
    intro i A C
    have h := ih (i + 1) (A ++ [true]) C
    rw [List.replicate_succ, List.cons_append, onesL, if_pos (by simp), bit_at A _ true, if_neg (by decide)]
    simp only [List.append_assoc, List.singleton_append, List.length_append, List.length_cons, List.length_nil, Nat.zero_add] at h
    rw [h]
    simp; omega
theorem codeB_eq {d : Int} (hs : stepB d = true) : codeB d = codeL d := by unfold codeB; rw [hs]; rfl
theorem getL_code {d : Int} (hs : stepB d = true) (A C : List Bool) : getL (A ++ (codeL d ++ C)) A.length = some (d, A.length + (codeL d).length) := by
  have lim := stepB_iff.1 hs
  have key : ∀ (i : Nat) (pre : List Bool), codeL d = pre ++ BM.digits (u64of (d + offI i)) (bitsI i) → onesL (A ++ (codeL d ++ C)) 4 0 A.length = some (i, A.length + pre.length) → 0 ≤ d + offI i → d + offI i < (2 ^ bitsI i : Nat) → bitsI i ≤ 42 →
      getL (A ++ (codeL d ++ C)) A.length = some (d, A.length + (codeL d).length) := by
    intro i pre h hones h0 h1 hle
    have hu : u64of (d + offI i) = (d + offI i).toNat := by
      have : (2 : Nat) ^ bitsI i ≤ 2 ^ 42 := Nat.pow_le_pow_right (by omega) hle
      unfold u64of; omega
    have hn : numL (A ++ (codeL d ++ C)) (A.length + pre.length) (bitsI i) = (d + offI i).toNat := by
      have hm := numL_mid (A ++ pre) C (u64of (d + offI i)) (bitsI i) (by rw [hu]; omega)
      rw [List.length_append] at hm
      rw [h, List.append_assoc pre, ← List.append_assoc A, hm, hu]
    have hl : (codeL d).length = pre.length + bitsI i := by rw [h, List.length_append, BM.digits_length]
    have hd : ((d + offI i).toNat : Int) - offI i = d := by omega
    unfold getL
    rw [hones]
    simp only
    rw [hn, hd, codeB_eq hs, if_pos (by simp [hl]; omega), if_pos (by rw [hl]; omega), hl]
    simp; omega
  have hc : codeL d = if d = 0 then [false]
      else if -63 ≤ d ∧ d ≤ 64 then [true, false] ++ BM.digits (u64of (d + 63)) 7
      else if -255 ≤ d ∧ d ≤ 256 then [true, true, false] ++ BM.digits (u64of (d + 255)) 9
      else if -2047 ≤ d ∧ d ≤ 2048 then [true, true, true, false] ++ BM.digits (u64of (d + 2047)) 12
      else [true, true, true, true] ++ BM.digits (u64of (d + 2199023255552)) 42 := rfl
  split at hc
  · refine key 0 [false] (by rw [hc]; rfl) ?_ (by simp [offI]; omega) (by simp [offI, bitsI]; omega) (by decide)
    rw [hc]; exact (onesL_zero 3 0 0 A _).trans (by simp)
  · split at hc
    · refine key 1 [true, false] hc ?_ (by simp [offI]; omega) (by simp [offI, bitsI]; omega) (by decide)
      rw [hc]; exact (onesL_zero 2 1 0 A _).trans (by simp)
    · split at hc
      · refine key 2 [true, true, false] hc ?_ (by simp [offI]; omega) (by simp [offI, bitsI]; omega) (by decide)
        rw [hc]; exact (onesL_zero 1 2 0 A _).trans (by simp)
      · split at hc
        · refine key 3 [true, true, true, false] hc ?_ (by simp [offI]; omega) (by simp [offI, bitsI]; omega) (by decide)
          rw [hc]; exact (onesL_zero 0 3 0 A _).trans (by simp)
        · refine key 4 [true, true, true, true] hc ?_ (by simp [offI]; omega) (by simp [offI, bitsI]; omega) (by decide)
          rw [hc]; exact (onesL_all 4 0 A _).trans (by simp)

theorem numL_bit (L : List Bool) (p : Nat) (hp : p < L.length) : numL L p 1 = (L[p]'hp).toNat := by
  have e : L.getD p false = L[p] := by simp [List.getD_eq_getElem?_getD, hp]
  have h := BM.digits_ofBits (fun j => L.getD (p + j) false) 1
  unfold numL
  have hl := BM.ofBits_lt (fun j => L.getD (p + j) false) 1
  generalize hv : BM.ofBits (fun j => L.getD (p + j) false) 1 = v at *
  have hv2 : v = 0 ∨ v = 1 := by omega
  have h' : (BM.digits v 1) = [L[p]] := by rw [h]; simp [e, hp]
  rcases hv2 with rfl | rfl
  · have : [false] = [L[p]] := h'
    injection this with t
    rw [← t]; rfl
  · have : [true] = [L[p]] := h'
    injection this with t
    rw [← t]; rfl
theorem take_digits (L : List Bool) (r n : Nat) (h : r + n ≤ L.length) : (L.drop r).take n = BM.digits (numL L r n) n := by
  unfold numL
  rw [BM.digits_ofBits]
  apply List.ext_getElem?
  intro j
  by_cases hj : j < n
  · rw [List.getElem?_take, if_pos hj, List.getElem?_drop, List.getElem?_map, List.getElem?_range hj]
    simp [List.getD_eq_getElem?_getD, show r + j < L.length by omega]
  · rw [List.getElem?_take, if_neg hj, List.getElem?_eq_none (by simp; omega)]
theorem drop_cons_at (L : List Bool) (p : Nat) (hp : p < L.length) : L.drop p = L[p] :: L.drop (p + 1) := List.drop_eq_getElem_cons hp
theorem onesL_conv (L : List Bool) : ∀ (k i p j r : Nat), onesL L k i p = some (j, r) → p ≤ L.length →
    i ≤ j ∧ j ≤ i + k ∧ r ≤ L.length ∧ L.drop p = (if j = i + k then List.replicate k true else List.replicate (j - i) true ++ [false]) ++ L.drop r ∧ r = p + (if j = i + k then k else j - i + 1) := by
  intro k
  induction k with
  | zero =>
    intro i p j r h hp
    simp only [onesL, Option.some.injEq, Prod.mk.injEq] at h
    obtain ⟨rfl, rfl⟩ := h
    simp [hp]
  | succ k ih =>
    intro i p j r h hp
    rw [onesL] at h
    split at h
    · rename_i hlt
      have hp' : p < L.length := by omega
      rw [numL_bit L p hp'] at h
      have hd := drop_cons_at L p hp'
      generalize L[p] = b at *
      cases b with
      | false =>
        rw [if_pos (by decide)] at h
        simp only [Option.some.injEq, Prod.mk.injEq] at h
        obtain ⟨rfl, rfl⟩ := h
        have hne : ¬ i = i + (k + 1) := by omega
        rw [if_neg hne, if_neg hne]
        exact ⟨Nat.le_refl _, by omega, by omega, by rw [hd]; simp, by omega⟩
      | true =>
        rw [if_neg (by decide)] at h
        obtain ⟨h1, h2, h3, h4, h5⟩ := ih (i + 1) (p + 1) j r h (by omega)
        refine ⟨by omega, by omega, h3, ?_, ?_⟩
        · rw [hd, h4]
          by_cases e : j = i + 1 + k
          · rw [if_pos e, if_pos (by omega)]; rfl
          · rw [if_neg e, if_neg (by omega), show j - i = (j - (i + 1)) + 1 by omega, List.replicate_succ]; rfl
        · by_cases e : j = i + 1 + k
          · rw [if_pos e] at h5; rw [if_pos (by omega)]; omega
          · rw [if_neg e] at h5; rw [if_neg (by omega)]; omega
    · cases h
theorem getL_conv {L : List Bool} {p q : Nat} {d : Int} (h : getL L p = some (d, q)) (hp : p ≤ L.length) :
    stepB d = true ∧ (L.drop p).take (q - p) = codeL d ∧ q = p + (codeL d).length ∧ q ≤ L.length := by
  unfold getL at h
  split at h
  · cases h
  · rename_i i r ho
    obtain ⟨_, hi, hr, hd, hrp⟩ := onesL_conv L 4 0 p i r ho hp
    split at h
    · rename_i hle
      split at h
      · rename_i hlen
        simp only [Option.some.injEq, Prod.mk.injEq] at h
        obtain ⟨rfl, rfl⟩ := h
        have ht := take_digits L r (bitsI i) hle
        have hv : numL L r (bitsI i) < 2 ^ bitsI i := BM.ofBits_lt _ _
        generalize numL L r (bitsI i) = V at *
        have hpos : (codeB ((V : Int) - offI i)).length ≠ 0 := by
          rw [hlen]
          split at hrp <;> omega
        have hst : stepB ((V : Int) - offI i) = true := by
          unfold codeB at hpos
          cases hs : stepB ((V : Int) - offI i) with
          | true => rfl
          | false => rw [hs] at hpos; simp at hpos
        have hcb : codeB ((V : Int) - offI i) = codeL ((V : Int) - offI i) := by unfold codeB; rw [hst]; rfl
        rw [hcb] at hlen
        have hcode : codeL ((V : Int) - offI i) = (if i = 0 + 4 then List.replicate 4 true else List.replicate (i - 0) true ++ [false]) ++ BM.digits V (bitsI i) := by
          have hi5 : i = 0 ∨ i = 1 ∨ i = 2 ∨ i = 3 ∨ i = 4 := by omega
          clear ht hd hcb hst hpos hle ho hr
          rcases hi5 with rfl | rfl | rfl | rfl | rfl
          all_goals
            simp only [bitsI, offI] at *
            simp at hrp
            unfold codeL at hlen ⊢
            split at hlen
            all_goals try split at hlen
            all_goals try split at hlen
            all_goals try split at hlen
            all_goals simp [BM.digits_length] at hlen
            all_goals first
              | (exfalso; omega)
              | skip
          · rw [if_pos (by assumption)]; rfl
          · rw [if_neg (by assumption), if_pos (by assumption), show u64of ((V : Int) - 63 + 63) = V by unfold u64of; omega]; rfl
          · rw [if_neg (by assumption), if_neg (by assumption), if_pos (by assumption), show u64of ((V : Int) - 255 + 255) = V by unfold u64of; omega]; rfl
          · rw [if_neg (by assumption), if_neg (by assumption), if_neg (by assumption), if_pos (by assumption), show u64of ((V : Int) - 2047 + 2047) = V by unfold u64of; omega]; rfl
          · rw [if_neg (by assumption), if_neg (by assumption), if_neg (by assumption), if_neg (by assumption), show u64of ((V : Int) - 2199023255552 + 2199023255552) = V by unfold u64of; omega]; rfl
        refine ⟨hst, ?_, ?_, hle⟩
        · rw [hcode, hd]
          have hpl : (if i = 0 + 4 then List.replicate 4 true else List.replicate (i - 0) true ++ [false]).length = r - p := by
            split at hrp
            · rename_i e; rw [if_pos e]; simp; omega
            · rename_i e; rw [if_neg e]; simp; omega
          have hrp' : p ≤ r := by split at hrp <;> omega
          generalize (if i = 0 + 4 then List.replicate 4 true else List.replicate (i - 0) true ++ [false]) = pre at *
          rw [show r + bitsI i - p = pre.length + bitsI i by omega, List.take_length_add_append, ht]
        · rw [hlen]; split at hrp <;> omega
      · cases h
    · cases h
end Go.Proofs.YtldjeacpkndcbaaGreatDoor

/- Round trips: what the times' reader gives of a list's bits. -/
set_option linter.unusedVariables false
set_option linter.unusedSimpArgs false
namespace Go.Proofs.YtldjeacpkndcbaaGreatDoor
open Go.RowKit

theorem timesTo_split (xs : List Int) {k n : Nat} (hk : k ≤ n) : ∃ R, timesTo xs n = timesTo xs k ++ R := by
  induction n with
  | zero => obtain rfl : k = 0 := by omega
            exact ⟨[], by simp⟩
  | succ n ih =>
    by_cases e : k = n + 1
    · subst e; exact ⟨[], by simp⟩
    · obtain ⟨R, hR⟩ := ih (by omega)
      exact ⟨R ++ timesPart xs n, by rw [timesTo, hR, List.append_assoc]⟩
theorem q_stepAt_take {xs : List Int} {n k : Nat} (hk : k < n) : stepAt (xs.take n) k = stepAt xs k := by
  unfold stepAt
  split
  · rfl
  · simp only [List.getD_eq_getElem?_getD, List.getElem?_take]
    rw [if_pos hk, if_pos (by omega)]
theorem q_take_succ (xs : List Int) (k : Nat) (hk : k < xs.length) : xs.take (k + 1) = xs.take k ++ [xs.getD k 0] := by
  rw [List.take_add_one, List.getD_eq_getElem?_getD]
  congr 1
  rw [List.getElem?_eq_getElem hk]; rfl
theorem good_rng {xs : List Int} (h : goodTo xs xs.length = true) {k : Nat} (hk : k < xs.length) : 0 ≤ xs.getD k 0 ∧ xs.getD k 0 ≤ 1000000000000 ∧ (k = 0 ∨ xs.getD (k - 1) 0 < xs.getD k 0) := by
  have hg := goodTo_at h hk
  unfold goodAt at hg
  simp only [Bool.and_eq_true, Bool.or_eq_true, decide_eq_true_eq] at hg
  exact ⟨hg.1.1, hg.1.2, hg.2⟩
theorem good_diff {xs : List Int} (h : goodTo xs xs.length = true) {k : Nat} (hk : k < xs.length) : stepB (stepAt xs k - stepAt xs (k - 1)) = true := by
  have g0 := good_rng h hk
  rw [stepB_iff]
  unfold stepAt
  by_cases e0 : k = 0
  · subst e0; simp
  · have g1 := good_rng h (show k - 1 < xs.length by omega)
    by_cases e1 : k - 1 = 0
    · rw [if_neg e0, if_pos e1]; omega
    · have g2 := good_rng h (show k - 1 - 1 < xs.length by omega)
      rw [if_neg e0, if_neg e1]; omega
theorem timesG_back {xs : List Int} (h : goodTo xs xs.length = true) (A C : List Bool) : ∀ k, k ≤ xs.length →
    timesG (fL (A ++ (timesTo xs xs.length ++ C))) (getL (A ++ (timesTo xs xs.length ++ C))) k A.length = some (xs.take k, A.length + (timesTo xs k).length) := by
  intro k
  induction k with
  | zero => intro _; simp [timesG, timesTo]
  | succ k ih =>
    intro hk
    rw [timesG_step (ih (by omega))]
    obtain ⟨R, hR⟩ := timesTo_split xs (show k + 1 ≤ xs.length from hk)
    have hL : A ++ (timesTo xs xs.length ++ C) = (A ++ timesTo xs k) ++ (timesPart xs k ++ (R ++ C)) := by
      rw [hR, timesTo]; simp only [List.append_assoc]
    have hlen : A.length + (timesTo xs k).length = (A ++ timesTo xs k).length := by simp
    have g0 := good_rng h (show k < xs.length by omega)
    have hl1 : A.length + (timesTo xs (k + 1)).length = (A ++ timesTo xs k).length + (timesPart xs k).length := by rw [timesTo]; simp; omega
    rw [hL, hlen, hl1, q_take_succ xs k (by omega)]
    by_cases e : k = 0
    · subst e
      have hu : u64of (xs.getD 0 0) = (xs.getD 0 0).toNat := by unfold u64of; omega
      have hp : timesPart xs 0 = BM.digits (u64of (xs.getD 0 0)) 40 := rfl
      rw [if_pos rfl, hp]
      have hf : fL ((A ++ timesTo xs 0) ++ (BM.digits (u64of (xs.getD 0 0)) 40 ++ (R ++ C))) (A ++ timesTo xs 0).length = some (xs.getD 0 0, (A ++ timesTo xs 0).length + 40) := by
        unfold fL
        rw [numL_mid _ _ _ 40 (by rw [hu]; omega), hu, if_pos (by simp [BM.digits_length]; omega)]
        congr 2
        omega
      rw [hf]
      simp [BM.digits_length]
    · have hst := good_diff h (show k < xs.length by omega)
      have hp : timesPart xs k = codeL (stepAt xs k - stepAt xs (k - 1)) := by
        unfold timesPart; rw [if_neg e, codeB_eq hst]
      rw [if_neg e, hp, getL_code hst]
      simp only [if_neg e]
      have ht : (xs.take k).getD (k - 1) 0 = xs.getD (k - 1) 0 := by
        simp only [List.getD_eq_getElem?_getD, List.getElem?_take]
        rw [if_pos (by omega)]
      rw [ht, q_stepAt_take (by omega)]
      have hs : stepAt xs k = xs.getD k 0 - xs.getD (k - 1) 0 := by unfold stepAt; rw [if_neg e]
      rw [show xs.getD (k - 1) 0 + (stepAt xs (k - 1) + (stepAt xs k - stepAt xs (k - 1))) = xs.getD k 0 by rw [hs]; omega]
/-- the bits of a list of times, wherever they begin, give the list -/
theorem timesB_back {xs : List Int} (h : timesOkB xs = true) (A C : List Bool) : timesB (A ++ (timesL xs ++ C)) xs.length A.length = some (xs, A.length + (timesL xs).length) := by
  have hg : goodTo xs xs.length = true := by unfold timesOkB at h; rw [Bool.and_eq_true] at h; exact h.2
  unfold timesB timesL
  rw [timesG_back hg A C xs.length (Nat.le_refl _), List.take_length]
  simp only [timesFin]
  rw [if_pos h]
end Go.Proofs.YtldjeacpkndcbaaGreatDoor

/- Round trips: the points of a block. -/
set_option linter.unusedVariables false
set_option linter.unusedSimpArgs false
namespace Go.Proofs.YtldjeacpkndcbaaGreatDoor
open Go.RowKit

theorem listOf_more (d : List UInt8) {n m : Nat} (h : n ≤ m) : ∃ Z, BM.listOf d m = BM.listOf d n ++ Z := by
  have e : (BM.listOf d m).take n = BM.listOf d n := by
    unfold BM.listOf
    rw [← List.map_take, List.take_range, Nat.min_eq_left h]
  exact ⟨(BM.listOf d m).drop n, by rw [← e, List.take_append_drop]⟩
/-- all bits of the bytes s -/
def allL (s : ByteArray) : List Bool := BM.listOf s.data.toList (8 * s.size)
theorem allL_len (s : ByteArray) : (allL s).length = 8 * s.size := BM.listOf_length _ _
theorem ba_len (s : ByteArray) : s.data.toList.length = s.size := by rw [Array.length_toList]; rfl
theorem allL_ok {s : ByteArray} (h : s.size ≤ 2500) : okB s ((8 * s.size : Nat) : Int) = true := by
  unfold okB
  apply decide_eq_true
  refine ⟨by omega, by omega, by omega, ?_⟩
  rw [Int.toNat_natCast]
  exact BM.okFull (by rw [ba_len]; unfold BM.bytesOf; omega) (by omega)
theorem bk_ok {xs : List (Int × Int)} (h : bkB xs = true) : ptsOkB xs = true ∧ 0 < xs.length := by
  unfold bkB at h; rw [Bool.and_eq_true, decide_eq_true_iff] at h; exact h
theorem bkL_len {xs : List (Int × Int)} (h : bkB xs = true) : (bkL xs).length ≤ 14760 := by
  have h120 : xs.length ≤ 120 := ptsOk_len (bk_ok h).1
  have hl1 : (timesL (xs.map Prod.fst)).length ≤ 46 * 120 := Nat.le_trans (timesTo_le _ _) (by simp; omega)
  have hl2 : (valTo (xs.map Prod.snd) (xs.map Prod.snd).length).1.length ≤ 77 * 120 := Nat.le_trans (valTo_ok _ _).2 (by simp; omega)
  unfold bkL
  rw [List.length_append]; omega
theorem bkD_size (xs : List (Int × Int)) : (bkD xs).size ≤ 1846 := by
  unfold bkD
  split
  · rename_i h
    have := bkL_len h
    rw [gd_pack_size]; omega
  · show (0 : Nat) ≤ 1846; omega
theorem bkN_rng (xs : List (Int × Int)) (h : xs.length ≤ 1048576) : Rng (bkN xs) := by
  unfold bkN Rng; split <;> omega
theorem blk_bits {xs : List (Int × Int)} {s : ByteArray} (hB : bkB xs = true) (hD : bkD xs = s) : ∃ Z, allL s = bkL xs ++ Z := by
  unfold bkD at hD; rw [if_pos hB] at hD
  subst hD
  have hs := gd_pack_size (bkL xs)
  obtain ⟨Z, hZ⟩ := listOf_more (ByteArray.mk (BM.pack (bkL xs)).toArray).data.toList (n := (bkL xs).length) (m := 8 * (ByteArray.mk (BM.pack (bkL xs)).toArray).size) (by rw [hs]; omega)
  refine ⟨Z, ?_⟩
  unfold allL
  rw [hZ, gd_pack_list, BM.listOf_pack]
/-- the points xs, if the block (s, n) is theirs -/
def ptsZ (s : ByteArray) (n : Int) (xs : List (Int × Int)) : Option (List (Int × Int)) :=
  if bkN xs = n ∧ bkD xs = s then some xs else none
def ptsL (L : List Bool) (s : ByteArray) (n : Nat) : Option (List (Int × Int)) := match timesB L n 0 with
  | none => none
  | some (ts, q) => match valG L n q with
    | none => none
    | some (vs, _, _, _) => ptsZ s (n : Int) (ts.zip vs)
/-- what PointsOf returns -/
def ptsB (s : ByteArray) (n : Int) : Option (List (Int × Int)) :=
  if (1 ≤ n ∧ n ≤ 120) ∧ s.size ≤ 2500 then ptsL (allL s) s n.toNat else none
/-- the same with the program's reader of values, which compares by itself -/
def ptsI (L : List Bool) (s : ByteArray) (n : Nat) : Option (List (Int × Int)) := match timesB L n 0 with
  | none => none
  | some (ts, q) => match valsB L n q with
    | none => none
    | some (vs, _) => ptsZ s (n : Int) (ts.zip vs)
theorem ptsZ_some {s : ByteArray} {n : Int} {xs ys : List (Int × Int)} (h : ptsZ s n xs = some ys) : xs = ys ∧ bkN xs = n ∧ bkD xs = s := by
  unfold ptsZ at h
  split at h
  · rename_i hc; exact ⟨Option.some.inj h, hc.1, hc.2⟩
  · cases h
theorem bkN_pos {xs : List (Int × Int)} {n : Int} (h : bkN xs = n) (hn : 1 ≤ n) : bkB xs = true ∧ (xs.length : Int) = n := by
  unfold bkN at h
  split at h
  · rename_i hb; exact ⟨hb, h⟩
  · omega
theorem goodTs {xs : List (Int × Int)} (h : ptsOkB xs = true) : timesOkB (xs.map Prod.fst) = true := h
theorem timesB_len {L : List Bool} {n p q : Nat} {ts : List Int} (hp : p ≤ L.length) (hn : n ≤ 120) (h : timesB L n p = some (ts, q)) : TG ts n p q L.length := by
  unfold timesB timesFin at h
  cases h0 : timesG (fL L) (getL L) n p with
  | none => rw [h0] at h; cases h
  | some a =>
    obtain ⟨xs, m⟩ := a
    rw [h0] at h
    simp only at h
    split at h
    · simp only [Option.some.injEq, Prod.mk.injEq] at h
      obtain ⟨rfl, rfl⟩ := h
      exact timesG_ok (rdOk_L L) hp n xs m hn h0
    · cases h
theorem valG_ok {L : List Bool} {n p q l t : Nat} {vs : List Int} (hp : p ≤ L.length) (h : valG L n p = some (vs, q, l, t)) : vs.length = n ∧ (∀ j, Rng (vs.getD j 0)) ∧ p ≤ q ∧ q ≤ L.length := by
  have T := valI_ok hp n vs q _ _ (valI_of n vs q l t h).1
  exact ⟨T.len, T.rng, T.pq, T.qN⟩
theorem zip_fst (ts vs : List Int) (h : ts.length = vs.length) : (ts.zip vs).map Prod.fst = ts := by
  induction ts generalizing vs with
  | nil => cases vs <;> simp_all
  | cons t ts ih => cases vs with
    | nil => simp at h
    | cons v vs => simp at h; simp [ih vs h]
theorem zip_snd (ts vs : List Int) (h : ts.length = vs.length) : (ts.zip vs).map Prod.snd = vs := by
  induction ts generalizing vs with
  | nil => cases vs <;> simp_all
  | cons t ts ih => cases vs with
    | nil => simp at h
    | cons v vs => simp at h; simp [ih vs h]
theorem zip_maps (xs : List (Int × Int)) : (xs.map Prod.fst).zip (xs.map Prod.snd) = xs := by
  induction xs with
  | nil => rfl
  | cons x xs ih => simp [ih]
/-- the bits of a block give its times, and its values behind them -/
theorem blk_back {xs : List (Int × Int)} {Z : List Bool} (hp : ptsOkB xs = true) (hr : ∀ j, Rng ((xs.map Prod.snd).getD j 0)) :
    timesB (bkL xs ++ Z) xs.length 0 = some (xs.map Prod.fst, (timesL (xs.map Prod.fst)).length) ∧
    (∃ l t, valG (bkL xs ++ Z) xs.length (timesL (xs.map Prod.fst)).length = some (xs.map Prod.snd, (bkL xs).length, l, t)) ∧
    valsB (bkL xs ++ Z) xs.length (timesL (xs.map Prod.fst)).length = some (xs.map Prod.snd, (bkL xs).length) := by
  have h1 := timesB_back (goodTs hp) [] ((valTo (xs.map Prod.snd) (xs.map Prod.snd).length).1 ++ Z)
  rw [List.nil_append, List.length_nil, Nat.zero_add, List.length_map, ← List.append_assoc] at h1
  have h2 := valG_back hr (timesL (xs.map Prod.fst)) Z (xs.map Prod.snd).length (Nat.le_refl _)
  rw [← List.append_assoc, List.take_length] at h2
  have e : timesL (xs.map Prod.fst) ++ (valTo (xs.map Prod.snd) (xs.map Prod.snd).length).1 = bkL xs := rfl
  have el : (timesL (xs.map Prod.fst)).length + (valTo (xs.map Prod.snd) (xs.map Prod.snd).length).1.length = (bkL xs).length := by rw [← e, List.length_append]
  rw [List.length_map] at e
  rw [List.length_map] at h1 h2 el
  rw [e] at h1 h2
  rw [el] at h2
  refine ⟨h1, ⟨_, _, h2⟩, ?_⟩
  unfold valsB
  rw [h2]
  unfold fitB
  simp only
  rw [if_pos]
  rw [List.length_map, ← el, Nat.add_sub_cancel_left, ← e, List.append_assoc, List.drop_left, List.take_left]
theorem ptsZ_back {xs : List (Int × Int)} {s : ByteArray} {n : Int} (hn : bkN xs = n) (hD : bkD xs = s) : ptsZ s n xs = some xs := by
  unfold ptsZ; rw [if_pos ⟨hn, hD⟩]
/-- a block gives its points -/
theorem ptsB_back {xs : List (Int × Int)} {s : ByteArray} {n : Int} (hr : ∀ j, Rng (xs.getD j (0, 0)).1 ∧ Rng (xs.getD j (0, 0)).2) (hB : bkB xs = true) (hn : bkN xs = n) (hD : bkD xs = s) : ptsB s n = some xs := by
  obtain ⟨hp, h0⟩ := bk_ok hB
  have h120 := ptsOk_len hp
  have hl : (xs.length : Int) = n := by unfold bkN at hn; rw [if_pos hB] at hn; exact hn
  obtain ⟨Z, hZ⟩ := blk_bits hB hD
  obtain ⟨b1, ⟨l, t, b2⟩, _⟩ := blk_back (Z := Z) hp (rng_snd hr)
  unfold ptsB
  have hs := bkD_size xs
  rw [hD] at hs
  rw [if_pos ⟨⟨by omega, by omega⟩, by omega⟩, hZ]
  have e : n.toNat = xs.length := by omega
  unfold ptsL
  rw [e, b1]
  simp only
  rw [b2]
  simp only
  rw [zip_maps, hl]
  exact ptsZ_back hn hD
/-- both readers agree -/
theorem ptsI_eq {s : ByteArray} {n : Nat} (hn : 1 ≤ n) (h120 : n ≤ 120) : ptsI (allL s) s n = ptsL (allL s) s n := by
  unfold ptsI ptsL
  cases ht : timesB (allL s) n 0 with
  | none => rfl
  | some a =>
    obtain ⟨ts, q⟩ := a
    have T := timesB_len (by omega) h120 ht
    simp only
    cases hv : valG (allL s) n q with
    | none =>
      unfold valsB
      rw [hv]
      rfl
    | some b =>
      obtain ⟨vs, q2, l, t⟩ := b
      obtain ⟨hvl, hvr, _, _⟩ := valG_ok T.qN hv
      simp only
      have hzl : ts.length = vs.length := by rw [T.len, hvl]
      cases hz : ptsZ s (n : Int) (ts.zip vs) with
      | none =>
        cases hb : valsB (allL s) n q with
        | none => rfl
        | some c =>
          obtain ⟨us, q3⟩ := c
          unfold valsB fitB at hb
          rw [hv] at hb
          simp only at hb
          split at hb
          · simp only [Option.some.injEq, Prod.mk.injEq] at hb
            obtain ⟨rfl, rfl⟩ := hb
            exact hz
          · cases hb
      | some xs =>
        obtain ⟨rfl, hN, hD⟩ := ptsZ_some hz
        obtain ⟨hB, hlen⟩ := bkN_pos hN (by omega)
        obtain ⟨hp, h0⟩ := bk_ok hB
        obtain ⟨Z, hZ⟩ := blk_bits hB hD
        obtain ⟨b1, ⟨l2, t2, b2⟩, b3⟩ := blk_back (xs := ts.zip vs) (Z := Z) hp (by rw [zip_snd ts vs hzl]; exact hvr)
        have hnl : (ts.zip vs).length = n := by omega
        rw [hnl, ← hZ, zip_fst ts vs hzl] at b1
        rw [ht] at b1
        simp only [Option.some.injEq, Prod.mk.injEq, true_and] at b1
        rw [hnl, ← hZ, zip_fst ts vs hzl, ← b1, zip_snd ts vs hzl] at b3
        rw [b3]
        exact hz
theorem ptsB_some {s : ByteArray} {n : Int} {xs : List (Int × Int)} (h : ptsB s n = some xs) :
    bkB xs = true ∧ bkN xs = n ∧ bkD xs = s ∧ (xs.length : Int) = n ∧ xs.length ≤ 120 ∧ (∀ j, Rng (xs.getD j (0, 0)).1 ∧ Rng (xs.getD j (0, 0)).2) := by
  unfold ptsB at h
  split at h
  · rename_i hc
    unfold ptsL at h
    cases ht : timesB (allL s) n.toNat 0 with
    | none => rw [ht] at h; cases h
    | some a =>
      obtain ⟨ts, q⟩ := a
      have T := timesB_len (by omega) (by omega) ht
      rw [ht] at h
      simp only at h
      cases hv : valG (allL s) n.toNat q with
      | none => rw [hv] at h; cases h
      | some b =>
        obtain ⟨vs, q2, l, t⟩ := b
        obtain ⟨hvl, hvr, _, _⟩ := valG_ok T.qN hv
        rw [hv] at h
        simp only at h
        have hzl : ts.length = vs.length := by rw [T.len, hvl]
        have e : ((n.toNat : Nat) : Int) = n := by omega
        rw [e] at h
        obtain ⟨rfl, hN, hD⟩ := ptsZ_some h
        obtain ⟨hB, hlen⟩ := bkN_pos hN (by omega)
        refine ⟨hB, hN, hD, hlen, by omega, fun j => ⟨?_, ?_⟩⟩
        · rw [← tsOf_getD, zip_fst ts vs hzl]; exact T.rng j
        · rw [← vsOf_getD, zip_snd ts vs hzl]; exact hvr j
  · cases h
end Go.Proofs.YtldjeacpkndcbaaGreatDoor
