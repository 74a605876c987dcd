/- Walks: the program's check of rolls. -/
import Derived.Test.YtcjpedolmnahfaaYb
import Derived.Test.YtcjpedolmnahfaaOa
import Derived.RangeFuncBox
import Derived.RangeFuncLeaves
import Derived.RangeFuncNested
import Derived.Shelf.Abstract
import Derived.OwnWalkIn
import Derived.TacticsInMore
import Derived.LoopNIn
import Derived.LoopIn
set_option linter.unusedVariables false
set_option linter.unusedSimpArgs false
namespace Go.Proofs.Ytcjpedolmnahfaa
open Go.RowKit

set_option maxRecDepth 100000 in
set_option maxHeartbeats 4000000 in
theorem implRollsOk_any (v : Value) (xs : List R6) (W : Int) (w : World) (h : RL w w.heap.size v xs) :
    Calls Try.prog 78 #[v, .int .i64 W] w (BoolPost (rollsOkB xs W) w) := by
  obtain ⟨hr, hlen, A, c, rfl, h3⟩ := h
  clear hr
  have HW := Lib.hid (fun w => widthOk_any W w)
  by_cases hw : 1 ≤ W ∧ W ≤ 1000000
  case neg =>
    have E := Lib.hid (show rollsOkB xs W = false from by unfold rollsOkB wdB; rw [vIn_false hw]; simp)
    rw [show wdB W = false from vIn_false hw] at HW
    clear hw
    go_enter Try.func78, Try.ntmps78
    go_wp2_with (go_at_call 68; refine (HW.out _).mono ?_; rintro e w' ⟨rfl, rfl⟩)
    go_ret
    exact ⟨by rw [E.out]; rfl, Below.refl _ _⟩
  rw [show wdB W = true from vIn_true hw.1 hw.2] at HW
  by_cases h400 : xs.length ≤ 400
  case neg =>
    have E := Lib.hid (show rollsOkB xs W = false from by unfold rollsOkB; rw [decide_eq_false h400]; simp)
    have hd : decide (400 < xs.length) = true := by simp; omega
    go_enter Try.func78, Try.ntmps78
    go_wp2_with (go_at_call 68; refine (HW.out _).mono ?_; rintro e w' ⟨rfl, rfl⟩)
    go_ret
    exact ⟨by rw [E.out]; rfl, Below.refl _ _⟩
  have hd : decide (400 < xs.length) = false := by simp; omega
  have EE := Lib.hid (show gdToR xs W xs.length = true → rollsOkB xs W = true from fun h => by unfold rollsOkB wdB; rw [vIn_true hw.1 hw.2, decide_eq_true h400, h]; rfl)
  have hw0 : ¬ W = 0 := by omega
  have hwz : (W == 0) = false := by simpa using hw0
  obtain ⟨hw1, hw2⟩ := hw
  have HV := Lib.hid (fun t c s mn mx la W => valuesOk_any t c s mn mx la W)
  go_enter Try.func78, Try.ntmps78
  go_wp2_with (go_at_call 68; refine (HW.out _).mono ?_; rintro e w' ⟨rfl, rfl⟩)
  go_loopw [5, 18] (fun p i wr => ∃ (k : Nat) (y : Int), k ≤ xs.length ∧ i = .int .i64 k ∧ p = .int .i64 y ∧ -1 ≤ y ∧ Hid (y = if k = 0 then -1 else (xs.getD (k - 1) z6).1) ∧ gdToR xs W k = true ∧ Below w.heap.size w wr) (fun _ i _ => xs.length - (intOf i).toNat)
  case atStart => exact ⟨0, -1, Nat.zero_le _, rfl, rfl, by omega, rfl, rfl, Below.refl _ _⟩
  case round =>
    obtain ⟨k, y, hk, rfl, rfl, hy1, HY, hg, hb⟩ := hrel
    have Hg := Lib.hid hg
    clear hg
    have hsz := hb.size
    by_cases hlt : k < xs.length
    · rcases h3 with h3 | ⟨b, off, rfl, hbl, hc⟩
      · subst h3; simp at hlt
      have hx0 : wr.cell? ⟨b, off + k * 6, none⟩ = some (.int .i64 (xs.getD k z6).1) := (hb.cell (p := ⟨b, off + k * 6, none⟩) hbl).trans (hc k hlt).1
      have hx1 : wr.cell? ⟨b, off + k * 6 + 1, none⟩ = some (.int .i64 (xs.getD k z6).2.1) := (hb.cell (p := ⟨b, off + k * 6 + 1, none⟩) hbl).trans (hc k hlt).2.1
      have hx2 : wr.cell? ⟨b, off + k * 6 + 2, none⟩ = some (.int .i64 (xs.getD k z6).2.2.1) := (hb.cell (p := ⟨b, off + k * 6 + 2, none⟩) hbl).trans (hc k hlt).2.2.1
      have hx3 : wr.cell? ⟨b, off + k * 6 + 3, none⟩ = some (.int .i64 (xs.getD k z6).2.2.2.1) := (hb.cell (p := ⟨b, off + k * 6 + 3, none⟩) hbl).trans (hc k hlt).2.2.2.1
      have hx4 : wr.cell? ⟨b, off + k * 6 + 4, none⟩ = some (.int .i64 (xs.getD k z6).2.2.2.2.1) := (hb.cell (p := ⟨b, off + k * 6 + 4, none⟩) hbl).trans (hc k hlt).2.2.2.2.1
      have hx5 : wr.cell? ⟨b, off + k * 6 + 5, none⟩ = some (.int .i64 (xs.getD k z6).2.2.2.2.2) := (hb.cell (p := ⟨b, off + k * 6 + 5, none⟩) hbl).trans (hc k hlt).2.2.2.2.2
      have G1 := Lib.hid (fun h => rollsOkB_bad (gdR_badT (l := xs) (W := W) (k := k) h) hlt)
      have G2 := Lib.hid (fun h => rollsOkB_bad (gdR_badM (l := xs) (W := W) (k := k) h) hlt)
      have G3 := Lib.hid (fun hk h => rollsOkB_bad (gdR_badL (l := xs) (W := W) (k := k) hk h) hlt)
      have G4 := Lib.hid (fun h => rollsOkB_bad (gdR_badV (l := xs) (W := W) (k := k) h) hlt)
      have G5 := Lib.hid (gdR_ok (l := xs) (W := W) (k := k))
      have HT := Lib.hid (rfl : (xs.getD k z6).1 = (xs.getD k z6).1)
      obtain ⟨t, ht⟩ : ∃ t, t = (xs.getD k z6).1 := ⟨_, rfl⟩
      rw [← ht] at hx0 G1 G2 G3 G5
      have Ht := Lib.hid ht
      clear ht hc HT
      generalize (xs.getD k z6).2.1 = c at *
      generalize (xs.getD k z6).2.2.1 = s at *
      generalize (xs.getD k z6).2.2.2.1 = mn at *
      generalize (xs.getD k z6).2.2.2.2.1 = mx at *
      generalize (xs.getD k z6).2.2.2.2.2 = la at *
      by_cases c1 : t ≤ y
      · have E := Lib.hid (show rollsOkB xs W = false from by
          have hy := HY.out
          by_cases hk0 : k = 0
          · rw [if_pos hk0] at hy; exact G1.out (by omega)
          · rw [if_neg hk0] at hy; exact G3.out hk0 (by omega))
        go_wp2_with fail
        go_ret
        exact ⟨by rw [E.out]; rfl, by
          first | exact hb | exact hb.alloc hsz _⟩
      by_cases c2 : 1000000000000 < t
      · have E := Lib.hid (G1.out (by omega))
        have c1' : decide (t ≤ y) = false := decide_eq_false c1
        have c2' : decide (1000000000000 < t) = true := decide_eq_true c2
        go_wp2_with fail
        go_ret
        exact ⟨by rw [E.out]; rfl, by
          first | exact hb | exact hb.alloc hsz _⟩
      have c1' : decide (t ≤ y) = false := decide_eq_false c1
      have c2' : decide (1000000000000 < t) = false := decide_eq_false c2
      by_cases c3 : t % W = 0
      case neg =>
        have E := Lib.hid (G2.out c3)
        have c3' : (t % W != 0) = true := by simpa using c3
        have c3'' : decide (t % W = 0) = false := decide_eq_false c3
        go_wp2_with fail
        go_ret
        exact ⟨by rw [E.out]; rfl, by
          first | exact hb | exact hb.alloc hsz _⟩
      have HVk := Lib.hid (fun w => HV.out t c s mn mx la w)
      cases hV : okVB c s mn mx la with
      | false =>
        have E := Lib.hid (G4.out hV)
        rw [hV] at HVk
        clear hV
        go_wp2_with fail
        refine (HVk.out _).mono ?_
        rintro e w5 ⟨rfl, hb5⟩
        have hb6 := (hb.alloc hsz _).trans (hb5.mono (by simp; omega))
        clear hb5
        go_wp2_with fail
        go_ret
        exact ⟨by rw [E.out]; rfl, hb6⟩
      | true =>
        have G := Lib.hid (show gdToR xs W (k + 1) = true from by
          rw [gdToR_succ, Hg.out]
          have hy := HY.out
          refine G5.out ?_ c3 hV ?_
          · by_cases hk0 : k = 0
            · rw [if_pos hk0] at hy; omega
            · rw [if_neg hk0] at hy; omega
          · by_cases hk0 : k = 0
            · exact .inl hk0
            · rw [if_neg hk0] at hy; right; omega)
        rw [hV] at HVk
        clear hV
        go_wp2_with fail
        refine (HVk.out _).mono ?_
        rintro e w5 ⟨rfl, hb5⟩
        have hx5 : w5.cell? ⟨wr.heap.size, 0, none⟩ = some (.int .i64 t) := (hb5.cell (p := ⟨wr.heap.size, 0, none⟩) (by simp)).trans (by go_simp)
        have hb6 := Lib.hid ((hb.alloc hsz _).trans (hb5.mono (by simp; omega)))
        clear hb5
        go_wp2_with fail
        go_roundw
        case rel => exact ⟨k + 1, t, by omega, by go_num, rfl, by omega, (show t = if k + 1 = 0 then -1 else (xs.getD (k + 1 - 1) z6).1 from by rw [if_neg (by omega)]; exact Ht.out), G.out, hb6.out⟩
        case measure => simp [intOf]; omega
    · obtain rfl : k = xs.length := by omega
      go_wp2_with fail
      go_ret
      exact ⟨by rw [EE.out Hg.out]; rfl, hb⟩

end Go.Proofs.Ytcjpedolmnahfaa

/- Walks: cascades: the program's checks. -/
set_option linter.unusedVariables false
set_option linter.unusedSimpArgs false
namespace Go.Proofs.Ytcjpedolmnahfaa
open Go.RowKit

set_option maxRecDepth 100000 in
set_option maxHeartbeats 400000 in
theorem recent_any (e n k : Int) (w : World) (h : IntKind.i64.wrap (n - k) = n - k) : Calls Try.prog 81 #[.int .i64 e, .int .i64 n, .int .i64 k] w fun x w' => x = .returned (.bool (decide (n - k < e))) ∧ w = w' := by
  go_enter Try.func81, Try.ntmps81
  go_wp2_with fail
  go_ret
  exact ⟨rfl, rfl⟩
theorem recent_q (e n k : Int) (w : World) (h : IntKind.i64.wrap (n - k) = n - k) : Calls Try.prog 81 #[.int .i64 e, .int .i64 n, .int .i64 k] w fun x w' => x = .returned (.bool (decide (n - k < e))) ∧ w' = w :=
  (recent_any e n k w h).mono fun _ _ ⟨h, h'⟩ => ⟨h, h'.symm⟩

set_option maxRecDepth 100000 in
set_option maxHeartbeats 400000 in
theorem timeOk_any (v : Int) (w : World) : Calls Try.prog 80 #[.int .i64 v] w fun e w' => e = .returned (.bool (vIn v 0 1000000000000)) ∧ w' = w := by
  by_cases h1 : 0 ≤ v
  · by_cases h2 : v ≤ 1000000000000
    · rw [vIn_true h1 h2]
      go_enter Try.func80, Try.ntmps80
      go_wp2
      go_ret
      exact ⟨rfl, rfl⟩
    · rw [vIn_false (fun h => h2 h.2)]
      go_enter Try.func80, Try.ntmps80
      go_wp2
      go_ret
      exact ⟨rfl, rfl⟩
  · rw [vIn_false (fun h => h1 h.1)]
    go_enter Try.func80, Try.ntmps80
    go_wp2
    go_ret
    exact ⟨rfl, rfl⟩

set_option maxRecDepth 100000 in
set_option maxHeartbeats 2000000 in
theorem timesOk_any (nw kp : Int) (A B : Option Addr) (n m c d : Nat) (w : World) :
    Calls Try.prog 56 #[.agg #[.int .i64 nw, .int .i64 kp, .slice A n c, .slice B m d]] w fun x w' => x = .returned (.bool (vIn nw 0 1000000000000 && vIn kp 1 1000000000)) ∧ Below w.heap.size w w' := by
  have HT := Lib.hid (fun W => timeOk_any nw W)
  cases h1 : vIn nw 0 1000000000000 with
  | false =>
    rw [h1] at HT
    clear h1
    go_enter Try.func56, Try.ntmps56
    go_wp2_with (go_at_call 80; refine (HT.out _).mono ?_; rintro e w' ⟨rfl, rfl⟩)
    go_ret
    exact ⟨rfl, by
      repeat (first | exact Below.refl _ _ | refine Below.alloc ?_ (by simp; try omega) _ | refine Below.setCell ?_ (by simp; try omega) _ | refine Below.drew ?_ | refine below_drewN_u ?_ _)⟩
  | true =>
  rw [h1] at HT
  clear h1
  by_cases h3 : 1 ≤ kp
  case neg =>
    rw [show vIn kp 1 1000000000 = false from vIn_false (fun h => h3 h.1)]
    go_enter Try.func56, Try.ntmps56
    go_wp2_with (go_at_call 80; refine (HT.out _).mono ?_; rintro e w' ⟨rfl, rfl⟩)
    go_ret
    exact ⟨by first | rfl | (rw [show decide (1 ≤ kp) = false from decide_eq_false (by omega)]; rfl), by
      repeat (first | exact Below.refl _ _ | refine Below.alloc ?_ (by simp; try omega) _ | refine Below.setCell ?_ (by simp; try omega) _ | refine Below.drew ?_ | refine below_drewN_u ?_ _)⟩
  by_cases h4 : kp ≤ 1000000000
  case neg =>
    rw [show vIn kp 1 1000000000 = false from vIn_false (fun h => h4 h.2)]
    go_enter Try.func56, Try.ntmps56
    go_wp2_with (go_at_call 80; refine (HT.out _).mono ?_; rintro e w' ⟨rfl, rfl⟩)
    go_ret
    exact ⟨by first | rfl | (rw [show decide (kp ≤ 1000000000) = false from decide_eq_false (by omega)]; rfl), by
      repeat (first | exact Below.refl _ _ | refine Below.alloc ?_ (by simp; try omega) _ | refine Below.setCell ?_ (by simp; try omega) _ | refine Below.drew ?_ | refine below_drewN_u ?_ _)⟩
  rw [show vIn kp 1 1000000000 = true from vIn_true h3 h4]
  go_enter Try.func56, Try.ntmps56
  go_wp2_with (go_at_call 80; refine (HT.out _).mono ?_; rintro e w' ⟨rfl, rfl⟩)
  go_ret
  exact ⟨by first | rfl | (rw [decide_eq_true h4]; rfl), by
    repeat (first | exact Below.refl _ _ | refine Below.alloc ?_ (by simp; try omega) _ | refine Below.setCell ?_ (by simp; try omega) _ | refine Below.drew ?_ | refine below_drewN_u ?_ _)⟩


def rawM (nw kp : Int) (rp : List (Int × Int)) : Bool := rp.all (rawAt nw kp) && ptsSmB rp
theorem rawM_bad {nw kp : Int} {rp : List (Int × Int)} {j : Nat} (hj : j < rp.length) (h : rawAt nw kp (rp.getD j (0, 0)) = false) : rawM nw kp rp = false := by
  unfold rawM
  have : rp.all (rawAt nw kp) = false := by
    rw [List.all_eq_false]
    refine ⟨rp[j], List.getElem_mem hj, ?_⟩
    rw [List.getD_eq_getElem?_getD, List.getElem?_eq_getElem hj] at h
    simpa using h
  rw [this]; rfl
theorem rawM_ok {nw kp : Int} {rp : List (Int × Int)} (h : ∀ j, j < rp.length → rawAt nw kp (rp.getD j (0, 0)) = true) : rawM nw kp rp = ptsSmB rp := by
  unfold rawM
  have : rp.all (rawAt nw kp) = true := by
    rw [List.all_eq_true]
    intro p hp
    obtain ⟨i, hi, rfl⟩ := List.getElem_of_mem hp
    have := h i hi
    rw [List.getD_eq_getElem?_getD, List.getElem?_eq_getElem hi] at this
    exact this
  rw [this]; rfl

set_option maxRecDepth 100000 in
set_option maxHeartbeats 4000000 in
theorem rawOk_any (nw kp : Int) (rv : Value) (B : Option Addr) (m d : Nat) (rp : List (Int × Int)) (w : World) (h : PL w w.heap.size rv rp) (hn : 0 ≤ nw ∧ nw ≤ 1000000000000) (hk : 1 ≤ kp ∧ kp ≤ 1000000000) :
    Calls Try.prog 57 #[.agg #[.int .i64 nw, .int .i64 kp, rv, .slice B m d]] w (BoolPost (rawM nw kp rp) w) := by
  have HP := Lib.hid h
  obtain ⟨_, hpl, Ap, cp, rfl, hcp⟩ := h
  have hbx : Below w.heap.size w (w.alloc (.cells #[.int .i64 nw, .int .i64 kp, .slice Ap rp.length cp, .slice B m d] 30)) := (Below.refl _ _).alloc (Nat.le_refl _) _
  have HBX := Lib.hid hbx
  clear hbx
  have eNK : IntKind.i64.wrap (nw - kp) = nw - kp := IntWalk.i64_in _ (by omega)
  have HSm := Lib.hid (fun W h => smallPoints_any (.slice Ap rp.length cp) rp W h)
  have HBad := Lib.hid (fun j hj h => rawM_bad (nw := nw) (kp := kp) (rp := rp) (j := j) hj h)
  have HOk := Lib.hid (fun h => rawM_ok (nw := nw) (kp := kp) (rp := rp) h)
  go_enter Try.func57, Try.ntmps57
  go_wp2_with fail
  have q0 : (w.alloc (.cells #[.int .i64 nw, .int .i64 kp, .slice Ap rp.length cp, .slice B m d] 30)).cell? ⟨w.heap.size, 0, none⟩ = some (.int .i64 nw) := by go_simp
  have q1 : (w.alloc (.cells #[.int .i64 nw, .int .i64 kp, .slice Ap rp.length cp, .slice B m d] 30)).cell? ⟨w.heap.size, 1, none⟩ = some (.int .i64 kp) := by go_simp
  have q2 : (w.alloc (.cells #[.int .i64 nw, .int .i64 kp, .slice Ap rp.length cp, .slice B m d] 30)).cell? ⟨w.heap.size, 2, none⟩ = some (.slice Ap rp.length cp) := by go_simp
  have hlt1 : w.heap.size < (w.alloc (.cells #[.int .i64 nw, .int .i64 kp, .slice Ap rp.length cp, .slice B m d] 30)).heap.size := by simp
  generalize (w.alloc (.cells #[.int .i64 nw, .int .i64 kp, .slice Ap rp.length cp, .slice B m d] 30)) = w1 at *
  have Q0 := Lib.hid q0
  have Q1 := Lib.hid q1
  have Q2 := Lib.hid q2
  clear q0 q1 q2
  go_loopw [8] (fun i wr => ∃ j : Nat, j ≤ rp.length ∧ i = .int .i64 j ∧ Hid (Below w1.heap.size w1 wr) ∧ Hid (∀ i, i < j → rawAt nw kp (rp.getD i (0, 0)) = true)) (fun i _ => rp.length - (intOf i).toNat)
  case atStart => exact ⟨0, Nat.zero_le _, rfl, Lib.hid (Below.refl _ _), Lib.hid (fun i hi => by omega)⟩
  case round =>
    obtain ⟨j, hj, rfl, HD, HG⟩ := hrel
    have hszD := HD.out.size
    have z0 : wr.cell? ⟨w.heap.size, 0, none⟩ = some (.int .i64 nw) := (HD.out.cell (p := ⟨w.heap.size, 0, none⟩) hlt1).trans Q0.out
    have z1 : wr.cell? ⟨w.heap.size, 1, none⟩ = some (.int .i64 kp) := (HD.out.cell (p := ⟨w.heap.size, 1, none⟩) hlt1).trans Q1.out
    have z2 : wr.cell? ⟨w.heap.size, 2, none⟩ = some (.slice Ap rp.length cp) := (HD.out.cell (p := ⟨w.heap.size, 2, none⟩) hlt1).trans Q2.out
    have HBr := Lib.hid (HBX.out.trans (HD.out.mono HBX.out.size))
    have hbs := HBX.out.size
    have hltr : w.heap.size < wr.heap.size := by omega
    by_cases hlt : j < rp.length
    · rcases hcp with hcp | ⟨b, off, rfl, hbl, hcp⟩
      · subst hcp; simp at hlt
      have hx0 : wr.cell? ⟨b, off + j * 2, none⟩ = some (.int .i64 (rp.getD j (0, 0)).1) := (HBr.out.cell (p := ⟨b, off + j * 2, none⟩) hbl).trans (hcp j hlt).1
      have hx1 : wr.cell? ⟨b, off + j * 2 + 1, none⟩ = some (.int .i64 (rp.getD j (0, 0)).2) := (HBr.out.cell (p := ⟨b, off + j * 2 + 1, none⟩) hbl).trans (hcp j hlt).2
      clear hcp
      have HBj := Lib.hid (fun h => HBad.out j hlt h)
      obtain ⟨x, hx⟩ : ∃ x, x = (rp.getD j (0, 0)).1 := ⟨_, rfl⟩
      rw [← hx] at hx0
      have HRA : Hid (rawAt nw kp (rp.getD j (0, 0)) = (decide (x ≤ nw) && decide (nw - kp < x))) := Lib.hid (by unfold rawAt; rw [← hx])
      clear hx
      generalize (rp.getD j (0, 0)).2 = y at hx1
      have HRc := Lib.hid (fun w => recent_any x nw kp w eNK)
      by_cases g1 : x ≤ nw
      case neg =>
        have E := Lib.hid (HBj.out (by rw [HRA.out, decide_eq_false g1]; rfl))
        have g1' : decide (nw < x) = true := decide_eq_true (by omega)
        go_wp2_with (go_at_call 81; refine (HRc.out _).mono ?_; rintro e w' ⟨rfl, rfl⟩)
        go_ret
        exact ⟨by rw [E.out]; rfl, HBr.out.alloc (by omega) _⟩
      have g1' : decide (nw < x) = false := decide_eq_false (by omega)
      by_cases g2 : nw - kp < x
      case neg =>
        have E := Lib.hid (HBj.out (by rw [HRA.out, decide_eq_false g2, Bool.and_false]))
        rw [decide_eq_false g2] at HRc
        go_wp2_with (go_at_call 81; refine (HRc.out _).mono ?_; rintro e w' ⟨rfl, rfl⟩)
        go_ret
        exact ⟨by rw [E.out]; rfl, HBr.out.alloc (by omega) _⟩
      rw [decide_eq_true g2] at HRc
      have HT := Lib.hid (show rawAt nw kp (rp.getD j (0, 0)) = true from by rw [HRA.out, decide_eq_true g1, decide_eq_true g2]; rfl)
      go_wp2_with (go_at_call 81; refine (HRc.out _).mono ?_; rintro e w' ⟨rfl, rfl⟩)
      go_roundw
      case rel =>
        refine ⟨j + 1, by omega, by go_num, Lib.hid (HD.out.alloc hszD _), Lib.hid (fun i hi => ?_)⟩
        by_cases e : i = j
        · rw [e]; exact HT.out
        · exact HG.out i (by omega)
      case measure => simp [intOf]; omega
    · obtain rfl : j = rp.length := by omega
      have E := Lib.hid (HOk.out HG.out)
      go_wp2_with fail
      refine (HSm.out _ ((HP.out.below HBr.out).up HBr.out.size)).mono ?_
      rintro e w5 ⟨rfl, hb5⟩
      have HB5 := Lib.hid (HBr.out.trans (hb5.mono HBr.out.size))
      clear hb5
      go_wp2_with fail
      go_ret
      exact ⟨by rw [E.out]; rfl, HB5.out⟩
end Go.Proofs.Ytcjpedolmnahfaa

/- Walks: cascades: the program's levels. -/
set_option linter.unusedVariables false
set_option linter.unusedSimpArgs false
namespace Go.Proofs.Ytcjpedolmnahfaa
open Go.RowKit

set_option maxRecDepth 100000 in
set_option maxHeartbeats 4000000 in
theorem follows_any (b o b' o' : Nat) (W K fw fk : Int) (x : Lv) (w : World) (hx : x.1 = W) (hk : x.2.1 = K) (hw : 1 ≤ fw) (hk0 : 0 ≤ fk)
    (c0 : w.cell? ⟨b, o, none⟩ = some (.int .i64 W)) (c1 : w.cell? ⟨b, o + 1, none⟩ = some (.int .i64 K)) (d0 : w.cell? ⟨b', o', none⟩ = some (.int .i64 fw)) (d1 : w.cell? ⟨b', o' + 1, none⟩ = some (.int .i64 fk)) :
    Calls Try.prog 59 #[.pointer (some ⟨b, o, none⟩), .pointer (some ⟨b', o', none⟩)] w fun e w' => e = .returned (.bool (shpB fw fk x)) ∧ ∃ n, w' = w.drewN n := by
  have HW := Lib.hid (fun w => widthOk_q W w)
  have hw0 : ¬ fw = 0 := by omega
  have hwz : (fw == 0) = false := by simpa using hw0
  have hE : shpB fw fk x = (wdB W && (decide (fw < W) && (decide (W % fw = 0) && (vIn K fk 1000000000 && decide (K % W = 0))))) := by unfold shpB; rw [hx, hk]
  rw [hE]
  clear hE hx hk
  cases h1 : wdB W with
  | false =>
    rw [h1] at HW
    clear h1
    go_enter Try.func59, Try.ntmps59
    go_wp2_with fail
    go_quiet ((go_at_call 68; exact Calls.quiet_of_same (HW.out _)))
    go_wp2_with fail
    go_ret
    exact ⟨by (rw [Bool.false_and]); rfl, _, rfl⟩
  | true =>
    rw [h1] at HW
    obtain ⟨hW1, hW2⟩ := wdB_in h1
    clear h1
    rw [Bool.true_and]
    have hW0 : ¬ W = 0 := by omega
    have hWz : (W == 0) = false := by simpa using hW0
    have htm : W.tmod fw = W % fw := Int.tmod_eq_emod_of_nonneg (by omega)
    by_cases h2 : fw < W
    case neg =>
      have h2' : decide (fw < W) = false := decide_eq_false h2
      go_enter Try.func59, Try.ntmps59
      go_wp2_with fail
      go_quiet ((go_at_call 68; exact Calls.quiet_of_same (HW.out _)))
      go_wp2_with fail
      go_ret
      exact ⟨by (rw [h2', Bool.false_and]); rfl, _, rfl⟩
    have h2' : decide (fw < W) = true := decide_eq_true h2
    by_cases h3 : W % fw = 0
    case neg =>
      have h3' : (W % fw == 0) = false := by simpa using h3
      have h3'' : decide (W % fw = 0) = false := decide_eq_false h3
      go_enter Try.func59, Try.ntmps59
      go_wp2_with fail
      go_quiet ((go_at_call 68; exact Calls.quiet_of_same (HW.out _)))
      go_wp2_with fail
      go_ret
      exact ⟨by (rw [h2', h3'', Bool.false_and, Bool.and_false]); rfl, _, rfl⟩
    have h3' : (W % fw == 0) = true := by simpa using h3
    have h3'' : decide (W % fw = 0) = true := decide_eq_true h3
    by_cases h4 : K.tmod W = 0
    case neg =>
      have h4' : (K.tmod W == 0) = false := by simpa using h4
      have h4'' : decide (K.tmod W = 0) = false := decide_eq_false h4
      have HF := Lib.hid (show (vIn K fk 1000000000 && decide (K % W = 0)) = false from by
        by_cases hK : 0 ≤ K
        · rw [Int.tmod_eq_emod_of_nonneg hK] at h4
          rw [decide_eq_false h4, Bool.and_false]
        · rw [vIn_false (fun h => by omega)]; rfl)
      go_enter Try.func59, Try.ntmps59
      go_wp2_with fail
      go_quiet ((go_at_call 68; exact Calls.quiet_of_same (HW.out _)))
      go_wp2_with fail
      go_ret
      exact ⟨by (rw [HF.out, Bool.and_false, Bool.and_false]); rfl, _, rfl⟩
    have h4' : (K.tmod W == 0) = true := by simpa using h4
    have h4'' : decide (K.tmod W = 0) = true := decide_eq_true h4
    by_cases h5 : fk ≤ K
    case neg =>
      have h5' : decide (fk ≤ K) = false := decide_eq_false h5
      have HF := Lib.hid (show vIn K fk 1000000000 = false from vIn_false (fun h => h5 h.1))
      go_enter Try.func59, Try.ntmps59
      go_wp2_with fail
      go_quiet ((go_at_call 68; exact Calls.quiet_of_same (HW.out _)))
      go_wp2_with fail
      go_ret
      exact ⟨by (rw [HF.out, Bool.false_and, Bool.and_false, Bool.and_false]); rfl, _, rfl⟩
    have h5' : decide (fk ≤ K) = true := decide_eq_true h5
    by_cases h6 : K ≤ 1000000000
    case neg =>
      have h6' : decide (K ≤ 1000000000) = false := decide_eq_false h6
      have HF := Lib.hid (show vIn K fk 1000000000 = false from vIn_false (fun h => h6 h.2))
      go_enter Try.func59, Try.ntmps59
      go_wp2_with fail
      go_quiet ((go_at_call 68; exact Calls.quiet_of_same (HW.out _)))
      go_wp2_with fail
      go_ret
      exact ⟨by (rw [HF.out, Bool.false_and, Bool.and_false, Bool.and_false]); rfl, _, rfl⟩
    have h6' : decide (K ≤ 1000000000) = true := decide_eq_true h6
    have HT := Lib.hid (show (vIn K fk 1000000000 && decide (K % W = 0)) = true from by
      rw [Int.tmod_eq_emod_of_nonneg (by omega)] at h4
      rw [vIn_true h5 h6, decide_eq_true h4]; rfl)
    go_enter Try.func59, Try.ntmps59
    go_wp2_with fail
    go_quiet ((go_at_call 68; exact Calls.quiet_of_same (HW.out _)))
    go_wp2_with fail
    go_ret
    exact ⟨by (rw [HT.out, h2', h3'']); rfl, _, rfl⟩

set_option maxRecDepth 100000 in
set_option maxHeartbeats 2000000 in
theorem retains_any (b o : Nat) (W K nw : Int) (r : R6) (x : Lv) (w : World) (hx : x.1 = W) (hk : x.2.1 = K) (hT : r.1 ≤ nw) (hW : 1 ≤ W ∧ W ≤ 1000000) (hn : 0 ≤ nw ∧ nw ≤ 1000000000000) (hT0 : 0 ≤ r.1) (hK : 0 ≤ K ∧ K ≤ 1000000000) (hb : b < w.heap.size)
    (c0 : w.cell? ⟨b, o, none⟩ = some (.int .i64 W)) (c1 : w.cell? ⟨b, o + 1, none⟩ = some (.int .i64 K)) :
    Calls Try.prog 100 #[.pointer (some ⟨b, o, none⟩), .agg #[.int .i64 r.1, .int .i64 r.2.1, .int .i64 r.2.2.1, .int .i64 r.2.2.2.1, .int .i64 r.2.2.2.2.1, .int .i64 r.2.2.2.2.2], .int .i64 nw] w fun e w' => e = .returned (.bool (rolAt nw x r)) ∧ Below w.heap.size w w' := by
  obtain ⟨t, r1, r2, r3, r4, r5⟩ := r
  simp only at hT hT0 ⊢
  have hE : rolAt nw x (t, r1, r2, r3, r4, r5) = decide (nw - K < t + W) := by unfold rolAt; rw [hx, hk, decide_eq_true (show (t, r1, r2, r3, r4, r5).1 ≤ nw from hT), Bool.true_and]
  rw [hE]
  have e1 : IntKind.i64.wrap (nw - K) = nw - K := IntWalk.i64_in _ (by omega)
  have e2 : IntKind.i64.wrap (t + W) = t + W := IntWalk.i64_in _ (by omega)
  have HR := Lib.hid (fun w => recent_q (t + W) nw K w e1)
  clear hE hx hk
  go_enter Try.func100, Try.ntmps100
  go_wp2_with fail
  go_quiet ((go_at_call 81; exact Calls.quiet_of_same (HR.out _)))
  go_wp2_with fail
  go_ret
  exact ⟨rfl, by
    repeat (first | exact Below.refl _ _ | refine Below.alloc ?_ (by simp; try omega) _ | refine Below.setCell ?_ (by simp; try omega) _ | refine Below.drew ?_ | refine below_drewN_u ?_ _)⟩
end Go.Proofs.Ytcjpedolmnahfaa

/- Walks: cascades: the program's levels (2). -/
set_option linter.unusedVariables false
set_option linter.unusedSimpArgs false
namespace Go.Proofs.Ytcjpedolmnahfaa
open Go.RowKit

def rlsM (nw : Int) (x : Lv) : Bool := rollsOkB x.2.2 x.1 && x.2.2.all (rolAt nw x)
theorem rlsM_bad {nw : Int} {x : Lv} {j : Nat} (hj : j < x.2.2.length) (h : rolAt nw x (x.2.2.getD j z6) = false) : rlsM nw x = false := by
  unfold rlsM
  have : x.2.2.all (rolAt nw x) = false := by
    rw [List.all_eq_false]
    refine ⟨x.2.2[j], List.getElem_mem hj, ?_⟩
    rw [List.getD_eq_getElem?_getD, List.getElem?_eq_getElem hj] at h
    simpa using h
  rw [this, Bool.and_false]
theorem rlsM_ok {nw : Int} {x : Lv} (h1 : rollsOkB x.2.2 x.1 = true) (h : ∀ j, j < x.2.2.length → rolAt nw x (x.2.2.getD j z6) = true) : rlsM nw x = true := by
  unfold rlsM
  have : x.2.2.all (rolAt nw x) = true := by
    rw [List.all_eq_true]
    intro p hp
    obtain ⟨i, hi, rfl⟩ := List.getElem_of_mem hp
    have := h i hi
    rw [List.getD_eq_getElem?_getD, List.getElem?_eq_getElem hi] at this
    exact this
  rw [h1, this]; rfl

set_option maxRecDepth 100000 in
set_option maxHeartbeats 4000000 in
theorem lvRollsOk_any (b o : Nat) (W K nw : Int) (rv : Value) (rs : List R6) (w : World) (hb : b < w.heap.size) (hW : 1 ≤ W ∧ W ≤ 1000000) (hn : 0 ≤ nw ∧ nw ≤ 1000000000000) (hK : 0 ≤ K ∧ K ≤ 1000000000)
    (c0 : w.cell? ⟨b, o, none⟩ = some (.int .i64 W)) (c1 : w.cell? ⟨b, o + 1, none⟩ = some (.int .i64 K)) (c2 : w.cell? ⟨b, o + 2, none⟩ = some rv) (hR : RL w w.heap.size rv rs) :
    Calls Try.prog 60 #[.pointer (some ⟨b, o, none⟩), .int .i64 nw] w (BoolPost (rlsM nw (W, K, rs)) w) := by
  have HR := Lib.hid hR
  obtain ⟨_, hrl, Ar, cr, rfl, hcr⟩ := hR
  have HRo := Lib.hid (fun W' h => implRollsOk_any (.slice Ar rs.length cr) rs W W' h)
  have HRd := Lib.hid (show RL w.drew w.drew.heap.size (.slice Ar rs.length cr) rs from HR.out)
  have C0 := Lib.hid c0
  have C1 := Lib.hid c1
  have C2 := Lib.hid c2
  cases hro : rollsOkB rs W with
  | false =>
    have E := Lib.hid (show rlsM nw (W, K, rs) = false from by unfold rlsM; rw [hro]; rfl)
    rw [hro] at HRo
    clear hro
    go_enter Try.func60, Try.ntmps60
    go_wp2_with fail
    go_region_law (go_simp; go_at_call 78; refine (HRo.out _ (by first | exact HRd.out | exact HR.out)).mono ?_; rintro e w5 ⟨rfl, hb5⟩; have HB5 := Lib.hid (show Below w.heap.size w w5 from ⟨hb5.os, hb5.tape, hb5.output, hb5.size, hb5.block⟩); clear hb5)
    all_goals
      go_simp
      go_wp2_with fail
      go_ret
      exact ⟨by rw [E.out]; rfl, HB5.out⟩
  | true =>
    have HBad := Lib.hid (fun j hj h => rlsM_bad (nw := nw) (x := (W, K, rs)) (j := j) hj h)
    have HOk := Lib.hid (fun h => rlsM_ok (nw := nw) (x := (W, K, rs)) hro h)
    have hr400 := (rollsOkB_in hro).1
    have HRin := Lib.hid (fun i hi => (gdR_in ((rollsOkB_in hro).2.2 i hi)).1)
    rw [hro] at HRo
    clear hro
    go_enter Try.func60, Try.ntmps60
    go_wp2_with fail
    go_region_law (go_simp; go_at_call 78; refine (HRo.out _ (by first | exact HRd.out | exact HR.out)).mono ?_; rintro e w5 ⟨rfl, hb5⟩; have HB5 := Lib.hid (show Below w.heap.size w w5 from ⟨hb5.os, hb5.tape, hb5.output, hb5.size, hb5.block⟩); clear hb5)
    all_goals
      go_simp
      have hs5 := HB5.out.size
      have d0 : w5.cell? ⟨b, o, none⟩ = some (.int .i64 W) := (HB5.out.cell (p := ⟨b, o, none⟩) hb).trans C0.out
      have d1 : w5.cell? ⟨b, o + 1, none⟩ = some (.int .i64 K) := (HB5.out.cell (p := ⟨b, o + 1, none⟩) hb).trans C1.out
      have d2 : w5.cell? ⟨b, o + 2, none⟩ = some (.slice Ar rs.length cr) := (HB5.out.cell (p := ⟨b, o + 2, none⟩) hb).trans C2.out
      clear c0 c1 c2
      go_wp2_with fail
      go_loopw [22] (fun i wr => ∃ j : Nat, j ≤ rs.length ∧ i = .int .i64 j ∧ Hid (Below w.heap.size w wr) ∧ Hid (∀ i, i < j → rolAt nw (W, K, rs) (rs.getD i z6) = true)) (fun i _ => rs.length - (intOf i).toNat)
      case atStart => exact ⟨0, Nat.zero_le _, rfl, HB5, Lib.hid (fun i hi => by omega)⟩
      case round =>
        clear d0 d1 d2
        obtain ⟨j, hj, rfl, HBr, HG⟩ := hrel
        have hszr := HBr.out.size
        have z0 : wr.cell? ⟨b, o, none⟩ = some (.int .i64 W) := (HBr.out.cell (p := ⟨b, o, none⟩) hb).trans C0.out
        have z1 : wr.cell? ⟨b, o + 1, none⟩ = some (.int .i64 K) := (HBr.out.cell (p := ⟨b, o + 1, none⟩) hb).trans C1.out
        by_cases hlt : j < rs.length
        · rcases hcr with hcr | ⟨br, or, rfl, hbr, hcr⟩
          · subst hcr; simp at hlt
          have hx0 : wr.cell? ⟨br, or + j * 6, none⟩ = some (.int .i64 (rs.getD j z6).1) := (HBr.out.cell (p := ⟨br, or + j * 6, none⟩) hbr).trans (hcr j hlt).1
          have hx1 : wr.cell? ⟨br, or + j * 6 + 1, none⟩ = some (.int .i64 (rs.getD j z6).2.1) := (HBr.out.cell (p := ⟨br, or + j * 6 + 1, none⟩) hbr).trans (hcr j hlt).2.1
          have hx2 : wr.cell? ⟨br, or + j * 6 + 2, none⟩ = some (.int .i64 (rs.getD j z6).2.2.1) := (HBr.out.cell (p := ⟨br, or + j * 6 + 2, none⟩) hbr).trans (hcr j hlt).2.2.1
          have hx3 : wr.cell? ⟨br, or + j * 6 + 3, none⟩ = some (.int .i64 (rs.getD j z6).2.2.2.1) := (HBr.out.cell (p := ⟨br, or + j * 6 + 3, none⟩) hbr).trans (hcr j hlt).2.2.2.1
          have hx4 : wr.cell? ⟨br, or + j * 6 + 4, none⟩ = some (.int .i64 (rs.getD j z6).2.2.2.2.1) := (HBr.out.cell (p := ⟨br, or + j * 6 + 4, none⟩) hbr).trans (hcr j hlt).2.2.2.2.1
          have hx5 : wr.cell? ⟨br, or + j * 6 + 5, none⟩ = some (.int .i64 (rs.getD j z6).2.2.2.2.2) := (HBr.out.cell (p := ⟨br, or + j * 6 + 5, none⟩) hbr).trans (hcr j hlt).2.2.2.2.2
          clear hcr
          have HBj := Lib.hid (fun h => HBad.out j hlt h)
          have hTj := HRin.out j hlt
          obtain ⟨r, hr⟩ : ∃ r, r = rs.getD j z6 := ⟨_, rfl⟩
          rw [← hr] at hx0 hx1 hx2 hx3 hx4 hx5 hTj
          have HBk : Hid (rolAt nw (W, K, rs) r = false → rlsM nw (W, K, rs) = false) := Lib.hid (by rw [hr]; exact HBj.out)
          have HRR := Lib.hid hr
          clear hr HBj
          obtain ⟨t, r1, r2, r3, r4, r5⟩ := r
          simp only at hx0 hx1 hx2 hx3 hx4 hx5 hTj
          have hbw : b < wr.heap.size := by omega
          by_cases g1 : t ≤ nw
          case neg =>
            have E := Lib.hid (HBk.out (by unfold rolAt; rw [decide_eq_false g1]; rfl))
            have g1' : decide (nw < t) = true := decide_eq_true (by omega)
            go_wp2_with fail
            go_ret
            exact ⟨by rw [E.out]; rfl, HBr.out.alloc hszr _⟩
          have g1' : decide (nw < t) = false := decide_eq_false (by omega)
          have HRt := Lib.hid (fun w h0 h1 h2 => retains_any b o W K nw (t, r1, r2, r3, r4, r5) (W, K, rs) w rfl rfl g1 hW hn hTj.1 hK h0 h1 h2)
          cases hra : rolAt nw (W, K, rs) (t, r1, r2, r3, r4, r5) with
          | false =>
            have E := Lib.hid (HBk.out hra)
            rw [hra] at HRt
            clear hra
            go_wp2_with (go_at_call 100; refine (HRt.out _ (by simp; omega) (by first | exact z0 | go_simp) (by first | exact z1 | go_simp)).mono ?_; rintro e w6 ⟨rfl, hb6⟩)
            have HB6 := Lib.hid ((HBr.out.alloc hszr (.cells #[.int .i64 t, .int .i64 r1, .int .i64 r2, .int .i64 r3, .int .i64 r4, .int .i64 r5] 48)).trans (hb6.mono (by simp; omega)))
            clear hb6
            go_wp2_with fail
            go_ret
            exact ⟨by rw [E.out]; rfl, HB6.out⟩
          | true =>
            have HT := Lib.hid hra
            rw [hra] at HRt
            clear hra
            go_wp2_with (go_at_call 100; refine (HRt.out _ (by simp; omega) (by first | exact z0 | go_simp) (by first | exact z1 | go_simp)).mono ?_; rintro e w6 ⟨rfl, hb6⟩)
            have HB6 := Lib.hid ((HBr.out.alloc hszr (.cells #[.int .i64 t, .int .i64 r1, .int .i64 r2, .int .i64 r3, .int .i64 r4, .int .i64 r5] 48)).trans (hb6.mono (by simp; omega)))
            clear hb6
            go_wp2_with fail
            go_roundw
            case rel =>
              refine ⟨j + 1, by omega, by go_num, HB6, Lib.hid (fun i hi => ?_)⟩
              by_cases e : i = j
              · rw [e, ← HRR.out]; exact HT.out
              · exact HG.out i (by omega)
            case measure => simp [intOf]; omega
        · obtain rfl : j = rs.length := by omega
          have E := Lib.hid (HOk.out HG.out)
          go_wp2_with fail
          go_ret
          exact ⟨by rw [E.out]; rfl, HBr.out⟩
end Go.Proofs.Ytcjpedolmnahfaa

/- Walks: cascades: the range over the levels. -/
set_option linter.unusedVariables false
set_option linter.unusedSimpArgs false
namespace Go.Proofs.Ytcjpedolmnahfaa
open Go.RowKit Go.Shelf

attribute [local go_sem] Oper.semAt_some

/-- a level at a place -/
abbrev Lp := (Nat × Nat) × Lv
/-- the level p.2 lies at the place p.1, in the blocks below n₀ -/
def LvHere (W : World) (n₀ : Nat) (p : Lp) : Prop :=
  p.1.1 < n₀ ∧ W.cell? ⟨p.1.1, p.1.2, none⟩ = some (.int .i64 p.2.1) ∧ W.cell? ⟨p.1.1, p.1.2 + 1, none⟩ = some (.int .i64 p.2.2.1) ∧ ∃ r, W.cell? ⟨p.1.1, p.1.2 + 2, none⟩ = some r ∧ RL W n₀ r p.2.2.2
theorem LvHere.below {W W' : World} {n₀ : Nat} {p : Lp} (h : LvHere W n₀ p) (hb : Below n₀ W W') : LvHere W' n₀ p := by
  obtain ⟨h1, h2, h3, r, h4, h5⟩ := h
  exact ⟨h1, (hb.cell (p := ⟨p.1.1, p.1.2, none⟩) h1).trans h2, (hb.cell (p := ⟨p.1.1, p.1.2 + 1, none⟩) h1).trans h3, r, (hb.cell (p := ⟨p.1.1, p.1.2 + 2, none⟩) h1).trans h4, h5.below hb⟩
abbrev LX (W : World) (n₀ : Nat) := {p : Lp // LvHere W n₀ p}
/-- what a round keeps: what lies below n₀, and the block Bn -/
def KpL (n₀ Bn : Nat) (W W' : World) : Prop := Below n₀ W W' ∧ W'.heap[Bn]? = W.heap[Bn]?
theorem KpL.trans {n₀ Bn : Nat} {A B C : World} (h : KpL n₀ Bn A B) (k : KpL n₀ Bn B C) : KpL n₀ Bn A C := ⟨h.1.trans k.1, k.2.trans h.2⟩
def lpAt (b off : Nat) (ls : List Lv) (j : Nat) : Lp := ((b, off + j * 3), ls.getD j zLv)
/-- a variable's box of several cells -/
def BoxN (W : World) (B : Nat) (cs : Array Value) (t : TypeId) : Prop := W.heap[B]? = some (.cells cs t (0, 0))
theorem BoxN.lt {W : World} {B : Nat} {cs : Array Value} {t : TypeId} (h : BoxN W B cs t) : B < W.heap.size := (Array.getElem?_eq_some_iff.1 h).1
theorem BoxN.own {X Y : World} {row : Option Nat} {B : Nat} {cs : Array Value} {t : TypeId} (h : BoxN X B cs t) (hg : X.grownBy Y row) (hr : ∀ r, row = some r → ∃ o : Obj, X.heap[r]? = some o ∧ o.isCells = false) : BoxN Y B cs t :=
  (hg.block B h.lt (fun e => by obtain ⟨o, ho, hc⟩ := hr B e.symm; rw [h] at ho; cases ho; cases hc)).trans h
theorem BoxN.below {X Y : World} {B : Nat} {cs : Array Value} {t : TypeId} (h : BoxN X B cs t) (hb : Below X.heap.size X Y) : BoxN Y B cs t := (hb.block B h.lt).trans h
theorem BoxN.cell {W : World} {B i : Nat} {cs : Array Value} {t : TypeId} {v : Value} (h : BoxN W B cs t) (hv : cs[i]? = some v) : W.cell? ⟨B, i, none⟩ = some v := by
  have hh : W.heap[B]? = some (.cells cs t (0, 0)) := h
  simp [World.cell?, hh, hv]
def lstW (ps : List Lv) : Int := match ps.getLast? with | none => 1 | some x => x.1
def lstK (k : Int) (ps : List Lv) : Int := match ps.getLast? with | none => k | some x => x.2.1
theorem lvsB_snoc (nw : Int) : ∀ (ps : List Lv) (w k : Int) (x : Lv), lvsB nw w k (ps ++ [x]) = (lvsB nw w k ps && lvB nw (match ps.getLast? with | none => w | some y => y.1) (match ps.getLast? with | none => k | some y => y.2.1) x)
  | [], w, k, x => by simp [lvsB]
  | [y], w, k, x => by simp [lvsB]
  | y :: z :: ps, w, k, x => by
    have ih := lvsB_snoc nw (z :: ps) y.1 y.2.1 x
    show (lvB nw w k y && lvsB nw y.1 y.2.1 ((z :: ps) ++ [x])) = _
    rw [ih]
    show _ = (lvB nw w k y && lvsB nw y.1 y.2.1 (z :: ps) && _)
    rw [Bool.and_assoc, List.getLast?_cons_cons]
    cases hq : (z :: ps).getLast? with
    | none => simp at hq
    | some q => rfl
theorem lvsB_app (nw : Int) : ∀ (ps qs : List Lv) (w k : Int), lvsB nw w k ps = false → lvsB nw w k (ps ++ qs) = false
  | [], qs, w, k, h => by simp [lvsB] at h
  | y :: ps, qs, w, k, h => by
    show (lvB nw w k y && lvsB nw y.1 y.2.1 (ps ++ qs)) = false
    cases hy : lvB nw w k y with
    | false => rfl
    | true =>
      have h2 : lvsB nw y.1 y.2.1 ps = false := by
        have h3 : (lvB nw w k y && lvsB nw y.1 y.2.1 ps) = false := h
        rw [hy] at h3; simpa using h3
      rw [lvsB_app nw ps qs y.1 y.2.1 h2]; rfl
theorem heap_cell {W W' : World} {Bn : Nat} {i : Nat} (h : W'.heap[Bn]? = W.heap[Bn]?) : W'.cell? ⟨Bn, i, none⟩ = W.cell? ⟨Bn, i, none⟩ := by
  unfold World.cell?
  rw [h]

set_option maxRecDepth 100000 in
set_option maxHeartbeats 4000000 in
theorem levels1_in (n : Nat) (hn : 1 ≤ n) (l Bn n₀ b off cl : Nat) (Al : Option Addr) (W0 : World) (ls : List Lv) (hA : 0 < ls.length → Al = some ⟨b, off, none⟩) (hll : ls.length ≤ 1048576) (hls : ∀ j, j < ls.length → LvHere W0 n₀ (lpAt b off ls j)) (J Jx : List (LX W0 n₀) → World → Prop)
    (hY : ∀ pre (x : LX W0 n₀) W, J pre W → pre.length < ls.length → YieldAt Fence.wide (n - 1) Try.prog l #[.pointer (some ⟨x.1.1.1, x.1.1.2, none⟩)] W fun e W' =>
      (e = .returned (.bool true) ∧ J (pre ++ [x]) W' ∧ KpL n₀ Bn W W') ∨ (e = .returned (.bool false) ∧ Jx (pre ++ [x]) W'))
    (W : World) (hBn : W.cell? ⟨Bn, 3, none⟩ = some (.slice Al ls.length cl)) (h0 : J [] W) :
    CallsIn Fence.wide n Try.prog 99 #[.func (.yield l) #[] #[], .pointer (some ⟨Bn, 0, none⟩)] W fun e W' => (∃ v, e = .returned v) ∧
      ((∃ ys, ys.map Subtype.val = (List.range ls.length).map (lpAt b off ls) ∧ J ys W') ∨ (∃ pre, (∃ k, k ≤ ls.length ∧ pre.map Subtype.val = (List.range k).map (lpAt b off ls)) ∧ Jx pre W')) := by
  have HLS := Lib.hid hls
  have HY := Lib.hid hY
  clear hls hY
  refine callsIn_of_wp Try.func99 rfl trivial ?_ rfl
  simp only [Try.ntmps99, List.size_toArray, List.length_cons, List.length_nil, Nat.reduceAdd, Nat.reduceSub, Array.replicate_succ, Array.replicate_zero, List.push_toArray, List.append_toArray, List.nil_append, List.cons_append]
  have HBn := Lib.hid hBn
  gi_wp2
  gi_loopw [7] (fun i wr => ∃ (k : Nat) (pre : List (LX W0 n₀)), k ≤ ls.length ∧ i = .int .i64 k ∧ Hid (pre.map Subtype.val = (List.range k).map (lpAt b off ls)) ∧ Hid (J pre wr) ∧ Hid (wr.cell? ⟨Bn, 3, none⟩ = some (.slice Al ls.length cl)))
    (fun i _ => ls.length - (intOf i).toNat)
  case atStart => exact ⟨0, [], Nat.zero_le _, rfl, Lib.hid rfl, Lib.hid h0, HBn⟩
  case round =>
    clear hBn
    obtain ⟨k, pre, hk, rfl, HP, HJk, HBk⟩ := hrel
    by_cases hlt : k < ls.length
    · have hb3 := HBk.out
      rw [hA (by omega)] at hb3
      have hpl : pre.length < ls.length := by
        have h := congrArg List.length HP.out
        rw [List.length_map, List.length_map, List.length_range] at h
        omega
      obtain ⟨fn, tmps, assign, body, hy, hR⟩ := HY.out pre ⟨lpAt b off ls k, HLS.out k hlt⟩ wr HJk.out hpl
      have HS : Hid ((pre ++ [(⟨lpAt b off ls k, HLS.out k hlt⟩ : LX W0 n₀)]).map Subtype.val = (List.range (k + 1)).map (lpAt b off ls)) := Lib.hid (by
        rw [List.map_append, HP.out, List.range_succ, List.map_append]; rfl)
      generalize pre ++ [(⟨lpAt b off ls k, HLS.out k hlt⟩ : LX W0 n₀)] = pre1 at *
      dsimp only [lpAt] at hy
      gi_wp2
      refine hR.mono ?_
      rintro e W3 (⟨rfl, hJ3, hk3⟩ | ⟨rfl, hJx3⟩)
      · gi_wp2
        go_roundw
        case rel => exact ⟨k + 1, pre1, by omega, by go_num, HS, Lib.hid hJ3, Lib.hid ((heap_cell hk3.2).trans HBk.out)⟩
        case measure => simp [intOf]; omega
      · gi_wp2
        refine bodyPost_ret (results_none rfl _ _ _) rfl ?_
        exact ⟨⟨_, rfl⟩, .inr ⟨pre1, ⟨k + 1, by omega, HS.out⟩, hJx3⟩⟩
    · obtain rfl : k = ls.length := by omega
      gi_wp2
      go_end0
      exact ⟨⟨_, rfl⟩, .inl ⟨pre, HP.out, HJk.out⟩⟩

set_option maxRecDepth 100000 in
set_option maxHeartbeats 1000000 in
theorem levels_any (nw kp : Int) (A B : Option Addr) (n m c d : Nat) (w : World) :
    Calls Try.prog 58 #[.agg #[.int .i64 nw, .int .i64 kp, .slice A n c, .slice B m d]] w fun e w' => e = .returned (.func (.func 99) #[] #[.pointer (some ⟨w.heap.size, 0, none⟩)]) ∧ w' = w.alloc (.cells #[.int .i64 nw, .int .i64 kp, .slice A n c, .slice B m d] 30) := by
  go_enter Try.func58, Try.ntmps58
  go_wp2_with fail
  go_ret
  exact ⟨rfl, rfl⟩
end Go.Proofs.Ytcjpedolmnahfaa
