/- Walks: the program's check of rolls. -/
import Derived.Test.YtkekpkfhljankaaYb
import Derived.Test.YtkekpkfhljankaaOa
set_option linter.unusedVariables false
set_option linter.unusedSimpArgs false
namespace Go.Proofs.Ytkekpkfhljankaa
open Go.RowKit

set_option maxRecDepth 100000 in
set_option maxHeartbeats 4000000 in
theorem implRollsOk_any (v : Value) (xs : List R6) (W : Int) (w : World) (h : RL w w.heap.size v xs) :
    Calls Try.prog 101 #[v, .int .i64 W] w (BoolPost (rollsOkB xs W) w) := by
  obtain ⟨hr, hlen, A, c, rfl, h3⟩ := h
  clear hr
  have HW := Lib.hid (fun w => widthOk_any W w)
  by_cases hw : 1 ≤ W ∧ W ≤ 1000000
  case neg =>
    have E := Lib.hid (show rollsOkB xs W = false from by unfold rollsOkB wdB; rw [vIn_false hw]; simp)
    rw [show wdB W = false from vIn_false hw] at HW
    clear hw
    go_enter Try.func101, Try.ntmps101
    go_wp2_with (go_at_call 98; refine (HW.out _).mono ?_; rintro e w' ⟨rfl, rfl⟩)
    go_ret
    exact ⟨by rw [E.out]; rfl, Below.refl _ _⟩
  rw [show wdB W = true from vIn_true hw.1 hw.2] at HW
  by_cases h400 : xs.length ≤ 400
  case neg =>
    have E := Lib.hid (show rollsOkB xs W = false from by unfold rollsOkB; rw [decide_eq_false h400]; simp)
    have hd : decide (400 < xs.length) = true := by simp; omega
    go_enter Try.func101, Try.ntmps101
    go_wp2_with (go_at_call 98; refine (HW.out _).mono ?_; rintro e w' ⟨rfl, rfl⟩)
    go_ret
    exact ⟨by rw [E.out]; rfl, Below.refl _ _⟩
  have hd : decide (400 < xs.length) = false := by simp; omega
  have EE := Lib.hid (show gdToR xs W xs.length = true → rollsOkB xs W = true from fun h => by unfold rollsOkB wdB; rw [vIn_true hw.1 hw.2, decide_eq_true h400, h]; rfl)
  have hw0 : ¬ W = 0 := by omega
  have hwz : (W == 0) = false := by simpa using hw0
  obtain ⟨hw1, hw2⟩ := hw
  have HV := Lib.hid (fun t c s mn mx la W => valuesOk_any t c s mn mx la W)
  go_enter Try.func101, Try.ntmps101
  go_wp2_with (go_at_call 98; refine (HW.out _).mono ?_; rintro e w' ⟨rfl, rfl⟩)
  go_loopw [5, 18] (fun p i wr => ∃ (k : Nat) (y : Int), k ≤ xs.length ∧ i = .int .i64 k ∧ p = .int .i64 y ∧ -1 ≤ y ∧ Hid (y = if k = 0 then -1 else (xs.getD (k - 1) z6).1) ∧ gdToR xs W k = true ∧ Below w.heap.size w wr) (fun _ i _ => xs.length - (intOf i).toNat)
  case atStart => exact ⟨0, -1, Nat.zero_le _, rfl, rfl, by omega, rfl, rfl, Below.refl _ _⟩
  case round =>
    obtain ⟨k, y, hk, rfl, rfl, hy1, HY, hg, hb⟩ := hrel
    have Hg := Lib.hid hg
    clear hg
    have hsz := hb.size
    by_cases hlt : k < xs.length
    · rcases h3 with h3 | ⟨b, off, rfl, hbl, hc⟩
      · subst h3; simp at hlt
      have hx0 : wr.cell? ⟨b, off + k * 6, none⟩ = some (.int .i64 (xs.getD k z6).1) := (hb.cell (p := ⟨b, off + k * 6, none⟩) hbl).trans (hc k hlt).1
      have hx1 : wr.cell? ⟨b, off + k * 6 + 1, none⟩ = some (.int .i64 (xs.getD k z6).2.1) := (hb.cell (p := ⟨b, off + k * 6 + 1, none⟩) hbl).trans (hc k hlt).2.1
      have hx2 : wr.cell? ⟨b, off + k * 6 + 2, none⟩ = some (.int .i64 (xs.getD k z6).2.2.1) := (hb.cell (p := ⟨b, off + k * 6 + 2, none⟩) hbl).trans (hc k hlt).2.2.1
      have hx3 : wr.cell? ⟨b, off + k * 6 + 3, none⟩ = some (.int .i64 (xs.getD k z6).2.2.2.1) := (hb.cell (p := ⟨b, off + k * 6 + 3, none⟩) hbl).trans (hc k hlt).2.2.2.1
      have hx4 : wr.cell? ⟨b, off + k * 6 + 4, none⟩ = some (.int .i64 (xs.getD k z6).2.2.2.2.1) := (hb.cell (p := ⟨b, off + k * 6 + 4, none⟩) hbl).trans (hc k hlt).2.2.2.2.1
      have hx5 : wr.cell? ⟨b, off + k * 6 + 5, none⟩ = some (.int .i64 (xs.getD k z6).2.2.2.2.2) := (hb.cell (p := ⟨b, off + k * 6 + 5, none⟩) hbl).trans (hc k hlt).2.2.2.2.2
      have G1 := Lib.hid (fun h => rollsOkB_bad (gdR_badT (l := xs) (W := W) (k := k) h) hlt)
      have G2 := Lib.hid (fun h => rollsOkB_bad (gdR_badM (l := xs) (W := W) (k := k) h) hlt)
      have G3 := Lib.hid (fun hk h => rollsOkB_bad (gdR_badL (l := xs) (W := W) (k := k) hk h) hlt)
      have G4 := Lib.hid (fun h => rollsOkB_bad (gdR_badV (l := xs) (W := W) (k := k) h) hlt)
      have G5 := Lib.hid (gdR_ok (l := xs) (W := W) (k := k))
      have HT := Lib.hid (rfl : (xs.getD k z6).1 = (xs.getD k z6).1)
      obtain ⟨t, ht⟩ : ∃ t, t = (xs.getD k z6).1 := ⟨_, rfl⟩
      rw [← ht] at hx0 G1 G2 G3 G5
      have Ht := Lib.hid ht
      clear ht hc HT
      generalize (xs.getD k z6).2.1 = c at *
      generalize (xs.getD k z6).2.2.1 = s at *
      generalize (xs.getD k z6).2.2.2.1 = mn at *
      generalize (xs.getD k z6).2.2.2.2.1 = mx at *
      generalize (xs.getD k z6).2.2.2.2.2 = la at *
      by_cases c1 : t ≤ y
      · have E := Lib.hid (show rollsOkB xs W = false from by
          have hy := HY.out
          by_cases hk0 : k = 0
          · rw [if_pos hk0] at hy; exact G1.out (by omega)
          · rw [if_neg hk0] at hy; exact G3.out hk0 (by omega))
        go_wp2_with fail
        go_ret
        exact ⟨by rw [E.out]; rfl, by
          first | exact hb | exact hb.alloc hsz _⟩
      by_cases c2 : 1000000000000 < t
      · have E := Lib.hid (G1.out (by omega))
        have c1' : decide (t ≤ y) = false := decide_eq_false c1
        have c2' : decide (1000000000000 < t) = true := decide_eq_true c2
        go_wp2_with fail
        go_ret
        exact ⟨by rw [E.out]; rfl, by
          first | exact hb | exact hb.alloc hsz _⟩
      have c1' : decide (t ≤ y) = false := decide_eq_false c1
      have c2' : decide (1000000000000 < t) = false := decide_eq_false c2
      by_cases c3 : t % W = 0
      case neg =>
        have E := Lib.hid (G2.out c3)
        have c3' : (t % W != 0) = true := by simpa using c3
        have c3'' : decide (t % W = 0) = false := decide_eq_false c3
        go_wp2_with fail
        go_ret
        exact ⟨by rw [E.out]; rfl, by
          first | exact hb | exact hb.alloc hsz _⟩
      have HVk := Lib.hid (fun w => HV.out t c s mn mx la w)
      cases hV : okVB c s mn mx la with
      | false =>
        have E := Lib.hid (G4.out hV)
        rw [hV] at HVk
        clear hV
        go_wp2_with fail
        refine (HVk.out _).mono ?_
        rintro e w5 ⟨rfl, hb5⟩
        have hb6 := (hb.alloc hsz _).trans (hb5.mono (by simp; omega))
        clear hb5
        go_wp2_with fail
        go_ret
        exact ⟨by rw [E.out]; rfl, hb6⟩
      | true =>
        have G := Lib.hid (show gdToR xs W (k + 1) = true from by
          rw [gdToR_succ, Hg.out]
          have hy := HY.out
          refine G5.out ?_ c3 hV ?_
          · by_cases hk0 : k = 0
            · rw [if_pos hk0] at hy; omega
            · rw [if_neg hk0] at hy; omega
          · by_cases hk0 : k = 0
            · exact .inl hk0
            · rw [if_neg hk0] at hy; right; omega)
        rw [hV] at HVk
        clear hV
        go_wp2_with fail
        refine (HVk.out _).mono ?_
        rintro e w5 ⟨rfl, hb5⟩
        have hx5 : w5.cell? ⟨wr.heap.size, 0, none⟩ = some (.int .i64 t) := (hb5.cell (p := ⟨wr.heap.size, 0, none⟩) (by simp)).trans (by go_simp)
        have hb6 := Lib.hid ((hb.alloc hsz _).trans (hb5.mono (by simp; omega)))
        clear hb5
        go_wp2_with fail
        go_roundw
        case rel => exact ⟨k + 1, t, by omega, by go_num, rfl, by omega, (show t = if k + 1 = 0 then -1 else (xs.getD (k + 1 - 1) z6).1 from by rw [if_neg (by omega)]; exact Ht.out), G.out, hb6.out⟩
        case measure => simp [intOf]; omega
    · obtain rfl : k = xs.length := by omega
      go_wp2_with fail
      go_ret
      exact ⟨by rw [EE.out Hg.out]; rfl, hb⟩

end Go.Proofs.Ytkekpkfhljankaa

/- Walks: cascades: the program's checks. -/
set_option linter.unusedVariables false
set_option linter.unusedSimpArgs false
namespace Go.Proofs.Ytkekpkfhljankaa
open Go.RowKit

set_option maxRecDepth 100000 in
set_option maxHeartbeats 400000 in
theorem recent_any (e n k : Int) (w : World) (h : IntKind.i64.wrap (n - k) = n - k) : Calls Try.prog 86 #[.int .i64 e, .int .i64 n, .int .i64 k] w fun x w' => x = .returned (.bool (decide (n - k < e))) ∧ w = w' := by
  go_enter Try.func86, Try.ntmps86
  go_wp2_with fail
  go_ret
  exact ⟨rfl, rfl⟩
theorem recent_q (e n k : Int) (w : World) (h : IntKind.i64.wrap (n - k) = n - k) : Calls Try.prog 86 #[.int .i64 e, .int .i64 n, .int .i64 k] w fun x w' => x = .returned (.bool (decide (n - k < e))) ∧ w' = w :=
  (recent_any e n k w h).mono fun _ _ ⟨h, h'⟩ => ⟨h, h'.symm⟩

set_option maxRecDepth 100000 in
set_option maxHeartbeats 400000 in
theorem timeOk_any (v : Int) (w : World) : Calls Try.prog 85 #[.int .i64 v] w fun e w' => e = .returned (.bool (vIn v 0 1000000000000)) ∧ w' = w := by
  by_cases h1 : 0 ≤ v
  · by_cases h2 : v ≤ 1000000000000
    · rw [vIn_true h1 h2]
      go_enter Try.func85, Try.ntmps85
      go_wp2
      go_ret
      exact ⟨rfl, rfl⟩
    · rw [vIn_false (fun h => h2 h.2)]
      go_enter Try.func85, Try.ntmps85
      go_wp2
      go_ret
      exact ⟨rfl, rfl⟩
  · rw [vIn_false (fun h => h1 h.1)]
    go_enter Try.func85, Try.ntmps85
    go_wp2
    go_ret
    exact ⟨rfl, rfl⟩

set_option maxRecDepth 100000 in
set_option maxHeartbeats 2000000 in
theorem timesOk_any (nw kp : Int) (A B : Option Addr) (n m c d : Nat) (w : World) :
    Calls Try.prog 79 #[.agg #[.int .i64 nw, .int .i64 kp, .slice A n c, .slice B m d]] w fun x w' => x = .returned (.bool (vIn nw 0 1000000000000 && vIn kp 1 1000000000)) ∧ Below w.heap.size w w' := by
  have HT := Lib.hid (fun W => timeOk_any nw W)
  cases h1 : vIn nw 0 1000000000000 with
  | false =>
    rw [h1] at HT
    clear h1
    go_enter Try.func79, Try.ntmps79
    go_wp2_with (go_at_call 85; refine (HT.out _).mono ?_; rintro e w' ⟨rfl, rfl⟩)
    go_ret
    exact ⟨rfl, by
      repeat (first | exact Below.refl _ _ | refine Below.alloc ?_ (by simp; try omega) _ | refine Below.setCell ?_ (by simp; try omega) _ | refine Below.drew ?_ | refine below_drewN_u ?_ _)⟩
  | true =>
  rw [h1] at HT
  clear h1
  by_cases h3 : 1 ≤ kp
  case neg =>
    rw [show vIn kp 1 1000000000 = false from vIn_false (fun h => h3 h.1)]
    go_enter Try.func79, Try.ntmps79
    go_wp2_with (go_at_call 85; refine (HT.out _).mono ?_; rintro e w' ⟨rfl, rfl⟩)
    go_ret
    exact ⟨by first | rfl | (rw [show decide (1 ≤ kp) = false from decide_eq_false (by omega)]; rfl), by
      repeat (first | exact Below.refl _ _ | refine Below.alloc ?_ (by simp; try omega) _ | refine Below.setCell ?_ (by simp; try omega) _ | refine Below.drew ?_ | refine below_drewN_u ?_ _)⟩
  by_cases h4 : kp ≤ 1000000000
  case neg =>
    rw [show vIn kp 1 1000000000 = false from vIn_false (fun h => h4 h.2)]
    go_enter Try.func79, Try.ntmps79
    go_wp2_with (go_at_call 85; refine (HT.out _).mono ?_; rintro e w' ⟨rfl, rfl⟩)
    go_ret
    exact ⟨by first | rfl | (rw [show decide (kp ≤ 1000000000) = false from decide_eq_false (by omega)]; rfl), by
      repeat (first | exact Below.refl _ _ | refine Below.alloc ?_ (by simp; try omega) _ | refine Below.setCell ?_ (by simp; try omega) _ | refine Below.drew ?_ | refine below_drewN_u ?_ _)⟩
  rw [show vIn kp 1 1000000000 = true from vIn_true h3 h4]
  go_enter Try.func79, Try.ntmps79
  go_wp2_with (go_at_call 85; refine (HT.out _).mono ?_; rintro e w' ⟨rfl, rfl⟩)
  go_ret
  exact ⟨by first | rfl | (rw [decide_eq_true h4]; rfl), by
    repeat (first | exact Below.refl _ _ | refine Below.alloc ?_ (by simp; try omega) _ | refine Below.setCell ?_ (by simp; try omega) _ | refine Below.drew ?_ | refine below_drewN_u ?_ _)⟩


def rawM (nw kp : Int) (rp : List (Int × Int)) : Bool := rp.all (rawAt nw kp) && ptsSmB rp
theorem rawM_bad {nw kp : Int} {rp : List (Int × Int)} {j : Nat} (hj : j < rp.length) (h : rawAt nw kp (rp.getD j (0, 0)) = false) : rawM nw kp rp = false := by
  unfold rawM
  have : rp.all (rawAt nw kp) = false := by
    rw [List.all_eq_false]
    refine ⟨rp[j], List.getElem_mem hj, ?_⟩
    rw [List.getD_eq_getElem?_getD, List.getElem?_eq_getElem hj] at h
    simpa using h
  rw [this]; rfl
theorem rawM_ok {nw kp : Int} {rp : List (Int × Int)} (h : ∀ j, j < rp.length → rawAt nw kp (rp.getD j (0, 0)) = true) : rawM nw kp rp = ptsSmB rp := by
  unfold rawM
  have : rp.all (rawAt nw kp) = true := by
    rw [List.all_eq_true]
    intro p hp
    obtain ⟨i, hi, rfl⟩ := List.getElem_of_mem hp
    have := h i hi
    rw [List.getD_eq_getElem?_getD, List.getElem?_eq_getElem hi] at this
    exact this
  rw [this]; rfl

set_option maxRecDepth 100000 in
set_option maxHeartbeats 4000000 in
theorem rawOk_any (nw kp : Int) (rv : Value) (B : Option Addr) (m d : Nat) (rp : List (Int × Int)) (w : World) (h : PL w w.heap.size rv rp) (hn : 0 ≤ nw ∧ nw ≤ 1000000000000) (hk : 1 ≤ kp ∧ kp ≤ 1000000000) :
    Calls Try.prog 80 #[.agg #[.int .i64 nw, .int .i64 kp, rv, .slice B m d]] w (BoolPost (rawM nw kp rp) w) := by
  have HP := Lib.hid h
  obtain ⟨_, hpl, Ap, cp, rfl, hcp⟩ := h
  have hbx : Below w.heap.size w (w.alloc (.cells #[.int .i64 nw, .int .i64 kp, .slice Ap rp.length cp, .slice B m d] 32)) := (Below.refl _ _).alloc (Nat.le_refl _) _
  have HBX := Lib.hid hbx
  clear hbx
  have eNK : IntKind.i64.wrap (nw - kp) = nw - kp := IntWalk.i64_in _ (by omega)
  have HSm := Lib.hid (fun W h => smallPoints_any (.slice Ap rp.length cp) rp W h)
  have HBad := Lib.hid (fun j hj h => rawM_bad (nw := nw) (kp := kp) (rp := rp) (j := j) hj h)
  have HOk := Lib.hid (fun h => rawM_ok (nw := nw) (kp := kp) (rp := rp) h)
  go_enter Try.func80, Try.ntmps80
  go_wp2_with fail
  have q0 : (w.alloc (.cells #[.int .i64 nw, .int .i64 kp, .slice Ap rp.length cp, .slice B m d] 32)).cell? ⟨w.heap.size, 0, none⟩ = some (.int .i64 nw) := by go_simp
  have q1 : (w.alloc (.cells #[.int .i64 nw, .int .i64 kp, .slice Ap rp.length cp, .slice B m d] 32)).cell? ⟨w.heap.size, 1, none⟩ = some (.int .i64 kp) := by go_simp
  have q2 : (w.alloc (.cells #[.int .i64 nw, .int .i64 kp, .slice Ap rp.length cp, .slice B m d] 32)).cell? ⟨w.heap.size, 2, none⟩ = some (.slice Ap rp.length cp) := by go_simp
  have hlt1 : w.heap.size < (w.alloc (.cells #[.int .i64 nw, .int .i64 kp, .slice Ap rp.length cp, .slice B m d] 32)).heap.size := by simp
  generalize (w.alloc (.cells #[.int .i64 nw, .int .i64 kp, .slice Ap rp.length cp, .slice B m d] 32)) = w1 at *
  have Q0 := Lib.hid q0
  have Q1 := Lib.hid q1
  have Q2 := Lib.hid q2
  clear q0 q1 q2
  go_loopw [8] (fun i wr => ∃ j : Nat, j ≤ rp.length ∧ i = .int .i64 j ∧ Hid (Below w1.heap.size w1 wr) ∧ Hid (∀ i, i < j → rawAt nw kp (rp.getD i (0, 0)) = true)) (fun i _ => rp.length - (intOf i).toNat)
  case atStart => exact ⟨0, Nat.zero_le _, rfl, Lib.hid (Below.refl _ _), Lib.hid (fun i hi => by omega)⟩
  case round =>
    obtain ⟨j, hj, rfl, HD, HG⟩ := hrel
    have hszD := HD.out.size
    have z0 : wr.cell? ⟨w.heap.size, 0, none⟩ = some (.int .i64 nw) := (HD.out.cell (p := ⟨w.heap.size, 0, none⟩) hlt1).trans Q0.out
    have z1 : wr.cell? ⟨w.heap.size, 1, none⟩ = some (.int .i64 kp) := (HD.out.cell (p := ⟨w.heap.size, 1, none⟩) hlt1).trans Q1.out
    have z2 : wr.cell? ⟨w.heap.size, 2, none⟩ = some (.slice Ap rp.length cp) := (HD.out.cell (p := ⟨w.heap.size, 2, none⟩) hlt1).trans Q2.out
    have HBr := Lib.hid (HBX.out.trans (HD.out.mono HBX.out.size))
    have hbs := HBX.out.size
    have hltr : w.heap.size < wr.heap.size := by omega
    by_cases hlt : j < rp.length
    · rcases hcp with hcp | ⟨b, off, rfl, hbl, hcp⟩
      · subst hcp; simp at hlt
      have hx0 : wr.cell? ⟨b, off + j * 2, none⟩ = some (.int .i64 (rp.getD j (0, 0)).1) := (HBr.out.cell (p := ⟨b, off + j * 2, none⟩) hbl).trans (hcp j hlt).1
      have hx1 : wr.cell? ⟨b, off + j * 2 + 1, none⟩ = some (.int .i64 (rp.getD j (0, 0)).2) := (HBr.out.cell (p := ⟨b, off + j * 2 + 1, none⟩) hbl).trans (hcp j hlt).2
      clear hcp
      have HBj := Lib.hid (fun h => HBad.out j hlt h)
      obtain ⟨x, hx⟩ : ∃ x, x = (rp.getD j (0, 0)).1 := ⟨_, rfl⟩
      rw [← hx] at hx0
      have HRA : Hid (rawAt nw kp (rp.getD j (0, 0)) = (decide (x ≤ nw) && decide (nw - kp < x))) := Lib.hid (by unfold rawAt; rw [← hx])
      clear hx
      generalize (rp.getD j (0, 0)).2 = y at hx1
      have HRc := Lib.hid (fun w => recent_any x nw kp w eNK)
      by_cases g1 : x ≤ nw
      case neg =>
        have E := Lib.hid (HBj.out (by rw [HRA.out, decide_eq_false g1]; rfl))
        have g1' : decide (nw < x) = true := decide_eq_true (by omega)
        go_wp2_with (go_at_call 86; refine (HRc.out _).mono ?_; rintro e w' ⟨rfl, rfl⟩)
        go_ret
        exact ⟨by rw [E.out]; rfl, HBr.out.alloc (by omega) _⟩
      have g1' : decide (nw < x) = false := decide_eq_false (by omega)
      by_cases g2 : nw - kp < x
      case neg =>
        have E := Lib.hid (HBj.out (by rw [HRA.out, decide_eq_false g2, Bool.and_false]))
        rw [decide_eq_false g2] at HRc
        go_wp2_with (go_at_call 86; refine (HRc.out _).mono ?_; rintro e w' ⟨rfl, rfl⟩)
        go_ret
        exact ⟨by rw [E.out]; rfl, HBr.out.alloc (by omega) _⟩
      rw [decide_eq_true g2] at HRc
      have HT := Lib.hid (show rawAt nw kp (rp.getD j (0, 0)) = true from by rw [HRA.out, decide_eq_true g1, decide_eq_true g2]; rfl)
      go_wp2_with (go_at_call 86; refine (HRc.out _).mono ?_; rintro e w' ⟨rfl, rfl⟩)
      go_roundw
      case rel =>
        refine ⟨j + 1, by omega, by go_num, Lib.hid (HD.out.alloc hszD _), Lib.hid (fun i hi => ?_)⟩
        by_cases e : i = j
        · rw [e]; exact HT.out
        · exact HG.out i (by omega)
      case measure => simp [intOf]; omega
    · obtain rfl : j = rp.length := by omega
      have E := Lib.hid (HOk.out HG.out)
      go_wp2_with fail
      refine (HSm.out _ ((HP.out.below HBr.out).up HBr.out.size)).mono ?_
      rintro e w5 ⟨rfl, hb5⟩
      have HB5 := Lib.hid (HBr.out.trans (hb5.mono HBr.out.size))
      clear hb5
      go_wp2_with fail
      go_ret
      exact ⟨by rw [E.out]; rfl, HB5.out⟩
end Go.Proofs.Ytkekpkfhljankaa
