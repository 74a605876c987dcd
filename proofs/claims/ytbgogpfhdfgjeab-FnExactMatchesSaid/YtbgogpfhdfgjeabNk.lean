/- Walks: matches compared; their sizes. -/
import Derived.Test.YtbgogpfhdfgjeabNj
set_option linter.unusedVariables false
set_option linter.unusedSimpArgs false
namespace Go.Proofs.Ytbgogpfhdfgjeab
open Go.RowKit

set_option maxRecDepth 100000 in
set_option maxHeartbeats 400000 in
theorem eqMatch_any (a b : ByteArray) (c : Bool) (d e : ByteArray) (f : Bool) (w : World) :
    Calls Try.prog 37 #[.agg #[.string a, .string b, .bool c], .agg #[.string d, .string e, .bool f]] w (BoolPostL (decide ((a, b, c) = (d, e, f))) w) := by
  by_cases h1 : a = d
  · by_cases h2 : b = e
    · subst h1 h2
      cases c <;> cases f
      case false.false =>
        rw [show decide ((a, b, false) = (a, b, false)) = true by simp]
        go_enter Try.func37, Try.ntmps37
        go_wp2
        go_ret
        exact ⟨rfl, by repeat (first | exact Below.refl _ _ | refine Below.alloc ?_ (by simp; try omega) _ | refine Below.setCell ?_ (by simp; try omega) _ | refine Below.drew ?_)⟩
      case true.true =>
        rw [show decide ((a, b, true) = (a, b, true)) = true by simp]
        go_enter Try.func37, Try.ntmps37
        go_wp2
        go_ret
        exact ⟨rfl, by repeat (first | exact Below.refl _ _ | refine Below.alloc ?_ (by simp; try omega) _ | refine Below.setCell ?_ (by simp; try omega) _ | refine Below.drew ?_)⟩
      case true.false =>
        rw [show decide ((a, b, true) = (a, b, false)) = false by simp]
        go_enter Try.func37, Try.ntmps37
        go_wp2
        go_ret
        exact ⟨rfl, by repeat (first | exact Below.refl _ _ | refine Below.alloc ?_ (by simp; try omega) _ | refine Below.setCell ?_ (by simp; try omega) _ | refine Below.drew ?_)⟩
      case false.true =>
        rw [show decide ((a, b, false) = (a, b, true)) = false by simp]
        go_enter Try.func37, Try.ntmps37
        go_wp2
        go_ret
        exact ⟨rfl, by repeat (first | exact Below.refl _ _ | refine Below.alloc ?_ (by simp; try omega) _ | refine Below.setCell ?_ (by simp; try omega) _ | refine Below.drew ?_)⟩
    · have hn : decide ((a, b, c) = (d, e, f)) = false := by simp [h2]
      rw [hn]
      have hbne := str_ne h2
      subst h1
      clear hn
      go_enter Try.func37, Try.ntmps37
      go_wp2
      go_ret
      exact ⟨rfl, by repeat (first | exact Below.refl _ _ | refine Below.alloc ?_ (by simp; try omega) _ | refine Below.setCell ?_ (by simp; try omega) _ | refine Below.drew ?_)⟩
  · have hn : decide ((a, b, c) = (d, e, f)) = false := by simp [h1]
    rw [hn]
    have hbne := str_ne h1
    clear hn
    go_enter Try.func37, Try.ntmps37
    go_wp2
    go_ret
    exact ⟨rfl, by repeat (first | exact Below.refl _ _ | refine Below.alloc ?_ (by simp; try omega) _ | refine Below.setCell ?_ (by simp; try omega) _ | refine Below.drew ?_)⟩

set_option maxRecDepth 100000 in
set_option maxHeartbeats 1000000 in
theorem eqMatchS_any (v u : Value) (xs ys : List MT) (w : World) (h : ML w w.heap.size v xs) (h' : ML w w.heap.size u ys) :
    Calls Try.prog 21 #[v, u] w (BoolPostL (decide (xs = ys)) w) := by
  obtain ⟨hr, hlen, A, c, rfl, h3⟩ := h
  obtain ⟨hr', hlen', A', c', rfl, h3'⟩ := h'
  have Hr := Lib.hid hr
  have Hr' := Lib.hid hr'
  clear hr hr'
  have hE := Lib.hid (fun a b c d e f W => eqMatch_any a b c d e f W)
  by_cases hl : xs.length = ys.length
  · have Hl := Lib.hid hl
    have hne : decide ((xs.length : Int) = (ys.length : Int)) = true := by simp; omega
    have hbne : ((xs.length : Int) != (ys.length : Int)) = false := by simp; omega
    clear hl
    go_enter Try.func21, Try.ntmps21
    go_wp2_with fail
    go_loopw [5] (fun i wr => ∃ k : Nat, k ≤ xs.length ∧ i = .int .i64 k ∧ (∀ j, j < k → xs.getD j em3 = ys.getD j em3) ∧ Below w.heap.size w wr) (fun i _ => xs.length - (intOf i).toNat)
    case atStart => exact ⟨0, Nat.zero_le _, rfl, fun j hj => by omega, Below.refl _ _⟩
    case round =>
      obtain ⟨k, hk, rfl, hag, hb⟩ := hrel
      have Hag := Lib.hid hag
      clear hag
      by_cases hlt : k < xs.length
      · have hlt' : k < ys.length := by have := Hl.out; omega
        rcases h3 with h3 | ⟨b, off, rfl, hbl, hc⟩
        · subst h3; simp at hlt
        rcases h3' with h3' | ⟨b', off', rfl, hbl', hc'⟩
        · subst h3'; simp at hlt'
        have hx0 : wr.cell? ⟨b, off + k * 3, none⟩ = some (.string (xs.getD k em3).1) := (hb.cell (p := ⟨b, off + k * 3, none⟩) hbl).trans (hc k hlt).1
        have hx1 : wr.cell? ⟨b, off + k * 3 + 1, none⟩ = some (.string (xs.getD k em3).2.1) := (hb.cell (p := ⟨b, off + k * 3 + 1, none⟩) hbl).trans (hc k hlt).2.1
        have hx2 : wr.cell? ⟨b, off + k * 3 + 2, none⟩ = some (.bool (xs.getD k em3).2.2) := (hb.cell (p := ⟨b, off + k * 3 + 2, none⟩) hbl).trans (hc k hlt).2.2
        have hy0 : wr.cell? ⟨b', off' + k * 3, none⟩ = some (.string (ys.getD k em3).1) := (hb.cell (p := ⟨b', off' + k * 3, none⟩) hbl').trans (hc' k hlt').1
        have hy1 : wr.cell? ⟨b', off' + k * 3 + 1, none⟩ = some (.string (ys.getD k em3).2.1) := (hb.cell (p := ⟨b', off' + k * 3 + 1, none⟩) hbl').trans (hc' k hlt').2.1
        have hy2 : wr.cell? ⟨b', off' + k * 3 + 2, none⟩ = some (.bool (ys.getD k em3).2.2) := (hb.cell (p := ⟨b', off' + k * 3 + 2, none⟩) hbl').trans (hc' k hlt').2.2
        obtain ⟨x, y, p, hX⟩ : ∃ x y p, xs.getD k em3 = (x, y, p) := ⟨_, _, _, rfl⟩
        obtain ⟨z, t, q, hZ⟩ : ∃ x y p, ys.getD k em3 = (x, y, p) := ⟨_, _, _, rfl⟩
        rw [hX] at hx0 hx1 hx2
        rw [hZ] at hy0 hy1 hy2
        have HX := Lib.hid hX
        have HZ := Lib.hid hZ
        clear hX hZ hc hc'
        have HB := Lib.hid hb
        have hsz := hb.size
        by_cases e : (x, y, p) = (z, t, q)
        · have E := Lib.hid e
          have hE2 := Lib.hid (fun W => hE.out x y p z t q W)
          rw [decide_eq_true e] at hE2
          clear e
          go_wp2_with fail
          go_region_law (go_simp; go_at_call 37; (refine (hE2.out _).mono ?_); rintro e w5 ⟨rfl, hb5⟩; have hb6 := HB.out.drew.trans (hb5.mono hsz); have HB6 := Lib.hid hb6; clear hb5 hb6)
          all_goals
           go_simp
           go_wp2_with fail
           go_roundw
           case rel =>
             refine ⟨k + 1, by omega, by go_num, fun j hj => ?_, HB6.out⟩
             by_cases e : j = k
             · subst e; rw [HX.out, HZ.out, E.out]
             · exact Hag.out j (by omega)
           case measure => simp [intOf]; omega
        · have E := Lib.hid (mne_of_get (xs := xs) (ys := ys) k (by rw [HX.out, HZ.out]; exact e))
          have hE2 := Lib.hid (fun W => hE.out x y p z t q W)
          rw [decide_eq_false e] at hE2
          clear e
          go_wp2_with fail
          go_region_law (go_simp; go_at_call 37; (refine (hE2.out _).mono ?_); rintro e w5 ⟨rfl, hb5⟩; have hb6 := HB.out.drew.trans (hb5.mono hsz); have HB6 := Lib.hid hb6; clear hb5 hb6)
          all_goals
           go_simp
           go_wp2_with fail
           go_ret
           exact ⟨by rw [E.out]; rfl, HB6.out⟩
      · obtain rfl : k = xs.length := by omega
        have e : xs = ys := mbs_ext Hl.out (fun j hj => Hag.out j hj)
        have E := Lib.hid (show decide (xs = ys) = true from by simp [e])
        clear e
        go_wp2_with fail
        go_ret
        exact ⟨by rw [E.out]; rfl, hb⟩
  · have E := Lib.hid (mne_of_len hl)
    have hbne : ((xs.length : Int) != (ys.length : Int)) = true := by simp; omega
    have hbne2 : decide ((xs.length : Int) = (ys.length : Int)) = false := by simp; omega
    clear hl
    go_enter Try.func21, Try.ntmps21
    go_wp2_with fail
    go_ret
    exact ⟨by rw [E.out]; rfl, Below.refl _ _⟩
set_option maxRecDepth 100000 in
set_option maxHeartbeats 1000000 in
theorem szMatch_any (a b : ByteArray) (p : Bool) (l : Nat) (w : World) (ha : a.size ≤ maxLen) (hb : b.size ≤ maxLen) (hl : l ≤ 1048576) :
    Calls Try.prog 33 #[.agg #[.string a, .string b, .bool p], .int .i64 (l : Int)] w fun e w' => (∃ r : Int, e = .returned (.int .i64 r) ∧ (r = -1 ∨ ∃ m : Nat, r = m ∧ m ≤ l)) ∧ Below w.heap.size w w' := by
  unfold maxLen at ha hb
  have e1 : wrap64 ((l : Int) - (a.size : Int)) = (l : Int) - (a.size : Int) := by unfold wrap64; omega
  by_cases h1 : (l : Int) - (a.size : Int) < 0
  · go_enter Try.func33, Try.ntmps33
    go_wp2_with fail
    go_ret
    exact ⟨⟨-1, rfl, .inl rfl⟩, by repeat (first | exact Below.refl _ _ | refine Below.alloc ?_ (by simp; try omega) _ | refine Below.setCell ?_ (by simp; try omega) _)⟩
  · have e2 : wrap64 ((l : Int) - (a.size : Int) - (b.size : Int)) = (l : Int) - (a.size : Int) - (b.size : Int) := by unfold wrap64; omega
    by_cases h2 : (l : Int) - (a.size : Int) - (b.size : Int) < 0
    · go_enter Try.func33, Try.ntmps33
      go_wp2_with fail
      go_ret
      exact ⟨⟨-1, rfl, .inl rfl⟩, by repeat (first | exact Below.refl _ _ | refine Below.alloc ?_ (by simp; try omega) _ | refine Below.setCell ?_ (by simp; try omega) _)⟩
    · go_enter Try.func33, Try.ntmps33
      go_wp2_with fail
      go_ret
      exact ⟨⟨_, rfl, .inr ⟨((l : Int) - (a.size : Int) - (b.size : Int)).toNat, by omega, by omega⟩⟩, by repeat (first | exact Below.refl _ _ | refine Below.alloc ?_ (by simp; try omega) _ | refine Below.setCell ?_ (by simp; try omega) _)⟩

set_option maxRecDepth 100000 in
set_option maxHeartbeats 1000000 in
theorem szMatchS_any (A : Option Addr) (n c l : Nat) (w : World) (hn : n ≤ maxLen) (hl : l ≤ 1048576) (hx : n ≤ 1048576 → ∃ xs : List MT, xs.length = n ∧ ML w w.heap.size (.slice A n c) xs) :
    Calls Try.prog 17 #[.slice A n c, .int .i64 (l : Int)] w fun e w' => (∃ r : Int, e = .returned (.int .i64 r) ∧ (r = -1 ∨ ∃ m : Nat, r = m ∧ m ≤ l ∧ n ≤ 1048576)) ∧ Below w.heap.size w w' := by
  unfold maxLen at hn
  have e1 : wrap64 ((l : Int) - (n : Int)) = (l : Int) - (n : Int) := by unfold wrap64; omega
  by_cases h1 : (l : Int) - (n : Int) < 0
  · clear hx
    go_enter Try.func17, Try.ntmps17
    go_wp2_with fail
    go_ret
    exact ⟨⟨-1, rfl, .inl rfl⟩, Below.refl _ _⟩
  · obtain ⟨xs, rfl, hil⟩ := hx (by omega)
    clear hx
    obtain ⟨hr, hlen, A', c', hA, h3⟩ := hil
    injection hA with hA1 hA2 hA3
    subst hA1
    have Hr := Lib.hid hr
    have HS := Lib.hid (fun a b p l W ha hb hl => szMatch_any a b p l W ha hb hl)
    clear hr hA3
    go_enter Try.func17, Try.ntmps17
    go_wp2_with fail
    go_loopw [1, 5] (fun q i wr => ∃ k m : Nat, k ≤ xs.length ∧ i = .int .i64 k ∧ q = .int .i64 (m : Int) ∧ m ≤ l ∧ Below w.heap.size w wr) (fun _ i _ => xs.length - (intOf i).toNat)
    case atStart => exact ⟨0, l - xs.length, Nat.zero_le _, rfl, by simp; omega, by omega, Below.refl _ _⟩
    case round =>
      obtain ⟨k, m, hk, rfl, rfl, hm, hb⟩ := hrel
      have hsz := hb.size
      by_cases hlt : k < xs.length
      · rcases h3 with h3 | ⟨b, off, rfl, hbl, hc⟩
        · subst h3; simp at hlt
        have hx0 : wr.cell? ⟨b, off + k * 3, none⟩ = some (.string (xs.getD k em3).1) := (hb.cell (p := ⟨b, off + k * 3, none⟩) hbl).trans (hc k hlt).1
        have hx1 : wr.cell? ⟨b, off + k * 3 + 1, none⟩ = some (.string (xs.getD k em3).2.1) := (hb.cell (p := ⟨b, off + k * 3 + 1, none⟩) hbl).trans (hc k hlt).2.1
        have hx2 : wr.cell? ⟨b, off + k * 3 + 2, none⟩ = some (.bool (xs.getD k em3).2.2) := (hb.cell (p := ⟨b, off + k * 3 + 2, none⟩) hbl).trans (hc k hlt).2.2
        have HC := Lib.hid (fun W => HS.out (xs.getD k em3).1 (xs.getD k em3).2.1 (xs.getD k em3).2.2 m W (Hr.out k).1 (Hr.out k).2 (by omega))
        generalize (xs.getD k em3).1 = x at *
        generalize (xs.getD k em3).2.1 = y at *
        generalize (xs.getD k em3).2.2 = z at *
        clear hc e1
        have HB := Lib.hid hb
        clear hb
        go_wp2_with fail
        refine (HC.out _).mono ?_
        rintro e w2 ⟨⟨r, rfl, hr⟩, hb2⟩
        have hb3 := HB.out.trans (hb2.mono hsz)
        clear hb2 HB hx0 hx1 hx2
        rcases hr with rfl | ⟨m', rfl, hm'⟩
        · go_wp2_with fail
          go_ret
          exact ⟨⟨-1, rfl, .inl rfl⟩, hb3⟩
        · go_wp2_with fail
          go_roundw
          case rel => exact ⟨k + 1, m', by omega, by go_num, rfl, by omega, hb3⟩
          case measure => simp [intOf]; omega
      · obtain rfl : k = xs.length := by omega
        go_wp2_with fail
        go_ret
        exact ⟨⟨_, rfl, .inr ⟨m, rfl, hm, hlen⟩⟩, hb⟩

end Go.Proofs.Ytbgogpfhdfgjeab
