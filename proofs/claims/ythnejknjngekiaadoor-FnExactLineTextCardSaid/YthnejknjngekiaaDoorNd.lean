/- Walks: the program's valid labels. -/
import Derived.Test.YthnejknjngekiaaDoorNc
set_option linter.unusedVariables false
set_option linter.unusedSimpArgs false
namespace Go.Proofs.YthnejknjngekiaaDoor
open Go.RowKit

theorem wordB_ne {s : ByteArray} (h : wordB s = true) : s.toList ≠ [] := by
  intro e
  unfold wordB at h
  rw [Bool.and_eq_true, decide_eq_true_iff] at h
  have h2 := str_empty s
  rw [e] at h2
  simp only [List.isEmpty_nil] at h2
  have := of_decide_eq_true h2.symm
  omega
/-- the name ahead of the k-th label's, as the program keeps it -/
def lastAt (xs : List (ByteArray × ByteArray)) (k : Nat) : ByteArray := if k = 0 then em else nmAt xs (k - 1)
theorem less_last {xs : List (ByteArray × ByteArray)} {k : Nat} (h : wordB (nmAt xs k) = true) :
    (decide (k = 0) || Go.Op.bytesLess (nmAt xs (k - 1)).toList (nmAt xs k).toList) = Go.Op.bytesLess (lastAt xs k).toList (nmAt xs k).toList := by
  unfold lastAt
  by_cases e : k = 0
  · rw [if_pos e, decide_eq_true e]
    have hn := wordB_ne h
    rw [show em.toList = [] from by rw [ByteArray.toList_eq]]
    cases hl : (nmAt xs k).toList with
    | nil => exact absurd hl hn
    | cons a l => rfl
  · rw [if_neg e, decide_eq_false e]; rfl

set_option maxRecDepth 100000 in
set_option maxHeartbeats 4000000 in
theorem implLabelsOk_any (v : Value) (xs : List (ByteArray × ByteArray)) (w : World) (h : LL w w.heap.size v xs) : Calls Tryd.prog 24 #[v] w (BoolPostL (labOkB xs) w) := by
  obtain ⟨hr, hlen, A, c, rfl, h3⟩ := h
  have HW := Lib.hid (fun s W (hs : s.size ≤ maxLen) => wordOk_any s W hs)
  have Hr := Lib.hid hr
  clear hr
  by_cases hin : 1 ≤ xs.length ∧ xs.length ≤ 5
  · obtain ⟨n1, n5⟩ := hin
    have m0 : decide ((xs.length : Int) = 0) = false := decide_eq_false (by omega)
    have m0' : ((xs.length : Int) == 0) = false := by rw [beq_eq_false_iff_ne]; omega
    have m5 : decide ((5 : Int) < (xs.length : Int)) = false := decide_eq_false (by omega)
    go_enter Tryd.func24, Tryd.ntmps24
    go_wp2_with fail
    clear m0 m0' m5
    go_loopw [3, 16] (fun p i wr => ∃ k : Nat, k ≤ xs.length ∧ i = .int .i64 k ∧ p = .string (lastAt xs k) ∧ lTo xs k = true ∧ Below w.heap.size w wr) (fun _ i _ => xs.length - (intOf i).toNat)
    case atStart => exact ⟨0, Nat.zero_le _, rfl, rfl, rfl, Below.refl _ _⟩
    case round =>
      obtain ⟨k, hk, rfl, rfl, hg, hb⟩ := hrel
      have Hg := Lib.hid hg
      have hsz := hb.size
      clear hg
      by_cases hlt : k < xs.length
      · rcases h3 with h3 | ⟨b, off, rfl, hbl, hc⟩
        · subst h3; simp at hlt
        have hx0 : wr.cell? ⟨b, off + k * 2, none⟩ = some (.string (nmAt xs k)) := (hb.cell (p := ⟨b, off + k * 2, none⟩) hbl).trans (hc k hlt).1
        have hx1 : wr.cell? ⟨b, off + k * 2 + 1, none⟩ = some (.string (vlAt xs k)) := (hb.cell (p := ⟨b, off + k * 2 + 1, none⟩) hbl).trans (hc k hlt).2
        have Hn := Lib.hid (fun W => HW.out (nmAt xs k) W (Hr.out k).1)
        have Hv := Lib.hid (fun W => HW.out (vlAt xs k) W (Hr.out k).2)
        have hnext : lastAt xs (k + 1) = nmAt xs k := by unfold lastAt; rw [if_neg (by omega)]; rfl
        cases hN : wordB (nmAt xs k) with
        | false =>
          have E := Lib.hid (lTo_bad (xs := xs) (k := k) (by unfold lAt; rw [hN]; rfl) hlt)
          rw [hN] at Hn
          generalize nmAt xs k = nm at *
          generalize vlAt xs k = vl at *
          generalize lastAt xs k = la at *
          clear hN hc hnext
          go_wp2_with fail
          refine (Hn.out _).mono ?_
          rintro e w2 ⟨rfl, rfl⟩
          go_wp2_with fail
          go_ret
          exact ⟨by rw [E.out]; rfl, hb.alloc hsz _⟩
        | true =>
          have hl2 := less_last (xs := xs) (k := k) hN
          rw [hN] at Hn
          cases hV : wordB (vlAt xs k) with
          | false =>
            have E := Lib.hid (lTo_bad (xs := xs) (k := k) (by unfold lAt; rw [hN, hV]; rfl) hlt)
            rw [hV] at Hv
            clear hl2
            generalize nmAt xs k = nm at *
            generalize vlAt xs k = vl at *
            generalize lastAt xs k = la at *
            clear hN hV hc hnext
            go_wp2_with fail
            refine (Hn.out _).mono ?_
            rintro e w2 ⟨rfl, rfl⟩
            go_wp2_with fail
            refine (Hv.out _).mono ?_
            rintro e w2 ⟨rfl, rfl⟩
            go_wp2_with fail
            go_ret
            exact ⟨by rw [E.out]; rfl, hb.alloc hsz _⟩
          | true =>
            rw [hV] at Hv
            have hll := less_le (nmAt xs k).toList (lastAt xs k).toList
            cases hL : Go.Op.bytesLess (lastAt xs k).toList (nmAt xs k).toList with
            | true =>
              have E := Lib.hid (show lTo xs (k + 1) = true from by rw [lTo_succ, Hg.out]; unfold lAt; rw [hN, hV, hl2, hL]; rfl)
              rw [hL] at hll
              have HX := Lib.hid hnext
              clear hl2 hnext
              generalize nmAt xs k = nm at *
              generalize vlAt xs k = vl at *
              generalize lastAt xs k = la at *
              clear hN hV hc hL
              go_wp2_with fail
              refine (Hn.out _).mono ?_
              rintro e w2 ⟨rfl, rfl⟩
              go_wp2_with fail
              refine (Hv.out _).mono ?_
              rintro e w2 ⟨rfl, rfl⟩
              go_wp2_with fail
              refine ⟨⟨k + 1, by omega, by go_num, by rw [HX.out], E.out, hb.alloc hsz _⟩, by simp [intOf]; omega⟩
            | false =>
              have E := Lib.hid (lTo_bad (xs := xs) (k := k) (by unfold lAt; rw [hN, hV, hl2, hL]; rfl) hlt)
              rw [hL] at hll
              clear hl2 hnext
              generalize nmAt xs k = nm at *
              generalize vlAt xs k = vl at *
              generalize lastAt xs k = la at *
              clear hN hV hc hL
              go_wp2_with fail
              refine (Hn.out _).mono ?_
              rintro e w2 ⟨rfl, rfl⟩
              go_wp2_with fail
              refine (Hv.out _).mono ?_
              rintro e w2 ⟨rfl, rfl⟩
              go_wp2_with fail
              go_ret
              exact ⟨by rw [E.out]; rfl, hb.alloc hsz _⟩
      · obtain rfl : k = xs.length := by omega
        have H := Lib.hid (show labOkB xs = true from by unfold labOkB; rw [Hg.out, decide_eq_true (by omega)]; rfl)
        go_wp2_with fail
        go_ret
        exact ⟨by rw [H.out]; rfl, hb⟩
  · have H := Lib.hid (show labOkB xs = false from by unfold labOkB; rw [decide_eq_false hin]; rfl)
    by_cases n0 : xs.length = 0
    · have m0 : ((xs.length : Int) == 0) = true := by rw [beq_iff_eq]; omega
      have m0' : decide ((xs.length : Int) = 0) = true := decide_eq_true (by omega)
      go_enter Tryd.func24, Tryd.ntmps24
      go_wp2_with fail
      go_ret
      exact ⟨by rw [H.out]; rfl, Below.refl _ _⟩
    · have m0 : ((xs.length : Int) == 0) = false := by rw [beq_eq_false_iff_ne]; omega
      have m0' : decide ((xs.length : Int) = 0) = false := decide_eq_false (by omega)
      have m5 : decide ((5 : Int) < (xs.length : Int)) = true := decide_eq_true (by omega)
      go_enter Tryd.func24, Tryd.ntmps24
      go_wp2_with fail
      go_ret
      exact ⟨by rw [H.out]; rfl, Below.refl _ _⟩
end Go.Proofs.YthnejknjngekiaaDoor
