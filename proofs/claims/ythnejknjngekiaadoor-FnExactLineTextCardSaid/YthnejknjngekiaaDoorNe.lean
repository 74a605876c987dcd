/- Walks: the sizes of labels; the law FnExactLabelsOk. -/
import Derived.Test.YthnejknjngekiaaDoorNd
set_option linter.unusedVariables false
set_option linter.unusedSimpArgs false
namespace Go.Proofs.YthnejknjngekiaaDoor
open Go.RowKit

set_option maxRecDepth 100000 in
set_option maxHeartbeats 1000000 in
theorem szLabel_any (a b : ByteArray) (l : Nat) (w : World) (ha : a.size ≤ maxLen) (hb : b.size ≤ maxLen) (hl : l ≤ 1048576) :
    Calls Tryd.prog 17 #[.agg #[.string a, .string b], .int .i64 (l : Int)] w fun e w' => (∃ r : Int, e = .returned (.int .i64 r) ∧ (r = -1 ∨ ∃ m : Nat, r = m ∧ m ≤ l)) ∧ Below w.heap.size w w' := by
  unfold maxLen at ha hb
  have e1 : wrap64 ((l : Int) - (a.size : Int)) = (l : Int) - (a.size : Int) := by unfold wrap64; omega
  by_cases h1 : (l : Int) - (a.size : Int) < 0
  · go_enter Tryd.func17, Tryd.ntmps17
    go_wp2_with fail
    go_ret
    exact ⟨⟨-1, rfl, .inl rfl⟩, by repeat (first | exact Below.refl _ _ | refine Below.alloc ?_ (by simp; try omega) _ | refine Below.setCell ?_ (by simp; try omega) _)⟩
  · have e2 : wrap64 ((l : Int) - (a.size : Int) - (b.size : Int)) = (l : Int) - (a.size : Int) - (b.size : Int) := by unfold wrap64; omega
    by_cases h2 : (l : Int) - (a.size : Int) - (b.size : Int) < 0
    · go_enter Tryd.func17, Tryd.ntmps17
      go_wp2_with fail
      go_ret
      exact ⟨⟨-1, rfl, .inl rfl⟩, by repeat (first | exact Below.refl _ _ | refine Below.alloc ?_ (by simp; try omega) _ | refine Below.setCell ?_ (by simp; try omega) _)⟩
    · go_enter Tryd.func17, Tryd.ntmps17
      go_wp2_with fail
      go_ret
      exact ⟨⟨_, rfl, .inr ⟨((l : Int) - (a.size : Int) - (b.size : Int)).toNat, by omega, by omega⟩⟩, by repeat (first | exact Below.refl _ _ | refine Below.alloc ?_ (by simp; try omega) _ | refine Below.setCell ?_ (by simp; try omega) _)⟩

set_option maxRecDepth 100000 in
set_option maxHeartbeats 1000000 in
theorem szLabelS_any (A : Option Addr) (n c l : Nat) (w : World) (hn : n ≤ maxLen) (hl : l ≤ 1048576) (hx : n ≤ 1048576 → ∃ xs : List (ByteArray × ByteArray), xs.length = n ∧ LL w w.heap.size (.slice A n c) xs) :
    Calls Tryd.prog 9 #[.slice A n c, .int .i64 (l : Int)] w fun e w' => (∃ r : Int, e = .returned (.int .i64 r) ∧ (r = -1 ∨ ∃ m : Nat, r = m ∧ m ≤ l ∧ n ≤ 1048576)) ∧ Below w.heap.size w w' := by
  unfold maxLen at hn
  have e1 : wrap64 ((l : Int) - (n : Int)) = (l : Int) - (n : Int) := by unfold wrap64; omega
  by_cases h1 : (l : Int) - (n : Int) < 0
  · clear hx
    go_enter Tryd.func9, Tryd.ntmps9
    go_wp2_with fail
    go_ret
    exact ⟨⟨-1, rfl, .inl rfl⟩, Below.refl _ _⟩
  · obtain ⟨xs, rfl, hil⟩ := hx (by omega)
    clear hx
    obtain ⟨hr, hlen, A', c', hA, h3⟩ := hil
    injection hA with hA1 hA2 hA3
    subst hA1
    have Hr := Lib.hid hr
    have HS := Lib.hid (fun a b l W ha hb hl => szLabel_any a b l W ha hb hl)
    clear hr hA3
    go_enter Tryd.func9, Tryd.ntmps9
    go_wp2_with fail
    go_loopw [1, 5] (fun q i wr => ∃ k m : Nat, k ≤ xs.length ∧ i = .int .i64 k ∧ q = .int .i64 (m : Int) ∧ m ≤ l ∧ Below w.heap.size w wr) (fun _ i _ => xs.length - (intOf i).toNat)
    case atStart => exact ⟨0, l - xs.length, Nat.zero_le _, rfl, by simp; omega, by omega, Below.refl _ _⟩
    case round =>
      obtain ⟨k, m, hk, rfl, rfl, hm, hb⟩ := hrel
      have hsz := hb.size
      by_cases hlt : k < xs.length
      · rcases h3 with h3 | ⟨b, off, rfl, hbl, hc⟩
        · subst h3; simp at hlt
        have hx0 : wr.cell? ⟨b, off + k * 2, none⟩ = some (.string (xs.getD k (em, em)).1) := (hb.cell (p := ⟨b, off + k * 2, none⟩) hbl).trans (hc k hlt).1
        have hx1 : wr.cell? ⟨b, off + k * 2 + 1, none⟩ = some (.string (xs.getD k (em, em)).2) := (hb.cell (p := ⟨b, off + k * 2 + 1, none⟩) hbl).trans (hc k hlt).2
        have HC := Lib.hid (fun W => HS.out (xs.getD k (em, em)).1 (xs.getD k (em, em)).2 m W (Hr.out k).1 (Hr.out k).2 (by omega))
        generalize (xs.getD k (em, em)).1 = x at *
        generalize (xs.getD k (em, em)).2 = y at *
        clear hc e1
        have HB := Lib.hid hb
        clear hb
        go_wp2_with fail
        refine (HC.out _).mono ?_
        rintro e w2 ⟨⟨r, rfl, hr⟩, hb2⟩
        have hb3 := HB.out.trans (hb2.mono hsz)
        clear hb2 HB hx0 hx1
        rcases hr with rfl | ⟨m', rfl, hm'⟩
        · go_wp2_with fail
          go_ret
          exact ⟨⟨-1, rfl, .inl rfl⟩, hb3⟩
        · go_wp2_with fail
          go_roundw
          case rel => exact ⟨k + 1, m', by omega, by go_num, rfl, by omega, hb3⟩
          case measure => simp [intOf]; omega
      · obtain rfl : k = xs.length := by omega
        go_wp2_with fail
        go_ret
        exact ⟨⟨_, rfl, .inr ⟨m, rfl, hm, hlen⟩⟩, hb⟩

end Go.Proofs.YthnejknjngekiaaDoor
