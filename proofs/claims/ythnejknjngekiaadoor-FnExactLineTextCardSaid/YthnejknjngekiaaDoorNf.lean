/- Walks: the text of labels. -/
import Derived.Test.YthnejknjngekiaaDoorNd
set_option linter.unusedVariables false
set_option linter.unusedSimpArgs false
namespace Go.Proofs.YthnejknjngekiaaDoor
open Go.RowKit

theorem info_str : (Tryd.prog.info? 9).map (fun i => (i.zero, i.size, i.bytes)) = some (some (.string em), 1, 16) := by kernel_rfl
def eqS : ByteArray := ⟨#[61]⟩
def coS : ByteArray := ⟨#[44]⟩
/-- the text of the first k labels -/
def txTo (xs : List (ByteArray × ByteArray)) : Nat → ByteArray
  | 0 => em
  | k + 1 => (if 0 < k then txTo xs k ++ coS else txTo xs k) ++ nmAt xs k ++ eqS ++ vlAt xs k
theorem lAt_size {xs : List (ByteArray × ByteArray)} {k : Nat} (h : lAt xs k = true) : (nmAt xs k).size ≤ 10 ∧ (vlAt xs k).size ≤ 10 := by
  unfold lAt wordB at h
  simp only [Bool.and_eq_true, decide_eq_true_iff] at h
  exact ⟨h.1.1.2, h.2.1.1.2⟩
theorem txTo_size {xs : List (ByteArray × ByteArray)} (n : Nat) (h : lTo xs n = true) : ∀ k, k ≤ n → (txTo xs k).size ≤ 22 * k := by
  intro k
  induction k with
  | zero => intro _; exact Nat.le_refl _
  | succ k ih =>
    intro hk
    have h1 := ih (by omega)
    have ⟨h2, h3⟩ := lAt_size (lTo_at h (show k < n by omega))
    rw [txTo, ByteArray.size_append, ByteArray.size_append, ByteArray.size_append]
    have e1 : eqS.size = 1 := rfl
    split
    · rw [ByteArray.size_append]
      have e2 : coS.size = 1 := rfl
      omega
    · omega

set_option maxRecDepth 100000 in
set_option maxHeartbeats 2000000 in
theorem l6Text_any (v : Value) (xs : List (ByteArray × ByteArray)) (w : World) (h : LL w w.heap.size v xs) (hl : lTo xs xs.length = true) (h5 : xs.length ≤ 5) :
    Calls Tryd.prog 21 #[v] w fun e w' => e = .returned (.string (txTo xs xs.length)) ∧ Below w.heap.size w w' := by
  obtain ⟨hr, hlen, A, c, rfl, h3⟩ := h
  have HS := Lib.hid (txTo_size xs.length hl)
  have HA := Lib.hid (fun k (hk : k < xs.length) => lAt_size (lTo_at hl hk))
  clear hr hl
  go_enter Tryd.func21, Tryd.ntmps21
  go_wp2_with fail
  go_loopw [3, 4] (fun s i wr => ∃ k : Nat, k ≤ xs.length ∧ i = .int .i64 k ∧ s = .string (txTo xs k) ∧ Below w.heap.size w wr) (fun _ i _ => xs.length - (intOf i).toNat)
  case atStart => exact ⟨0, Nat.zero_le _, rfl, rfl, Below.refl _ _⟩
  case round =>
    obtain ⟨k, hk, rfl, rfl, hb⟩ := hrel
    by_cases hlt : k < xs.length
    · rcases h3 with h3 | ⟨b, off, rfl, hbl, hc⟩
      · subst h3; simp at hlt
      have hx0 : wr.cell? ⟨b, off + k * 2, none⟩ = some (.string (nmAt xs k)) := (hb.cell (p := ⟨b, off + k * 2, none⟩) hbl).trans (hc k hlt).1
      have hx1 : wr.cell? ⟨b, off + k * 2 + 1, none⟩ = some (.string (vlAt xs k)) := (hb.cell (p := ⟨b, off + k * 2 + 1, none⟩) hbl).trans (hc k hlt).2
      have s0 := HS.out k (by omega)
      obtain ⟨s1, s2⟩ := HA.out k hlt
      have hn : Hid (txTo xs (k + 1) = (if 0 < k then txTo xs k ++ coS else txTo xs k) ++ nmAt xs k ++ eqS ++ vlAt xs k) := rfl
      generalize nmAt xs k = nm at *
      generalize vlAt xs k = vl at *
      generalize txTo xs k = tx at *
      clear hc
      by_cases hk0 : 0 < k
      · have hki : (0 : Int) < (k : Int) := by omega
        rw [if_pos hk0] at hn
        go_wp2_with fail
        go_quiet (fail)
        go_wp2_with fail
        go_roundw
        case rel => exact ⟨k + 1, by omega, by go_num, by rw [hn.out]; rfl, l_below_drewN hb _⟩
        case measure => simp [intOf]; omega
      · have hki : ¬ (0 : Int) < (k : Int) := by omega
        rw [if_neg hk0] at hn
        go_wp2_with fail
        go_quiet (fail)
        go_wp2_with fail
        go_roundw
        case rel => exact ⟨k + 1, by omega, by go_num, by rw [hn.out]; rfl, l_below_drewN hb _⟩
        case measure => simp [intOf]; omega
    · obtain rfl : k = xs.length := by omega
      go_wp2_with fail
      go_ret
      exact ⟨rfl, hb⟩
def lbText (xs : List (ByteArray × ByteArray)) : ByteArray := if labOkB xs = true then txTo xs xs.length else em
theorem labOk_parts {xs : List (ByteArray × ByteArray)} (h : labOkB xs = true) : lTo xs xs.length = true ∧ 1 ≤ xs.length ∧ xs.length ≤ 5 := by
  unfold labOkB at h
  rw [Bool.and_eq_true, decide_eq_true_iff] at h
  exact ⟨h.2, h.1.1, h.1.2⟩
end Go.Proofs.YthnejknjngekiaaDoor
