/- Walks: the model's bits of times. -/
import Derived.Test.YtanoohfhifhhaaaDoorTa
import Derived.Test.YtanoohfhifhhaaaDoorCa
set_option linter.unusedVariables false
set_option linter.unusedSimpArgs false
namespace Go.Proofs.YtanoohfhifhhaaaDoor
open Go.RowKit

def stepAt (xs : List Int) (k : Nat) : Int := if k = 0 then 0 else xs.getD k 0 - xs.getD (k - 1) 0
def timesPart (xs : List Int) (k : Nat) : List Bool := if k = 0 then BM.digits (u64of (xs.getD 0 0)) 40 else codeB (stepAt xs k - stepAt xs (k - 1))
def timesTo (xs : List Int) : Nat → List Bool
  | 0 => []
  | k + 1 => timesTo xs k ++ timesPart xs k
def timesL (xs : List Int) : List Bool := timesTo xs xs.length
theorem timesPart_le (xs : List Int) (k : Nat) : (timesPart xs k).length ≤ 46 := by
  unfold timesPart; split
  · rw [BM.digits_length]; omega
  · exact codeB_le _
theorem timesTo_le (xs : List Int) (k : Nat) : (timesTo xs k).length ≤ 46 * k := by
  induction k with
  | zero => simp [timesTo]
  | succ k ih => rw [timesTo, List.length_append]; have := timesPart_le xs k; omega
theorem goodAt_in {xs : List Int} {k : Nat} (h : goodAt xs k = true) : 0 ≤ xs.getD k 0 ∧ xs.getD k 0 ≤ 1000000000000 ∧ (k = 0 ∨ xs.getD (k - 1) 0 < xs.getD k 0) := by
  unfold goodAt at h
  simp only [Bool.and_eq_true, Bool.or_eq_true, decide_eq_true_iff] at h
  exact ⟨h.1.1, h.1.2, h.2⟩
theorem stepAt_in {xs : List Int} {n k : Nat} (h : goodTo xs n = true) (hk : k < n) : 0 ≤ stepAt xs k ∧ stepAt xs k ≤ 1000000000000 := by
  unfold stepAt
  split
  · omega
  · have h1 := goodAt_in (goodTo_at h hk)
    have h2 := goodAt_in (goodTo_at h (show k - 1 < n by omega))
    omega
theorem step_ok {xs : List Int} {n k : Nat} (h : goodTo xs n = true) (hk : k < n) : -1000000000000 ≤ stepAt xs k - stepAt xs (k - 1) ∧ stepAt xs k - stepAt xs (k - 1) ≤ 1000000000000 := by
  have h1 := stepAt_in h hk
  have h2 := stepAt_in h (show k - 1 < n by omega)
  omega
theorem codeB_in {d : Int} (h : -1000000000000 ≤ d ∧ d ≤ 1000000000000) : codeB d = codeL d := by
  unfold codeB; rw [stepB_iff.2 h]; rfl

theorem app_rows {w3 : World} {base k : Nat} {xs : List Int} {D : List Bool} {v : Value}
    (hT : timesTo xs (k + 1) = timesTo xs k ++ D) (hown : w3.ownsRow base 2 1 v ((timesTo xs k).length + D.length) (bitInts (timesTo xs k) ++ bitInts D)) :
    w3.ownsRow base 2 1 v (timesTo xs (k + 1)).length (bitInts (timesTo xs (k + 1))) := by
  rw [hT, List.length_append, ← bitInts_append]; exact hown
theorem timesTo_zero (xs : List Int) : timesTo xs (0 + 1) = timesTo xs 0 ++ BM.digits (u64of (xs.getD 0 0)) 40 := rfl
theorem timesTo_succ {xs : List Int} {k : Nat} (hk : ¬ k = 0) : timesTo xs (k + 1) = timesTo xs k ++ codeB (stepAt xs k - stepAt xs (k - 1)) := by
  rw [timesTo]; unfold timesPart; rw [if_neg hk]
set_option maxRecDepth 100000 in
set_option maxHeartbeats 4000000 in
theorem l3Times_any (v : Value) (xs : List Int) (w : World) (h : IL w w.heap.size v xs) (hok : timesOkB xs = true) :
    Calls Tryd.prog 81 #[v] w (ListPost w.heap.size (timesL xs) w) := by
  obtain ⟨hr, hlen, A, c, rfl, h3⟩ := h
  obtain ⟨i0, hi, hz0, hz1, hz2⟩ := info_parts info_i64
  have hgo : goodTo xs xs.length = true := by unfold timesOkB at hok; rw [Bool.and_eq_true] at hok; exact hok.2
  have hl120 : xs.length ≤ 120 := by unfold timesOkB at hok; rw [Bool.and_eq_true, decide_eq_true_iff] at hok; exact hok.1
  have Hr := Lib.hid hr
  have Hgo := Lib.hid hgo
  clear hr hok hgo
  go_enter Tryd.func81, Tryd.ntmps81
  go_wp2
  go_loopw [3, 4, 5] (fun x st i wr => ∃ k : Nat, k ≤ xs.length ∧ i = .int .i64 (k : Int) ∧ st = .int .i64 (stepAt xs (k - 1)) ∧ wr.ownsRow w.heap.size 2 1 x (timesTo xs k).length (bitInts (timesTo xs k)) ∧ Below w.heap.size w wr ∧ x ≠ .slice none 0 0)
    (fun _ _ i _ => xs.length - (intOf i).toNat)
  case atStart =>
    refine ⟨0, Nat.zero_le _, by simp, by simp [stepAt], ?_, (Below.refl _ _).alloc (Nat.le_refl _) _, by simp⟩
    have := World.ownsRow_made w (base := w.heap.size) (e := 2) (size := 1) #[] 0 (by simp) (by simp [maxLen]) rfl
    simpa [bitInts, timesTo] using this
  case round =>
    obtain ⟨k, hk, rfl, rfl, hown, hb, hvn⟩ := hrel
    have Hvn := Lib.hid hvn
    clear hvn
    by_cases hlt : k < xs.length
    · rcases h3 with h3 | ⟨b, off, rfl, hbl, hc⟩
      · subst h3; simp at hlt
      have hx : wr.cell? ⟨b, off + k, none⟩ = some (.int .i64 (xs.getD k 0)) := (hb.cell (p := ⟨b, off + k, none⟩) hbl).trans (hc k hlt)
      have hlk := timesTo_le xs k
      have hsz := hb.size
      by_cases hk0 : k = 0
      · subst hk0
        rw [Nat.add_zero] at hx
        have hdig := Lib.hid (fun W => l1Digits_any (xs.getD 0 0) 40 W (by omega))
        have Hown := Lib.hid hown
        have Hb := Lib.hid hb
        generalize hX : xs.getD 0 0 = x0 at *
        have HX := Lib.hid hX
        clear hX hc hown hb
        go_wp2_with fail
        refine (hdig.out _).mono ?_
        rintro e w5 ⟨v, rfl, hown5, hb5, -⟩
        have hown := u_own_below Hown.out hb5
        have hb6 := Hb.out.trans (hb5.mono hsz)
        have hsz6 := hb6.size
        have HD := Lib.hid (show timesTo xs (0 + 1) = timesTo xs 0 ++ BM.digits (u64of x0) 40 from by rw [timesTo_zero, HX.out])
        have hDl : (BM.digits (u64of x0) 40).length ≤ 46 := by rw [BM.digits_length]; omega
        have hDpos : 0 < (BM.digits (u64of x0) 40).length := by rw [BM.digits_length]; omega
        generalize BM.digits (u64of x0) 40 = D at *
        obtain ⟨gB, cB, rfl⟩ := Go.Joins.ownsRow_form hown5 hDpos
        have Hcells := Lib.hid (show ∀ j u, (bitInts D)[j]? = some u → w5.cell? ((⟨gB, 0, none⟩ : Addr).add j) = some u from hown5.cells rfl)
        have Hln := Lib.hid (show (bitInts D).length = D.length * 1 by rw [bitInts_length, Nat.mul_one])
        have Hone := Lib.hid (bitInts_oneCell D)
        clear hown5 hb5
        go_wp2_with (at_builtin; refine wpList_append_own _ rfl _ _ 94 rfl w.heap.size 2 i0 (.int .i64 0) 1 8 Tryd.underlying94 hi hz0 hz1 hz2 rfl (by decide) _ _ _ rfl hown ⟨gB, 0, none⟩ D.length cB (bitInts D) rfl Hln.out Hcells.out Hone.out ?c3 ?c4 ?c5 ?_)
        case c3 => unfold maxLen; omega
        case c4 => omega
        case c5 => exact hsz6
        intro v' w6 hown' hgrow hnn
        have Hnn : Hid (v' ≠ .slice none 0 0) := by first | exact hnn | exact fun h => by have := (hnn.1 h).2; rw [this] at hDpos; simp at hDpos
        have hown7 := app_rows HD.out hown'
        have hb7 : Below w.heap.size w w6 := hb6.grown hgrow hsz6 (fun k hk => (hown.lt _ hk).1)
        clear hnn hown' hgrow hown hb6
        go_wp2_with fail
        go_roundw
        case rel => exact ⟨0 + 1, by omega, by go_num, rfl, hown7, hb7, Hnn.out⟩
        case measure => simp [intOf]; omega
      · have hx1 : wr.cell? ⟨b, off + (k - 1), none⟩ = some (.int .i64 (xs.getD (k - 1) 0)) := (hb.cell (p := ⟨b, off + (k - 1), none⟩) hbl).trans (hc (k - 1) (by omega))
        have hrg := step_ok Hgo.out hlt
        have hst1 := stepAt_in Hgo.out hlt
        have hst2 := stepAt_in Hgo.out (show k - 1 < xs.length by omega)
        have hcd := Lib.hid (fun W => l3Code_any (stepAt xs k - stepAt xs (k - 1)) W hrg.1 hrg.2)
        have HD := Lib.hid (timesTo_succ (xs := xs) hk0)
        have hDl := codeB_le (stepAt xs k - stepAt xs (k - 1))
        have hDp := codeL_pos (stepAt xs k - stepAt xs (k - 1))
        rw [← codeB_in hrg] at hcd hDp
        have hse : stepAt xs k = xs.getD k 0 - xs.getD (k - 1) 0 := by unfold stepAt; rw [if_neg hk0]
        generalize codeB (stepAt xs k - stepAt xs (k - 1)) = D at *
        generalize hP : stepAt xs (k - 1) = p at *
        generalize hS : stepAt xs k = q at *
        have hX := goodAt_in (goodTo_at Hgo.out hlt)
        have hX1 := goodAt_in (goodTo_at Hgo.out (show k - 1 < xs.length by omega))
        generalize xs.getD k 0 = x at *
        generalize xs.getD (k - 1) 0 = y at *
        have hDpos : 0 < D.length := hDp
        have HS := Lib.hid hS
        have hw1 : wrap64 (x - y) = q := by unfold wrap64; omega
        have hw2 : wrap64 (q - p) = q - p := by unfold wrap64; omega
        have Hown := Lib.hid hown
        have Hb := Lib.hid hb
        clear hP hS hse hc hown hb hX hX1 hrg
        go_wp2_with fail
        go_quiet (fail)
        go_wp2_with fail
        refine (hcd.out _).mono ?_
        rintro e w5 ⟨v, rfl, hown5, hb5, -⟩
        have hown := u_own_below (w := wr.drewN nq) Hown.out hb5
        have hb6 := (below_drewN_u Hb.out nq).trans (hb5.mono hsz)
        have hsz6 := hb6.size
        obtain ⟨gB, cB, rfl⟩ := Go.Joins.ownsRow_form hown5 hDpos
        have Hcells := Lib.hid (show ∀ j u, (bitInts D)[j]? = some u → w5.cell? ((⟨gB, 0, none⟩ : Addr).add j) = some u from hown5.cells rfl)
        have Hln := Lib.hid (show (bitInts D).length = D.length * 1 by rw [bitInts_length, Nat.mul_one])
        have Hone := Lib.hid (bitInts_oneCell D)
        clear hown5 hb5
        go_wp2_with (at_builtin; refine wpList_append_own _ rfl _ _ 94 rfl w.heap.size 2 i0 (.int .i64 0) 1 8 Tryd.underlying94 hi hz0 hz1 hz2 rfl (by decide) _ _ _ rfl hown ⟨gB, 0, none⟩ D.length cB (bitInts D) rfl Hln.out Hcells.out Hone.out ?c3 ?c4 ?c5 ?_)
        case c3 => unfold maxLen; omega
        case c4 => omega
        case c5 => exact hsz6
        intro v' w6 hown' hgrow hnn
        have Hnn : Hid (v' ≠ .slice none 0 0) := by first | exact hnn | exact fun h => by have := (hnn.1 h).2; rw [this] at hDpos; simp at hDpos
        have hown7 := app_rows HD.out hown'
        have hb7 : Below w.heap.size w w6 := hb6.grown hgrow hsz6 (fun k hk => (hown.lt _ hk).1)
        clear hnn hown' hgrow hown hb6
        go_wp2_with fail
        go_roundw
        case rel => exact ⟨k + 1, by omega, by go_num, by rw [Nat.add_sub_cancel, HS.out], hown7, hb7, Hnn.out⟩
        case measure => simp [intOf]; omega
    · obtain rfl : k = xs.length := by omega
      go_wp2_with fail
      go_ret
      exact ⟨_, rfl, hown, hb, Hvn.out⟩

end Go.Proofs.YtanoohfhifhhaaaDoor
