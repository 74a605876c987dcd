/- Walks: the rolls of points: the model. -/
import Derived.Test.YtdmcijodhokahaaYp
import Derived.Test.YtdmcijodhokahaaYl
set_option linter.unusedVariables false
set_option linter.unusedSimpArgs false
namespace Go.Proofs.Ytdmcijodhokahaa
open Go.RowKit

theorem l7Add_any (b off c : Nat) (xs : List R6) (a0 a1 a2 a3 a4 a5 : Int) (w : World) (h : RS w w.heap.size ⟨b, off, none⟩ xs) (hl : xs.length + 1 ≤ 1048576) :
    Calls Try.prog 115 #[.slice (some ⟨b, off, none⟩) xs.length c, .agg #[.int .i64 a0, .int .i64 a1, .int .i64 a2, .int .i64 a3, .int .i64 a4, .int .i64 a5]] w (AddPost (addS xs (a0, a1, a2, a3, a4, a5)) w) := by
  by_cases hd : xs.length = 0
  · exact l7Add_new b off c xs a0 a1 a2 a3 a4 a5 w h hl hd
  · by_cases hd2 : (lastR xs).1 = a0
    · exact l7Add_in b off c xs a0 a1 a2 a3 a4 a5 w h hl hd hd2
    · exact l7Add_app b off c xs a0 a1 a2 a3 a4 a5 w h hl hd hd2
/-- a result of the model: a row of its own, not nil -/
def GRow (w : World) (base : Nat) (v : Value) (xs : List R6) : Prop := ∃ g c, v = .slice (some ⟨g, 0, none⟩) xs.length c ∧ RS w w.heap.size ⟨g, 0, none⟩ xs ∧ w.ownsRow base 56 6 v xs.length (rls xs)
theorem GRow.of_own {w : World} {base : Nat} {v : Value} {xs : List R6} (h : w.ownsRow base 56 6 v xs.length (rls xs)) (hp : 0 < xs.length) (hl : xs.length ≤ 1048576) : GRow w base v xs := by
  obtain ⟨g, c, rfl, h1⟩ := RS.of_own h hp hl
  exact ⟨g, c, rfl, h1, h⟩
theorem GRow.made (W : World) {base : Nat} (hb : base ≤ W.heap.size) : GRow (W.alloc (.cells #[] 56)) base (.slice (some ⟨W.heap.size, 0, none⟩) 0 0) [] :=
  ⟨_, _, rfl, ⟨by simp, by simp, fun j u hj => by simp [rls] at hj⟩, made0 W hb⟩
theorem ptsOkB_all {xs : List (Int × Int)} (h : ptsOkB xs = true) (k : Nat) (hk : k < xs.length) : 0 ≤ (xs.getD k (0, 0)).1 ∧ (xs.getD k (0, 0)).1 ≤ 1000000000000 := (ptsOkB_at h hk).1
theorem ptsOkB_len {xs : List (Int × Int)} (h : ptsOkB xs = true) : xs.length ≤ 120 := by
  unfold ptsOkB timesOkB at h
  rw [Bool.and_eq_true, decide_eq_true_iff, List.length_map] at h
  exact h.1

set_option maxRecDepth 100000 in
set_option maxHeartbeats 2000000 in
theorem specL7Rolls_any (v : Value) (xs : List (Int × Int)) (W : Int) (w : World) (h : PL w w.heap.size v xs) (hp : ptsOkB xs = true) (hW : 1 ≤ W) (hW2 : W ≤ 1000000) :
    Calls Try.prog 120 #[v, .int .i64 W] w (ROwnPost w.heap.size (rollsL xs W) w) := by
  have hlen := ptsOkB_len hp
  have HP := Lib.hid (ptsOkB_all hp)
  obtain ⟨hr, _, A, c, rfl, h3⟩ := h
  clear hr hp
  have HA := Lib.hid (fun b off c xs a0 a1 a2 a3 a4 a5 W h hl => l7Add_any b off c xs a0 a1 a2 a3 a4 a5 W h hl)
  have HL := Lib.hid (fun k => rollsL_len (xs.take k) W)
  have hwz : (W == 0) = false := by simpa using (show ¬ W = 0 by omega)
  have hw0 : ¬ W = 0 := by omega
  go_enter Try.func120, Try.ntmps120
  go_wp2_with fail
  go_loopw [5, 6] (fun v i wr => ∃ k : Nat, k ≤ xs.length ∧ i = .int .i64 k ∧ Hid (GRow wr w.heap.size v (rollsL (xs.take k) W)) ∧ Below w.heap.size w wr)
    (fun _ i _ => xs.length - (intOf i).toNat)
  case atStart => exact ⟨0, Nat.zero_le _, rfl, Lib.hid (GRow.made w (Nat.le_refl _)), (Below.refl _ _).alloc (Nat.le_refl _) _⟩
  case round =>
    obtain ⟨k, hk, rfl, HG, hb⟩ := hrel
    have hsz := hb.size
    by_cases hlt : k < xs.length
    · rcases h3 with h3 | ⟨b, off, rfl, hbl, hc⟩
      · subst h3; simp at hlt
      have hx0 : wr.cell? ⟨b, off + k * 2, none⟩ = some (.int .i64 (xs.getD k (0, 0)).1) := (hb.cell (p := ⟨b, off + k * 2, none⟩) hbl).trans (hc k hlt).1
      have hx1 : wr.cell? ⟨b, off + k * 2 + 1, none⟩ = some (.int .i64 (xs.getD k (0, 0)).2) := (hb.cell (p := ⟨b, off + k * 2 + 1, none⟩) hbl).trans (hc k hlt).2
      clear hc
      have HS := rollsL_succ W hlt
      have ht := HP.out k hlt
      have hlk : (rollsL (xs.take k) W).length ≤ 120 := by
        have h1 := HL.out k
        rw [List.length_take] at h1
        omega
      have hpos : 0 < (rollsL (xs.take (k + 1)) W).length := by rw [HS]; exact addS_pos _ _
      have hlk1 : (rollsL (xs.take (k + 1)) W).length ≤ 1048576 := by
        have h1 := HL.out (k + 1)
        rw [List.length_take] at h1
        omega
      generalize xs.getD k (0, 0) = p at *
      obtain ⟨x, y⟩ := p
      simp only at hx0 hx1 ht
      obtain ⟨zs, hzs⟩ : ∃ zs, zs = rollsL (xs.take (k + 1)) W := ⟨_, rfl⟩
      rw [← hzs] at HS hpos hlk1
      have HZ := Lib.hid hzs
      clear hzs
      have HS := Lib.hid HS
      obtain ⟨g, cc, rfl, hRS, hown⟩ := HG.out
      have HO := Lib.hid hown
      have HR := Lib.hid hRS
      have HB := Lib.hid hb
      have Hl := Lib.hid hlk
      have Hp := Lib.hid hpos
      have Hl1 := Lib.hid hlk1
      clear HG hown hRS hb hlk hpos hlk1
      have hd := div_small (W := W) ht.1 hW
      have e1 : wrap64 (x / W * W) = x / W * W := by unfold wrap64; omega
      have e2 : IntKind.i64.wrap (x / W * W) = x / W * W := IntWalk.i64_in _ (by omega)
      have e3 : x.tdiv W = x / W := Int.tdiv_eq_ediv_of_nonneg ht.1
      have e4 : IntKind.i64.wrap (x / W) = x / W := IntWalk.i64_in _ (by have h0 := Int.ediv_nonneg ht.1 (b := W) (by omega); have h2 := Int.ediv_le_self W ht.1; omega)
      have hx0' := ht.1
      clear ht hd
      go_wp2_with fail
      refine (HA.out g 0 cc _ (x / W * W) 1 y y y y _ HR.out (by have := Hl.out; omega)).mono ?_
      rintro e w4 ⟨v4, rfl, hown4, hb4⟩
      have HO4 := Lib.hid (own_mono hown4 hsz)
      have HB4 := Lib.hid (HB.out.trans (hb4.mono hsz))
      clear hown4 hb4
      go_wp2_with fail
      go_roundw
      case rel => exact ⟨k + 1, by omega, by go_num, Lib.hid (by rw [← HZ.out]; exact GRow.of_own (by rw [HS.out]; exact HO4.out) Hp.out Hl1.out), HB4.out⟩
      case measure => simp [intOf]; omega
    · obtain rfl : k = xs.length := by omega
      rw [List.take_length] at HG
      obtain ⟨g, cc, rfl, hRS, hown⟩ := HG.out
      have HO := Lib.hid hown
      clear HG hRS hown
      go_wp2_with fail
      go_ret
      exact ⟨_, rfl, HO.out, hb⟩

/-- a result: a row, and a flag -/
def RFlagPost (base : Nat) (xs : List R6) (b : Bool) (w : World) (e : Ending) (w' : World) : Prop :=
  ∃ v, e = .returned (.tuple #[v, .bool b]) ∧ w'.ownsRow base 56 6 v xs.length (rls xs) ∧ Below w.heap.size w w'
theorem wdB_in {W : Int} (h : wdB W = true) : 1 ≤ W ∧ W ≤ 1000000 := by
  unfold wdB vIn at h
  simpa using h

end Go.Proofs.Ytdmcijodhokahaa
