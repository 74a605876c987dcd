/- Walks: cascades: the law's sizes, copies and comparison. -/
import Derived.Test.YtdmcijodhokahaaOg
import Derived.Test.YtdmcijodhokahaaOb
set_option linter.unusedVariables false
set_option linter.unusedSimpArgs false
namespace Go.Proofs.Ytdmcijodhokahaa
open Go.RowKit

/-- a slice of levels as it comes in: the lengths of their rolls -/
def LI (w : World) (B : Nat) (v : Value) (ks : List Nat) : Prop :=
  ks.length ≤ maxLen ∧ (∀ k ∈ ks, k ≤ maxLen) ∧ ∃ A c, v = .slice A ks.length c ∧
    (ks = [] ∨ ∃ b off, A = some ⟨b, off, none⟩ ∧ b < B ∧ ∀ j, j < ks.length → ∃ W K Aj cj, w.cell? ⟨b, off + j * 3, none⟩ = some (.int .i64 W) ∧ w.cell? ⟨b, off + j * 3 + 1, none⟩ = some (.int .i64 K) ∧ w.cell? ⟨b, off + j * 3 + 2, none⟩ = some (.slice Aj (ks.getD j 0) cj) ∧ Rng W ∧ Rng K ∧ (ks.getD j 0 ≤ 1048576 → ∃ rs : List R6, rs.length = ks.getD j 0 ∧ RL w B (.slice Aj (ks.getD j 0) cj) rs))
open Classical in
theorem LI.read {w : World} {B : Nat} {v : Value} {ks : List Nat} (h : LI w B v ks) (hl : ks.length ≤ 1048576) (hk : ∀ k ∈ ks, k ≤ 1048576) : ∃ ls : List Lv, ls.length = ks.length ∧ LS w B v ls := by
  obtain ⟨_, _, A, c, rfl, h3⟩ := h
  rcases h3 with rfl | ⟨b, off, rfl, hb, hc⟩
  · exact ⟨[], rfl, fun j => ⟨rng_zero, rng_zero⟩, Nat.zero_le _, A, c, rfl, .inl rfl⟩
  · have hx : ∀ j, ∃ x : Lv, j < ks.length → (Rng x.1 ∧ Rng x.2.1) ∧ w.cell? ⟨b, off + j * 3, none⟩ = some (.int .i64 x.1) ∧ w.cell? ⟨b, off + j * 3 + 1, none⟩ = some (.int .i64 x.2.1) ∧ ∃ r, w.cell? ⟨b, off + j * 3 + 2, none⟩ = some r ∧ RL w B r x.2.2 := by
      intro j
      by_cases hj : j < ks.length
      · obtain ⟨W, K, Aj, cj, c0, c1, c2, hW, hK, hr⟩ := hc j hj
        have hkj : ks.getD j 0 ≤ 1048576 := hk _ (by rw [List.getD_eq_getElem?_getD, List.getElem?_eq_getElem hj]; exact List.getElem_mem hj)
        obtain ⟨rs, _, hrl⟩ := hr hkj
        exact ⟨(W, K, rs), fun _ => ⟨⟨hW, hK⟩, c0, c1, _, c2, hrl⟩⟩
      · exact ⟨zLv, fun h => absurd h hj⟩
    obtain ⟨g, hg⟩ := Classical.axiomOfChoice hx
    refine ⟨(List.range ks.length).map g, by simp, ?_, by simpa using hl, some ⟨b, off, none⟩, c, by simp, .inr ⟨b, off, rfl, hb, fun j hj => ?_⟩⟩
    · intro j
      by_cases hj : j < ks.length
      · have e : ((List.range ks.length).map g).getD j zLv = g j := by simp [List.getD_eq_getElem?_getD, hj]
        rw [e]; exact (hg j hj).1
      · rw [List.getD_eq_getElem?_getD, List.getElem?_eq_none (by simp; omega)]; exact ⟨rng_zero, rng_zero⟩
    · have hj' : j < ks.length := by simpa using hj
      have e : ((List.range ks.length).map g).getD j zLv = g j := by simp [List.getD_eq_getElem?_getD, hj']
      rw [e]; exact (hg j hj').2
def szF : Int → List Nat → Int
  | l, [] => l
  | l, k :: ks => if l - (k : Int) < 0 then -1 else szF (l - k) ks
theorem szF_ok : ∀ (l : Int) (ks : List Nat), 0 ≤ l → l ≤ 1048576 → ¬ szF l ks < 0 → ∀ k ∈ ks, k ≤ 1048576
  | l, [], _, _, _, k, hk => by cases hk
  | l, x :: ks, h0, h1, h, k, hk => by
    unfold szF at h
    split at h
    · exact absurd (show (-1 : Int) < 0 by omega) h
    · rcases List.mem_cons.1 hk with rfl | hk
      · omega
      · exact szF_ok _ ks (by omega) (by omega) h k hk
theorem szF_bd : ∀ (l : Int) (ks : List Nat), 0 ≤ l → l ≤ 1048576 → -1 ≤ szF l ks ∧ szF l ks ≤ 1048576
  | l, [], h0, h1 => ⟨by unfold szF; omega, by unfold szF; omega⟩
  | l, x :: ks, h0, h1 => by
    unfold szF
    split
    · omega
    · exact szF_bd _ ks (by omega) (by omega)
theorem szF_at {l : Int} {ks : List Nat} {j : Nat} (hj : j < ks.length) : szF l (ks.drop j) = if l - ((ks.getD j 0 : Nat) : Int) < 0 then -1 else szF (l - ((ks.getD j 0 : Nat) : Int)) (ks.drop (j + 1)) := by
  rw [List.drop_eq_getElem_cons hj]
  have e : ks.getD j 0 = ks[j] := by rw [List.getD_eq_getElem?_getD, List.getElem?_eq_getElem hj]; rfl
  rw [e]
  rfl

set_option maxRecDepth 100000 in
set_option maxHeartbeats 1000000 in
theorem szLevel_any (W K : Int) (A : Option Addr) (k c : Nat) (l : Int) (w : World) (h0 : 0 ≤ l) (h1 : l ≤ 1048576) (hk : k ≤ maxLen) :
    Calls Try.prog 98 #[.agg #[.int .i64 W, .int .i64 K, .slice A k c], .int .i64 l] w fun e w' => e = .returned (.int .i64 (if l - (k : Int) < 0 then -1 else l - k)) ∧ Below w.heap.size w w' := by
  unfold maxLen at hk
  have e1 : wrap64 (l - (k : Int)) = l - (k : Int) := by unfold wrap64; omega
  have e2 : IntKind.i64.wrap (l - (k : Int)) = l - (k : Int) := IntWalk.i64_in _ (by omega)
  by_cases h : l - (k : Int) < 0
  · rw [if_pos h]
    go_enter Try.func98, Try.ntmps98
    go_wp2_with (first | (go_at_call 129; go_in) | fail)
    go_ret
    exact ⟨rfl, by repeat (first | exact Below.refl _ _ | refine Below.alloc ?_ (by simp; try omega) _ | refine Below.drew ?_)⟩
  · rw [if_neg h]
    go_enter Try.func98, Try.ntmps98
    go_wp2_with (first | (go_at_call 129; go_in) | fail)
    go_ret
    exact ⟨rfl, by repeat (first | exact Below.refl _ _ | refine Below.alloc ?_ (by simp; try omega) _ | refine Below.drew ?_)⟩

set_option maxRecDepth 100000 in
set_option maxHeartbeats 2000000 in
theorem szLevelS_any (v : Value) (ks : List Nat) (l : Int) (w : World) (h : LI w w.heap.size v ks) (h0 : 0 ≤ l) (h1 : l ≤ 1048576) :
    Calls Try.prog 53 #[v, .int .i64 l] w fun e w' => e = .returned (.int .i64 (if l - (ks.length : Int) < 0 then -1 else szF (l - ks.length) ks)) ∧ Below w.heap.size w w' := by
  obtain ⟨hkl, hkm, A, c, rfl, h3⟩ := h
  have HS := Lib.hid (fun W K A k c l w h0 h1 hk => szLevel_any W K A k c l w h0 h1 hk)
  have HM := Lib.hid hkm
  clear hkm
  have hkl' := hkl
  unfold maxLen at hkl'
  have e1 : wrap64 (l - (ks.length : Int)) = l - (ks.length : Int) := by unfold wrap64; omega
  have e2 : IntKind.i64.wrap (l - (ks.length : Int)) = l - (ks.length : Int) := IntWalk.i64_in _ (by omega)
  by_cases hs : l - (ks.length : Int) < 0
  · rw [if_pos hs]
    go_enter Try.func53, Try.ntmps53
    go_wp2_with fail
    go_ret
    exact ⟨rfl, Below.refl _ _⟩
  · rw [if_neg hs]
    obtain ⟨l2, hl2⟩ : ∃ l2, l2 = l - (ks.length : Int) := ⟨_, rfl⟩
    have hb2 : 0 ≤ l2 ∧ l2 ≤ 1048576 := by omega
    rw [← hl2] at e1 e2 ⊢
    have HL2 := Lib.hid hl2
    clear hl2
    have e1 : IntKind.i64.wrap (l - (ks.length : Int)) = l2 := by rw [← HL2.out]; exact e2
    have e1' : wrap64 (l - (ks.length : Int)) = l2 := by rw [← HL2.out]; unfold wrap64; omega
    clear e2
    go_enter Try.func53, Try.ntmps53
    go_wp2_with fail
    go_loopw [1, 5] (fun a i wr => ∃ (j : Nat) (lj : Int), j ≤ ks.length ∧ i = .int .i64 j ∧ a = .int .i64 lj ∧ 0 ≤ lj ∧ lj ≤ 1048576 ∧ Hid (szF l2 ks = szF lj (ks.drop j)) ∧ Below w.heap.size w wr) (fun _ i _ => ks.length - (intOf i).toNat)
    case atStart => exact ⟨0, l2, Nat.zero_le _, rfl, by first | rfl | (congr 1; omega), hb2.1, hb2.2, Lib.hid rfl, Below.refl _ _⟩
    case round =>
      obtain ⟨j, lj, hj, rfl, rfl, hl0, hl1, HZ, hb⟩ := hrel
      have hsz := hb.size
      by_cases hlt : j < ks.length
      · rcases h3 with h3 | ⟨b, off, rfl, hbl, hc⟩
        · subst h3; simp at hlt
        obtain ⟨W, K, Aj, cj, c0, c1, c2, _, _, _⟩ := hc j hlt
        have x0 := (hb.cell (p := ⟨b, off + j * 3, none⟩) hbl).trans c0
        have x1 := (hb.cell (p := ⟨b, off + j * 3 + 1, none⟩) hbl).trans c1
        have x2 := (hb.cell (p := ⟨b, off + j * 3 + 2, none⟩) hbl).trans c2
        have hkj := HM.out (ks.getD j 0) (by rw [List.getD_eq_getElem?_getD, List.getElem?_eq_getElem hlt]; exact List.getElem_mem hlt)
        have HA := Lib.hid (szF_at (l := lj) hlt)
        clear hc c0 c1 c2
        generalize ks.getD j 0 = kj at *
        have hcal := Lib.hid (HS.out W K Aj kj cj lj wr hl0 hl1 hkj)
        have HB := Lib.hid hb
        clear hb
        by_cases hneg : lj - (kj : Int) < 0
        · rw [if_pos hneg] at hcal HA
          have E := Lib.hid (HZ.out.trans HA.out)
          go_wp2_with fail
          refine hcal.out.mono ?_
          rintro e w5 ⟨rfl, hb5⟩
          have HB5 := Lib.hid (HB.out.trans (hb5.mono hsz))
          clear hb5
          go_wp2_with fail
          go_ret
          exact ⟨by rw [E.out]; rfl, HB5.out⟩
        · rw [if_neg hneg] at hcal HA
          have E := Lib.hid (HZ.out.trans HA.out)
          have hlj : 0 ≤ lj - (kj : Int) ∧ lj - (kj : Int) ≤ 1048576 := by omega
          generalize lj - (kj : Int) = ln at *
          go_wp2_with fail
          refine hcal.out.mono ?_
          rintro e w5 ⟨rfl, hb5⟩
          have HB5 := Lib.hid (HB.out.trans (hb5.mono hsz))
          clear hb5
          go_wp2_with fail
          go_roundw
          case rel => exact ⟨j + 1, ln, by omega, by go_num, rfl, hlj.1, hlj.2, E, HB5.out⟩
          case measure => simp [intOf]; omega
      · obtain rfl : j = ks.length := by omega
        have E := Lib.hid (show szF l2 ks = lj by rw [HZ.out, List.drop_length]; rfl)
        go_wp2_with fail
        go_ret
        exact ⟨by rw [E.out]; rfl, hb⟩
end Go.Proofs.Ytdmcijodhokahaa
