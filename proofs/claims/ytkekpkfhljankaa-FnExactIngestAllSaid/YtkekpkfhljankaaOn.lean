/- A cascade as the law's frame gives it. -/
import Derived.Test.YtkekpkfhljankaaOl
import Derived.Lib.SmallJoins
import Derived.WalkKit
import Derived.ProofKit
import Derived.OpenShut
import Derived.ShutString
import Derived.ChangeOld
import Derived.Below
import Derived.Deep.SlicePairs
import Derived.Deep.Slices
set_option linter.unusedVariables false
set_option linter.unusedSimpArgs false
namespace Go.Proofs.Ytkekpkfhljankaa
open Go.ChangeShapes Go.WideShapes Go.ChangeAt Go.RowKit

section
variable {H : Type} {enc : TypeId × Value → H} {P : Program} {w : World} {base : Nat} {spare : Nat → Bool} {held : Bool}
theorem cas_add (a : Addr) (i j : Nat) : (a.add i).add j = a.add (i + j) := by
  obtain ⟨b, o, s⟩ := a
  by_cases hi : i = 0
  · subst hi; simp [Addr.add]
  · by_cases hj : j = 0
    · subst hj; simp [Addr.add, hi]
    · have hij : ¬ i + j = 0 := by omega
      have hij' : ¬ (i = 0 ∧ j = 0) := by omega
      simp [Addr.add, hi, hj, hij, hij', Nat.add_assoc]
/-- a slice of structs of six fields, of one cell each -/
theorem cas_slice6 {t e : TypeId} {f0 f1 f2 f3 f4 f5 : Field} {fuel : Nat} {cs : List Value} {x : DataW H × List MemPlace} (ht : P.underlying t = some (.slice e)) (he : P.underlying e = some (.struct #[f0, f1, f2, f3, f4, f5]))
    (ce : P.cellsOf e = 6) (o0 : f0.offset = 0) (o1 : f1.offset = 1) (o2 : f2.offset = 2) (o3 : f3.offset = 3) (o4 : f4.offset = 4) (o5 : f5.offset = 5) (c0 : P.cellsOf f0.type = 1) (c1 : P.cellsOf f1.type = 1) (c2 : P.cellsOf f2.type = 1) (c3 : P.cellsOf f3.type = 1) (c4 : P.cellsOf f4.type = 1) (c5 : P.cellsOf f5.type = 1)
    (h : DataW.trod enc P w base spare held fuel t cs = some x) :
    cs = [.slice none 0 0] ∨
    ∃ (a : Addr) (len cap n : Nat) (V0 V1 V2 V3 V4 V5 : Nat → Value), cs = [.slice (some a) len cap] ∧ len ≤ cap ∧ cap ≤ maxLen ∧
      ∀ i, i < len → w.cell? (a.add (i * 6)) = some (V0 i) ∧ w.cell? (a.add (i * 6 + 1)) = some (V1 i) ∧ w.cell? (a.add (i * 6 + 2)) = some (V2 i) ∧ w.cell? (a.add (i * 6 + 3)) = some (V3 i) ∧ w.cell? (a.add (i * 6 + 4)) = some (V4 i) ∧ w.cell? (a.add (i * 6 + 5)) = some (V5 i) ∧
        (∃ z, DataW.trod enc P w base spare held n f0.type [V0 i] = some z) ∧ (∃ z, DataW.trod enc P w base spare held n f1.type [V1 i] = some z) ∧ (∃ z, DataW.trod enc P w base spare held n f2.type [V2 i] = some z) ∧ (∃ z, DataW.trod enc P w base spare held n f3.type [V3 i] = some z) ∧ (∃ z, DataW.trod enc P w base spare held n f4.type [V4 i] = some z) ∧ (∃ z, DataW.trod enc P w base spare held n f5.type [V5 i] = some z) := by
  rcases Go.Deep.open_slice ht h with ⟨h0, _⟩ | ⟨a, len, cap, m, n, D, Pl, rfl, hb, hl, hm, hmm, rfl, hx⟩
  · exact Or.inl h0
  right
  have hlm : len ≤ m := by rw [hmm]; split <;> omega
  have each : ∀ i, i < len → ∃ q : Value × Value × Value × Value × Value × Value, w.cell? (a.add (i * 6)) = some q.1 ∧ w.cell? (a.add (i * 6 + 1)) = some q.2.1 ∧ w.cell? (a.add (i * 6 + 2)) = some q.2.2.1 ∧ w.cell? (a.add (i * 6 + 3)) = some q.2.2.2.1 ∧ w.cell? (a.add (i * 6 + 4)) = some q.2.2.2.2.1 ∧ w.cell? (a.add (i * 6 + 5)) = some q.2.2.2.2.2 ∧
      (∃ z, DataW.trod enc P w base spare held (n - 1) f0.type [q.1] = some z) ∧ (∃ z, DataW.trod enc P w base spare held (n - 1) f1.type [q.2.1] = some z) ∧ (∃ z, DataW.trod enc P w base spare held (n - 1) f2.type [q.2.2.1] = some z) ∧ (∃ z, DataW.trod enc P w base spare held (n - 1) f3.type [q.2.2.2.1] = some z) ∧ (∃ z, DataW.trod enc P w base spare held (n - 1) f4.type [q.2.2.2.2.1] = some z) ∧ (∃ z, DataW.trod enc P w base spare held (n - 1) f5.type [q.2.2.2.2.2] = some z) := by
    intro i hi
    obtain ⟨cs', h1, h2⟩ := hx i (by omega)
    rw [ce] at h1
    obtain ⟨_, hlen, hcell⟩ := World.cells?_some h1
    obtain ⟨xs, k, hk, hxy, _, hxl, hf⟩ := DataW.trod_struct he h2
    have hk' : k = n - 1 := by omega
    subst hk'
    match xs, hxl, cs', hlen with
    | [y0, y1, y2, y3, y4, y5], _, [v0, v1, v2, v3, v4, v5], _ =>
      have g0 := hf 0 f0 rfl
      have g1 := hf 1 f1 rfl
      have g2 := hf 2 f2 rfl
      have g3 := hf 3 f3 rfl
      have g4 := hf 4 f4 rfl
      have g5 := hf 5 f5 rfl
      simp [o0, o1, o2, o3, o4, o5, c0, c1, c2, c3, c4, c5] at g0 g1 g2 g3 g4 g5
      have e0 := hcell 0 (by omega)
      have e1 := hcell 1 (by omega)
      have e2 := hcell 2 (by omega)
      have e3 := hcell 3 (by omega)
      have e4 := hcell 4 (by omega)
      have e5 := hcell 5 (by omega)
      rw [cas_add] at e0 e1 e2 e3 e4 e5
      exact ⟨(v0, v1, v2, v3, v4, v5), by simpa using e0, by simpa using e1, by simpa using e2, by simpa using e3, by simpa using e4, by simpa using e5, ⟨_, g0⟩, ⟨_, g1⟩, ⟨_, g2⟩, ⟨_, g3⟩, ⟨_, g4⟩, ⟨_, g5⟩⟩
  obtain ⟨q, hq⟩ := Go.Deep.choose_lt each
  exact ⟨a, len, cap, n - 1, fun i => (q i).1, fun i => (q i).2.1, fun i => (q i).2.2.1, fun i => (q i).2.2.2.1, fun i => (q i).2.2.2.2.1, fun i => (q i).2.2.2.2.2, rfl, hl, hm, hq⟩
/-- a slice of structs of three fields, of one cell each -/
theorem cas_slice3 {t e : TypeId} {f0 f1 f2 : Field} {fuel : Nat} {cs : List Value} {x : DataW H × List MemPlace} (ht : P.underlying t = some (.slice e)) (he : P.underlying e = some (.struct #[f0, f1, f2]))
    (ce : P.cellsOf e = 3) (o0 : f0.offset = 0) (o1 : f1.offset = 1) (o2 : f2.offset = 2) (c0 : P.cellsOf f0.type = 1) (c1 : P.cellsOf f1.type = 1) (c2 : P.cellsOf f2.type = 1)
    (h : DataW.trod enc P w base spare held fuel t cs = some x) :
    cs = [.slice none 0 0] ∨
    ∃ (a : Addr) (len cap n : Nat) (V0 V1 V2 : Nat → Value), cs = [.slice (some a) len cap] ∧ len ≤ cap ∧ cap ≤ maxLen ∧
      ∀ i, i < len → w.cell? (a.add (i * 3)) = some (V0 i) ∧ w.cell? (a.add (i * 3 + 1)) = some (V1 i) ∧ w.cell? (a.add (i * 3 + 2)) = some (V2 i) ∧
        (∃ z, DataW.trod enc P w base spare held n f0.type [V0 i] = some z) ∧ (∃ z, DataW.trod enc P w base spare held n f1.type [V1 i] = some z) ∧ ∃ z, DataW.trod enc P w base spare held n f2.type [V2 i] = some z := by
  rcases Go.Deep.open_slice ht h with ⟨h0, _⟩ | ⟨a, len, cap, m, n, D, Pl, rfl, hb, hl, hm, hmm, rfl, hx⟩
  · exact Or.inl h0
  right
  have hlm : len ≤ m := by rw [hmm]; split <;> omega
  have each : ∀ i, i < len → ∃ q : Value × Value × Value, w.cell? (a.add (i * 3)) = some q.1 ∧ w.cell? (a.add (i * 3 + 1)) = some q.2.1 ∧ w.cell? (a.add (i * 3 + 2)) = some q.2.2 ∧
      (∃ z, DataW.trod enc P w base spare held (n - 1) f0.type [q.1] = some z) ∧ (∃ z, DataW.trod enc P w base spare held (n - 1) f1.type [q.2.1] = some z) ∧ ∃ z, DataW.trod enc P w base spare held (n - 1) f2.type [q.2.2] = some z := by
    intro i hi
    obtain ⟨cs', h1, h2⟩ := hx i (by omega)
    rw [ce] at h1
    obtain ⟨_, hlen, hcell⟩ := World.cells?_some h1
    obtain ⟨xs, k, hk, hxy, _, hxl, hf⟩ := DataW.trod_struct he h2
    have hk' : k = n - 1 := by omega
    subst hk'
    match xs, hxl, cs', hlen with
    | [y0, y1, y2], _, [v0, v1, v2], _ =>
      have g0 := hf 0 f0 rfl
      have g1 := hf 1 f1 rfl
      have g2 := hf 2 f2 rfl
      simp [o0, o1, o2, c0, c1, c2] at g0 g1 g2
      have e0 := hcell 0 (by omega)
      have e1 := hcell 1 (by omega)
      have e2 := hcell 2 (by omega)
      rw [cas_add] at e0 e1 e2
      exact ⟨(v0, v1, v2), by simpa using e0, by simpa using e1, by simpa using e2, ⟨_, g0⟩, ⟨_, g1⟩, ⟨_, g2⟩⟩
  obtain ⟨q, hq⟩ := Go.Deep.choose_lt each
  exact ⟨a, len, cap, n - 1, fun i => (q i).1, fun i => (q i).2.1, fun i => (q i).2.2, rfl, hl, hm, hq⟩
end

theorem addr_spot {w : World} {a : Addr} {v : Value} (h : w.cell? (a.add 0) = some v) : ∃ b off, a = ⟨b, off, none⟩ ∧ b < w.heap.size := by
  obtain ⟨b, off, spot⟩ := a
  have hspot : spot = none := by simpa [Addr.add] using World.cell?_spot h
  subst hspot
  refine ⟨b, off, rfl, ?_⟩
  have h2 : w.cell? ⟨b, off, none⟩ = some v := by simpa [Addr.add] using h
  exact World.block_lt_of_cell? w _ h2
theorem addr_plus (b off j : Nat) : (⟨b, off, none⟩ : Addr).add j = ⟨b, off + j, none⟩ := by
  unfold Addr.add
  split
  · rename_i h; subst h; rfl
  · rfl
set_option maxRecDepth 100000 in
open Classical in
theorem open_levels {H : Type} {enc : TypeId × Value → H} {W : World} {base fuel : Nat} {spare : Nat → Bool} {held : Bool} {v : Value} {x : DataW H × List MemPlace}
    (h : DataW.trod enc Try.prog W base spare held fuel 23 [v] = some x) : ∃ ks, LI W W.heap.size v ks := by
  rcases cas_slice3 Try.underlying23 Try.underlying138 (by kernel_rfl) rfl rfl rfl (by kernel_rfl) (by kernel_rfl) (by kernel_rfl) h with hcs | ⟨a, len, cap, n, V0, V1, V2, hcs, hl, hm, hx⟩
  · simp at hcs
    subst hcs
    exact ⟨[], Nat.zero_le _, (fun k hk => by cases hk), none, 0, rfl, .inl rfl⟩
  · simp at hcs
    subst hcs
    have hj : ∀ j, ∃ k : Nat, j < len → k ≤ maxLen ∧ ∃ W' K Aj cj, V0 j = .int .i64 W' ∧ V1 j = .int .i64 K ∧ V2 j = .slice Aj k cj ∧ Rng W' ∧ Rng K ∧ (k ≤ 1048576 → ∃ rs : List R6, rs.length = k ∧ RL W W.heap.size (.slice Aj k cj) rs) := by
      intro j
      by_cases hlt : j < len
      · obtain ⟨c0, c1, c2, ⟨z0, t0⟩, ⟨z1, t1⟩, z2, t2⟩ := hx j hlt
        obtain ⟨x0, e0, _, f0⟩ := DataW.trod_int Try.underlying2 t0
        obtain ⟨x1, e1, _, f1⟩ := DataW.trod_int Try.underlying2 t1
        rcases cas_slice6 Try.underlying136 Try.underlying198 (by kernel_rfl) rfl rfl rfl rfl rfl rfl (by kernel_rfl) (by kernel_rfl) (by kernel_rfl) (by kernel_rfl) (by kernel_rfl) (by kernel_rfl) t2 with hcs | ⟨a', len', cap', n', U0, U1, U2, U3, U4, U5, hcs, hl', hm', hx'⟩
        · simp at hcs
          exact ⟨0, fun _ => ⟨Nat.zero_le _, x0, x1, none, 0, by simpa using e0, by simpa using e1, hcs, bounds_i64 f0, bounds_i64 f1, fun _ => ⟨[], rfl, rl_nil _ _ _⟩⟩⟩
        · simp at hcs
          refine ⟨len', fun _ => ⟨by omega, x0, x1, some a', cap', by simpa using e0, by simpa using e1, hcs, bounds_i64 f0, bounds_i64 f1, fun hn => rl_of a' _ _ W U0 U1 U2 U3 U4 U5 hn fun i hi => ?_⟩⟩
          obtain ⟨g0, g1, g2, g3, g4, g5, ⟨y0, s0⟩, ⟨y1, s1⟩, ⟨y2, s2⟩, ⟨y3, s3⟩, ⟨y4, s4⟩, y5, s5⟩ := hx' i hi
          obtain ⟨q0, r0, _, p0⟩ := DataW.trod_int Try.underlying2 s0
          obtain ⟨q1, r1, _, p1⟩ := DataW.trod_int Try.underlying2 s1
          obtain ⟨q2, r2, _, p2⟩ := DataW.trod_int Try.underlying2 s2
          obtain ⟨q3, r3, _, p3⟩ := DataW.trod_int Try.underlying2 s3
          obtain ⟨q4, r4, _, p4⟩ := DataW.trod_int Try.underlying2 s4
          obtain ⟨q5, r5, _, p5⟩ := DataW.trod_int Try.underlying2 s5
          exact ⟨g0, g1, g2, g3, g4, g5, ⟨q0, by simpa using r0, bounds_i64 p0⟩, ⟨q1, by simpa using r1, bounds_i64 p1⟩, ⟨q2, by simpa using r2, bounds_i64 p2⟩, ⟨q3, by simpa using r3, bounds_i64 p3⟩, ⟨q4, by simpa using r4, bounds_i64 p4⟩, ⟨q5, by simpa using r5, bounds_i64 p5⟩⟩
      · exact ⟨0, fun h => absurd h hlt⟩
    obtain ⟨g, hg⟩ := Classical.axiomOfChoice hj
    have hgd : ∀ j, j < len → ((List.range len).map g).getD j 0 = g j := fun j hjl => by simp [List.getD_eq_getElem?_getD, hjl]
    refine ⟨(List.range len).map g, by simp; omega, ?_, some a, cap, by simp, ?_⟩
    · intro k hk
      obtain ⟨j, hjm, rfl⟩ := List.mem_map.1 hk
      exact (hg j (by simpa using hjm)).1
    · by_cases h0 : len = 0
      · left; rw [h0]; rfl
      · right
        obtain ⟨b, off, rfl, hb⟩ := addr_spot (by have := (hx 0 (by omega)).1; simpa using this)
        refine ⟨b, off, rfl, hb, fun j hjl => ?_⟩
        have hjl : j < len := by simpa using hjl
        obtain ⟨_, W', K, Aj, cj, e0, e1, e2, h1, h2, h3⟩ := hg j hjl
        obtain ⟨c0, c1, c2, _⟩ := hx j hjl
        rw [addr_plus] at c0 c1 c2
        rw [← Nat.add_assoc] at c1 c2
        rw [hgd j hjl]
        exact ⟨W', K, Aj, cj, by rw [c0, e0], by rw [c1, e1], by rw [c2, e2], h1, h2, h3⟩
set_option maxRecDepth 100000 in
theorem open_cascade {H : Type} {enc : TypeId × Value → H} {W : World} {base b0 : Nat} {spare : Nat → Bool} {held : Bool} {v : Value} {d : DataW H} {p : List MemPlace}
    (hv : Value.okWide Try.prog W .any b0 25 v) (h : DataW.Trod enc Try.prog W base spare held 25 v d p) : ∃ nw kp A n c ks lv, CI W W.heap.size v nw kp A n c ks lv := by
  obtain ⟨v0, v1, v2, v3, y0, y1, y2, y3, n, rfl, _, _, t0, t1, t2, t3⟩ := Go.Joins.open_agg4 Try.underlying25 (by kernel_rfl) (by kernel_rfl) hv h
  obtain ⟨x0, e0, _, f0⟩ := DataW.trod_int Try.underlying2 t0
  obtain ⟨x1, e1, _, f1⟩ := DataW.trod_int Try.underlying2 t1
  simp at e0 e1
  subst e0 e1
  obtain ⟨ks, hks⟩ := open_levels t3
  rcases Go.Deep.open_slice_pairs Try.underlying22 Try.underlying27 (by kernel_rfl) rfl rfl (by kernel_rfl) (by kernel_rfl) t2 with ⟨hcs, _⟩ | ⟨a, len, cap, m, n', V0, V1, D0, D1, P0, P1, hcs, _, hl, hm, hmm, _, hx⟩
  · simp at hcs
    subst hcs
    exact ⟨x0, x1, none, 0, 0, ks, v3, rfl, bounds_i64 f0, bounds_i64 f1, by unfold maxLen; omega, fun _ => ⟨[], rfl, pl_nil _ _ _⟩, hks⟩
  · simp at hcs
    subst hcs
    refine ⟨x0, x1, some a, len, cap, ks, v3, rfl, bounds_i64 f0, bounds_i64 f1, by omega, fun hn => pl_of a _ _ W V0 V1 hn fun i hi => ?_, hks⟩
    have him : i < m := by rw [hmm]; split <;> omega
    obtain ⟨c0, c1, s0, s1⟩ := hx i him
    obtain ⟨q0, r0, _, g0⟩ := DataW.trod_int Try.underlying2 s0
    obtain ⟨q1, r1, _, g1⟩ := DataW.trod_int Try.underlying2 s1
    exact ⟨c0, c1, ⟨q0, by simpa using r0, bounds_i64 g0⟩, q1, by simpa using r1, bounds_i64 g1⟩
end Go.Proofs.Ytkekpkfhljankaa
