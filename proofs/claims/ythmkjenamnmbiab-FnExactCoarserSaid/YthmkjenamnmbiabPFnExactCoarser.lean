/- 'FnExactCoarser': for every input the law returns true, and each argument reads afterwards as before. No condition. -/
import Derived.Test.YthmkjenamnmbiabRows
import Derived.Test.YthmkjenamnmbiabYw
import Derived.WalkKit
import Derived.ProofKit
import Derived.OpenShut
import Derived.ShutString
import Derived.ChangeOld
import Derived.Below
import Derived.Deep.SlicePairs
import Derived.Deep.Slices
namespace Go.Proofs.Ythmkjenamnmbiab.fnExactCoarserDone
open Go.ChangeShapes Go.WideShapes Go.ChangeAt Go.RowKit
open Go.ChangeMaps (open_string shut_string)
set_option linter.unusedVariables false
set_option linter.unusedSimpArgs false

section
variable {H : Type} {enc : TypeId × Value → H} {P : Program} {w : World} {base : Nat} {spare : Nat → Bool} {held : Bool}
theorem add_add3 (a : Addr) (i j : Nat) : (a.add i).add j = a.add (i + j) := by
  obtain ⟨b, o, s⟩ := a
  by_cases hi : i = 0
  · subst hi; simp [Addr.add]
  · by_cases hj : j = 0
    · subst hj; simp [Addr.add, hi]
    · have hij : ¬ i + j = 0 := by omega
      have hij' : ¬ (i = 0 ∧ j = 0) := by omega
      simp [Addr.add, hi, hj, hij, hij', Nat.add_assoc]
/-- a slice of structs of six fields, of one cell each -/
theorem open_slice6 {t e : TypeId} {f0 f1 f2 f3 f4 f5 : Field} {fuel : Nat} {cs : List Value} {x : DataW H × List MemPlace} (ht : P.underlying t = some (.slice e)) (he : P.underlying e = some (.struct #[f0, f1, f2, f3, f4, f5]))
    (ce : P.cellsOf e = 6) (o0 : f0.offset = 0) (o1 : f1.offset = 1) (o2 : f2.offset = 2) (o3 : f3.offset = 3) (o4 : f4.offset = 4) (o5 : f5.offset = 5) (c0 : P.cellsOf f0.type = 1) (c1 : P.cellsOf f1.type = 1) (c2 : P.cellsOf f2.type = 1) (c3 : P.cellsOf f3.type = 1) (c4 : P.cellsOf f4.type = 1) (c5 : P.cellsOf f5.type = 1)
    (h : DataW.trod enc P w base spare held fuel t cs = some x) :
    cs = [.slice none 0 0] ∨
    ∃ (a : Addr) (len cap n : Nat) (V0 V1 V2 V3 V4 V5 : Nat → Value), cs = [.slice (some a) len cap] ∧ len ≤ cap ∧ cap ≤ maxLen ∧
      ∀ i, i < len → w.cell? (a.add (i * 6)) = some (V0 i) ∧ w.cell? (a.add (i * 6 + 1)) = some (V1 i) ∧ w.cell? (a.add (i * 6 + 2)) = some (V2 i) ∧ w.cell? (a.add (i * 6 + 3)) = some (V3 i) ∧ w.cell? (a.add (i * 6 + 4)) = some (V4 i) ∧ w.cell? (a.add (i * 6 + 5)) = some (V5 i) ∧
        (∃ z, DataW.trod enc P w base spare held n f0.type [V0 i] = some z) ∧ (∃ z, DataW.trod enc P w base spare held n f1.type [V1 i] = some z) ∧ (∃ z, DataW.trod enc P w base spare held n f2.type [V2 i] = some z) ∧ (∃ z, DataW.trod enc P w base spare held n f3.type [V3 i] = some z) ∧ (∃ z, DataW.trod enc P w base spare held n f4.type [V4 i] = some z) ∧ (∃ z, DataW.trod enc P w base spare held n f5.type [V5 i] = some z) := by
  rcases Go.Deep.open_slice ht h with ⟨h0, _⟩ | ⟨a, len, cap, m, n, D, Pl, rfl, hb, hl, hm, hmm, rfl, hx⟩
  · exact Or.inl h0
  right
  have hlm : len ≤ m := by rw [hmm]; split <;> omega
  have each : ∀ i, i < len → ∃ q : Value × Value × Value × Value × Value × Value, w.cell? (a.add (i * 6)) = some q.1 ∧ w.cell? (a.add (i * 6 + 1)) = some q.2.1 ∧ w.cell? (a.add (i * 6 + 2)) = some q.2.2.1 ∧ w.cell? (a.add (i * 6 + 3)) = some q.2.2.2.1 ∧ w.cell? (a.add (i * 6 + 4)) = some q.2.2.2.2.1 ∧ w.cell? (a.add (i * 6 + 5)) = some q.2.2.2.2.2 ∧
      (∃ z, DataW.trod enc P w base spare held (n - 1) f0.type [q.1] = some z) ∧ (∃ z, DataW.trod enc P w base spare held (n - 1) f1.type [q.2.1] = some z) ∧ (∃ z, DataW.trod enc P w base spare held (n - 1) f2.type [q.2.2.1] = some z) ∧ (∃ z, DataW.trod enc P w base spare held (n - 1) f3.type [q.2.2.2.1] = some z) ∧ (∃ z, DataW.trod enc P w base spare held (n - 1) f4.type [q.2.2.2.2.1] = some z) ∧ (∃ z, DataW.trod enc P w base spare held (n - 1) f5.type [q.2.2.2.2.2] = some z) := by
    intro i hi
    obtain ⟨cs', h1, h2⟩ := hx i (by omega)
    rw [ce] at h1
    obtain ⟨_, hlen, hcell⟩ := World.cells?_some h1
    obtain ⟨xs, k, hk, hxy, _, hxl, hf⟩ := DataW.trod_struct he h2
    have hk' : k = n - 1 := by omega
    subst hk'
    match xs, hxl, cs', hlen with
    | [y0, y1, y2, y3, y4, y5], _, [v0, v1, v2, v3, v4, v5], _ =>
      have g0 := hf 0 f0 rfl
      have g1 := hf 1 f1 rfl
      have g2 := hf 2 f2 rfl
      have g3 := hf 3 f3 rfl
      have g4 := hf 4 f4 rfl
      have g5 := hf 5 f5 rfl
      simp [o0, o1, o2, o3, o4, o5, c0, c1, c2, c3, c4, c5] at g0 g1 g2 g3 g4 g5
      have e0 := hcell 0 (by omega)
      have e1 := hcell 1 (by omega)
      have e2 := hcell 2 (by omega)
      have e3 := hcell 3 (by omega)
      have e4 := hcell 4 (by omega)
      have e5 := hcell 5 (by omega)
      rw [add_add3] at e0 e1 e2 e3 e4 e5
      exact ⟨(v0, v1, v2, v3, v4, v5), by simpa using e0, by simpa using e1, by simpa using e2, by simpa using e3, by simpa using e4, by simpa using e5, ⟨_, g0⟩, ⟨_, g1⟩, ⟨_, g2⟩, ⟨_, g3⟩, ⟨_, g4⟩, ⟨_, g5⟩⟩
  obtain ⟨q, hq⟩ := Go.Deep.choose_lt each
  exact ⟨a, len, cap, n - 1, fun i => (q i).1, fun i => (q i).2.1, fun i => (q i).2.2.1, fun i => (q i).2.2.2.1, fun i => (q i).2.2.2.2.1, fun i => (q i).2.2.2.2.2, rfl, hl, hm, hq⟩
end

theorem own : ownKnob Try.prog.godebug = none := by kernel_rfl
theorem laidOut : laidOutB Try.prog = true := by kernel_rfl
set_option maxRecDepth 100000 in
theorem lifted (os : Os) (started : os.Started) (H : Type) (enc : TypeId × Value → H) :
    ReturnsInHanded {} Try.checked os 5 .any (Rows.fnExactCoarserSpec.pre6 enc Try.prog Try.f5 Rows.fnExactCoarserRow.domain false) (Rows.fnExactCoarserSpec.post enc Try.prog Try.f5 false true false false) := by
  refine returnsInHanded_of_change (C := Try.checked) own started (by kernel_rfl) Try.func5
    (ChangeSpec.witness6 (enc := enc) (C := Try.checked) false ⟨#[], #[.slice none 0 0, .int .i64 0, .int .i64 0], []⟩ 8 (by kernel_rfl) (by kernel_rfl) (by kernel_rfl) (by kernel_rfl)) ?_
  intro W base args ds gs before hval0 hW hcnd _
  have hval : ∀ (j : Nat) t v, Try.f5.params[j]? = some t → args[j]? = some v → Value.okWide Try.prog W .any base t v := hval0
  have hW' := hW
  obtain ⟨p, q, hA0, hV, rfl, hfz, hnd⟩ := hW
  have hA : DataW.TrodAll enc Try.prog W 0 (fun _ => true) true Try.f5.params.toList args.toList ds p := hA0
  rw [Try.params5] at hA hval
  obtain ⟨v0, vs0, d0, ds0, p0, q0, hargs, rfl, rfl, h0, r0⟩ := trodAll_cons hA
  obtain ⟨v1, vs1, d1, ds1, p1, q1, rfl, rfl, rfl, h1, r1⟩ := trodAll_cons r0
  obtain ⟨v2, vs2, d2, ds2, p2, q2, rfl, rfl, rfl, h2, r2⟩ := trodAll_cons r1
  obtain ⟨rfl, rfl, rfl⟩ := trodAll_nil r2
  obtain rfl : args = #[v0, v1, v2] := by cases args; simp_all
  obtain ⟨rfl, rfl⟩ := trodVars_none hV
  obtain ⟨a0, len0, cap0, rfl⟩ := okWide_slice Try.underlying22 (hval 0 22 v0 rfl rfl)
  have k0 := h0
  have lt0 : ∀ x ∈ p0, x.block < W.heap.size := by obtain ⟨m, hm⟩ := k0; exact DataW.trod_lt m _ _ _ hm
  obtain ⟨hm0, w0⟩ : len0 ≤ maxLen ∧ (len0 ≤ 1048576 → ∃ xs : List R6, xs.length = len0 ∧ RL W W.heap.size (.slice a0 len0 cap0) xs) := by
    obtain ⟨fuel, hf⟩ := h0
    rcases open_slice6 Try.underlying22 Try.underlying85 (by kernel_rfl) rfl rfl rfl rfl rfl rfl (by kernel_rfl) (by kernel_rfl) (by kernel_rfl) (by kernel_rfl) (by kernel_rfl) (by kernel_rfl) hf with hcs | ⟨a, len, cap, n, V0, V1, V2, V3, V4, V5, hcs, hl, hm, hx⟩
    · simp [Value.cells] at hcs
      obtain ⟨rfl, rfl, rfl⟩ := hcs
      exact ⟨by unfold maxLen; omega, fun _ => ⟨[], rfl, rl_nil _ _ _⟩⟩
    · simp [Value.cells] at hcs
      obtain ⟨rfl, rfl, rfl⟩ := hcs
      refine ⟨by omega, fun hn => rl_of a _ _ W V0 V1 V2 V3 V4 V5 hn fun i hi => ?_⟩
      obtain ⟨c0, c1, c2, c3, c4, c5, ⟨z0, t0⟩, ⟨z1, t1⟩, ⟨z2, t2⟩, ⟨z3, t3⟩, ⟨z4, t4⟩, ⟨z5, t5⟩⟩ := hx i hi
      obtain ⟨x0, e0, _, f0⟩ := DataW.trod_int Try.underlying2 t0
      obtain ⟨x1, e1, _, f1⟩ := DataW.trod_int Try.underlying2 t1
      obtain ⟨x2, e2, _, f2⟩ := DataW.trod_int Try.underlying2 t2
      obtain ⟨x3, e3, _, f3⟩ := DataW.trod_int Try.underlying2 t3
      obtain ⟨x4, e4, _, f4⟩ := DataW.trod_int Try.underlying2 t4
      obtain ⟨x5, e5, _, f5⟩ := DataW.trod_int Try.underlying2 t5
      exact ⟨c0, c1, c2, c3, c4, c5, ⟨x0, by simpa using e0, bounds_i64 f0⟩, ⟨x1, by simpa using e1, bounds_i64 f1⟩, ⟨x2, by simpa using e2, bounds_i64 f2⟩, ⟨x3, by simpa using e3, bounds_i64 f3⟩, ⟨x4, by simpa using e4, bounds_i64 f4⟩, ⟨x5, by simpa using e5, bounds_i64 f5⟩⟩
  obtain ⟨a1, rfl, rfl, rfl, w1⟩ := open_int Try.underlying2 (hval 1 2 v1 rfl rfl) h1
  obtain ⟨a2, rfl, rfl, rfl, w2⟩ := open_int Try.underlying2 (hval 2 2 v2 rfl rfl) h2
  clear hA0 hval0
  refine (walkFnExactCoarser a0 len0 cap0 a1 a2 W hm0 w0 (bounds_i64 w1) (bounds_i64 w2)).mono fun e W' ⟨he, bel⟩ => ?_
  subst he
  exact ⟨_, rfl, _, _, _, [], _, [], hW', trodAll_mk1 (shut_bool Try.underlying4 _), (trodAll_cons_mk (Below.trod laidOut (by kernel_rfl) (of_decide_eq_true (by kernel_rfl)) k0 bel lt0) (trodAll_cons_mk (shut_int Try.underlying2 w1) (trodAll_cons_mk (shut_int Try.underlying2 w2) trodAll_mk0))), rfl, bel.frame _, fun h => by cases h⟩
theorem over : Rows.fnExactCoarserRow.holds Try.pinned (OpenSpec.ofChange Rows.fnExactCoarserSpec) :=
  OpenClaim.holds_of_wide 5 Try.f5 rfl rfl rfl rfl rfl rfl rfl ⟨rfl, rfl, rfl, rfl, rfl⟩ rfl rfl rfl rfl rfl (by kernel_rfl) Try.func5 (by kernel_rfl)
    (of_decide_eq_true (by kernel_rfl)) (by unfold Func.isWrapper; first | (rw [if_pos (by decide +kernel)]; kernel_rfl) | (rw [if_neg (by decide +kernel)]; exact ⟨rfl, rfl⟩))
    (fun os started H enc _ => lifted os started H enc)
theorem proved : Rows.FnExactCoarserSaid := over
#print axioms proved
end Go.Proofs.Ythmkjenamnmbiab.fnExactCoarserDone
