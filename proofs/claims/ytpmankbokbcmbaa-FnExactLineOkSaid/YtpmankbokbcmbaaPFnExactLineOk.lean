/- 'FnExactLineOk': for every input the law returns true, and each argument reads afterwards as before. No condition. -/
import Derived.Test.YtpmankbokbcmbaaRows
import Derived.Test.YtpmankbokbcmbaaTo
import Derived.Lib.SmallJoins
import Derived.WalkKit
import Derived.ProofKit
import Derived.OpenShut
import Derived.ShutString
import Derived.ChangeOld
import Derived.Below
import Derived.Deep.SlicePairs
import Derived.Deep.Slices
namespace Go.Proofs.Ytpmankbokbcmbaa.fnExactLineOkDone
open Go.ChangeShapes Go.WideShapes Go.ChangeAt Go.RowKit
open Go.ChangeMaps (open_string shut_string)
set_option linter.unusedVariables false
set_option linter.unusedSimpArgs false

theorem own : ownKnob Try.prog.godebug = none := by kernel_rfl
theorem laidOut : laidOutB Try.prog = true := by kernel_rfl
set_option maxRecDepth 100000 in
theorem open_line {H : Type} {enc : TypeId × Value → H} {W : World} {base b0 : Nat} {spare : Nat → Bool} {held : Bool} {v : Value} {d : DataW H} {p : List MemPlace}
    (hv : Value.okWide Try.prog W .any b0 48 v) (h : DataW.Trod enc Try.prog W base spare held 48 v d p) : ∃ A n c V T, v = .agg #[.slice A n c, .int .i64 V, .int .i64 T] ∧ n ≤ maxLen ∧ (n ≤ 1048576 → ∃ xs : List (ByteArray × ByteArray), xs.length = n ∧ LL W W.heap.size (.slice A n c) xs) ∧ Rng V ∧ Rng T := by
  obtain ⟨v0, v1, v2, y0, y1, y2, n, rfl, _, _, t0, t1, t2⟩ := Go.Joins.open_agg3 Try.underlying48 (by kernel_rfl) (by kernel_rfl) hv h
  obtain ⟨x1, e1, _, f1⟩ := DataW.trod_int Try.underlying2 t1
  obtain ⟨x2, e2, _, f2⟩ := DataW.trod_int Try.underlying2 t2
  simp at e1 e2
  subst e1 e2
  rcases Go.Deep.open_slice_pairs Try.underlying46 Try.underlying105 (by kernel_rfl) rfl rfl (by kernel_rfl) (by kernel_rfl) t0 with ⟨hcs, _⟩ | ⟨a, len, cap, m, n', V0, V1, D0, D1, P0, P1, hcs, _, hl, hm, hmm, _, hx⟩
  · simp at hcs
    subst hcs
    exact ⟨none, 0, 0, x1, x2, rfl, by unfold maxLen; omega, fun _ => ⟨[], rfl, ll_nil _ _ _⟩, bounds_i64 f1, bounds_i64 f2⟩
  · simp at hcs
    subst hcs
    refine ⟨some a, len, cap, x1, x2, rfl, by omega, fun hn => ll_of a _ _ W V0 V1 hn fun i hi => ?_, bounds_i64 f1, bounds_i64 f2⟩
    have him : i < m := by rw [hmm]; split <;> omega
    obtain ⟨c0, c1, s0, s1⟩ := hx i him
    obtain ⟨q0, r0, _, g0⟩ := DataW.trod_string Try.underlying9 s0
    obtain ⟨q1, r1, _, g1⟩ := DataW.trod_string Try.underlying9 s1
    exact ⟨c0, c1, ⟨q0, by simpa using r0, g0⟩, q1, by simpa using r1, g1⟩
set_option maxRecDepth 100000 in
theorem lifted (os : Os) (started : os.Started) (H : Type) (enc : TypeId × Value → H) :
    ReturnsInHanded {} Try.checked os 8 .any (Rows.fnExactLineOkSpec.pre6 enc Try.prog Try.f8 Rows.fnExactLineOkRow.domain false) (Rows.fnExactLineOkSpec.post enc Try.prog Try.f8 false true false false) := by
  refine returnsInHanded_of_change (C := Try.checked) own started (by kernel_rfl) Try.func8
    (ChangeSpec.witness6 (enc := enc) (C := Try.checked) false ⟨#[], #[.agg #[.slice none 0 0, .int .i64 0, .int .i64 0]], []⟩ 8 (by kernel_rfl) (by kernel_rfl) (by kernel_rfl) (by kernel_rfl)) ?_
  intro W base args ds gs before hval0 hW hcnd _
  have hval : ∀ (j : Nat) t v, Try.f8.params[j]? = some t → args[j]? = some v → Value.okWide Try.prog W .any base t v := hval0
  have hW' := hW
  obtain ⟨p, q, hA0, hV, rfl, hfz, hnd⟩ := hW
  have hA : DataW.TrodAll enc Try.prog W 0 (fun _ => true) true Try.f8.params.toList args.toList ds p := hA0
  rw [Try.params8] at hA hval
  obtain ⟨v0, vs0, d0, ds0, p0, q0, hargs, rfl, rfl, h0, r0⟩ := trodAll_cons hA
  obtain ⟨rfl, rfl, rfl⟩ := trodAll_nil r0
  obtain rfl : args = #[v0] := by cases args; simp_all
  obtain ⟨rfl, rfl⟩ := trodVars_none hV
  have k0 := h0
  have lt0 : ∀ x ∈ p0, x.block < W.heap.size := by obtain ⟨m, hm⟩ := k0; exact DataW.trod_lt m _ _ _ hm
  obtain ⟨A, n, c, V, T, rfl, hmn, hxn, rV, rT⟩ := open_line (hval 0 48 v0 rfl rfl) h0
  clear hA0 hval0
  refine (walkFnExactLineOk A n c V T W hmn hxn).mono fun e W' ⟨he, bel⟩ => ?_
  subst he
  exact ⟨_, rfl, _, _, _, [], _, [], hW', trodAll_mk1 (shut_bool Try.underlying4 _), (trodAll_cons_mk (Below.trod laidOut (by kernel_rfl) (of_decide_eq_true (by kernel_rfl)) k0 bel lt0) trodAll_mk0), rfl, bel.frame _, fun h => by cases h⟩
theorem over : Rows.fnExactLineOkRow.holds Try.pinned (OpenSpec.ofChange Rows.fnExactLineOkSpec) :=
  OpenClaim.holds_of_wide 8 Try.f8 rfl rfl rfl rfl rfl rfl rfl ⟨rfl, rfl, rfl, rfl, rfl⟩ rfl rfl rfl rfl rfl (by kernel_rfl) Try.func8 (by kernel_rfl)
    (of_decide_eq_true (by kernel_rfl)) (by unfold Func.isWrapper; first | (rw [if_pos (by decide +kernel)]; kernel_rfl) | (rw [if_neg (by decide +kernel)]; exact ⟨rfl, rfl⟩))
    (fun os started H enc _ => lifted os started H enc)
theorem proved : Rows.FnExactLineOkSaid := over
#print axioms proved
end Go.Proofs.Ytpmankbokbcmbaa.fnExactLineOkDone
