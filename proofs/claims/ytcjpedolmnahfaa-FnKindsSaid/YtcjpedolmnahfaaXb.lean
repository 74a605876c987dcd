/- Walks: drawn points and widths; equal lists. -/
import Derived.Test.YtcjpedolmnahfaaXa
import Derived.Test.YtcjpedolmnahfaaUb
import Derived.Test.YtcjpedolmnahfaaYq
import Derived.Laws.AppendOwnNone
set_option linter.unusedVariables false
set_option linter.unusedSimpArgs false
namespace Go.Proofs.Ytcjpedolmnahfaa
open Go.RowKit

/-- append(x, y...): x a row of the call's own, y another's, or nil -/
theorem wpList_append_row {P : Program} {w : World} {ops : Array Oper} {rest : List Oper} {o : Oper} {a : Act} {Q : Exit → Act → World → Prop} (hgd : o.guard = none) (s x : Operand) (t : TypeId)
    (ho : o.op = .call { callee := .builtin .append, args := #[s, x], argTypes := #[t, t] })
    (base : Nat) (e : TypeId) (i : TypeInfo) (z : Value) (size bytes : Nat) (ht : P.underlying t = some (.slice e)) (hi : P.info? e = some i) (hz : i.zero = some z)
    (hsize : i.size = size) (hby : i.bytes = bytes) (hzs : z.cells.size = size) (hsz : 0 < size)
    (v : Value) (n : Nat) (xs : List Value) (hs : a.eval s = v) (hown : w.ownsRow base e size v n xs)
    (b2 : Nat) (u : Value) (m : Nat) (ys : List Value) (hx : a.eval x = u) (hu : w.ownsRow b2 e size u m ys) (h1 : ∀ q ∈ ys, q.oneCell' = true)
    (h63 : n + m ≤ maxLen) (hbytes : (n + m) * bytes ≤ 140737488355328) (hbase : base ≤ w.heap.size)
    (h : ∀ v' w', w'.ownsRow base e size v' (n + m) (xs ++ ys) → w.grownBy w' v.ownBlock → wpList P ops Q rest (a.put o.dst v') w') : wpList P ops Q (o :: rest) a w := by
  rcases hu.2 with ⟨rfl, h0⟩ | ⟨g, cap, cur, rfl, _⟩
  · subst h0
    have hy : ys = [] := List.eq_nil_of_length_eq_zero (by have := hu.1; omega)
    subst hy
    exact wpList_append_own_none hgd s x t ho base e i size ht hi v n xs hs hown hx (h v w (by simpa using hown) (World.grownBy.refl _ _))
  · exact wpList_append_own _ hgd s x t ho base e i z size bytes ht hi hz hsize hby hzs hsz v n xs hs hown ⟨g, 0, none⟩ m cap ys hx hu.1 (fun j q hq => hu.cells rfl j q hq) h1 h63 hbytes hbase (fun v' w' h2 h3 _ => h v' w' h2 h3)
theorem prs_one (xs : List (Int × Int)) : ∀ u ∈ prs xs, u.oneCell' = true := by
  intro u hu
  unfold prs at hu
  obtain ⟨p, _, h2⟩ := List.mem_flatMap.1 hu
  simp at h2
  rcases h2 with rfl | rfl <;> rfl


set_option maxRecDepth 100000 in
set_option maxHeartbeats 2000000 in
theorem samePoints_any (v u : Value) (xs : List (Int × Int)) (w : World) (h : PL w w.heap.size v xs) (h' : PL w w.heap.size u xs) :
    Calls Try.prog 23 #[v, u] w fun e w' => e = .returned (.bool true) ∧ Below w.heap.size w w' := by
  obtain ⟨_, hlen, A, c, rfl, h3⟩ := h
  obtain ⟨_, _, A', c', rfl, h3'⟩ := h'
  go_enter Try.func23, Try.ntmps23
  go_wp2_with fail
  go_loopw [5] (fun i wr => ∃ (j k : Nat), j ≤ xs.length ∧ i = .int .i64 j ∧ wr = w.drewN k) (fun i _ => xs.length - (intOf i).toNat)
  case atStart => exact ⟨0, 0, Nat.zero_le _, rfl, rfl⟩
  case round =>
    obtain ⟨j, k, hk, rfl, rfl⟩ := hrel
    by_cases hlt : j < xs.length
    · rcases h3 with h3 | ⟨b, off, rfl, hbl, hc⟩
      · subst h3; simp at hlt
      rcases h3' with h3' | ⟨b', off', rfl, hbl', hc'⟩
      · subst h3'; simp at hlt
      have hx0 : w.cell? ⟨b, off + j * 2, none⟩ = some (.int .i64 (xs.getD j (0, 0)).1) := (hc j hlt).1
      have hy0 : w.cell? ⟨b', off' + j * 2, none⟩ = some (.int .i64 (xs.getD j (0, 0)).1) := (hc' j hlt).1
      have hx1 : w.cell? ⟨b, off + j * 2 + 1, none⟩ = some (.int .i64 (xs.getD j (0, 0)).2) := (hc j hlt).2
      have hy1 : w.cell? ⟨b', off' + j * 2 + 1, none⟩ = some (.int .i64 (xs.getD j (0, 0)).2) := (hc' j hlt).2
      clear hc hc'
      generalize (xs.getD j (0, 0)).1 = z0 at *
      generalize (xs.getD j (0, 0)).2 = z1 at *
      go_wp2_with fail
      go_quiet (fail)
      go_wp2_with fail
      go_roundw
      case rel => exact ⟨j + 1, _, by omega, by go_num, rfl⟩
      case measure => simp [intOf]; omega
    · obtain rfl : j = xs.length := by omega
      go_wp2_with fail
      go_ret
      exact ⟨rfl, below_drewN_u (Below.refl _ _) _⟩


set_option maxRecDepth 100000 in
set_option maxHeartbeats 2000000 in
theorem sameRolls_any (v u : Value) (xs : List R6) (w : World) (h : RL w w.heap.size v xs) (h' : RL w w.heap.size u xs) :
    Calls Try.prog 26 #[v, u] w fun e w' => e = .returned (.bool true) ∧ Below w.heap.size w w' := by
  obtain ⟨_, hlen, A, c, rfl, h3⟩ := h
  obtain ⟨_, _, A', c', rfl, h3'⟩ := h'
  go_enter Try.func26, Try.ntmps26
  go_wp2_with fail
  go_loopw [5] (fun i wr => ∃ (j k : Nat), j ≤ xs.length ∧ i = .int .i64 j ∧ wr = w.drewN k) (fun i _ => xs.length - (intOf i).toNat)
  case atStart => exact ⟨0, 0, Nat.zero_le _, rfl, rfl⟩
  case round =>
    obtain ⟨j, k, hk, rfl, rfl⟩ := hrel
    by_cases hlt : j < xs.length
    · rcases h3 with h3 | ⟨b, off, rfl, hbl, hc⟩
      · subst h3; simp at hlt
      rcases h3' with h3' | ⟨b', off', rfl, hbl', hc'⟩
      · subst h3'; simp at hlt
      have hx0 : w.cell? ⟨b, off + j * 6, none⟩ = some (.int .i64 (xs.getD j z6).1) := (hc j hlt).1
      have hy0 : w.cell? ⟨b', off' + j * 6, none⟩ = some (.int .i64 (xs.getD j z6).1) := (hc' j hlt).1
      have hx1 : w.cell? ⟨b, off + j * 6 + 1, none⟩ = some (.int .i64 (xs.getD j z6).2.1) := (hc j hlt).2.1
      have hy1 : w.cell? ⟨b', off' + j * 6 + 1, none⟩ = some (.int .i64 (xs.getD j z6).2.1) := (hc' j hlt).2.1
      have hx2 : w.cell? ⟨b, off + j * 6 + 2, none⟩ = some (.int .i64 (xs.getD j z6).2.2.1) := (hc j hlt).2.2.1
      have hy2 : w.cell? ⟨b', off' + j * 6 + 2, none⟩ = some (.int .i64 (xs.getD j z6).2.2.1) := (hc' j hlt).2.2.1
      have hx3 : w.cell? ⟨b, off + j * 6 + 3, none⟩ = some (.int .i64 (xs.getD j z6).2.2.2.1) := (hc j hlt).2.2.2.1
      have hy3 : w.cell? ⟨b', off' + j * 6 + 3, none⟩ = some (.int .i64 (xs.getD j z6).2.2.2.1) := (hc' j hlt).2.2.2.1
      have hx4 : w.cell? ⟨b, off + j * 6 + 4, none⟩ = some (.int .i64 (xs.getD j z6).2.2.2.2.1) := (hc j hlt).2.2.2.2.1
      have hy4 : w.cell? ⟨b', off' + j * 6 + 4, none⟩ = some (.int .i64 (xs.getD j z6).2.2.2.2.1) := (hc' j hlt).2.2.2.2.1
      have hx5 : w.cell? ⟨b, off + j * 6 + 5, none⟩ = some (.int .i64 (xs.getD j z6).2.2.2.2.2) := (hc j hlt).2.2.2.2.2
      have hy5 : w.cell? ⟨b', off' + j * 6 + 5, none⟩ = some (.int .i64 (xs.getD j z6).2.2.2.2.2) := (hc' j hlt).2.2.2.2.2
      clear hc hc'
      generalize (xs.getD j z6).1 = z0 at *
      generalize (xs.getD j z6).2.1 = z1 at *
      generalize (xs.getD j z6).2.2.1 = z2 at *
      generalize (xs.getD j z6).2.2.2.1 = z3 at *
      generalize (xs.getD j z6).2.2.2.2.1 = z4 at *
      generalize (xs.getD j z6).2.2.2.2.2 = z5 at *
      go_wp2_with fail
      go_quiet (fail)
      go_wp2_with fail
      go_roundw
      case rel => exact ⟨j + 1, _, by omega, by go_num, rfl⟩
      case measure => simp [intOf]; omega
    · obtain rfl : j = xs.length := by omega
      go_wp2_with fail
      go_ret
      exact ⟨rfl, below_drewN_u (Below.refl _ _) _⟩





end Go.Proofs.Ytcjpedolmnahfaa
