/- Walks: drawn points and widths; equal lists. -/
import Derived.Test.YthmkjenamnmbiabXa
import Derived.Test.YthmkjenamnmbiabUb
import Derived.Test.YthmkjenamnmbiabYq
import Derived.Laws.AppendOwnNone
set_option linter.unusedVariables false
set_option linter.unusedSimpArgs false
namespace Go.Proofs.Ythmkjenamnmbiab
open Go.RowKit

/-- append(x, y...): x a row of the call's own, y another's, or nil -/
theorem wpList_append_row {P : Program} {w : World} {ops : Array Oper} {rest : List Oper} {o : Oper} {a : Act} {Q : Exit → Act → World → Prop} (hgd : o.guard = none) (s x : Operand) (t : TypeId)
    (ho : o.op = .call { callee := .builtin .append, args := #[s, x], argTypes := #[t, t] })
    (base : Nat) (e : TypeId) (i : TypeInfo) (z : Value) (size bytes : Nat) (ht : P.underlying t = some (.slice e)) (hi : P.info? e = some i) (hz : i.zero = some z)
    (hsize : i.size = size) (hby : i.bytes = bytes) (hzs : z.cells.size = size) (hsz : 0 < size)
    (v : Value) (n : Nat) (xs : List Value) (hs : a.eval s = v) (hown : w.ownsRow base e size v n xs)
    (b2 : Nat) (u : Value) (m : Nat) (ys : List Value) (hx : a.eval x = u) (hu : w.ownsRow b2 e size u m ys) (h1 : ∀ q ∈ ys, q.oneCell' = true)
    (h63 : n + m ≤ maxLen) (hbytes : (n + m) * bytes ≤ 140737488355328) (hbase : base ≤ w.heap.size)
    (h : ∀ v' w', w'.ownsRow base e size v' (n + m) (xs ++ ys) → w.grownBy w' v.ownBlock → wpList P ops Q rest (a.put o.dst v') w') : wpList P ops Q (o :: rest) a w := by
  rcases hu.2 with ⟨rfl, h0⟩ | ⟨g, cap, cur, rfl, _⟩
  · subst h0
    have hy : ys = [] := List.eq_nil_of_length_eq_zero (by have := hu.1; omega)
    subst hy
    exact wpList_append_own_none hgd s x t ho base e i size ht hi v n xs hs hown hx (h v w (by simpa using hown) (World.grownBy.refl _ _))
  · exact wpList_append_own _ hgd s x t ho base e i z size bytes ht hi hz hsize hby hzs hsz v n xs hs hown ⟨g, 0, none⟩ m cap ys hx hu.1 (fun j q hq => hu.cells rfl j q hq) h1 h63 hbytes hbase (fun v' w' h2 h3 _ => h v' w' h2 h3)
theorem prs_one (xs : List (Int × Int)) : ∀ u ∈ prs xs, u.oneCell' = true := by
  intro u hu
  unfold prs at hu
  obtain ⟨p, _, h2⟩ := List.mem_flatMap.1 hu
  simp at h2
  rcases h2 with rfl | rfl <;> rfl


set_option maxRecDepth 100000 in
set_option maxHeartbeats 2000000 in
theorem samePoints_any (v u : Value) (xs : List (Int × Int)) (w : World) (h : PL w w.heap.size v xs) (h' : PL w w.heap.size u xs) :
    Calls Try.prog 41 #[v, u] w fun e w' => e = .returned (.bool true) ∧ Below w.heap.size w w' := by
  obtain ⟨_, hlen, A, c, rfl, h3⟩ := h
  obtain ⟨_, _, A', c', rfl, h3'⟩ := h'
  go_enter Try.func41, Try.ntmps41
  go_wp2_with fail
  go_loopw [5] (fun i wr => ∃ (j k : Nat), j ≤ xs.length ∧ i = .int .i64 j ∧ wr = w.drewN k) (fun i _ => xs.length - (intOf i).toNat)
  case atStart => exact ⟨0, 0, Nat.zero_le _, rfl, rfl⟩
  case round =>
    obtain ⟨j, k, hk, rfl, rfl⟩ := hrel
    by_cases hlt : j < xs.length
    · rcases h3 with h3 | ⟨b, off, rfl, hbl, hc⟩
      · subst h3; simp at hlt
      rcases h3' with h3' | ⟨b', off', rfl, hbl', hc'⟩
      · subst h3'; simp at hlt
      have hx0 : w.cell? ⟨b, off + j * 2, none⟩ = some (.int .i64 (xs.getD j (0, 0)).1) := (hc j hlt).1
      have hy0 : w.cell? ⟨b', off' + j * 2, none⟩ = some (.int .i64 (xs.getD j (0, 0)).1) := (hc' j hlt).1
      have hx1 : w.cell? ⟨b, off + j * 2 + 1, none⟩ = some (.int .i64 (xs.getD j (0, 0)).2) := (hc j hlt).2
      have hy1 : w.cell? ⟨b', off' + j * 2 + 1, none⟩ = some (.int .i64 (xs.getD j (0, 0)).2) := (hc' j hlt).2
      clear hc hc'
      generalize (xs.getD j (0, 0)).1 = z0 at *
      generalize (xs.getD j (0, 0)).2 = z1 at *
      go_wp2_with fail
      go_quiet (fail)
      go_wp2_with fail
      go_roundw
      case rel => exact ⟨j + 1, _, by omega, by go_num, rfl⟩
      case measure => simp [intOf]; omega
    · obtain rfl : j = xs.length := by omega
      go_wp2_with fail
      go_ret
      exact ⟨rfl, below_drewN_u (Below.refl _ _) _⟩


set_option maxRecDepth 100000 in
set_option maxHeartbeats 2000000 in
theorem sameRolls_any (v u : Value) (xs : List R6) (w : World) (h : RL w w.heap.size v xs) (h' : RL w w.heap.size u xs) :
    Calls Try.prog 38 #[v, u] w fun e w' => e = .returned (.bool true) ∧ Below w.heap.size w w' := by
  obtain ⟨_, hlen, A, c, rfl, h3⟩ := h
  obtain ⟨_, _, A', c', rfl, h3'⟩ := h'
  go_enter Try.func38, Try.ntmps38
  go_wp2_with fail
  go_loopw [5] (fun i wr => ∃ (j k : Nat), j ≤ xs.length ∧ i = .int .i64 j ∧ wr = w.drewN k) (fun i _ => xs.length - (intOf i).toNat)
  case atStart => exact ⟨0, 0, Nat.zero_le _, rfl, rfl⟩
  case round =>
    obtain ⟨j, k, hk, rfl, rfl⟩ := hrel
    by_cases hlt : j < xs.length
    · rcases h3 with h3 | ⟨b, off, rfl, hbl, hc⟩
      · subst h3; simp at hlt
      rcases h3' with h3' | ⟨b', off', rfl, hbl', hc'⟩
      · subst h3'; simp at hlt
      have hx0 : w.cell? ⟨b, off + j * 6, none⟩ = some (.int .i64 (xs.getD j z6).1) := (hc j hlt).1
      have hy0 : w.cell? ⟨b', off' + j * 6, none⟩ = some (.int .i64 (xs.getD j z6).1) := (hc' j hlt).1
      have hx1 : w.cell? ⟨b, off + j * 6 + 1, none⟩ = some (.int .i64 (xs.getD j z6).2.1) := (hc j hlt).2.1
      have hy1 : w.cell? ⟨b', off' + j * 6 + 1, none⟩ = some (.int .i64 (xs.getD j z6).2.1) := (hc' j hlt).2.1
      have hx2 : w.cell? ⟨b, off + j * 6 + 2, none⟩ = some (.int .i64 (xs.getD j z6).2.2.1) := (hc j hlt).2.2.1
      have hy2 : w.cell? ⟨b', off' + j * 6 + 2, none⟩ = some (.int .i64 (xs.getD j z6).2.2.1) := (hc' j hlt).2.2.1
      have hx3 : w.cell? ⟨b, off + j * 6 + 3, none⟩ = some (.int .i64 (xs.getD j z6).2.2.2.1) := (hc j hlt).2.2.2.1
      have hy3 : w.cell? ⟨b', off' + j * 6 + 3, none⟩ = some (.int .i64 (xs.getD j z6).2.2.2.1) := (hc' j hlt).2.2.2.1
      have hx4 : w.cell? ⟨b, off + j * 6 + 4, none⟩ = some (.int .i64 (xs.getD j z6).2.2.2.2.1) := (hc j hlt).2.2.2.2.1
      have hy4 : w.cell? ⟨b', off' + j * 6 + 4, none⟩ = some (.int .i64 (xs.getD j z6).2.2.2.2.1) := (hc' j hlt).2.2.2.2.1
      have hx5 : w.cell? ⟨b, off + j * 6 + 5, none⟩ = some (.int .i64 (xs.getD j z6).2.2.2.2.2) := (hc j hlt).2.2.2.2.2
      have hy5 : w.cell? ⟨b', off' + j * 6 + 5, none⟩ = some (.int .i64 (xs.getD j z6).2.2.2.2.2) := (hc' j hlt).2.2.2.2.2
      clear hc hc'
      generalize (xs.getD j z6).1 = z0 at *
      generalize (xs.getD j z6).2.1 = z1 at *
      generalize (xs.getD j z6).2.2.1 = z2 at *
      generalize (xs.getD j z6).2.2.2.1 = z3 at *
      generalize (xs.getD j z6).2.2.2.2.1 = z4 at *
      generalize (xs.getD j z6).2.2.2.2.2 = z5 at *
      go_wp2_with fail
      go_quiet (fail)
      go_wp2_with fail
      go_roundw
      case rel => exact ⟨j + 1, _, by omega, by go_num, rfl⟩
      case measure => simp [intOf]; omega
    · obtain rfl : j = xs.length := by omega
      go_wp2_with fail
      go_ret
      exact ⟨rfl, below_drewN_u (Below.refl _ _) _⟩


set_option maxRecDepth 100000 in
set_option maxHeartbeats 2000000 in
theorem DrawBetween_any (A : Option Addr) (n c : Nat) (w : World) (h : CodeAt w A n c) :
    Calls Try.prog 40 #[.slice A n c] w fun e w' => ∃ v xs a b, e = .returned (.tuple #[v, .int .i64 a, .int .i64 b]) ∧ w'.ownsRow w.heap.size 55 2 v xs.length (prs xs) ∧ xs.length ≤ 10 ∧ (∀ p ∈ xs, Rng p.1 ∧ Rng p.2) ∧ Rng a ∧ Rng b ∧ Below w.heap.size w w' := by
  have H := Lib.hid h
  clear h
  go_enter Try.func40, Try.ntmps40
  go_wp2_with fail
  refine (open_any A n c _ H.out).mono ?_
  rintro e w1 ⟨rfl, hrd1, hb1⟩
  have Hrd1 := Lib.hid hrd1
  have Hb1 := Lib.hid hb1
  have hg1 := hrd1.lt
  clear hrd1 hb1
  go_wp2_with fail
  refine (small_any 10 (by omega) (by omega) _ _ _ Hrd1.out).mono ?_
  rintro e w2 ⟨v, xs, rfl, ht, hxl, hxr⟩
  have Ht := Lib.hid ht
  have Hxr := Lib.hid hxr
  clear ht hxr
  go_wp2_with fail
  refine (off_any _ _ 0 120 _ Ht.out.rd (by omega) (by omega) (by omega) (by omega)).mono ?_
  rintro e w3 ⟨_, rfl, ⟨y3, rfl, hyl3, hyh3⟩, hrd, hgr⟩
  have Ht' := Lib.hid (Ht.out.read hg1 hrd hgr)
  clear Ht hrd hgr
  have Ht := Ht'
  clear Ht'
  go_wp2_with fail
  refine (off_any _ _ 0 160 _ Ht.out.rd (by omega) (by omega) (by omega) (by omega)).mono ?_
  rintro e w4 ⟨_, rfl, ⟨y4, rfl, hyl4, hyh4⟩, hrd, hgr⟩
  have Ht' := Lib.hid (Ht.out.read hg1 hrd hgr)
  clear Ht hrd hgr
  have Ht := Ht'
  clear Ht'
  go_wp2_with fail
  have hown := p_base Ht.out.own Hb1.out.size
  have hb2 := Hb1.out.grown Ht.out.gr Hb1.out.size (fun k hk => by injection hk with hk; omega)
  go_ret3
  exact ⟨v, xs, y3, y4, rfl, hown, hxl, Hxr.out, ⟨hyl3, hyh3⟩, ⟨hyl4, hyh4⟩, hb2⟩


set_option maxRecDepth 100000 in
set_option maxHeartbeats 2000000 in
theorem DrawRollsOf_any (A : Option Addr) (n c : Nat) (w : World) (h : CodeAt w A n c) :
    Calls Try.prog 36 #[.slice A n c] w fun e w' => ∃ v xs a, e = .returned (.tuple #[v, .int .i64 a]) ∧ w'.ownsRow w.heap.size 55 2 v xs.length (prs xs) ∧ xs.length ≤ 10 ∧ (∀ p ∈ xs, Rng p.1 ∧ Rng p.2) ∧ Rng a ∧ Below w.heap.size w w' := by
  have H := Lib.hid h
  clear h
  go_enter Try.func36, Try.ntmps36
  go_wp2_with fail
  refine (open_any A n c _ H.out).mono ?_
  rintro e w1 ⟨rfl, hrd1, hb1⟩
  have Hrd1 := Lib.hid hrd1
  have Hb1 := Lib.hid hb1
  have hg1 := hrd1.lt
  clear hrd1 hb1
  go_wp2_with fail
  refine (small_any 10 (by omega) (by omega) _ _ _ Hrd1.out).mono ?_
  rintro e w2 ⟨v, xs, rfl, ht, hxl, hxr⟩
  have Ht := Lib.hid ht
  have Hxr := Lib.hid hxr
  clear ht hxr
  go_wp2_with fail
  refine (off_any _ _ 1 40 _ Ht.out.rd (by omega) (by omega) (by omega) (by omega)).mono ?_
  rintro e w3 ⟨_, rfl, ⟨y3, rfl, hyl3, hyh3⟩, hrd, hgr⟩
  have Ht' := Lib.hid (Ht.out.read hg1 hrd hgr)
  clear Ht hrd hgr
  have Ht := Ht'
  clear Ht'
  go_wp2_with fail
  have hown := p_base Ht.out.own Hb1.out.size
  have hb2 := Hb1.out.grown Ht.out.gr Hb1.out.size (fun k hk => by injection hk with hk; omega)
  go_ret2
  exact ⟨v, xs, y3, rfl, hown, hxl, Hxr.out, ⟨hyl3, hyh3⟩, hb2⟩

end Go.Proofs.Ythmkjenamnmbiab
