/- Walks: big; the drawn code as it came in. -/
import Derived.Test.YtkekpkfhljankaaRc
import Derived.OpenShut
import Derived.Test.YtkekpkfhljankaaXa
import Derived.Test.YtkekpkfhljankaaYq
import Derived.Laws.AppendOwnNone
import Derived.Deep.RegionHeld3
import Derived.Test.YtkekpkfhljankaaCj
set_option linter.unusedVariables false
set_option linter.unusedSimpArgs false
namespace Go.Proofs.Ytkekpkfhljankaa
open Go.RowKit

set_option maxRecDepth 100000 in
set_option maxHeartbeats 400000 in
theorem big_any (A : Option Addr) (n c : Nat) (w : World) :
    Calls Try.prog 29 #[.slice A n c] w fun e w' => e = .returned (.bool (decide (1048576 < (n : Int)))) ∧ w = w' := by
  go_enter Try.func29, Try.ntmps29
  go_wp2
  go_ret
  exact ⟨rfl, rfl⟩

theorem codeAt_of (x : Addr) (n c : Nat) (zs : List Int) (w : World) (hn : n ≤ 1048576) (hl : n ≤ c) (hz : zs.length = c)
    (hcell : ∀ i, i < zs.length → w.cell? (x.add i) = some (.int .u8 (zs.getD i 0))) (hwz : ∀ k ∈ zs, (Lit.int .u8 k).wf = true) : CodeAt w (some x) n c := by
  refine ⟨hn, hl, ?_⟩
  by_cases h0 : n = 0
  · exact .inl h0
  · right
    obtain ⟨b, off, spot⟩ := x
    have hc := hcell 0 (by omega)
    have hspot : spot = none := by simpa [Addr.add] using World.cell?_spot hc
    subst hspot
    refine ⟨b, off, rfl, ?_, fun j hj => ?_⟩
    · have h1 : w.cell? ⟨b, off, none⟩ = some (.int .u8 (zs.getD 0 0)) := by simpa [Addr.add] using hc
      exact World.block_lt_of_cell? w _ h1
    · have hj' : j < zs.length := by omega
      have h2 := hcell j hj'
      have hadd : (⟨b, off, none⟩ : Addr).add j = ⟨b, off + j, none⟩ := by unfold Addr.add; split <;> simp_all
      rw [hadd] at h2
      have hm : zs.getD j 0 ∈ zs := by
        rw [List.getD_eq_getElem?_getD, List.getElem?_eq_getElem hj']; exact List.getElem_mem hj'
      have hb := bounds_u8 (hwz _ hm)
      refine ⟨(zs.getD j 0).toNat, by omega, ?_⟩
      rw [h2, show (((zs.getD j 0).toNat : Nat) : Int) = zs.getD j 0 by omega]

end Go.Proofs.Ytkekpkfhljankaa

/- Walks: drawn points and widths; equal lists. -/
set_option linter.unusedVariables false
set_option linter.unusedSimpArgs false
namespace Go.Proofs.Ytkekpkfhljankaa
open Go.RowKit

/-- append(x, y...): x a row of the call's own, y another's, or nil -/
theorem wpList_append_row {P : Program} {w : World} {ops : Array Oper} {rest : List Oper} {o : Oper} {a : Act} {Q : Exit → Act → World → Prop} (hgd : o.guard = none) (s x : Operand) (t : TypeId)
    (ho : o.op = .call { callee := .builtin .append, args := #[s, x], argTypes := #[t, t] })
    (base : Nat) (e : TypeId) (i : TypeInfo) (z : Value) (size bytes : Nat) (ht : P.underlying t = some (.slice e)) (hi : P.info? e = some i) (hz : i.zero = some z)
    (hsize : i.size = size) (hby : i.bytes = bytes) (hzs : z.cells.size = size) (hsz : 0 < size)
    (v : Value) (n : Nat) (xs : List Value) (hs : a.eval s = v) (hown : w.ownsRow base e size v n xs)
    (b2 : Nat) (u : Value) (m : Nat) (ys : List Value) (hx : a.eval x = u) (hu : w.ownsRow b2 e size u m ys) (h1 : ∀ q ∈ ys, q.oneCell' = true)
    (h63 : n + m ≤ maxLen) (hbytes : (n + m) * bytes ≤ 140737488355328) (hbase : base ≤ w.heap.size)
    (h : ∀ v' w', w'.ownsRow base e size v' (n + m) (xs ++ ys) → w.grownBy w' v.ownBlock → wpList P ops Q rest (a.put o.dst v') w') : wpList P ops Q (o :: rest) a w := by
  rcases hu.2 with ⟨rfl, h0⟩ | ⟨g, cap, cur, rfl, _⟩
  · subst h0
    have hy : ys = [] := List.eq_nil_of_length_eq_zero (by have := hu.1; omega)
    subst hy
    exact wpList_append_own_none hgd s x t ho base e i size ht hi v n xs hs hown hx (h v w (by simpa using hown) (World.grownBy.refl _ _))
  · exact wpList_append_own _ hgd s x t ho base e i z size bytes ht hi hz hsize hby hzs hsz v n xs hs hown ⟨g, 0, none⟩ m cap ys hx hu.1 (fun j q hq => hu.cells rfl j q hq) h1 h63 hbytes hbase (fun v' w' h2 h3 _ => h v' w' h2 h3)
theorem prs_one (xs : List (Int × Int)) : ∀ u ∈ prs xs, u.oneCell' = true := by
  intro u hu
  unfold prs at hu
  obtain ⟨p, _, h2⟩ := List.mem_flatMap.1 hu
  simp at h2
  rcases h2 with rfl | rfl <;> rfl


set_option maxRecDepth 100000 in
set_option maxHeartbeats 2000000 in
theorem samePoints_any (v u : Value) (xs : List (Int × Int)) (w : World) (h : PL w w.heap.size v xs) (h' : PL w w.heap.size u xs) :
    Calls Try.prog 35 #[v, u] w fun e w' => e = .returned (.bool true) ∧ Below w.heap.size w w' := by
  obtain ⟨_, hlen, A, c, rfl, h3⟩ := h
  obtain ⟨_, _, A', c', rfl, h3'⟩ := h'
  go_enter Try.func35, Try.ntmps35
  go_wp2_with fail
  go_loopw [5] (fun i wr => ∃ (j k : Nat), j ≤ xs.length ∧ i = .int .i64 j ∧ wr = w.drewN k) (fun i _ => xs.length - (intOf i).toNat)
  case atStart => exact ⟨0, 0, Nat.zero_le _, rfl, rfl⟩
  case round =>
    obtain ⟨j, k, hk, rfl, rfl⟩ := hrel
    by_cases hlt : j < xs.length
    · rcases h3 with h3 | ⟨b, off, rfl, hbl, hc⟩
      · subst h3; simp at hlt
      rcases h3' with h3' | ⟨b', off', rfl, hbl', hc'⟩
      · subst h3'; simp at hlt
      have hx0 : w.cell? ⟨b, off + j * 2, none⟩ = some (.int .i64 (xs.getD j (0, 0)).1) := (hc j hlt).1
      have hy0 : w.cell? ⟨b', off' + j * 2, none⟩ = some (.int .i64 (xs.getD j (0, 0)).1) := (hc' j hlt).1
      have hx1 : w.cell? ⟨b, off + j * 2 + 1, none⟩ = some (.int .i64 (xs.getD j (0, 0)).2) := (hc j hlt).2
      have hy1 : w.cell? ⟨b', off' + j * 2 + 1, none⟩ = some (.int .i64 (xs.getD j (0, 0)).2) := (hc' j hlt).2
      clear hc hc'
      generalize (xs.getD j (0, 0)).1 = z0 at *
      generalize (xs.getD j (0, 0)).2 = z1 at *
      go_wp2_with fail
      go_quiet (fail)
      go_wp2_with fail
      go_roundw
      case rel => exact ⟨j + 1, _, by omega, by go_num, rfl⟩
      case measure => simp [intOf]; omega
    · obtain rfl : j = xs.length := by omega
      go_wp2_with fail
      go_ret
      exact ⟨rfl, below_drewN_u (Below.refl _ _) _⟩


set_option maxRecDepth 100000 in
set_option maxHeartbeats 2000000 in
theorem sameRolls_any (v u : Value) (xs : List R6) (w : World) (h : RL w w.heap.size v xs) (h' : RL w w.heap.size u xs) :
    Calls Try.prog 51 #[v, u] w fun e w' => e = .returned (.bool true) ∧ Below w.heap.size w w' := by
  obtain ⟨_, hlen, A, c, rfl, h3⟩ := h
  obtain ⟨_, _, A', c', rfl, h3'⟩ := h'
  go_enter Try.func51, Try.ntmps51
  go_wp2_with fail
  go_loopw [5] (fun i wr => ∃ (j k : Nat), j ≤ xs.length ∧ i = .int .i64 j ∧ wr = w.drewN k) (fun i _ => xs.length - (intOf i).toNat)
  case atStart => exact ⟨0, 0, Nat.zero_le _, rfl, rfl⟩
  case round =>
    obtain ⟨j, k, hk, rfl, rfl⟩ := hrel
    by_cases hlt : j < xs.length
    · rcases h3 with h3 | ⟨b, off, rfl, hbl, hc⟩
      · subst h3; simp at hlt
      rcases h3' with h3' | ⟨b', off', rfl, hbl', hc'⟩
      · subst h3'; simp at hlt
      have hx0 : w.cell? ⟨b, off + j * 6, none⟩ = some (.int .i64 (xs.getD j z6).1) := (hc j hlt).1
      have hy0 : w.cell? ⟨b', off' + j * 6, none⟩ = some (.int .i64 (xs.getD j z6).1) := (hc' j hlt).1
      have hx1 : w.cell? ⟨b, off + j * 6 + 1, none⟩ = some (.int .i64 (xs.getD j z6).2.1) := (hc j hlt).2.1
      have hy1 : w.cell? ⟨b', off' + j * 6 + 1, none⟩ = some (.int .i64 (xs.getD j z6).2.1) := (hc' j hlt).2.1
      have hx2 : w.cell? ⟨b, off + j * 6 + 2, none⟩ = some (.int .i64 (xs.getD j z6).2.2.1) := (hc j hlt).2.2.1
      have hy2 : w.cell? ⟨b', off' + j * 6 + 2, none⟩ = some (.int .i64 (xs.getD j z6).2.2.1) := (hc' j hlt).2.2.1
      have hx3 : w.cell? ⟨b, off + j * 6 + 3, none⟩ = some (.int .i64 (xs.getD j z6).2.2.2.1) := (hc j hlt).2.2.2.1
      have hy3 : w.cell? ⟨b', off' + j * 6 + 3, none⟩ = some (.int .i64 (xs.getD j z6).2.2.2.1) := (hc' j hlt).2.2.2.1
      have hx4 : w.cell? ⟨b, off + j * 6 + 4, none⟩ = some (.int .i64 (xs.getD j z6).2.2.2.2.1) := (hc j hlt).2.2.2.2.1
      have hy4 : w.cell? ⟨b', off' + j * 6 + 4, none⟩ = some (.int .i64 (xs.getD j z6).2.2.2.2.1) := (hc' j hlt).2.2.2.2.1
      have hx5 : w.cell? ⟨b, off + j * 6 + 5, none⟩ = some (.int .i64 (xs.getD j z6).2.2.2.2.2) := (hc j hlt).2.2.2.2.2
      have hy5 : w.cell? ⟨b', off' + j * 6 + 5, none⟩ = some (.int .i64 (xs.getD j z6).2.2.2.2.2) := (hc' j hlt).2.2.2.2.2
      clear hc hc'
      generalize (xs.getD j z6).1 = z0 at *
      generalize (xs.getD j z6).2.1 = z1 at *
      generalize (xs.getD j z6).2.2.1 = z2 at *
      generalize (xs.getD j z6).2.2.2.1 = z3 at *
      generalize (xs.getD j z6).2.2.2.2.1 = z4 at *
      generalize (xs.getD j z6).2.2.2.2.2 = z5 at *
      go_wp2_with fail
      go_quiet (fail)
      go_wp2_with fail
      go_roundw
      case rel => exact ⟨j + 1, _, by omega, by go_num, rfl⟩
      case measure => simp [intOf]; omega
    · obtain rfl : j = xs.length := by omega
      go_wp2_with fail
      go_ret
      exact ⟨rfl, below_drewN_u (Below.refl _ _) _⟩





end Go.Proofs.Ytkekpkfhljankaa

/- Walks: sameCascade of equal cascades. -/
set_option linter.unusedVariables false
set_option linter.unusedSimpArgs false
namespace Go.Proofs.Ytkekpkfhljankaa
open Go.RowKit

theorem ls_at_lt {w : World} {A : Option Addr} {n c : Nat} {xs : List Lv} (h : LS w w.heap.size (.slice A n c) xs) {k : Nat} (hk : k < n) :
    ∃ b off, A = some ⟨b, off, none⟩ ∧ b < w.heap.size ∧ w.cell? ⟨b, off + k * 3, none⟩ = some (.int .i64 (xs.getD k zLv).1) ∧ w.cell? ⟨b, off + k * 3 + 1, none⟩ = some (.int .i64 (xs.getD k zLv).2.1) ∧ ∃ r, w.cell? ⟨b, off + k * 3 + 2, none⟩ = some r ∧ RL w w.heap.size r (xs.getD k zLv).2.2 := by
  obtain ⟨_, _, A', c', he, h3⟩ := h
  injection he with e1 e2 e3
  rcases h3 with h3 | ⟨b, off, hb, hlt, hc⟩
  · rw [h3] at e2; simp at e2; omega
  · obtain ⟨x0, x1, r, x2, hr⟩ := hc k (by omega)
    exact ⟨b, off, e1.trans hb, hlt, x0, x1, r, x2, hr⟩
def SK (wr : World) (gb gc b1 o1 b2 o2 : Nat) (l1 l2 z0 z1 r1 r2 : Value) (k : Nat) (W : World) : Prop :=
  Below wr.heap.size wr W ∧ W.cell? ⟨gb, 3, none⟩ = some l1 ∧ W.cell? ⟨gc, 3, none⟩ = some l2 ∧ W.cell? ⟨b1, o1 + k * 3, none⟩ = some z0 ∧ W.cell? ⟨b1, o1 + k * 3 + 1, none⟩ = some z1 ∧ W.cell? ⟨b1, o1 + k * 3 + 2, none⟩ = some r1 ∧ W.cell? ⟨b2, o2 + k * 3, none⟩ = some z0 ∧ W.cell? ⟨b2, o2 + k * 3 + 1, none⟩ = some z1 ∧ W.cell? ⟨b2, o2 + k * 3 + 2, none⟩ = some r2
theorem SK.of {wr W : World} {gb gc b1 o1 b2 o2 k : Nat} {l1 l2 z0 z1 r1 r2 : Value} (h : SK wr gb gc b1 o1 b2 o2 l1 l2 z0 z1 r1 r2 k wr) (h1 : gb < wr.heap.size) (h2 : gc < wr.heap.size) (h3 : b1 < wr.heap.size) (h4 : b2 < wr.heap.size) (hb : Below wr.heap.size wr W) : SK wr gb gc b1 o1 b2 o2 l1 l2 z0 z1 r1 r2 k W := by
  obtain ⟨_, a1, a2, a3, a4, a5, a6, a7, a8⟩ := h
  exact ⟨hb, (hb.cell (p := ⟨gb, 3, none⟩) h1).trans a1, (hb.cell (p := ⟨gc, 3, none⟩) h2).trans a2, (hb.cell (p := ⟨b1, o1 + k * 3, none⟩) h3).trans a3, (hb.cell (p := ⟨b1, o1 + k * 3 + 1, none⟩) h3).trans a4, (hb.cell (p := ⟨b1, o1 + k * 3 + 2, none⟩) h3).trans a5, (hb.cell (p := ⟨b2, o2 + k * 3, none⟩) h4).trans a6, (hb.cell (p := ⟨b2, o2 + k * 3 + 1, none⟩) h4).trans a7, (hb.cell (p := ⟨b2, o2 + k * 3 + 2, none⟩) h4).trans a8⟩
theorem below_step_ck {a b c : World} (h : Below a.heap.size a b) (k : Below b.heap.size b c) : Below a.heap.size a c := h.trans (k.mono h.size)

set_option maxRecDepth 100000 in
set_option maxHeartbeats 8000000 in
theorem sameCascade_any (v u : Value) (c : Cs) (w : World) (h : CV w w.heap.size v c) (h' : CV w w.heap.size u c) :
    Calls Try.prog 33 #[v, u] w fun e w' => e = .returned (.bool true) ∧ Below w.heap.size w w' := by
  obtain ⟨Ap, cp, Al, cl, rfl, hP, hL⟩ := h.cell2
  obtain ⟨Bp, dp, Bl, dl, rfl, hP', hL'⟩ := h'.cell2
  clear h h'
  obtain ⟨n, hn⟩ : ∃ n, c.2.2.1.length = n := ⟨_, rfl⟩
  obtain ⟨m, hm⟩ : ∃ m, c.2.2.2.length = m := ⟨_, rfl⟩
  rw [hn] at hP hP' ⊢
  rw [hm] at hL hL' ⊢
  have HP := Lib.hid hP
  have HP' := Lib.hid hP'
  have HL := Lib.hid hL
  have HL' := Lib.hid hL'
  have hml : m ≤ 1048576 := by rw [← hm]; exact hL.2.1
  have hsp := Lib.hid (fun W h h' => samePoints_any (.slice Ap n cp) (.slice Bp n dp) c.2.2.1 W h h')
  have hsr := Lib.hid (fun a b xs W h h' => sameRolls_any a b xs W h h')
  clear hP hP' hL hL' hn hm
  obtain ⟨w1, hw1⟩ : ∃ w1, (w.alloc (.cells #[.int .i64 c.1, .int .i64 c.2.1, .slice Ap n cp, .slice Al m cl] 32)).alloc (.cells #[.int .i64 c.1, .int .i64 c.2.1, .slice Bp n dp, .slice Bl m dl] 32) = w1 := ⟨_, rfl⟩
  have B1 := Lib.hid (show Below w.heap.size w w1 from by rw [← hw1]; exact ((Below.refl _ w).alloc (Nat.le_refl _) _).alloc (by simp) _)
  obtain ⟨gb, hgb⟩ : ∃ gb, w.heap.size = gb := ⟨_, rfl⟩
  obtain ⟨gc, hgc⟩ : ∃ gc, w.heap.size + 1 = gc := ⟨_, rfl⟩
  have X1 : Hid (BoxN w1 gb #[.int .i64 c.1, .int .i64 c.2.1, .slice Ap n cp, .slice Al m cl] 32) := Lib.hid (by
    have h := World.alloc_heap_new w (.cells #[.int .i64 c.1, .int .i64 c.2.1, .slice Ap n cp, .slice Al m cl] 32)
    rw [← hw1, ← hgb]
    exact (Below.heap_alloc _ _ _ (by simp)).trans h)
  have Y1 : Hid (BoxN w1 gc #[.int .i64 c.1, .int .i64 c.2.1, .slice Bp n dp, .slice Bl m dl] 32) := Lib.hid (by
    have h := World.alloc_heap_new (w.alloc (.cells #[.int .i64 c.1, .int .i64 c.2.1, .slice Ap n cp, .slice Al m cl] 32)) (.cells #[.int .i64 c.1, .int .i64 c.2.1, .slice Bp n dp, .slice Bl m dl] 32)
    rw [World.size_alloc] at h
    rw [← hw1, ← hgc]; exact h)
  have HW1 := Lib.hid hw1
  have HGB := Lib.hid hgb
  have HGC := Lib.hid hgc
  clear hw1 hgb hgc
  have x0 := X1.out.cell (i := 0) rfl
  have x1 := X1.out.cell (i := 1) rfl
  have x2 := X1.out.cell (i := 2) rfl
  have x3 := X1.out.cell (i := 3) rfl
  have y0 := Y1.out.cell (i := 0) rfl
  have y1 := Y1.out.cell (i := 1) rfl
  have y2 := Y1.out.cell (i := 2) rfl
  have y3 := Y1.out.cell (i := 3) rfl
  go_enter Try.func33, Try.ntmps33
  go_upto_region 1 with fail
  rw [HW1.out, HGC.out, HGB.out]
  go_wp2_with fail
  refine (hsp.out _ ((HP.out.below B1.out).up B1.out.size) ((HP'.out.below B1.out).up B1.out.size)).mono ?_
  rintro e w2 ⟨rfl, hb2⟩
  have B2 := Lib.hid (B1.out.trans (hb2.mono B1.out.size))
  have X2 : Hid (BoxN w2 gb #[.int .i64 c.1, .int .i64 c.2.1, .slice Ap n cp, .slice Al m cl] 32) := Lib.hid ((hb2.block _ X1.out.lt).trans X1.out)
  have Y2 : Hid (BoxN w2 gc #[.int .i64 c.1, .int .i64 c.2.1, .slice Bp n dp, .slice Bl m dl] 32) := Lib.hid ((hb2.block _ Y1.out.lt).trans Y1.out)
  clear hb2 x0 x1 x2 x3 y0 y1 y2 y3 X1 Y1 B1
  have x3 := X2.out.cell (i := 3) rfl
  have y3 := Y2.out.cell (i := 3) rfl
  go_wp2_with fail
  clear x3 y3
  go_loopw [5] (fun i wr => ∃ (k : Nat), k ≤ m ∧ i = .int .i64 (k : Int) ∧ Hid (Below w.heap.size w wr) ∧ Hid (BoxN wr gb #[.int .i64 c.1, .int .i64 c.2.1, .slice Ap n cp, .slice Al m cl] 32) ∧ Hid (BoxN wr gc #[.int .i64 c.1, .int .i64 c.2.1, .slice Bp n dp, .slice Bl m dl] 32))
    (fun i _ => m - (intOf i).toNat)
  case atStart => exact ⟨0, Nat.zero_le _, rfl, B2, X2, Y2⟩
  case round =>
    obtain ⟨k, hk, rfl, HB, HX, HY⟩ := hrel
    have x3 := HX.out.cell (i := 3) rfl
    have y3 := HY.out.cell (i := 3) rfl
    by_cases hlt : k < m
    · have hltI : (k : Int) < (m : Int) := by omega
      have hl1 := (HL.out.below HB.out).up HB.out.size
      have hl2 := (HL'.out.below HB.out).up HB.out.size
      obtain ⟨b1, o1, rfl, hb1, c0, c1, r1, c2, hr1⟩ := ls_at_lt hl1 hlt
      obtain ⟨b2, o2, rfl, hb2, d0, d1, r2, d2, hr2⟩ := ls_at_lt hl2 hlt
      have HR1 := Lib.hid hr1
      have HR2 := Lib.hid hr2
      obtain ⟨_, _, ra1, rc1, rfl, _⟩ := hr1
      obtain ⟨_, _, ra2, rc2, rfl, _⟩ := hr2
      obtain ⟨z0, hz0⟩ : ∃ z0, (c.2.2.2.getD k zLv).1 = z0 := ⟨_, rfl⟩
      obtain ⟨z1, hz1⟩ : ∃ z1, (c.2.2.2.getD k zLv).2.1 = z1 := ⟨_, rfl⟩
      obtain ⟨rs, hrs⟩ : ∃ rs, (c.2.2.2.getD k zLv).2.2 = rs := ⟨_, rfl⟩
      rw [hz0] at c0 d0
      rw [hz1] at c1 d1
      rw [hrs] at c2 d2 HR1 HR2
      obtain ⟨rn, hrn⟩ : ∃ rn, rs.length = rn := ⟨_, rfl⟩
      rw [hrn] at c2 d2 HR1 HR2
      have HK0 := Lib.hid (show SK wr gb gc b1 o1 b2 o2 (.slice (some ⟨b1, o1, none⟩) m cl) (.slice (some ⟨b2, o2, none⟩) m dl) (.int .i64 z0) (.int .i64 z1) (.slice ra1 rn rc1) (.slice ra2 rn rc2) k wr from ⟨Below.refl _ _, x3, y3, c0, c1, c2, d0, d1, d2⟩)
      have HKO := Lib.hid (fun W hW => SK.of (W := W) HK0.out HX.out.lt HY.out.lt hb1 hb2 hW)
      have HKD := Lib.hid (HKO.out _ (show Below wr.heap.size wr wr.drew from (Below.refl _ _).drew))
      have hq0 : (z0 != z0) = false := by simp
      have hq1 : (z1 != z1) = false := by simp
      clear hz0 hz1 hrs hrn hl1 hl2 c0 c1 c2 d0 d1 d2 x3 y3
      unfold SK at HK0 HKO HKD
      have x3 := HX.out.cell (i := 3) rfl
      have y3 := HY.out.cell (i := 3) rfl
      go_wp2_with fail
      clear x3 y3
      go_region_held3 (fun W => Below wr.heap.size wr W ∧ W.cell? ⟨gb, 3, none⟩ = some (.slice (some ⟨b1, o1, none⟩) m cl) ∧ W.cell? ⟨gc, 3, none⟩ = some (.slice (some ⟨b2, o2, none⟩) m dl) ∧ W.cell? ⟨b1, o1 + k * 3, none⟩ = some (.int .i64 z0) ∧ W.cell? ⟨b1, o1 + k * 3 + 1, none⟩ = some (.int .i64 z1) ∧ W.cell? ⟨b1, o1 + k * 3 + 2, none⟩ = some (.slice ra1 rn rc1) ∧ W.cell? ⟨b2, o2 + k * 3, none⟩ = some (.int .i64 z0) ∧ W.cell? ⟨b2, o2 + k * 3 + 1, none⟩ = some (.int .i64 z1) ∧ W.cell? ⟨b2, o2 + k * 3 + 2, none⟩ = some (.slice ra2 rn rc2))
        (first | with_reducible assumption | with_reducible exact HKD.out | with_reducible exact HKO.out _ (below_step_ck (And.left (by assumption)) (by assumption)))
        (first | (go_at_call 51; (refine (hsr.out _ _ rs _ (by first | exact HR1.out | exact (show RL wr.drew wr.drew.heap.size _ _ from HR1.out.below ((Below.refl _ _).drew))) (by first | exact HR2.out | exact (show RL wr.drew wr.drew.heap.size _ _ from HR2.out.below ((Below.refl _ _).drew)))).mono ?_); rintro e w3 ⟨rfl, hb3⟩; have HB3 := Lib.hid (show Below wr.heap.size wr w3 from ((Below.refl wr.heap.size wr).drew).trans hb3)))
      all_goals
        go_wp2_with fail
        go_roundw
        case rel => exact ⟨k + 1, by omega, by go_num, Lib.hid (HB.out.trans (HB3.out.mono HB.out.size)), Lib.hid ((HB3.out.block _ HX.out.lt).trans HX.out), Lib.hid ((HB3.out.block _ HY.out.lt).trans HY.out)⟩
        case measure => simp [intOf]; omega
    · obtain rfl : k = m := by omega
      go_wp2_with fail
      go_ret
      exact ⟨rfl, HB.out⟩
end Go.Proofs.Ytkekpkfhljankaa

/- Walks: a drawn cascade, out of the code. -/
set_option linter.unusedVariables false
set_option linter.unusedSimpArgs false
namespace Go.Proofs.Ytkekpkfhljankaa
open Go.RowKit

/-- what the reader leaves is behind what was there -/
theorem drw_below {w W W' : World} {g : Nat} (hb : Below w.heap.size w W) (hg : w.heap.size ≤ g) (h : W.grownBy W' (some g)) : Below w.heap.size w W' := hb.grown h hb.size (fun k hk => by injection hk with hk; omega)
def DCPost (w : World) (e : Ending) (w' : World) : Prop :=
  ∃ rv lv es c, e = .returned (.agg #[.int .i64 c.1, .int .i64 c.2.1, rv, lv]) ∧ CD w' w.heap.size w'.heap.size c rv lv es ∧ CR c ∧ Below w.heap.size w w'

set_option maxRecDepth 100000 in
set_option maxHeartbeats 4000000 in
theorem DrawCascadeOk_any (A : Option Addr) (n c : Nat) (w : World) (h : CodeAt w A n c) :
    Calls Try.prog 36 #[.slice A n c] w (DCPost w) := by
  obtain ⟨w0, hw0⟩ : ∃ w0, w.alloc (.cells #[.int .i64 0, .int .i64 0, .slice none 0 0, .slice none 0 0] 32) = w0 := ⟨_, rfl⟩
  have B0 := Lib.hid (show Below w.heap.size w w0 from by rw [← hw0]; exact (Below.refl _ _).alloc (Nat.le_refl _) _)
  have R0 : Hid (BoxN w0 w.heap.size #[.int .i64 0, .int .i64 0, .slice none 0 0, .slice none 0 0] 32) := Lib.hid (by rw [← hw0]; exact World.alloc_heap_new w _)
  have H := Lib.hid (h.below B0.out)
  have HW0 := Lib.hid hw0
  clear h hw0
  go_enter Try.func36, Try.ntmps36
  go_wp2_with fail
  rw [HW0.out]
  refine (open_any A n c _ H.out).mono ?_
  rintro e w1 ⟨rfl, hrd, hb1⟩
  have Hrd := Lib.hid hrd
  have S0 := R0.out.lt
  have B1 := Lib.hid (B0.out.trans (hb1.mono (by omega)))
  have R1 : Hid (BoxN w1 w.heap.size #[.int .i64 0, .int .i64 0, .slice none 0 0, .slice none 0 0] 32) := Lib.hid (R0.out.below hb1)
  clear hrd hb1 H
  go_wp2_with fail
  refine (cascade_any _ _ _ Hrd.out).mono ?_
  rintro e w2 ⟨rv, lv, es, cs, rfl, hd, hcr, hdw⟩
  obtain ⟨nn, hnn⟩ : ∃ nn, cs.2.2.1.length = nn := ⟨_, rfl⟩
  obtain ⟨mm, hmm⟩ : ∃ mm, cs.2.2.2.length = mm := ⟨_, rfl⟩
  obtain ⟨ra, rc, rfl⟩ : ∃ a c', rv = .slice a nn c' := by rw [← hnn]; exact hd.raw.shape
  obtain ⟨la, lc, rfl⟩ : ∃ a c', lv = .slice a mm c' := by rw [← hmm]; exact hd.lvl.row.shape
  have B2 := Lib.hid (drw_below B1.out (by omega) hdw.2)
  have R2 : BoxN w2 w.heap.size #[.int .i64 0, .int .i64 0, .slice none 0 0, .slice none 0 0] 32 := R1.out.kept hdw.2 (by intro e; injection e with e; omega)
  have D2 := Lib.hid hd
  have CR2 := Lib.hid hcr
  have S1 := R1.out.lt
  have r0 := R2.cell (i := 0) rfl
  have r1 := R2.cell (i := 1) rfl
  have r2 := R2.cell (i := 2) rfl
  have r3 := R2.cell (i := 3) rfl
  have f0 := R2.frozen (i := 0)
  have f1 := R2.frozen (i := 1)
  have f2 := R2.frozen (i := 2)
  have f3 := R2.frozen (i := 3)
  clear hnn hmm hd hcr hdw R2
  go_wp2_with fail
  refine bodyPost_ret (v := .agg #[.int .i64 cs.1, .int .i64 cs.2.1, .slice ra nn rc, .slice la mm lc]) (by simp [results, Try.results36, go_sem, r0, r1, r2, r3]) rfl ⟨.slice ra nn rc, .slice la mm lc, es, cs, rfl, (CD.set4n D2.out (.inl (by omega)) _ _ _ _).lift (by omega) (by simp [World.setCell]), CR2.out, KSP.set4 B2.out (Nat.le_refl _) _ _ _ _⟩
end Go.Proofs.Ytkekpkfhljankaa
