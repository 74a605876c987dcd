/- Walks: drawn lists of numbers that rise; has, rising. -/
import Derived.Test.YtinpndoepppboaaAc
import Derived.Test.YtinpndoepppboaaRc
import Derived.Test.YtinpndoepppboaaUb
set_option linter.unusedVariables false
set_option linter.unusedSimpArgs false
namespace Go.Proofs.Ytinpndoepppboaa
open Go.RowKit

/-- the drawn numbers' row, the reader's block, and nothing else changed -/
structure TDI (w : World) (B g : Nat) (u : Value) (L : List Int) (wr : World) : Prop where
  own : wr.ownsRow w.heap.size 2 1 u L.length (ints L)
  rd : Rd wr B g
  gr : w.grownBy wr (some g)
theorem TDI.read {w wr w2 : World} {B g : Nat} {u : Value} {L : List Int} (p : TDI w B g u L wr) (hgl : g < w.heap.size) (hrd : Rd w2 B g) (hg2 : wr.grownBy w2 (some g)) : TDI w B g u L w2 :=
  ⟨p.own.kept hg2 (by
    by_cases hx : u.ownBlock = none
    · exact .inl hx
    · right; intro he; have := (p.own.lt g he).1; omega), hrd, grown_trans' p.gr hg2⟩
theorem TDI.app {w wr w1 : World} {B g : Nat} {u v' : Value} {L : List Int} {x : Int} {o : Obj} (p : TDI w B g u L wr) (hgl : g < w.heap.size)
    (hown : w1.ownsRow w.heap.size 2 1 v' (L.length + 1) (ints L ++ ints [x])) (hgrow : (wr.alloc o).grownBy w1 u.ownBlock) : TDI w B g v' (L ++ [x]) w1 := by
  have hrow : ∀ k, u.ownBlock = some k → w.heap.size ≤ k := fun k hk => (p.own.lt k hk).1
  have hz := p.gr.size
  have hB : B ≤ g := (by obtain ⟨A, n, c, q, h⟩ := p.rd; exact h.2.2.2.2.1)
  refine ⟨?_, (Rd.alloc p.rd _).grown hgrow (fun k hk => by have := hrow k hk; omega), hgrow.os.trans p.gr.os, hgrow.tape.trans p.gr.tape, hgrow.output.trans p.gr.output, by have := hgrow.size; simp at this; omega, fun i hi hne => ?_⟩
  · rw [ints_append, List.length_append]; exact hown
  · rw [hgrow.block i (by simp; omega) (by intro he; have := hrow i he.symm; omega), Below.heap_alloc _ _ _ (by omega)]
    exact p.gr.block i hi hne
def IdsPost (B g : Nat) (w : World) (e : Ending) (w' : World) : Prop :=
  ∃ v xs, e = .returned v ∧ TDI w B g v xs w' ∧ xs.length ≤ 8 ∧ ∀ x ∈ xs, Rng x

set_option maxRecDepth 100000 in
set_option maxHeartbeats 4000000 in
theorem ids_any (B g : Nat) (w : World) (h : Rd w B g) :
    Calls Try.prog 84 #[.pointer (some ⟨g, 0, none⟩)] w (IdsPost B g w) := by
  obtain ⟨i0, hi, hz0, hz1, hz2⟩ := info_parts u_info_i64
  have hgl := h.lt
  have H := Lib.hid h
  clear h
  go_enter Try.func84, Try.ntmps84
  go_wp2_with fail
  refine (below_any B g 3 _ (Rd.alloc H.out _) (by omega) (by omega)).mono ?_
  rintro e w1 ⟨v, rfl, ⟨a0, rfl, ha0, ha1⟩, hrd1, hgr1⟩
  have hown : w1.ownsRow w.heap.size 2 1 (.slice (some ⟨w.heap.size, 0, none⟩) 0 0) 0 (ints []) := (made_nil w).kept hgr1 (.inr (by simp [Value.ownBlock]; omega))
  have T1 := Lib.hid (show TDI w B g (.slice (some ⟨w.heap.size, 0, none⟩) 0 0) [] w1 from ⟨hown, hrd1, grown_trans' (World.grownBy_alloc w _ _) hgr1⟩)
  clear hown hrd1 hgr1 H
  go_wp2_with fail
  refine (below_any B g 7 _ T1.out.rd (by omega) (by omega)).mono ?_
  rintro e w2 ⟨v, rfl, ⟨x, rfl, hx0, hx1⟩, hrd2, hgr2⟩
  have T2 := Lib.hid (T1.out.read hgl hrd2 hgr2)
  clear hrd2 hgr2 T1
  go_wp2_with fail
  go_loopw [3, 4, 5] (fun u a i wr => ∃ (j t : Int) (L : List Int), i = .int .i64 j ∧ a = .int .i64 t ∧ 0 ≤ j ∧ (L.length : Int) + j ≤ 7 ∧ 0 ≤ t ∧ t ≤ 3 + 3 * (L.length : Int) ∧ Hid (∀ p ∈ L, Rng p) ∧ Hid (TDI w B g u L wr))
    (fun _ _ i _ => (Go.RowKit.intOf i).toNat)
  case atStart => exact ⟨x, a0, [], rfl, rfl, hx0, by simp; omega, ha0, by simp; omega, Lib.hid (fun _ h => by cases h), T2⟩
  case round =>
    clear T2
    obtain ⟨j, t, L, rfl, rfl, hj0, hj1, ht0, ht1, HL, T⟩ := hrel
    by_cases hlt : 0 < j
    · have hown := T.out.own
      have hz := T.out.gr.size
      go_wp2_with (at_builtin; refine wpList_append_own _ rfl _ _ 46 rfl w.heap.size 2 i0 (.int .i64 0) 1 8 Try.underlying46 hi hz0 hz1 hz2 rfl (by decide) _ _ _ rfl (hown.alloc _) ⟨wr.heap.size, 0, none⟩ 1 1 (ints [t]) rfl rfl (one_row (by go_simp)) (ints_one [t]) ?c3 ?c4 ?c5 ?_)
      try (case c3 => unfold maxLen; omega)
      try (case c4 => omega)
      try (case c5 => first | omega | (simp; omega))
      intro v' w4 hown3 hgrow _
      have T4 := Lib.hid (T.out.app hgl hown3 hgrow)
      have HL4 : Hid (∀ p ∈ L ++ [t], Rng p) := Lib.hid (fun p hp => by
        rcases List.mem_append.1 hp with hp | hp
        · exact HL.out p hp
        · obtain rfl : p = t := by simpa using hp
          exact ⟨by omega, by omega⟩)
      have hlen : ((L ++ [t]).length : Int) = (L.length : Int) + 1 := by simp
      generalize hLL : L ++ [t] = L4 at *
      clear hLL
      clear hown3 hgrow hown T HL
      go_wp2_with fail
      refine (below_any B g 3 _ T4.out.rd (by omega) (by omega)).mono ?_
      rintro e w5 ⟨_, rfl, ⟨d, rfl, hd0, hd1⟩, hrd, hgr⟩
      have T5 := Lib.hid (T4.out.read hgl hrd hgr)
      clear hrd hgr T4
      have ed : IntKind.i64.wrap (1 + d) = 1 + d := IntWalk.i64_in _ (by omega)
      have ed2 : IntKind.i64.wrap (t + (1 + d)) = t + (1 + d) := IntWalk.i64_in _ (by omega)
      have ej : IntKind.i64.wrap (j - 1) = j - 1 := IntWalk.i64_in _ (by omega)
      go_wp2_with fail
      exact ⟨⟨j - 1, t + (1 + d), L4, rfl, rfl, by omega, by omega, by omega, by omega, HL4, T5⟩, by simp [Go.RowKit.intOf]; omega⟩
    · go_wp2_with fail
      refine (once_any B g 30 _ T.out.rd (by omega) (by omega)).mono ?_
      rintro e w3 ⟨_, rfl, ⟨b, rfl⟩, hrd, hgr⟩
      have T3 := Lib.hid (T.out.read hgl hrd hgr)
      clear hrd hgr T
      have hml : L.length ≤ 7 := by omega
      cases b with
      | false =>
        go_wp2_with fail
        go_ret
        exact ⟨_, L, rfl, T3.out, by omega, HL.out⟩
      | true =>
        have hown := T3.out.own
        have hz := T3.out.gr.size
        go_wp2_with (at_builtin; refine wpList_append_own _ rfl _ _ 46 rfl w.heap.size 2 i0 (.int .i64 0) 1 8 Try.underlying46 hi hz0 hz1 hz2 rfl (by decide) _ _ _ rfl (hown.alloc _) ⟨w3.heap.size, 0, none⟩ 1 1 (ints [0]) rfl rfl (one_row (by go_simp)) (ints_one [0]) ?d3 ?d4 ?d5 ?_)
        try (case d3 => unfold maxLen; omega)
        try (case d4 => omega)
        try (case d5 => first | omega | (simp; omega))
        intro v' w4 hown3 hgrow _
        have T4 := Lib.hid (T3.out.app hgl hown3 hgrow)
        clear hown3 hgrow hown T3
        go_wp2_with fail
        go_ret
        exact ⟨_, L ++ [0], rfl, T4.out, by simp; omega, fun p hp => by
          rcases List.mem_append.1 hp with hp | hp
          · exact HL.out p hp
          · obtain rfl : p = 0 := by simpa using hp
            exact ⟨by decide, by decide⟩⟩

set_option maxRecDepth 100000 in
set_option maxHeartbeats 2000000 in
theorem has_any (v : Value) (xs : List Int) (n : Int) (w : World) (h : IL w w.heap.size v xs) :
    Calls Try.prog 49 #[v, .int .i64 n] w fun e w' => e = .returned (.bool (decide (n ∈ xs))) ∧ w = w' := by
  obtain ⟨hr, hlen, A, c, rfl, h3⟩ := h
  clear hr
  go_enter Try.func49, Try.ntmps49
  go_wp2_with fail
  go_loop [5] (fun i => ∃ k : Nat, k ≤ xs.length ∧ i = .int .i64 k ∧ Hid (n ∉ xs.take k)) (fun i => xs.length - (Go.RowKit.intOf i).toNat)
  case atStart => exact ⟨0, Nat.zero_le _, rfl, Lib.hid (by simp)⟩
  case round =>
    obtain ⟨k, hk, rfl, Hg⟩ := hrel
    by_cases hlt : k < xs.length
    · rcases h3 with h3 | ⟨b, off, rfl, hbl, hc⟩
      · subst h3; simp at hlt
      have hx : w.cell? ⟨b, off + k, none⟩ = some (.int .i64 (xs.getD k 0)) := hc k hlt
      have HN := Lib.hid (fun hne => has_no hlt Hg.out hne)
      have HY := Lib.hid (fun he => has_yes (n := n) hlt he)
      clear hc
      generalize xs.getD k 0 = x at *
      by_cases e : x = n
      · have E := Lib.hid (HY.out e)
        subst e
        clear HN HY
        go_wp2_with fail
        go_ret
        exact ⟨by first | rfl | (rw [decide_eq_true E.out]; rfl), rfl⟩
      · have E := Lib.hid (HN.out e)
        have e2 : (x == n) = false := by simpa using e
        go_wp2_with fail
        go_round
        case rel => exact ⟨k + 1, by omega, by go_num, E⟩
        case measure => simp [Go.RowKit.intOf]; omega
    · obtain rfl : k = xs.length := by omega
      have E := Hg.out
      rw [List.take_length] at E
      have E := Lib.hid E
      go_wp2_with fail
      go_ret
      exact ⟨by first | rfl | (rw [decide_eq_false E.out]; rfl), rfl⟩

set_option maxRecDepth 100000 in
set_option maxHeartbeats 2000000 in
theorem rising_any (v : Value) (xs : List Int) (w : World) (h : IL w w.heap.size v xs) :
    Calls Try.prog 48 #[v] w (BoolPost (idsB xs) w) := by
  obtain ⟨hr, hlen, A, c, rfl, h3⟩ := h
  clear hr
  go_enter Try.func48, Try.ntmps48
  go_wp2_with fail
  go_loopw [3] (fun i wr => ∃ k q : Nat, 1 ≤ k ∧ (k ≤ xs.length ∨ k = 1) ∧ i = .int .i64 k ∧ Hid (risTo xs k = true) ∧ wr = w.drewN q) (fun i _ => xs.length - (Go.RowKit.intOf i).toNat)
  case atStart => exact ⟨1, 0, Nat.le_refl _, .inr rfl, rfl, rfl, rfl⟩
  case round =>
    obtain ⟨k, q, hk0, hk, rfl, Hg, rfl⟩ := hrel
    by_cases hlt : k < xs.length
    · rcases h3 with h3 | ⟨b, off, rfl, hbl, hc⟩
      · subst h3; simp at hlt
      have hx : w.cell? ⟨b, off + k, none⟩ = some (.int .i64 (xs.getD k 0)) := hc k hlt
      have hy : w.cell? ⟨b, off + (k - 1), none⟩ = some (.int .i64 (xs.getD (k - 1) 0)) := hc (k - 1) (by omega)
      have e1 : IntKind.i64.wrap ((k : Int) - 1) = (k : Int) - 1 := IntWalk.i64_in _ (by omega)
      have e2 : (0 : Int) ≤ (k : Int) - 1 := by omega
      have e2' : (1 : Int) ≤ (k : Int) := by omega
      have e3 : ((k : Int) - 1).toNat = k - 1 := by omega
      have e4 : (k : Int) - 1 < (xs.length : Int) := by omega
      have HB := Lib.hid (fun h => idsB_bad (l := xs) (k := k) h hlt)
      have HS := Lib.hid (risTo_succ xs k)
      have HA : Hid (risAt xs k = decide (xs.getD (k - 1) 0 < xs.getD k 0)) := Lib.hid (by unfold risAt; rw [decide_eq_false (show ¬ k = 0 by omega)]; rfl)
      clear hc
      generalize xs.getD k 0 = x at *
      generalize xs.getD (k - 1) 0 = y at *
      by_cases hxy : x ≤ y
      · have E := Lib.hid (HB.out (by rw [HA.out]; exact decide_eq_false (by omega)))
        go_wp2_with fail
        go_quiet (fail)
        clear e1 e2 e2' e3 e4
        go_wp2_with fail
        go_ret
        exact ⟨by rw [E.out]; rfl, by first | exact below_drewN_u (below_drewN_u (Below.refl _ _) _) _ | exact below_drewN_u (Below.refl _ _) _ | exact Below.refl _ _⟩
      · have G : Hid (risTo xs (k + 1) = true) := Lib.hid (by rw [HS.out, Hg.out, HA.out, decide_eq_true (show y < x by omega)]; rfl)
        go_wp2_with fail
        go_quiet (fail)
        clear e1 e2 e2' e3 e4
        go_wp2_with fail
        go_roundw
        case rel => exact ⟨k + 1, _, by omega, by omega, by go_num, G, rfl⟩
        case measure => simp [Go.RowKit.intOf]; omega
    · have E : Hid (idsB xs = decide (xs.length ≤ 1000)) := Lib.hid (by
        unfold idsB
        have : risTo xs xs.length = true := by
          rcases hk with hk | hk
          · have e : k = xs.length := by omega
            rw [← e]; exact Hg.out
          · have e : xs.length = 0 ∨ xs.length = 1 := by omega
            rcases e with e | e
            · rw [e]; rfl
            · have := Hg.out; rw [hk, ← e] at this; exact this
        rw [this]; rfl)
      have E2 := Lib.hid (show idsB xs = decide ((xs.length : Int) ≤ 1000) from by rw [E.out]; exact decide_eq_decide.2 (by omega))
      go_wp2_with fail
      go_ret
      exact ⟨by rw [E2.out]; rfl, by first | exact below_drewN_u (below_drewN_u (Below.refl _ _) _) _ | exact below_drewN_u (Below.refl _ _) _ | exact Below.refl _ _⟩



set_option maxRecDepth 100000 in
set_option maxHeartbeats 2000000 in
theorem DrawAnd_any (A : Option Addr) (n c : Nat) (w : World) (h : CodeAt w A n c) :
    Calls Try.prog 44 #[.slice A n c] w fun e w' => ∃ v u a b m, e = .returned (.tuple #[v, u]) ∧ w'.ownsRow w.heap.size 2 1 v a.length (ints a) ∧ w'.ownsRow m 2 1 u b.length (ints b) ∧ w.heap.size ≤ m ∧ (∀ k, v.ownBlock = some k → k < m) ∧ a.length ≤ 8 ∧ b.length ≤ 8 ∧ (∀ x ∈ a, Rng x) ∧ (∀ x ∈ b, Rng x) ∧ Below w.heap.size w w' := by
  have H := Lib.hid h
  clear h
  go_enter Try.func44, Try.ntmps44
  go_wp2_with fail
  refine (open_any A n c _ H.out).mono ?_
  rintro e w1 ⟨rfl, hrd1, hb1⟩
  have Hrd1 := Lib.hid hrd1
  have Hb1 := Lib.hid hb1
  have hg1 := hrd1.lt
  clear hrd1 hb1
  go_wp2_with fail
  refine (ids_any _ _ _ Hrd1.out).mono ?_
  rintro e w2 ⟨v, a, rfl, ht, hal, har⟩
  have Ht := Lib.hid ht
  have Har := Lib.hid har
  clear ht har
  go_wp2_with fail
  refine (ids_any _ _ _ Ht.out.rd).mono ?_
  rintro e w3 ⟨u, b, rfl, ht3, hbl, hbr⟩
  have Ht3 := Lib.hid ht3
  have Hbr := Lib.hid hbr
  clear ht3 hbr
  have hz1 := Hb1.out.size
  have hz2 := Ht.out.gr.size
  have hz3 := Ht3.out.gr.size
  have hlt := Ht.out.own.lt
  have HLT := Lib.hid hlt
  clear hlt
  have hown := Lib.hid (own_lift (Ht.out.own.kept Ht3.out.gr (by
    by_cases hx : v.ownBlock = none
    · exact .inl hx
    · right; intro he; have := (Ht.out.own.lt _ he).1; omega)) hz1)
  have hb2 := Lib.hid ((Hb1.out.grown Ht.out.gr hz1 (fun k hk => by injection hk with hk; omega)).grown Ht3.out.gr (by omega) (fun k hk => by injection hk with hk; omega))
  go_wp2_with fail
  go_ret2
  exact ⟨v, u, a, b, w2.heap.size, rfl, hown.out, Ht3.out.own, by omega, fun k hk => (HLT.out k hk).2, hal, hbl, Har.out, Hbr.out, hb2.out⟩

set_option maxRecDepth 100000 in
set_option maxHeartbeats 2000000 in
theorem DrawOr_any (A : Option Addr) (n c : Nat) (w : World) (h : CodeAt w A n c) :
    Calls Try.prog 45 #[.slice A n c] w fun e w' => ∃ v u a b m, e = .returned (.tuple #[v, u]) ∧ w'.ownsRow w.heap.size 2 1 v a.length (ints a) ∧ w'.ownsRow m 2 1 u b.length (ints b) ∧ w.heap.size ≤ m ∧ (∀ k, v.ownBlock = some k → k < m) ∧ a.length ≤ 8 ∧ b.length ≤ 8 ∧ (∀ x ∈ a, Rng x) ∧ (∀ x ∈ b, Rng x) ∧ Below w.heap.size w w' := by
  have H := Lib.hid (DrawAnd_any A n c w h)
  clear h
  go_enter Try.func45, Try.ntmps45
  go_wp2_with fail
  refine H.out.mono ?_
  rintro e w1 ⟨v, u, a, b, m, rfl, h1, h2, h3, h4, h5, h6, h7, h8, h9⟩
  go_wp2_with fail
  go_ret2
  exact ⟨v, u, a, b, m, rfl, h1, h2, h3, h4, h5, h6, h7, h8, h9⟩

set_option maxRecDepth 100000 in
set_option maxHeartbeats 2000000 in
theorem DrawLess_any (A : Option Addr) (n c : Nat) (w : World) (h : CodeAt w A n c) :
    Calls Try.prog 46 #[.slice A n c] w fun e w' => ∃ v u a b m, e = .returned (.tuple #[v, u]) ∧ w'.ownsRow w.heap.size 2 1 v a.length (ints a) ∧ w'.ownsRow m 2 1 u b.length (ints b) ∧ w.heap.size ≤ m ∧ (∀ k, v.ownBlock = some k → k < m) ∧ a.length ≤ 8 ∧ b.length ≤ 8 ∧ (∀ x ∈ a, Rng x) ∧ (∀ x ∈ b, Rng x) ∧ Below w.heap.size w w' := by
  have H := Lib.hid (DrawAnd_any A n c w h)
  clear h
  go_enter Try.func46, Try.ntmps46
  go_wp2_with fail
  refine H.out.mono ?_
  rintro e w1 ⟨v, u, a, b, m, rfl, h1, h2, h3, h4, h5, h6, h7, h8, h9⟩
  go_wp2_with fail
  go_ret2
  exact ⟨v, u, a, b, m, rfl, h1, h2, h3, h4, h5, h6, h7, h8, h9⟩
end Go.Proofs.Ytinpndoepppboaa
