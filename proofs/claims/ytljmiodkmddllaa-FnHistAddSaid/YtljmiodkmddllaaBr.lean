/- Walks: drawn bounds, drawn points and fractions. -/
import Derived.Test.YtljmiodkmddllaaBi
import Derived.Test.YtljmiodkmddllaaXa
import Derived.Test.YtljmiodkmddllaaUb
import Derived.Deep.RegionLaw
set_option linter.unusedVariables false
set_option linter.unusedSimpArgs false
namespace Go.Proofs.Ytljmiodkmddllaa
open Go.RowKit

theorem b_made_nil (w : World) : (w.alloc (.cells #[] 2)).ownsRow w.heap.size 2 1 (.slice (some ⟨w.heap.size, 0, none⟩) 0 0) 0 (ints []) := by
  have := World.ownsRow_made w (base := w.heap.size) (e := 2) (size := 1) #[] 0 (Nat.le_refl _) (by simp [maxLen]) rfl
  simpa [ints] using this
theorem b_one_row {w : World} {b : Nat} {x : Value} (h0 : w.cell? ⟨b, 0, none⟩ = some x) : ∀ (j : Nat) (u : Value), [x][j]? = some u → w.cell? ((⟨b, 0, none⟩ : Addr).add j) = some u := by
  intro j u hj
  match j, hj with
  | 0, hj =>
    simp at hj
    subst hj
    simpa [Addr.add] using h0
/-- the drawn numbers' row, the reader's block, and nothing else changed -/
structure TDB (w : World) (B g : Nat) (u : Value) (L : List Int) (wr : World) : Prop where
  own : wr.ownsRow w.heap.size 2 1 u L.length (ints L)
  rd : Rd wr B g
  gr : w.grownBy wr (some g)
theorem TDB.read {w wr w2 : World} {B g : Nat} {u : Value} {L : List Int} (p : TDB w B g u L wr) (hgl : g < w.heap.size) (hrd : Rd w2 B g) (hg2 : wr.grownBy w2 (some g)) : TDB w B g u L w2 :=
  ⟨p.own.kept hg2 (by
    by_cases hx : u.ownBlock = none
    · exact .inl hx
    · right; intro he; have := (p.own.lt g he).1; omega), hrd, grown_trans' p.gr hg2⟩
theorem TDB.app {w wr w1 : World} {B g : Nat} {u v' : Value} {L : List Int} {x : Int} {o : Obj} (p : TDB w B g u L wr) (hgl : g < w.heap.size)
    (hown : w1.ownsRow w.heap.size 2 1 v' (L.length + 1) (ints L ++ ints [x])) (hgrow : (wr.alloc o).grownBy w1 u.ownBlock) : TDB w B g v' (L ++ [x]) w1 := by
  have hrow : ∀ k, u.ownBlock = some k → w.heap.size ≤ k := fun k hk => (p.own.lt k hk).1
  have hz := p.gr.size
  have hB : B ≤ g := (by obtain ⟨A, n, c, q, h⟩ := p.rd; exact h.2.2.2.2.1)
  refine ⟨?_, (Rd.alloc p.rd _).grown hgrow (fun k hk => by have := hrow k hk; omega), hgrow.os.trans p.gr.os, hgrow.tape.trans p.gr.tape, hgrow.output.trans p.gr.output, by have := hgrow.size; simp at this; omega, fun i hi hne => ?_⟩
  · rw [ints_append, List.length_append]; exact hown
  · rw [hgrow.block i (by simp; omega) (by intro he; have := hrow i he.symm; omega), Below.heap_alloc _ _ _ (by omega)]
    exact p.gr.block i hi hne
def BndPost (B g : Nat) (w : World) (e : Ending) (w' : World) : Prop :=
  ∃ v xs, e = .returned v ∧ TDB w B g v xs w' ∧ xs.length ≤ 8 ∧ ∀ x ∈ xs, Rng x

set_option maxRecDepth 100000 in
set_option maxHeartbeats 4000000 in
theorem bounds_any (B g : Nat) (w : World) (h : Rd w B g) :
    Calls Try.prog 58 #[.pointer (some ⟨g, 0, none⟩)] w (BndPost B g w) := by
  obtain ⟨i0, hi, hz0, hz1, hz2⟩ := info_parts u_info_i64
  have hgl := h.lt
  have H := Lib.hid h
  clear h
  go_enter Try.func58, Try.ntmps58
  go_wp2_with fail
  refine (below_any B g 40 _ (Rd.alloc H.out _) (by omega) (by omega)).mono ?_
  rintro e w1 ⟨v, rfl, ⟨a0, rfl, ha0, ha1⟩, hrd1, hgr1⟩
  have hown : w1.ownsRow w.heap.size 2 1 (.slice (some ⟨w.heap.size, 0, none⟩) 0 0) 0 (ints []) := (b_made_nil w).kept hgr1 (.inr (by simp [Value.ownBlock]; omega))
  have T1 := Lib.hid (show TDB w B g (.slice (some ⟨w.heap.size, 0, none⟩) 0 0) [] w1 from ⟨hown, hrd1, grown_trans' (World.grownBy_alloc w _ _) hgr1⟩)
  clear hown hrd1 hgr1 H
  have ea : IntKind.i64.wrap (a0 - 30) = a0 - 30 := IntWalk.i64_in _ (by omega)
  go_wp2_with fail
  refine (below_any B g 6 _ T1.out.rd (by omega) (by omega)).mono ?_
  rintro e w2 ⟨v, rfl, ⟨x, rfl, hx0, hx1⟩, hrd2, hgr2⟩
  have T2 := Lib.hid (T1.out.read hgl hrd2 hgr2)
  clear hrd2 hgr2 T1
  go_wp2_with fail
  go_loopw [3, 4, 5] (fun u a i wr => ∃ (j t : Int) (L : List Int), i = .int .i64 j ∧ a = .int .i64 t ∧ 0 ≤ j ∧ (L.length : Int) + j ≤ 7 ∧ -30 ≤ t ∧ t ≤ 10 + 30 * (L.length : Int) ∧ Hid (∀ p ∈ L, Rng p) ∧ Hid (TDB w B g u L wr))
    (fun _ _ i _ => (Go.RowKit.intOf i).toNat)
  case atStart => exact ⟨x, a0 - 30, [], rfl, rfl, hx0, by simp; omega, by omega, by simp; omega, Lib.hid (fun _ h => by cases h), T2⟩
  case round =>
    clear T2
    obtain ⟨j, t, L, rfl, rfl, hj0, hj1, ht0, ht1, HL, T⟩ := hrel
    by_cases hlt : 0 < j
    · have hown := T.out.own
      have hz := T.out.gr.size
      go_wp2_with (at_builtin; refine wpList_append_own _ rfl _ _ 22 rfl w.heap.size 2 i0 (.int .i64 0) 1 8 Try.underlying22 hi hz0 hz1 hz2 rfl (by decide) _ _ _ rfl (hown.alloc _) ⟨wr.heap.size, 0, none⟩ 1 1 (ints [t]) rfl rfl (b_one_row (by go_simp)) (ints_one [t]) ?c3 ?c4 ?c5 ?_)
      try (case c3 => unfold maxLen; omega)
      try (case c4 => omega)
      try (case c5 => first | omega | (simp; omega))
      intro v' w4 hown3 hgrow _
      have T4 := Lib.hid (T.out.app hgl hown3 hgrow)
      have HL4 : Hid (∀ p ∈ L ++ [t], Rng p) := Lib.hid (fun p hp => by
        rcases List.mem_append.1 hp with hp | hp
        · exact HL.out p hp
        · obtain rfl : p = t := by simpa using hp
          exact ⟨by omega, by omega⟩)
      have hlen : ((L ++ [t]).length : Int) = (L.length : Int) + 1 := by simp
      generalize hLL : L ++ [t] = L4 at *
      clear hLL
      clear hown3 hgrow hown T HL
      go_wp2_with fail
      refine (below_any B g 30 _ T4.out.rd (by omega) (by omega)).mono ?_
      rintro e w5 ⟨_, rfl, ⟨d, rfl, hd0, hd1⟩, hrd, hgr⟩
      have T5 := Lib.hid (T4.out.read hgl hrd hgr)
      clear hrd hgr T4
      have ed : IntKind.i64.wrap (1 + d) = 1 + d := IntWalk.i64_in _ (by omega)
      have ed2 : IntKind.i64.wrap (t + (1 + d)) = t + (1 + d) := IntWalk.i64_in _ (by omega)
      have ej : IntKind.i64.wrap (j - 1) = j - 1 := IntWalk.i64_in _ (by omega)
      go_wp2_with fail
      exact ⟨⟨j - 1, t + (1 + d), L4, rfl, rfl, by omega, by omega, by omega, by omega, HL4, T5⟩, by simp [Go.RowKit.intOf]; omega⟩
    · go_wp2_with fail
      refine (once_any B g 30 _ T.out.rd (by omega) (by omega)).mono ?_
      rintro e w3 ⟨_, rfl, ⟨b, rfl⟩, hrd, hgr⟩
      have T3 := Lib.hid (T.out.read hgl hrd hgr)
      clear hrd hgr T
      have hml : L.length ≤ 7 := by omega
      cases b with
      | false =>
        go_wp2_with fail
        go_ret
        exact ⟨_, L, rfl, T3.out, by omega, HL.out⟩
      | true =>
        rcases T3.out.own.2 with ⟨hv, h0⟩ | ⟨bb, cap, cur, hv, _⟩
        · subst hv
          have hl0 : L = [] := List.eq_nil_of_length_eq_zero h0
          subst hl0
          go_wp2_with fail
          go_ret
          exact ⟨_, [], rfl, T3.out, by simp, HL.out⟩
        · subst hv
          by_cases hl0 : 0 < L.length
          · have hd0 : decide (0 < L.length) = true := by simpa using hl0
            have hown := T3.out.own
            have hz := T3.out.gr.size
            have c1 : w3.cell? ⟨bb, 0, none⟩ = some (.int .i64 (L.getD 0 0)) := by
              have h1 := hown.cellAt 0 (by omega)
              rw [h1]
              exact ints_get L 0 hl0
            have hrl : Hid (Rng (L.getD 0 0)) := Lib.hid (HL.out _ (getD_mem hl0))
            generalize L.getD 0 0 = y at *
            have HO := Lib.hid (hown.alloc (.cells #[.int .i64 y] 2))
            clear hown
            go_wp2_with (at_builtin; refine wpList_append_own _ rfl _ _ 22 rfl w.heap.size 2 i0 (.int .i64 0) 1 8 Try.underlying22 hi hz0 hz1 hz2 rfl (by decide) _ _ _ rfl HO.out ⟨w3.heap.size, 0, none⟩ 1 1 (ints [y]) rfl rfl (b_one_row (by go_simp)) (ints_one [y]) ?d3 ?d4 ?d5 ?_)
            case d3 => unfold maxLen; omega
            case d4 => omega
            case d5 => first | omega | (simp; omega)
            intro v' w4 hown3 hgrow _
            have T4 := Lib.hid (T3.out.app hgl hown3 hgrow)
            clear hown3 hgrow T3
            go_wp2_with fail
            go_ret
            exact ⟨_, L ++ [y], rfl, T4.out, by simp; omega, fun p hp => by
              rcases List.mem_append.1 hp with hp | hp
              · exact HL.out p hp
              · obtain rfl : p = y := by simpa using hp
                exact hrl.out⟩
          · have hl1 : L = [] := List.eq_nil_of_length_eq_zero (by omega)
            subst hl1
            go_wp2_with fail
            go_ret
            exact ⟨_, [], rfl, T3.out, by simp, HL.out⟩

set_option maxRecDepth 100000 in
set_option maxHeartbeats 2000000 in
theorem DrawHistOf_any (A : Option Addr) (n c : Nat) (w : World) (h : CodeAt w A n c) :
    Calls Try.prog 32 #[.slice A n c] w fun e w' => ∃ v u a b, e = .returned (.tuple #[v, u]) ∧ w'.ownsRow w.heap.size 47 2 v a.length (prs a) ∧ w'.ownsRow w.heap.size 2 1 u b.length (ints b) ∧ a.length ≤ 10 ∧ b.length ≤ 8 ∧ (∀ p ∈ a, Rng p.1 ∧ Rng p.2) ∧ (∀ x ∈ b, Rng x) ∧ Below w.heap.size w w' := by
  have H := Lib.hid h
  clear h
  have HSM := Lib.hid (fun B g W h => small_any 10 (by omega) (by omega) B g W h)
  go_enter Try.func32, Try.ntmps32
  go_wp2_with fail
  refine (open_any A n c _ H.out).mono ?_
  rintro e w1 ⟨rfl, hrd1, hb1⟩
  have Hrd1 := Lib.hid hrd1
  have Hb1 := Lib.hid hb1
  have hg1 := hrd1.lt
  clear hrd1 hb1
  go_wp2_with fail
  refine (HSM.out _ _ _ Hrd1.out).mono ?_
  rintro e w2 ⟨v, a, rfl, ht, hal, har⟩
  have Ht := Lib.hid ht
  have Har := Lib.hid har
  clear ht har
  go_wp2_with fail
  refine (bounds_any _ _ _ Ht.out.rd).mono ?_
  rintro e w3 ⟨u, b, rfl, ht3, hbl, hbr⟩
  have Ht3 := Lib.hid ht3
  have Hbr := Lib.hid hbr
  clear ht3 hbr
  have hz1 := Hb1.out.size
  have hz2 := Ht.out.gr.size
  have hz3 := Ht3.out.gr.size
  have hown := Lib.hid (p_base (Ht.out.own.kept Ht3.out.gr (by
    by_cases hx : v.ownBlock = none
    · exact .inl hx
    · right; intro he; have := (Ht.out.own.lt _ he).1; omega)) hz1)
  have hown2 := Lib.hid (p_base Ht3.out.own (show w.heap.size ≤ w2.heap.size by omega))
  have hb2 := Lib.hid ((Hb1.out.grown Ht.out.gr hz1 (fun k hk => by injection hk with hk; omega)).grown Ht3.out.gr (by omega) (fun k hk => by injection hk with hk; omega))
  go_wp2_with fail
  go_ret2
  exact ⟨v, u, a, b, rfl, hown.out, hown2.out, hal, hbl, Har.out, Hbr.out, hb2.out⟩

set_option maxRecDepth 100000 in
set_option maxHeartbeats 2000000 in
theorem DrawBoundsOk_any (A : Option Addr) (n c : Nat) (w : World) (h : CodeAt w A n c) :
    Calls Try.prog 33 #[.slice A n c] w fun e w' => ∃ u b, e = .returned u ∧ w'.ownsRow w.heap.size 2 1 u b.length (ints b) ∧ b.length ≤ 8 ∧ (∀ x ∈ b, Rng x) ∧ Below w.heap.size w w' := by
  have H := Lib.hid h
  clear h
  go_enter Try.func33, Try.ntmps33
  go_wp2_with fail
  refine (open_any A n c _ H.out).mono ?_
  rintro e w1 ⟨rfl, hrd1, hb1⟩
  have Hrd1 := Lib.hid hrd1
  have Hb1 := Lib.hid hb1
  have hg1 := hrd1.lt
  clear hrd1 hb1
  go_wp2_with fail
  refine (bounds_any _ _ _ Hrd1.out).mono ?_
  rintro e w3 ⟨u, b, rfl, ht3, hbl, hbr⟩
  have hz1 := Hb1.out.size
  have Ht3 := Lib.hid (p_base ht3.own hz1)
  have hb2 := Lib.hid (Hb1.out.grown ht3.gr hz1 (fun k hk => by injection hk with hk; omega))
  have Hbr := Lib.hid hbr
  clear ht3 hbr
  go_wp2_with fail
  go_ret
  exact ⟨u, b, rfl, Ht3.out, hbl, Hbr.out, hb2.out⟩
end Go.Proofs.Ytljmiodkmddllaa
