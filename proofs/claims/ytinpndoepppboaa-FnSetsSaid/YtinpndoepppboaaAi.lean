/- Walks: sets of numbers: the model's Or. -/
import Derived.Test.YtinpndoepppboaaAe
import Derived.Test.YtinpndoepppboaaAf
set_option linter.unusedVariables false
set_option linter.unusedSimpArgs false
namespace Go.Proofs.Ytinpndoepppboaa
open Go.RowKit

/-- append(x, y...): x a row of the call's own that is not nil, y another's, or nil -/
theorem append_row_some {P : Program} {w : World} {ops : Array Oper} {rest : List Oper} {o : Oper} {a : Act} {Q : Exit → Act → World → Prop} (hgd : o.guard = none) (s x : Operand) (t : TypeId)
    (ho : o.op = .call { callee := .builtin .append, args := #[s, x], argTypes := #[t, t] })
    (base : Nat) (e : TypeId) (i : TypeInfo) (z : Value) (size bytes : Nat) (ht : P.underlying t = some (.slice e)) (hi : P.info? e = some i) (hz : i.zero = some z)
    (hsize : i.size = size) (hby : i.bytes = bytes) (hzs : z.cells.size = size) (hsz : 0 < size)
    (g0 c0 : Nat) (n : Nat) (xs : List Value) (hs : a.eval s = .slice (some ⟨g0, 0, none⟩) n c0) (hown : w.ownsRow base e size (.slice (some ⟨g0, 0, none⟩) n c0) n xs)
    (b2 : Nat) (u : Value) (m : Nat) (ys : List Value) (hx : a.eval x = u) (hu : w.ownsRow b2 e size u m ys) (h1 : ∀ q ∈ ys, q.oneCell' = true)
    (h63 : n + m ≤ maxLen) (hbytes : (n + m) * bytes ≤ 140737488355328) (hbase : base ≤ w.heap.size)
    (h : ∀ g c w', w'.ownsRow base e size (.slice (some ⟨g, 0, none⟩) (n + m) c) (n + m) (xs ++ ys) → w.grownBy w' (some g0) → wpList P ops Q rest (a.put o.dst (.slice (some ⟨g, 0, none⟩) (n + m) c)) w') : wpList P ops Q (o :: rest) a w := by
  rcases hu.2 with ⟨rfl, h0⟩ | ⟨g, cap, cur, rfl, _⟩
  · subst h0
    have hy : ys = [] := List.eq_nil_of_length_eq_zero (by have := hu.1; omega)
    subst hy
    exact wpList_append_own_none hgd s x t ho base e i size ht hi _ n xs hs hown hx (h g0 c0 w (by simpa using hown) (World.grownBy.refl _ _))
  · refine wpList_append_own _ hgd s x t ho base e i z size bytes ht hi hz hsize hby hzs hsz _ n xs hs hown ⟨g, 0, none⟩ m cap ys hx hu.1 (fun j q hq => hu.cells rfl j q hq) h1 h63 hbytes hbase (fun v' w' h2 h3 h4 => ?_)
    rcases h2.2 with ⟨rfl, h0⟩ | ⟨g', c', cur', rfl, _⟩
    · exact absurd (h4.1 rfl).1 (by simp)
    · exact h g' c' w' h2 h3
theorem orL_take {a b : List Int} {k : Nat} (hk : k < b.length) : orL a (b.take (k + 1)) = putI (orL a (b.take k)) (b.getD k 0) := by
  unfold orL
  rw [take_snoc_int hk, List.foldl_append]
  rfl
theorem orL_rng {a b : List Int} (ha : ∀ x ∈ a, Rng x) (hb : ∀ x ∈ b, Rng x) (k : Nat) : ∀ x ∈ orL a (b.take k), Rng x := by
  intro x hx
  rcases (orL_mem _).1 hx with h | h
  · exact ha x h
  · exact hb x (List.mem_of_mem_take h)
theorem orM_ok (a b : List Int) (h : ∀ j, Rng (a.getD j 0)) (h' : ∀ j, Rng (b.getD j 0)) : (∀ j, Rng ((orM a b).getD j 0)) ∧ (orM a b).length ≤ 1048576 := by
  unfold orM
  split
  · rename_i hh
    have h1 := orL_len (a := a) b
    have h2 := idsB_len hh.1
    have h3 := idsB_len hh.2
    refine ⟨rng_all fun x hx => ?_, by omega⟩
    rcases (orL_mem _).1 hx with k | k
    · exact rng_mem h x k
    · exact rng_mem h' x k
  · exact ⟨fun j => ⟨by simp, by simp⟩, Nat.zero_le _⟩

set_option maxRecDepth 100000 in
set_option maxHeartbeats 4000000 in
theorem specOr_any (v u : Value) (a b : List Int) (b2 : Nat) (w : World) (hv : w.ownsRow b2 2 1 v a.length (ints a)) (hra : ∀ j, Rng (a.getD j 0)) (hla : a.length ≤ 1048576) (h' : IL w w.heap.size u b) :
    Calls Try.prog 40 #[v, u] w (OwnPost w.heap.size (orM a b) w) := by
  have HP := Lib.hid (IL.of_own hv rfl hra hla)
  have HV := Lib.hid hv
  have HQ := Lib.hid h'
  have hS1 := Lib.hid (fun W h => l10Ids_any v a W h)
  have hS2 := Lib.hid (fun W h => l10Ids_any u b W h)
  have hrb := h'.1
  obtain ⟨_, hlen, A, c, rfl, h3⟩ := h'
  clear hv
  unfold orM
  cases h1 : idsB a with
  | false =>
    rw [h1] at hS1
    rw [if_neg (by simp)]
    clear h1
    go_enter Try.func40, Try.ntmps40
    go_wp2_with fail
    refine (hS1.out _ HP.out).mono ?_
    rintro e w1 ⟨rfl, hb1⟩
    have HB1 := Lib.hid hb1
    clear hb1
    go_wp2_with fail
    go_ret
    exact ⟨_, rfl, own_lift (made_nil w1) HB1.out.size, HB1.out.alloc HB1.out.size _⟩
  | true =>
  cases h2 : idsB b with
  | false =>
    rw [h1] at hS1
    rw [h2] at hS2
    rw [if_neg (by simp)]
    clear h1 h2
    go_enter Try.func40, Try.ntmps40
    go_wp2_with fail
    refine (hS1.out _ HP.out).mono ?_
    rintro e w1 ⟨rfl, hb1⟩
    have HB1 := Lib.hid hb1
    clear hb1
    go_wp2_with fail
    refine (hS2.out _ ((HQ.out.below HB1.out).up HB1.out.size)).mono ?_
    rintro e w2 ⟨rfl, hb2⟩
    have HB2 := Lib.hid (HB1.out.trans (hb2.mono HB1.out.size))
    clear hb2
    go_wp2_with fail
    go_ret
    exact ⟨_, rfl, own_lift (made_nil w2) HB2.out.size, HB2.out.alloc HB2.out.size _⟩
  | true =>
    have ra := idsB_ris h1
    have la := idsB_len h1
    have lb := idsB_len h2
    have HRI := Lib.hid (fun k => orL_ris (b.take k) ra)
    have HRG := Lib.hid (fun k => orL_rng (rng_mem hra) (rng_mem hrb) k)
    have HT := Lib.hid (fun k (hk : k < b.length) => orL_take (a := a) hk)
    have HLN := Lib.hid (fun k => (by have h1 := orL_len (a := a) (b.take k); have h2 := List.length_take_le k b; have h3 : (b.take k).length ≤ b.length := by rw [List.length_take]; omega
                                      omega : (orL a (b.take k)).length ≤ 2000))
    have HPUT := Lib.hid (fun g c l n W h1 h2 h3 h4 => l10Put_any w.heap.size g c l n W h1 h2 h3 h4)
    rw [h1] at hS1
    rw [h2] at hS2
    rw [if_pos ⟨rfl, rfl⟩]
    have HE : Hid (orL a b = orL a (b.take b.length)) := Lib.hid (by rw [List.take_length])
    rw [HE.out]
    clear h1 h2 ra hra hrb
    obtain ⟨i0, hi, hz0, hz1, hz2⟩ := info_parts u_info_i64
    go_enter Try.func40, Try.ntmps40
    go_wp2_with fail
    refine (hS1.out _ HP.out).mono ?_
    rintro e w1 ⟨rfl, hb1⟩
    have HB1 := Lib.hid hb1
    clear hb1
    go_wp2_with fail
    refine (hS2.out _ ((HQ.out.below HB1.out).up HB1.out.size)).mono ?_
    rintro e w2 ⟨rfl, hb2⟩
    have HB2 := Lib.hid (HB1.out.trans (hb2.mono HB1.out.size))
    have HV2 := Lib.hid (u_own_below (u_own_below HV.out HB1.out) (hb2))
    clear hb2 HB1
    have hsz2 := HB2.out.size
    go_wp2_with (at_builtin; refine append_row_some rfl _ _ 46 rfl w.heap.size 2 i0 (.int .i64 0) 1 8 Try.underlying46 hi hz0 hz1 hz2 rfl (by decide) _ _ 0 (ints []) rfl (own_lift (made_nil w2) hsz2) b2 v a.length (ints a) rfl (HV2.out.alloc _) (ints_one _) ?c3 ?c4 ?c5 ?_)
    try (case c3 => unfold maxLen; omega)
    try (case c4 => omega)
    try (case c5 => first | omega | (simp; done) | (simp; omega))
    intro g3 c3 w3 hown3 hgrow3
    have HB3 := Lib.hid ((HB2.out.alloc hsz2 (.cells #[] 2)).grown hgrow3 (by first | omega | (simp; omega)) (fun j e => by injection e with e; omega))
    have HO3 := Lib.hid (show w3.ownsRow w.heap.size 2 1 (.slice (some ⟨g3, 0, none⟩) a.length c3) a.length (ints a) from by first | exact hown3 | (rw [Nat.zero_add] at hown3; exact hown3))
    have hval : (.slice (some ⟨g3, 0, none⟩) (0 + a.length) c3 : Value) = .slice (some ⟨g3, 0, none⟩) a.length c3 := by rw [Nat.zero_add]
    try rw [hval]
    clear hown3 hgrow3 hval
    go_wp2_with fail
    go_loopw [5, 6] (fun o i wr => ∃ k : Nat, k ≤ b.length ∧ i = .int .i64 k ∧ (∃ g c, o = .slice (some ⟨g, 0, none⟩) (orL a (b.take k)).length c ∧ wr.ownsRow w.heap.size 2 1 o (orL a (b.take k)).length (ints (orL a (b.take k)))) ∧ Below w.heap.size w wr) (fun _ i _ => b.length - (Go.RowKit.intOf i).toNat)
    case atStart => exact ⟨0, Nat.zero_le _, rfl, ⟨g3, c3, rfl, HO3.out⟩, HB3.out⟩
    case round =>
      clear HO3 HB3
      obtain ⟨k, hk, rfl, ⟨g, c', rfl, hown⟩, hb⟩ := hrel
      have HO := Lib.hid hown
      have HB := Lib.hid hb
      clear hown hb
      by_cases hlt : k < b.length
      · rcases h3 with h3 | ⟨bb, off, rfl, hbl, hc⟩
        · subst h3; simp at hlt
        have hx : wr.cell? ⟨bb, off + k, none⟩ = some (.int .i64 (b.getD k 0)) := (HB.out.cell (p := ⟨bb, off + k, none⟩) hbl).trans (hc k hlt)
        have HTk := Lib.hid (HT.out k hlt)
        have hsz := HB.out.size
        have HPk := Lib.hid (HPUT.out g c' (orL a (b.take k)) (b.getD k 0) wr (HRG.out k) (by have := HLN.out k; omega) (HRI.out k) HO.out hsz)
        clear hc
        generalize b.getD k 0 = x at *
        go_wp2_with fail
        refine HPk.out.mono ?_
        rintro e w5 ⟨g5, c5, rfl, hown5, hb5⟩
        have HB5 := Lib.hid (HB.out.trans (hb5.mono hsz))
        have HO5 := Lib.hid hown5
        clear hown5 hb5
        go_wp2_with fail
        go_roundw
        case rel => exact ⟨k + 1, by omega, by go_num, ⟨g5, c5, by rw [HTk.out], by rw [HTk.out]; exact HO5.out⟩, HB5.out⟩
        case measure => simp [Go.RowKit.intOf]; omega
      · obtain rfl : k = b.length := by omega
        go_wp2_with fail
        go_ret
        exact ⟨_, rfl, HO.out, HB.out⟩
theorem specOr_ex (v u : Value) (a b : List Int) (w : World) (hv : ∃ b2, w.ownsRow b2 2 1 v a.length (ints a)) (hra : ∀ j, Rng (a.getD j 0)) (hla : a.length ≤ 1048576) (h' : IL w w.heap.size u b) :
    Calls Try.prog 40 #[v, u] w (OwnPost w.heap.size (orM a b) w) := by
  obtain ⟨b2, hv⟩ := hv
  exact specOr_any v u a b b2 w hv hra hla h'
end Go.Proofs.Ytinpndoepppboaa
