/- Plain words for the walks that stand on no function of the program. -/
import Derived.Test.YtkekpkfhljankaaProg
import Derived.WalkKit
import Derived.WalkSpells
import Derived.WalkLawsBesides
import Derived.BigQuiet
import Derived.BigRegion
import Derived.Laws.BytesArg
import Derived.Maps.AppendAt
import Derived.Lib.Hide
import Derived.Deep.QuietTactic
import Derived.OpenShut
set_option linter.unusedVariables false
set_option linter.unusedSimpArgs false
namespace Go.Proofs.Ytkekpkfhljankaa
open Go.RowKit

theorem u_ret_int {k : IntKind} {a b : Int} (h : a = b) : Ending.returned (.int k a) = .returned (.int k b) := by rw [h]
theorem u_info_u8 : (Try.prog.info? 5).map (fun i => (i.zero, i.size, i.bytes)) = some (some (.int .u8 0), 1, 1) := by kernel_rfl
theorem u_info_i64 : (Try.prog.info? 2).map (fun i => (i.zero, i.size, i.bytes)) = some (some (.int .i64 0), 1, 8) := by kernel_rfl
theorem u_ownsRow_base {w : World} {base base' : Nat} {e : TypeId} {size : Nat} {v : Value} {n : Nat} {xs : List Value} (h : w.ownsRow base e size v n xs) (hb : base' ≤ base) : w.ownsRow base' e size v n xs := by
  obtain ⟨h1, h2⟩ := h
  refine ⟨h1, ?_⟩
  rcases h2 with h2 | ⟨g, cap, cur, rfl, hg, rest⟩
  · exact .inl h2
  · exact .inr ⟨g, cap, cur, rfl, Nat.le_trans hb hg, rest⟩
theorem u_own_below {w w' : World} {base : Nat} {e : TypeId} {size : Nat} {v : Value} {n : Nat} {xs : List Value} (h : w.ownsRow base e size v n xs) (hb : Below w.heap.size w w') : w'.ownsRow base e size v n xs := by
  obtain ⟨h1, h2⟩ := h
  refine ⟨h1, ?_⟩
  rcases h2 with h2 | ⟨g, cap, cur, rfl, hg, hh, rest⟩
  · exact .inl h2
  · exact .inr ⟨g, cap, cur, rfl, hg, (hb.block g (Array.getElem?_eq_some_iff.1 hh).1).trans hh, rest⟩

def byteCells (l : List Nat) : List Value := l.map fun x : Nat => .int .u8 (x : Int)
theorem byteCells_length (l : List Nat) : (byteCells l).length = l.length := by simp [byteCells]
theorem byteCells_append (l m : List Nat) : byteCells (l ++ m) = byteCells l ++ byteCells m := by simp [byteCells]
theorem byteCells_get (l : List Nat) (j : Nat) (h : j < l.length) : (byteCells l)[j]? = some (.int .u8 (l.getD j 0 : Nat)) := by
  simp [byteCells, List.getD_eq_getElem?_getD, h]
/-- string(b) of bytes that a slice owns -/
theorem conv_own {w : World} {base : Nat} {v : Value} {l : List Nat} (h : w.ownsRow base 5 1 v l.length (byteCells l)) :
    (convert 48 9 v).run Try.prog w = .ok (.string ⟨(l.map UInt8.ofNat).toArray⟩) w := by
  have hown := h
  rcases h.2 with ⟨rfl, h0⟩ | ⟨g, cap, cur, rfl, hb, hg, _⟩
  · have hl : l = [] := List.eq_nil_of_length_eq_zero h0
    subst hl
    exact run_convert_bytes_nil (P := Try.prog) w 48 5 Try.underlying48 Try.underlying5 0 0 9 Try.underlying9
  · have hconv := run_convert_bytes_arg (P := Try.prog) w 48 5 Try.underlying48 Try.underlying5 g 0 l.length cap
        (l.map fun x : Nat => (x : Int)) (by simp)
        (fun i hi => by
          rw [Nat.zero_add, hown.cellAt _ (by omega), byteCells_get _ _ hi]
          simp [List.getD_eq_getElem?_getD, hi]) 9 Try.underlying9
    rw [hconv]
    have hstr : strOfNums (l.map fun x : Nat => (x : Int)) = ⟨(l.map UInt8.ofNat).toArray⟩ := by
      unfold strOfNums
      rw [List.map_map]
      congr 2
    rw [hstr]
/-- the cell that an append of one value lays -/
theorem u_below_append {w wr w1 : World} {B base : Nat} {e : TypeId} {v : Value} {n : Nat} {xs : List Value} {o : Obj} (hb : Below B w wr) (hB : B ≤ base) (hBw : B ≤ wr.heap.size) (hown : wr.ownsRow base e 1 v n xs) (hgrow : (wr.alloc o).grownBy w1 v.ownBlock) : Below B w w1 :=
  (hb.alloc (by omega) _).grown hgrow (by simp; omega) (fun k hk => by have := (hown.lt _ hk).1; omega)
theorem grown_set {a w : World} {g : Nat} (h : a.grownBy w (some g)) (i : Nat) (u : Value) : a.grownBy (w.setCell ⟨g, i, none⟩ u) (some g) :=
  ⟨h.os, h.tape, h.output, by simpa [World.setCell] using h.size, fun k hk hne => (Below.heap_setCell w _ u k (by rintro rfl; exact hne rfl)).trans (h.block k hk hne)⟩
theorem grown_drewN {a w : World} {row : Option Nat} (h : a.grownBy w row) (n : Nat) : a.grownBy (w.drewN n) row := ⟨h.os, h.tape, h.output, h.size, h.block⟩
theorem grown_drew {a w : World} {row : Option Nat} (h : a.grownBy w row) : a.grownBy w.drew row := ⟨h.os, h.tape, h.output, h.size, h.block⟩
theorem u_u64_shl (y s : Nat) : IntKind.u64.wrap ((y : Int) * 2 ^ s) = ((y * 2 ^ s % 2 ^ 64 : Nat) : Int) := by
  have e : (y : Int) * 2 ^ s = ((y * 2 ^ s : Nat) : Int) := by simp
  rw [e, IntKind.wrap_u64]; omega
theorem u_i64_wrap (x : Int) : IntKind.i64.wrap x = wrap64 x := by rw [IntKind.wrap_i64]; unfold wrap64; omega
end Go.Proofs.Ytkekpkfhljankaa

/- Walks: slices of int64: the laws' own helpers. -/
set_option linter.unusedVariables false
set_option linter.unusedSimpArgs false
namespace Go.Proofs.Ytkekpkfhljankaa
open Go.RowKit

def ints (l : List Int) : List Value := l.map (Value.int .i64)
theorem ints_length (l : List Int) : (ints l).length = l.length := by simp [ints]
theorem ints_append (l m : List Int) : ints (l ++ m) = ints l ++ ints m := by simp [ints]
theorem ints_get (l : List Int) (j : Nat) (h : j < l.length) : (ints l)[j]? = some (.int .i64 (l.getD j 0)) := by
  simp [ints, List.getD_eq_getElem?_getD, h]
theorem ints_set (l : List Int) (k : Nat) (x : Int) : (ints l).set k (.int .i64 x) = ints (l.set k x) := by simp [ints, List.map_set]
def Rng (x : Int) : Prop := -9223372036854775808 ≤ x ∧ x ≤ 9223372036854775807

/-- the slice v reads as xs in the blocks below B -/
def IL (w : World) (B : Nat) (v : Value) (xs : List Int) : Prop :=
  (∀ j, Rng (xs.getD j 0)) ∧ xs.length ≤ 1048576 ∧ ∃ A c, v = .slice A xs.length c ∧
    (xs = [] ∨ ∃ b off, A = some ⟨b, off, none⟩ ∧ b < B ∧ ∀ j, j < xs.length → w.cell? ⟨b, off + j, none⟩ = some (.int .i64 (xs.getD j 0)))
theorem IL.below {w w' : World} {B : Nat} {v : Value} {xs : List Int} (h : IL w B v xs) (hb : Below B w w') : IL w' B v xs := by
  obtain ⟨h1, h2, A, c, rfl, h3⟩ := h
  refine ⟨h1, h2, A, c, rfl, ?_⟩
  rcases h3 with h3 | ⟨b, off, rfl, hlt, hc⟩
  · exact .inl h3
  · exact .inr ⟨b, off, rfl, hlt, fun j hj => (hb.cell (p := ⟨b, off + j, none⟩) hlt).trans (hc j hj)⟩
theorem IL.up {w : World} {B B' : Nat} {v : Value} {xs : List Int} (h : IL w B v xs) (hB : B ≤ B') : IL w B' v xs := by
  obtain ⟨h1, h2, A, c, rfl, h3⟩ := h
  refine ⟨h1, h2, A, c, rfl, ?_⟩
  rcases h3 with h3 | ⟨b, off, rfl, hlt, hc⟩
  · exact .inl h3
  · exact .inr ⟨b, off, rfl, by omega, hc⟩
theorem rng_zero : Rng 0 := ⟨by omega, by omega⟩
theorem rng_of {xs : List Int} (h : ∀ x ∈ xs, Rng x) (j : Nat) : Rng (xs.getD j 0) := by
  rw [List.getD_eq_getElem?_getD]
  by_cases hj : j < xs.length
  · rw [List.getElem?_eq_getElem hj]; exact h _ (List.getElem_mem hj)
  · rw [List.getElem?_eq_none (by omega)]; exact rng_zero
theorem IL.of_own {w : World} {base : Nat} {v : Value} {n : Nat} {xs : List Int} (h : w.ownsRow base 2 1 v n (ints xs)) (hn : n = xs.length) (hr : ∀ j, Rng (xs.getD j 0)) (hl : xs.length ≤ 1048576) : IL w w.heap.size v xs := by
  subst hn
  refine ⟨hr, hl, ?_⟩
  rcases h.2 with ⟨rfl, h0⟩ | ⟨g, cap, cur, rfl, hb, hg, _⟩
  · exact ⟨none, 0, by rw [h0], .inl (List.eq_nil_of_length_eq_zero h0)⟩
  · refine ⟨_, cap, rfl, .inr ⟨g, 0, rfl, (Array.getElem?_eq_some_iff.1 hg).1, fun j hj => ?_⟩⟩
    rw [Nat.zero_add, h.cellAt j (by omega)]
    exact ints_get _ _ hj
theorem ints_ext {xs ys : List Int} (hl : xs.length = ys.length) (h : ∀ j, j < xs.length → xs.getD j 0 = ys.getD j 0) : xs = ys := by
  apply List.ext_getElem hl
  intro j h1 h2
  have := h j h1
  simpa [List.getD_eq_getElem?_getD, h1, h2] using this
theorem getD_set_int (l : List Int) (k j : Nat) (x : Int) (hk : k < l.length) : (l.set k x).getD j 0 = if j = k then x else l.getD j 0 := by
  simp only [List.getD_eq_getElem?_getD, List.getElem?_set]
  by_cases e : k = j
  · subst e; simp [hk]
  · have e' : ¬ j = k := fun h => e h.symm
    simp [e, e']
theorem made_ints (n : Nat) : (madeCells #[Value.int .i64 0] n).toList = ints (List.replicate n 0) := by
  apply List.ext_getElem?
  intro i
  by_cases hi : i < n
  · simp [madeCells, ints, hi, Nat.mod_one]
  · rw [List.getElem?_eq_none (l := ints _) (by simp [ints]; omega), List.getElem?_eq_none (by simp [madeCells]; omega)]

def OwnPost (base : Nat) (xs : List Int) (w : World) (e : Ending) (w' : World) : Prop :=
  ∃ v, e = .returned v ∧ w'.ownsRow base 2 1 v xs.length (ints xs) ∧ Below w.heap.size w w'

end Go.Proofs.Ytkekpkfhljankaa

/- Walks: two slices of int64 compared; marks. -/
set_option linter.unusedVariables false
set_option linter.unusedSimpArgs false
namespace Go.Proofs.Ytkekpkfhljankaa
open Go.RowKit

def BoolPost (b : Bool) (w : World) (e : Ending) (w' : World) : Prop := e = .returned (.bool b) ∧ Below w.heap.size w w'

theorem ne_of_len {xs ys : List Int} (h : ¬ xs.length = ys.length) : decide (xs = ys) = false := by
  rw [decide_eq_false_iff_not]; intro e; exact h (by rw [e])
theorem ne_of_get {xs ys : List Int} (k : Nat) (h : ¬ xs.getD k 0 = ys.getD k 0) : decide (xs = ys) = false := by
  rw [decide_eq_false_iff_not]; intro e; exact h (by rw [e])


def marks (k : Int) (n : Nat) : List Int := (List.range n).map fun j : Nat => k + (j : Int)
theorem marks_length (k : Int) (n : Nat) : (marks k n).length = n := by simp [marks]
theorem marks_getD (k : Int) (n j : Nat) (h : j < n) : (marks k n).getD j 0 = k + j := by
  simp [marks, List.getD_eq_getElem?_getD, h]

def MarkPost (base : Nat) (v : Value) (n : Nat) (w : World) (e : Ending) (w' : World) : Prop :=
  e = .returned (.int .i64 (1 + (n : Int))) ∧ w'.ownsRow base 2 1 v n (ints (marks 1 n)) ∧ Below base w w' ∧ w.grownBy w' v.ownBlock



/-- a slice that came in, as the frame of a law gives it -/
theorem il_nil (w : World) (c : Nat) (A : Option Addr) : IL w w.heap.size (.slice A 0 c) [] :=
  ⟨fun j => by simpa using rng_zero, by simp, A, c, rfl, .inl rfl⟩
theorem il_of (x : Addr) (n c : Nat) (zs : List Int) (w : World) (hn : n ≤ 1048576) (hl : n ≤ c) (hz : zs.length = c)
    (hcell : ∀ i, i < zs.length → w.cell? (x.add i) = some (.int .i64 (zs.getD i 0))) (hwz : ∀ k ∈ zs, (Lit.int .i64 k).wf = true) :
    ∃ xs : List Int, xs.length = n ∧ IL w w.heap.size (.slice (some x) n c) xs := by
  have hlen : (zs.take n).length = n := by rw [List.length_take]; omega
  by_cases h0 : n = 0
  · subst h0; exact ⟨[], rfl, il_nil _ _ _⟩
  · refine ⟨zs.take n, hlen, ?_, by omega, some x, c, by rw [hlen], .inr ?_⟩
    · refine rng_of fun y hy => ?_
      have := hwz y (List.mem_of_mem_take hy)
      have h2 := bounds_i64 this
      exact ⟨by omega, by omega⟩
    · obtain ⟨b, off, spot⟩ := x
      have hc := hcell 0 (by omega)
      have hspot : spot = none := by simpa [Addr.add] using World.cell?_spot hc
      subst hspot
      refine ⟨b, off, rfl, ?_, fun j hj => ?_⟩
      · have h1 : w.cell? ⟨b, off, none⟩ = some (.int .i64 (zs.getD 0 0)) := by simpa [Addr.add] using hc
        exact World.block_lt_of_cell? w _ h1
      · rw [hlen] at hj
        have h1 := hcell j (by omega)
        have h2 : (zs.take n).getD j 0 = zs.getD j 0 := by simp [List.getD_eq_getElem?_getD, hj]
        have hadd : (⟨b, off, none⟩ : Addr).add j = ⟨b, off + j, none⟩ := by unfold Addr.add; split <;> simp_all
        rw [hadd] at h1
        rw [h2]; exact h1
end Go.Proofs.Ytkekpkfhljankaa

/- Walks: l1In. -/
set_option linter.unusedVariables false
set_option linter.unusedSimpArgs false
namespace Go.Proofs.Ytkekpkfhljankaa
open Go.RowKit

theorem v_ret_bool {a b : Bool} (h : a = b) : Ending.returned (.bool a) = .returned (.bool b) := by rw [h]
def vIn (n lo hi : Int) : Bool := decide (lo ≤ n ∧ n ≤ hi)
set_option maxRecDepth 100000 in
set_option maxHeartbeats 1000000 in
theorem v_l1In_any (n lo hi : Int) (w : World) :
    Calls Try.prog 59 #[.int .i64 n, .int .i64 lo, .int .i64 hi] w fun e w' => e = .returned (.bool (vIn n lo hi)) ∧ w = w' := by
  by_cases h1 : lo ≤ n
  · go_enter Try.func59, Try.ntmps59
    go_wp2
    go_ret
    exact ⟨v_ret_bool (by simp [vIn, h1]), rfl⟩
  · go_enter Try.func59, Try.ntmps59
    go_wp2
    go_ret
    exact ⟨v_ret_bool (by simp [vIn]; omega), rfl⟩

theorem v_l1In_q (n lo hi : Int) (w : World) :
    Calls Try.prog 59 #[.int .i64 n, .int .i64 lo, .int .i64 hi] w fun e w' => e = .returned (.bool (vIn n lo hi)) ∧ w' = w :=
  (v_l1In_any n lo hi w).mono fun _ _ ⟨h, h'⟩ => ⟨h, h'.symm⟩
theorem vIn_true {n lo hi : Int} (h1 : lo ≤ n) (h2 : n ≤ hi) : vIn n lo hi = true := by simp [vIn, h1, h2]
theorem vIn_false {n lo hi : Int} (h : ¬ (lo ≤ n ∧ n ≤ hi)) : vIn n lo hi = false := by simp only [vIn, decide_eq_false_iff_not]; exact h
end Go.Proofs.Ytkekpkfhljankaa

/- Walks: TimesOk. -/
set_option linter.unusedVariables false
set_option linter.unusedSimpArgs false
namespace Go.Proofs.Ytkekpkfhljankaa
open Go.RowKit

def goodAt (l : List Int) (j : Nat) : Bool := decide (0 ≤ l.getD j 0 ∧ l.getD j 0 ≤ 1000000000000) && (decide (j = 0) || decide (l.getD (j - 1) 0 < l.getD j 0))
def goodTo (l : List Int) (k : Nat) : Bool := (List.range k).all (goodAt l)
def timesOkB (l : List Int) : Bool := decide (l.length ≤ 120) && goodTo l l.length
theorem goodTo_zero (l : List Int) : goodTo l 0 = true := rfl
theorem goodTo_succ (l : List Int) (k : Nat) : goodTo l (k + 1) = (goodTo l k && goodAt l k) := by
  unfold goodTo; rw [List.range_succ, List.all_append]; simp
theorem goodTo_bad {l : List Int} {k n : Nat} (h : goodAt l k = false) (hk : k < n) : goodTo l n = false := by
  unfold goodTo
  rw [List.all_eq_false]
  exact ⟨k, by simpa using hk, by simp [h]⟩
theorem goodTo_at {l : List Int} {k j : Nat} (h : goodTo l k = true) (hj : j < k) : goodAt l j = true := by
  unfold goodTo at h
  exact List.all_eq_true.1 h j (by simpa using hj)
theorem timesOkB_bad {l : List Int} {k : Nat} (h : goodAt l k = false) (hk : k < l.length) : timesOkB l = false := by
  unfold timesOkB; rw [goodTo_bad h hk]; simp
theorem timesOkB_end {l : List Int} (h : goodTo l l.length = true) : timesOkB l = decide (l.length ≤ 120) := by unfold timesOkB; rw [h]; simp

theorem below_drewN_u {B : Nat} {a w : World} (h : Below B a w) (n : Nat) : Below B a (w.drewN n) := ⟨h.os, h.tape, h.output, h.size, h.block⟩

set_option maxRecDepth 100000 in
set_option maxHeartbeats 2000000 in
theorem specTimesOk_any (v : Value) (xs : List Int) (w : World) (h : IL w w.heap.size v xs) :
    Calls Try.prog 159 #[v] w (BoolPost (timesOkB xs) w) := by
  obtain ⟨hr, hlen, A, c, rfl, h3⟩ := h
  have hin := Lib.hid (fun n W => v_l1In_q n 0 1000000000000 W)
  have Hr := Lib.hid hr
  clear hr
  go_enter Try.func159, Try.ntmps159
  go_wp2_with fail
  go_loopw [3] (fun i wr => ∃ k : Nat, k ≤ xs.length ∧ i = .int .i64 k ∧ goodTo xs k = true ∧ Below w.heap.size w wr) (fun i _ => xs.length - (intOf i).toNat)
  case atStart => exact ⟨0, Nat.zero_le _, rfl, rfl, Below.refl _ _⟩
  case round =>
    obtain ⟨k, hk, rfl, hg, hb⟩ := hrel
    have Hg := Lib.hid hg
    clear hg
    by_cases hlt : k < xs.length
    · rcases h3 with h3 | ⟨b, off, rfl, hbl, hc⟩
      · subst h3; simp at hlt
      have hx : wr.cell? ⟨b, off + k, none⟩ = some (.int .i64 (xs.getD k 0)) := (hb.cell (p := ⟨b, off + k, none⟩) hbl).trans (hc k hlt)
      by_cases hin1 : 0 ≤ xs.getD k 0 ∧ xs.getD k 0 ≤ 1000000000000
      · have hI := Lib.hid (fun W => hin.out (xs.getD k 0) W)
        rw [vIn_true hin1.1 hin1.2] at hI
        by_cases hk0 : k ≤ 0
        · have G := Lib.hid (show goodTo xs (k + 1) = true from by rw [goodTo_succ, Hg.out]; unfold goodAt; rw [decide_eq_true hin1, decide_eq_true (show k = 0 by omega)]; rfl)
          have hd : decide (0 < k) = false := by simp; omega
          have Hk0 := Lib.hid hk0
          clear hk0
          generalize hX : xs.getD k 0 = x at *
          have HX := Lib.hid hX
          clear hX hc
          go_wp2_with fail
          go_quiet ((go_at_call 59; exact Calls.quiet_of_same (hI.out _)))
          go_wp2_with fail
          go_roundw
          case rel => exact ⟨k + 1, by omega, by go_num, G.out, by first | exact below_drewN_u hb _ | exact hb⟩
          case measure => simp [intOf]; omega
        · have hy : wr.cell? ⟨b, off + (k - 1), none⟩ = some (.int .i64 (xs.getD (k - 1) 0)) := (hb.cell (p := ⟨b, off + (k - 1), none⟩) hbl).trans (hc (k - 1) (by omega))
          have hd : decide (0 < k) = true := by simp; omega
          have e1 : IntKind.i64.wrap ((k : Int) - 1) = (k : Int) - 1 := IntWalk.i64_in _ (by omega)
          have e2 : (0 : Int) ≤ (k : Int) - 1 := by omega
          have e2' : (1 : Int) ≤ (k : Int) := by omega
          have e3 : ((k : Int) - 1).toNat = k - 1 := by omega
          have e4 : (k : Int) - 1 < (xs.length : Int) := by omega
          by_cases hlast : xs.getD (k - 1) 0 < xs.getD k 0
          · have G := Lib.hid (show goodTo xs (k + 1) = true from by rw [goodTo_succ, Hg.out]; unfold goodAt; rw [decide_eq_true hin1, decide_eq_true hlast, Bool.or_true]; rfl)
            generalize hX : xs.getD k 0 = x at *
            generalize hY : xs.getD (k - 1) 0 = y at *
            have HX := Lib.hid hX
            have HY := Lib.hid hY
            have hxy : decide (x ≤ y) = false := by simp; omega
            clear hX hY hc
            go_wp2_with fail
            go_quiet ((go_at_call 59; exact Calls.quiet_of_same (hI.out _)))
            clear e1 e2 e2' e3 e4
            go_wp2_with fail
            go_roundw
            case rel => exact ⟨k + 1, by omega, by go_num, G.out, by first | exact below_drewN_u hb _ | exact hb⟩
            case measure => simp [intOf]; omega
          · have G := Lib.hid (timesOkB_bad (l := xs) (k := k) (by unfold goodAt; rw [decide_eq_false hlast, decide_eq_false (show ¬ k = 0 by omega)]; simp) hlt)
            generalize hX : xs.getD k 0 = x at *
            generalize hY : xs.getD (k - 1) 0 = y at *
            have HX := Lib.hid hX
            have HY := Lib.hid hY
            have hxy : decide (x ≤ y) = true := by simp; omega
            clear hX hY hc
            go_wp2_with fail
            go_quiet ((go_at_call 59; exact Calls.quiet_of_same (hI.out _)))
            clear e1 e2 e2' e3 e4
            go_wp2_with fail
            go_ret
            exact ⟨by rw [G.out]; rfl, by first | exact below_drewN_u hb _ | exact hb⟩
      · have hI := Lib.hid (fun W => hin.out (xs.getD k 0) W)
        rw [vIn_false hin1] at hI
        have G := Lib.hid (timesOkB_bad (l := xs) (k := k) (by unfold goodAt; rw [decide_eq_false hin1]; rfl) hlt)
        generalize hX : xs.getD k 0 = x at *
        have HX := Lib.hid hX
        clear hX hc hin1
        go_wp2_with fail
        go_quiet ((go_at_call 59; exact Calls.quiet_of_same (hI.out _)))
        go_wp2_with fail
        go_ret
        exact ⟨by rw [G.out]; rfl, by first | exact below_drewN_u hb _ | exact hb⟩
    · obtain rfl : k = xs.length := by omega
      have E := Lib.hid (timesOkB_end Hg.out)
      have E2 := Lib.hid (show timesOkB xs = decide ((xs.length : Int) ≤ 120) from by rw [E.out]; exact decide_eq_decide.2 (by omega))
      go_wp2_with fail
      go_ret
      exact ⟨by rw [E2.out]; rfl, hb⟩

set_option maxRecDepth 100000 in
set_option maxHeartbeats 2000000 in
theorem implTimesOk_any (v : Value) (xs : List Int) (w : World) (h : IL w w.heap.size v xs) :
    Calls Try.prog 137 #[v] w (BoolPost (timesOkB xs) w) := by
  obtain ⟨hr, hlen, A, c, rfl, h3⟩ := h
  have Hr := Lib.hid hr
  clear hr
  by_cases h120 : 120 < xs.length
  · have E := Lib.hid (show timesOkB xs = false from by unfold timesOkB; rw [decide_eq_false (by omega)]; rfl)
    go_enter Try.func137, Try.ntmps137
    go_wp2_with fail
    go_ret
    exact ⟨by rw [E.out]; rfl, Below.refl _ _⟩
  · have h120' : xs.length ≤ 120 := by omega
    go_enter Try.func137, Try.ntmps137
    go_wp2_with fail
    go_loop [3, 11] (fun p i => ∃ (k : Nat) (y : Int), k ≤ xs.length ∧ i = .int .i64 k ∧ p = .int .i64 y ∧ -1 ≤ y ∧ Hid (y = if k = 0 then -1 else xs.getD (k - 1) 0) ∧ goodTo xs k = true) (fun _ i => xs.length - (intOf i).toNat)
    case atStart => exact ⟨0, -1, Nat.zero_le _, rfl, rfl, by omega, rfl, rfl⟩
    case round =>
      obtain ⟨k, y, hk, rfl, rfl, hy1, HY, hg⟩ := hrel
      have Hg := Lib.hid hg
      clear hg
      by_cases hlt : k < xs.length
      · rcases h3 with h3 | ⟨b, off, rfl, hbl, hc⟩
        · subst h3; simp at hlt
        have hx := hc k hlt
        generalize hX : xs.getD k 0 = x at *
        have HX := Lib.hid hX
        clear hX hc
        by_cases h1 : x ≤ y
        · have G := Lib.hid (timesOkB_bad (l := xs) (k := k) (by
            unfold goodAt
            have hy := HY.out
            rw [HX.out]
            by_cases e : k = 0
            · rw [if_pos e] at hy
              rw [decide_eq_false (by omega)]; rfl
            · rw [if_neg e] at hy
              rw [← hy, decide_eq_false e, decide_eq_false (show ¬ y < x by omega)]; simp) hlt)
          go_wp2_with fail
          go_ret
          exact ⟨by rw [G.out]; rfl, Below.refl _ _⟩
        · by_cases h2 : 1000000000000 < x
          · have G := Lib.hid (timesOkB_bad (l := xs) (k := k) (by unfold goodAt; rw [HX.out, decide_eq_false (by omega)]; rfl) hlt)
            go_wp2_with fail
            go_ret
            exact ⟨by rw [G.out]; rfl, Below.refl _ _⟩
          · have G := Lib.hid (show goodTo xs (k + 1) = true from by
              rw [goodTo_succ, Hg.out]
              unfold goodAt
              have hy := HY.out
              rw [HX.out, decide_eq_true (by omega)]
              by_cases e : k = 0
              · rw [decide_eq_true e]; rfl
              · rw [if_neg e] at hy
                rw [← hy, decide_eq_true (show y < x by omega)]; simp)
            go_wp2_with fail
            go_round
            case rel => exact ⟨k + 1, x, by omega, by go_num, rfl, by omega, Lib.hid (by rw [if_neg (by omega)]; exact HX.out.symm), G.out⟩
            case measure => simp [intOf]; omega
      · obtain rfl : k = xs.length := by omega
        have E := Lib.hid (show timesOkB xs = true from by rw [timesOkB_end Hg.out]; simpa using h120')
        go_wp2_with fail
        go_ret
        exact ⟨by rw [E.out]; rfl, Below.refl _ _⟩

end Go.Proofs.Ytkekpkfhljankaa
