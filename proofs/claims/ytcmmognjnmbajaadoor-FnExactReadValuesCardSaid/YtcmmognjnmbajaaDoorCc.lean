/- Walks: the program appends a code. -/
import Derived.Test.YtcmmognjnmbajaaDoorCb
import Derived.Test.YtcmmognjnmbajaaDoorWi
import Derived.LoopTactic
import Derived.LoopN
set_option linter.unusedVariables false
set_option linter.unusedSimpArgs false
namespace Go.Proofs.YtcmmognjnmbajaaDoor
open Go.RowKit

/-- block g holds these bits -/
def BitsAt (w : World) (g : Nat) (l : List Bool) : Prop := ∃ ws, BaBlk w g ws (l.length : Int) ∧ BM.Words ws l
def PutPost (g : Nat) (l : List Bool) (v : Value) (w : World) (e : Ending) (w' : World) : Prop :=
  e = .returned v ∧ BitsAt w' g l ∧ w.grownBy w' (some g)
theorem put_bits (g : Nat) (l : List Bool) (v k : Nat) (w : World) (h : BitsAt w g l) (hn : l.length + k ≤ 20000) (hk : k ≤ 64) (hv : v < 2 ^ 64) :
    Calls Tryd.prog 47 #[.pointer (some ⟨g, 0, none⟩), .int .u64 (v : Int), .int .i64 (k : Int)] w (PutPost g (l ++ BM.digits v k) (.tuple #[]) w) := by
  obtain ⟨ws, hb, hw⟩ := h
  refine (put_any g ws l.length v k w hb hw.1 hw.2.1 hn hk hv).mono fun e w' ⟨h1, h2, h3⟩ => ⟨h1, ⟨_, ?_, BM.words_put hw v k hk hn⟩, h3⟩
  rw [List.length_append, BM.digits_length]; exact h2
theorem BitsAt.lt {w : World} {g : Nat} {l : List Bool} (h : BitsAt w g l) : g < w.heap.size := by obtain ⟨ws, hb, _⟩ := h; exact heap_lt hb
theorem BitsAt.below {w w' : World} {g : Nat} {l : List Bool} (h : BitsAt w g l) (hb : Below w.heap.size w w') : BitsAt w' g l := by
  obtain ⟨ws, h1, h2⟩ := h; exact ⟨ws, (hb.block g (heap_lt h1)).trans h1, h2⟩
theorem ClosAt.grown {W W' : World} {f1 f2 : Value} {h hb b o : Int} {row : Option Nat} (p : ClosAt W f1 f2 h hb b o) (k : W.grownBy W' row) (hr : ∀ g, row = some g → ∀ c ty, W.heap[g]? = some (.cells c ty (0, 0)) → c.size ≠ 1) : ClosAt W' f1 f2 h hb b o := by
  obtain ⟨ph, phb, pb, po, h1, h2, h3, h4, h5, h6⟩ := p.ex
  have hne : ∀ g c ty, W.heap[g]? = some (.cells #[c] ty (0, 0)) → some g ≠ row := fun g c ty hg he => hr g he.symm _ _ hg rfl
  exact ⟨ph, phb, pb, po, h1, h2, (k.block _ (heap_lt h3) (hne _ _ _ h3)).trans h3, (k.block _ (heap_lt h4) (hne _ _ _ h4)).trans h4, (k.block _ (heap_lt h5) (hne _ _ _ h5)).trans h5, (k.block _ (heap_lt h6) (hne _ _ _ h6)).trans h6⟩

set_option maxRecDepth 100000 in
set_option maxHeartbeats 1000000 in
theorem putClos_no (ph phb pb po : Nat) (h hb b o : Int) (p : Value) (d : Int) (w : World) (h3 : w.heap[ph]? = some (.cells #[.int .u64 h] 66 (0, 0))) (h4 : w.heap[phb]? = some (.cells #[.int .i64 hb] 2 (0, 0))) (h5 : w.heap[pb]? = some (.cells #[.int .i64 b] 2 (0, 0))) (h6 : w.heap[po]? = some (.cells #[.int .i64 o] 2 (0, 0)))
    (hw : wrap64 (d + o) = d + o) (hf : fitsB (d + o) b = false) :
    Calls Tryd.prog 135 #[p, .int .i64 d, .pointer (some ⟨po, 0, none⟩), .pointer (some ⟨pb, 0, none⟩), .pointer (some ⟨ph, 0, none⟩), .pointer (some ⟨phb, 0, none⟩)] w fun e w' => e = .returned (.bool false) ∧ Below w.heap.size w w' := by
  have c5 : w.cell? ⟨pb, 0, none⟩ = some (.int .i64 b) := by rw [cell_of_row w pb 0 _ _ _ h5]; rfl
  have c6 : w.cell? ⟨po, 0, none⟩ = some (.int .i64 o) := by rw [cell_of_row w po 0 _ _ _ h6]; rfl
  have hfi := fun W => fitsIn_any (d + o) b W
  rw [hf] at hfi
  have Hf := Lib.hid hfi
  clear hfi hf h3 h4 h5 h6
  go_enter Tryd.func135, Tryd.ntmps135
  go_wp2_with fail
  refine (Hf.out _).mono ?_
  rintro e w' ⟨rfl, rfl⟩
  go_wp2_with fail
  go_ret
  exact ⟨rfl, Below.refl _ _⟩

theorem wrap_u64of' (x : Int) : IntKind.u64.wrap x = ((u64of x : Nat) : Int) := by rw [IntKind.wrap_u64]; unfold u64of; omega
theorem u64of_lt2 (x : Int) : u64of x < 2 ^ 64 := by unfold u64of; omega
set_option maxRecDepth 100000 in
set_option maxHeartbeats 1000000 in
theorem putClos_yes (ph phb pb po g H HB B : Nat) (o d : Int) (l : List Bool) (w : World) (h3 : w.heap[ph]? = some (.cells #[.int .u64 (H : Int)] 66 (0, 0))) (h4 : w.heap[phb]? = some (.cells #[.int .i64 (HB : Int)] 2 (0, 0))) (h5 : w.heap[pb]? = some (.cells #[.int .i64 (B : Int)] 2 (0, 0))) (h6 : w.heap[po]? = some (.cells #[.int .i64 o] 2 (0, 0)))
    (hl : BitsAt w g l) (hw : wrap64 (d + o) = d + o) (hf : fitsB (d + o) B = true) (hH : H < 2 ^ 64) (hHB : HB ≤ 64) (hB : B ≤ 64) (hn : l.length + HB + B ≤ 20000) :
    Calls Tryd.prog 135 #[.pointer (some ⟨g, 0, none⟩), .int .i64 d, .pointer (some ⟨po, 0, none⟩), .pointer (some ⟨pb, 0, none⟩), .pointer (some ⟨ph, 0, none⟩), .pointer (some ⟨phb, 0, none⟩)] w (PutPost g ((l ++ BM.digits H HB) ++ BM.digits (u64of (d + o)) B) (.bool true) w) := by
  have c3 : w.cell? ⟨ph, 0, none⟩ = some (.int .u64 (H : Int)) := by rw [cell_of_row w ph 0 _ _ _ h3]; rfl
  have c4 : w.cell? ⟨phb, 0, none⟩ = some (.int .i64 (HB : Int)) := by rw [cell_of_row w phb 0 _ _ _ h4]; rfl
  have c5 : w.cell? ⟨pb, 0, none⟩ = some (.int .i64 (B : Int)) := by rw [cell_of_row w pb 0 _ _ _ h5]; rfl
  have c6 : w.cell? ⟨po, 0, none⟩ = some (.int .i64 o) := by rw [cell_of_row w po 0 _ _ _ h6]; rfl
  have hne : ∀ k v ty, w.heap[k]? = some (.cells #[v] ty (0, 0)) → some k ≠ some g := by
    intro k v ty hk he
    injection he with he
    subst he
    obtain ⟨ws, hb, hws⟩ := hl
    unfold BaBlk at hb
    rw [hk] at hb
    injection hb with hb
    injection hb with hb _ _
    have := congrArg Array.size hb
    rw [baCells_size _ _ hws.1] at this
    simp at this
  have e5 := Lib.hid (hne _ _ _ h5)
  have e6 := Lib.hid (hne _ _ _ h6)
  have hfi := fun W => fitsIn_any (d + o) B W
  rw [hf] at hfi
  have Hf := Lib.hid hfi
  have hcv := wrap_u64of' (d + o)
  have hlt := u64of_lt2 (d + o)
  generalize u64of (d + o) = U at *
  have Hlt := Lib.hid hlt
  have Hl := Lib.hid hl
  have HH := Lib.hid hH
  clear hfi hf h3 h4 h5 h6 hlt hl hH hne
  go_enter Tryd.func135, Tryd.ntmps135
  go_wp2_with fail
  refine (Hf.out _).mono ?_
  rintro e w ⟨rfl, rfl⟩
  go_wp2_with fail
  refine (put_bits g l H HB _ Hl.out (by omega) hHB HH.out).mono ?_
  rintro e w2 ⟨rfl, hl2, hg2⟩
  have d5 := hg2.cell c5 e5.out
  have d6 := hg2.cell c6 e6.out
  have Hl2 := Lib.hid hl2
  have Hg2 := Lib.hid hg2
  clear hl2 hg2 c3 c4 c5 c6 Hl
  go_wp2_with fail
  refine (put_bits g _ U B _ Hl2.out (by rw [List.length_append, BM.digits_length]; exact hn) hB Hlt.out).mono ?_
  rintro e w3 ⟨rfl, hl3, hg3⟩
  have Hg3 := Lib.hid (grownBy_trans Hg2.out hg3)
  have Hl3 := Lib.hid hl3
  clear hl3 hg3
  go_wp2_with fail
  go_ret
  exact ⟨rfl, Hl3.out, Hg3.out⟩

end Go.Proofs.YtcmmognjnmbajaaDoor
