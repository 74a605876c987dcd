/- Walks: drawn numbers and their bytes. -/
import Derived.Test.YtpnfkmhhilnglabRk
import Derived.Test.YtpnfkmhhilnglabVh
namespace Go.Proofs.Ytpnfkmhhilnglab
open Go.RowKit

theorem below_rd {w w1 w2 : World} {B g : Nat} (hb : Below B w w1) (hB : B ≤ w1.heap.size) (hg : w1.grownBy w2 (some g)) (hBg : B ≤ g) : Below B w w2 :=
  hb.grown hg hB (fun k hk => by injection hk with hk; omega)
def StrPost (m : Int) (w : World) (e : Ending) (w' : World) : Prop := ∃ s : ByteArray, e = .returned (.string s) ∧ (s.size : Int) ≤ m ∧ Below w.heap.size w w'
def IntsPost (m : Nat) (w : World) (e : Ending) (w' : World) : Prop :=
  ∃ v xs, e = .returned v ∧ w'.ownsRow w.heap.size 2 1 v xs.length (ints xs) ∧ xs.length ≤ m ∧ (∀ x ∈ xs, Rng x) ∧ Below w.heap.size w w'

set_option maxRecDepth 100000 in
set_option maxHeartbeats 1000000 in
theorem DrawVarOf_any (A : Option Addr) (n c : Nat) (w : World) (h : CodeAt w A n c) :
    Calls Try.prog 11 #[.slice A n c] w fun e w' => (∃ v, e = .returned v ∧ IsI64 v) ∧ Below w.heap.size w w' := by
  have H := Lib.hid h
  clear h
  go_enter Try.func11, Try.ntmps11
  go_wp2_with fail
  refine (DrawZig_any A n c _ H.out).mono ?_
  rintro e w1 ⟨⟨v, rfl, z, rfl, hz0, hz1⟩, hb1⟩
  go_wp2_with fail
  go_ret
  exact ⟨⟨_, rfl, ⟨z, rfl, hz0, hz1⟩⟩, hb1⟩

set_option maxRecDepth 100000 in
set_option maxHeartbeats 1000000 in
theorem DrawReadVar_any (A : Option Addr) (n c : Nat) (w : World) (h : CodeAt w A n c) :
    Calls Try.prog 13 #[.slice A n c] w (StrPost 13 w) := by
  have H := Lib.hid h
  clear h
  go_enter Try.func13, Try.ntmps13
  go_wp2_with fail
  refine (open_any A n c _ H.out).mono ?_
  rintro e w1 ⟨rfl, hrd1, hb1⟩
  have Hrd1 := Lib.hid hrd1
  have Hb1 := Lib.hid hb1
  have hgl : w.heap.size < w1.heap.size := hrd1.lt
  clear hrd1 hb1
  go_wp2_with fail
  refine (num_any _ _ _ Hrd1.out).mono ?_
  rintro e w2 ⟨v, rfl, ⟨z, rfl, hz0, hz1⟩, hrd2, hgr2⟩
  have Hrd2 := Lib.hid hrd2
  have Hb2 := Lib.hid (below_rd Hb1.out (by omega) hgr2 (Nat.le_refl _))
  have hgl2 := hrd2.lt
  clear hrd2 hgr2 Hb1 Hrd1
  go_wp2_with fail
  refine (specVarOf_any z _).mono ?_
  rintro e w3 ⟨rfl, hb3⟩
  have Hrd3 := Lib.hid (Rd.below Hrd2.out hb3)
  have Hb3 := Lib.hid (Hb2.out.trans (hb3.mono (by omega)))
  have hgl3 := Hrd3.out.lt
  have hsz := varS_size z
  have hl10 := VM.var_len64 _ (i64u_lt z)
  rw [← hsz] at hl10
  generalize varS z = s at *
  clear hb3 Hb2 Hrd2 hsz
  go_wp2_with fail
  refine (once_any _ _ 3 _ Hrd3.out (by omega) (by omega)).mono ?_
  rintro e w4 ⟨v, rfl, ⟨b, rfl⟩, hrd4, hgr4⟩
  have Hrd4 := Lib.hid hrd4
  have Hb4 := Lib.hid (below_rd Hb3.out (by omega) hgr4 (Nat.le_refl _))
  have hgl4 := hrd4.lt
  clear hrd4 hgr4 Hb3 Hrd3
  cases b with
  | true =>
    go_wp2_with fail
    refine (hurt_any _ _ s _ Hrd4.out (by omega)).mono ?_
    rintro e w5 ⟨v, rfl, ⟨t, rfl, ht⟩, hrd5, hgr5⟩
    have Hb5 := Lib.hid (below_rd Hb4.out (by omega) hgr5 (Nat.le_refl _))
    clear hrd5 hgr5 Hb4 Hrd4
    go_wp2_with fail
    go_ret
    exact ⟨_, rfl, by omega, Hb5.out⟩
  | false =>
    go_wp2_with fail
    refine (bytes_any _ _ 3 _ Hrd4.out (by omega) (by omega)).mono ?_
    rintro e w5 ⟨v, rfl, ⟨t, rfl, ht⟩, hrd5, hgr5⟩
    have Hb5 := Lib.hid (below_rd Hb4.out (by omega) hgr5 (Nat.le_refl _))
    clear hrd5 hgr5 Hb4 Hrd4
    go_wp2_with fail
    go_ret
    exact ⟨_, rfl, by rw [ByteArray.size_append]; omega, Hb5.out⟩

set_option maxRecDepth 100000 in
set_option maxHeartbeats 1000000 in
theorem DrawVarsOf_any (A : Option Addr) (n c : Nat) (w : World) (h : CodeAt w A n c) :
    Calls Try.prog 16 #[.slice A n c] w (IntsPost 5 w) := by
  obtain ⟨i0, hi, hz0, hz1, hz2⟩ := info_parts u_info_i64
  have H := Lib.hid h
  clear h
  go_enter Try.func16, Try.ntmps16
  go_wp2_with fail
  refine (open_any A n c _ H.out).mono ?_
  rintro e w1 ⟨rfl, hrd1, hb1⟩
  have Hrd1 := Lib.hid hrd1
  have Hb1 := Lib.hid hb1
  have hgl : w.heap.size < w1.heap.size := hrd1.lt
  clear hrd1 hb1
  go_wp2_with fail
  refine (below_any _ _ 6 _ (Rd.alloc Hrd1.out _) (by omega) (by omega)).mono ?_
  rintro e w2 ⟨v, rfl, ⟨x, rfl, hx0, hx1⟩, hrd2, hgr2⟩
  have hown : w2.ownsRow w1.heap.size 2 1 (.slice (some ⟨w1.heap.size, 0, none⟩) 0 0) 0 (ints []) := by
    have h0 := World.ownsRow_made w1 (base := w1.heap.size) (e := 2) (size := 1) #[] 0 (Nat.le_refl _) (by simp [maxLen]) rfl
    exact h0.kept hgr2 (.inr (by simp [Value.ownBlock]; omega))
  have hgr1 : w1.grownBy w2 (some w.heap.size) := grown_trans' (World.grownBy_alloc w1 _ _) hgr2
  have Hrd2 := Lib.hid hrd2
  clear hrd2 hgr2 Hrd1
  go_wp2_with fail
  go_loopw [4, 5] (fun u i wr => ∃ (j : Int) (L : List Int), i = .int .i64 j ∧ 0 ≤ j ∧ (L.length : Int) + j ≤ 5 ∧ (∀ y ∈ L, Rng y) ∧ wr.ownsRow w1.heap.size 2 1 u L.length (ints L) ∧ Hid (Rd wr w.heap.size w.heap.size) ∧ w1.grownBy wr (some w.heap.size))
    (fun _ i _ => (intOf i).toNat)
  case atStart => exact ⟨x, [], rfl, hx0, by simp; omega, fun _ h => (by cases h), hown, Hrd2, hgr1⟩
  case round =>
    clear hown Hrd2 hgr1 H
    obtain ⟨j, L, rfl, hj0, hj1, hL, hown, Hrd, hgr⟩ := hrel
    have HL := Lib.hid hL
    clear hL
    by_cases hlt : 0 < j
    · go_wp2_with fail
      refine (num_any _ _ _ Hrd.out).mono ?_
      rintro e w3 ⟨v, rfl, ⟨y, rfl, hy0, hy1⟩, hrd3, hgr3⟩
      have hown2 := rd_row hgl hown hgr3
      have hgr4 := grown_trans' hgr hgr3
      have hz := hgr4.size
      have Hrd3 := Lib.hid hrd3
      clear hrd3 hgr3 hgr hown
      go_wp2_with (at_builtin; refine wpList_append_own _ rfl _ _ 29 rfl w1.heap.size 2 i0 (.int .i64 0) 1 8 Try.underlying29 hi hz0 hz1 hz2 rfl (by decide) _ _ _ rfl (hown2.alloc _) ⟨w3.heap.size, 0, none⟩ 1 1 [.int .i64 y] rfl rfl ?c1 ?c2 ?c3 ?c4 ?c5 ?_)
      case c1 => exact cell_one_new _ _ _
      case c2 => intro q hq; simp at hq; subst hq; rfl
      case c3 => unfold maxLen; omega
      case c4 => omega
      case c5 => simp; omega
      intro v' w4 hown3 hgrow _
      obtain ⟨hgr5, hrd5⟩ := rd_append hgr4 hgl Hrd3.out hown2 hgrow
      have hown4 : w4.ownsRow w1.heap.size 2 1 v' (L ++ [y]).length (ints (L ++ [y])) := by
        rw [ints_append]; simpa [ints] using hown3
      have Hrd5 := Lib.hid hrd5
      clear hown3 hgrow hown2 hgr4 Hrd3 hrd5
      go_wp2_with fail
      go_roundw
      case rel => exact ⟨j - 1, L ++ [y], by congr 1, by omega, by simp; omega, fun z hz => by
        rcases List.mem_append.1 hz with hz | hz
        · exact HL.out z hz
        · obtain rfl : z = y := by simpa using hz
          exact ⟨hy0, hy1⟩, hown4, Hrd5, hgr5⟩
      case measure => simp [intOf]; omega
    · go_wp2_with fail
      go_ret
      exact ⟨_, L, rfl, u_ownsRow_base hown (by omega), by omega, HL.out, below_rd Hb1.out (by omega) hgr (Nat.le_refl _)⟩

theorem varsB_len {xs : List Int} (h : xs.length ≤ 5) : (strN (varsB xs)).size ≤ 60 := by
  rw [strN_size]
  unfold varsB
  rw [if_neg (by omega)]
  have := varsTo_len xs xs.length
  omega

set_option maxRecDepth 100000 in
set_option maxHeartbeats 1000000 in
theorem DrawReadVars_any (A : Option Addr) (n c : Nat) (w : World) (h : CodeAt w A n c) :
    Calls Try.prog 17 #[.slice A n c] w (StrPost 61 w) := by
  have H := Lib.hid h
  clear h
  go_enter Try.func17, Try.ntmps17
  go_wp2_with fail
  refine (open_any A n c _ H.out).mono ?_
  rintro e w1 ⟨rfl, hrd1, hb1⟩
  have Hrd1 := Lib.hid hrd1
  have Hb1 := Lib.hid hb1
  have H1 := Lib.hid (H.out.below hb1)
  have hgl : w.heap.size < w1.heap.size := hrd1.lt
  clear hrd1 hb1 H
  go_wp2_with fail
  refine (DrawVarsOf_any A n c _ H1.out).mono ?_
  rintro e w2 ⟨v, xs, rfl, hown, hxl, hxr, hb2⟩
  have Hrd2 := Lib.hid (Rd.below Hrd1.out hb2)
  have Hb2 := Lib.hid (Hb1.out.trans (hb2.mono (by omega)))
  have hgl2 := Hrd2.out.lt
  have I2 := Lib.hid (IL.of_own hown rfl (rng_of hxr) (by omega))
  clear hb2 hown H1 Hb1 Hrd1 hxr
  go_wp2_with fail
  refine (specVarsOf_any v xs _ I2.out).mono ?_
  rintro e w3 ⟨rfl, hb3⟩
  have Hrd3 := Lib.hid (Rd.below Hrd2.out hb3)
  have Hb3 := Lib.hid (Hb2.out.trans (hb3.mono (by omega)))
  have hgl3 := Hrd3.out.lt
  have hsl := varsB_len hxl
  generalize strN (varsB xs) = s at *
  clear hb3 Hb2 Hrd2 I2
  go_wp2_with fail
  refine (once_any _ _ 2 _ Hrd3.out (by omega) (by omega)).mono ?_
  rintro e w4 ⟨u, rfl, ⟨b, rfl⟩, hrd4, hgr4⟩
  have Hrd4 := Lib.hid hrd4
  have Hb4 := Lib.hid (below_rd Hb3.out (by omega) hgr4 (Nat.le_refl _))
  have hgl4 := hrd4.lt
  clear hrd4 hgr4 Hb3 Hrd3
  cases b with
  | true =>
    go_wp2_with fail
    go_ret
    exact ⟨_, rfl, by omega, Hb4.out⟩
  | false =>
    go_wp2_with fail
    refine (hurt_any _ _ s _ Hrd4.out (by omega)).mono ?_
    rintro e w5 ⟨u, rfl, ⟨t, rfl, ht⟩, hrd5, hgr5⟩
    have Hb5 := Lib.hid (below_rd Hb4.out (by omega) hgr5 (Nat.le_refl _))
    clear hrd5 hgr5 Hb4 Hrd4
    go_wp2_with fail
    go_ret
    exact ⟨_, rfl, by omega, Hb5.out⟩
end Go.Proofs.Ytpnfkmhhilnglab
