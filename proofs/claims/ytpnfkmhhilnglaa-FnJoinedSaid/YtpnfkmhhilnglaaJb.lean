/- Walks: DrawJoined, DrawPart. -/
import Derived.Test.YtpnfkmhhilnglaaJa
import Derived.Test.YtpnfkmhhilnglaaRe
import Derived.Deep.RegionLaw
import Derived.Test.YtpnfkmhhilnglaaIa
set_option linter.unusedVariables false
set_option linter.unusedSimpArgs false
namespace Go.Proofs.Ytpnfkmhhilnglaa
open Go.RowKit

def TwoPost (w : World) (e : Ending) (w' : World) : Prop :=
  ∃ (s : ByteArray) (N : Int) (t : ByteArray) (M : Int), e = .returned (.tuple #[.agg #[.string s, .int .i64 N], .agg #[.string t, .int .i64 M]]) ∧ s.size ≤ 127 ∧ t.size ≤ 127 ∧ Rng N ∧ Rng M ∧ Below w.heap.size w w'
def CutPost (w : World) (e : Ending) (w' : World) : Prop :=
  ∃ (s : ByteArray) (N v k : Int), e = .returned (.tuple #[.agg #[.string s, .int .i64 N], .int .i64 v, .int .i64 k]) ∧ s.size ≤ 127 ∧ Rng N ∧ Rng v ∧ Rng k ∧ Below w.heap.size w w'

set_option maxRecDepth 100000 in
set_option maxHeartbeats 2000000 in
theorem DrawJoined_any (A : Option Addr) (n c : Nat) (w : World) (h : CodeAt w A n c) :
    Calls Try.prog 15 #[.slice A n c] w (TwoPost w) := by
  have h1 := h.below (below2 w (.cells #[.string ⟨#[]⟩, .int .i64 0] 25) (.cells #[.string ⟨#[]⟩, .int .i64 0] 25))
  have H1 := Lib.hid h1
  have HA := Lib.hid (show SB ((w.alloc (.cells #[.string ⟨#[]⟩, .int .i64 0] 25)).alloc (.cells #[.string ⟨#[]⟩, .int .i64 0] 25)) w.heap.size ⟨#[]⟩ 0 from heap_alloc2_old w _ _)
  have HB := Lib.hid (show SB ((w.alloc (.cells #[.string ⟨#[]⟩, .int .i64 0] 25)).alloc (.cells #[.string ⟨#[]⟩, .int .i64 0] 25)) (w.heap.size + 1) ⟨#[]⟩ 0 from heap_alloc2_new w _ _)
  clear h h1
  go_enter Try.func15, Try.ntmps15
  go_wp2_with fail
  refine (open_any A n c _ H1.out).mono ?_
  rintro e w1 ⟨rfl, hrd, hb1⟩
  have HA1 := Lib.hid (HA.out.below hb1)
  have HB1 := Lib.hid (HB.out.below hb1)
  have hf1 := (below2 w (.cells #[.string ⟨#[]⟩, .int .i64 0] 25) (.cells #[.string ⟨#[]⟩, .int .i64 0] 25)).trans (hb1.mono (by simp; omega))
  have e2 : ((w.alloc (.cells #[.string ⟨#[]⟩, .int .i64 0] 25)).alloc (.cells #[.string ⟨#[]⟩, .int .i64 0] 25)).heap.size = w.heap.size + 1 + 1 := by simp
  rw [e2] at hrd
  have Hrd := Lib.hid hrd
  have hz1 : w.heap.size + 2 ≤ w1.heap.size := by have := hb1.size; rw [e2] at this; omega
  clear hrd hb1 e2 HA HB H1
  go_wp2_with fail
  refine (few_any _ _ 30 _ Hrd.out (by omega) (by omega)).mono ?_
  rintro e w2 ⟨v, rfl, ⟨s, N, rfl, hs, hN0, hN1⟩, hrd2, hgr2⟩
  have HA2 := Lib.hid (HA1.out.grown hgr2 (by intro he; injection he with he; omega))
  have HB2 := Lib.hid (HB1.out.grown hgr2 (by intro he; injection he with he; omega))
  have hf2 := hf1.grown hgr2 (by omega) (fun k hk => by injection hk with hk; omega)
  have Hrd2 := Lib.hid hrd2
  have hz2 : w.heap.size + 2 ≤ w2.heap.size := Nat.le_trans hz1 hgr2.size
  clear hrd2 hgr2 hf1 HA1 HB1
  go_wp2_with fail
  have hba : Below w2.heap.size w2 (w2.alloc (.cells #[.string s, .int .i64 N] 25)) := below1 w2 _
  have HA3 := Lib.hid (HA2.out.below hba)
  have HB3 := Lib.hid (HB2.out.below hba)
  have HS3 := Lib.hid (SB.new w2 s N)
  have Hrd3 := Lib.hid (Hrd2.out.below hba)
  have hf3 := hf2.trans (hba.mono (by omega))
  have hz3 : w2.heap.size + 1 ≤ (w2.alloc (.cells #[.string s, .int .i64 N] 25)).heap.size := by simp
  have hlt := Rd.lt Hrd2.out
  clear HA2 HB2 Hrd2 hf2 hba
  generalize (w2.alloc (.cells #[.string s, .int .i64 N] 25)) = w9 at *
  have k0 := HS3.out.c0
  have k1 := HS3.out.c1
  have r0 := HA3.out.c0
  have r1 := HA3.out.c1
  have f0 := HA3.out.f 0
  have f1 := HA3.out.f 1
  have p0 := HB3.out.c0
  have p1 := HB3.out.c1
  have q0 := HB3.out.f 0
  have q1 := HB3.out.f 1
  go_region_law (first
    | (go_simp; go_at_call 45; (refine (few_any (w.heap.size + 1 + 1) (w.heap.size + 1 + 1) 30 _ (by first | exact Hrd3.out.drew | exact Hrd3.out) (by omega) (by omega)).mono ?_); rintro e w4 ⟨v, rfl, ⟨t, M, rfl, ht, hM0, hM1⟩, hrd4, hgr4⟩; have hs4 : SB w4 w2.heap.size s N := (by first | exact HS3.out.grown hgr4 (by intro he; injection he with he; omega) | exact HS3.out.drew.grown hgr4 (by intro he; injection he with he; omega)); have ha4 : SB w4 w.heap.size ⟨#[]⟩ 0 := (by first | exact HA3.out.grown hgr4 (by intro he; injection he with he; omega) | exact HA3.out.drew.grown hgr4 (by intro he; injection he with he; omega)); have hb4 : SB w4 (w.heap.size + 1) ⟨#[]⟩ 0 := (by first | exact HB3.out.grown hgr4 (by intro he; injection he with he; omega) | exact HB3.out.drew.grown hgr4 (by intro he; injection he with he; omega)); have s0 := hs4.c0; have s1 := hs4.c1; have a0 := ha4.c0; have a1 := ha4.c1; have af0 := ha4.f 0; have af1 := ha4.f 1; have b0 := hb4.c0; have b1 := hb4.c1; have bf0 := hb4.f 0; have bf1 := hb4.f 1))
  all_goals
    have hf4 : Below w.heap.size w w4 := (by first | exact hf3.grown hgr4 (by omega) (fun k hk => by injection hk with hk; omega) | exact hf3.drew.grown hgr4 (by show w.heap.size ≤ w9.heap.size; omega) (fun k hk => by injection hk with hk; omega))
    clear hrd4 hgr4 hs4 ha4 hb4
    go_wp2_with fail
    exact bodyPost_ret (v := .tuple #[.agg #[.string s, .int .i64 N], .agg #[.string t, .int .i64 M]]) (by simp [results, Try.results15, go_sem, a0, a1, b0, b1]) rfl
      ⟨s, N, t, M, rfl, hs, ht, ⟨hN0, hN1⟩, ⟨hM0, hM1⟩, (((hf4.setCell (by simp) _).setCell (by simp) _).setCell (by simp) _).setCell (by simp) _⟩

set_option maxRecDepth 100000 in
set_option maxHeartbeats 2000000 in
theorem DrawPart_any (A : Option Addr) (n c : Nat) (w : World) (h : CodeAt w A n c) :
    Calls Try.prog 18 #[.slice A n c] w (CutPost w) := by
  have h1 := h.below (below1 w (.cells #[.string ⟨#[]⟩, .int .i64 0] 25))
  have hsb := SB.new w ⟨#[]⟩ 0
  have H1 := Lib.hid h1
  have Hsb := Lib.hid hsb
  clear h h1 hsb
  go_enter Try.func18, Try.ntmps18
  go_wp2_with fail
  refine (open_any A n c _ H1.out).mono ?_
  rintro e w1 ⟨rfl, hrd, hb1⟩
  have Hres1 := Lib.hid (Hsb.out.below hb1)
  have hf1 := (below1 w (.cells #[.string ⟨#[]⟩, .int .i64 0] 25)).trans (hb1.mono (by simp))
  rw [World.size_alloc] at hrd
  have Hrd := Lib.hid hrd
  have hz1 : w.heap.size + 1 ≤ w1.heap.size := by have := hb1.size; simpa using this
  clear hrd hb1
  go_wp2_with fail
  refine (few_any _ _ 50 _ Hrd.out (by omega) (by omega)).mono ?_
  rintro e w2 ⟨v, rfl, ⟨s, N, rfl, hs, hN0, hN1⟩, hrd2, hgr2⟩
  have Hres2 := Lib.hid (Hres1.out.grown hgr2 (by simp))
  have hf2 := hf1.grown hgr2 (by omega) (fun k hk => by injection hk with hk; omega)
  have hz2 : w.heap.size + 1 ≤ w2.heap.size := Nat.le_trans hz1 hgr2.size
  have hlt2 : w.heap.size + 1 < w2.heap.size := Rd.lt hrd2
  have Hrd2 := Lib.hid hrd2
  have Hb2 := Lib.hid (SB.new w2 s N)
  clear hrd2 hgr2 hf1
  go_wp2_with fail
  refine (off_any (w.heap.size + 1) (w.heap.size + 1) 0 N _ (Rd.alloc Hrd2.out _) (by omega) (by omega) (by omega) (by omega)).mono ?_
  rintro e w3 ⟨v, rfl, ⟨x, rfl, hx0, hx1⟩, hrd3, hgr3⟩
  have Hres3 := Lib.hid ((show SB (w2.alloc (.cells #[.string s, .int .i64 N] 25)) w.heap.size ⟨#[]⟩ 0 from (Below.heap_alloc _ _ _ (by omega)).trans Hres2.out).grown hgr3 (by simp))
  have Hb3 := Lib.hid (Hb2.out.grown hgr3 (by intro he; injection he with he; have := Rd.lt Hrd2.out; omega))
  have hf3 := (hf2.alloc (by omega) (.cells #[.string s, .int .i64 N] 25)).grown hgr3 (by simp; omega) (fun k hk => by injection hk with hk; omega)
  have hz3 : w2.heap.size + 1 ≤ w3.heap.size := by have := hgr3.size; simpa using this
  have Hrd3 := Lib.hid hrd3
  clear hrd3 hgr3 hf2
  have k0 := Hb3.out.c0
  have k1 := Hb3.out.c1
  go_wp2_with fail
  have r0 := Hres3.out.c0
  have r1 := Hres3.out.c1
  have f0 := Hres3.out.f 0
  have f1 := Hres3.out.f 1
  go_region_law (first
    | (go_simp; go_at_call 53; (refine (off_any (w.heap.size + 1) (w.heap.size + 1) 0 N _ (by first | exact Hrd3.out.drew | exact Hrd3.out) (by omega) (by omega) (by omega) (by omega)).mono ?_); rintro e w4 ⟨v, rfl, ⟨z, rfl, hz0', hz1'⟩, hrd4, hgr4⟩; have hb4 : SB w4 w2.heap.size s N := (by first | exact Hb3.out.grown hgr4 (by intro he; injection he with he; omega) | exact Hb3.out.drew.grown hgr4 (by intro he; injection he with he; omega)); have hr4 : SB w4 w.heap.size ⟨#[]⟩ 0 := (by first | exact Hres3.out.grown hgr4 (by simp) | exact Hres3.out.drew.grown hgr4 (by simp)); have q0 := hb4.c0; have q1 := hb4.c1; have s0 := hr4.c0; have s1 := hr4.c1; have g0 := hr4.f 0; have g1 := hr4.f 1))
  all_goals
    have hf4 : Below w.heap.size w w4 := (by first | exact hf3.grown hgr4 (by omega) (fun k hk => by injection hk with hk; omega) | exact hf3.drew.grown hgr4 (by show w.heap.size ≤ w3.heap.size; omega) (fun k hk => by injection hk with hk; omega))
    clear hrd4 hgr4 hb4 hr4
    go_wp2_with fail
    exact bodyPost_ret (v := .tuple #[.agg #[.string s, .int .i64 N], .int .i64 x, .int .i64 z]) (by simp [results, Try.results18, go_sem, s0, s1]) rfl
      ⟨s, N, x, z, rfl, hs, ⟨hN0, hN1⟩, ⟨hx0, hx1⟩, ⟨hz0', hz1'⟩, (hf4.setCell (by simp) _).setCell (by simp) _⟩
end Go.Proofs.Ytpnfkmhhilnglaa
