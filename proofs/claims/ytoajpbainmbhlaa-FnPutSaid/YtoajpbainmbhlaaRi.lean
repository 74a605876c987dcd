/- Walk: DrawPutBits. -/
import Derived.Test.YtoajpbainmbhlaaRg
namespace Go.Proofs.Ytoajpbainmbhlaa
open Go.RowKit

theorem wrap64_range (x : Int) : -9223372036854775808 ≤ wrap64 x ∧ wrap64 x ≤ 9223372036854775807 := by unfold wrap64; omega
theorem two_pow_ne (x : Int) (h : x < 64) : ¬ IntKind.u64.wrap (2 ^ x.toNat) = 0 := by
  have h1 : 2 ^ x.toNat ≤ 2 ^ 63 := Nat.pow_le_pow_right (by omega) (by omega)
  have h2 : 0 < 2 ^ x.toNat := Nat.pow_pos (by omega)
  have h3 : ((2 : Int) ^ x.toNat) = ((2 ^ x.toNat : Nat) : Int) := by rw [Int.natCast_pow]; rfl
  rw [h3, IntKind.wrap_u64]
  generalize 2 ^ x.toNat = q at *
  omega
/-- the reader stands in its block, the drawn bits and the result's zero value in theirs -/
def RP (w : World) (b : Nat) (s : ByteArray) (N : Int) (W : World) : Prop :=
  Rd W (w.heap.size + 1) (w.heap.size + 1) ∧ SB W b s N ∧ SB W w.heap.size ⟨#[]⟩ 0 ∧ Below w.heap.size w W
theorem RP.drew {w : World} {b : Nat} {s : ByteArray} {N : Int} {W : World} (p : RP w b s N W) : RP w b s N W.drew := ⟨p.1.drew, p.2.1.drew, p.2.2.1.drew, p.2.2.2.drew⟩
theorem RP.grown {w : World} {b : Nat} {s : ByteArray} {N : Int} {W W' : World} (p : RP w b s N W) (hb : w.heap.size + 1 < b) (hr : Rd W' (w.heap.size + 1) (w.heap.size + 1)) (hg : W.grownBy W' (some (w.heap.size + 1))) : RP w b s N W' :=
  ⟨hr, p.2.1.grown hg (by intro he; injection he with he; omega), p.2.2.1.grown hg (by simp), p.2.2.2.grown hg p.2.2.2.size (fun k hk => by injection hk with hk; omega)⟩
def RPost (w : World) (b : Nat) (s : ByteArray) (N : Int) (e : Ending) (W : World) : Prop :=
  ∃ z : Int, e = .returned (.int .i64 z) ∧ -9223372036854775808 ≤ z ∧ z ≤ 9223372036854775807 ∧ RP w b s N W
theorem num_rp {w : World} {b : Nat} {s : ByteArray} {N : Int} (hb : w.heap.size + 1 < b) (W : World) (p : RP w b s N W) :
    Calls Try.prog 57 #[.pointer (some ⟨w.heap.size + 1, 0, none⟩)] W (RPost w b s N) :=
  (num_any _ _ W p.1).mono fun _ _ ⟨_, h1, ⟨z, h2, h3, h4⟩, h5, h6⟩ => ⟨z, by rw [h1, h2], h3, h4, p.grown hb h5 h6⟩
theorem off_rp {w : World} {b : Nat} {s : ByteArray} {N : Int} (hb : w.heap.size + 1 < b) (W : World) (p : RP w b s N W) :
    Calls Try.prog 58 #[.pointer (some ⟨w.heap.size + 1, 0, none⟩), .int .i64 0, .int .i64 64] W (RPost w b s N) :=
  (off_any _ _ 0 64 W p.1 (by omega) (by omega) (by omega) (by omega)).mono fun _ _ ⟨_, h1, ⟨z, h2, h3, h4⟩, h5, h6⟩ => ⟨z, by rw [h1, h2], h3, h4, p.grown hb h5 h6⟩

set_option maxRecDepth 100000 in
set_option maxHeartbeats 2000000 in
theorem DrawPutBits_any (A : Option Addr) (n c : Nat) (w : World) (h : CodeAt w A n c) :
    Calls Try.prog 16 #[.slice A n c] w (TripPost w) := by
  have h1 := h.below (below1 w (.cells #[.string ⟨#[]⟩, .int .i64 0] 25))
  have hsb := SB.new w ⟨#[]⟩ 0
  have H1 := Lib.hid h1
  have Hsb := Lib.hid hsb
  clear h h1 hsb
  go_enter Try.func16, Try.ntmps16
  go_wp2_with fail
  refine (open_any A n c _ H1.out).mono ?_
  rintro e w1 ⟨rfl, hrd, hb1⟩
  have Hres1 := Lib.hid (Hsb.out.below hb1)
  have hf1 := (below1 w (.cells #[.string ⟨#[]⟩, .int .i64 0] 25)).trans (hb1.mono (by simp))
  rw [World.size_alloc] at hrd
  have Hrd := Lib.hid hrd
  have hz1 : w.heap.size + 1 ≤ w1.heap.size := by have := hb1.size; simpa using this
  clear hrd hb1
  go_wp2_with fail
  refine (bits_any _ _ 30 _ Hrd.out (by omega) (by omega)).mono ?_
  rintro e w2 ⟨v, rfl, ⟨s, N, rfl, hs, hN0, hN1⟩, hrd2, hgr2⟩
  have Hres2 := Lib.hid (Hres1.out.grown hgr2 (by simp))
  have hf2 := hf1.grown hgr2 (by omega) (fun k hk => by injection hk with hk; omega)
  have hz2 : w.heap.size + 1 ≤ w2.heap.size := Nat.le_trans hz1 hgr2.size
  have hlt2 : w.heap.size + 1 < w2.heap.size := Rd.lt hrd2
  have Hrd2 := Lib.hid hrd2
  have Hb2 := Lib.hid (SB.new w2 s N)
  clear hrd2 hgr2 hf1
  go_wp2_with fail
  refine (below_any _ _ 65 _ (Rd.alloc Hrd2.out _) (by omega) (by omega)).mono ?_
  rintro e w3 ⟨v, rfl, ⟨x, rfl, hx0, hx1⟩, hrd3, hgr3⟩
  have Hres3 := Lib.hid ((show SB (w2.alloc (.cells #[.string s, .int .i64 N] 25)) w.heap.size ⟨#[]⟩ 0 from (Below.heap_alloc _ _ _ (by omega)).trans Hres2.out).grown hgr3 (by simp))
  have Hb3 := Lib.hid (Hb2.out.grown hgr3 (by intro he; injection he with he; have := Rd.lt Hrd2.out; omega))
  have hf3 := (hf2.alloc (by omega) (.cells #[.string s, .int .i64 N] 25)).grown hgr3 (by simp; omega) (fun k hk => by injection hk with hk; omega)
  have hz3 : w2.heap.size + 1 ≤ w3.heap.size := by have := hgr3.size; simpa using this
  have Hrd3 := Lib.hid hrd3
  clear hrd3 hgr3 hf2
  have k0 := Hb3.out.c0
  have k1 := Hb3.out.c1
  go_wp2_with fail
  refine (once_any _ _ 20 _ Hrd3.out (by omega) (by omega)).mono ?_
  rintro e w4 ⟨v, rfl, ⟨b, rfl⟩, hrd4, hgr4⟩
  have Hres4 := Lib.hid (Hres3.out.grown hgr4 (by simp))
  have Hb4 := Lib.hid (Hb3.out.grown hgr4 (by intro he; injection he with he; have := Rd.lt Hrd2.out; omega))
  have hf4 := hf3.grown hgr4 (by omega) (fun k hk => by injection hk with hk; omega)
  have hz4 : w2.heap.size + 1 ≤ w4.heap.size := Nat.le_trans hz3 hgr4.size
  have Hrd4 := Lib.hid hrd4
  clear hrd4 hgr4 hf3 k0 k1
  have k0 := Hb4.out.c0
  have k1 := Hb4.out.c1
  have r0 := Hres4.out.c0
  have r1 := Hres4.out.c1
  have f0 := Hres4.out.f 0
  have f1 := Hres4.out.f 1
  have hlt4 : w.heap.size + 1 < w2.heap.size := Rd.lt Hrd2.out
  have HP4 := Lib.hid (show RP w w2.heap.size s N w4 from ⟨Hrd4.out, Hb4.out, Hres4.out, hf4⟩)
  have Hnum := Lib.hid (fun W => num_rp (s := s) (N := N) hlt4 W)
  have Hoff := Lib.hid (fun W => off_rp (s := s) (N := N) hlt4 W)
  clear hf4 hlt2
  cases b with
  | true =>
    go_wp2_with fail
    go_region_law (first
      | (go_simp; go_at_call 57; (refine (Hnum.out _ (by first | exact HP4.out | exact HP4.out.drew | exact RowKit.Hid.out (by assumption) | exact RP.drew (RowKit.Hid.out (by assumption)))).mono ?_); rintro e w5 ⟨y, rfl, hy0, hy1, hP5⟩; have k0 := hP5.2.1.c0; have k1 := hP5.2.1.c1; have r0 := hP5.2.2.1.c0; have r1 := hP5.2.2.1.c1; have f0 := hP5.2.2.1.f 0; have f1 := hP5.2.2.1.f 1; have HP5 := Lib.hid hP5; clear hP5)
      | (go_simp; go_at_call 58; (refine (Hoff.out _ (by first | exact HP4.out | exact HP4.out.drew | exact RowKit.Hid.out (by assumption) | exact RP.drew (RowKit.Hid.out (by assumption)))).mono ?_); rintro e w5 ⟨z, rfl, hz0', hz1', hP5⟩; have k0 := hP5.2.1.c0; have k1 := hP5.2.1.c1; have r0 := hP5.2.2.1.c0; have r1 := hP5.2.2.1.c1; have f0 := hP5.2.2.1.f 0; have f1 := hP5.2.2.1.f 1; have HP5 := Lib.hid hP5; clear hP5))
    all_goals
      have HP6 := (by assumption : RowKit.Hid (RP w w2.heap.size s N _))
      go_simp
      try go_wp2_with fail
      exact bodyPost_ret (v := .tuple #[.agg #[.string s, .int .i64 N], .int .i64 y, .int .i64 z]) (by simp [results, Try.results16, go_sem, r0, r1]) rfl
        ⟨s, N, y, z, rfl, hs, ⟨_, rfl, hN0, hN1⟩, ⟨_, rfl, hy0, hy1⟩, ⟨_, rfl, hz0', hz1'⟩, (HP6.out.2.2.2.setCell (by simp) _).setCell (by simp) _⟩
  | false =>
    go_wp2_with fail
    refine (Hnum.out _ HP4.out).mono ?_
    rintro e w5 ⟨y, rfl, hy0, hy1, hP5⟩
    clear k0 k1 r0 r1 f0 f1
    have k0 := hP5.2.1.c0
    have k1 := hP5.2.1.c1
    have r0 := hP5.2.2.1.c0
    have r1 := hP5.2.2.1.c1
    have f0 := hP5.2.2.1.f 0
    have f1 := hP5.2.2.1.f 1
    have HP5 := Lib.hid hP5
    clear hP5
    by_cases h64 : x < 64
    · have hd : decide (x < 64) = true := by simpa using h64
      have hnz := two_pow_ne x h64
      go_wp2_with fail
      have hM : -9223372036854775808 ≤ wrap64 ((IntKind.u64.wrap y).tmod (IntKind.u64.wrap (2 ^ x.toNat))) ∧ wrap64 ((IntKind.u64.wrap y).tmod (IntKind.u64.wrap (2 ^ x.toNat))) ≤ 9223372036854775807 := wrap64_range _
      generalize wrap64 ((IntKind.u64.wrap y).tmod (IntKind.u64.wrap (2 ^ x.toNat))) = M at hM ⊢
      exact bodyPost_ret (v := .tuple #[.agg #[.string s, .int .i64 N], .int .i64 M, .int .i64 x]) (by simp [results, Try.results16, go_sem, r0, r1]) rfl
        ⟨s, N, M, x, rfl, hs, ⟨_, rfl, hN0, hN1⟩, ⟨_, rfl, hM.1, hM.2⟩, ⟨_, rfl, by omega, by omega⟩, (HP5.out.2.2.2.setCell (by simp) _).setCell (by simp) _⟩
    · have hd : decide (x < 64) = false := by simpa using h64
      go_wp2_with fail
      exact bodyPost_ret (v := .tuple #[.agg #[.string s, .int .i64 N], .int .i64 y, .int .i64 x]) (by simp [results, Try.results16, go_sem, r0, r1]) rfl
        ⟨s, N, y, x, rfl, hs, ⟨_, rfl, hN0, hN1⟩, ⟨_, rfl, hy0, hy1⟩, ⟨_, rfl, by omega, by omega⟩, (HP5.out.2.2.2.setCell (by simp) _).setCell (by simp) _⟩
end Go.Proofs.Ytoajpbainmbhlaa
