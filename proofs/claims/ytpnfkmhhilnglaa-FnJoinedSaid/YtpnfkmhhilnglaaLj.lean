/- The walk of the law FnExactJoined. -/
import Derived.Test.YtpnfkmhhilnglaaWt
import Derived.Test.YtpnfkmhhilnglaaLc
import Derived.Test.YtpnfkmhhilnglaaRe
import Derived.OpenShut
set_option linter.unusedVariables false
set_option linter.unusedSimpArgs false
namespace Go.Proofs.Ytpnfkmhhilnglaa
open Go.RowKit

theorem SB.new_drew (w : World) (s : ByteArray) (N : Int) : SB (w.drew.alloc (.cells #[.string s, .int .i64 N] 25)) w.heap.size s N := SB.new w.drew s N
/-- a law's own struct variable -/
def LB (w : World) (g : Nat) (s : ByteArray) (N : Int) : Prop := w.heap[g]? = some (.cells #[.string s, .int .i64 N] 33 (0, 0))
theorem LB.lt {w : World} {g : Nat} {s : ByteArray} {N : Int} (h : LB w g s N) : g < w.heap.size := (Array.getElem?_eq_some_iff.1 h).1
theorem LB.c0 {w : World} {g : Nat} {s : ByteArray} {N : Int} (h : LB w g s N) : w.cell? ⟨g, 0, none⟩ = some (.string s) := by rw [cell_of_row w g 0 _ _ _ h]; rfl
theorem LB.c1 {w : World} {g : Nat} {s : ByteArray} {N : Int} (h : LB w g s N) : w.cell? ⟨g, 1, none⟩ = some (.int .i64 N) := by rw [cell_of_row w g 1 _ _ _ h]; rfl
theorem LB.below {w w' : World} {g : Nat} {s : ByteArray} {N : Int} (h : LB w g s N) (hb : Below w.heap.size w w') : LB w' g s N := (hb.block g h.lt).trans h
/-- the law's two struct variables -/
structure P2 (w W : World) (s : ByteArray) (N : Int) (t : ByteArray) (M : Int) : Prop where
  a : LB W w.heap.size s N
  b : LB W (w.heap.size + 1) t M
  f : Below w.heap.size w W
theorem P2.z {w W : World} {s : ByteArray} {N : Int} {t : ByteArray} {M : Int} (p : P2 w W s N t M) : w.heap.size + 1 < W.heap.size := p.b.lt
theorem P2.drew {w W : World} {s : ByteArray} {N : Int} {t : ByteArray} {M : Int} (p : P2 w W s N t M) : P2 w W.drew s N t M := ⟨p.a, p.b, p.f.drew⟩
theorem P2.below {w W W' : World} {s : ByteArray} {N : Int} {t : ByteArray} {M : Int} (p : P2 w W s N t M) (k : Below W.heap.size W W') : P2 w W' s N t M :=
  ⟨p.a.below k, p.b.below k, p.f.trans (k.mono p.f.size)⟩
theorem P2.start (w : World) (s : ByteArray) (N : Int) (t : ByteArray) (M : Int) : P2 w ((w.alloc (.cells #[.string s, .int .i64 N] 33)).alloc (.cells #[.string t, .int .i64 M] 33)) s N t M :=
  ⟨heap_alloc2_old _ _ _, heap_alloc2_new _ _ _, below2 w _ _⟩

theorem SB.store {W : World} {g : Nat} {s R : ByteArray} {N K : Int} (h : SB W g s N) : SB ((W.setCell ⟨g, 0, none⟩ (.string R)).setCell ⟨g, 1, none⟩ (.int .i64 K)) g R K := by
  unfold SB at h ⊢
  rw [heap_setCell_same _ g 1 _ _ _ (heap_setCell_same _ g 0 _ _ _ h)]
  rfl
theorem P2.store {w W : World} {s : ByteArray} {N : Int} {t : ByteArray} {M : Int} (p : P2 w W s N t M) (g : Nat) (hg : w.heap.size + 2 ≤ g) (u v : Value) : P2 w ((W.setCell ⟨g, 0, none⟩ u).setCell ⟨g, 1, none⟩ v) s N t M :=
  ⟨(Below.heap_setCell _ _ _ _ (by simp; omega)).trans ((Below.heap_setCell _ _ _ _ (by simp; omega)).trans p.a), (Below.heap_setCell _ _ _ _ (by simp; omega)).trans ((Below.heap_setCell _ _ _ _ (by simp; omega)).trans p.b), (p.f.setCell (by simp; omega) _).setCell (by simp; omega) _⟩
/-- the law's struct variables, with the model's result -/
structure P3 (w W : World) (s : ByteArray) (N : Int) (t : ByteArray) (M : Int) (g : Nat) (R : ByteArray) (K : Int) : Prop where
  p : P2 w W s N t M
  q : SB W g R K
  z : w.heap.size + 2 ≤ g
theorem P3.drew {w W : World} {s t R : ByteArray} {N M K : Int} {g : Nat} (p : P3 w W s N t M g R K) : P3 w W.drew s N t M g R K := ⟨p.p.drew, p.q, p.z⟩
theorem P3.below {w W W' : World} {s t R : ByteArray} {N M K : Int} {g : Nat} (p : P3 w W s N t M g R K) (k : Below W.heap.size W W') : P3 w W' s N t M g R K := ⟨p.p.below k, p.q.below k, p.z⟩

theorem P3.store {w W : World} {s t R : ByteArray} {N M K : Int} {g0 : Nat} (p : P3 w W s N t M g0 R K) (g : Nat) (hg : w.heap.size + 2 ≤ g) (hne : g ≠ g0) (u v : Value) : P3 w ((W.setCell ⟨g, 0, none⟩ u).setCell ⟨g, 1, none⟩ v) s N t M g0 R K :=
  ⟨p.p.store g hg u v, (Below.heap_setCell _ _ _ _ (by simp; omega)).trans ((Below.heap_setCell _ _ _ _ (by simp; omega)).trans p.q), p.z⟩

set_option maxRecDepth 100000 in
set_option maxHeartbeats 12000000 in
theorem walkFnExactJoined (s : ByteArray) (N : Int) (t : ByteArray) (M : Int) (w : World) (hs : s.size ≤ maxLen) (_wn : (Lit.int .i64 N).wf = true) (ht : t.size ≤ maxLen) (_wm : (Lit.int .i64 M).wf = true) :
    Calls Try.prog 4 #[.agg #[.string s, .int .i64 N], .agg #[.string t, .int .i64 M]] w fun e w' => e = .returned (.bool true) ∧ Below w.heap.size w w' := by
  have HP := Lib.hid (P2.start w s N t M)
  have hsz := fun W => szBits_any s N 1048576 W (by omega) (by omega) hs
  by_cases hbig : (1048576 : Int) < s.size
  · rw [if_pos hbig] at hsz
    have Hsz := Lib.hid hsz
    clear hsz
    go_enter Try.func4, Try.ntmps4
    go_wp2_with fail
    refine (Hsz.out _).mono ?_
    rintro e w1 ⟨rfl, hb1⟩
    have H1 := Lib.hid (HP.out.below hb1)
    clear hb1
    go_wp2_with fail
    go_ret
    exact ⟨rfl, H1.out.f⟩
  · rw [if_neg hbig] at hsz
    have Hsz := Lib.hid hsz
    have hA : (0 : Int) ≤ 1048576 - s.size := by omega
    have hA2 : decide ((1048576 : Int) - s.size < 0) = false := by simp; omega
    have hsz2 := fun W => szBits_any t M (1048576 - s.size) W (by omega) (by omega) ht
    clear hsz
    by_cases hbig2 : (1048576 : Int) - s.size < t.size
    · rw [if_pos hbig2] at hsz2
      have Hsz2 := Lib.hid hsz2
      clear hsz2
      go_enter Try.func4, Try.ntmps4
      go_wp2_with fail
      refine (Hsz.out _).mono ?_
      rintro e w1 ⟨rfl, hb1⟩
      have H1 := Lib.hid (HP.out.below hb1)
      have x0 := H1.out.b.c0
      have x1 := H1.out.b.c1
      clear hb1
      go_wp2_with fail
      refine (Hsz2.out _).mono ?_
      rintro e w2 ⟨rfl, hb2⟩
      have H2 := Lib.hid (H1.out.below hb2)
      clear hb2 x0 x1
      go_wp2_with fail
      go_ret
      exact ⟨rfl, H2.out.f⟩
    · rw [if_neg hbig2] at hsz2
      have Hsz2 := Lib.hid hsz2
      have hB2 : decide ((1048576 : Int) - s.size - t.size < 0) = false := by simp; omega
      clear hsz2
      have hsp := fun W => specJoined_any s N t M W hs ht
      have him := fun W => implJoined_any s N t M W hs ht
      generalize joinS s N t M = R at *
      generalize joinN s N t M = K at *
      generalize joinB s N t M = B at *
      have Hsp := Lib.hid hsp
      have Him := Lib.hid him
      clear hsp him
      go_enter Try.func4, Try.ntmps4
      go_wp2_with fail
      refine (Hsz.out _).mono ?_
      rintro e w1 ⟨rfl, hb1⟩
      have H1 := Lib.hid (HP.out.below hb1)
      have x0 := H1.out.b.c0
      have x1 := H1.out.b.c1
      clear hb1
      go_wp2_with fail
      refine (Hsz2.out _).mono ?_
      rintro e w2 ⟨rfl, hb2⟩
      have H2 := Lib.hid (H1.out.below hb2)
      clear hb2 x0 x1
      have x0 := H2.out.a.c0
      have x1 := H2.out.a.c1
      have y0 := H2.out.b.c0
      have y1 := H2.out.b.c1
      have hz := H2.out.z
      have hz' := H2.out.a.lt
      go_wp2_with fail
      rename_i K' hK'
      refine (fun (hk : ∀ W g, P3 w W s N t M g R K → K' { tmps := #[.agg #[.string s, .int .i64 N], .agg #[.string t, .int .i64 M], .pointer (some ⟨w.heap.size, 0, none⟩), .pointer (some ⟨w.heap.size + 1, 0, none⟩), .bool false, .int .i64 (1048576 - s.size - t.size), .pointer (some ⟨g, 0, none⟩), .bool B, undef, undef, .agg #[.string s, .int .i64 N], .int .i64 1048576, .int .i64 (1048576 - s.size), .int .i64 (1048576 - s.size), .bool false, .agg #[.string t, .int .i64 M], .int .i64 (1048576 - s.size), .int .i64 (1048576 - s.size - t.size), .int .i64 (1048576 - s.size - t.size), .bool false, .tuple #[.agg #[.string R, .int .i64 K], .bool B], .agg #[.string s, .int .i64 N], .agg #[.string s, .int .i64 N], .agg #[.string t, .int .i64 M], .agg #[.string t, .int .i64 M], .tuple #[.agg #[.string R, .int .i64 K], .bool B], .agg #[.string R, .int .i64 K], .bool B, undef, undef, undef, undef, undef, undef, undef, undef, undef, undef, undef, undef, undef, undef, undef, undef, undef], defers := [] } W) => ?main) ?rest
      case main =>
        clear hK'
        go_region_law (first
          | (go_simp; go_at_call 22; (refine (toBits_any _ _ _).mono ?_); rintro e w3 ⟨rfl, hb3⟩; have x0 := (P2.below (by first | exact H2.out | exact H2.out.drew | exact RowKit.Hid.out (by assumption) | exact P2.drew (RowKit.Hid.out (by assumption)) | exact P2.below (RowKit.Hid.out (by assumption)) (below1 _ _) | exact P2.below (P2.drew (RowKit.Hid.out (by assumption))) (below1 _ _)) hb3); have H3 := Lib.hid x0; have x1 := H3.out.a.c0; have x2 := H3.out.a.c1; have y0 := H3.out.b.c0; have y1 := H3.out.b.c1; have hz := H3.out.z; have hz' := H3.out.a.lt; clear x0; first | (have hbx : SB w3 w2.heap.size ⟨#[]⟩ 0 := SB.below (SB.new_drew w2 ⟨#[]⟩ 0) hb3; have z0 := hbx.c0; have z1 := hbx.c1; have zf0 := hbx.f 0; have zf1 := hbx.f 1; have HBX := Lib.hid hbx; clear hbx) | (have hbx := SB.below (SB.new _ ⟨#[]⟩ 0) hb3; have z0 := hbx.c0; have z1 := hbx.c1; have zf0 := hbx.f 0; have zf1 := hbx.f 1; have HBX := Lib.hid hbx; clear hbx) | (have hbx := SB.below (RowKit.Hid.out (by assumption : RowKit.Hid (SB _ _ ⟨#[]⟩ 0))) hb3; have z0 := hbx.c0; have z1 := hbx.c1; have zf0 := hbx.f 0; have zf1 := hbx.f 1; have HBX := Lib.hid hbx; clear hbx) | skip)
          | (go_simp; go_at_call 17; (refine (Hsp.out _).mono ?_); rintro e w3 ⟨rfl, hb3⟩; have x0 := (P2.below (by first | exact H2.out | exact H2.out.drew | exact RowKit.Hid.out (by assumption) | exact P2.drew (RowKit.Hid.out (by assumption)) | exact P2.below (RowKit.Hid.out (by assumption)) (below1 _ _) | exact P2.below (P2.drew (RowKit.Hid.out (by assumption))) (below1 _ _)) hb3); have H3 := Lib.hid x0; have x1 := H3.out.a.c0; have x2 := H3.out.a.c1; have y0 := H3.out.b.c0; have y1 := H3.out.b.c1; have hz := H3.out.z; have hz' := H3.out.a.lt; clear x0; first | (have hbx : SB w3 w2.heap.size ⟨#[]⟩ 0 := SB.below (SB.new_drew w2 ⟨#[]⟩ 0) hb3; have z0 := hbx.c0; have z1 := hbx.c1; have zf0 := hbx.f 0; have zf1 := hbx.f 1; have HBX := Lib.hid hbx; clear hbx) | (have hbx := SB.below (SB.new _ ⟨#[]⟩ 0) hb3; have z0 := hbx.c0; have z1 := hbx.c1; have zf0 := hbx.f 0; have zf1 := hbx.f 1; have HBX := Lib.hid hbx; clear hbx) | (have hbx := SB.below (RowKit.Hid.out (by assumption : RowKit.Hid (SB _ _ ⟨#[]⟩ 0))) hb3; have z0 := hbx.c0; have z1 := hbx.c1; have zf0 := hbx.f 0; have zf1 := hbx.f 1; have HBX := Lib.hid hbx; clear hbx) | skip))
        all_goals
          go_simp
          first
          | (have hbx := RowKit.Hid.out (by assumption : RowKit.Hid (SB w3 _ ⟨#[]⟩ 0)); exact hk _ _ ⟨P2.store (RowKit.Hid.out (by assumption)) _ (by omega) _ _, SB.store hbx, by omega⟩)
          | exact hk _ _ ⟨P2.below (RowKit.Hid.out (by assumption)) (below1 _ _), SB.new _ _ _, by omega⟩
      case rest =>
        intro w5 g h5
        refine hK' _ _ ?_
        clear hK' K' x0 x1 y0 y1 hz hz' H2 H1 HP
        have H5 := Lib.hid h5
        have x0 := h5.p.a.c0
        have x1 := h5.p.a.c1
        have y0 := h5.p.b.c0
        have y1 := h5.p.b.c1
        have v0 := h5.q.c0
        have v1 := h5.q.c1
        have hz := h5.p.z
        have hz' := h5.p.a.lt
        have hzg := h5.q.lt
        have hzz := h5.z
        clear h5
        go_wp2_with fail
        rename_i K' hK'
        refine (fun (hk : ∀ W g2, P3 w W s N t M g R K → SB W g2 R K → K' { tmps := #[.agg #[.string s, .int .i64 N], .agg #[.string t, .int .i64 M], .pointer (some ⟨w.heap.size, 0, none⟩), .pointer (some ⟨w.heap.size + 1, 0, none⟩), .bool false, .int .i64 (1048576 - s.size - t.size), .pointer (some ⟨g, 0, none⟩), .bool B, .pointer (some ⟨g2, 0, none⟩), .bool B, .agg #[.string s, .int .i64 N], .int .i64 1048576, .int .i64 (1048576 - s.size), .int .i64 (1048576 - s.size), .bool false, .agg #[.string t, .int .i64 M], .int .i64 (1048576 - s.size), .int .i64 (1048576 - s.size - t.size), .int .i64 (1048576 - s.size - t.size), .bool false, .tuple #[.agg #[.string R, .int .i64 K], .bool B], .agg #[.string s, .int .i64 N], .agg #[.string s, .int .i64 N], .agg #[.string t, .int .i64 M], .agg #[.string t, .int .i64 M], .tuple #[.agg #[.string R, .int .i64 K], .bool B], .agg #[.string R, .int .i64 K], .bool B, .tuple #[.agg #[.string R, .int .i64 K], .bool B], .agg #[.string s, .int .i64 N], .agg #[.string s, .int .i64 N], .agg #[.string t, .int .i64 M], .agg #[.string t, .int .i64 M], .tuple #[.agg #[.string R, .int .i64 K], .bool B], .agg #[.string R, .int .i64 K], .bool B, undef, undef, undef, undef, undef, undef, undef, undef, undef], defers := [] } W) => ?main2) ?rest2
        case main2 =>
          clear hK'
          go_region_law (first
            | (go_simp; go_at_call 22; (refine (toBits_any _ _ _).mono ?_); rintro e w3 ⟨rfl, hb3⟩; have x0 := (P3.below (by first | exact H5.out | exact H5.out.drew | exact RowKit.Hid.out (by assumption) | exact P3.drew (RowKit.Hid.out (by assumption)) | exact P3.below (RowKit.Hid.out (by assumption)) (below1 _ _) | exact P3.below (P3.drew (RowKit.Hid.out (by assumption))) (below1 _ _)) hb3); have H3 := Lib.hid x0; have x1 := H3.out.p.a.c0; have x2 := H3.out.p.a.c1; have y0 := H3.out.p.b.c0; have y1 := H3.out.p.b.c1; have hz := H3.out.p.z; have hz' := H3.out.p.a.lt; have hzg := H3.out.q.lt; have hzz := H3.out.z; have v0 := H3.out.q.c0; have v1 := H3.out.q.c1; clear x0; first | (have hbx : SB w3 w5.heap.size ⟨#[]⟩ 0 := SB.below (SB.new_drew w5 ⟨#[]⟩ 0) hb3; have z0 := hbx.c0; have z1 := hbx.c1; have zf0 := hbx.f 0; have zf1 := hbx.f 1; have HBX := Lib.hid hbx; clear hbx) | (have hbx := SB.below (SB.new _ ⟨#[]⟩ 0) hb3; have z0 := hbx.c0; have z1 := hbx.c1; have zf0 := hbx.f 0; have zf1 := hbx.f 1; have HBX := Lib.hid hbx; clear hbx) | (have hbx := SB.below (RowKit.Hid.out (by assumption : RowKit.Hid (SB _ _ ⟨#[]⟩ 0))) hb3; have z0 := hbx.c0; have z1 := hbx.c1; have zf0 := hbx.f 0; have zf1 := hbx.f 1; have HBX := Lib.hid hbx; clear hbx) | skip)
            | (go_simp; go_at_call 16; (refine (Him.out _).mono ?_); rintro e w3 ⟨rfl, hb3⟩; have x0 := (P3.below (by first | exact H5.out | exact H5.out.drew | exact RowKit.Hid.out (by assumption) | exact P3.drew (RowKit.Hid.out (by assumption)) | exact P3.below (RowKit.Hid.out (by assumption)) (below1 _ _) | exact P3.below (P3.drew (RowKit.Hid.out (by assumption))) (below1 _ _)) hb3); have H3 := Lib.hid x0; have x1 := H3.out.p.a.c0; have x2 := H3.out.p.a.c1; have y0 := H3.out.p.b.c0; have y1 := H3.out.p.b.c1; have hz := H3.out.p.z; have hz' := H3.out.p.a.lt; have hzg := H3.out.q.lt; have hzz := H3.out.z; have v0 := H3.out.q.c0; have v1 := H3.out.q.c1; clear x0; first | (have hbx : SB w3 w5.heap.size ⟨#[]⟩ 0 := SB.below (SB.new_drew w5 ⟨#[]⟩ 0) hb3; have z0 := hbx.c0; have z1 := hbx.c1; have zf0 := hbx.f 0; have zf1 := hbx.f 1; have HBX := Lib.hid hbx; clear hbx) | (have hbx := SB.below (SB.new _ ⟨#[]⟩ 0) hb3; have z0 := hbx.c0; have z1 := hbx.c1; have zf0 := hbx.f 0; have zf1 := hbx.f 1; have HBX := Lib.hid hbx; clear hbx) | (have hbx := SB.below (RowKit.Hid.out (by assumption : RowKit.Hid (SB _ _ ⟨#[]⟩ 0))) hb3; have z0 := hbx.c0; have z1 := hbx.c1; have zf0 := hbx.f 0; have zf1 := hbx.f 1; have HBX := Lib.hid hbx; clear hbx) | skip))
          all_goals
            go_simp
            first
            | (have hbx := RowKit.Hid.out (by assumption : RowKit.Hid (SB w3 _ ⟨#[]⟩ 0)); exact hk _ _ (P3.store (RowKit.Hid.out (by assumption)) _ (by omega) (by omega) _ _) (SB.store hbx))
            | exact hk _ _ (P3.below (RowKit.Hid.out (by assumption)) (below1 _ _)) (SB.new _ _ _)
        case rest2 =>
          intro w6 g2 h6 hg2
          refine hK' _ _ ?_
          clear hK' K' x0 x1 y0 y1 v0 v1 hz hz' hzg hzz H5
          have v0 := h6.q.c0
          have v1 := h6.q.c1
          have u0 := hg2.c0
          have u1 := hg2.c1
          have H6 := Lib.hid h6
          clear h6 hg2
          go_wp2_with fail
          refine (eqBits_same _ _ _).mono ?_
          rintro e w7 ⟨rfl, hb7⟩
          have H7 := Lib.hid (H6.out.below hb7)
          clear hb7 v0 v1 u0 u1
          go_wp2_with fail
          go_ret
          exact ⟨rfl, H7.out.p.f⟩
end Go.Proofs.Ytpnfkmhhilnglaa
