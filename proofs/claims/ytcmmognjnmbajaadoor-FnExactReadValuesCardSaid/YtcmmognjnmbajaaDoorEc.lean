/- Walks: the program appends a change: within the window, and with a new one. -/
import Derived.Test.YtcmmognjnmbajaaDoorEb
import Derived.Deep.RegionHeld3
set_option linter.unusedVariables false
set_option linter.unusedSimpArgs false
namespace Go.Proofs.YtcmmognjnmbajaaDoor
open Go.RowKit

set_option maxRecDepth 100000 in
set_option maxHeartbeats 400000 in
theorem pc_in (g : Nat) (L : List Bool) (b t s V : Nat) (x : Int) (w : World) (hL : BitsV w g L) (hn : L.length + 77 ≤ 20000) (hT : Tab w) (hx : x ≠ 0) (hb : b + t ≤ 63) (hs : s = 64 - b - t)
    (hB : (decide ((b : Int) ≤ leadN x) && decide (64 - (b : Int) - (s : Int) ≤ trailN x)) = true) (hV : IntKind.u64.wrap x / 2 ^ t = (V : Int)) (hV2 : V < 2 ^ 64) :
    Calls Tryd.prog 48 #[.pointer (some ⟨g, 0, none⟩), .int .i64 x, .agg #[.int .i64 (b : Int), .int .i64 (s : Int)]] w (PCPost g ((L ++ BM.digits 2 2) ++ BM.digits V s) (.agg #[.int .i64 (b : Int), .int .i64 (s : Int)]) w) := by
  have hgl := hL.lt
  have P0 := Lib.hid (PB.start hL (b : Int) (s : Int))
  have HT := Lib.hid (hT.grown hL P0.out.k)
  have hh := Lib.hid (fun W h => holds_any (b : Int) (s : Int) x W h (by omega) (by omega) (by omega) (by omega))
  rw [hB] at hh
  have haf := Lib.hid (fun W => after_any (b : Int) (s : Int) W (by omega) (by omega) (by omega) (by omega))
  rw [show 64 - (b : Int) - (s : Int) = (t : Int) by omega] at haf
  have hp := Lib.hid (fun W h => put_bitsV g L 2 2 W h (by omega) (by omega) (by omega))
  have hq := Lib.hid (fun W h => put_bitsV g (L ++ BM.digits 2 2) V s W h (by rw [List.length_append, BM.digits_length]; omega) (by omega) hV2)
  have hx0 : (x == 0) = false := by simpa using hx
  have HV := Lib.hid hV
  have hb64 : b ≤ 64 := by omega
  have hs64 : s ≤ 64 := by omega
  have ht64 : t ≤ 64 := by omega
  clear hs hb hx hV
  clear hL hT hB hV2
  go_enter Tryd.func48, Tryd.ntmps48
  go_wp2_with fail
  refine (hh.out _ HT.out).mono ?_
  rintro e w1 ⟨rfl, hb1⟩
  have P1 := Lib.hid (P0.out.below hb1)
  clear hb1
  have c0 := P1.out.x.c0
  have c1 := P1.out.x.c1
  have cf0 := P1.out.x.f 0
  have cf1 := P1.out.x.f 1
  have r0 := P1.out.r.c0
  have r1 := P1.out.r.c1
  have rf0 := P1.out.r.f 0
  have rf1 := P1.out.r.f 1
  have clt := P1.out.r.lt
  go_wp2_with fail
  refine (hp.out _ P1.out.l).mono ?_
  rintro e w2 ⟨rfl, hl, hg⟩
  have P2 := Lib.hid (P1.out.put hgl hl hg)
  clear hl hg c0 c1 cf0 cf1 r0 r1 rf0 rf1 clt
  have c0 := P2.out.x.c0
  have c1 := P2.out.x.c1
  have cf0 := P2.out.x.f 0
  have cf1 := P2.out.x.f 1
  have r0 := P2.out.r.c0
  have r1 := P2.out.r.c1
  have rf0 := P2.out.r.f 0
  have rf1 := P2.out.r.f 1
  have clt := P2.out.r.lt
  go_wp2_with fail
  have hS0 := P2.out.drew
  clear c0 c1 cf0 cf1 r0 r1 rf0 rf1 clt P0 P1 hh hp HT
  refine wp_region_held_drew (S := fun W => WB W w.heap.size (b : Int) (s : Int)) (by kernel_rfl) hS0.x ?_
  intro hS
  refine wpAnyH_take (i := 0) (v := .pointer (some ⟨g, 0, none⟩)) rfl (by kernel_rfl) (by kernel_rfl) (by kernel_rfl) (fun _ _ _ h => h) (Or.inl ⟨by kernel_rfl, ?t0⟩) hS ?_
  case t0 =>
    intro W hW
    have x0 := WB.c0 hW
    have x1 := WB.c1 hW
    clear hW hS hS0 P2
    go_simp
  refine wpAnyH_take (i := 1) (v := .int .i64 x) rfl (by kernel_rfl) (by kernel_rfl) (by kernel_rfl) (fun _ _ _ h => h) (Or.inl ⟨by kernel_rfl, ?t1⟩) hS ?_
  case t1 =>
    intro W hW
    have x0 := WB.c0 hW
    have x1 := WB.c1 hW
    clear hW hS hS0 P2
    go_simp
  refine wpAnyH_take (i := 2) (v := .int .u64 (IntKind.u64.wrap x)) rfl (by kernel_rfl) (by kernel_rfl) (by kernel_rfl) (fun _ _ _ h => h) (Or.inl ⟨by kernel_rfl, ?t2⟩) hS ?_
  case t2 =>
    intro W hW
    have x0 := WB.c0 hW
    have x1 := WB.c1 hW
    clear hW hS hS0 P2
    go_simp
  refine wpAnyH_take (i := 3) (v := .agg #[.int .i64 (b : Int), .int .i64 (s : Int)]) rfl (by kernel_rfl) (by kernel_rfl) (by kernel_rfl) (fun _ _ _ h => h) (Or.inl ⟨by kernel_rfl, ?t3⟩) hS ?_
  case t3 =>
    intro W hW
    have x0 := WB.c0 hW
    have x1 := WB.c1 hW
    clear hW hS hS0 P2
    go_simp
  refine wpAnyH_take (i := 6) (v := .pointer (some ⟨w.heap.size, 1, none⟩)) rfl (by kernel_rfl) (by kernel_rfl) (by kernel_rfl) (fun _ _ _ h => h) (Or.inl ⟨by kernel_rfl, ?t6⟩) hS ?_
  case t6 =>
    intro W hW
    have x0 := WB.c0 hW
    have x1 := WB.c1 hW
    clear hW hS hS0 P2
    go_simp
  refine wpAnyH_take (i := 7) (v := .int .i64 (s : Int)) rfl (by kernel_rfl) (by kernel_rfl) (by kernel_rfl) (fun _ _ _ h => h) (Or.inl ⟨by kernel_rfl, ?t7⟩) hS ?_
  case t7 =>
    intro W hW
    have x0 := WB.c0 hW
    have x1 := WB.c1 hW
    clear hW hS hS0 P2
    go_simp
  refine wpAnyH_ready (rs := [4]) (by kernel_rfl) (by simp) ?_
  refine AllReadyH.cons rfl ?n4 AllReadyH.nil
  case n4 =>
    intro K hK
    refine Eq.mpr (if_pos (by kernel_rfl)) ?_
    go_simp
    refine (haf.out _).mono ?_
    rintro e w3 ⟨rfl, hb3⟩
    have P3 := hS0.below hb3
    have hS3 := P3.x
    go_simp
    refine hK.out _ _ hS3 ?_
    intro _
    refine wpAnyH_take (i := 5) (v := .int .u64 (V : Int)) rfl (by kernel_rfl) (by kernel_rfl) (by kernel_rfl) (fun _ _ _ h => h) (Or.inl ⟨by kernel_rfl, ?t5⟩) hS3 ?_
    case t5 =>
      intro W hW
      have hV : IntKind.u64.wrap x / 2 ^ (min t 64) = (V : Int) := by rw [Nat.min_eq_left (by omega)]; exact HV.out
      clear hW hS hS0 P2 hS3 hK hb3 P3
      go_simp
      try exact HV.out
    refine wpAnyH_ready (rs := [8]) (by kernel_rfl) (by simp) ?_
    refine AllReadyH.cons rfl ?n8 AllReadyH.nil
    case n8 =>
      intro K8 hK8
      refine Eq.mpr (if_pos (by kernel_rfl)) ?_
      go_simp
      refine (hq.out _ P3.l).mono ?_
      rintro e w4 ⟨rfl, hl, hg⟩
      have P4 := P3.put hgl hl hg
      go_simp
      refine hK8.out _ _ P4.x ?_
      intro _
      refine wpAnyH_done (by kernel_rfl) ?_ _
      have hfin := P4.fin (b' := (b : Int)) (s' := (s : Int)) hgl
      have r0 := P4.r.c0
      have r1 := P4.r.c1
      have rf0 := P4.r.f 0
      have rf1 := P4.r.f 1
      have c0 := P4.x.c0
      have c1 := P4.x.c1
      clear hS hS0 P2 hS3 hK hb3 P3 P4 hK8 hl hg
      go_simp
      go_wp2_with fail
      exact bodyPost_ret (v := .agg #[.int .i64 (b : Int), .int .i64 (s : Int)]) (by simp [results, Tryd.results48, go_sem, r0, r1]) rfl ⟨rfl, hfin.1, hfin.2⟩
end Go.Proofs.YtcmmognjnmbajaaDoor
