/- Walks: the program appends a change: with a new window. -/
import Derived.Test.YtldjeacpkndcbaaDoorEc
import Derived.Deep.RegionHeld3
import Derived.Test.YtldjeacpkndcbaaDoorIb
set_option linter.unusedVariables false
set_option linter.unusedSimpArgs false
namespace Go.Proofs.YtldjeacpkndcbaaDoor
open Go.RowKit

set_option maxRecDepth 100000 in
set_option maxHeartbeats 1000000 in
theorem pc_new (g : Nat) (L : List Bool) (b0 s0 : Int) (b t s V : Nat) (x : Int) (w : World) (hL : BitsV w g L) (hn : L.length + 77 ≤ 20000) (hT : Tab w) (hx : x ≠ 0) (hx0 : -9223372036854775808 ≤ x) (hx1 : x ≤ 9223372036854775807)
    (hb0 : 0 ≤ b0 ∧ b0 ≤ 64 ∧ 0 ≤ s0 ∧ s0 ≤ 64) (hb : b + t ≤ 63) (hb31 : b ≤ 31) (hs : s = 64 - b - t) (hwv : wv (min 31 (leadK x)) (trailK x) = .agg #[.int .i64 (b : Int), .int .i64 (s : Int)])
    (hB : (decide (b0 ≤ leadN x) && decide (64 - b0 - s0 ≤ trailN x)) = false) (hV : IntKind.u64.wrap x / 2 ^ t = (V : Int)) (hV2 : V < 2 ^ 64) :
    Calls Tryd.prog 48 #[.pointer (some ⟨g, 0, none⟩), .int .i64 x, .agg #[.int .i64 b0, .int .i64 s0]] w (PCPost g ((((L ++ BM.digits 3 2) ++ BM.digits b 5) ++ BM.digits (s - 1) 6) ++ BM.digits V s) (.agg #[.int .i64 (b : Int), .int .i64 (s : Int)]) w) := by
  have hgl := hL.lt
  have P0 := Lib.hid (PB.start hL b0 s0)
  have HTw := Lib.hid hT
  have HLw := Lib.hid hL
  have hh := Lib.hid (fun W h => holds_any b0 s0 x W h hb0.1 hb0.2.1 hb0.2.2.1 hb0.2.2.2)
  rw [hB] at hh
  have hwo := Lib.hid (fun W h => windowOf_any x W h hx hx0 hx1)
  rw [hwv] at hwo
  have haf := Lib.hid (fun W => after_any (b : Int) (s : Int) W (by omega) (by omega) (by omega) (by omega))
  rw [show 64 - (b : Int) - (s : Int) = (t : Int) by omega] at haf
  have hp := Lib.hid (fun W h => put_bitsV g L 3 2 W h (by omega) (by omega) (by omega))
  have hp2 := Lib.hid (fun W h => put_bitsV g (L ++ BM.digits 3 2) b 5 W h (by rw [List.length_append, BM.digits_length]; omega) (by omega) (by omega))
  have hp3 := Lib.hid (fun W h => put_bitsV g ((L ++ BM.digits 3 2) ++ BM.digits b 5) (s - 1) 6 W h (by rw [List.length_append, List.length_append, BM.digits_length, BM.digits_length]; omega) (by omega) (by omega))
  have hq := Lib.hid (fun W h => put_bitsV g (((L ++ BM.digits 3 2) ++ BM.digits b 5) ++ BM.digits (s - 1) 6) V s W h (by rw [List.length_append, List.length_append, List.length_append, BM.digits_length, BM.digits_length, BM.digits_length]; omega) (by omega) hV2)
  have hxz : (x == 0) = false := by simpa using hx
  have HV := Lib.hid hV
  have hb64 : b ≤ 64 := by omega
  have hs64 : s ≤ 64 := by omega
  have ht64 : t ≤ 64 := by omega
  have hs1 : 1 ≤ s := by omega
  have hw1 : IntKind.u64.wrap (b : Int) = (b : Int) := by rw [IntKind.wrap_u64]; omega
  have hw2 : IntKind.u64.wrap ((s : Int) - 1) = ((s - 1 : Nat) : Int) := by rw [IntKind.wrap_u64]; omega
  clear hs hb hx hV hL hT hB hV2 hb0 hwv hx0 hx1
  go_enter Tryd.func48, Tryd.ntmps48
  go_wp2_with fail
  refine (hh.out _ (HTw.out.grown HLw.out P0.out.k)).mono ?_
  rintro e w1 ⟨rfl, hb1⟩
  have P1 := Lib.hid (P0.out.below hb1)
  clear hb1
  have c0 := P1.out.x.c0
  have c1 := P1.out.x.c1
  have cf0 := P1.out.x.f 0
  have cf1 := P1.out.x.f 1
  have r0 := P1.out.r.c0
  have r1 := P1.out.r.c1
  have rf0 := P1.out.r.f 0
  have rf1 := P1.out.r.f 1
  have clt := P1.out.r.lt
  go_wp2_with fail
  refine (hwo.out _ (HTw.out.grown HLw.out P1.out.k)).mono ?_
  rintro e w2 ⟨rfl, hb2⟩
  have P2 := Lib.hid (P1.out.below hb2)
  clear hb2
  clear c0 c1 cf0 cf1 r0 r1 rf0 rf1 clt
  have c0 := P2.out.x.c0
  have c1 := P2.out.x.c1
  have cf0 := P2.out.x.f 0
  have cf1 := P2.out.x.f 1
  have r0 := P2.out.r.c0
  have r1 := P2.out.r.c1
  have rf0 := P2.out.r.f 0
  have rf1 := P2.out.r.f 1
  have clt := P2.out.r.lt
  have P2s := Lib.hid (P2.out.set (b' := (b : Int)) (s' := (s : Int)) hgl)
  go_wp2_with fail
  refine (hp.out _ P2s.out.l).mono ?_
  rintro e w3 ⟨rfl, hl, hg⟩
  have P3 := Lib.hid (P2s.out.put hgl hl hg)
  clear hl hg P2s
  clear c0 c1 cf0 cf1 r0 r1 rf0 rf1 clt
  have c0 := P3.out.x.c0
  have c1 := P3.out.x.c1
  have cf0 := P3.out.x.f 0
  have cf1 := P3.out.x.f 1
  have r0 := P3.out.r.c0
  have r1 := P3.out.r.c1
  have rf0 := P3.out.r.f 0
  have rf1 := P3.out.r.f 1
  have clt := P3.out.r.lt
  go_wp2_with fail
  refine (hp2.out _ P3.out.l).mono ?_
  rintro e w4 ⟨rfl, hl, hg⟩
  have P4 := Lib.hid (P3.out.put hgl hl hg)
  clear hl hg
  clear c0 c1 cf0 cf1 r0 r1 rf0 rf1 clt
  have c0 := P4.out.x.c0
  have c1 := P4.out.x.c1
  have cf0 := P4.out.x.f 0
  have cf1 := P4.out.x.f 1
  have r0 := P4.out.r.c0
  have r1 := P4.out.r.c1
  have rf0 := P4.out.r.f 0
  have rf1 := P4.out.r.f 1
  have clt := P4.out.r.lt
  go_wp2_with fail
  refine (hp3.out _ P4.out.l).mono ?_
  rintro e w5 ⟨rfl, hl, hg⟩
  have P5 := Lib.hid (P4.out.put hgl hl hg)
  clear hl hg
  clear c0 c1 cf0 cf1 r0 r1 rf0 rf1 clt
  have c0 := P5.out.x.c0
  have c1 := P5.out.x.c1
  have cf0 := P5.out.x.f 0
  have cf1 := P5.out.x.f 1
  have r0 := P5.out.r.c0
  have r1 := P5.out.r.c1
  have rf0 := P5.out.r.f 0
  have rf1 := P5.out.r.f 1
  have clt := P5.out.r.lt
  go_wp2_with fail
  have hS0 := P5.out.drew
  clear c0 c1 cf0 cf1 r0 r1 rf0 rf1 clt P0 P1 P2 P3 P4 hh hp hp2 hp3 HTw HLw hwo hw1 hw2
  refine wp_region_held_drew (S := fun W => WB W w.heap.size (b : Int) (s : Int)) (by kernel_rfl) hS0.x ?_
  intro hS
  refine wpAnyH_take (i := 0) (v := .pointer (some ⟨g, 0, none⟩)) rfl (by kernel_rfl) (by kernel_rfl) (by kernel_rfl) (fun _ _ _ h => h) (Or.inl ⟨by kernel_rfl, ?t0⟩) hS ?_
  case t0 =>
    intro W hW
    have x0 := WB.c0 hW
    have x1 := WB.c1 hW
    clear hW hS hS0 P5
    go_simp
  refine wpAnyH_take (i := 1) (v := .int .i64 x) rfl (by kernel_rfl) (by kernel_rfl) (by kernel_rfl) (fun _ _ _ h => h) (Or.inl ⟨by kernel_rfl, ?t1⟩) hS ?_
  case t1 =>
    intro W hW
    have x0 := WB.c0 hW
    have x1 := WB.c1 hW
    clear hW hS hS0 P5
    go_simp
  refine wpAnyH_take (i := 2) (v := .int .u64 (IntKind.u64.wrap x)) rfl (by kernel_rfl) (by kernel_rfl) (by kernel_rfl) (fun _ _ _ h => h) (Or.inl ⟨by kernel_rfl, ?t2⟩) hS ?_
  case t2 =>
    intro W hW
    have x0 := WB.c0 hW
    have x1 := WB.c1 hW
    clear hW hS hS0 P5
    go_simp
  refine wpAnyH_take (i := 3) (v := .agg #[.int .i64 (b : Int), .int .i64 (s : Int)]) rfl (by kernel_rfl) (by kernel_rfl) (by kernel_rfl) (fun _ _ _ h => h) (Or.inl ⟨by kernel_rfl, ?t3⟩) hS ?_
  case t3 =>
    intro W hW
    have x0 := WB.c0 hW
    have x1 := WB.c1 hW
    clear hW hS hS0 P5
    go_simp
  refine wpAnyH_take (i := 6) (v := .pointer (some ⟨w.heap.size, 1, none⟩)) rfl (by kernel_rfl) (by kernel_rfl) (by kernel_rfl) (fun _ _ _ h => h) (Or.inl ⟨by kernel_rfl, ?t6⟩) hS ?_
  case t6 =>
    intro W hW
    have x0 := WB.c0 hW
    have x1 := WB.c1 hW
    clear hW hS hS0 P5
    go_simp
  refine wpAnyH_take (i := 7) (v := .int .i64 (s : Int)) rfl (by kernel_rfl) (by kernel_rfl) (by kernel_rfl) (fun _ _ _ h => h) (Or.inl ⟨by kernel_rfl, ?t7⟩) hS ?_
  case t7 =>
    intro W hW
    have x0 := WB.c0 hW
    have x1 := WB.c1 hW
    clear hW hS hS0 P5
    go_simp
  refine wpAnyH_ready (rs := [4]) (by kernel_rfl) (by simp) ?_
  refine AllReadyH.cons rfl ?n4 AllReadyH.nil
  case n4 =>
    intro K hK
    refine Eq.mpr (if_pos (by kernel_rfl)) ?_
    go_simp
    refine (haf.out _).mono ?_
    rintro e w6 ⟨rfl, hb3⟩
    have P6 := hS0.below hb3
    have hS6 := P6.x
    go_simp
    refine hK.out _ _ hS6 ?_
    intro _
    refine wpAnyH_take (i := 5) (v := .int .u64 (V : Int)) rfl (by kernel_rfl) (by kernel_rfl) (by kernel_rfl) (fun _ _ _ h => h) (Or.inl ⟨by kernel_rfl, ?t5⟩) hS6 ?_
    case t5 =>
      intro W hW
      have hV : IntKind.u64.wrap x / 2 ^ (min t 64) = (V : Int) := by rw [Nat.min_eq_left (by omega)]; exact HV.out
      clear hW hS hS0 P5 hS6 hK hb3 P6
      go_simp
      try exact HV.out
    refine wpAnyH_ready (rs := [8]) (by kernel_rfl) (by simp) ?_
    refine AllReadyH.cons rfl ?n8 AllReadyH.nil
    case n8 =>
      intro K8 hK8
      refine Eq.mpr (if_pos (by kernel_rfl)) ?_
      go_simp
      refine (hq.out _ P6.l).mono ?_
      rintro e w7 ⟨rfl, hl, hg⟩
      have P7 := P6.put hgl hl hg
      go_simp
      refine hK8.out _ _ P7.x ?_
      intro _
      refine wpAnyH_done (by kernel_rfl) ?_ _
      have hfin := P7.fin (b' := (b : Int)) (s' := (s : Int)) hgl
      have r0 := P7.r.c0
      have r1 := P7.r.c1
      have rf0 := P7.r.f 0
      have rf1 := P7.r.f 1
      have c0 := P7.x.c0
      have c1 := P7.x.c1
      clear hS hS0 P5 hS6 hK hb3 P6 P7 hK8 hl hg
      go_simp
      go_wp2_with fail
      exact bodyPost_ret (v := .agg #[.int .i64 (b : Int), .int .i64 (s : Int)]) (by simp [results, Tryd.results48, go_sem, r0, r1]) rfl ⟨rfl, hfin.1, hfin.2⟩
end Go.Proofs.YtldjeacpkndcbaaDoor

/- Walks: the program appends a change: all cases; its bits of values. -/
set_option linter.unusedVariables false
set_option linter.unusedSimpArgs false
namespace Go.Proofs.YtldjeacpkndcbaaDoor
open Go.RowKit

theorem wv_form {l t : Nat} (h : OKS l t) : ∃ b s : Nat, wv l t = .agg #[.int .i64 (b : Int), .int .i64 (s : Int)] ∧ b ≤ 64 ∧ s ≤ 64 ∧ ((l + t ≤ 63 ∧ b = l ∧ s = 64 - l - t) ∨ (l = 64 ∧ t = 64 ∧ b = 0 ∧ s = 0)) := by
  unfold wv
  rcases h with ⟨rfl, rfl⟩ | h
  · exact ⟨0, 0, by rw [if_neg (by omega)]; rfl, by omega, by omega, .inr ⟨rfl, rfl, rfl, rfl⟩⟩
  · exact ⟨l, 64 - l - t, by rw [if_pos (by omega)], by omega, by omega, .inl ⟨h, rfl, rfl⟩⟩
theorem shr_val (x : Int) (t : Nat) : IntKind.u64.wrap x / 2 ^ t = ((u64of x / 2 ^ t : Nat) : Int) := by
  rw [u64n_wrap]; show ((u64of x : Nat) : Int) / 2 ^ t = _; simp
theorem shr_lt (x : Int) (t : Nat) : u64of x / 2 ^ t < 2 ^ 64 := Nat.lt_of_le_of_lt (Nat.div_le_self _ _) (u64of_lt x)
theorem putChange_any (g : Nat) (L : List Bool) (l t : Nat) (x : Int) (w : World) (hL : BitsV w g L) (hn : L.length + 77 ≤ 20000) (hT : Tab w) (hO : OKS l t) (h0 : -9223372036854775808 ≤ x) (h1 : x ≤ 9223372036854775807) :
    Calls Tryd.prog 48 #[.pointer (some ⟨g, 0, none⟩), .int .i64 x, wv l t] w (PCPost g (L ++ stepL x l t) (wv (stepS x l t).1 (stepS x l t).2) w) := by
  obtain ⟨b, s, hwv, hb, hs, hc⟩ := wv_form hO
  by_cases hx : x = 0
  · subst hx
    have e1 : stepL 0 l t = [false] := by unfold stepL; rw [if_pos rfl]
    have e2 : stepS 0 l t = (l, t) := by unfold stepS; rw [if_pos rfl]
    rw [e1, e2, hwv]
    exact pc_zero g L b s w hL hn
  · obtain ⟨ha, hb', hab⟩ := nzK hx h0 h1
    cases hi : inW x l t with
    | true =>
      have hi' := hi
      unfold inW at hi'
      rw [decide_eq_true_iff] at hi'
      have hc2 : l + t ≤ 63 ∧ b = l ∧ s = 64 - l - t := by rcases hc with hc | hc <;> omega
      obtain ⟨hc3, rfl, rfl⟩ := hc2
      have e1 : stepL x b t = [true, false] ++ winL x b t := by unfold stepL; rw [if_neg hx, if_pos hi]
      have e2 : stepS x b t = (b, t) := by unfold stepS; rw [if_neg hx, if_pos hi]
      rw [e1, e2, hwv]
      have := pc_in g L b t (64 - b - t) (u64of x / 2 ^ t) x w hL hn hT hx hc3 rfl (by
        rw [ha, hb', Bool.and_eq_true, decide_eq_true_iff, decide_eq_true_iff]; omega) (shr_val x t) (shr_lt x t)
      rw [List.append_assoc] at this
      exact this
    | false =>
      have hi' := hi
      unfold inW at hi'
      rw [decide_eq_false_iff_not] at hi'
      have e1 : stepL x l t = newL x (min 31 (leadK x)) (trailK x) := by unfold stepL; rw [if_neg hx, if_neg (by rw [hi]; decide)]
      have e2 : stepS x l t = (min 31 (leadK x), trailK x) := by unfold stepS; rw [if_neg hx, if_neg (by rw [hi]; decide)]
      rw [e1, e2]
      show Calls _ _ _ _ (PCPost g (L ++ newL x (min 31 (leadK x)) (trailK x)) (wv (min 31 (leadK x)) (trailK x)) w)
      have hwn : wv (min 31 (leadK x)) (trailK x) = .agg #[.int .i64 ((min 31 (leadK x) : Nat) : Int), .int .i64 ((64 - min 31 (leadK x) - trailK x : Nat) : Int)] := by
        unfold wv; rw [if_pos (by omega)]
      have := pc_new g L (b : Int) (s : Int) (min 31 (leadK x)) (trailK x) (64 - min 31 (leadK x) - trailK x) (u64of x / 2 ^ trailK x) x w hL hn hT hx h0 h1 (by omega) (by omega) (by omega) rfl hwn (by
        rw [ha, hb', Bool.and_eq_false_iff, decide_eq_false_iff_not, decide_eq_false_iff_not]; omega) (shr_val x _) (shr_lt x _)
      rw [hwv, hwn]
      have e3 : L ++ newL x (min 31 (leadK x)) (trailK x) = (((L ++ BM.digits 3 2) ++ BM.digits (min 31 (leadK x)) 5) ++ BM.digits (64 - min 31 (leadK x) - trailK x - 1) 6) ++ BM.digits (u64of x / 2 ^ trailK x) (64 - min 31 (leadK x) - trailK x) := by
        unfold newL winL
        rw [show 64 - min 31 (leadK x) - trailK x - 1 = 63 - min 31 (leadK x) - trailK x by omega, show BM.digits 3 2 = [true, true] from rfl]
        simp only [List.append_assoc]
      rw [e3]
      exact this

/-- the exclusive or of a value and the one ahead of it -/
def xr (xs : List Int) (k : Nat) : Int := bits .xor .i64 (xs.getD k 0) (xs.getD (k - 1) 0)
theorem xor_rng (a b : Int) : -9223372036854775808 ≤ bits .xor .i64 a b ∧ bits .xor .i64 a b ≤ 9223372036854775807 := by
  show -9223372036854775808 ≤ IntKind.i64.wrap _ ∧ IntKind.i64.wrap _ ≤ 9223372036854775807
  rw [u_i64_wrap]; exact uz_wrap64_bd _
def valTo (xs : List Int) : Nat → List Bool × Nat × Nat
  | 0 => ([], 64, 64)
  | k + 1 => if k = 0 then (BM.digits (u64of (xs.getD 0 0)) 64, 64, 64) else ((valTo xs k).1 ++ stepL (xr xs k) (valTo xs k).2.1 (valTo xs k).2.2, stepS (xr xs k) (valTo xs k).2.1 (valTo xs k).2.2)
theorem valTo_ok (xs : List Int) (k : Nat) : OKS (valTo xs k).2.1 (valTo xs k).2.2 ∧ (valTo xs k).1.length ≤ 77 * k := by
  induction k with
  | zero => exact ⟨.inl ⟨rfl, rfl⟩, by simp [valTo]⟩
  | succ k ih =>
    rw [valTo]
    split
    · rename_i h0; subst h0; exact ⟨.inl ⟨rfl, rfl⟩, by simp [BM.digits_length]⟩
    · have hr := xor_rng (xs.getD k 0) (xs.getD (k - 1) 0)
      refine ⟨stepS_ok ih.1 hr.1 hr.2, ?_⟩
      have := stepL_le (xr xs k) (valTo xs k).2.1 (valTo xs k).2.2
      rw [List.length_append]; omega
theorem valTo_one (xs : List Int) : valTo xs (0 + 1) = (BM.digits (u64of (xs.getD 0 0)) 64, 64, 64) := rfl
theorem valTo_succ {xs : List Int} {k : Nat} (h : ¬ k = 0) : valTo xs (k + 1) = ((valTo xs k).1 ++ stepL (xr xs k) (valTo xs k).2.1 (valTo xs k).2.2, stepS (xr xs k) (valTo xs k).2.1 (valTo xs k).2.2) := by
  rw [valTo, if_neg h]
end Go.Proofs.YtldjeacpkndcbaaDoor
