/- Walks: the program's reader of values. -/
import Derived.Test.YtanoohfhifhhaaaDoorQo
import Derived.Test.YtanoohfhifhhaaaDoorQp
import Derived.Test.YtanoohfhifhhaaaDoorSc
import Derived.Test.YtanoohfhifhhaaaDoorEf
import Derived.Deep.RegionLaw
set_option linter.unusedVariables false
set_option linter.unusedSimpArgs false
namespace Go.Proofs.YtanoohfhifhhaaaDoor
open Go.RowKit

theorem WB.app {wr w' : World} {h B : Nat} {e : TypeId} {v : Value} {n : Nat} {xs : List Value} {o : Obj} {b z : Int} (hx : WB wr h b z) (hB : h < B) (ho : wr.ownsRow B e 1 v n xs) (k : (wr.alloc o).grownBy w' v.ownBlock) : WB w' h b z := by
  have hlt := hx.lt
  unfold WB at *
  rw [k.block h (by simp; omega) (fun hk => by have := (ho.lt _ hk.symm).1; omega), heap_alloc_old _ _ hlt]
  exact hx
/-- the world in a round -/
structure VRd (w : World) (g : Nat) (ws : List Nat) (N : Nat) (v : Value) (xs : List Int) (q b z : Nat) (W : World) : Prop where
  k : RK W g ws (N : Int) (q : Int)
  x : WB W w.heap.size (b : Int) (z : Int)
  o : W.ownsRow (w.heap.size + 1) 2 1 v xs.length (ints xs)
  f : w.grownBy W (some g)
  g : g < w.heap.size
theorem VRd.took {w W W' : World} {g : Nat} {ws : List Nat} {N : Nat} {v : Value} {xs : List Int} {q q' b z : Nat} (h : VRd w g ws N v xs q b z W) (hk : RK W' g ws (N : Int) (q' : Int)) (hg : W.grownBy W' (some g)) : VRd w g ws N v xs q' b z W' :=
  have := h.g
  ⟨hk, h.x.grown hg (by omega), own_grown h.o hg (by omega), eb_trans h.f hg, h.g⟩
theorem VRd.below {w W W' : World} {g : Nat} {ws : List Nat} {N : Nat} {v : Value} {xs : List Int} {q b z : Nat} (h : VRd w g ws N v xs q b z W) (hb : Below W.heap.size W W') : VRd w g ws N v xs q b z W' :=
  ⟨(hb.block g h.k.lt).trans h.k, h.x.below hb, u_own_below h.o hb, eb_gb h.f hb, h.g⟩
theorem VRd.set {w W : World} {g : Nat} {ws : List Nat} {N : Nat} {v : Value} {xs : List Int} {q b z b' z' : Nat} (h : VRd w g ws N v xs q b z W) : VRd w g ws N v xs q b' z' ((W.setCell ⟨w.heap.size, 0, none⟩ (.int .i64 (b' : Int))).setCell ⟨w.heap.size, 1, none⟩ (.int .i64 (z' : Int))) :=
  have hg := h.g
  ⟨(h.k.other (by show g ≠ w.heap.size; omega) _).other (by show g ≠ w.heap.size; omega) _, h.x.set, own_setCell (own_setCell h.o (by omega)) (by omega), gb_set h.f (Nat.le_refl _) _ _, h.g⟩
theorem VRd.app {w W w' : World} {g : Nat} {ws : List Nat} {N : Nat} {v v' : Value} {xs : List Int} {q b z : Nat} {y : Int} {o : Obj} (h : VRd w g ws N v xs q b z W)
    (hown' : w'.ownsRow (w.heap.size + 1) 2 1 v' (xs.length + 1) (ints xs ++ [.int .i64 y])) (hgrow : (W.alloc o).grownBy w' v.ownBlock) : VRd w g ws N v' (xs ++ [y]) q b z w' :=
  have hg := h.g
  ⟨h.k.app (by omega) h.o hgrow, h.x.app (by omega) h.o hgrow, by rw [List.length_append, ints_append]; exact hown', grown_app h.f (by omega) h.o hgrow, h.g⟩

theorem VRd.aside {w W W' : World} {g r : Nat} {ws : List Nat} {N : Nat} {v : Value} {xs : List Int} {q b z : Nat} (h : VRd w g ws N v xs q b z W) (k : W.grownBy W' (some r)) (hr : w.heap.size < r) (hv : ∀ c, v.ownBlock = some c → c < r) : VRd w g ws N v xs q b z W' := by
  have hg := h.g
  have hne : ∀ i, i ≠ r → some i ≠ some r := fun i h e => by injection e with e; exact h e
  refine ⟨(k.block g h.k.lt (hne _ (by omega))).trans h.k, (k.block _ h.x.lt (hne _ (by omega))).trans h.x, ?_, ⟨k.os.trans h.f.os, k.tape.trans h.f.tape, k.output.trans h.f.output, Nat.le_trans h.f.size k.size, fun i hi he => (k.block i (Nat.lt_of_lt_of_le hi h.f.size) (hne _ (by omega))).trans (h.f.block i hi he)⟩, hg⟩
  refine ⟨h.o.1, ?_⟩
  rcases h.o.2 with h2 | ⟨c, cap, cur, rfl, hb, hh, rest⟩
  · exact .inl h2
  · exact .inr ⟨c, cap, cur, rfl, hb, (k.block c (Array.getElem?_eq_some_iff.1 hh).1 (hne _ (by have := hv c rfl; omega))).trans hh, rest⟩
theorem pack_dec (a b : List Bool) : (a = b) ↔ ((⟨(BM.pack a).toArray⟩ : ByteArray) = ⟨(BM.pack b).toArray⟩ ∧ a.length = b.length) := by
  constructor
  · rintro rfl; exact ⟨rfl, rfl⟩
  · rintro ⟨h1, h2⟩
    have h3 : BM.pack a = BM.pack b := by
      have := congrArg (fun x : ByteArray => x.data.toList) h1
      simpa using this
    rw [← BM.listOf_pack a, ← BM.listOf_pack b, h3, h2]

set_option maxRecDepth 100000 in
set_option maxHeartbeats 4000000 in
theorem values_any (g : Nat) (ws : List Nat) (N p n : Nat) (w : World) (h : RK w g ws (N : Int) (p : Int)) (hw : RdW ws N) (hp : p ≤ N) (hn : n ≤ 120) (hT : ∀ W, w.grownBy W (some g) → Tab W) (L : List Bool) (hL : BM.Words ws L) (hLN : L.length = N) :
    Calls Tryd.prog 92 #[.pointer (some ⟨g, 0, none⟩), .int .i64 (n : Int)] w (ListOut g ws N (fitB L p (valI (BM.getW ws) N n p)) w) := by
  have T := Lib.hid (fun (W : World) (q : Nat) (hk : RK W g ws (N : Int) (q : Int)) (hq : q ≤ N) => take_any g ws N q 64 W hk hw (by omega) hq)
  have C := Lib.hid (fun (W : World) (q b z : Nat) (hk : RK W g ws (N : Int) (q : Int)) (hq : q ≤ N) (hbz : b + z ≤ 64) => change_any g ws N q b z W hk hw hq hbz)
  have HT := Lib.hid hT
  have HWd := Lib.hid hw
  have HLw := Lib.hid hL
  have HO := Lib.hid (fun k xs q b z h => valI_ok (num := BM.getW ws) (p := p) hp k xs q b z h)
  have HF := Lib.hid (fun W => fail_any g W)
  have hat := h.at' hw.l
  have hg := h.lt
  have HV0 : Hid (VRd w g ws N (.slice none 0 0) [] p 0 0 (w.alloc (.cells #[.int .i64 0, .int .i64 0] 128))) := Lib.hid ⟨h.alloc _, heap_alloc_new w _, World.ownsRow_nil _ _ _ _, World.grownBy_alloc _ _ _, hg⟩
  obtain ⟨i0, hi, hz0, hz1, hz2⟩ := info_parts u_info_i64
  clear h hw hT hL
  go_enter Tryd.func92, Tryd.ntmps92
  go_wp2_with fail
  generalize w.alloc (.cells #[.int .i64 0, .int .i64 0] 128) = w1 at *
  clear hat
  go_loopw [6, 7, 19] (fun v la i wr => ∃ (k : Nat) (xs : List Int) (q b z : Nat), k ≤ n ∧ i = .int .i64 k ∧ Hid (valI (BM.getW ws) N k p = some (xs, q, b, z)) ∧ la = .int .i64 (if k = 0 then 0 else xs.getD (k - 1) 0) ∧ Hid (VRd w g ws N v xs q b z wr))
    (fun _ _ i _ => n - (intOf i).toNat)
  case atStart => exact ⟨0, [], p, 0, 0, Nat.zero_le _, rfl, Lib.hid rfl, rfl, HV0⟩
  case round =>
    clear HV0
    obtain ⟨k, xs, q, b, z, hk, rfl, HTw, rfl, HV⟩ := hrel
    have hG := HO.out k xs q b z HTw.out
    have hqN := hG.qN
    have hbz := hG.bz
    have hlen := hG.len
    have HG := Lib.hid hG
    clear hG
    by_cases hlt : k < n
    · by_cases hk0 : k = 0
      · subst hk0
        rw [if_pos rfl]
        go_wp2_with fail
        refine (T.out _ q HV.out.k hqN).mono ?_
        rintro e w2 h2
        by_cases c : q + 64 ≤ N
        · obtain ⟨rfl, hk2, hg2⟩ := h2.some' (v := .int .u64 (BM.getW ws q 64 : Int)) (q := q + 64) (by unfold takeR; rw [if_pos c])
          have HV2 := Lib.hid (HV.out.took hk2 hg2)
          have hn1 := Lib.hid (show valI (BM.getW ws) N (0 + 1) p = some (xs ++ [wrap64 ((BM.getW ws q 64 : Nat) : Int)], q + 64, 0, 0) from by
            rw [valI_step HTw.out, if_pos rfl, if_pos c])
          have hb0 : b = 0 ∧ z = 0 := by
            have h0 := HTw.out
            simp only [valI, Option.some.injEq, Prod.mk.injEq] at h0
            omega
          obtain ⟨rfl, rfl⟩ := hb0
          have hxs : xs = [] := List.eq_nil_of_length_eq_zero hlen
          obtain ⟨Y, hY⟩ : ∃ Y, Y = wrap64 ((BM.getW ws q 64 : Nat) : Int) := ⟨_, rfl⟩
          rw [← hY] at hn1
          have hcv : IntKind.i64.wrap ((BM.getW ws q 64 : Nat) : Int) = Y := by rw [hY, u_i64_wrap]
          have hcw : wrap64 ((BM.getW ws q 64 : Nat) : Int) = Y := hY.symm
          clear hY h2 hk2 hg2 HV
          generalize BM.getW ws q 64 = V at *
          have hsz2 : w.heap.size + 1 ≤ w2.heap.size := by have := HV2.out.x.lt; omega
          go_wp2_with (at_builtin; refine wpList_append_own _ rfl _ _ 94 rfl (w.heap.size + 1) 2 i0 (.int .i64 0) 1 8 Tryd.underlying94 hi hz0 hz1 hz2 rfl (by decide) _ _ _ rfl (HV2.out.o.alloc _) ⟨w2.heap.size, 0, none⟩ 1 1 [.int .i64 Y] rfl rfl ?c1 ?c2 ?c3 ?c4 ?c5 ?_)
          case c1 => exact cell_one_new _ _ _
          case c2 => first | rfl | (intro q hq; simp at hq; subst hq; rfl)
          case c3 => unfold maxLen; omega
          case c4 => omega
          case c5 => simp; omega
          intro v' w4 hown' hgrow _
          have HV4 := Lib.hid (HV2.out.app (y := Y) (by rw [hlen, hxs]; exact hown') hgrow)
          clear hown' hgrow HV2
          go_wp2_with fail
          go_roundw
          case rel => exact ⟨0 + 1, _, _, 0, 0, by omega, by go_num, hn1, by rw [if_neg (by omega), hxs]; rfl, HV4⟩
          case measure => simp [intOf]; omega
        · obtain ⟨⟨u, pv, rfl⟩, hg2⟩ := h2.none' (by unfold takeR; rw [if_neg c])
          have E := Lib.hid (show fitB L p (valI (BM.getW ws) N n p) = none from by
            have h1 : valI (BM.getW ws) N (0 + 1) p = none := by rw [valI_step HTw.out, if_pos rfl, if_neg c]
            rw [valI_none h1 n (by omega)]; rfl)
          have HGg := Lib.hid (eb_trans HV.out.f hg2)
          clear hg2 h2
          go_wp2_with fail
          rw [E.out]
          exact ⟨rfl, HGg.out, ⟨_, _, rfl⟩⟩
      · rw [if_neg hk0]
        have hki : ¬ (k : Int) = 0 := by omega
        have hkb : ((k : Int) == 0) = false := by rw [beq_eq_false_iff_ne]; exact hki
        have hkd : decide ((k : Int) = 0) = false := decide_eq_false hki
        have x0 := HV.out.x.c0
        have x1 := HV.out.x.c1
        obtain ⟨la, hla1⟩ : ∃ la, xs.getD (k - 1) 0 = la := ⟨_, rfl⟩
        rw [hla1]
        have HLA := Lib.hid hla1
        clear hla1
        go_wp2_with fail
        refine (C.out _ q b z HV.out.k hqN hbz).mono ?_
        rintro e w2 h2
        cases hr : stepI (BM.getW ws) N q b z with
        | none =>
          obtain ⟨⟨u, pv, rfl⟩, hg2⟩ := h2.none' (by rw [hr]; rfl)
          have E := Lib.hid (show fitB L p (valI (BM.getW ws) N n p) = none from by
            have h1 : valI (BM.getW ws) N (k + 1) p = none := by rw [valI_step HTw.out, if_neg hk0, hr]
            rw [valI_none h1 n (by omega)]; rfl)
          have HGg := Lib.hid (eb_trans HV.out.f hg2)
          clear hg2 h2 hr
          go_wp2_with fail
          rw [E.out]
          exact ⟨rfl, HGg.out, ⟨_, _, rfl⟩⟩
        | some s =>
          obtain ⟨x, q2, b2, z2⟩ := s
          obtain ⟨rfl, hk2, hg2⟩ := h2.some' (v := .tuple #[.int .i64 x, .agg #[.int .i64 (b2 : Int), .int .i64 (z2 : Int)]]) (q := q2) (by rw [hr]; rfl)
          have HV2 := Lib.hid (HV.out.took hk2 hg2)
          have hn1 := Lib.hid (show valI (BM.getW ws) N (k + 1) p = some (xs ++ [bits .xor .i64 la x], q2, b2, z2) from by
            rw [valI_step HTw.out, if_neg hk0, hr, HLA.out])
          obtain ⟨Y, hY⟩ : ∃ Y, Y = bits .xor .i64 la x := ⟨_, rfl⟩
          have hl1 : (xs ++ [Y]).getD k 0 = Y := by rw [getD_snoc, hlen, if_neg (by omega), if_pos rfl]
          rw [← hY] at hn1
          have hxr : bits .xor .i64 la x = Y := hY.symm
          have HL1 := Lib.hid hl1
          clear hY h2 hk2 hg2 HV hr hl1 x0 x1
          have x0 := HV2.out.x.c0
          have x1 := HV2.out.x.c1
          have f0 := HV2.out.x.f 0
          have f1 := HV2.out.x.f 1
          have HV3 := Lib.hid (HV2.out.set (b' := b2) (z' := z2))
          have hsz2 : w.heap.size + 1 ≤ w2.heap.size := by have := HV2.out.x.lt; omega
          go_wp2_with (at_builtin; refine wpList_append_own _ rfl _ _ 94 rfl (w.heap.size + 1) 2 i0 (.int .i64 0) 1 8 Tryd.underlying94 hi hz0 hz1 hz2 rfl (by decide) _ _ _ rfl (HV3.out.o.alloc _) ⟨w2.heap.size, 0, none⟩ 1 1 [.int .i64 Y] rfl rfl ?c1 ?c2 ?c3 ?c4 ?c5 ?_)
          case c1 =>
            have h9 := cell_one_new ((w2.setCell ⟨w.heap.size, 0, none⟩ (.int .i64 (b2 : Int))).setCell ⟨w.heap.size, 1, none⟩ (.int .i64 (z2 : Int))) (.int .i64 Y) 2
            simpa using h9
          case c2 => first | rfl | (intro q hq; simp at hq; subst hq; rfl)
          case c3 => unfold maxLen; omega
          case c4 => omega
          case c5 => simp; omega
          intro v' w4 hown' hgrow _
          have HV4 := Lib.hid (HV3.out.app (y := Y) (by rw [hlen]; exact hown') hgrow)
          clear hown' hgrow HV2 HV3 x0 x1 f0 f1
          go_wp2_with fail
          go_roundw
          case rel => exact ⟨k + 1, _, _, _, _, by omega, by go_num, hn1, by rw [if_neg (by omega)]; exact congrArg _ HL1.out.symm, HV4⟩
          case measure => simp [intOf]; omega
    · obtain rfl : k = n := by omega
      have hW := HG.out
      have HLn := Lib.hid hlen
      have hpq := hW.pq
      have HRng := Lib.hid hW.rng
      clear hW
      generalize (if k = 0 then (0 : Int) else xs.getD (k - 1) 0) = la
      obtain ⟨wa, hwa⟩ : ∃ wa, wr.alloc (.cells (baCells zeroWs 0) 113) = wa := ⟨_, rfl⟩
      have hba : Below wr.heap.size wr wa := by rw [← hwa]; exact (Below.refl _ _).alloc (Nat.le_refl _) _
      have hA : BaBlk wa wr.heap.size zeroWs ((([] : List Bool).length : Nat) : Int) := by rw [← hwa]; exact heap_alloc_new wr _
      have HVa := Lib.hid (HV.out.below hba)
      have hca := HV.out.k.at' HWd.out.l
      have hgr := HV.out.k.lt
      have hLq : p + (q - p) ≤ L.length := by omega
      have h20 := HWd.out.n
      have HPP := Lib.hid (fun W h1 h2 => putPartR_any (N : Int) (q : Int) wr.heap.size g zeroWs ws [] L p (q - p) W h1 h2 (by omega) BM.words_zero HLw.out hLq (by simp; omega))
      have hqp : IntKind.i64.wrap ((q : Int) - (p : Int)) = ((q - p : Nat) : Int) := by rw [u_i64_wrap]; unfold wrap64; omega
      have hqw : wrap64 ((q : Int) - (p : Int)) = ((q - p : Nat) : Int) := by unfold wrap64; omega
      have HA := Lib.hid hA
      have HWA := Lib.hid hwa
      have HBa := Lib.hid hba
      clear hA hwa hba
      go_wp2_with (first
        | (with_reducible refine wl_alloc_ba ?_))
      go_region_law (first
        | (go_simp; go_at_call 103; (refine (HPP.out _ (by have h9 := HA.out; rw [← HWA.out] at h9; exact h9) (by have h9 := HVa.out.k; rw [← HWA.out] at h9; exact h9)).mono ?_); rintro e w2 ⟨rfl, ws2, hb2, hw2, hg2⟩))
      all_goals
        have HV2 := Lib.hid (HVa.out.aside (show wa.grownBy w2 (some wr.heap.size) from by rw [← HWA.out]; exact ⟨hg2.os, hg2.tape, hg2.output, hg2.size, hg2.block⟩) (by have := HV.out.x.lt; omega) (fun c hc => (HV.out.o.lt c hc).2))
        rw [List.nil_append] at hb2 hw2
        have HB2 := Lib.hid hb2
        have HW2 := Lib.hid hw2
        clear hb2 hw2 hg2
        have HIL := Lib.hid (IL.of_own HV2.out.o rfl HRng.out (by omega))
        have HVB := Lib.hid (fun W h hT => implValuesBits_good u6 xs W h (by omega) hT (BM.pack (valTo xs xs.length).1) (valTo xs xs.length).1.length (Lib.hid ⟨rfl, rfl⟩))
        unfold BPostV at HVB
        have HPk := Lib.hid (fun W h => packed_any wr.heap.size ws2 ((L.drop p).take (q - p)) W h HW2.out)
        have HFit : Hid (fitB L p (valI (BM.getW ws) N k p) = if (valTo xs xs.length).1 = (L.drop p).take (q - p) then some (xs, q) else none) := Lib.hid (by rw [HTw.out]; rfl)
        have HDec := Lib.hid (pack_dec (valTo xs xs.length).1 ((L.drop p).take (q - p)))
        generalize (valTo xs xs.length).1 = VB at *
        generalize (L.drop p).take (q - p) = PB at *
        have hbl : wr.heap.size < w2.heap.size := heap_lt HB2.out
        generalize hRV : (⟨(BM.pack VB).toArray⟩ : ByteArray) = RV at *
        generalize hRP : (⟨(BM.pack PB).toArray⟩ : ByteArray) = RP at *
        go_wp2_with fail
        refine (HVB.out _ HIL.out (HT.out _ HV2.out.f)).mono ?_
        rintro e w3 ⟨rfl, hb3⟩
        have HV3 := Lib.hid (HV2.out.below hb3)
        have HB3 : Hid (BaBlk w3 wr.heap.size ws2 (PB.length : Int)) := Lib.hid ((hb3.block _ hbl).trans HB2.out)
        have hbl3 : wr.heap.size < w3.heap.size := heap_lt HB3.out
        clear hb3 HV2 HB2 HIL
        go_wp2_with fail
        obtain ⟨w4, hw4⟩ : ∃ w4, w3.alloc (.cells #[.string RV, .int .i64 (VB.length : Int)] 77) = w4 := ⟨_, rfl⟩
        have hb4 : Below w3.heap.size w3 w4 := by rw [← hw4]; exact (Below.refl _ _).alloc (Nat.le_refl _) _
        have HX4 : Hid (RB w4 w3.heap.size RV (VB.length : Int)) := Lib.hid (by rw [← hw4]; exact heap_alloc_new w3 _)
        have HV4 := Lib.hid (HV3.out.below hb4)
        have HB4 : Hid (BaBlk w4.drew wr.heap.size ws2 (PB.length : Int)) := Lib.hid ((hb4.block _ hbl3).trans HB3.out)
        have HV5 := Lib.hid (HV4.out.below (Below.refl w4.heap.size w4).drew)
        have HX5 : Hid (RB w4.drew w3.heap.size RV (VB.length : Int)) := Lib.hid HX4.out
        have x0 := HX4.out.c0
        have x1 := HX4.out.c1
        rw [hw4]
        clear hw4 hb4 HV3 HB3 HVB hca
        have hcase : (VB = PB ∧ RV = RP) ∨ (¬ VB = PB ∧ ¬ RV.toList = RP.toList) ∨ (¬ VB = PB ∧ RV = RP ∧ ¬ (VB.length : Int) = (PB.length : Int)) := by
          by_cases hE : VB = PB
          · exact .inl ⟨hE, (HDec.out.1 hE).1⟩
          · by_cases hR : RV = RP
            · exact .inr (.inr ⟨hE, hR, fun hl => hE (HDec.out.2 ⟨hR, by omega⟩)⟩)
            · exact .inr (.inl ⟨hE, fun hl => hR (by rw [ByteArray.toList_eq, ByteArray.toList_eq] at hl; apply ByteArray.ext; apply Array.ext'; exact hl)⟩)
        clear HDec hRV hRP
        rcases hcase with ⟨hE, hR⟩ | ⟨hE, hR⟩ | ⟨hE, hR, hl⟩
        · subst hE
          subst hR
          go_region_law (first
            | (go_simp; go_at_call 100; (refine (HPk.out _ HB4.out).mono ?_); rintro e w7 ⟨rfl, hb7⟩; have hr7 := HX5.out.below hb7; have y0 := hr7.c0; have y1 := hr7.c1; clear hr7))
          all_goals
            have HV7 := Lib.hid (HV5.out.below hb7)
            clear hb7 x0 x1 y0 y1
            go_wp2_with fail
            go_ret
            rw [HFit.out, if_pos (by first | rfl | trivial)]
            exact ⟨HV7.out.f, _, rfl, u_ownsRow_base HV7.out.o (by omega), HV7.out.k, HRng.out, by omega⟩
        · have HNE := Lib.hid hE
          clear hE
          go_region_law (first
            | (go_simp; go_at_call 100; (refine (HPk.out _ HB4.out).mono ?_); rintro e w7 ⟨rfl, hb7⟩; have hr7 := HX5.out.below hb7; have y0 := hr7.c0; have y1 := hr7.c1; clear hr7))
          all_goals
            have HV7 := Lib.hid (HV5.out.below hb7)
            clear hb7 x0 x1 y0 y1
            go_wp2_with fail
            refine (HF.out _).mono ?_
            rintro e w8 ⟨⟨u, pv, rfl⟩, rfl⟩
            go_wp2_with fail
            rw [HFit.out, if_neg HNE.out]
            exact ⟨rfl, HV7.out.f, ⟨_, _, rfl⟩⟩
        · have HNE := Lib.hid hE
          subst hR
          clear hE
          go_region_law (first
            | (go_simp; go_at_call 100; (refine (HPk.out _ HB4.out).mono ?_); rintro e w7 ⟨rfl, hb7⟩; have hr7 := HX5.out.below hb7; have y0 := hr7.c0; have y1 := hr7.c1; clear hr7))
          all_goals
            have HV7 := Lib.hid (HV5.out.below hb7)
            clear hb7 x0 x1 y0 y1
            go_wp2_with fail
            refine (HF.out _).mono ?_
            rintro e w8 ⟨⟨u, pv, rfl⟩, rfl⟩
            go_wp2_with fail
            rw [HFit.out, if_neg HNE.out]
            exact ⟨rfl, HV7.out.f, ⟨_, _, rfl⟩⟩
end Go.Proofs.YtanoohfhifhhaaaDoor
