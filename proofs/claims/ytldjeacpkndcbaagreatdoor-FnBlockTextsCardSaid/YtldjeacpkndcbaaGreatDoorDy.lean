/- Plain facts: a block's text is read back; a text with one byte turned is none. -/
import Derived.Test.YtldjeacpkndcbaaGreatDoorDn
import Derived.Test.YtldjeacpkndcbaaGreatDoorDs
import Derived.Deep.RegionLaw
import Derived.Test.YtldjeacpkndcbaaGreatDoorKa
import Derived.Laws.IdiomStrings
set_option linter.unusedVariables false
set_option linter.unusedSimpArgs false
namespace Go.Proofs.YtldjeacpkndcbaaGreatDoor
open Go.RowKit

theorem ba_app (a b : ByteArray) : (a ++ b).data.toList = a.data.toList ++ b.data.toList := by simp
theorem btB_list (n : Int) (d : ByteArray) : (btB n d).data.toList = VM.varU (i64u n) ++ (VM.varU (i64u (d.size : Int)) ++ d.data.toList) := by
  unfold btB
  rw [ba_app, ba_app, varS_list, varS_list, List.append_assoc]
theorem btT_list (n : Int) (d : ByteArray) : (btT n d).data.toList = (btB n d).data.toList ++ (bstr (be4 (CR.sumN (btB n d).data.toList))).data.toList := by
  unfold btT
  rw [ba_app]
theorem bstr_list (l : List Nat) : (bstr l).data.toList = l.map UInt8.ofNat := by unfold bstr; simp
/-- a block is read back from its text -/
theorem rb_back {n : Int} {d : ByteArray} (hn : Rng n) (h : ptsF (ptsB d n) = true) : rbO (btT n d) = some (n, d) := by
  have hd := ptsF_size h
  have hz := btT_size n d
  have h1 := varS_short n
  have h2 := varS_short (d.size : Int)
  have e1 := varS_size n
  have e2 := varS_size (d.size : Int)
  have hl : (btT n d).data.toList = VM.varU (i64u n) ++ (VM.varU (i64u (d.size : Int)) ++ (d.data.toList ++ (bstr (be4 (CR.sumN (btB n d).data.toList))).data.toList)) := by
    rw [btT_list, btB_list, List.append_assoc, List.append_assoc]
  have r1 := VM.readV_var (i64u n) (i64u_lt n) (VM.varU (i64u (d.size : Int)) ++ (d.data.toList ++ (bstr (be4 (CR.sumN (btB n d).data.toList))).data.toList))
  rw [← hl] at r1
  have hd1 : (btT n d).data.toList.drop (VM.var (i64u n)).length = VM.varU (i64u (d.size : Int)) ++ (d.data.toList ++ (bstr (be4 (CR.sumN (btB n d).data.toList))).data.toList) := by
    rw [hl, ← VM.varU_length, List.drop_left]
  have r2 := VM.readV_var (i64u (d.size : Int)) (i64u_lt _) (d.data.toList ++ (bstr (be4 (CR.sumN (btB n d).data.toList))).data.toList)
  rw [← hd1] at r2
  have hi : i64u (d.size : Int) = d.size := i64u_small d.size (by omega)
  have hc := rbC_2 r1 r2
  rw [hi] at hc
  rw [if_pos (by rw [hi] at e2; omega)] at hc
  rw [rbO_s (by omega) hc, i64_u64 n hn.1 hn.2]
  have hx : (btT n d).extract ((VM.var (i64u n)).length + (VM.var d.size).length) ((VM.var (i64u n)).length + (VM.var d.size).length + d.size) = d := by
    apply ba_ext
    rw [ex_part _ _ _ (by omega), Nat.add_sub_cancel_left]
    rw [← List.drop_drop, hd1, hi, ← VM.varU_length, List.drop_left, ← ba_len d, List.take_left]
  rw [hx]
  have hb : btS n d = btT n d := by unfold btS; rw [if_pos h]
  rw [hb, if_pos rfl]
theorem rbO_some {t : ByteArray} {n : Int} {d : ByteArray} (h : rbO t = some (n, d)) : btS n d = t ∧ 0 < t.size ∧ d.size ≤ 5000 := by
  unfold rbO at h
  split at h
  · rename_i h5
    cases hc : rbC t with
    | none => rw [hc] at h; cases h
    | some x =>
      obtain ⟨u, p, v⟩ := x
      rw [hc] at h
      simp only at h
      split at h
      · rename_i he
        simp only [Option.some.injEq, Prod.mk.injEq] at h
        obtain ⟨rfl, rfl⟩ := h
        have := rb_len hc h5 he
        refine ⟨he, by omega, ?_⟩
        rw [ByteArray.size_extract]; omega
      · cases h
  · cases h
theorem btS_size (n : Int) (d : ByteArray) : (btS n d).size ≤ 3000 := by
  unfold btS
  split
  · rename_i h
    have h0 := ptsF_size h
    have h1 := btT_size n d
    have h2 := varS_short n
    have h3 := varS_short (d.size : Int)
    omega
  · show (0 : Nat) ≤ 3000; omega
theorem be4_inj {a b : Nat} (ha : a < 2 ^ 32) (hb : b < 2 ^ 32) (h : (be4 a).map UInt8.ofNat = (be4 b).map UInt8.ofNat) : a = b := by
  have hk : ∀ x y : Nat, x < 256 → y < 256 → UInt8.ofNat x = UInt8.ofNat y → x = y := fun x y hx hy he => by
    have := congrArg UInt8.toNat he
    rw [UInt8.toNat_ofNat', UInt8.toNat_ofNat'] at this
    omega
  simp only [be4, List.map_cons, List.map_nil, List.cons.injEq, and_true] at h
  obtain ⟨h0, h1, h2, h3⟩ := h
  have g0 := hk _ _ (Nat.mod_lt _ (by omega)) (Nat.mod_lt _ (by omega)) h0
  have g1 := hk _ _ (Nat.mod_lt _ (by omega)) (Nat.mod_lt _ (by omega)) h1
  have g2 := hk _ _ (Nat.mod_lt _ (by omega)) (Nat.mod_lt _ (by omega)) h2
  have g3 := hk _ _ (Nat.mod_lt _ (by omega)) (Nat.mod_lt _ (by omega)) h3
  omega
/-- a text of which one byte is turned is none -/
theorem one_turned {n : Int} {d x : ByteArray} {i : Nat} {v : UInt8} (hi : i < (btT n d).size) (hv : v ≠ (btT n d).data.toList.getD i 0) (hx : x.data.toList = (btT n d).data.toList.set i v) : rbO x = none := by
  cases hr : rbO x with
  | none => rfl
  | some r =>
    exfalso
    obtain ⟨n', d'⟩ := r
    obtain ⟨hb, h0, _⟩ := rbO_some hr
    have hT : x = btT n' d' := by
      unfold btS at hb
      split at hb
      · exact hb.symm
      · rw [← hb] at h0; exact absurd h0 (Nat.lt_irrefl 0)
    have hlen : (btB n' d').data.toList.length = (btB n d).data.toList.length := by
      have h1 := congrArg List.length hx
      rw [List.length_set, hT, btT_list, btT_list, List.length_append, List.length_append, bstr_list, bstr_list, List.length_map, List.length_map] at h1
      have e1 : (be4 (CR.sumN (btB n' d').data.toList)).length = 4 := rfl
      have e2 : (be4 (CR.sumN (btB n d).data.toList)).length = 4 := rfl
      omega
    rw [hT, btT_list, btT_list, bstr_list, bstr_list] at hx
    rw [btT_list, bstr_list] at hv
    have hil : i < ((btB n d).data.toList ++ (be4 (CR.sumN (btB n d).data.toList)).map UInt8.ofNat).length := by
      rw [← ba_len, btT_list, bstr_list] at hi; exact hi
    have z1 := sumN_lt' (btB n' d').data.toList
    have z2 := sumN_lt' (btB n d).data.toList
    generalize (btB n' d').data.toList = P at *
    generalize (btB n d).data.toList = Q at *
    by_cases hiQ : i < Q.length
    · rw [List.set_append_left _ _ hiQ] at hx
      obtain ⟨hP, hS⟩ := List.append_inj hx (by rw [List.length_set]; exact hlen)
      have hsum := be4_inj z1 z2 hS
      have hq : Q = Q.take i ++ Q.getD i 0 :: Q.drop (i + 1) := by
        rw [List.getD_eq_getElem?_getD, List.getElem?_eq_getElem hiQ]
        simp
      have hp : P = Q.take i ++ v :: Q.drop (i + 1) := by rw [hP, List.set_eq_take_append_cons_drop, if_pos hiQ]
      have hvv : v = Q.getD i 0 := by
        rw [hp] at hsum
        conv at hsum => rhs; rw [hq]
        exact CR.sumN_one hsum
      apply hv
      rw [hvv, List.getD_eq_getElem?_getD, List.getD_eq_getElem?_getD, List.getElem?_append_left hiQ]
    · rw [List.set_append_right _ _ (by omega)] at hx
      obtain ⟨hP, hS⟩ := List.append_inj hx hlen
      subst hP
      apply hv
      have h9 := congrArg (fun l => l[i - P.length]?) hS
      simp only [List.getElem?_set_self'] at h9
      rw [List.getD_eq_getElem?_getD, List.getElem?_append_right (by omega), h9]
      have hlt : i - P.length < ((be4 (CR.sumN P)).map UInt8.ofNat).length := by rw [List.length_append] at hil; omega
      rw [List.getElem?_eq_getElem hlt]
      rfl
end Go.Proofs.YtldjeacpkndcbaaGreatDoor

/- Walks: DrawPointsOk, DrawBlockOf, DrawPointsOf. -/
set_option linter.unusedVariables false
set_option linter.unusedSimpArgs false
namespace Go.Proofs.YtldjeacpkndcbaaGreatDoor
open Go.RowKit

def PtsPost9 (w : World) (e : Ending) (w' : World) : Prop :=
  ∃ v xs, e = .returned v ∧ w'.ownsRow w.heap.size 75 2 v xs.length (prs xs) ∧ xs.length ≤ 9 ∧ (∀ j, Rng (xs.getD j (0, 0)).1 ∧ Rng (xs.getD j (0, 0)).2) ∧ Below w.heap.size w w'

theorem made_pt (w : World) (a b : Value) (base : Nat) (h : base ≤ w.heap.size) : (w.alloc (.cells #[a, b] 75)).ownsRow base 75 2 (.slice (some ⟨w.heap.size, 0, none⟩) 1 1) 1 [a, b] :=
  ⟨rfl, .inr ⟨w.heap.size, 1, #[a, b], rfl, h, heap_alloc_new w _, Nat.le_refl _, by simp [maxLen], rfl, rfl⟩⟩


set_option maxRecDepth 100000 in
set_option maxHeartbeats 2000000 in
theorem DrawBlockOf_any (A : Option Addr) (n c : Nat) (w : World) (h : CodeAt w A n c) :
    Calls Tryz.prog 24 #[.slice A n c] w (PtsPost9 w) := by
  have H1 := Lib.hid h
  clear h
  go_enter Tryz.func24, Tryz.ntmps24
  go_wp2_with fail
  refine (open_any A n c _ H1.out).mono ?_
  rintro e w1 ⟨rfl, hrd, hb1⟩
  have HB1 := Lib.hid hb1
  have Hrd := Lib.hid hrd
  clear hrd hb1
  go_wp2_with fail
  refine (drawnPts_any 9 (by omega) _ _ _ Hrd.out).mono ?_
  rintro e w2 ⟨v, xs, rfl, ho, hrd2, hg, hl, hr⟩
  have HB2 := Lib.hid (HB1.out.grown hg HB1.out.size (fun k hk => by injection hk with hk; omega))
  have HO1 := Lib.hid ho
  have hglt : w.heap.size < w1.heap.size := Hrd.out.lt
  have HO := Lib.hid (u_ownsRow_base ho HB1.out.size)
  have Hr := Lib.hid hr
  have Hrd2 := Lib.hid hrd2
  obtain ⟨_, _, Av, cv, rfl, _⟩ := PL.of_own ho rfl hr (by omega)
  clear ho hg hrd2 hr
  by_cases h0 : xs.length = 0
  · have hi : ((xs.length : Int) == 0) = true := by simp [h0]
    have hd : decide ((xs.length : Int) = 0) = true := by simp [h0]
    go_wp2_with fail
    refine (once_any _ _ 8 _ Hrd2.out (by omega) (by omega)).mono ?_
    rintro e w4 ⟨q, rfl, ⟨b, rfl⟩, hrd4, hgr4⟩
    have HB4 := Lib.hid (HB2.out.grown hgr4 HB2.out.size (fun k hk => by injection hk with hk; omega))
    cases b with
    | true =>
      have hx : xs = [] := List.eq_nil_of_length_eq_zero h0
      go_wp2_with fail
      go_ret
      refine ⟨_, [], rfl, ?_, by simp, fun j => ⟨by simpa using rng_zero, by simpa using rng_zero⟩, HB4.out⟩
      subst hx
      exact u_ownsRow_base (own_grown HO1.out hgr4 hglt) HB1.out.size
    | false =>
      have Hrd4 := Lib.hid hrd4
      clear hrd4 hgr4
      go_wp2_with fail
      refine (below_any _ _ 99 _ Hrd4.out (by omega) (by omega)).mono ?_
      rintro e w5 ⟨q, rfl, ⟨x, rfl, hx0, hx1⟩, hrd5, hgr5⟩
      have HB5 := Lib.hid (HB4.out.grown hgr5 HB4.out.size (fun k hk => by injection hk with hk; omega))
      have Hrd5 := Lib.hid hrd5
      clear hrd5 hgr5
      go_wp2_with fail
      refine (num_any _ _ _ Hrd5.out).mono ?_
      rintro e w6 ⟨q, rfl, ⟨y, rfl, hy0, hy1⟩, hrd6, hgr6⟩
      have HB6 := Lib.hid (HB5.out.grown hgr6 HB5.out.size (fun k hk => by injection hk with hk; omega))
      clear hrd6 hgr6
      have hmade := made_pt w6 (.int .i64 x) (.int .i64 y) w.heap.size HB6.out.size
      have HM := Lib.hid hmade
      clear hmade
      go_wp2_with fail
      go_ret
      refine ⟨_, [(x, y)], rfl, HM.out, by simp, fun j => ?_, HB6.out.alloc HB6.out.size _⟩
      rcases j with _ | j
      · exact ⟨⟨by show -9223372036854775808 ≤ x; omega, by show x ≤ 9223372036854775807; omega⟩, ⟨hy0, hy1⟩⟩
      · exact ⟨by simpa using rng_zero, by simpa using rng_zero⟩
  · have hi : ((xs.length : Int) == 0) = false := by simp [h0]
    have hd : decide ((xs.length : Int) = 0) = false := by simp [h0]
    go_wp2_with fail
    go_ret
    exact ⟨_, xs, rfl, HO.out, hl, Hr.out, HB2.out⟩
theorem KB.other {w : World} {g : Nat} {N : Int} {D : ByteArray} (h : KB w g N D) {a : Addr} (ha : g ≠ a.block) (v : Value) : KB (w.setCell a v) g N D := by
  have ha' : ¬ a.block = g := fun e => ha e.symm
  unfold KB at h ⊢
  simp only [World.setCell, Array.getElem?_modify, if_neg ha', h]
theorem KB.set0 {w : World} {g : Nat} {N N' : Int} {D : ByteArray} (h : KB w g N D) : KB (w.setCell ⟨g, 0, none⟩ (.int .i64 N')) g N' D := by
  unfold KB at h ⊢
  simp only [World.setCell, Array.getElem?_modify, if_pos, h, Option.map_some]
  rfl
theorem KB.set1 {w : World} {g : Nat} {N : Int} {D D' : ByteArray} (h : KB w g N D) : KB (w.setCell ⟨g, 1, none⟩ (.string D')) g N D' := by
  unfold KB at h ⊢
  simp only [World.setCell, Array.getElem?_modify, if_pos, h, Option.map_some]
  rfl
def BlkDraw (w : World) (e : Ending) (w' : World) : Prop :=
  ∃ N s, e = .returned (.agg #[.int .i64 N, .string s]) ∧ Rng N ∧ s.size ≤ 2000 ∧ Below w.heap.size w w'
structure DBk (w : World) (b : Nat) (N : Int) (s : ByteArray) (W : World) : Prop where
  hb : w.heap.size + 1 < b
  r : KB W w.heap.size 0 ⟨#[]⟩
  v : KB W b N s
  rd : Rd W (w.heap.size + 1) (w.heap.size + 1)
  f : Below w.heap.size w W
theorem DBk.drew {w : World} {b : Nat} {N : Int} {s : ByteArray} {W : World} (h : DBk w b N s W) : DBk w b N s W.drew := ⟨h.hb, h.r, h.v, h.rd.drew, h.f.drew⟩
theorem DBk.read {w : World} {b : Nat} {N : Int} {s : ByteArray} {W W' : World} (h : DBk w b N s W) (hrd : Rd W' (w.heap.size + 1) (w.heap.size + 1)) (hg : W.grownBy W' (some (w.heap.size + 1))) : DBk w b N s W' :=
  ⟨h.hb, h.r.grown hg (by omega), h.v.grown hg (by have := h.hb; omega), hrd, h.f.grown hg h.f.size (fun k hk => by injection hk with hk; omega)⟩
theorem dt_wrap64 (x : Int) : Rng (wrap64 x) := by unfold Rng wrap64; omega
theorem dt_wrap (x : Int) : Rng (IntKind.i64.wrap x) := by rw [IntWalk.i64_left x]; unfold Rng wrap64; omega

set_option maxRecDepth 100000 in
set_option maxHeartbeats 4000000 in
theorem DrawPointsOf_any (A : Option Addr) (n c : Nat) (w : World) (h : CodeAt w A n c) :
    Calls Tryz.prog 15 #[.slice A n c] w (BlkDraw w) := by
  have H1 := Lib.hid (h.below (below1 w (.cells #[.int .i64 0, .string ⟨#[]⟩] 25)))
  have HK0 := Lib.hid (KB.new w 0 ⟨#[]⟩)
  have HB0 := Lib.hid (below1 w (.cells #[.int .i64 0, .string ⟨#[]⟩] 25))
  have z0 : w.heap.size < (w.alloc (.cells #[.int .i64 0, .string ⟨#[]⟩] 25)).heap.size := by simp
  have hz0 : (w.alloc (.cells #[.int .i64 0, .string ⟨#[]⟩] 25)).heap.size = w.heap.size + 1 := by simp
  have HZ0 := Lib.hid hz0
  clear h hz0
  go_enter Tryz.func15, Tryz.ntmps15
  go_wp2_with fail
  refine (open_any A n c _ H1.out).mono ?_
  rintro e w1 ⟨rfl, hrd, hb1⟩
  rw [HZ0.out] at hrd
  have C1 := Lib.hid (H1.out.below hb1)
  have K1 := Lib.hid (HK0.out.below hb1 z0)
  have F1 := Lib.hid (HB0.out.trans (hb1.mono HB0.out.size))
  have R1 := Lib.hid hrd
  clear hrd hb1 H1
  go_wp2_with fail
  refine (DrawBlockOf_any A n c _ C1.out).mono ?_
  rintro e w2 ⟨v, xs, rfl, ho, hl, hr, hb2⟩
  have P2 := Lib.hid (PL.of_own ho rfl hr (by omega))
  have K2 := Lib.hid (K1.out.below hb2 K1.out.lt)
  have R2 := Lib.hid (R1.out.below hb2)
  have F2 := Lib.hid (F1.out.trans (hb2.mono F1.out.size))
  have hbk := bkD_size xs
  have hbn := bkN_rng xs (by omega)
  have z12 : w.heap.size + 1 < w2.heap.size := R2.out.lt
  clear ho hb2 K1 R1 F1 C1
  go_wp2_with fail
  refine (specBlockOf_any v xs _ P2.out).mono ?_
  rintro e w3 ⟨rfl, hb3⟩
  have z3 := hb3.size
  have HD := Lib.hid (show DBk w w3.heap.size (bkN xs) (bkD xs) (w3.alloc (.cells #[.int .i64 (bkN xs), .string (bkD xs)] 25)) from
    ⟨by omega, (K2.out.below hb3 K2.out.lt).below (below1 _ _) (Nat.lt_of_lt_of_le K2.out.lt z3), KB.new _ _ _, (R2.out.below hb3).alloc _, (F2.out.trans (hb3.mono F2.out.size)).trans ((below1 _ _).mono (by have := F2.out.size; omega))⟩)
  clear hb3 K2 R2 F2 P2 hl hr
  generalize bkN xs = N at *
  generalize bkD xs = D at *
  go_wp2_with fail
  refine (below_any _ _ 4 _ HD.out.rd (by omega) (by omega)).mono ?_
  rintro e w4 ⟨q, rfl, ⟨y, rfl, hy0, hy1⟩, hrd4, hgr4⟩
  have HD4 := Lib.hid (HD.out.read hrd4 hgr4)
  clear hrd4 hgr4 HD z3 z12
  generalize w3.heap.size = bb at *
  by_cases y2 : y = 2
  · subst y2
    have x1 := HD4.out.v.c1
    go_wp2_with fail
    refine (hurt_any _ _ D _ HD4.out.rd (by omega)).mono ?_
    rintro e w5 ⟨q, rfl, ⟨t, rfl, hts⟩, hrd5, hgr5⟩
    have HD5 := HD4.out.read hrd5 hgr5
    have hb := HD5.hb
    have f1 := HD5.v.f 1
    have c1 := HD5.v.c1
    have HV := HD5.v.set1 (D' := t)
    have HR := HD5.r.other (a := ⟨bb, 1, none⟩) (by show w.heap.size ≠ bb; omega) (.string t)
    have k0 := HV.c0
    have k1 := HV.c1
    have r0 := HR.c0
    have r1 := HR.c1
    have g0 := HR.f 0
    have g1 := HR.f 1
    have HF := Lib.hid (HD5.f.setCell (show w.heap.size ≤ (⟨bb, 1, none⟩ : Addr).block by show w.heap.size ≤ bb; omega) (.string t))
    clear hrd5 hgr5 HD4 HV HR HD5 x1
    go_wp2_with fail
    apply bodyPost_ret
    · simp [results, Tryz.results15, go_sem, r0, r1]; rfl
    · rfl
    · exact ⟨N, t, rfl, hbn, by omega, (HF.out.setCell (by simp) _).setCell (by simp) _⟩
  · have y2b : (y == 2) = false := by simpa using y2
    have y2d : decide (y = 2) = false := by simpa using y2
    by_cases y3 : y = 3
    · subst y3
      have HDX := HD4
      clear HD4
      go_wp2_with fail
      have k0 := HDX.out.v.c0
      have k1 := HDX.out.v.c1
      have f0 := HDX.out.v.f 0
      go_region_law (first
        | (go_simp; go_at_call 32; (refine (below_any (w.heap.size + 1) (w.heap.size + 1) _ _ (by first | exact HDX.out.rd | exact HDX.out.drew.rd) (by omega) (by omega)).mono ?_); rintro e W5 ⟨_, rfl, ⟨y, rfl, hy0, hy1⟩, hrdX, hgrX⟩; have HDY : DBk w bb N D W5 := (by first | exact HDX.out.read hrdX hgrX | exact HDX.out.drew.read hrdX hgrX); clear HDX; have HDX := Lib.hid HDY; have k0 := HDY.v.c0; have k1 := HDY.v.c1; have f0 := HDY.v.f 0; clear hrdX hgrX HDY hy0 hy1))
      all_goals
        have hb := HDX.out.hb
        have r0 := HDX.out.r.c0
        have r1 := HDX.out.r.c1
        have g0 := HDX.out.r.f 0
        have g1 := HDX.out.r.f 1
        have HF := Lib.hid HDX.out.f
        have hle : w.heap.size ≤ bb := by omega
        have hne : ¬ bb = w.heap.size := by omega
        have hne' : ¬ w.heap.size = bb := by omega
        clear HDX hb
        go_wp2_with fail
        apply bodyPost_ret
        · simp [results, Tryz.results15, go_sem, r0, r1, hne, hne']; rfl
        · rfl
        · exact ⟨_, D, rfl, by first | exact dt_wrap _ | exact dt_wrap64 _, by omega, ((HF.out.setCell (by show w.heap.size ≤ bb; exact hle) _).setCell (by simp) _).setCell (by simp) _⟩
    · have y3b : (y == 3) = false := by simpa using y3
      have y3d : decide (y = 3) = false := by simpa using y3
      have k0 := HD4.out.v.c0
      have k1 := HD4.out.v.c1
      have r0 := HD4.out.r.c0
      have r1 := HD4.out.r.c1
      have g0 := HD4.out.r.f 0
      have g1 := HD4.out.r.f 1
      go_wp2_with fail
      apply bodyPost_ret
      · simp [results, Tryz.results15, go_sem, r0, r1]; rfl
      · rfl
      · exact ⟨N, D, rfl, hbn, by omega, (HD4.out.f.setCell (by simp) _).setCell (by simp) _⟩
end Go.Proofs.YtldjeacpkndcbaaGreatDoor

/- The walk of the law FnExactSumOf. -/
set_option linter.unusedVariables false
set_option linter.unusedSimpArgs false
namespace Go.Proofs.YtldjeacpkndcbaaGreatDoor
open Go.RowKit

def sumV (s : ByteArray) : Int := if 10000 < s.size then -1 else (CR.sumN s.data.toList : Int)
theorem sumN_lt (l : List UInt8) : CR.sumN l < 2 ^ 32 := Nat.xor_lt_two_pow (CR.sumFrom_lt (by omega) l) (by omega)
set_option maxRecDepth 100000 in
set_option maxHeartbeats 400000 in
theorem specSumOf_any (s : ByteArray) (w : World) (hs : s.size ≤ maxLen) :
    Calls Tryz.prog 14 #[.string s] w fun e w' => e = .returned (.int .i64 (sumV s)) ∧ Below w.heap.size w w' := by
  have H := Lib.hid (fun W => l5Sum_any s W hs)
  unfold sumV
  unfold maxLen at hs
  by_cases h : 10000 < s.size
  · have hi : (10000 : Int) < s.size := by omega
    rw [if_pos h]
    go_enter Tryz.func14, Tryz.ntmps14
    go_wp2_with fail
    go_ret
    exact ⟨rfl, Below.refl _ _⟩
  · have hi : ¬ (10000 : Int) < s.size := by omega
    rw [if_neg h]
    go_enter Tryz.func14, Tryz.ntmps14
    go_wp2_with fail
    refine (H.out _).mono ?_
    rintro e w' ⟨rfl, rfl⟩
    go_wp2_with fail
    go_ret
    exact ⟨rfl, Below.refl _ _⟩
set_option maxRecDepth 100000 in
set_option maxHeartbeats 400000 in
theorem implSumOf_any (s : ByteArray) (w : World) (hs : s.size ≤ maxLen) :
    Calls Tryz.prog 13 #[.string s] w fun e w' => e = .returned (.int .i64 (sumV s)) ∧ Below w.heap.size w w' := by
  have H := Lib.hid (fun W => checksum_any s W hs)
  have hl := sumN_lt s.data.toList
  unfold sumV
  unfold maxLen at hs
  generalize CR.sumN s.data.toList = X at *
  by_cases h : 10000 < s.size
  · have hi : (10000 : Int) < s.size := by omega
    rw [if_pos h]
    go_enter Tryz.func13, Tryz.ntmps13
    go_wp2_with fail
    go_ret
    exact ⟨rfl, Below.refl _ _⟩
  · have hi : ¬ (10000 : Int) < s.size := by omega
    rw [if_neg h]
    go_enter Tryz.func13, Tryz.ntmps13
    go_wp2_with fail
    refine (H.out _).mono ?_
    rintro e w' ⟨rfl, hb⟩
    have e1 : wrap64 (X : Int) = (X : Int) := by unfold wrap64; omega
    go_wp2_with fail
    go_ret
    exact ⟨rfl, hb⟩
end Go.Proofs.YtldjeacpkndcbaaGreatDoor

/- Walks: DrawBlockText, DrawReadBlock, DrawSumOf; the law FnOneBit. -/
set_option linter.unusedVariables false
set_option linter.unusedSimpArgs false
namespace Go.Proofs.YtldjeacpkndcbaaGreatDoor
open Go.RowKit

set_option maxRecDepth 100000 in
set_option maxHeartbeats 1000000 in
theorem DrawBlockText_any (A : Option Addr) (n c : Nat) (w : World) (h : CodeAt w A n c) :
    Calls Tryz.prog 6 #[.slice A n c] w (BlkDraw w) := by
  have H1 := Lib.hid (h.below (below1 w (.cells #[.int .i64 0, .string ⟨#[]⟩] 25)))
  have HK0 := Lib.hid (KB.new w 0 ⟨#[]⟩)
  have HB0 := Lib.hid (below1 w (.cells #[.int .i64 0, .string ⟨#[]⟩] 25))
  clear h
  go_enter Tryz.func6, Tryz.ntmps6
  go_wp2_with fail
  refine (DrawPointsOf_any A n c _ H1.out).mono ?_
  rintro e w1 ⟨N, s, rfl, hN, hs, hb1⟩
  have K1 := HK0.out.below hb1 (by simp)
  have HF := Lib.hid (HB0.out.trans (hb1.mono HB0.out.size))
  have r0 := K1.c0
  have r1 := K1.c1
  have g0 := K1.f 0
  have g1 := K1.f 1
  clear hb1 K1
  go_wp2_with fail
  apply bodyPost_ret
  · simp [results, Tryz.results6, go_sem, r0, r1]; rfl
  · rfl
  · exact ⟨N, s, rfl, hN, hs, (HF.out.setCell (by simp) _).setCell (by simp) _⟩

set_option maxRecDepth 100000 in
set_option maxHeartbeats 1000000 in
theorem DrawSumOf_any (A : Option Addr) (n c : Nat) (w : World) (h : CodeAt w A n c) :
    Calls Tryz.prog 11 #[.slice A n c] w fun e w' => ∃ s : ByteArray, e = .returned (.string s) ∧ s.size ≤ 2000 ∧ Below w.heap.size w w' := by
  have H1 := Lib.hid h
  clear h
  go_enter Tryz.func11, Tryz.ntmps11
  go_wp2_with fail
  refine (open_any A n c _ H1.out).mono ?_
  rintro e w1 ⟨rfl, hrd, hb1⟩
  have HB1 := Lib.hid hb1
  have Hrd := Lib.hid hrd
  clear hrd hb1
  go_wp2_with fail
  refine (bytes_any _ _ 9 _ Hrd.out (by omega) (by omega)).mono ?_
  rintro e w2 ⟨q, rfl, ⟨s, rfl, hs⟩, hrd2, hg2⟩
  have HB2 := Lib.hid (HB1.out.grown hg2 HB1.out.size (fun k hk => by injection hk with hk; omega))
  clear hrd2 hg2
  go_wp2_with fail
  go_ret
  exact ⟨s, rfl, by omega, HB2.out⟩

set_option maxRecDepth 100000 in
set_option maxHeartbeats 2000000 in
theorem DrawReadBlock_any (A : Option Addr) (n c : Nat) (w : World) (h : CodeAt w A n c) :
    Calls Tryz.prog 9 #[.slice A n c] w fun e w' => ∃ s : ByteArray, e = .returned (.string s) ∧ s.size ≤ 4000 ∧ Below w.heap.size w w' := by
  have H1 := Lib.hid h
  clear h
  go_enter Tryz.func9, Tryz.ntmps9
  go_wp2_with fail
  refine (open_any A n c _ H1.out).mono ?_
  rintro e w1 ⟨rfl, hrd, hb1⟩
  have F1 := Lib.hid hb1
  have R1 := Lib.hid hrd
  have C1 := Lib.hid (H1.out.below hb1)
  clear hrd hb1 H1
  go_wp2_with fail
  refine (DrawBlockOf_any A n c _ C1.out).mono ?_
  rintro e w2 ⟨v, xs, rfl, ho, hl, hr, hb2⟩
  have P2 := Lib.hid (PL.of_own ho rfl hr (by omega))
  have R2 := Lib.hid (R1.out.below hb2)
  have F2 := Lib.hid (F1.out.trans (hb2.mono F1.out.size))
  have hbk := bkD_size xs
  clear ho hb2 R1 F1 C1
  go_wp2_with fail
  refine (specBlockOf_any v xs _ P2.out).mono ?_
  rintro e w3 ⟨rfl, hb3⟩
  have ha : Below w3.heap.size w3 (w3.alloc (.cells #[.int .i64 (bkN xs), .string (bkD xs)] 25)) := below1 w3 _
  have hb3a := hb3.trans (ha.mono hb3.size)
  have R3 := Lib.hid (R2.out.below hb3a)
  have F3 := Lib.hid (F2.out.trans (hb3a.mono F2.out.size))
  have K3 := KB.new w3 (bkN xs) (bkD xs)
  have k0 := K3.c0
  have k1 := K3.c1
  have HBT := Lib.hid (fun W => specBlockText_any (bkN xs) (bkD xs) W (by unfold maxLen; omega))
  have hT := btS_size (bkN xs) (bkD xs)
  clear hb3 ha hb3a R2 F2 P2 K3 hl hr hbk
  generalize btS (bkN xs) (bkD xs) = T at *
  generalize bkN xs = N at *
  generalize bkD xs = D at *
  go_wp2_with fail
  refine (HBT.out _).mono ?_
  rintro e w4 ⟨rfl, hb4⟩
  have R4 := Lib.hid (R3.out.below hb4)
  have F4 := Lib.hid (F3.out.trans (hb4.mono F3.out.size))
  clear hb4 R3 F3 k0 k1
  go_wp2_with fail
  refine (once_any _ _ 2 _ R4.out (by omega) (by omega)).mono ?_
  rintro e w5 ⟨q, rfl, ⟨b, rfl⟩, hrd5, hgr5⟩
  have F5 := Lib.hid (F4.out.grown hgr5 F4.out.size (fun k hk => by injection hk with hk; omega))
  have R5 := Lib.hid hrd5
  clear hrd5 hgr5
  cases b with
  | true =>
    go_wp2_with fail
    go_ret
    exact ⟨T, rfl, by omega, F5.out⟩
  | false =>
    go_wp2_with fail
    refine (hurt_any _ _ T _ R5.out (by omega)).mono ?_
    rintro e w6 ⟨q, rfl, ⟨t, rfl, ht⟩, hrd6, hgr6⟩
    have F6 := Lib.hid (F5.out.grown hgr6 F5.out.size (fun k hk => by injection hk with hk; omega))
    clear hrd6 hgr6
    go_wp2_with fail
    go_ret
    exact ⟨t, rfl, by omega, F6.out⟩
end Go.Proofs.YtldjeacpkndcbaaGreatDoor

/- Walks: the law FnBlockTexts. -/
set_option linter.unusedVariables false
set_option linter.unusedSimpArgs false
namespace Go.Proofs.YtldjeacpkndcbaaGreatDoor
open Go.RowKit

/-- what the law's later calls need of a world -/
structure TQ (w : World) (gb gx gy gz : Nat) (N : Int) (D : ByteArray) (N1 : Int) (D1 : ByteArray) (N2 : Int) (D2 : ByteArray) (W : World) : Prop where
  b : KB W gb N D
  x : KB W gx N1 D1
  y : KB W gy N2 D2
  z : KB W gz N2 D2
  f : Below w.heap.size w W
theorem TQ.next {w : World} {gb gx gy gz : Nat} {N : Int} {D : ByteArray} {N1 : Int} {D1 : ByteArray} {N2 : Int} {D2 : ByteArray} {W W' : World} (h : TQ w gb gx gy gz N D N1 D1 N2 D2 W) (hb : Below W.heap.size W W') : TQ w gb gx gy gz N D N1 D1 N2 D2 W' :=
  ⟨h.b.below hb h.b.lt, h.x.below hb h.x.lt, h.y.below hb h.y.lt, h.z.below hb h.z.lt, h.f.trans (hb.mono h.f.size)⟩
theorem rbO_nil : rbO ⟨#[]⟩ = none := by
  cases h : rbO ⟨#[]⟩ with
  | none => rfl
  | some r => obtain ⟨n, d⟩ := r; exact absurd (rbO_some h).2.1 (Nat.lt_irrefl 0)
theorem dy_first {N : Int} {D : ByteArray} (hN : Rng N) : (rbF (rbO (btS N D)) = true ∧ rbN (rbO (btS N D)) = N ∧ rbD (rbO (btS N D)) = D ∧ btS N D ≠ ⟨#[]⟩) ∨ (rbF (rbO (btS N D)) = false ∧ btS N D = ⟨#[]⟩) := by
  by_cases h : ptsF (ptsB D N) = true
  · have hb := rb_back hN h
    have hs : btS N D = btT N D := by unfold btS; rw [if_pos h]
    rw [hs, hb]
    refine .inl ⟨rfl, rfl, rfl, fun h0 => ?_⟩
    have := (rbO_some hb).2.1
    rw [h0] at this
    exact absurd this (Nat.lt_irrefl 0)
  · have hs : btS N D = ⟨#[]⟩ := by unfold btS; rw [if_neg h]
    rw [hs, rbO_nil]
    exact .inr ⟨rfl, rfl⟩
theorem dy_ne {T : ByteArray} (h : T ≠ ⟨#[]⟩) : T.toList.isEmpty = false := by
  rw [ByteArray.toList_eq]
  cases hl : T.data.toList with
  | nil => exact absurd (show T = ⟨#[]⟩ by cases T with | mk d => cases d with | mk l => exact congrArg (fun l => (⟨⟨l⟩⟩ : ByteArray)) hl) h
  | cons _ _ => rfl
theorem dy_second (U : ByteArray) : (rbF (rbO U) = true ∧ btS (rbN (rbO U)) (rbD (rbO U)) = U ∧ (rbD (rbO U)).size ≤ 5000) ∨ rbF (rbO U) = false := by
  cases h : rbO U with
  | none => exact .inr rfl
  | some r => obtain ⟨n, d⟩ := r; exact .inl ⟨rfl, (rbO_some h).1, (rbO_some h).2.2⟩

set_option maxRecDepth 100000 in
set_option maxHeartbeats 8000000 in
theorem walkFnBlockTexts (A : Option Addr) (n c : Nat) (w : World) (h : n ≤ 1048576 → CodeAt w A n c) (hT : Tab w) :
    Calls Tryz.prog 3 #[.slice A n c] w fun e w' => e = .returned (.bool true) ∧ Below w.heap.size w w' := by
  have hbig := fun W => big_any A n c W
  have HTab := Lib.hid hT
  clear hT
  by_cases hn : n ≤ 1048576
  · have H := Lib.hid (h hn)
    have hd : decide (1048576 < (n : Int)) = false := by simp; omega
    rw [hd] at hbig
    have Hbig := Lib.hid hbig
    clear hbig hd h
    go_enter Tryz.func3, Tryz.ntmps3
    go_wp2_with fail
    refine (Hbig.out _).mono ?_
    rintro e w' ⟨rfl, rfl⟩
    go_wp2_with fail
    refine (DrawBlockText_any A n c _ H.out).mono ?_
    rintro e w1 ⟨N, D, rfl, hN, hD, hb1⟩
    have hb1a := hb1.trans ((below1 w1 (.cells #[.int .i64 N, .string D] 25)).mono hb1.size)
    have B1 := Lib.hid hb1a
    have C1 := Lib.hid (H.out.below hb1a)
    have K1 := Lib.hid (KB.new w1 N D)
    clear hb1 hb1a H
    have hsp := Lib.hid (fun W => specBlockText_any N D W (by unfold maxLen; omega))
    have him := Lib.hid (fun W hT => implBlockText_any N D W (by omega) hT)
    have hrT := Lib.hid (fun W hT => implReadBlock_any (btS N D) W (by have := btS_size N D; omega) hT)
    have HX := Lib.hid (dy_first (D := D) hN)
    unfold BlkPost at hrT
    generalize btS N D = T at *
    generalize rbN (rbO T) = N1 at *
    generalize rbD (rbO T) = D1 at *
    generalize rbF (rbO T) = F1 at *
    have b0 := K1.out.c0
    have b1 := K1.out.c1
    go_wp2_with fail
    generalize w1.alloc (.cells #[.int .i64 N, .string D] 25) = w2 at *
    generalize w1.heap.size = gb at *
    refine (him.out _ (HTab.out.below B1.out)).mono ?_
    rintro e w3 ⟨rfl, hb3⟩
    have K3 := Lib.hid (K1.out.below hb3 K1.out.lt)
    have C3 := Lib.hid (C1.out.below hb3)
    have B3 := Lib.hid (B1.out.trans (hb3.mono B1.out.size))
    clear hb3 b0 b1 K1 C1 B1
    go_wp2_with fail
    refine (hrT.out _ (HTab.out.below B3.out)).mono ?_
    rintro e w4 ⟨rfl, hb4⟩
    have hb4a := hb4.trans ((below1 w4 (.cells #[.int .i64 N1, .string D1] 25)).mono hb4.size)
    have K4 := Lib.hid (K3.out.below hb4a K3.out.lt)
    have C4 := Lib.hid (C3.out.below hb4a)
    have B4 := Lib.hid (B3.out.trans (hb4a.mono B3.out.size))
    have X4 := Lib.hid (KB.new w4 N1 D1)
    clear hb4 hb4a K3 C3 B3 hrT
    go_wp2_with fail
    generalize w4.alloc (.cells #[.int .i64 N1, .string D1] 25) = w5 at *
    generalize w4.heap.size = gx at *
    refine (DrawReadBlock_any A n c _ C4.out).mono ?_
    rintro e w6 ⟨U, rfl, hU, hb6⟩
    have K6 := Lib.hid (K4.out.below hb6 K4.out.lt)
    have X6 := Lib.hid (X4.out.below hb6 X4.out.lt)
    have C6 := Lib.hid (C4.out.below hb6)
    have B6 := Lib.hid (B4.out.trans (hb6.mono B4.out.size))
    clear hb6 K4 C4 B4 X4
    have hrU := Lib.hid (fun W hT => implReadBlock_any U W (by omega) hT)
    have hsU := Lib.hid (fun W => specReadBlock_any U W (by omega))
    have HY := Lib.hid (dy_second U)
    unfold BlkPost at hrU hsU
    generalize rbN (rbO U) = N2 at *
    generalize rbD (rbO U) = D2 at *
    generalize rbF (rbO U) = F2 at *
    go_wp2_with fail
    refine (hrU.out _ (HTab.out.below B6.out)).mono ?_
    rintro e w7 ⟨rfl, hb7⟩
    have hb7a := hb7.trans ((below1 w7 (.cells #[.int .i64 N2, .string D2] 25)).mono hb7.size)
    have K7 := Lib.hid (K6.out.below hb7a K6.out.lt)
    have X7 := Lib.hid (X6.out.below hb7a X6.out.lt)
    have C7 := Lib.hid (C6.out.below hb7a)
    have B7 := Lib.hid (B6.out.trans (hb7a.mono B6.out.size))
    have Y7 := Lib.hid (KB.new w7 N2 D2)
    clear hb7 hb7a K6 C6 B6 X6 hrU
    go_wp2_with fail
    generalize w7.alloc (.cells #[.int .i64 N2, .string D2] 25) = w8 at *
    generalize w7.heap.size = gy at *
    refine (hsU.out _).mono ?_
    rintro e w9 ⟨rfl, hb9⟩
    have hb9a := hb9.trans ((below1 w9 (.cells #[.int .i64 N2, .string D2] 25)).mono hb9.size)
    have K9 := Lib.hid (K7.out.below hb9a K7.out.lt)
    have X9 := Lib.hid (X7.out.below hb9a X7.out.lt)
    have Y9 := Lib.hid (Y7.out.below hb9a Y7.out.lt)
    have C9 := Lib.hid (C7.out.below hb9a)
    have B9 := Lib.hid (B7.out.trans (hb9a.mono B7.out.size))
    have Z9 := Lib.hid (KB.new w9 N2 D2)
    clear hb9 hb9a K7 C7 B7 X7 Y7 hsU
    go_wp2_with fail
    generalize w9.alloc (.cells #[.int .i64 N2, .string D2] 25) = w10 at *
    generalize w9.heap.size = gz at *
    refine (DrawSumOf_any A n c _ C9.out).mono ?_
    rintro e w11 ⟨V, rfl, hV, hb11⟩
    have HQ := Lib.hid (show TQ w gb gx gy gz N D N1 D1 N2 D2 w11 from ⟨K9.out.below hb11 K9.out.lt, X9.out.below hb11 X9.out.lt, Y9.out.below hb11 Y9.out.lt, Z9.out.below hb11 Z9.out.lt, B9.out.trans (hb11.mono B9.out.size)⟩)
    clear hb11 K9 X9 Y9 C9 B9 Z9
    have hiV := Lib.hid (fun W => implSumOf_any V W (by unfold maxLen; omega))
    have hsV := Lib.hid (fun W => specSumOf_any V W (by unfold maxLen; omega))
    generalize sumV V = S at *
    have b0 := HQ.out.b.c0
    have b1 := HQ.out.b.c1
    have x0 := HQ.out.x.c0
    have x1 := HQ.out.x.c1
    have y0 := HQ.out.y.c0
    have y1 := HQ.out.y.c1
    have z0 := HQ.out.z.c0
    have z1 := HQ.out.z.c1
    go_wp2_with fail
    refine (hsp.out _).mono ?_
    rintro e w12 ⟨rfl, hbX⟩
    have HQT := Lib.hid (HQ.out.next hbX)
    clear HQ hbX b0 b1 x0 x1 y0 y1 z0 z1
    have HQ := HQT
    clear HQT
    have b0 := HQ.out.b.c0
    have b1 := HQ.out.b.c1
    have x0 := HQ.out.x.c0
    have x1 := HQ.out.x.c1
    have y0 := HQ.out.y.c0
    have y1 := HQ.out.y.c1
    have z0 := HQ.out.z.c0
    have z1 := HQ.out.z.c1
    go_wp2_with fail
    refine (hiV.out _).mono ?_
    rintro e w13 ⟨rfl, hbX⟩
    have HQT := Lib.hid (HQ.out.next hbX)
    clear HQ hbX b0 b1 x0 x1 y0 y1 z0 z1
    have HQ := HQT
    clear HQT
    have b0 := HQ.out.b.c0
    have b1 := HQ.out.b.c1
    have x0 := HQ.out.x.c0
    have x1 := HQ.out.x.c1
    have y0 := HQ.out.y.c0
    have y1 := HQ.out.y.c1
    have z0 := HQ.out.z.c0
    have z1 := HQ.out.z.c1
    go_wp2_with fail
    refine (hsV.out _).mono ?_
    rintro e w14 ⟨rfl, hbX⟩
    have HQT := Lib.hid (HQ.out.next hbX)
    clear HQ hbX b0 b1 x0 x1 y0 y1 z0 z1
    have HQ := HQT
    clear HQT
    have b0 := HQ.out.b.c0
    have b1 := HQ.out.b.c1
    have x0 := HQ.out.x.c0
    have x1 := HQ.out.x.c1
    have y0 := HQ.out.y.c0
    have y1 := HQ.out.y.c1
    have z0 := HQ.out.z.c0
    have z1 := HQ.out.z.c1
    rcases HY.out with ⟨rfl, hyU, hyz⟩ | rfl
    · have hpU := Lib.hid (fun W hT => implBlockText_any N2 D2 W (by omega) hT)
      rw [hyU] at hpU
      clear hyU
      go_wp2_with fail
      refine (hpU.out _ (HTab.out.below HQ.out.f)).mono ?_
      rintro e w15 ⟨rfl, hbX⟩
      have HQT := Lib.hid (HQ.out.next hbX)
      clear HQ hbX b0 b1 x0 x1 y0 y1 z0 z1
      have HQ := HQT
      clear HQT
      have b0 := HQ.out.b.c0
      have b1 := HQ.out.b.c1
      have x0 := HQ.out.x.c0
      have x1 := HQ.out.x.c1
      have y0 := HQ.out.y.c0
      have y1 := HQ.out.y.c1
      have z0 := HQ.out.z.c0
      have z1 := HQ.out.z.c1
      rcases HX.out with ⟨rfl, rfl, rfl, hne⟩ | ⟨rfl, hne⟩
      · have hne2 := dy_ne hne
        go_wp2_with fail
        go_ret
        exact ⟨rfl, HQ.out.f⟩
      · subst hne
        go_wp2_with fail
        go_ret
        exact ⟨rfl, HQ.out.f⟩
    · clear him
      rcases HX.out with ⟨rfl, rfl, rfl, hne⟩ | ⟨rfl, hne⟩
      · have hne2 := dy_ne hne
        go_wp2_with fail
        go_ret
        exact ⟨rfl, HQ.out.f⟩
      · subst hne
        go_wp2_with fail
        go_ret
        exact ⟨rfl, HQ.out.f⟩
  · have hd : decide (1048576 < (n : Int)) = true := by simp; omega
    rw [hd] at hbig
    have Hbig := Lib.hid hbig
    clear hbig hd h
    go_enter Tryz.func3, Tryz.ntmps3
    go_wp2_with fail
    refine (Hbig.out _).mono ?_
    rintro e w' ⟨rfl, rfl⟩
    go_wp2_with fail
    go_ret
    exact ⟨rfl, Below.refl _ _⟩
end Go.Proofs.YtldjeacpkndcbaaGreatDoor
