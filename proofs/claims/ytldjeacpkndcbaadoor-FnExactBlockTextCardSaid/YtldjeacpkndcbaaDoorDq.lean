/- Walks: a block read from its text: the document. -/
import Derived.Test.YtldjeacpkndcbaaDoorDm
import Derived.Test.YtldjeacpkndcbaaDoorGd
set_option linter.unusedVariables false
set_option linter.unusedSimpArgs false
namespace Go.Proofs.YtldjeacpkndcbaaDoor
open Go.RowKit Go.Shelf

theorem dn_wrap {x : Int} (h : -9223372036854775808 ≤ x) (h2 : x ≤ 9223372036854775807) : IntKind.i64.wrap x = x ∧ wrap64 x = x := ⟨IntWalk.i64_in _ (by omega), by unfold wrap64; omega⟩
theorem dn_far {p v n : Nat} (hp : p ≤ 20) (hv : v < 2 ^ 63) (hn : n ≤ 5000) (h : ¬ p + v + 4 = n) : ¬ wrap64 (wrap64 ((p : Int) + (v : Int)) + 4) = (n : Int) := by unfold wrap64; omega
theorem dn_zv {v : Nat} (h : v < 2 ^ 64) : wrap64 (v : Int) < 0 ∨ (v < 2 ^ 63 ∧ wrap64 (v : Int) = (v : Int)) := by unfold wrap64; omega
theorem dn_neg {p v n : Nat} (h : n ≤ 5000) (hz : wrap64 (v : Int) < 0) : ¬ p + v ≤ n := by unfold wrap64 at hz; omega
theorem rb_far {s : ByteArray} {u p v : Nat} (h5 : s.size ≤ 5000) (h : rbC s = some (u, p, v)) (hn : ¬ p + v + 4 = s.size) : rbO s = none := by
  rw [rbO_s h5 h, if_neg (fun he => hn (rb_len h h5 he))]

set_option maxRecDepth 100000 in
set_option maxHeartbeats 4000000 in
theorem specRB_good (s R D : ByteArray) (n : Int) (T : ByteArray) (a k p v t : Nat) (w : World) (h5' : s.size ≤ 5000)
    (hr : Hid (∀ W, Calls Tryd.prog 83 #[.string s] W fun e w' => e = .returned (.tuple #[.int .i64 n, .int .i64 (a : Int), .bool true]) ∧ Below W.heap.size W w'))
    (hr2 : Hid (∀ W, Calls Tryd.prog 83 #[.string R] W fun e w' => e = .returned (.tuple #[.int .i64 (v : Int), .int .i64 (k : Int), .bool true]) ∧ Below W.heap.size W w'))
    (HO : Hid (rbO s = if T = s then some (n, D) else none))
    (HBT : Hid (∀ W, Calls Tryd.prog 40 #[.agg #[.int .i64 n, .string D]] W fun e w' => e = .returned (.string T) ∧ Below W.heap.size W w'))
    (hR : s.extract a s.size = R) (hD : s.extract p t = D)
    (hai : (a : Int) ≤ (s.size : Int)) (hai0 : (0 : Int) ≤ (a : Int)) (hi : ¬ (5000 : Int) < s.size)
    (e1 : IntKind.i64.wrap ((a : Int) + (k : Int)) = (p : Int)) (e2 : IntKind.i64.wrap ((p : Int) + (v : Int)) = (t : Int)) (e3 : IntKind.i64.wrap ((t : Int) + 4) = (s.size : Int))
    (e1' : wrap64 ((a : Int) + (k : Int)) = (p : Int)) (e2' : wrap64 ((p : Int) + (v : Int)) = (t : Int)) (e3' : wrap64 ((t : Int) + 4) = (s.size : Int))
    (hpt : (p : Int) ≤ (t : Int)) (hp0 : (0 : Int) ≤ (p : Int)) (hts : (t : Int) ≤ (s.size : Int)) (hv0 : decide ((v : Int) < 0) = false) (hv1 : ¬ (v : Int) < 0) (htn : ((t : Int)).toNat = t) (hpn : ((p : Int)).toNat = p) :
    Calls Tryd.prog 42 #[.string s] w (BlkPost (rbN (rbO s)) (rbD (rbO s)) (rbF (rbO s)) w) := by
  have HK0 := Lib.hid (KB.new w 0 ⟨#[]⟩)
  have HB0 := Lib.hid (below1 w (.cells #[.int .i64 0, .string ⟨#[]⟩] 38))
  have z0 : w.heap.size < (w.alloc (.cells #[.int .i64 0, .string ⟨#[]⟩] 38)).heap.size := by simp
  go_enter Tryd.func42, Tryd.ntmps42
  go_wp2_with fail
  refine (hr.out _).mono ?_
  rintro e w1 ⟨rfl, hb1⟩
  have HK1 := Lib.hid (HK0.out.below hb1 z0)
  have HF := Lib.hid (HB0.out.trans (hb1.mono HB0.out.size))
  clear hb1
  go_wp2_with fail
  refine (hr2.out _).mono ?_
  rintro e w2 ⟨rfl, hb2⟩
  have HK2 := Lib.hid (HK1.out.below hb2 HK1.out.lt)
  have HF2 := Lib.hid (HF.out.trans (hb2.mono HF.out.size))
  clear hb2
  have HK4 := Lib.hid (HK2.out.below (below1 w2 (.cells #[.int .i64 n, .string D] 38)) HK2.out.lt)
  have HF4 := Lib.hid (HF2.out.trans ((below1 w2 (.cells #[.int .i64 n, .string D] 38)).mono HF2.out.size))
  have HD4 := Lib.hid (KB.new w2 n D)
  go_wp2_with fail
  refine (HBT.out _).mono ?_
  rintro e w5 ⟨rfl, hb5⟩
  have HK5 := Lib.hid (HK4.out.below hb5 HK4.out.lt)
  have HD5 := HD4.out.below hb5 HD4.out.lt
  have HF5 := Lib.hid (HF4.out.trans (hb5.mono HF4.out.size))
  have r0 := HK5.out.c0
  have r1 := HK5.out.c1
  have f0 := HK5.out.f 0
  have f1 := HK5.out.f 1
  have d0 := HD5.c0
  have d1 := HD5.c1
  clear hb5 HD5 e3 e3'
  by_cases hTs : T = s
  · have E := Lib.hid (show rbO s = some (n, D) by rw [HO.out, if_pos hTs])
    subst hTs
    go_wp2_with fail
    exact bodyPost_ret (v := .tuple #[.agg #[.int .i64 n, .string D], .bool true]) (by simp [results, Tryd.results42, go_sem, r0, r1]) rfl ⟨by rw [E.out]; rfl, by
      repeat (first | exact HF5.out | refine Below.setCell ?_ (by simp) _)⟩
  · have E := Lib.hid (show rbO s = none by rw [HO.out, if_neg hTs])
    have hne := ba_ne hTs
    have hne1 : (T.toList == s.toList) = false := by simpa using hne
    have hne2 : (T.toList != s.toList) = true := by simpa using hne
    have hne3 : decide (T.toList = s.toList) = false := by simpa using hne
    go_wp2_with fail
    exact bodyPost_ret (v := .tuple #[.agg #[.int .i64 0, .string ⟨#[]⟩], .bool false]) (by simp [results, Tryd.results42, go_sem, r0, r1]) rfl ⟨by rw [E.out]; rfl, by
      repeat (first | exact HF5.out | refine Below.setCell ?_ (by simp) _)⟩

set_option maxRecDepth 100000 in
set_option maxHeartbeats 4000000 in
theorem specReadBlock_any (s : ByteArray) (w : World) (hs : s.size ≤ 1000000000) :
    Calls Tryd.prog 42 #[.string s] w (BlkPost (rbN (rbO s)) (rbD (rbO s)) (rbF (rbO s)) w) := by
  have hrd := Lib.hid (fun t W ht => specReadVar_any t W ht)
  unfold RdVPost at hrd
  have hm : ∀ t : ByteArray, t.size ≤ 1000000000 → t.size ≤ maxLen := fun t h => by unfold maxLen; omega
  have HK0 := Lib.hid (KB.new w 0 ⟨#[]⟩)
  have HB0 := Lib.hid (below1 w (.cells #[.int .i64 0, .string ⟨#[]⟩] 38))
  have z0 : w.heap.size < (w.alloc (.cells #[.int .i64 0, .string ⟨#[]⟩] 38)).heap.size := by simp
  cases hv : VM.readV s.data.toList with
  | none =>
    have E := Lib.hid (rbO_c (rbC_0 hv))
    have hr := Lib.hid (fun W => hrd.out s W (hm s hs))
    rw [rdVal_n hv] at hr
    clear hv hm
    go_enter Tryd.func42, Tryd.ntmps42
    go_wp2_with fail
    refine (hr.out _).mono ?_
    rintro e w1 ⟨rfl, hb1⟩
    have HK1 := Lib.hid (HK0.out.below hb1 z0)
    have HF := Lib.hid (HB0.out.trans (hb1.mono HB0.out.size))
    have r0 := HK1.out.c0
    have r1 := HK1.out.c1
    have f0 := HK1.out.f 0
    have f1 := HK1.out.f 1
    clear hb1
    go_wp2_with fail
    exact bodyPost_ret (v := .tuple #[.agg #[.int .i64 0, .string ⟨#[]⟩], .bool false]) (by simp [results, Tryd.results42, go_sem, r0, r1]) rfl ⟨by rw [E.out]; rfl, by
      repeat (first | exact HF.out | refine Below.setCell ?_ (by simp) _)⟩
  | some p =>
    obtain ⟨u, a⟩ := p
    obtain ⟨g1, g2, g3, g4, g5⟩ := VM.readV_spec hv
    rw [ba_len] at g5
    have hr := Lib.hid (fun W => hrd.out s W (hm s hs))
    rw [rdVal_s hv] at hr
    by_cases h5 : 5000 < s.size
    · have hi : (5000 : Int) < s.size := by omega
      have E := Lib.hid (rbO_big h5)
      clear hv hm g1 g2
      go_enter Tryd.func42, Tryd.ntmps42
      go_wp2_with fail
      refine (hr.out _).mono ?_
      rintro e w1 ⟨rfl, hb1⟩
      have HK1 := Lib.hid (HK0.out.below hb1 z0)
      have HF := Lib.hid (HB0.out.trans (hb1.mono HB0.out.size))
      have r0 := HK1.out.c0
      have r1 := HK1.out.c1
      have f0 := HK1.out.f 0
      have f1 := HK1.out.f 1
      clear hb1
      go_wp2_with fail
      exact bodyPost_ret (v := .tuple #[.agg #[.int .i64 0, .string ⟨#[]⟩], .bool false]) (by simp [results, Tryd.results42, go_sem, r0, r1]) rfl ⟨by rw [E.out]; rfl, by
        repeat (first | exact HF.out | refine Below.setCell ?_ (by simp) _)⟩
    · have hi : ¬ (5000 : Int) < s.size := by omega
      have h5' : s.size ≤ 5000 := by omega
      obtain ⟨R, hR⟩ : ∃ R, s.extract a s.size = R := ⟨_, rfl⟩
      have hRz : R.size = s.size - a := by rw [← hR, ByteArray.size_extract]; omega
      have hRd : R.data.toList = s.data.toList.drop a := by rw [← hR, ex_drop]
      have hai : (a : Int) ≤ (s.size : Int) := by omega
      have hai0 : (0 : Int) ≤ (a : Int) := by omega
      have hr2 := Lib.hid (fun W => hrd.out R W (hm _ (by omega)))
      cases hv2 : VM.readV (s.data.toList.drop a) with
      | none =>
        have E := Lib.hid (rbO_c (rbC_1 hv hv2))
        rw [rdVal_n (by rw [hRd]; exact hv2)] at hr2
        clear hv hv2 g1 g2 hm hRz hRd
        go_enter Tryd.func42, Tryd.ntmps42
        go_wp2_with fail
        refine (hr.out _).mono ?_
        rintro e w1 ⟨rfl, hb1⟩
        have HK1 := Lib.hid (HK0.out.below hb1 z0)
        have HF := Lib.hid (HB0.out.trans (hb1.mono HB0.out.size))
        clear hb1
        go_wp2_with fail
        refine (hr2.out _).mono ?_
        rintro e w2 ⟨rfl, hb2⟩
        have HK2 := Lib.hid (HK1.out.below hb2 HK1.out.lt)
        have HF2 := Lib.hid (HF.out.trans (hb2.mono HF.out.size))
        clear hb2
        have r0 := HK2.out.c0
        have r1 := HK2.out.c1
        have f0 := HK2.out.f 0
        have f1 := HK2.out.f 1
        go_wp2_with fail
        exact bodyPost_ret (v := .tuple #[.agg #[.int .i64 0, .string ⟨#[]⟩], .bool false]) (by simp [results, Tryd.results42, go_sem, r0, r1]) rfl ⟨by rw [E.out]; rfl, by
          repeat (first | exact HF2.out | refine Below.setCell ?_ (by simp) _)⟩
      | some q =>
        obtain ⟨v, k⟩ := q
        obtain ⟨k1, k2, k3, k4, k5⟩ := VM.readV_spec hv2
        rw [List.length_drop, ba_len] at k5
        rw [rdVal_s (by rw [hRd]; exact hv2)] at hr2
        have HC := Lib.hid (rbC_2 hv hv2)
        obtain ⟨p, hp⟩ : ∃ p, a + k = p := ⟨_, rfl⟩
        have hp20 : p ≤ 20 := by omega
        rw [hp] at HC
        have e1 := Lib.hid (dn_wrap (x := (p : Int)) (by omega) (by omega))
        have hap : (a : Int) + (k : Int) = (p : Int) := by omega
        have hp' : p ≤ s.size := by omega
        clear hv hv2 g2 k2 hRd hRz
        rcases dn_zv k1 with hz | ⟨hv63, hz⟩
        · have E := Lib.hid (show rbO s = none by
            rw [if_neg (dn_neg h5' hz)] at HC; exact rbO_c HC.out)
          have hz2 : decide (wrap64 (v : Int) < 0) = true := by simpa using hz
          generalize wrap64 (v : Int) = z at *
          clear hm g1 k1 k5 g5 h5 h5' HC hp' hp
          go_enter Tryd.func42, Tryd.ntmps42
          go_wp2_with fail
          refine (hr.out _).mono ?_
          rintro e w1 ⟨rfl, hb1⟩
          have HK1 := Lib.hid (HK0.out.below hb1 z0)
          have HF := Lib.hid (HB0.out.trans (hb1.mono HB0.out.size))
          clear hb1
          go_wp2_with fail
          refine (hr2.out _).mono ?_
          rintro e w2 ⟨rfl, hb2⟩
          have HK2 := Lib.hid (HK1.out.below hb2 HK1.out.lt)
          have HF2 := Lib.hid (HF.out.trans (hb2.mono HF.out.size))
          clear hb2
          have r0 := HK2.out.c0
          have r1 := HK2.out.c1
          have f0 := HK2.out.f 0
          have f1 := HK2.out.f 1
          go_wp2_with fail
          exact bodyPost_ret (v := .tuple #[.agg #[.int .i64 0, .string ⟨#[]⟩], .bool false]) (by simp [results, Tryd.results42, go_sem, r0, r1]) rfl ⟨by rw [E.out]; rfl, by
            repeat (first | exact HF2.out | refine Below.setCell ?_ (by simp) _)⟩
        · rw [hz] at hr2
          clear hz
          by_cases hg : p + v + 4 = s.size
          · rw [if_pos (by omega)] at HC
            have HO := Lib.hid (rbO_s h5' HC.out)
            obtain ⟨t, ht⟩ : ∃ t, p + v = t := ⟨_, rfl⟩
            rw [ht] at HO
            obtain ⟨D, hD⟩ : ∃ D, s.extract p t = D := ⟨_, rfl⟩
            rw [hD] at HO
            have hDz : D.size ≤ 5000 := by rw [← hD, ByteArray.size_extract]; omega
            have HBT := Lib.hid (fun W => specBlockText_any (wrap64 (u : Int)) D W (by unfold maxLen; omega))
            have q2 : (p : Int) + (v : Int) = (t : Int) := by omega
            have q3 : (t : Int) + 4 = (s.size : Int) := by omega
            have q4 : (p : Int) ≤ (t : Int) ∧ (0 : Int) ≤ (p : Int) ∧ (t : Int) ≤ (s.size : Int) ∧ ¬ (v : Int) < 0 ∧ ((t : Int)).toNat = t ∧ ((p : Int)).toNat = p := by omega
            have e2 := Lib.hid (dn_wrap (x := (t : Int)) (by omega) (by omega))
            have e3 := Lib.hid (dn_wrap (x := (s.size : Int)) (by omega) (by omega))
            exact specRB_good s R D _ _ a k p v t w h5' hr hr2 HO HBT hR hD hai hai0 hi (by rw [hap]; exact e1.out.1) (by rw [q2]; exact e2.out.1) (by rw [q3]; exact e3.out.1) (by rw [hap]; exact e1.out.2) (by rw [q2]; exact e2.out.2) (by rw [q3]; exact e3.out.2) q4.1 q4.2.1 q4.2.2.1 (decide_eq_false q4.2.2.2.1) q4.2.2.2.1 q4.2.2.2.2.1 q4.2.2.2.2.2
          · have hv1 : ¬ (v : Int) < 0 := by omega
            have hv0 : decide ((v : Int) < 0) = false := decide_eq_false hv1
            have E := Lib.hid (show rbO s = none by
              by_cases hc : p + v ≤ s.size
              · rw [if_pos hc] at HC; exact rb_far h5' HC.out hg
              · rw [if_neg hc] at HC; exact rbO_c HC.out)
            have hfar := dn_far hp20 hv63 h5' hg
            have w1 : wrap64 ((a : Int) + (k : Int)) = (p : Int) := by rw [hap]; exact e1.out.2
            have w2 : IntKind.i64.wrap ((a : Int) + (k : Int)) = (p : Int) := by rw [hap]; exact e1.out.1
            have w3 : IntKind.i64.wrap ((p : Int) + (v : Int)) = wrap64 ((p : Int) + (v : Int)) := u_i64_wrap _
            have w4 : IntKind.i64.wrap (wrap64 ((p : Int) + (v : Int)) + 4) = wrap64 (wrap64 ((p : Int) + (v : Int)) + 4) := u_i64_wrap _
            clear hm g1 k1 k5 g5 h5 h5' HC hp' hp hap e1 hg hv63
            obtain ⟨X, hX⟩ : ∃ X, wrap64 ((p : Int) + (v : Int)) = X := ⟨_, rfl⟩
            rw [hX] at w3 w4 hfar
            obtain ⟨Y, hY⟩ : ∃ Y, wrap64 (X + 4) = Y := ⟨_, rfl⟩
            rw [hY] at w4 hfar
            have hf2 : decide (Y = (s.size : Int)) = false := by simpa using hfar
            go_enter Tryd.func42, Tryd.ntmps42
            go_wp2_with fail
            refine (hr.out _).mono ?_
            rintro e w1 ⟨rfl, hb1⟩
            have HK1 := Lib.hid (HK0.out.below hb1 z0)
            have HF := Lib.hid (HB0.out.trans (hb1.mono HB0.out.size))
            clear hb1
            go_wp2_with fail
            refine (hr2.out _).mono ?_
            rintro e w2 ⟨rfl, hb2⟩
            have HK2 := Lib.hid (HK1.out.below hb2 HK1.out.lt)
            have HF2 := Lib.hid (HF.out.trans (hb2.mono HF.out.size))
            clear hb2
            have r0 := HK2.out.c0
            have r1 := HK2.out.c1
            have f0 := HK2.out.f 0
            have f1 := HK2.out.f 1
            go_wp2_with fail
            exact bodyPost_ret (v := .tuple #[.agg #[.int .i64 0, .string ⟨#[]⟩], .bool false]) (by simp [results, Tryd.results42, go_sem, r0, r1]) rfl ⟨by rw [E.out]; rfl, by
              repeat (first | exact HF2.out | refine Below.setCell ?_ (by simp) _)⟩
end Go.Proofs.YtldjeacpkndcbaaDoor

/- Walks: the law FnExactBlockOf. -/
set_option linter.unusedVariables false
set_option linter.unusedSimpArgs false
namespace Go.Proofs.YtldjeacpkndcbaaDoor
open Go.RowKit

set_option maxRecDepth 100000 in
set_option maxHeartbeats 400000 in
theorem eqBlock_same (N : Int) (D : ByteArray) (w : World) :
    Calls Tryd.prog 44 #[.agg #[.int .i64 N, .string D], .agg #[.int .i64 N, .string D]] w fun e w' => e = .returned (.bool true) ∧ Below w.heap.size w w' := by
  go_enter Tryd.func44, Tryd.ntmps44
  go_wp2
  go_ret
  exact ⟨rfl, below2 w _ _⟩

end Go.Proofs.YtldjeacpkndcbaaDoor

/- Walks: the laws FnExactBlockText, FnExactReadBlock. -/
set_option linter.unusedVariables false
set_option linter.unusedSimpArgs false
namespace Go.Proofs.YtldjeacpkndcbaaDoor
open Go.RowKit

set_option maxRecDepth 100000 in
set_option maxHeartbeats 400000 in
theorem toBlockQ_any (n : Int) (s : ByteArray) (w : World) :
    Calls Tryd.prog 36 #[.agg #[.int .i64 n, .string s]] w fun e w' => e = .returned (.agg #[.int .i64 n, .string s]) ∧ Below w.heap.size w w' := by
  go_enter Tryd.func36, Tryd.ntmps36
  go_wp2
  exact bodyPost_ret (v := .agg #[.int .i64 n, .string s]) (by simp [results, Tryd.results36, go_sem]) rfl ⟨rfl, by
    repeat (first | exact Below.refl _ _ | refine Below.alloc ?_ (by simp; try omega) _ | refine Below.setCell ?_ (by simp; try omega) _ | refine Below.drew ?_)⟩

set_option maxRecDepth 100000 in
set_option maxHeartbeats 400000 in
theorem szBlockQ_any (n : Int) (s : ByteArray) (l : Int) (w : World) (h0 : 0 ≤ l) (h1 : l ≤ 1048576) (hs : s.size ≤ maxLen) :
    Calls Tryd.prog 35 #[.agg #[.int .i64 n, .string s], .int .i64 l] w fun e w' => e = .returned (.int .i64 (if l < s.size then -1 else l - s.size)) ∧ Below w.heap.size w w' := by
  unfold maxLen at hs
  by_cases h : l < s.size
  · go_enter Tryd.func35, Tryd.ntmps35
    go_wp2
    go_ret
    exact ⟨rfl, (Below.refl _ _).alloc (Nat.le_refl _) _⟩
  · go_enter Tryd.func35, Tryd.ntmps35
    go_wp2
    go_ret
    exact ⟨rfl, (Below.refl _ _).alloc (Nat.le_refl _) _⟩

set_option maxRecDepth 100000 in
set_option maxHeartbeats 2000000 in
theorem walkFnExactBlockText (N : Int) (s : ByteArray) (w : World) (hs : s.size ≤ maxLen) (_wn : (Lit.int .i64 N).wf = true) (hT : Tab w) :
    Calls Tryd.prog 8 #[.agg #[.int .i64 N, .string s]] w fun e w' => e = .returned (.bool true) ∧ Below w.heap.size w w' := by
  have HB0 := Lib.hid (below1 w (.cells #[.int .i64 N, .string s] 54))
  by_cases hbig : (1048576 : Int) < s.size
  · have hsz := fun W => szBlockQ_any N s 1048576 W (by omega) (by omega) hs
    rw [if_pos hbig] at hsz
    have Hsz := Lib.hid hsz
    clear hsz hT
    go_enter Tryd.func8, Tryd.ntmps8
    go_wp2_with fail
    refine (Hsz.out _).mono ?_
    rintro e w1 ⟨rfl, hb1⟩
    go_wp2_with fail
    go_ret
    exact ⟨rfl, HB0.out.trans (hb1.mono HB0.out.size)⟩
  · have hsz := fun W => szBlockQ_any N s 1048576 W (by omega) (by omega) hs
    rw [if_neg hbig] at hsz
    have Hsz := Lib.hid hsz
    clear hsz
    have hA : (0 : Int) ≤ 1048576 - s.size := by omega
    have hA2 : decide ((1048576 : Int) - s.size < 0) = false := by simp; omega
    have h1 := Lib.hid (fun W => specBlockText_any N s W hs)
    have h2 := Lib.hid (fun W hT => implBlockText_any N s W (by omega) hT)
    have HTab := Lib.hid hT
    clear hT
    generalize btS N s = T at *
    have HK0 : Hid ((w.alloc (.cells #[.int .i64 N, .string s] 54)).heap[w.heap.size]? = some (.cells #[.int .i64 N, .string s] 54 (0, 0))) := Lib.hid (heap_alloc_new w _)
    have z0 : w.heap.size < (w.alloc (.cells #[.int .i64 N, .string s] 54)).heap.size := by simp
    go_enter Tryd.func8, Tryd.ntmps8
    go_wp2_with fail
    generalize w.alloc (.cells #[.int .i64 N, .string s] 54) = w0 at *
    refine (Hsz.out _).mono ?_
    rintro e w1 ⟨rfl, hb1⟩
    have hr1 := (hb1.block _ z0).trans HK0.out
    have x0 : w1.cell? ⟨w.heap.size, 0, none⟩ = some (.int .i64 N) := by rw [cell_of_row w1 _ 0 _ _ _ hr1]; rfl
    have x1 : w1.cell? ⟨w.heap.size, 1, none⟩ = some (.string s) := by rw [cell_of_row w1 _ 1 _ _ _ hr1]; rfl
    have F1 := Lib.hid (HB0.out.trans (hb1.mono HB0.out.size))
    have z1 := Nat.lt_of_lt_of_le z0 hb1.size
    clear hb1 hr1
    go_wp2_with fail
    refine (toBlockQ_any N s _).mono ?_
    rintro e w2 ⟨rfl, hb2⟩
    have y0 := (hb2.cell (p := ⟨w.heap.size, 0, none⟩) z1).trans x0
    have y1 := (hb2.cell (p := ⟨w.heap.size, 1, none⟩) z1).trans x1
    have F2 := Lib.hid (F1.out.trans (hb2.mono F1.out.size))
    have z2 := Nat.lt_of_lt_of_le z1 hb2.size
    clear hb2 x0 x1
    go_wp2_with fail
    refine (h1.out _).mono ?_
    rintro e w3 ⟨rfl, hb3⟩
    have x0 := (hb3.cell (p := ⟨w.heap.size, 0, none⟩) z2).trans y0
    have x1 := (hb3.cell (p := ⟨w.heap.size, 1, none⟩) z2).trans y1
    have F3 := Lib.hid (F2.out.trans (hb3.mono F2.out.size))
    clear hb3 y0 y1
    go_wp2_with fail
    refine (toBlockQ_any N s _).mono ?_
    rintro e w4 ⟨rfl, hb4⟩
    have F4 := Lib.hid (F3.out.trans (hb4.mono F3.out.size))
    clear hb4 x0 x1
    go_wp2_with fail
    refine (h2.out _ (HTab.out.below F4.out)).mono ?_
    rintro e w5 ⟨rfl, hb5⟩
    have F5 := Lib.hid (F4.out.trans (hb5.mono F4.out.size))
    clear hb5
    go_wp2_with fail
    go_ret
    exact ⟨rfl, F5.out⟩

set_option maxRecDepth 100000 in
set_option maxHeartbeats 2000000 in
theorem walkFnExactReadBlock (s : ByteArray) (w : World) (hs : s.size ≤ maxLen) (hT : Tab w) :
    Calls Tryd.prog 9 #[.string s] w fun e w' => e = .returned (.bool true) ∧ Below w.heap.size w w' := by
  by_cases hbig : (1048576 : Int) < s.size
  · clear hT
    go_enter Tryd.func9, Tryd.ntmps9
    go_wp2_with fail
    go_ret
    exact ⟨rfl, Below.refl _ _⟩
  · have h1 := Lib.hid (fun W => specReadBlock_any s W (by omega))
    have h2 := Lib.hid (fun W hT => implReadBlock_any s W (by omega) hT)
    have HTab := Lib.hid hT
    unfold BlkPost at h1 h2
    generalize rbN (rbO s) = K at *
    generalize rbD (rbO s) = D at *
    generalize rbF (rbO s) = F at *
    have heq := Lib.hid (fun W => eqBlock_same K D W)
    clear hT
    go_enter Tryd.func9, Tryd.ntmps9
    go_wp2_with fail
    refine (h1.out _).mono ?_
    rintro e w1 ⟨rfl, hb1⟩
    have F1 := Lib.hid (hb1.trans ((below1 w1 (.cells #[.int .i64 K, .string D] 38)).mono hb1.size))
    have K1 := Lib.hid (KB.new w1 K D)
    clear hb1
    go_wp2_with fail
    refine (h2.out _ (HTab.out.below F1.out)).mono ?_
    rintro e w2 ⟨rfl, hb2⟩
    have F2 := Lib.hid (F1.out.trans ((hb2.trans ((below1 w2 (.cells #[.int .i64 K, .string D] 38)).mono hb2.size)).mono F1.out.size))
    have K2 := (K1.out.below hb2 K1.out.lt).below (below1 w2 (.cells #[.int .i64 K, .string D] 38)) (Nat.lt_of_lt_of_le K1.out.lt hb2.size)
    have K3 := KB.new w2 K D
    have x0 := K2.c0
    have x1 := K2.c1
    have y0 := K3.c0
    have y1 := K3.c1
    clear hb2 K2 K3
    go_wp2_with fail
    refine (heq.out _).mono ?_
    rintro e w3 ⟨rfl, hb3⟩
    have F3 := Lib.hid (F2.out.trans (hb3.mono F2.out.size))
    clear hb3 x0 x1 y0 y1
    go_wp2_with fail
    go_ret
    exact ⟨rfl, F3.out⟩

end Go.Proofs.YtldjeacpkndcbaaDoor
