/- Walks: the law FnSets. -/
import Derived.Test.YtinpndoepppboaaAg
import Derived.Test.YtinpndoepppboaaAj
import Derived.Test.YtinpndoepppboaaAk
import Derived.Test.YtinpndoepppboaaIs
set_option linter.unusedVariables false
set_option linter.unusedSimpArgs false
namespace Go.Proofs.Ytinpndoepppboaa
open Go.RowKit

theorem idsB_of {l : List Int} (h : Ris l) (hl : l.length ≤ 1000) : idsB l = true := by
  unfold idsB
  rw [decide_eq_true hl, Bool.and_true]
  unfold risTo
  rw [List.all_eq_true]
  intro j hj
  have hj : j < l.length := by simpa using hj
  unfold risAt
  rcases Nat.eq_zero_or_pos j with e | e
  · rw [decide_eq_true e]; rfl
  · have := List.pairwise_iff_getElem.1 h (j - 1) j (by omega) hj (by omega)
    rw [List.getD_eq_getElem?_getD, List.getElem?_eq_getElem (show j - 1 < l.length by omega), List.getD_eq_getElem?_getD, List.getElem?_eq_getElem hj, decide_eq_true (show (some l[j - 1]).getD 0 < (some l[j]).getD 0 from this), Bool.or_true]
theorem andL_mem {a b : List Int} {x : Int} : x ∈ andL a b ↔ x ∈ a ∧ x ∈ b := by unfold andL; rw [List.mem_filter]; simp
theorem lessL_mem {a b : List Int} {x : Int} : x ∈ lessL a b ↔ x ∈ a ∧ ¬ x ∈ b := by unfold lessL; rw [List.mem_filter]; simp
theorem andL_ris {a b : List Int} (h : Ris a) : Ris (andL a b) := h.filter _
theorem lessL_ris {a b : List Int} (h : Ris a) : Ris (lessL a b) := h.filter _
theorem and_less_len (a b : List Int) : (andL a b).length + (lessL a b).length = a.length := by
  unfold andL lessL
  induction a with
  | nil => rfl
  | cons x r ih =>
    simp only [List.filter_cons]
    by_cases e : x ∈ b <;> simp [e] <;> omega
theorem and_comm_ris {a b : List Int} (ha : Ris a) (hb : Ris b) : andL b a = andL a b :=
  ris_ext (andL_ris hb) (andL_ris ha) (fun x => by rw [andL_mem, andL_mem]; exact And.comm)
theorem or_comm_ris {a b : List Int} (ha : Ris a) (hb : Ris b) : orL b a = orL a b :=
  ris_ext (orL_ris _ hb) (orL_ris _ ha) (fun x => by rw [orL_mem, orL_mem]; exact Or.comm)
theorem or_back {a b : List Int} (ha : Ris a) : orL (andL a b) (lessL a b) = a :=
  ris_ext (orL_ris _ (andL_ris ha)) ha (fun x => by
    rw [orL_mem, andL_mem, lessL_mem]
    constructor
    · rintro (h | h)
      · exact h.1
      · exact h.1
    · intro h
      by_cases e : x ∈ b
      · exact .inl ⟨h, e⟩
      · exact .inr ⟨h, e⟩)
theorem or_len {a b : List Int} (ha : Ris a) (hb : Ris b) : (orL a b).length + (andL a b).length = a.length + b.length := by
  have h1 : (orL a b).Perm (a ++ lessL b a) := by
    refine (List.perm_ext_iff_of_nodup (ris_nodup (orL_ris _ ha)) ?_).2 (fun x => ?_)
    · rw [List.nodup_append]
      refine ⟨ris_nodup ha, ris_nodup (lessL_ris hb), fun x hx y hy e => ?_⟩
      subst e
      exact (lessL_mem.1 hy).2 hx
    · rw [orL_mem, List.mem_append, lessL_mem]
      constructor
      · rintro (h | h)
        · exact .inl h
        · by_cases e : x ∈ a
          · exact .inl e
          · exact .inr ⟨h, e⟩
      · rintro (h | h)
        · exact .inl h
        · exact .inr h.1
  have h2 := h1.length_eq
  rw [List.length_append] at h2
  have h3 := and_less_len b a
  rw [and_comm_ris ha hb] at h3
  omega
theorem mM_and {a b : List Int} (h1 : idsB a = true) (h2 : idsB b = true) : andM a b = andL a b := by unfold andM; rw [if_pos ⟨h1, h2⟩]
theorem mM_or {a b : List Int} (h1 : idsB a = true) (h2 : idsB b = true) : orM a b = orL a b := by unfold orM; rw [if_pos ⟨h1, h2⟩]
theorem mM_less {a b : List Int} (h1 : idsB a = true) (h2 : idsB b = true) : lessM a b = lessL a b := by unfold lessM; rw [if_pos ⟨h1, h2⟩]

theorem code_below {w w' : World} {A : Option Addr} {n c : Nat} (h : CodeAt w A n c) (hb : Below w.heap.size w w') : CodeAt w' A n c := h.below hb

set_option maxRecDepth 100000 in
set_option maxHeartbeats 16000000 in
theorem walkFnSets (A : Option Addr) (n c : Nat) (w : World) (h : n ≤ 1048576 → CodeAt w A n c) :
    Calls Try.prog 12 #[.slice A n c] w fun e w' => e = .returned (.bool true) ∧ Below w.heap.size w w' := by
  have hbig := fun W => big_any A n c W
  by_cases hb : (n : Int) ≤ 1048576
  case neg =>
    have hd : decide (1048576 < (n : Int)) = true := by simp; omega
    rw [hd] at hbig
    have Hbig := Lib.hid hbig
    clear hbig hd h
    go_enter Try.func12, Try.ntmps12
    go_wp2_with fail
    refine (Hbig.out _).mono ?_
    rintro e w' ⟨rfl, rfl⟩
    go_wp2_with fail
    go_ret
    exact ⟨rfl, Below.refl _ _⟩
  · have hd : decide (1048576 < (n : Int)) = false := by simp; omega
    rw [hd] at hbig
    have Hbig := Lib.hid hbig
    have hcode := Lib.hid (h (by omega))
    have hdA := Lib.hid (fun W h => DrawAnd_any A n c W h)
    have hdO := Lib.hid (fun W h => DrawOr_any A n c W h)
    have hdL := Lib.hid (fun W h => DrawLess_any A n c W h)
    have hAnd := Lib.hid (fun v u a b W h h' => implAnd_any v u a b W h h')
    have hOr := Lib.hid (fun v u a b W h h' => implOr_any v u a b W h h')
    have hLess := Lib.hid (fun v u a b W h h' => implLess_any v u a b W h h')
    have sAnd := Lib.hid (fun v u a b W h h' => specAnd_any v u a b W h h')
    have sOr := Lib.hid (fun v u a b W hv hra hla h' => specOr_ex v u a b W hv hra hla h')
    have sLess := Lib.hid (fun v u a b W h h' => specLess_any v u a b W h h')
    have hsame := Lib.hid (fun v u xs W h h' => sameInts_any v u xs xs W h h')
    simp only [decide_true] at hsame
    have hrise := Lib.hid (fun v xs W h => rising_any v xs W h)
    have hhas := Lib.hid (fun v xs n W h => has_any v xs n W h)
    clear hbig hd h
    go_enter Try.func12, Try.ntmps12
    go_wp2_with fail
    refine (Hbig.out _).mono ?_
    rintro e w' ⟨rfl, rfl⟩
    have CODE := Lib.hid hcode.out
    have BB := Lib.hid (Below.refl w.heap.size w)
    have S_0 : w.heap.size ≤ w.heap.size := Nat.le_refl _
    go_wp2_with fail
    refine (hdA.out _ CODE.out).mono ?_
    rintro e w1 ⟨v_a, v_b, la, lb, m_a, rfl, hown, hown2, hm_a, -, hl_la, hl_lb, hr1, hr2, hb⟩
    have S_1 := hb.size
    have BX := Lib.hid (BB.out.trans (hb.mono (by omega))); clear BB; have BB := BX; clear BX
    have CX := Lib.hid (code_below CODE.out hb); clear CODE; have CODE := CX; clear CX
    have O_a := Lib.hid hown; have O_b := Lib.hid hown2; have R_a := Lib.hid (rng_all hr1); have R_b := Lib.hid (rng_all hr2)
    clear hown hown2 hr1 hr2 hb
    obtain ⟨X, hX⟩ : ∃ X, X = andM la lb := ⟨_, rfl⟩
    have okX := andL_ok la lb R_a.out (by omega)
    rw [← hX] at okX
    have H_X : Hid (andM la lb = X) := Lib.hid hX.symm
    have R_X := Lib.hid okX.1
    have lenX := okX.2
    clear hX okX
    obtain ⟨Y, hY⟩ : ∃ X, X = orM la lb := ⟨_, rfl⟩
    have okY := orM_ok la lb R_a.out R_b.out
    rw [← hY] at okY
    have H_Y : Hid (orM la lb = Y) := Lib.hid hY.symm
    have R_Y := Lib.hid okY.1
    have lenY := okY.2
    clear hY okY
    obtain ⟨Z, hZ⟩ : ∃ X, X = lessM la lb := ⟨_, rfl⟩
    have okZ := lessL_ok la lb R_a.out (by omega)
    rw [← hZ] at okZ
    have H_Z : Hid (lessM la lb = Z) := Lib.hid hZ.symm
    have R_Z := Lib.hid okZ.1
    have lenZ := okZ.2
    clear hZ okZ
    go_wp2_with fail
    refine (hAnd.out _ _ la lb _ (IL.of_own O_a.out rfl R_a.out (by first | omega | (have := HLEN.out; omega))) (IL.of_own O_b.out rfl R_b.out (by first | omega | (have := HLEN.out; omega)))).mono ?_
    rintro e w2 ⟨v_x, rfl, hown, hb⟩
    rw [H_X.out] at hown
    have S_2 := hb.size
    have T_a := Lib.hid (u_own_below O_a.out hb); clear O_a; have O_a := T_a; clear T_a
    have T_b := Lib.hid (u_own_below O_b.out hb); clear O_b; have O_b := T_b; clear T_b
    have BX := Lib.hid (BB.out.trans (hb.mono (by omega))); clear BB; have BB := BX; clear BX
    have CX := Lib.hid (code_below CODE.out hb); clear CODE; have CODE := CX; clear CX
    have O_x := Lib.hid hown
    clear hown hb
    go_wp2_with fail
    refine (hOr.out _ _ la lb _ (IL.of_own O_a.out rfl R_a.out (by first | omega | (have := HLEN.out; omega))) (IL.of_own O_b.out rfl R_b.out (by first | omega | (have := HLEN.out; omega)))).mono ?_
    rintro e w3 ⟨v_y, rfl, hown, hb⟩
    rw [H_Y.out] at hown
    have S_3 := hb.size
    have T_a := Lib.hid (u_own_below O_a.out hb); clear O_a; have O_a := T_a; clear T_a
    have T_b := Lib.hid (u_own_below O_b.out hb); clear O_b; have O_b := T_b; clear T_b
    have T_x := Lib.hid (u_own_below O_x.out hb); clear O_x; have O_x := T_x; clear T_x
    have BX := Lib.hid (BB.out.trans (hb.mono (by omega))); clear BB; have BB := BX; clear BX
    have CX := Lib.hid (code_below CODE.out hb); clear CODE; have CODE := CX; clear CX
    have O_y := Lib.hid hown
    clear hown hb
    go_wp2_with fail
    refine (hLess.out _ _ la lb _ (IL.of_own O_a.out rfl R_a.out (by first | omega | (have := HLEN.out; omega))) (IL.of_own O_b.out rfl R_b.out (by first | omega | (have := HLEN.out; omega)))).mono ?_
    rintro e w4 ⟨v_z, rfl, hown, hb⟩
    rw [H_Z.out] at hown
    have S_4 := hb.size
    have T_a := Lib.hid (u_own_below O_a.out hb); clear O_a; have O_a := T_a; clear T_a
    have T_b := Lib.hid (u_own_below O_b.out hb); clear O_b; have O_b := T_b; clear T_b
    have T_x := Lib.hid (u_own_below O_x.out hb); clear O_x; have O_x := T_x; clear T_x
    have T_y := Lib.hid (u_own_below O_y.out hb); clear O_y; have O_y := T_y; clear T_y
    have BX := Lib.hid (BB.out.trans (hb.mono (by omega))); clear BB; have BB := BX; clear BX
    have CX := Lib.hid (code_below CODE.out hb); clear CODE; have CODE := CX; clear CX
    have O_z := Lib.hid hown
    clear hown hb
    go_wp2_with fail
    refine (hdO.out _ CODE.out).mono ?_
    rintro e w5 ⟨v_c, v_d, lc, ld, m_c, rfl, hown, hown2, hm_c, -, hl_lc, hl_ld, hr1, hr2, hb⟩
    have S_5 := hb.size
    have T_a := Lib.hid (u_own_below O_a.out hb); clear O_a; have O_a := T_a; clear T_a
    have T_b := Lib.hid (u_own_below O_b.out hb); clear O_b; have O_b := T_b; clear T_b
    have T_x := Lib.hid (u_own_below O_x.out hb); clear O_x; have O_x := T_x; clear T_x
    have T_y := Lib.hid (u_own_below O_y.out hb); clear O_y; have O_y := T_y; clear T_y
    have T_z := Lib.hid (u_own_below O_z.out hb); clear O_z; have O_z := T_z; clear T_z
    have BX := Lib.hid (BB.out.trans (hb.mono (by omega))); clear BB; have BB := BX; clear BX
    have CX := Lib.hid (code_below CODE.out hb); clear CODE; have CODE := CX; clear CX
    have O_c := Lib.hid hown; have O_d := Lib.hid hown2; have R_c := Lib.hid (rng_all hr1); have R_d := Lib.hid (rng_all hr2)
    clear hown hown2 hr1 hr2 hb
    go_wp2_with fail
    refine (hdL.out _ CODE.out).mono ?_
    rintro e w6 ⟨v_e, v_f, le, lf, m_e, rfl, hown, hown2, hm_e, -, hl_le, hl_lf, hr1, hr2, hb⟩
    have S_6 := hb.size
    have T_a := Lib.hid (u_own_below O_a.out hb); clear O_a; have O_a := T_a; clear T_a
    have T_b := Lib.hid (u_own_below O_b.out hb); clear O_b; have O_b := T_b; clear T_b
    have T_x := Lib.hid (u_own_below O_x.out hb); clear O_x; have O_x := T_x; clear T_x
    have T_y := Lib.hid (u_own_below O_y.out hb); clear O_y; have O_y := T_y; clear T_y
    have T_z := Lib.hid (u_own_below O_z.out hb); clear O_z; have O_z := T_z; clear T_z
    have T_c := Lib.hid (u_own_below O_c.out hb); clear O_c; have O_c := T_c; clear T_c
    have T_d := Lib.hid (u_own_below O_d.out hb); clear O_d; have O_d := T_d; clear T_d
    have BX := Lib.hid (BB.out.trans (hb.mono (by omega))); clear BB; have BB := BX; clear BX
    have CX := Lib.hid (code_below CODE.out hb); clear CODE; have CODE := CX; clear CX
    have O_e := Lib.hid hown; have O_f := Lib.hid hown2; have R_e := Lib.hid (rng_all hr1); have R_f := Lib.hid (rng_all hr2)
    clear hown hown2 hr1 hr2 hb
    obtain ⟨P, hP⟩ : ∃ X, X = orM lc ld := ⟨_, rfl⟩
    have okP := orM_ok lc ld R_c.out R_d.out
    rw [← hP] at okP
    have H_P : Hid (orM lc ld = P) := Lib.hid hP.symm
    have R_P := Lib.hid okP.1
    have lenP := okP.2
    clear hP okP
    obtain ⟨Q, hQ⟩ : ∃ X, X = lessM le lf := ⟨_, rfl⟩
    have okQ := lessL_ok le lf R_e.out (by omega)
    rw [← hQ] at okQ
    have H_Q : Hid (lessM le lf = Q) := Lib.hid hQ.symm
    have R_Q := Lib.hid okQ.1
    have lenQ := okQ.2
    clear hQ okQ
    go_wp2_with fail
    refine (sAnd.out _ _ la lb _ (IL.of_own O_a.out rfl R_a.out (by first | omega | (have := HLEN.out; omega))) (IL.of_own O_b.out rfl R_b.out (by first | omega | (have := HLEN.out; omega)))).mono ?_
    rintro e w7 ⟨v_s1u, rfl, hown, hb⟩
    rw [H_X.out] at hown
    have S_7 := hb.size
    have T_a := Lib.hid (u_own_below O_a.out hb); clear O_a; have O_a := T_a; clear T_a
    have T_b := Lib.hid (u_own_below O_b.out hb); clear O_b; have O_b := T_b; clear T_b
    have T_x := Lib.hid (u_own_below O_x.out hb); clear O_x; have O_x := T_x; clear T_x
    have T_y := Lib.hid (u_own_below O_y.out hb); clear O_y; have O_y := T_y; clear T_y
    have T_z := Lib.hid (u_own_below O_z.out hb); clear O_z; have O_z := T_z; clear T_z
    have T_c := Lib.hid (u_own_below O_c.out hb); clear O_c; have O_c := T_c; clear T_c
    have T_d := Lib.hid (u_own_below O_d.out hb); clear O_d; have O_d := T_d; clear T_d
    have T_e := Lib.hid (u_own_below O_e.out hb); clear O_e; have O_e := T_e; clear T_e
    have T_f := Lib.hid (u_own_below O_f.out hb); clear O_f; have O_f := T_f; clear T_f
    have BX := Lib.hid (BB.out.trans (hb.mono (by omega))); clear BB; have BB := BX; clear BX
    have CX := Lib.hid (code_below CODE.out hb); clear CODE; have CODE := CX; clear CX
    have O_s1u := Lib.hid hown
    clear hown hb
    go_wp2_with fail
    refine (hsame.out _ _ X _ (IL.of_own O_x.out rfl R_X.out (by first | omega | (have := HLEN.out; omega))) (IL.of_own O_s1u.out rfl R_X.out (by first | omega | (have := HLEN.out; omega)))).mono ?_
    rintro e w8 ⟨rfl, hb⟩
    have S_8 := hb.size
    have T_a := Lib.hid (u_own_below O_a.out hb); clear O_a; have O_a := T_a; clear T_a
    have T_b := Lib.hid (u_own_below O_b.out hb); clear O_b; have O_b := T_b; clear T_b
    have T_x := Lib.hid (u_own_below O_x.out hb); clear O_x; have O_x := T_x; clear T_x
    have T_y := Lib.hid (u_own_below O_y.out hb); clear O_y; have O_y := T_y; clear T_y
    have T_z := Lib.hid (u_own_below O_z.out hb); clear O_z; have O_z := T_z; clear T_z
    have T_c := Lib.hid (u_own_below O_c.out hb); clear O_c; have O_c := T_c; clear T_c
    have T_d := Lib.hid (u_own_below O_d.out hb); clear O_d; have O_d := T_d; clear T_d
    have T_e := Lib.hid (u_own_below O_e.out hb); clear O_e; have O_e := T_e; clear T_e
    have T_f := Lib.hid (u_own_below O_f.out hb); clear O_f; have O_f := T_f; clear T_f
    have T_s1u := Lib.hid (u_own_below O_s1u.out hb); clear O_s1u; have O_s1u := T_s1u; clear T_s1u
    have BX := Lib.hid (BB.out.trans (hb.mono (by omega))); clear BB; have BB := BX; clear BX
    have CX := Lib.hid (code_below CODE.out hb); clear CODE; have CODE := CX; clear CX
    clear hb
    clear O_s1u
    go_wp2_with fail
    refine (hOr.out _ _ lc ld _ (IL.of_own O_c.out rfl R_c.out (by first | omega | (have := HLEN.out; omega))) (IL.of_own O_d.out rfl R_d.out (by first | omega | (have := HLEN.out; omega)))).mono ?_
    rintro e w9 ⟨v_s2u, rfl, hown, hb⟩
    rw [H_P.out] at hown
    have S_9 := hb.size
    have T_a := Lib.hid (u_own_below O_a.out hb); clear O_a; have O_a := T_a; clear T_a
    have T_b := Lib.hid (u_own_below O_b.out hb); clear O_b; have O_b := T_b; clear T_b
    have T_x := Lib.hid (u_own_below O_x.out hb); clear O_x; have O_x := T_x; clear T_x
    have T_y := Lib.hid (u_own_below O_y.out hb); clear O_y; have O_y := T_y; clear T_y
    have T_z := Lib.hid (u_own_below O_z.out hb); clear O_z; have O_z := T_z; clear T_z
    have T_c := Lib.hid (u_own_below O_c.out hb); clear O_c; have O_c := T_c; clear T_c
    have T_d := Lib.hid (u_own_below O_d.out hb); clear O_d; have O_d := T_d; clear T_d
    have T_e := Lib.hid (u_own_below O_e.out hb); clear O_e; have O_e := T_e; clear T_e
    have T_f := Lib.hid (u_own_below O_f.out hb); clear O_f; have O_f := T_f; clear T_f
    have BX := Lib.hid (BB.out.trans (hb.mono (by omega))); clear BB; have BB := BX; clear BX
    have CX := Lib.hid (code_below CODE.out hb); clear CODE; have CODE := CX; clear CX
    have O_s2u := Lib.hid hown
    clear hown hb
    go_wp2_with fail
    refine (sOr.out _ _ lc ld _ ⟨_, O_c.out⟩ R_c.out (by omega) (IL.of_own O_d.out rfl R_d.out (by first | omega | (have := HLEN.out; omega)))).mono ?_
    rintro e w10 ⟨v_s3u, rfl, hown, hb⟩
    rw [H_P.out] at hown
    have S_10 := hb.size
    have T_a := Lib.hid (u_own_below O_a.out hb); clear O_a; have O_a := T_a; clear T_a
    have T_b := Lib.hid (u_own_below O_b.out hb); clear O_b; have O_b := T_b; clear T_b
    have T_x := Lib.hid (u_own_below O_x.out hb); clear O_x; have O_x := T_x; clear T_x
    have T_y := Lib.hid (u_own_below O_y.out hb); clear O_y; have O_y := T_y; clear T_y
    have T_z := Lib.hid (u_own_below O_z.out hb); clear O_z; have O_z := T_z; clear T_z
    have T_c := Lib.hid (u_own_below O_c.out hb); clear O_c; have O_c := T_c; clear T_c
    have T_d := Lib.hid (u_own_below O_d.out hb); clear O_d; have O_d := T_d; clear T_d
    have T_e := Lib.hid (u_own_below O_e.out hb); clear O_e; have O_e := T_e; clear T_e
    have T_f := Lib.hid (u_own_below O_f.out hb); clear O_f; have O_f := T_f; clear T_f
    have T_s2u := Lib.hid (u_own_below O_s2u.out hb); clear O_s2u; have O_s2u := T_s2u; clear T_s2u
    have BX := Lib.hid (BB.out.trans (hb.mono (by omega))); clear BB; have BB := BX; clear BX
    have CX := Lib.hid (code_below CODE.out hb); clear CODE; have CODE := CX; clear CX
    have O_s3u := Lib.hid hown
    clear hown hb
    go_wp2_with fail
    refine (hsame.out _ _ P _ (IL.of_own O_s2u.out rfl R_P.out (by first | omega | (have := HLEN.out; omega))) (IL.of_own O_s3u.out rfl R_P.out (by first | omega | (have := HLEN.out; omega)))).mono ?_
    rintro e w11 ⟨rfl, hb⟩
    have S_11 := hb.size
    have T_a := Lib.hid (u_own_below O_a.out hb); clear O_a; have O_a := T_a; clear T_a
    have T_b := Lib.hid (u_own_below O_b.out hb); clear O_b; have O_b := T_b; clear T_b
    have T_x := Lib.hid (u_own_below O_x.out hb); clear O_x; have O_x := T_x; clear T_x
    have T_y := Lib.hid (u_own_below O_y.out hb); clear O_y; have O_y := T_y; clear T_y
    have T_z := Lib.hid (u_own_below O_z.out hb); clear O_z; have O_z := T_z; clear T_z
    have T_c := Lib.hid (u_own_below O_c.out hb); clear O_c; have O_c := T_c; clear T_c
    have T_d := Lib.hid (u_own_below O_d.out hb); clear O_d; have O_d := T_d; clear T_d
    have T_e := Lib.hid (u_own_below O_e.out hb); clear O_e; have O_e := T_e; clear T_e
    have T_f := Lib.hid (u_own_below O_f.out hb); clear O_f; have O_f := T_f; clear T_f
    have T_s2u := Lib.hid (u_own_below O_s2u.out hb); clear O_s2u; have O_s2u := T_s2u; clear T_s2u
    have T_s3u := Lib.hid (u_own_below O_s3u.out hb); clear O_s3u; have O_s3u := T_s3u; clear T_s3u
    have BX := Lib.hid (BB.out.trans (hb.mono (by omega))); clear BB; have BB := BX; clear BX
    have CX := Lib.hid (code_below CODE.out hb); clear CODE; have CODE := CX; clear CX
    clear hb
    clear O_s2u
    clear O_s3u
    go_wp2_with fail
    refine (hLess.out _ _ le lf _ (IL.of_own O_e.out rfl R_e.out (by first | omega | (have := HLEN.out; omega))) (IL.of_own O_f.out rfl R_f.out (by first | omega | (have := HLEN.out; omega)))).mono ?_
    rintro e w12 ⟨v_s4u, rfl, hown, hb⟩
    rw [H_Q.out] at hown
    have S_12 := hb.size
    have T_a := Lib.hid (u_own_below O_a.out hb); clear O_a; have O_a := T_a; clear T_a
    have T_b := Lib.hid (u_own_below O_b.out hb); clear O_b; have O_b := T_b; clear T_b
    have T_x := Lib.hid (u_own_below O_x.out hb); clear O_x; have O_x := T_x; clear T_x
    have T_y := Lib.hid (u_own_below O_y.out hb); clear O_y; have O_y := T_y; clear T_y
    have T_z := Lib.hid (u_own_below O_z.out hb); clear O_z; have O_z := T_z; clear T_z
    have T_c := Lib.hid (u_own_below O_c.out hb); clear O_c; have O_c := T_c; clear T_c
    have T_d := Lib.hid (u_own_below O_d.out hb); clear O_d; have O_d := T_d; clear T_d
    have T_e := Lib.hid (u_own_below O_e.out hb); clear O_e; have O_e := T_e; clear T_e
    have T_f := Lib.hid (u_own_below O_f.out hb); clear O_f; have O_f := T_f; clear T_f
    have BX := Lib.hid (BB.out.trans (hb.mono (by omega))); clear BB; have BB := BX; clear BX
    have CX := Lib.hid (code_below CODE.out hb); clear CODE; have CODE := CX; clear CX
    have O_s4u := Lib.hid hown
    clear hown hb
    go_wp2_with fail
    refine (sLess.out _ _ le lf _ (IL.of_own O_e.out rfl R_e.out (by first | omega | (have := HLEN.out; omega))) (IL.of_own O_f.out rfl R_f.out (by first | omega | (have := HLEN.out; omega)))).mono ?_
    rintro e w13 ⟨v_s5u, rfl, hown, hb⟩
    rw [H_Q.out] at hown
    have S_13 := hb.size
    have T_a := Lib.hid (u_own_below O_a.out hb); clear O_a; have O_a := T_a; clear T_a
    have T_b := Lib.hid (u_own_below O_b.out hb); clear O_b; have O_b := T_b; clear T_b
    have T_x := Lib.hid (u_own_below O_x.out hb); clear O_x; have O_x := T_x; clear T_x
    have T_y := Lib.hid (u_own_below O_y.out hb); clear O_y; have O_y := T_y; clear T_y
    have T_z := Lib.hid (u_own_below O_z.out hb); clear O_z; have O_z := T_z; clear T_z
    have T_c := Lib.hid (u_own_below O_c.out hb); clear O_c; have O_c := T_c; clear T_c
    have T_d := Lib.hid (u_own_below O_d.out hb); clear O_d; have O_d := T_d; clear T_d
    have T_e := Lib.hid (u_own_below O_e.out hb); clear O_e; have O_e := T_e; clear T_e
    have T_f := Lib.hid (u_own_below O_f.out hb); clear O_f; have O_f := T_f; clear T_f
    have T_s4u := Lib.hid (u_own_below O_s4u.out hb); clear O_s4u; have O_s4u := T_s4u; clear T_s4u
    have BX := Lib.hid (BB.out.trans (hb.mono (by omega))); clear BB; have BB := BX; clear BX
    have CX := Lib.hid (code_below CODE.out hb); clear CODE; have CODE := CX; clear CX
    have O_s5u := Lib.hid hown
    clear hown hb
    go_wp2_with fail
    refine (hsame.out _ _ Q _ (IL.of_own O_s4u.out rfl R_Q.out (by first | omega | (have := HLEN.out; omega))) (IL.of_own O_s5u.out rfl R_Q.out (by first | omega | (have := HLEN.out; omega)))).mono ?_
    rintro e w14 ⟨rfl, hb⟩
    have S_14 := hb.size
    have T_a := Lib.hid (u_own_below O_a.out hb); clear O_a; have O_a := T_a; clear T_a
    have T_b := Lib.hid (u_own_below O_b.out hb); clear O_b; have O_b := T_b; clear T_b
    have T_x := Lib.hid (u_own_below O_x.out hb); clear O_x; have O_x := T_x; clear T_x
    have T_y := Lib.hid (u_own_below O_y.out hb); clear O_y; have O_y := T_y; clear T_y
    have T_z := Lib.hid (u_own_below O_z.out hb); clear O_z; have O_z := T_z; clear T_z
    have T_c := Lib.hid (u_own_below O_c.out hb); clear O_c; have O_c := T_c; clear T_c
    have T_d := Lib.hid (u_own_below O_d.out hb); clear O_d; have O_d := T_d; clear T_d
    have T_e := Lib.hid (u_own_below O_e.out hb); clear O_e; have O_e := T_e; clear T_e
    have T_f := Lib.hid (u_own_below O_f.out hb); clear O_f; have O_f := T_f; clear T_f
    have T_s4u := Lib.hid (u_own_below O_s4u.out hb); clear O_s4u; have O_s4u := T_s4u; clear T_s4u
    have T_s5u := Lib.hid (u_own_below O_s5u.out hb); clear O_s5u; have O_s5u := T_s5u; clear T_s5u
    have BX := Lib.hid (BB.out.trans (hb.mono (by omega))); clear BB; have BB := BX; clear BX
    have CX := Lib.hid (code_below CODE.out hb); clear CODE; have CODE := CX; clear CX
    clear hb
    clear O_s4u
    clear O_s5u
    have HRA := Lib.hid (fun (b : Bool) (h : idsB la = b) => h)
    cases hia : idsB la with
    | false =>
      have Hia := Lib.hid hia
      clear hia
      go_wp2_with fail
      refine (hrise.out _ la _ (IL.of_own O_a.out rfl R_a.out (by first | omega | (have := HLEN.out; omega)))).mono ?_
      rintro e w15 ⟨rfl, hb⟩
      rw [Hia.out]
      have S_15 := hb.size
      have T_a := Lib.hid (u_own_below O_a.out hb); clear O_a; have O_a := T_a; clear T_a
      have T_b := Lib.hid (u_own_below O_b.out hb); clear O_b; have O_b := T_b; clear T_b
      have T_x := Lib.hid (u_own_below O_x.out hb); clear O_x; have O_x := T_x; clear T_x
      have T_y := Lib.hid (u_own_below O_y.out hb); clear O_y; have O_y := T_y; clear T_y
      have T_z := Lib.hid (u_own_below O_z.out hb); clear O_z; have O_z := T_z; clear T_z
      have T_c := Lib.hid (u_own_below O_c.out hb); clear O_c; have O_c := T_c; clear T_c
      have T_d := Lib.hid (u_own_below O_d.out hb); clear O_d; have O_d := T_d; clear T_d
      have T_e := Lib.hid (u_own_below O_e.out hb); clear O_e; have O_e := T_e; clear T_e
      have T_f := Lib.hid (u_own_below O_f.out hb); clear O_f; have O_f := T_f; clear T_f
      have BX := Lib.hid (BB.out.trans (hb.mono (by omega))); clear BB; have BB := BX; clear BX
      have CX := Lib.hid (code_below CODE.out hb); clear CODE; have CODE := CX; clear CX
      clear hb
      go_wp2_with fail
      refine (sAnd.out _ _ la lb _ (IL.of_own O_a.out rfl R_a.out (by first | omega | (have := HLEN.out; omega))) (IL.of_own O_b.out rfl R_b.out (by first | omega | (have := HLEN.out; omega)))).mono ?_
      rintro e w16 ⟨v_s1v, rfl, hown, hb⟩
      rw [H_X.out] at hown
      have S_16 := hb.size
      have T_a := Lib.hid (u_own_below O_a.out hb); clear O_a; have O_a := T_a; clear T_a
      have T_b := Lib.hid (u_own_below O_b.out hb); clear O_b; have O_b := T_b; clear T_b
      have T_x := Lib.hid (u_own_below O_x.out hb); clear O_x; have O_x := T_x; clear T_x
      have T_y := Lib.hid (u_own_below O_y.out hb); clear O_y; have O_y := T_y; clear T_y
      have T_z := Lib.hid (u_own_below O_z.out hb); clear O_z; have O_z := T_z; clear T_z
      have T_c := Lib.hid (u_own_below O_c.out hb); clear O_c; have O_c := T_c; clear T_c
      have T_d := Lib.hid (u_own_below O_d.out hb); clear O_d; have O_d := T_d; clear T_d
      have T_e := Lib.hid (u_own_below O_e.out hb); clear O_e; have O_e := T_e; clear T_e
      have T_f := Lib.hid (u_own_below O_f.out hb); clear O_f; have O_f := T_f; clear T_f
      have BX := Lib.hid (BB.out.trans (hb.mono (by omega))); clear BB; have BB := BX; clear BX
      have CX := Lib.hid (code_below CODE.out hb); clear CODE; have CODE := CX; clear CX
      have O_s1v := Lib.hid hown
      clear hown hb
      go_wp2_with fail
      refine (hsame.out _ _ X _ (IL.of_own O_x.out rfl R_X.out (by first | omega | (have := HLEN.out; omega))) (IL.of_own O_s1v.out rfl R_X.out (by first | omega | (have := HLEN.out; omega)))).mono ?_
      rintro e w17 ⟨rfl, hb⟩
      have S_17 := hb.size
      have T_a := Lib.hid (u_own_below O_a.out hb); clear O_a; have O_a := T_a; clear T_a
      have T_b := Lib.hid (u_own_below O_b.out hb); clear O_b; have O_b := T_b; clear T_b
      have T_x := Lib.hid (u_own_below O_x.out hb); clear O_x; have O_x := T_x; clear T_x
      have T_y := Lib.hid (u_own_below O_y.out hb); clear O_y; have O_y := T_y; clear T_y
      have T_z := Lib.hid (u_own_below O_z.out hb); clear O_z; have O_z := T_z; clear T_z
      have T_c := Lib.hid (u_own_below O_c.out hb); clear O_c; have O_c := T_c; clear T_c
      have T_d := Lib.hid (u_own_below O_d.out hb); clear O_d; have O_d := T_d; clear T_d
      have T_e := Lib.hid (u_own_below O_e.out hb); clear O_e; have O_e := T_e; clear T_e
      have T_f := Lib.hid (u_own_below O_f.out hb); clear O_f; have O_f := T_f; clear T_f
      have T_s1v := Lib.hid (u_own_below O_s1v.out hb); clear O_s1v; have O_s1v := T_s1v; clear T_s1v
      have BX := Lib.hid (BB.out.trans (hb.mono (by omega))); clear BB; have BB := BX; clear BX
      have CX := Lib.hid (code_below CODE.out hb); clear CODE; have CODE := CX; clear CX
      clear hb
      clear O_s1v
      go_wp2_with fail
      refine (hOr.out _ _ lc ld _ (IL.of_own O_c.out rfl R_c.out (by first | omega | (have := HLEN.out; omega))) (IL.of_own O_d.out rfl R_d.out (by first | omega | (have := HLEN.out; omega)))).mono ?_
      rintro e w18 ⟨v_s2v, rfl, hown, hb⟩
      rw [H_P.out] at hown
      have S_18 := hb.size
      have T_a := Lib.hid (u_own_below O_a.out hb); clear O_a; have O_a := T_a; clear T_a
      have T_b := Lib.hid (u_own_below O_b.out hb); clear O_b; have O_b := T_b; clear T_b
      have T_x := Lib.hid (u_own_below O_x.out hb); clear O_x; have O_x := T_x; clear T_x
      have T_y := Lib.hid (u_own_below O_y.out hb); clear O_y; have O_y := T_y; clear T_y
      have T_z := Lib.hid (u_own_below O_z.out hb); clear O_z; have O_z := T_z; clear T_z
      have T_c := Lib.hid (u_own_below O_c.out hb); clear O_c; have O_c := T_c; clear T_c
      have T_d := Lib.hid (u_own_below O_d.out hb); clear O_d; have O_d := T_d; clear T_d
      have T_e := Lib.hid (u_own_below O_e.out hb); clear O_e; have O_e := T_e; clear T_e
      have T_f := Lib.hid (u_own_below O_f.out hb); clear O_f; have O_f := T_f; clear T_f
      have BX := Lib.hid (BB.out.trans (hb.mono (by omega))); clear BB; have BB := BX; clear BX
      have CX := Lib.hid (code_below CODE.out hb); clear CODE; have CODE := CX; clear CX
      have O_s2v := Lib.hid hown
      clear hown hb
      go_wp2_with fail
      refine (sOr.out _ _ lc ld _ ⟨_, O_c.out⟩ R_c.out (by omega) (IL.of_own O_d.out rfl R_d.out (by first | omega | (have := HLEN.out; omega)))).mono ?_
      rintro e w19 ⟨v_s3v, rfl, hown, hb⟩
      rw [H_P.out] at hown
      have S_19 := hb.size
      have T_a := Lib.hid (u_own_below O_a.out hb); clear O_a; have O_a := T_a; clear T_a
      have T_b := Lib.hid (u_own_below O_b.out hb); clear O_b; have O_b := T_b; clear T_b
      have T_x := Lib.hid (u_own_below O_x.out hb); clear O_x; have O_x := T_x; clear T_x
      have T_y := Lib.hid (u_own_below O_y.out hb); clear O_y; have O_y := T_y; clear T_y
      have T_z := Lib.hid (u_own_below O_z.out hb); clear O_z; have O_z := T_z; clear T_z
      have T_c := Lib.hid (u_own_below O_c.out hb); clear O_c; have O_c := T_c; clear T_c
      have T_d := Lib.hid (u_own_below O_d.out hb); clear O_d; have O_d := T_d; clear T_d
      have T_e := Lib.hid (u_own_below O_e.out hb); clear O_e; have O_e := T_e; clear T_e
      have T_f := Lib.hid (u_own_below O_f.out hb); clear O_f; have O_f := T_f; clear T_f
      have T_s2v := Lib.hid (u_own_below O_s2v.out hb); clear O_s2v; have O_s2v := T_s2v; clear T_s2v
      have BX := Lib.hid (BB.out.trans (hb.mono (by omega))); clear BB; have BB := BX; clear BX
      have CX := Lib.hid (code_below CODE.out hb); clear CODE; have CODE := CX; clear CX
      have O_s3v := Lib.hid hown
      clear hown hb
      go_wp2_with fail
      refine (hsame.out _ _ P _ (IL.of_own O_s2v.out rfl R_P.out (by first | omega | (have := HLEN.out; omega))) (IL.of_own O_s3v.out rfl R_P.out (by first | omega | (have := HLEN.out; omega)))).mono ?_
      rintro e w20 ⟨rfl, hb⟩
      have S_20 := hb.size
      have T_a := Lib.hid (u_own_below O_a.out hb); clear O_a; have O_a := T_a; clear T_a
      have T_b := Lib.hid (u_own_below O_b.out hb); clear O_b; have O_b := T_b; clear T_b
      have T_x := Lib.hid (u_own_below O_x.out hb); clear O_x; have O_x := T_x; clear T_x
      have T_y := Lib.hid (u_own_below O_y.out hb); clear O_y; have O_y := T_y; clear T_y
      have T_z := Lib.hid (u_own_below O_z.out hb); clear O_z; have O_z := T_z; clear T_z
      have T_c := Lib.hid (u_own_below O_c.out hb); clear O_c; have O_c := T_c; clear T_c
      have T_d := Lib.hid (u_own_below O_d.out hb); clear O_d; have O_d := T_d; clear T_d
      have T_e := Lib.hid (u_own_below O_e.out hb); clear O_e; have O_e := T_e; clear T_e
      have T_f := Lib.hid (u_own_below O_f.out hb); clear O_f; have O_f := T_f; clear T_f
      have T_s2v := Lib.hid (u_own_below O_s2v.out hb); clear O_s2v; have O_s2v := T_s2v; clear T_s2v
      have T_s3v := Lib.hid (u_own_below O_s3v.out hb); clear O_s3v; have O_s3v := T_s3v; clear T_s3v
      have BX := Lib.hid (BB.out.trans (hb.mono (by omega))); clear BB; have BB := BX; clear BX
      have CX := Lib.hid (code_below CODE.out hb); clear CODE; have CODE := CX; clear CX
      clear hb
      clear O_s2v
      clear O_s3v
      go_wp2_with fail
      refine (hLess.out _ _ le lf _ (IL.of_own O_e.out rfl R_e.out (by first | omega | (have := HLEN.out; omega))) (IL.of_own O_f.out rfl R_f.out (by first | omega | (have := HLEN.out; omega)))).mono ?_
      rintro e w21 ⟨v_s4v, rfl, hown, hb⟩
      rw [H_Q.out] at hown
      have S_21 := hb.size
      have T_a := Lib.hid (u_own_below O_a.out hb); clear O_a; have O_a := T_a; clear T_a
      have T_b := Lib.hid (u_own_below O_b.out hb); clear O_b; have O_b := T_b; clear T_b
      have T_x := Lib.hid (u_own_below O_x.out hb); clear O_x; have O_x := T_x; clear T_x
      have T_y := Lib.hid (u_own_below O_y.out hb); clear O_y; have O_y := T_y; clear T_y
      have T_z := Lib.hid (u_own_below O_z.out hb); clear O_z; have O_z := T_z; clear T_z
      have T_c := Lib.hid (u_own_below O_c.out hb); clear O_c; have O_c := T_c; clear T_c
      have T_d := Lib.hid (u_own_below O_d.out hb); clear O_d; have O_d := T_d; clear T_d
      have T_e := Lib.hid (u_own_below O_e.out hb); clear O_e; have O_e := T_e; clear T_e
      have T_f := Lib.hid (u_own_below O_f.out hb); clear O_f; have O_f := T_f; clear T_f
      have BX := Lib.hid (BB.out.trans (hb.mono (by omega))); clear BB; have BB := BX; clear BX
      have CX := Lib.hid (code_below CODE.out hb); clear CODE; have CODE := CX; clear CX
      have O_s4v := Lib.hid hown
      clear hown hb
      go_wp2_with fail
      refine (sLess.out _ _ le lf _ (IL.of_own O_e.out rfl R_e.out (by first | omega | (have := HLEN.out; omega))) (IL.of_own O_f.out rfl R_f.out (by first | omega | (have := HLEN.out; omega)))).mono ?_
      rintro e w22 ⟨v_s5v, rfl, hown, hb⟩
      rw [H_Q.out] at hown
      have S_22 := hb.size
      have T_a := Lib.hid (u_own_below O_a.out hb); clear O_a; have O_a := T_a; clear T_a
      have T_b := Lib.hid (u_own_below O_b.out hb); clear O_b; have O_b := T_b; clear T_b
      have T_x := Lib.hid (u_own_below O_x.out hb); clear O_x; have O_x := T_x; clear T_x
      have T_y := Lib.hid (u_own_below O_y.out hb); clear O_y; have O_y := T_y; clear T_y
      have T_z := Lib.hid (u_own_below O_z.out hb); clear O_z; have O_z := T_z; clear T_z
      have T_c := Lib.hid (u_own_below O_c.out hb); clear O_c; have O_c := T_c; clear T_c
      have T_d := Lib.hid (u_own_below O_d.out hb); clear O_d; have O_d := T_d; clear T_d
      have T_e := Lib.hid (u_own_below O_e.out hb); clear O_e; have O_e := T_e; clear T_e
      have T_f := Lib.hid (u_own_below O_f.out hb); clear O_f; have O_f := T_f; clear T_f
      have T_s4v := Lib.hid (u_own_below O_s4v.out hb); clear O_s4v; have O_s4v := T_s4v; clear T_s4v
      have BX := Lib.hid (BB.out.trans (hb.mono (by omega))); clear BB; have BB := BX; clear BX
      have CX := Lib.hid (code_below CODE.out hb); clear CODE; have CODE := CX; clear CX
      have O_s5v := Lib.hid hown
      clear hown hb
      go_wp2_with fail
      refine (hsame.out _ _ Q _ (IL.of_own O_s4v.out rfl R_Q.out (by first | omega | (have := HLEN.out; omega))) (IL.of_own O_s5v.out rfl R_Q.out (by first | omega | (have := HLEN.out; omega)))).mono ?_
      rintro e w23 ⟨rfl, hb⟩
      have S_23 := hb.size
      have T_a := Lib.hid (u_own_below O_a.out hb); clear O_a; have O_a := T_a; clear T_a
      have T_b := Lib.hid (u_own_below O_b.out hb); clear O_b; have O_b := T_b; clear T_b
      have T_x := Lib.hid (u_own_below O_x.out hb); clear O_x; have O_x := T_x; clear T_x
      have T_y := Lib.hid (u_own_below O_y.out hb); clear O_y; have O_y := T_y; clear T_y
      have T_z := Lib.hid (u_own_below O_z.out hb); clear O_z; have O_z := T_z; clear T_z
      have T_c := Lib.hid (u_own_below O_c.out hb); clear O_c; have O_c := T_c; clear T_c
      have T_d := Lib.hid (u_own_below O_d.out hb); clear O_d; have O_d := T_d; clear T_d
      have T_e := Lib.hid (u_own_below O_e.out hb); clear O_e; have O_e := T_e; clear T_e
      have T_f := Lib.hid (u_own_below O_f.out hb); clear O_f; have O_f := T_f; clear T_f
      have T_s4v := Lib.hid (u_own_below O_s4v.out hb); clear O_s4v; have O_s4v := T_s4v; clear T_s4v
      have T_s5v := Lib.hid (u_own_below O_s5v.out hb); clear O_s5v; have O_s5v := T_s5v; clear T_s5v
      have BX := Lib.hid (BB.out.trans (hb.mono (by omega))); clear BB; have BB := BX; clear BX
      have CX := Lib.hid (code_below CODE.out hb); clear CODE; have CODE := CX; clear CX
      clear hb
      clear O_s4v
      clear O_s5v
      go_wp2_with fail
      go_ret
      exact ⟨rfl, BB.out⟩
    | true =>
    cases hib : idsB lb with
    | false =>
      have Hia := Lib.hid hia
      have Hib := Lib.hid hib
      clear hia hib
      go_wp2_with fail
      refine (hrise.out _ la _ (IL.of_own O_a.out rfl R_a.out (by first | omega | (have := HLEN.out; omega)))).mono ?_
      rintro e w15 ⟨rfl, hb⟩
      rw [Hia.out]
      have S_15 := hb.size
      have T_a := Lib.hid (u_own_below O_a.out hb); clear O_a; have O_a := T_a; clear T_a
      have T_b := Lib.hid (u_own_below O_b.out hb); clear O_b; have O_b := T_b; clear T_b
      have T_x := Lib.hid (u_own_below O_x.out hb); clear O_x; have O_x := T_x; clear T_x
      have T_y := Lib.hid (u_own_below O_y.out hb); clear O_y; have O_y := T_y; clear T_y
      have T_z := Lib.hid (u_own_below O_z.out hb); clear O_z; have O_z := T_z; clear T_z
      have T_c := Lib.hid (u_own_below O_c.out hb); clear O_c; have O_c := T_c; clear T_c
      have T_d := Lib.hid (u_own_below O_d.out hb); clear O_d; have O_d := T_d; clear T_d
      have T_e := Lib.hid (u_own_below O_e.out hb); clear O_e; have O_e := T_e; clear T_e
      have T_f := Lib.hid (u_own_below O_f.out hb); clear O_f; have O_f := T_f; clear T_f
      have BX := Lib.hid (BB.out.trans (hb.mono (by omega))); clear BB; have BB := BX; clear BX
      have CX := Lib.hid (code_below CODE.out hb); clear CODE; have CODE := CX; clear CX
      clear hb
      go_wp2_with fail
      refine (hrise.out _ lb _ (IL.of_own O_b.out rfl R_b.out (by first | omega | (have := HLEN.out; omega)))).mono ?_
      rintro e w16 ⟨rfl, hb⟩
      rw [Hib.out]
      have S_16 := hb.size
      have T_a := Lib.hid (u_own_below O_a.out hb); clear O_a; have O_a := T_a; clear T_a
      have T_b := Lib.hid (u_own_below O_b.out hb); clear O_b; have O_b := T_b; clear T_b
      have T_x := Lib.hid (u_own_below O_x.out hb); clear O_x; have O_x := T_x; clear T_x
      have T_y := Lib.hid (u_own_below O_y.out hb); clear O_y; have O_y := T_y; clear T_y
      have T_z := Lib.hid (u_own_below O_z.out hb); clear O_z; have O_z := T_z; clear T_z
      have T_c := Lib.hid (u_own_below O_c.out hb); clear O_c; have O_c := T_c; clear T_c
      have T_d := Lib.hid (u_own_below O_d.out hb); clear O_d; have O_d := T_d; clear T_d
      have T_e := Lib.hid (u_own_below O_e.out hb); clear O_e; have O_e := T_e; clear T_e
      have T_f := Lib.hid (u_own_below O_f.out hb); clear O_f; have O_f := T_f; clear T_f
      have BX := Lib.hid (BB.out.trans (hb.mono (by omega))); clear BB; have BB := BX; clear BX
      have CX := Lib.hid (code_below CODE.out hb); clear CODE; have CODE := CX; clear CX
      clear hb
      go_wp2_with fail
      refine (sAnd.out _ _ la lb _ (IL.of_own O_a.out rfl R_a.out (by first | omega | (have := HLEN.out; omega))) (IL.of_own O_b.out rfl R_b.out (by first | omega | (have := HLEN.out; omega)))).mono ?_
      rintro e w17 ⟨v_s1v, rfl, hown, hb⟩
      rw [H_X.out] at hown
      have S_17 := hb.size
      have T_a := Lib.hid (u_own_below O_a.out hb); clear O_a; have O_a := T_a; clear T_a
      have T_b := Lib.hid (u_own_below O_b.out hb); clear O_b; have O_b := T_b; clear T_b
      have T_x := Lib.hid (u_own_below O_x.out hb); clear O_x; have O_x := T_x; clear T_x
      have T_y := Lib.hid (u_own_below O_y.out hb); clear O_y; have O_y := T_y; clear T_y
      have T_z := Lib.hid (u_own_below O_z.out hb); clear O_z; have O_z := T_z; clear T_z
      have T_c := Lib.hid (u_own_below O_c.out hb); clear O_c; have O_c := T_c; clear T_c
      have T_d := Lib.hid (u_own_below O_d.out hb); clear O_d; have O_d := T_d; clear T_d
      have T_e := Lib.hid (u_own_below O_e.out hb); clear O_e; have O_e := T_e; clear T_e
      have T_f := Lib.hid (u_own_below O_f.out hb); clear O_f; have O_f := T_f; clear T_f
      have BX := Lib.hid (BB.out.trans (hb.mono (by omega))); clear BB; have BB := BX; clear BX
      have CX := Lib.hid (code_below CODE.out hb); clear CODE; have CODE := CX; clear CX
      have O_s1v := Lib.hid hown
      clear hown hb
      go_wp2_with fail
      refine (hsame.out _ _ X _ (IL.of_own O_x.out rfl R_X.out (by first | omega | (have := HLEN.out; omega))) (IL.of_own O_s1v.out rfl R_X.out (by first | omega | (have := HLEN.out; omega)))).mono ?_
      rintro e w18 ⟨rfl, hb⟩
      have S_18 := hb.size
      have T_a := Lib.hid (u_own_below O_a.out hb); clear O_a; have O_a := T_a; clear T_a
      have T_b := Lib.hid (u_own_below O_b.out hb); clear O_b; have O_b := T_b; clear T_b
      have T_x := Lib.hid (u_own_below O_x.out hb); clear O_x; have O_x := T_x; clear T_x
      have T_y := Lib.hid (u_own_below O_y.out hb); clear O_y; have O_y := T_y; clear T_y
      have T_z := Lib.hid (u_own_below O_z.out hb); clear O_z; have O_z := T_z; clear T_z
      have T_c := Lib.hid (u_own_below O_c.out hb); clear O_c; have O_c := T_c; clear T_c
      have T_d := Lib.hid (u_own_below O_d.out hb); clear O_d; have O_d := T_d; clear T_d
      have T_e := Lib.hid (u_own_below O_e.out hb); clear O_e; have O_e := T_e; clear T_e
      have T_f := Lib.hid (u_own_below O_f.out hb); clear O_f; have O_f := T_f; clear T_f
      have T_s1v := Lib.hid (u_own_below O_s1v.out hb); clear O_s1v; have O_s1v := T_s1v; clear T_s1v
      have BX := Lib.hid (BB.out.trans (hb.mono (by omega))); clear BB; have BB := BX; clear BX
      have CX := Lib.hid (code_below CODE.out hb); clear CODE; have CODE := CX; clear CX
      clear hb
      clear O_s1v
      go_wp2_with fail
      refine (hOr.out _ _ lc ld _ (IL.of_own O_c.out rfl R_c.out (by first | omega | (have := HLEN.out; omega))) (IL.of_own O_d.out rfl R_d.out (by first | omega | (have := HLEN.out; omega)))).mono ?_
      rintro e w19 ⟨v_s2v, rfl, hown, hb⟩
      rw [H_P.out] at hown
      have S_19 := hb.size
      have T_a := Lib.hid (u_own_below O_a.out hb); clear O_a; have O_a := T_a; clear T_a
      have T_b := Lib.hid (u_own_below O_b.out hb); clear O_b; have O_b := T_b; clear T_b
      have T_x := Lib.hid (u_own_below O_x.out hb); clear O_x; have O_x := T_x; clear T_x
      have T_y := Lib.hid (u_own_below O_y.out hb); clear O_y; have O_y := T_y; clear T_y
      have T_z := Lib.hid (u_own_below O_z.out hb); clear O_z; have O_z := T_z; clear T_z
      have T_c := Lib.hid (u_own_below O_c.out hb); clear O_c; have O_c := T_c; clear T_c
      have T_d := Lib.hid (u_own_below O_d.out hb); clear O_d; have O_d := T_d; clear T_d
      have T_e := Lib.hid (u_own_below O_e.out hb); clear O_e; have O_e := T_e; clear T_e
      have T_f := Lib.hid (u_own_below O_f.out hb); clear O_f; have O_f := T_f; clear T_f
      have BX := Lib.hid (BB.out.trans (hb.mono (by omega))); clear BB; have BB := BX; clear BX
      have CX := Lib.hid (code_below CODE.out hb); clear CODE; have CODE := CX; clear CX
      have O_s2v := Lib.hid hown
      clear hown hb
      go_wp2_with fail
      refine (sOr.out _ _ lc ld _ ⟨_, O_c.out⟩ R_c.out (by omega) (IL.of_own O_d.out rfl R_d.out (by first | omega | (have := HLEN.out; omega)))).mono ?_
      rintro e w20 ⟨v_s3v, rfl, hown, hb⟩
      rw [H_P.out] at hown
      have S_20 := hb.size
      have T_a := Lib.hid (u_own_below O_a.out hb); clear O_a; have O_a := T_a; clear T_a
      have T_b := Lib.hid (u_own_below O_b.out hb); clear O_b; have O_b := T_b; clear T_b
      have T_x := Lib.hid (u_own_below O_x.out hb); clear O_x; have O_x := T_x; clear T_x
      have T_y := Lib.hid (u_own_below O_y.out hb); clear O_y; have O_y := T_y; clear T_y
      have T_z := Lib.hid (u_own_below O_z.out hb); clear O_z; have O_z := T_z; clear T_z
      have T_c := Lib.hid (u_own_below O_c.out hb); clear O_c; have O_c := T_c; clear T_c
      have T_d := Lib.hid (u_own_below O_d.out hb); clear O_d; have O_d := T_d; clear T_d
      have T_e := Lib.hid (u_own_below O_e.out hb); clear O_e; have O_e := T_e; clear T_e
      have T_f := Lib.hid (u_own_below O_f.out hb); clear O_f; have O_f := T_f; clear T_f
      have T_s2v := Lib.hid (u_own_below O_s2v.out hb); clear O_s2v; have O_s2v := T_s2v; clear T_s2v
      have BX := Lib.hid (BB.out.trans (hb.mono (by omega))); clear BB; have BB := BX; clear BX
      have CX := Lib.hid (code_below CODE.out hb); clear CODE; have CODE := CX; clear CX
      have O_s3v := Lib.hid hown
      clear hown hb
      go_wp2_with fail
      refine (hsame.out _ _ P _ (IL.of_own O_s2v.out rfl R_P.out (by first | omega | (have := HLEN.out; omega))) (IL.of_own O_s3v.out rfl R_P.out (by first | omega | (have := HLEN.out; omega)))).mono ?_
      rintro e w21 ⟨rfl, hb⟩
      have S_21 := hb.size
      have T_a := Lib.hid (u_own_below O_a.out hb); clear O_a; have O_a := T_a; clear T_a
      have T_b := Lib.hid (u_own_below O_b.out hb); clear O_b; have O_b := T_b; clear T_b
      have T_x := Lib.hid (u_own_below O_x.out hb); clear O_x; have O_x := T_x; clear T_x
      have T_y := Lib.hid (u_own_below O_y.out hb); clear O_y; have O_y := T_y; clear T_y
      have T_z := Lib.hid (u_own_below O_z.out hb); clear O_z; have O_z := T_z; clear T_z
      have T_c := Lib.hid (u_own_below O_c.out hb); clear O_c; have O_c := T_c; clear T_c
      have T_d := Lib.hid (u_own_below O_d.out hb); clear O_d; have O_d := T_d; clear T_d
      have T_e := Lib.hid (u_own_below O_e.out hb); clear O_e; have O_e := T_e; clear T_e
      have T_f := Lib.hid (u_own_below O_f.out hb); clear O_f; have O_f := T_f; clear T_f
      have T_s2v := Lib.hid (u_own_below O_s2v.out hb); clear O_s2v; have O_s2v := T_s2v; clear T_s2v
      have T_s3v := Lib.hid (u_own_below O_s3v.out hb); clear O_s3v; have O_s3v := T_s3v; clear T_s3v
      have BX := Lib.hid (BB.out.trans (hb.mono (by omega))); clear BB; have BB := BX; clear BX
      have CX := Lib.hid (code_below CODE.out hb); clear CODE; have CODE := CX; clear CX
      clear hb
      clear O_s2v
      clear O_s3v
      go_wp2_with fail
      refine (hLess.out _ _ le lf _ (IL.of_own O_e.out rfl R_e.out (by first | omega | (have := HLEN.out; omega))) (IL.of_own O_f.out rfl R_f.out (by first | omega | (have := HLEN.out; omega)))).mono ?_
      rintro e w22 ⟨v_s4v, rfl, hown, hb⟩
      rw [H_Q.out] at hown
      have S_22 := hb.size
      have T_a := Lib.hid (u_own_below O_a.out hb); clear O_a; have O_a := T_a; clear T_a
      have T_b := Lib.hid (u_own_below O_b.out hb); clear O_b; have O_b := T_b; clear T_b
      have T_x := Lib.hid (u_own_below O_x.out hb); clear O_x; have O_x := T_x; clear T_x
      have T_y := Lib.hid (u_own_below O_y.out hb); clear O_y; have O_y := T_y; clear T_y
      have T_z := Lib.hid (u_own_below O_z.out hb); clear O_z; have O_z := T_z; clear T_z
      have T_c := Lib.hid (u_own_below O_c.out hb); clear O_c; have O_c := T_c; clear T_c
      have T_d := Lib.hid (u_own_below O_d.out hb); clear O_d; have O_d := T_d; clear T_d
      have T_e := Lib.hid (u_own_below O_e.out hb); clear O_e; have O_e := T_e; clear T_e
      have T_f := Lib.hid (u_own_below O_f.out hb); clear O_f; have O_f := T_f; clear T_f
      have BX := Lib.hid (BB.out.trans (hb.mono (by omega))); clear BB; have BB := BX; clear BX
      have CX := Lib.hid (code_below CODE.out hb); clear CODE; have CODE := CX; clear CX
      have O_s4v := Lib.hid hown
      clear hown hb
      go_wp2_with fail
      refine (sLess.out _ _ le lf _ (IL.of_own O_e.out rfl R_e.out (by first | omega | (have := HLEN.out; omega))) (IL.of_own O_f.out rfl R_f.out (by first | omega | (have := HLEN.out; omega)))).mono ?_
      rintro e w23 ⟨v_s5v, rfl, hown, hb⟩
      rw [H_Q.out] at hown
      have S_23 := hb.size
      have T_a := Lib.hid (u_own_below O_a.out hb); clear O_a; have O_a := T_a; clear T_a
      have T_b := Lib.hid (u_own_below O_b.out hb); clear O_b; have O_b := T_b; clear T_b
      have T_x := Lib.hid (u_own_below O_x.out hb); clear O_x; have O_x := T_x; clear T_x
      have T_y := Lib.hid (u_own_below O_y.out hb); clear O_y; have O_y := T_y; clear T_y
      have T_z := Lib.hid (u_own_below O_z.out hb); clear O_z; have O_z := T_z; clear T_z
      have T_c := Lib.hid (u_own_below O_c.out hb); clear O_c; have O_c := T_c; clear T_c
      have T_d := Lib.hid (u_own_below O_d.out hb); clear O_d; have O_d := T_d; clear T_d
      have T_e := Lib.hid (u_own_below O_e.out hb); clear O_e; have O_e := T_e; clear T_e
      have T_f := Lib.hid (u_own_below O_f.out hb); clear O_f; have O_f := T_f; clear T_f
      have T_s4v := Lib.hid (u_own_below O_s4v.out hb); clear O_s4v; have O_s4v := T_s4v; clear T_s4v
      have BX := Lib.hid (BB.out.trans (hb.mono (by omega))); clear BB; have BB := BX; clear BX
      have CX := Lib.hid (code_below CODE.out hb); clear CODE; have CODE := CX; clear CX
      have O_s5v := Lib.hid hown
      clear hown hb
      go_wp2_with fail
      refine (hsame.out _ _ Q _ (IL.of_own O_s4v.out rfl R_Q.out (by first | omega | (have := HLEN.out; omega))) (IL.of_own O_s5v.out rfl R_Q.out (by first | omega | (have := HLEN.out; omega)))).mono ?_
      rintro e w24 ⟨rfl, hb⟩
      have S_24 := hb.size
      have T_a := Lib.hid (u_own_below O_a.out hb); clear O_a; have O_a := T_a; clear T_a
      have T_b := Lib.hid (u_own_below O_b.out hb); clear O_b; have O_b := T_b; clear T_b
      have T_x := Lib.hid (u_own_below O_x.out hb); clear O_x; have O_x := T_x; clear T_x
      have T_y := Lib.hid (u_own_below O_y.out hb); clear O_y; have O_y := T_y; clear T_y
      have T_z := Lib.hid (u_own_below O_z.out hb); clear O_z; have O_z := T_z; clear T_z
      have T_c := Lib.hid (u_own_below O_c.out hb); clear O_c; have O_c := T_c; clear T_c
      have T_d := Lib.hid (u_own_below O_d.out hb); clear O_d; have O_d := T_d; clear T_d
      have T_e := Lib.hid (u_own_below O_e.out hb); clear O_e; have O_e := T_e; clear T_e
      have T_f := Lib.hid (u_own_below O_f.out hb); clear O_f; have O_f := T_f; clear T_f
      have T_s4v := Lib.hid (u_own_below O_s4v.out hb); clear O_s4v; have O_s4v := T_s4v; clear T_s4v
      have T_s5v := Lib.hid (u_own_below O_s5v.out hb); clear O_s5v; have O_s5v := T_s5v; clear T_s5v
      have BX := Lib.hid (BB.out.trans (hb.mono (by omega))); clear BB; have BB := BX; clear BX
      have CX := Lib.hid (code_below CODE.out hb); clear CODE; have CODE := CX; clear CX
      clear hb
      clear O_s4v
      clear O_s5v
      go_wp2_with fail
      go_ret
      exact ⟨rfl, BB.out⟩
    | true =>
      have Hia := Lib.hid hia
      have Hib := Lib.hid hib
      have ra := idsB_ris hia
      have rb := idsB_ris hib
      have eX : andL la lb = X := by rw [← H_X.out, mM_and hia hib]
      have eY : orL la lb = Y := by rw [← H_Y.out, mM_or hia hib]
      have eZ : lessL la lb = Z := by rw [← H_Z.out, mM_less hia hib]
      have HXm := Lib.hid (fun x => (by rw [← eX]; exact andL_mem : x ∈ X ↔ x ∈ la ∧ x ∈ lb))
      have HYm := Lib.hid (fun x => (by rw [← eY]; exact orL_mem _ : x ∈ Y ↔ x ∈ la ∨ x ∈ lb))
      have HZm := Lib.hid (fun x => (by rw [← eZ]; exact lessL_mem : x ∈ Z ↔ x ∈ la ∧ ¬ x ∈ lb))
      have rX : Ris X := by rw [← eX]; exact andL_ris ra
      have rY : Ris Y := by rw [← eY]; exact orL_ris _ ra
      have rZ : Ris Z := by rw [← eZ]; exact lessL_ris ra
      have hlen := or_len ra rb
      rw [eY, eX] at hlen
      have hz := and_less_len la lb
      rw [eX, eZ] at hz
      have HiY := Lib.hid (idsB_of rY (by omega))
      have H_la : Hid (orM X Z = la) := Lib.hid (by rw [mM_or (idsB_of rX (by omega)) (idsB_of rZ (by omega)), ← eX, ← eZ]; exact or_back ra)
      have H_Yb : Hid (orM lb la = Y) := Lib.hid (by rw [mM_or hib hia, or_comm_ris ra rb, eY])
      have H_Xb : Hid (andM lb la = X) := Lib.hid (by rw [mM_and hib hia, and_comm_ris ra rb, eX])
      have hlq : (Y.length : Int) = la.length + lb.length - X.length := by omega
      have HLQ := Lib.hid hlq
      clear hia hib ra rb eX eY eZ rX rY rZ hlen hlq
      go_wp2_with fail
      refine (hrise.out _ la _ (IL.of_own O_a.out rfl R_a.out (by first | omega | (have := HLEN.out; omega)))).mono ?_
      rintro e w15 ⟨rfl, hb⟩
      rw [Hia.out]
      have S_15 := hb.size
      have T_a := Lib.hid (u_own_below O_a.out hb); clear O_a; have O_a := T_a; clear T_a
      have T_b := Lib.hid (u_own_below O_b.out hb); clear O_b; have O_b := T_b; clear T_b
      have T_x := Lib.hid (u_own_below O_x.out hb); clear O_x; have O_x := T_x; clear T_x
      have T_y := Lib.hid (u_own_below O_y.out hb); clear O_y; have O_y := T_y; clear T_y
      have T_z := Lib.hid (u_own_below O_z.out hb); clear O_z; have O_z := T_z; clear T_z
      have T_c := Lib.hid (u_own_below O_c.out hb); clear O_c; have O_c := T_c; clear T_c
      have T_d := Lib.hid (u_own_below O_d.out hb); clear O_d; have O_d := T_d; clear T_d
      have T_e := Lib.hid (u_own_below O_e.out hb); clear O_e; have O_e := T_e; clear T_e
      have T_f := Lib.hid (u_own_below O_f.out hb); clear O_f; have O_f := T_f; clear T_f
      have BX := Lib.hid (BB.out.trans (hb.mono (by omega))); clear BB; have BB := BX; clear BX
      have CX := Lib.hid (code_below CODE.out hb); clear CODE; have CODE := CX; clear CX
      clear hb
      go_wp2_with fail
      refine (hrise.out _ lb _ (IL.of_own O_b.out rfl R_b.out (by first | omega | (have := HLEN.out; omega)))).mono ?_
      rintro e w16 ⟨rfl, hb⟩
      rw [Hib.out]
      have S_16 := hb.size
      have T_a := Lib.hid (u_own_below O_a.out hb); clear O_a; have O_a := T_a; clear T_a
      have T_b := Lib.hid (u_own_below O_b.out hb); clear O_b; have O_b := T_b; clear T_b
      have T_x := Lib.hid (u_own_below O_x.out hb); clear O_x; have O_x := T_x; clear T_x
      have T_y := Lib.hid (u_own_below O_y.out hb); clear O_y; have O_y := T_y; clear T_y
      have T_z := Lib.hid (u_own_below O_z.out hb); clear O_z; have O_z := T_z; clear T_z
      have T_c := Lib.hid (u_own_below O_c.out hb); clear O_c; have O_c := T_c; clear T_c
      have T_d := Lib.hid (u_own_below O_d.out hb); clear O_d; have O_d := T_d; clear T_d
      have T_e := Lib.hid (u_own_below O_e.out hb); clear O_e; have O_e := T_e; clear T_e
      have T_f := Lib.hid (u_own_below O_f.out hb); clear O_f; have O_f := T_f; clear T_f
      have BX := Lib.hid (BB.out.trans (hb.mono (by omega))); clear BB; have BB := BX; clear BX
      have CX := Lib.hid (code_below CODE.out hb); clear CODE; have CODE := CX; clear CX
      clear hb
      clear O_c
      clear O_d
      clear O_e
      clear O_f
      have IX := Lib.hid (IL.of_own O_x.out rfl R_X.out (by first | omega | (have := HLEN.out; omega)))
      have IA := Lib.hid (IL.of_own O_a.out rfl R_a.out (by first | omega | (have := HLEN.out; omega)))
      have IB := Lib.hid (IL.of_own O_b.out rfl R_b.out (by first | omega | (have := HLEN.out; omega)))
      have IZ := Lib.hid (IL.of_own O_z.out rfl R_Z.out (by first | omega | (have := HLEN.out; omega)))
      have IY := Lib.hid (IL.of_own O_y.out rfl R_Y.out (by first | omega | (have := HLEN.out; omega)))
      obtain ⟨_, _, Ay, cy, hvy, h3⟩ := IY.out
      subst hvy
      obtain ⟨_, _, AX, cX, hvX, _⟩ := IX.out
      subst hvX
      obtain ⟨_, _, AA, cA, hvA, _⟩ := IA.out
      subst hvA
      obtain ⟨_, _, AB, cB, hvB, _⟩ := IB.out
      subst hvB
      go_wp2_with fail
      go_loopw [12] (fun i wr => ∃ k : Nat, k ≤ Y.length ∧ i = .int .i64 k ∧ wr = w16) (fun i _ => Y.length - (Go.RowKit.intOf i).toNat)
      case atStart => exact ⟨0, Nat.zero_le _, rfl, rfl⟩
      case round =>
        obtain ⟨k, hk, rfl, hwr⟩ := hrel
        subst hwr
        by_cases hlt : k < Y.length
        · rcases h3 with h3 | ⟨bb, off, rfl, hbl, hc⟩
          · subst h3; simp at hlt
          have hxk := hc k hlt
          have hin : Y.getD k 0 ∈ Y := has_yes hlt rfl
          have hor := (HYm.out _).1 hin
          have hX := HXm.out (Y.getD k 0)
          have hZ := HZm.out (Y.getD k 0)
          clear hc hin
          generalize Y.getD k 0 = q at *
          by_cases ha : q ∈ la
          · by_cases hb : q ∈ lb
            · skip
              have dx := Lib.hid (show decide (q ∈ X) = true from decide_eq_true (by rw [hX]; exact ⟨ha, hb⟩))
              have da := Lib.hid (show decide (q ∈ la) = true from decide_eq_true ha)
              have db := Lib.hid (show decide (q ∈ lb) = true from decide_eq_true hb)
              have dz := Lib.hid (show decide (q ∈ Z) = false from decide_eq_false (by rw [hZ]; exact fun e => e.2 hb))
              clear hX hZ hor ha hb
              go_wp2_with fail
              refine (hhas.out _ X q _ IX.out).mono ?_
              rintro e w'' ⟨rfl, rfl⟩
              rw [dx.out]
              go_wp2_with fail
              refine (hhas.out _ la q _ IA.out).mono ?_
              rintro e w'' ⟨rfl, rfl⟩
              rw [da.out]
              go_wp2_with fail
              refine (hhas.out _ lb q _ IB.out).mono ?_
              rintro e w'' ⟨rfl, rfl⟩
              rw [db.out]
              go_wp2_with fail
              refine (hhas.out _ la q _ IA.out).mono ?_
              rintro e w'' ⟨rfl, rfl⟩
              rw [da.out]
              go_wp2_with fail
              refine (hhas.out _ Z q _ IZ.out).mono ?_
              rintro e w'' ⟨rfl, rfl⟩
              rw [dz.out]
              go_wp2_with fail
              refine (hhas.out _ la q _ IA.out).mono ?_
              rintro e w'' ⟨rfl, rfl⟩
              rw [da.out]
              go_wp2_with fail
              refine (hhas.out _ lb q _ IB.out).mono ?_
              rintro e w'' ⟨rfl, rfl⟩
              rw [db.out]
              go_wp2_with fail
              go_roundw
              case rel => exact ⟨k + 1, by omega, by go_num, by first | rfl | trivial⟩
              case measure => simp [Go.RowKit.intOf]; omega
            · skip
              have dx := Lib.hid (show decide (q ∈ X) = false from decide_eq_false (by rw [hX]; exact fun e => hb e.2))
              have da := Lib.hid (show decide (q ∈ la) = true from decide_eq_true ha)
              have db := Lib.hid (show decide (q ∈ lb) = false from decide_eq_false hb)
              have dz := Lib.hid (show decide (q ∈ Z) = true from decide_eq_true (by rw [hZ]; exact ⟨ha, hb⟩))
              clear hX hZ hor ha hb
              go_wp2_with fail
              refine (hhas.out _ X q _ IX.out).mono ?_
              rintro e w'' ⟨rfl, rfl⟩
              rw [dx.out]
              go_wp2_with fail
              refine (hhas.out _ la q _ IA.out).mono ?_
              rintro e w'' ⟨rfl, rfl⟩
              rw [da.out]
              go_wp2_with fail
              refine (hhas.out _ lb q _ IB.out).mono ?_
              rintro e w'' ⟨rfl, rfl⟩
              rw [db.out]
              go_wp2_with fail
              refine (hhas.out _ la q _ IA.out).mono ?_
              rintro e w'' ⟨rfl, rfl⟩
              rw [da.out]
              go_wp2_with fail
              refine (hhas.out _ Z q _ IZ.out).mono ?_
              rintro e w'' ⟨rfl, rfl⟩
              rw [dz.out]
              go_wp2_with fail
              refine (hhas.out _ la q _ IA.out).mono ?_
              rintro e w'' ⟨rfl, rfl⟩
              rw [da.out]
              go_wp2_with fail
              refine (hhas.out _ lb q _ IB.out).mono ?_
              rintro e w'' ⟨rfl, rfl⟩
              rw [db.out]
              go_wp2_with fail
              go_roundw
              case rel => exact ⟨k + 1, by omega, by go_num, by first | rfl | trivial⟩
              case measure => simp [Go.RowKit.intOf]; omega
          · have hb : q ∈ lb := hor.resolve_left ha
            have dx := Lib.hid (show decide (q ∈ X) = false from decide_eq_false (by rw [hX]; exact fun e => ha e.1))
            have da := Lib.hid (show decide (q ∈ la) = false from decide_eq_false ha)
            have db := Lib.hid (show decide (q ∈ lb) = true from decide_eq_true hb)
            have dz := Lib.hid (show decide (q ∈ Z) = false from decide_eq_false (by rw [hZ]; exact fun e => ha e.1))
            clear hX hZ hor ha hb
            go_wp2_with fail
            refine (hhas.out _ X q _ IX.out).mono ?_
            rintro e w'' ⟨rfl, rfl⟩
            rw [dx.out]
            go_wp2_with fail
            refine (hhas.out _ la q _ IA.out).mono ?_
            rintro e w'' ⟨rfl, rfl⟩
            rw [da.out]
            go_wp2_with fail
            refine (hhas.out _ la q _ IA.out).mono ?_
            rintro e w'' ⟨rfl, rfl⟩
            rw [da.out]
            go_wp2_with fail
            refine (hhas.out _ lb q _ IB.out).mono ?_
            rintro e w'' ⟨rfl, rfl⟩
            rw [db.out]
            go_wp2_with fail
            refine (hhas.out _ Z q _ IZ.out).mono ?_
            rintro e w'' ⟨rfl, rfl⟩
            rw [dz.out]
            go_wp2_with fail
            refine (hhas.out _ la q _ IA.out).mono ?_
            rintro e w'' ⟨rfl, rfl⟩
            rw [da.out]
            go_wp2_with fail
            go_roundw
            case rel => exact ⟨k + 1, by omega, by go_num, by first | rfl | trivial⟩
            case measure => simp [Go.RowKit.intOf]; omega
        · obtain rfl : k = Y.length := by omega
          clear IX IA IB IZ IY h3
          go_wp2_with fail
          refine (hrise.out _ Y _ (IL.of_own O_y.out rfl R_Y.out (by first | omega | (have := HLEN.out; omega)))).mono ?_
          rintro e w17 ⟨rfl, hb⟩
          rw [HiY.out]
          have S_17 := hb.size
          have T_a := Lib.hid (u_own_below O_a.out hb); clear O_a; have O_a := T_a; clear T_a
          have T_b := Lib.hid (u_own_below O_b.out hb); clear O_b; have O_b := T_b; clear T_b
          have T_x := Lib.hid (u_own_below O_x.out hb); clear O_x; have O_x := T_x; clear T_x
          have T_y := Lib.hid (u_own_below O_y.out hb); clear O_y; have O_y := T_y; clear T_y
          have T_z := Lib.hid (u_own_below O_z.out hb); clear O_z; have O_z := T_z; clear T_z
          have BX := Lib.hid (BB.out.trans (hb.mono (by omega))); clear BB; have BB := BX; clear BX
          have CX := Lib.hid (code_below CODE.out hb); clear CODE; have CODE := CX; clear CX
          clear hb
          have hq1 := HLQ.out
          have hq2 : IntKind.i64.wrap ((la.length : Int) + (lb.length : Int)) = (la.length : Int) + (lb.length : Int) := IntWalk.i64_in _ (by omega)
          have hq3 : IntKind.i64.wrap ((la.length : Int) + (lb.length : Int) - (X.length : Int)) = (Y.length : Int) := by rw [hq1]; exact IntWalk.i64_in _ (by omega)
          have hq4 : ((Y.length : Int) == (Y.length : Int)) = true := by simp
          clear hq1
          go_wp2_with fail
          refine (hOr.out _ _ X Z _ (IL.of_own O_x.out rfl R_X.out (by first | omega | (have := HLEN.out; omega))) (IL.of_own O_z.out rfl R_Z.out (by first | omega | (have := HLEN.out; omega)))).mono ?_
          rintro e w18 ⟨v_t1, rfl, hown, hb⟩
          rw [H_la.out] at hown
          have S_18 := hb.size
          have T_a := Lib.hid (u_own_below O_a.out hb); clear O_a; have O_a := T_a; clear T_a
          have T_b := Lib.hid (u_own_below O_b.out hb); clear O_b; have O_b := T_b; clear T_b
          have T_x := Lib.hid (u_own_below O_x.out hb); clear O_x; have O_x := T_x; clear T_x
          have T_y := Lib.hid (u_own_below O_y.out hb); clear O_y; have O_y := T_y; clear T_y
          have T_z := Lib.hid (u_own_below O_z.out hb); clear O_z; have O_z := T_z; clear T_z
          have BX := Lib.hid (BB.out.trans (hb.mono (by omega))); clear BB; have BB := BX; clear BX
          have CX := Lib.hid (code_below CODE.out hb); clear CODE; have CODE := CX; clear CX
          have O_t1 := Lib.hid hown
          clear hown hb
          go_wp2_with fail
          refine (hsame.out _ _ la _ (IL.of_own O_t1.out rfl R_a.out (by first | omega | (have := HLEN.out; omega))) (IL.of_own O_a.out rfl R_a.out (by first | omega | (have := HLEN.out; omega)))).mono ?_
          rintro e w19 ⟨rfl, hb⟩
          have S_19 := hb.size
          have T_a := Lib.hid (u_own_below O_a.out hb); clear O_a; have O_a := T_a; clear T_a
          have T_b := Lib.hid (u_own_below O_b.out hb); clear O_b; have O_b := T_b; clear T_b
          have T_x := Lib.hid (u_own_below O_x.out hb); clear O_x; have O_x := T_x; clear T_x
          have T_y := Lib.hid (u_own_below O_y.out hb); clear O_y; have O_y := T_y; clear T_y
          have T_z := Lib.hid (u_own_below O_z.out hb); clear O_z; have O_z := T_z; clear T_z
          have T_t1 := Lib.hid (u_own_below O_t1.out hb); clear O_t1; have O_t1 := T_t1; clear T_t1
          have BX := Lib.hid (BB.out.trans (hb.mono (by omega))); clear BB; have BB := BX; clear BX
          have CX := Lib.hid (code_below CODE.out hb); clear CODE; have CODE := CX; clear CX
          clear hb
          clear O_t1
          have H_Ysave := H_Y; clear H_Y; have H_Y := H_Yb
          go_wp2_with fail
          refine (hOr.out _ _ lb la _ (IL.of_own O_b.out rfl R_b.out (by first | omega | (have := HLEN.out; omega))) (IL.of_own O_a.out rfl R_a.out (by first | omega | (have := HLEN.out; omega)))).mono ?_
          rintro e w20 ⟨v_t2, rfl, hown, hb⟩
          rw [H_Y.out] at hown
          have S_20 := hb.size
          have T_a := Lib.hid (u_own_below O_a.out hb); clear O_a; have O_a := T_a; clear T_a
          have T_b := Lib.hid (u_own_below O_b.out hb); clear O_b; have O_b := T_b; clear T_b
          have T_x := Lib.hid (u_own_below O_x.out hb); clear O_x; have O_x := T_x; clear T_x
          have T_y := Lib.hid (u_own_below O_y.out hb); clear O_y; have O_y := T_y; clear T_y
          have T_z := Lib.hid (u_own_below O_z.out hb); clear O_z; have O_z := T_z; clear T_z
          have BX := Lib.hid (BB.out.trans (hb.mono (by omega))); clear BB; have BB := BX; clear BX
          have CX := Lib.hid (code_below CODE.out hb); clear CODE; have CODE := CX; clear CX
          have O_t2 := Lib.hid hown
          clear hown hb
          go_wp2_with fail
          refine (hsame.out _ _ Y _ (IL.of_own O_t2.out rfl R_Y.out (by first | omega | (have := HLEN.out; omega))) (IL.of_own O_y.out rfl R_Y.out (by first | omega | (have := HLEN.out; omega)))).mono ?_
          rintro e w21 ⟨rfl, hb⟩
          have S_21 := hb.size
          have T_a := Lib.hid (u_own_below O_a.out hb); clear O_a; have O_a := T_a; clear T_a
          have T_b := Lib.hid (u_own_below O_b.out hb); clear O_b; have O_b := T_b; clear T_b
          have T_x := Lib.hid (u_own_below O_x.out hb); clear O_x; have O_x := T_x; clear T_x
          have T_y := Lib.hid (u_own_below O_y.out hb); clear O_y; have O_y := T_y; clear T_y
          have T_z := Lib.hid (u_own_below O_z.out hb); clear O_z; have O_z := T_z; clear T_z
          have T_t2 := Lib.hid (u_own_below O_t2.out hb); clear O_t2; have O_t2 := T_t2; clear T_t2
          have BX := Lib.hid (BB.out.trans (hb.mono (by omega))); clear BB; have BB := BX; clear BX
          have CX := Lib.hid (code_below CODE.out hb); clear CODE; have CODE := CX; clear CX
          clear hb
          clear O_t2
          have H_Xsave := H_X; clear H_X; have H_X := H_Xb
          go_wp2_with fail
          refine (hAnd.out _ _ lb la _ (IL.of_own O_b.out rfl R_b.out (by first | omega | (have := HLEN.out; omega))) (IL.of_own O_a.out rfl R_a.out (by first | omega | (have := HLEN.out; omega)))).mono ?_
          rintro e w22 ⟨v_t3, rfl, hown, hb⟩
          rw [H_X.out] at hown
          have S_22 := hb.size
          have T_a := Lib.hid (u_own_below O_a.out hb); clear O_a; have O_a := T_a; clear T_a
          have T_b := Lib.hid (u_own_below O_b.out hb); clear O_b; have O_b := T_b; clear T_b
          have T_x := Lib.hid (u_own_below O_x.out hb); clear O_x; have O_x := T_x; clear T_x
          have T_y := Lib.hid (u_own_below O_y.out hb); clear O_y; have O_y := T_y; clear T_y
          have T_z := Lib.hid (u_own_below O_z.out hb); clear O_z; have O_z := T_z; clear T_z
          have BX := Lib.hid (BB.out.trans (hb.mono (by omega))); clear BB; have BB := BX; clear BX
          have CX := Lib.hid (code_below CODE.out hb); clear CODE; have CODE := CX; clear CX
          have O_t3 := Lib.hid hown
          clear hown hb
          go_wp2_with fail
          refine (hsame.out _ _ X _ (IL.of_own O_t3.out rfl R_X.out (by first | omega | (have := HLEN.out; omega))) (IL.of_own O_x.out rfl R_X.out (by first | omega | (have := HLEN.out; omega)))).mono ?_
          rintro e w23 ⟨rfl, hb⟩
          have S_23 := hb.size
          have T_a := Lib.hid (u_own_below O_a.out hb); clear O_a; have O_a := T_a; clear T_a
          have T_b := Lib.hid (u_own_below O_b.out hb); clear O_b; have O_b := T_b; clear T_b
          have T_x := Lib.hid (u_own_below O_x.out hb); clear O_x; have O_x := T_x; clear T_x
          have T_y := Lib.hid (u_own_below O_y.out hb); clear O_y; have O_y := T_y; clear T_y
          have T_z := Lib.hid (u_own_below O_z.out hb); clear O_z; have O_z := T_z; clear T_z
          have T_t3 := Lib.hid (u_own_below O_t3.out hb); clear O_t3; have O_t3 := T_t3; clear T_t3
          have BX := Lib.hid (BB.out.trans (hb.mono (by omega))); clear BB; have BB := BX; clear BX
          have CX := Lib.hid (code_below CODE.out hb); clear CODE; have CODE := CX; clear CX
          clear hb
          clear O_t3
          go_wp2_with fail
          go_ret
          exact ⟨rfl, BB.out⟩
end Go.Proofs.Ytinpndoepppboaa
