/- Walks: the model's Above. -/
import Derived.Test.YtpmankbokbcmbaaTb
import Derived.Test.YtpmankbokbcmbaaTd
set_option linter.unusedVariables false
set_option linter.unusedSimpArgs false
namespace Go.Proofs.Ytpmankbokbcmbaa
open Go.RowKit

theorem step_append_ownT {P : Program} (w : World) {ops : Array Oper} {o : Oper} {a : Act} {K : Act → World → Prop} {Q : Exit → Act → World → Prop} {E : Prop} (hgd : o.guard = none) (s x : Operand) (t : TypeId)
    (ho : o.op = .call { callee := .builtin .append, args := #[s, x], argTypes := #[t, t] })
    (base : Nat) (e : TypeId) (i : TypeInfo) (z : Value) (size bytes : Nat) (ht : P.underlying t = some (.slice e)) (hi : P.info? e = some i) (hz : i.zero = some z)
    (hsize : i.size = size) (hby : i.bytes = bytes) (hzs : z.cells.size = size) (hsz : 0 < size)
    (v : Value) (n : Nat) (xs : List Value) (hs : a.eval s = v) (hown : w.ownsRow base e size v n xs)
    (ad : Addr) (m c : Nat) (news : List Value) (hx : a.eval x = .slice (some ad) m c) (hl : news.length = m * size) (hnews : ∀ j u, news[j]? = some u → w.cell? (ad.add j) = some u) (h1 : ∀ u ∈ news, u.oneCell' = true)
    (h63 : n + m ≤ maxLen) (hbytes : (n + m) * bytes ≤ 140737488355328) (hbase : base ≤ w.heap.size)
    (h : ∀ v' w', w'.ownsRow base e size v' (n + m) (xs ++ news) → w.grownBy w' v.ownBlock → K (a.put o.dst v') w') :
    if Region.wanted o (yielded ops a.tmps) = true then Oper.wp P o a w K Q else E := by
  have hw : Region.wanted o (yielded ops a.tmps) = true := by simp [Region.wanted, hgd]
  rw [if_pos hw]
  exact wp_append_own w s x t ho base e i z size bytes ht hi hz hsize hby hzs hsz v n xs hs hown ad m c news hx hl hnews h1 h63 hbytes hbase fun v' w' h2 h3 _ => h v' w' h2 h3
/-- where the model's loop is: what is open, what is out, what is left -/
def AbSt (xs : List (Int × Int)) (lim long : Int) (R : List (Int × Int)) (k : Nat) (ys : List (Int × Int)) (o : Int) : Prop :=
  (k = xs.length + 1 → ys = R) ∧ (o = -1 ∧ (k ≤ xs.length → ys ++ (spL lim none (xs.drop k)).filter (longB long) = R) ∨
    ∃ m : Nat, m < k ∧ k ≤ xs.length ∧ o = (m : Int) ∧ ys ++ (spL lim (some ((xs.getD m (0, 0)).1, (xs.getD (k - 1) (0, 0)).1)) (xs.drop k)).filter (longB long) = R)

set_option maxRecDepth 100000 in
set_option maxHeartbeats 4000000 in
theorem specAbove_any (v : Value) (xs : List (Int × Int)) (lim long : Int) (w : World) (h : PL w w.heap.size v xs) :
    Calls Try.prog 11 #[v, .int .i64 lim, .int .i64 long] w (SOwnPost w.heap.size (abvM xs lim long) w) := by
  have HP := Lib.hid h
  have hP := Lib.hid (fun W h => specPointsOk_any v xs W h)
  have hempty : ∀ (w1 : World), w.heap.size ≤ w1.heap.size → (w1.alloc (.cells #[] 40)).ownsRow w.heap.size 40 2 (.slice (some ⟨w1.heap.size, 0, none⟩) 0 0) 0 (prs []) := fun w1 hs => by
    have := World.ownsRow_made w1 (base := w.heap.size) (e := 40) (size := 2) #[] 0 hs (by simp [maxLen]) rfl
    simpa [prs] using this
  have HE := Lib.hid hempty
  clear hempty
  obtain ⟨w1, hw1⟩ : ∃ w1, w.alloc (.cells #[] 40) = w1 := ⟨_, rfl⟩
  have B1 := Lib.hid (show Below w.heap.size w w1 from by rw [← hw1]; exact (Below.refl _ _).alloc (Nat.le_refl _) _)
  have O1 := Lib.hid (show w1.ownsRow w.heap.size 40 2 (.slice (some ⟨w.heap.size, 0, none⟩) 0 0) 0 (prs []) from by rw [← hw1]; exact HE.out w (Nat.le_refl _))
  have HW1 := Lib.hid hw1
  clear hw1 HE
  obtain ⟨hr, hlen, A, c, rfl, h3⟩ := h
  obtain ⟨i0, hi, hz0, hz1, hz2⟩ := info_parts info_sp
  cases hok : ptsOkB xs with
  | false =>
    have hm : abvM xs lim long = [] := by unfold abvM; rw [hok]; exact if_neg (by simp)
    rw [hm]
    rw [hok] at hP
    clear hok hm h3 hr
    go_enter Try.func11, Try.ntmps11
    go_wp2_with fail
    rw [HW1.out]
    refine (hP.out _ ((HP.out.below B1.out).up B1.out.size)).mono ?_
    rintro e w2 ⟨rfl, hb2⟩
    go_wp2_with fail
    go_ret
    exact ⟨_, rfl, u_own_below O1.out hb2, B1.out.trans (hb2.mono B1.out.size)⟩
  | true =>
    rw [hok] at hP
    by_cases hlong : long < 0
    · have hm : abvM xs lim long = [] := by unfold abvM; exact if_neg (by omega)
      rw [hm]
      clear hok hm h3 hr
      go_enter Try.func11, Try.ntmps11
      go_wp2_with fail
      rw [HW1.out]
      refine (hP.out _ ((HP.out.below B1.out).up B1.out.size)).mono ?_
      rintro e w2 ⟨rfl, hb2⟩
      go_wp2_with fail
      go_ret
      exact ⟨_, rfl, u_own_below O1.out hb2, B1.out.trans (hb2.mono B1.out.size)⟩
    have hm : abvM xs lim long = abvL xs lim long := by unfold abvM; exact if_pos ⟨hok, by omega⟩
    rw [hm]
    have HT := Lib.hid (fun j hj => (ptsOkB_atT hok (j := j) hj).1)
    have HR0 : (spL lim none xs).filter (longB long) = abvL xs lim long := rfl
    have HRl := abvL_len xs lim long
    generalize abvL xs lim long = R at *
    have HR0 := Lib.hid HR0
    clear hok hm hr
    go_enter Try.func11, Try.ntmps11
    go_wp2_with fail
    rw [HW1.out]
    refine (hP.out _ ((HP.out.below B1.out).up B1.out.size)).mono ?_
    rintro e w2 ⟨rfl, hb2⟩
    have O2 := Lib.hid (u_own_below O1.out hb2)
    have B2 := Lib.hid (B1.out.trans (hb2.mono B1.out.size))
    clear hb2 O1 B1 HW1 HP hP
    go_wp2_with fail
    go_loopw [7, 8, 9] (fun v o i wr => ∃ (k : Nat) (ys : List (Int × Int)) (oi : Int), k ≤ xs.length + 1 ∧ i = .int .i64 (k : Int) ∧ o = .int .i64 oi ∧ AbSt xs lim long R k ys oi ∧ wr.ownsRow w.heap.size 40 2 v ys.length (prs ys) ∧ Below w.heap.size w wr)
      (fun _ _ i _ => xs.length + 1 - (intOf i).toNat)
    case atStart =>
      exact ⟨0, [], -1, Nat.zero_le _, rfl, rfl, ⟨fun h => by omega, .inl ⟨rfl, fun _ => by simpa using HR0.out⟩⟩, O2.out, B2.out⟩
    case round =>
      clear O2 B2
      obtain ⟨k, ys, oi, hk, rfl, rfl, ⟨hst1, hst2⟩, hown, hb⟩ := hrel
      have hsz := hb.size
      by_cases hlt : k < xs.length + 1
      · have hleI : (k : Int) ≤ (xs.length : Int) := by omega
        have Hst1 := Lib.hid hst1
        clear hst1
        have HO := Lib.hid hown
        have HB := Lib.hid hb
        clear hown
        by_cases hin : k < xs.length ∧ lim < (xs.getD k (0, 0)).2
        · obtain ⟨hkn, hhi⟩ := hin
          rcases h3 with h3 | ⟨b, off, rfl, hbl, hc⟩
          · subst h3; simp at hkn
          have hkI : (k : Int) < (xs.length : Int) := by omega
          have hx1 : wr.cell? ⟨b, off + k * 2 + 1, none⟩ = some (.int .i64 (xs.getD k (0, 0)).2) := (hb.cell (p := ⟨b, off + k * 2 + 1, none⟩) hbl).trans (hc k hkn).2
          rcases hst2 with ⟨rfl, hl⟩ | ⟨m, hmk, _, rfl, hl⟩
          · have E := Lib.hid (show AbSt xs lim long R (k + 1) ys (k : Int) from ⟨fun h => by omega, .inr ⟨k, by omega, by omega, rfl, by rw [← hl (by omega), spL_hi hkn hhi]; rfl⟩⟩)
            generalize (xs.getD k (0, 0)).2 = y at *
            clear hc hl hb
            go_wp2_with fail
            go_roundw
            case rel => exact ⟨k + 1, ys, _, by omega, by go_num, rfl, E.out, (by first | exact HO.out | exact u_own_below HO.out (below_drewN_u (Below.refl _ _) _)), (by first | exact HB.out | exact below_drewN_u HB.out _)⟩
            case measure => simp [intOf]; omega
          · have E := Lib.hid (show AbSt xs lim long R (k + 1) ys (m : Int) from ⟨fun h => by omega, .inr ⟨m, by omega, by omega, rfl, by rw [← hl, spL_hi' hkn hhi]; rfl⟩⟩)
            have hm0 : ¬ ((m : Int) < 0) := by omega
            generalize (xs.getD k (0, 0)).2 = y at *
            clear hc hl hb
            go_wp2_with fail
            go_roundw
            case rel => exact ⟨k + 1, ys, _, by omega, by go_num, rfl, E.out, (by first | exact HO.out | exact u_own_below HO.out (below_drewN_u (Below.refl _ _) _)), (by first | exact HB.out | exact below_drewN_u HB.out _)⟩
            case measure => simp [intOf]; omega
        · rcases hst2 with ⟨rfl, hl⟩ | ⟨m, hmk, _, rfl, hl⟩
          · have E := Lib.hid (show AbSt xs lim long R (k + 1) ys (-1) from by
              by_cases hkn : k < xs.length
              · exact ⟨fun h => by omega, .inl ⟨rfl, fun _ => by rw [← hl (by omega), spL_lo hkn (fun h => hin ⟨hkn, h⟩)]⟩⟩
              · have e : k = xs.length := by omega
                have := hl (by omega)
                rw [e, spL_end] at this
                exact ⟨fun _ => by simpa using this, .inl ⟨rfl, fun h => by omega⟩⟩)
            clear hl
            by_cases hkn : k < xs.length
            · rcases h3 with h3 | ⟨b, off, rfl, hbl, hc⟩
              · subst h3; simp at hkn
              have hkI : (k : Int) < (xs.length : Int) := by omega
              have hx1 : wr.cell? ⟨b, off + k * 2 + 1, none⟩ = some (.int .i64 (xs.getD k (0, 0)).2) := (hb.cell (p := ⟨b, off + k * 2 + 1, none⟩) hbl).trans (hc k hkn).2
              have hlo : ¬ lim < (xs.getD k (0, 0)).2 := fun h => hin ⟨hkn, h⟩
              generalize (xs.getD k (0, 0)).2 = y at *
              clear hc hb hin
              go_wp2_with fail
              go_quiet (fail)
              go_wp2_with fail
              go_roundw
              case rel => exact ⟨k + 1, ys, _, by omega, by go_num, rfl, E.out, (by first | exact HO.out | exact u_own_below HO.out (below_drewN_u (Below.refl _ _) _)), (by first | exact HB.out | exact below_drewN_u HB.out _)⟩
              case measure => simp [intOf]; omega
            · have hkI : ¬ (k : Int) < (xs.length : Int) := by omega
              clear hb hin h3
              go_wp2_with fail
              go_quiet (fail)
              go_wp2_with fail
              go_roundw
              case rel => exact ⟨k + 1, ys, _, by omega, by go_num, rfl, E.out, (by first | exact HO.out | exact u_own_below HO.out (below_drewN_u (Below.refl _ _) _)), (by first | exact HB.out | exact below_drewN_u HB.out _)⟩
              case measure => simp [intOf]; omega
          · rcases h3 with h3 | ⟨b, off, rfl, hbl, hc⟩
            · have : xs.length = 0 := by rw [h3]; rfl
              omega
            have hm0 : (0 : Int) ≤ (m : Int) := by omega
            have c0 : wr.cell? ⟨b, off + (k - 1) * 2, none⟩ = some (.int .i64 (xs.getD (k - 1) (0, 0)).1) := (hb.cell (p := ⟨b, off + (k - 1) * 2, none⟩) hbl).trans (hc (k - 1) (by omega)).1
            have c1 : wr.cell? ⟨b, off + m * 2, none⟩ = some (.int .i64 (xs.getD m (0, 0)).1) := (hb.cell (p := ⟨b, off + m * 2, none⟩) hbl).trans (hc m (by omega)).1
            have t0 := HT.out (k - 1) (by omega)
            have t1 := HT.out m (by omega)
            have e1 : IntKind.i64.wrap ((k : Int) - 1) = (k : Int) - 1 := IntWalk.i64_in _ (by omega)
            have e2 : (0 : Int) ≤ (k : Int) - 1 := by omega
            have e2' : (1 : Int) ≤ (k : Int) := by omega
            have e3 : ((k : Int) - 1).toNat = k - 1 := by omega
            have e4 : (k : Int) - 1 < (xs.length : Int) := by omega
            have e5 : (m : Int) < (xs.length : Int) := by omega
            have e6 : (0 : Int) ≤ (m : Int) := by omega
            have hs : (if xs.length = k then [] else spL lim none (xs.drop (k + 1))) = (if xs.length = k then [] else spL lim none (xs.drop (k + 1))) := rfl
            have hst : spL lim (some ((xs.getD m (0, 0)).1, (xs.getD (k - 1) (0, 0)).1)) (xs.drop k) = ((xs.getD m (0, 0)).1, (xs.getD (k - 1) (0, 0)).1) :: spL lim none (xs.drop (k + 1)) := by
              by_cases hkn : k < xs.length
              · exact spL_lo' hkn (fun h => hin ⟨hkn, h⟩)
              · have e : k = xs.length := by omega
                rw [e, spL_end', List.drop_eq_nil_of_le (by omega)]; rfl
            rw [hst, List.filter_cons] at hl
            clear hst hs
            have e7 : IntKind.i64.wrap ((xs.getD (k - 1) (0, 0)).1 - (xs.getD m (0, 0)).1) = (xs.getD (k - 1) (0, 0)).1 - (xs.getD m (0, 0)).1 := IntWalk.i64_in _ (by omega)
            by_cases hg : long ≤ (xs.getD (k - 1) (0, 0)).1 - (xs.getD m (0, 0)).1
            · rw [if_pos (show longB long _ = true from decide_eq_true hg)] at hl
              have E := Lib.hid (show AbSt xs lim long R (k + 1) (ys ++ [((xs.getD m (0, 0)).1, (xs.getD (k - 1) (0, 0)).1)]) (-1) from
                ⟨fun h => by rw [← hl, List.drop_eq_nil_of_le (show xs.length ≤ k + 1 by omega)]; rfl, .inl ⟨rfl, fun _ => by rw [← hl, List.append_assoc]; rfl⟩⟩)
              have hyl : ys.length < 1048576 := by
                have := congrArg List.length hl
                rw [List.length_append, List.length_cons] at this
                omega
              clear hl
              generalize (xs.getD (k - 1) (0, 0)).1 = y at *
              generalize (xs.getD m (0, 0)).1 = x at *
              by_cases hkn : k < xs.length
              · have hkI : (k : Int) < (xs.length : Int) := by omega
                have hx1 : wr.cell? ⟨b, off + k * 2 + 1, none⟩ = some (.int .i64 (xs.getD k (0, 0)).2) := (hb.cell (p := ⟨b, off + k * 2 + 1, none⟩) hbl).trans (hc k hkn).2
                have hlo : ¬ lim < (xs.getD k (0, 0)).2 := fun h => hin ⟨hkn, h⟩
                generalize (xs.getD k (0, 0)).2 = z at *
                clear hc hb hin
                go_wp2_with fail
                go_quiet (fail)
                go_wp2_with fail
                obtain ⟨W1, hW1⟩ : ∃ W1, wr.drewN nq = W1 := ⟨_, rfl⟩
                have HO1 := Lib.hid (show W1.ownsRow w.heap.size 40 2 u7 ys.length (prs ys) from by rw [← hW1]; exact u_own_below HO.out (below_drewN_u (Below.refl _ _) _))
                have HB1 := Lib.hid (show Below w.heap.size w W1 from by rw [← hW1]; exact below_drewN_u HB.out _)
                have d0 : W1.cell? ⟨b, off + (k - 1) * 2, none⟩ = some (.int .i64 y) := by rw [← hW1]; exact c0
                have d1 : W1.cell? ⟨b, off + m * 2, none⟩ = some (.int .i64 x) := by rw [← hW1]; exact c1
                have hs1 := HB1.out.size
                rw [hW1]
                clear hW1 HO HB c0 c1
                go_region_law (refine step_append_ownT _ rfl _ _ 24 rfl w.heap.size 40 i0 (.agg #[.int .i64 0, .int .i64 0]) 2 16 Try.underlying24 hi hz0 hz1 hz2 rfl (by decide) u7 ys.length (prs ys) rfl ((HO1.out.alloc _).drew) ⟨W1.heap.size, 0, none⟩ 1 1 [.int .i64 x, .int .i64 y] rfl rfl (two_cells (by go_simp) (by go_simp)) (fun u hu => by simp at hu; rcases hu with rfl | rfl <;> rfl) (by unfold maxLen; omega) (by omega) (by first | omega | (simp; omega)) ?_; intro v4 w4 hown4 hgrow4; have hb4 := ((HB1.out.alloc hs1 _).drew).grown hgrow4 (by first | omega | (simp; omega)) (fun j hj => (HO1.out.lt j hj).1))
                all_goals
                  clear e1 e2 e2' e3 e4 e5 e6 e7
                  have HO4 := Lib.hid (show w4.ownsRow w.heap.size 40 2 v4 (ys ++ [(x, y)]).length (prs (ys ++ [(x, y)])) from by rw [prs_append, List.length_append]; exact hown4)
                  have HB4 := Lib.hid hb4
                  clear hown4 hgrow4 hb4
                  go_simp
                  go_wp2_with fail
                  go_roundw
                  case rel => exact ⟨k + 1, ys ++ [(x, y)], _, by omega, by go_num, rfl, E.out, HO4.out, HB4.out⟩
                  case measure => simp [intOf]; omega
              · have hkI : ¬ (k : Int) < (xs.length : Int) := by omega
                clear hc hb hin
                go_wp2_with fail
                go_quiet (fail)
                go_wp2_with fail
                obtain ⟨W1, hW1⟩ : ∃ W1, wr.drewN nq = W1 := ⟨_, rfl⟩
                have HO1 := Lib.hid (show W1.ownsRow w.heap.size 40 2 u7 ys.length (prs ys) from by rw [← hW1]; exact u_own_below HO.out (below_drewN_u (Below.refl _ _) _))
                have HB1 := Lib.hid (show Below w.heap.size w W1 from by rw [← hW1]; exact below_drewN_u HB.out _)
                have d0 : W1.cell? ⟨b, off + (k - 1) * 2, none⟩ = some (.int .i64 y) := by rw [← hW1]; exact c0
                have d1 : W1.cell? ⟨b, off + m * 2, none⟩ = some (.int .i64 x) := by rw [← hW1]; exact c1
                have hs1 := HB1.out.size
                rw [hW1]
                clear hW1 HO HB c0 c1
                go_region_law (refine step_append_ownT _ rfl _ _ 24 rfl w.heap.size 40 i0 (.agg #[.int .i64 0, .int .i64 0]) 2 16 Try.underlying24 hi hz0 hz1 hz2 rfl (by decide) u7 ys.length (prs ys) rfl ((HO1.out.alloc _).drew) ⟨W1.heap.size, 0, none⟩ 1 1 [.int .i64 x, .int .i64 y] rfl rfl (two_cells (by go_simp) (by go_simp)) (fun u hu => by simp at hu; rcases hu with rfl | rfl <;> rfl) (by unfold maxLen; omega) (by omega) (by first | omega | (simp; omega)) ?_; intro v4 w4 hown4 hgrow4; have hb4 := ((HB1.out.alloc hs1 _).drew).grown hgrow4 (by first | omega | (simp; omega)) (fun j hj => (HO1.out.lt j hj).1))
                all_goals
                  clear e1 e2 e2' e3 e4 e5 e6 e7
                  have HO4 := Lib.hid (show w4.ownsRow w.heap.size 40 2 v4 (ys ++ [(x, y)]).length (prs (ys ++ [(x, y)])) from by rw [prs_append, List.length_append]; exact hown4)
                  have HB4 := Lib.hid hb4
                  clear hown4 hgrow4 hb4
                  go_simp
                  go_wp2_with fail
                  go_roundw
                  case rel => exact ⟨k + 1, ys ++ [(x, y)], _, by omega, by go_num, rfl, E.out, HO4.out, HB4.out⟩
                  case measure => simp [intOf]; omega
            · rw [if_neg (show ¬ longB long _ = true from by unfold longB; simpa using hg)] at hl
              have E := Lib.hid (show AbSt xs lim long R (k + 1) ys (-1) from
                ⟨fun h => by rw [← hl, List.drop_eq_nil_of_le (show xs.length ≤ k + 1 by omega)]; simp [spL], .inl ⟨rfl, fun _ => hl⟩⟩)
              clear hl
              generalize (xs.getD (k - 1) (0, 0)).1 = y at *
              generalize (xs.getD m (0, 0)).1 = x at *
              by_cases hkn : k < xs.length
              · have hkI : (k : Int) < (xs.length : Int) := by omega
                have hx1 : wr.cell? ⟨b, off + k * 2 + 1, none⟩ = some (.int .i64 (xs.getD k (0, 0)).2) := (hb.cell (p := ⟨b, off + k * 2 + 1, none⟩) hbl).trans (hc k hkn).2
                have hlo : ¬ lim < (xs.getD k (0, 0)).2 := fun h => hin ⟨hkn, h⟩
                generalize (xs.getD k (0, 0)).2 = z at *
                clear hc hb hin
                go_wp2_with fail
                go_quiet (fail)
                clear e1 e2 e2' e3 e4 e5 e6 e7
                go_wp2_with fail
                go_roundw
                case rel => exact ⟨k + 1, ys, _, by omega, by go_num, rfl, E.out, (by first | exact HO.out | exact u_own_below HO.out (below_drewN_u (Below.refl _ _) _)), (by first | exact HB.out | exact below_drewN_u HB.out _)⟩
                case measure => simp [intOf]; omega
              · have hkI : ¬ (k : Int) < (xs.length : Int) := by omega
                clear hc hb hin
                go_wp2_with fail
                go_quiet (fail)
                clear e1 e2 e2' e3 e4 e5 e6 e7
                go_wp2_with fail
                go_roundw
                case rel => exact ⟨k + 1, ys, _, by omega, by go_num, rfl, E.out, (by first | exact HO.out | exact u_own_below HO.out (below_drewN_u (Below.refl _ _) _)), (by first | exact HB.out | exact below_drewN_u HB.out _)⟩
                case measure => simp [intOf]; omega
      · obtain rfl : k = xs.length + 1 := by omega
        obtain rfl := hst1 rfl
        have hleI : ¬ ((xs.length + 1 : Nat) : Int) ≤ (xs.length : Int) := by omega
        have hleJ : ¬ ((xs.length : Int) + 1) ≤ (xs.length : Int) := by omega
        clear hst2
        go_wp2_with fail
        go_ret
        exact ⟨_, rfl, hown, hb⟩
end Go.Proofs.Ytpmankbokbcmbaa
