/- Walks: what is too old: the closures of advance. -/
import Derived.Test.YtcjpedolmnahfaaWx
import Derived.Test.YtcjpedolmnahfaaPk
import Derived.Test.YtcjpedolmnahfaaYy
set_option linter.unusedVariables false
set_option linter.unusedSimpArgs false
namespace Go.Proofs.Ytcjpedolmnahfaa
open Go.RowKit

set_option maxRecDepth 100000 in
set_option maxHeartbeats 2000000 in
theorem adv1_any (bn bc cb : Nat) (nw kp x y : Int) (w : World) (h0 : w.cell? ⟨bn, 0, none⟩ = some (.int .i64 nw)) (h1 : w.cell? ⟨bc, 0, none⟩ = some (.pointer (some ⟨cb, 0, none⟩))) (h2 : w.cell? ⟨cb, 1, none⟩ = some (.int .i64 kp))
    (hn : 0 ≤ nw ∧ nw ≤ 1000000000000) (hk : 0 ≤ kp ∧ kp ≤ 1000000000) :
    Calls Try.prog 112 #[.agg #[.int .i64 x, .int .i64 y], .pointer (some ⟨bn, 0, none⟩), .pointer (some ⟨bc, 0, none⟩)] w fun e w' => e = .returned (.bool (!decide (nw - kp < x))) ∧ Below w.heap.size w w' := by
  have eX : IntKind.i64.wrap (nw - kp) = nw - kp := IntWalk.i64_in _ (by omega)
  have HR := Lib.hid (fun W => recent_any x nw kp W eX)
  clear eX
  have hb0 : bn < w.heap.size := World.block_lt_of_cell? w _ h0
  have hb1 : bc < w.heap.size := World.block_lt_of_cell? w _ h1
  have hb2 : cb < w.heap.size := World.block_lt_of_cell? w _ h2
  obtain ⟨wb, hwb⟩ : ∃ wb, w.alloc (.cells #[.int .i64 x, .int .i64 y] 43) = wb := ⟨_, rfl⟩
  have HB := Lib.hid (show Below w.heap.size w wb from by rw [← hwb]; exact (Below.refl _ _).alloc (Nat.le_refl _) _)
  have BX : BoxN wb w.heap.size #[.int .i64 x, .int .i64 y] 43 := by rw [← hwb]; exact World.alloc_heap_new w _
  have k0 := (HB.out.cell (p := ⟨bn, 0, none⟩) hb0).trans h0
  have k1 := (HB.out.cell (p := ⟨bc, 0, none⟩) hb1).trans h1
  have k2 := (HB.out.cell (p := ⟨cb, 1, none⟩) hb2).trans h2
  have y0 := BX.cell (i := 0) rfl
  have HW := Lib.hid hwb
  clear hwb BX h0 h1 h2
  go_enter Try.func112, Try.ntmps112
  go_wp2_with fail
  rw [HW.out]
  go_region_law (go_simp; go_at_call 81; refine (HR.out _).mono ?_; rintro e w5 ⟨rfl, rfl⟩)
  all_goals
    go_simp
    go_wp2_with fail
    go_ret
    exact ⟨rfl, by first | exact HB.out.drew | exact HB.out | exact below_drewN_u HB.out _⟩
/-- the closure's captures: the box of the time, the box of the pointer to the cascade, whose second cell is what it keeps for -/
structure AdvF (bn bc cb : Nat) (nw kp : Int) (g : Nat) (W : World) : Prop where
  now : W.cell? ⟨bn, 0, none⟩ = some (.int .i64 nw)
  ptr : W.cell? ⟨bc, 0, none⟩ = some (.pointer (some ⟨cb, 0, none⟩))
  keep : W.cell? ⟨cb, 1, none⟩ = some (.int .i64 kp)
  apart : bn ≠ g ∧ bc ≠ g ∧ cb ≠ g
theorem advP_pred (bn bc cb g : Nat) (nw kp : Int) (xs : List (Int × Int)) (hn : 0 ≤ nw ∧ nw ≤ 1000000000000) (hk : 0 ≤ kp ∧ kp ≤ 1000000000) :
    PredPt (.pointer (some ⟨bn, 0, none⟩)) (.pointer (some ⟨bc, 0, none⟩)) (fun p => !decide (nw - kp < p.1)) g (AdvF bn bc cb nw kp g) xs := by
  refine ⟨fun W W' h hg => ⟨?_, ?_, ?_, h.apart⟩, fun p _ W h => adv1_any bn bc cb nw kp p.1 p.2 W h.now h.ptr h.keep hn hk⟩
  · exact hg.cell h.now (fun e => by injection e with e; exact h.apart.1 e)
  · exact hg.cell h.ptr (fun e => by injection e with e; exact h.apart.2.1 e)
  · exact hg.cell h.keep (fun e => by injection e with e; exact h.apart.2.2 e)
theorem filter_old (nw kp : Int) (xs : List (Int × Int)) : xs.filter (fun p => !!decide (nw - kp < p.1)) = xs.filter (fun p => decide (nw - kp < p.1)) := by
  congr 1; funext p; simp

set_option maxRecDepth 100000 in
set_option maxHeartbeats 2000000 in
theorem adv2_any (bl bn b o : Nat) (W K nw : Int) (r : R6) (x : Lv) (w : World) (hx : x.1 = W) (hk : x.2.1 = K) (hT : r.1 ≤ nw) (hW : 1 ≤ W ∧ W ≤ 1000000) (hn : 0 ≤ nw ∧ nw ≤ 1000000000000) (hT0 : 0 ≤ r.1) (hK : 0 ≤ K ∧ K ≤ 1000000000)
    (h0 : w.cell? ⟨bl, 0, none⟩ = some (.pointer (some ⟨b, o, none⟩))) (h1 : w.cell? ⟨bn, 0, none⟩ = some (.int .i64 nw)) (c0 : w.cell? ⟨b, o, none⟩ = some (.int .i64 W)) (c1 : w.cell? ⟨b, o + 1, none⟩ = some (.int .i64 K)) :
    Calls Try.prog 114 #[.agg #[.int .i64 r.1, .int .i64 r.2.1, .int .i64 r.2.2.1, .int .i64 r.2.2.2.1, .int .i64 r.2.2.2.2.1, .int .i64 r.2.2.2.2.2], .pointer (some ⟨bl, 0, none⟩), .pointer (some ⟨bn, 0, none⟩)] w fun e w' => e = .returned (.bool (!rolAt nw x r)) ∧ Below w.heap.size w w' := by
  have hb0 : bl < w.heap.size := World.block_lt_of_cell? w _ h0
  have hb1 : bn < w.heap.size := World.block_lt_of_cell? w _ h1
  have hb : b < w.heap.size := World.block_lt_of_cell? w _ c0
  have hRt := Lib.hid (fun W' h1 h2 h3 => retains_any b o W K nw r x W' hx hk hT hW hn hT0 hK h1 h2 h3)
  obtain ⟨t, r1, r2, r3, r4, r5⟩ := r
  simp only at hRt hT hT0 ⊢
  obtain ⟨wb, hwb⟩ : ∃ wb, w.alloc (.cells #[.int .i64 t, .int .i64 r1, .int .i64 r2, .int .i64 r3, .int .i64 r4, .int .i64 r5] 48) = wb := ⟨_, rfl⟩
  have HB := Lib.hid (show Below w.heap.size w wb from by rw [← hwb]; exact (Below.refl _ _).alloc (Nat.le_refl _) _)
  have BX : BoxN wb w.heap.size #[.int .i64 t, .int .i64 r1, .int .i64 r2, .int .i64 r3, .int .i64 r4, .int .i64 r5] 48 := by rw [← hwb]; exact World.alloc_heap_new w _
  have k0 := (HB.out.cell (p := ⟨bl, 0, none⟩) hb0).trans h0
  have k1 := (HB.out.cell (p := ⟨bn, 0, none⟩) hb1).trans h1
  have d0 := (HB.out.cell (p := ⟨b, o, none⟩) hb).trans c0
  have d1 := (HB.out.cell (p := ⟨b, o + 1, none⟩) hb).trans c1
  have hcal := Lib.hid (hRt.out wb (Nat.lt_of_lt_of_le hb HB.out.size) d0 d1)
  have y0 := BX.cell (i := 0) rfl
  have y1 := BX.cell (i := 1) rfl
  have y2 := BX.cell (i := 2) rfl
  have y3 := BX.cell (i := 3) rfl
  have y4 := BX.cell (i := 4) rfl
  have y5 := BX.cell (i := 5) rfl
  have HW := Lib.hid hwb
  rw [← hwb] at k0 k1
  clear hwb BX h0 h1 c0 c1 d0 d1
  generalize rolAt nw x (t, r1, r2, r3, r4, r5) = bb at hcal
  go_enter Try.func114, Try.ntmps114
  go_wp2_with fail
  rw [HW.out]
  refine hcal.out.mono ?_
  rintro e w3 ⟨rfl, hb3⟩
  have HB3 := Lib.hid (HB.out.trans (hb3.mono HB.out.size))
  clear hb3
  go_wp2_with fail
  go_ret
  exact ⟨rfl, HB3.out⟩
end Go.Proofs.Ytcjpedolmnahfaa

/- Walks: DeleteFunc at rows that may have no element. -/
set_option linter.unusedVariables false
set_option linter.unusedSimpArgs false
namespace Go.Proofs.Ytcjpedolmnahfaa
open Go.RowKit


set_option maxRecDepth 100000 in
set_option maxHeartbeats 1000000 in
theorem indexPt0_any (c1 c2 : Value) (A : Option Addr) (c : Nat) (w : World) :
    Calls Try.prog 130 #[.slice A 0 c, .func (.func 112) #[] #[c1, c2]] w fun e w' => e = .returned (.int .i64 (-1)) ∧ w' = w := by
  go_enter Try.func130, Try.ntmps130
  go_wp2_with fail
  refine wp_loop_rounds 1 ?_
  rw [rounds_succ]
  go_wp2_with fail
  go_ret
  exact ⟨rfl, rfl⟩
set_option maxRecDepth 100000 in
set_option maxHeartbeats 1000000 in
theorem deletePt0_any (c1 c2 : Value) (A : Option Addr) (c : Nat) (w : World) :
    Calls Try.prog 111 #[.slice A 0 c, .func (.func 112) #[] #[c1, c2]] w fun e w' => e = .returned (.slice A 0 c) ∧ w' = w := by
  have hix := Lib.hid (indexPt0_any c1 c2 A c w)
  go_enter Try.func111, Try.ntmps111
  go_wp2_with fail
  refine hix.out.mono ?_
  rintro e w1 ⟨rfl, rfl⟩
  go_wp2_with fail
  go_ret
  exact ⟨rfl, rfl⟩
/-- DeleteFunc at a row that may have no element: F must be kept by whatever changes the row's block alone -/
theorem deletePtO_any (c1 c2 : Value) (pd : (Int × Int) → Bool) (F : World → Prop) (xs : List (Int × Int)) (base top : Nat) (v : Value) (w : World)
    (hp : ∀ g, obk v xs.length = some g → PredPt c1 c2 pd g F xs) (hF : F w) (h : ORow w base top 43 2 v xs.length (prs xs)) (hl : xs.length ≤ 1048576) :
    Calls Try.prog 111 #[v, .func (.func 112) #[] #[c1, c2]] w fun e w' => ∃ v', e = .returned v' ∧ ORow w' base top 43 2 v' (xs.filter (fun p => !pd p)).length (prs (xs.filter (fun p => !pd p))) ∧ (∀ g, obk v' (xs.filter (fun p => !pd p)).length = some g → obk v xs.length = some g) ∧ Chg (fun b => obk v xs.length = some b) w w' := by
  by_cases hn : xs.length = 0
  · obtain rfl := List.eq_nil_of_length_eq_zero hn
    obtain ⟨_, A, c, rfl⟩ := (show ORow w base top 43 2 v 0 (prs []) from h).nil
    refine (deletePt0_any c1 c2 A c w).mono ?_
    rintro e w' ⟨rfl, rfl⟩
    exact ⟨_, rfl, ORow.of_nil _ _ _ _ _ _ _, fun g hg => hg, Chg.refl _ _⟩
  · rcases h with ⟨h, ht⟩ | ⟨h0, _⟩
    · rcases h.2 with ⟨_, h0⟩ | ⟨g, cap, cur, rfl, _⟩
      · exact absurd h0 hn
      · have hob : obk (.slice (some ⟨g, 0, none⟩) xs.length cap) xs.length = some g := by rw [obk_pos (by omega)]; rfl
        refine (deletePt_any c1 c2 pd g F xs (hp g hob) base cap w hF h hl).mono ?_
        rintro e w' ⟨rfl, h1, h2⟩
        refine ⟨_, rfl, .inl ⟨h1, fun g' hg' => ht g' hg'⟩, fun g' hg' => ?_, Chg.grown h2 (fun k hk => by rw [hob]; exact hk)⟩
        have := obk_own hg'
        rw [hob]; exact this
    · exact absurd h0 hn

set_option maxRecDepth 100000 in
set_option maxHeartbeats 1000000 in
theorem indexRl0_any (c1 c2 : Value) (A : Option Addr) (c : Nat) (w : World) :
    Calls Try.prog 131 #[.slice A 0 c, .func (.func 114) #[] #[c1, c2]] w fun e w' => e = .returned (.int .i64 (-1)) ∧ w' = w := by
  go_enter Try.func131, Try.ntmps131
  go_wp2_with fail
  refine wp_loop_rounds 1 ?_
  rw [rounds_succ]
  go_wp2_with fail
  go_ret
  exact ⟨rfl, rfl⟩
set_option maxRecDepth 100000 in
set_option maxHeartbeats 1000000 in
theorem deleteRl0_any (c1 c2 : Value) (A : Option Addr) (c : Nat) (w : World) :
    Calls Try.prog 113 #[.slice A 0 c, .func (.func 114) #[] #[c1, c2]] w fun e w' => e = .returned (.slice A 0 c) ∧ w' = w := by
  have hix := Lib.hid (indexRl0_any c1 c2 A c w)
  go_enter Try.func113, Try.ntmps113
  go_wp2_with fail
  refine hix.out.mono ?_
  rintro e w1 ⟨rfl, rfl⟩
  go_wp2_with fail
  go_ret
  exact ⟨rfl, rfl⟩
/-- DeleteFunc at a row that may have no element: F must be kept by whatever changes the row's block alone -/
theorem deleteRlO_any (c1 c2 : Value) (pd : R6 → Bool) (F : World → Prop) (xs : List R6) (base top : Nat) (v : Value) (w : World)
    (hp : ∀ g, obk v xs.length = some g → PredRl c1 c2 pd g F xs) (hF : F w) (h : ORow w base top 48 6 v xs.length (rls xs)) (hl : xs.length ≤ 1048576) :
    Calls Try.prog 113 #[v, .func (.func 114) #[] #[c1, c2]] w fun e w' => ∃ v', e = .returned v' ∧ ORow w' base top 48 6 v' (xs.filter (fun p => !pd p)).length (rls (xs.filter (fun p => !pd p))) ∧ (∀ g, obk v' (xs.filter (fun p => !pd p)).length = some g → obk v xs.length = some g) ∧ Chg (fun b => obk v xs.length = some b) w w' := by
  by_cases hn : xs.length = 0
  · obtain rfl := List.eq_nil_of_length_eq_zero hn
    obtain ⟨_, A, c, rfl⟩ := (show ORow w base top 48 6 v 0 (rls []) from h).nil
    refine (deleteRl0_any c1 c2 A c w).mono ?_
    rintro e w' ⟨rfl, rfl⟩
    exact ⟨_, rfl, ORow.of_nil _ _ _ _ _ _ _, fun g hg => hg, Chg.refl _ _⟩
  · rcases h with ⟨h, ht⟩ | ⟨h0, _⟩
    · rcases h.2 with ⟨_, h0⟩ | ⟨g, cap, cur, rfl, _⟩
      · exact absurd h0 hn
      · have hob : obk (.slice (some ⟨g, 0, none⟩) xs.length cap) xs.length = some g := by rw [obk_pos (by omega)]; rfl
        refine (deleteRl_any c1 c2 pd g F xs (hp g hob) base cap w hF h hl).mono ?_
        rintro e w' ⟨rfl, h1, h2⟩
        refine ⟨_, rfl, .inl ⟨h1, fun g' hg' => ht g' hg'⟩, fun g' hg' => ?_, Chg.grown h2 (fun k hk => by rw [hob]; exact hk)⟩
        have := obk_own hg'
        rw [hob]; exact this
    · exact absurd h0 hn
end Go.Proofs.Ytcjpedolmnahfaa

/- Walks: cascades: one level's rolls replaced in place; what is too old. -/
set_option linter.unusedVariables false
set_option linter.unusedSimpArgs false
namespace Go.Proofs.Ytcjpedolmnahfaa
open Go.RowKit

def dropR (nw : Int) (x : Lv) : List R6 := x.2.2.filter (rolAt nw x)
def dropL (nw : Int) (x : Lv) : Lv := (x.1, x.2.1, dropR nw x)
def dropP (nw kp : Int) (rp : List (Int × Int)) : List (Int × Int) := rp.filter (fun p => decide (nw - kp < p.1))
def dropC (nw : Int) (c : Cs) : Cs := (nw, c.2.1, dropP nw c.2.1 c.2.2.1, c.2.2.2.map (dropL nw))
/-- the levels, of which those in pre have dropped what is too old -/
def updL (nw : Int) (pre : List Nat) (ls : List Lv) : List Lv := (List.range ls.length).map (fun j => if j ∈ pre then dropL nw (ls.getD j zLv) else ls.getD j zLv)
theorem updL_length (nw : Int) (pre : List Nat) (ls : List Lv) : (updL nw pre ls).length = ls.length := by simp [updL]
theorem updL_getD (nw : Int) (pre : List Nat) (ls : List Lv) {j : Nat} (h : j < ls.length) : (updL nw pre ls).getD j zLv = if j ∈ pre then dropL nw (ls.getD j zLv) else ls.getD j zLv := by
  simp [updL, List.getD_eq_getElem?_getD, h]
theorem rolAt_same (nw : Int) (x : Lv) (rs : List R6) : rolAt nw (x.1, x.2.1, rs) = rolAt nw x := by funext r; rfl
theorem dropR_twice (nw : Int) (x : Lv) : dropR nw (dropL nw x) = dropR nw x := by
  unfold dropL dropR
  rw [rolAt_same, List.filter_filter]
  congr 1; funext r; simp
theorem updL_nil (nw : Int) (ls : List Lv) : updL nw [] ls = ls := by
  refine lw_ext (updL_length _ _ _) (fun j hj => ?_)
  rw [updL_length] at hj
  rw [updL_getD _ _ _ hj, if_neg (List.not_mem_nil)]
theorem updL_all (nw : Int) {pre : List Nat} {ls : List Lv} (h : ∀ j, j < ls.length → j ∈ pre) : updL nw pre ls = ls.map (dropL nw) := by
  refine lw_ext (by simp [updL_length]) (fun j hj => ?_)
  rw [updL_length] at hj
  rw [updL_getD _ _ _ hj, if_pos (h j hj)]
  rw [List.getD_eq_getElem?_getD, List.getD_eq_getElem?_getD, List.getElem?_map, List.getElem?_eq_getElem hj]; rfl
theorem updL_snoc (nw : Int) (pre : List Nat) (ls : List Lv) {x : Nat} (hx : x < ls.length) : (updL nw pre ls).set x (((updL nw pre ls).getD x zLv).1, ((updL nw pre ls).getD x zLv).2.1, dropR nw ((updL nw pre ls).getD x zLv)) = updL nw (pre ++ [x]) ls := by
  refine lw_ext (by simp [updL_length]) (fun j hj => ?_)
  have hj' : j < ls.length := by simpa [updL_length] using hj
  rw [getD_set_lw _ _ _ _ (by rw [updL_length]; exact hx), updL_getD _ (pre ++ [x]) _ hj']
  by_cases e : j = x
  · subst e
    rw [if_pos rfl, if_pos (by simp), updL_getD _ _ _ hx]
    split
    · show (_, _, dropR nw (dropL nw (ls.getD j zLv))) = _
      rw [dropR_twice]; rfl
    · rfl
  · rw [if_neg e, updL_getD _ _ _ hj']
    have : (j ∈ pre ++ [x]) ↔ j ∈ pre := by
      constructor
      · intro h
        rcases List.mem_append.1 h with h | h
        · exact h
        · exact absurd (List.mem_singleton.1 h) e
      · intro h; simp [h]
    by_cases hp : j ∈ pre
    · rw [if_pos hp, if_pos (this.2 hp)]
    · rw [if_neg hp, if_neg (fun h => hp (this.1 h))]

theorem LD.upd {W W1 : World} {base top gl n cap x : Nat} {L : List Lv} {es : List LvC} {r' : Value} {kept : List R6}
    (h : LD W base top (.slice (some ⟨gl, 0, none⟩) n cap) L es) (hn : L.length = n) (hx : x < n)
    (hc : Chg (fun b => obk (es.getD x zLc).2.2 (L.getD x zLv).2.2.length = some b) W W1)
    (hr : ORow W1 base top 48 6 r' kept.length (rls kept))
    (ho : ∀ g, obk r' kept.length = some g → obk (es.getD x zLc).2.2 (L.getD x zLv).2.2.length = some g) :
    LD (W1.setCell ⟨gl, x * 3 + 2, none⟩ r') base top (.slice (some ⟨gl, 0, none⟩) n cap) (L.set x ((L.getD x zLv).1, (L.getD x zLv).2.1, kept)) (es.set x ((es.getD x zLc).1, (es.getD x zLc).2.1, r')) ∧ Chg (LBk (.slice (some ⟨gl, 0, none⟩) n cap) L es) W (W1.setCell ⟨gl, x * 3 + 2, none⟩ r') := by
  have hlf := h.len
  have hob : ∀ j, j < L.length → ¬ obk (es.getD j zLc).2.2 (L.getD j zLv).2.2.length = some gl := fun j hj he => h.apart j gl hj he rfl
  have hg2 : W1.grownBy (W1.setCell ⟨gl, x * 3 + 2, none⟩ r') (some gl) := grown_set (World.grownBy.refl W1 (some gl)) _ _
  have hes : ∀ j, j < L.length → ¬ j = x → (es.set x ((es.getD x zLc).1, (es.getD x zLc).2.1, r')).getD j zLc = es.getD j zLc := fun j hj e => by rw [getD_set_lv _ _ _ _ (by omega), if_neg e]
  have hex : (es.set x ((es.getD x zLc).1, (es.getD x zLc).2.1, r')).getD x zLc = ((es.getD x zLc).1, (es.getD x zLc).2.1, r') := by rw [getD_set_lv _ _ _ _ (by omega), if_pos rfl]
  have hls : ∀ j, j < L.length → ¬ j = x → (L.set x ((L.getD x zLv).1, (L.getD x zLv).2.1, kept)).getD j zLv = L.getD j zLv := fun j hj e => by rw [getD_set_lw _ _ _ _ (by omega), if_neg e]
  have hlx : (L.set x ((L.getD x zLv).1, (L.getD x zLv).2.1, kept)).getD x zLv = ((L.getD x zLv).1, (L.getD x zLv).2.1, kept) := by rw [getD_set_lw _ _ _ _ (by omega), if_pos rfl]
  have hrow1 : W1.ownsRow base 51 3 (.slice (some ⟨gl, 0, none⟩) n cap) n (lvs es) ∧ ∀ g, (Value.slice (some ⟨gl, 0, none⟩) n cap).ownBlock = some g → g < top := by
    have h1 := h.row.at_ (W' := W1) (fun g hg => by
      obtain rfl : gl = g := by rw [obk_pos (by omega)] at hg; injection hg
      exact hc.block gl (h.row.lt hg).2.2 (hob x (by omega)))
    rcases h1 with ⟨h1, h2⟩ | ⟨h0, _⟩
    · rw [hn] at h1; exact ⟨h1, h2⟩
    · omega
  have hset := hrow1.1.stored (x * 3 + 2) r'
  have hl3 : (lvs es).set (x * 3 + 2) r' = lvs (es.set x ((es.getD x zLc).1, (es.getD x zLc).2.1, r')) := by
    have h3 := lvs_set es x (es.getD x zLc).1 (es.getD x zLc).2.1 r' (by omega)
    rw [← h3]
    congr 1
    apply List.ext_getElem?
    intro i
    by_cases e0 : i = x * 3
    · subst e0
      rw [List.getElem?_set_ne (by omega), List.getElem?_set_self (by rw [lvs_length]; omega)]
      exact lvs_get0 _ _ (by omega)
    · by_cases e1 : i = x * 3 + 1
      · subst e1
        rw [List.getElem?_set_self (by rw [List.length_set, lvs_length]; omega)]
        exact lvs_get1 _ _ (by omega)
      · rw [List.getElem?_set_ne (by omega), List.getElem?_set_ne (by omega)]
  rw [hl3] at hset
  refine ⟨⟨by simpa using hlf, .inl ⟨by simpa [hn] using hset.1, hrow1.2⟩, fun j hj => ?_, fun j g hj hg => ?_, fun i j g hij hj hi hj2 => ?_⟩, ?_⟩
  · have hj' : j < L.length := by simpa using hj
    by_cases e : j = x
    · subst e
      rw [hex, hlx]
      refine ⟨(h.lv j hj').1, (h.lv j hj').2.1, hr.at_ (fun g hg => ?_)⟩
      exact hg2.block g (hr.lt hg).2.2 (fun e => by injection e with e; subst e; exact hob j hj' (ho _ hg))
    · rw [hes j hj' e, hls j hj' e]
      have h0 := h.lv j hj'
      refine ⟨h0.1, h0.2.1, h0.2.2.at_ (fun g hg => ?_)⟩
      have hlt := (h0.2.2.lt hg).2.2
      rw [hg2.block g (Nat.lt_of_lt_of_le hlt hc.size) (fun e => by injection e with e; subst e; exact hob j hj' hg)]
      refine hc.block g hlt (fun hk => ?_)
      rcases Nat.lt_or_ge j x with hjk | hjk
      · exact h.dist j x g hjk (by omega) hg hk
      · exact h.dist x j g (by omega) hj' hk hg
  · have hj' : j < L.length := by simpa using hj
    by_cases e : j = x
    · subst e; rw [hex, hlx] at hg; exact h.apart j g hj' (ho g hg)
    · rw [hes j hj' e, hls j hj' e] at hg; exact h.apart j g hj' hg
  · have hj' : j < L.length := by simpa using hj
    have key : ∀ y, y < L.length → ∀ g, obk ((es.set x ((es.getD x zLc).1, (es.getD x zLc).2.1, r')).getD y zLc).2.2 ((L.set x ((L.getD x zLv).1, (L.getD x zLv).2.1, kept)).getD y zLv).2.2.length = some g → obk (es.getD y zLc).2.2 (L.getD y zLv).2.2.length = some g := fun y hy g hg => by
      by_cases e : y = x
      · subst e; rw [hex, hlx] at hg; exact ho g hg
      · rw [hes y hy e, hls y hy e] at hg; exact hg
    exact h.dist i j g hij hj' (key i (by omega) g hi) (key j hj' g hj2)
  · refine (hc.mono (fun b hb => .inr ⟨x, by omega, hb⟩)).trans (Chg.grown hg2 (fun b hb => .inl ?_))
    rw [obk_pos (by omega), ← hb]; rfl
end Go.Proofs.Ytcjpedolmnahfaa
