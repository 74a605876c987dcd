/- Walks: drawn rolls. -/
import Derived.Test.YthmkjenamnmbiabXb
import Derived.Test.YthmkjenamnmbiabYo
set_option linter.unusedVariables false
set_option linter.unusedSimpArgs false
namespace Go.Proofs.Ythmkjenamnmbiab
open Go.RowKit

structure TDR (w : World) (B g : Nat) (u : Value) (L : List R6) (wr : World) : Prop where
  own : wr.ownsRow w.heap.size 53 6 u L.length (rls L)
  rd : Rd wr B g
  gr : w.grownBy wr (some g)
theorem TDR.read {w wr w2 : World} {B g : Nat} {u : Value} {L : List R6} (p : TDR w B g u L wr) (hgl : g < w.heap.size) (hrd : Rd w2 B g) (hg2 : wr.grownBy w2 (some g)) : TDR w B g u L w2 :=
  ⟨p.own.kept hg2 (by
    by_cases hx : u.ownBlock = none
    · exact .inl hx
    · right; intro he; have := (p.own.lt g he).1; omega), hrd, grown_trans' p.gr hg2⟩
theorem TDR.drew {w wr : World} {B g : Nat} {u : Value} {L : List R6} (p : TDR w B g u L wr) : TDR w B g u L wr.drew := ⟨p.own.drew, p.rd.drew, grown_trans' p.gr (grew_drewN wr 1 _)⟩
theorem TDR.set {w wr : World} {B g b c j : Nat} {L L' : List R6} {u : Value} (p : TDR w B g (.slice (some ⟨b, 0, none⟩) L.length c) L wr) (hgl : g < w.heap.size) (hl : L'.length = L.length) (h : (rls L).set j u = rls L') : TDR w B g (.slice (some ⟨b, 0, none⟩) L.length c) L' (wr.setCell ⟨b, j, none⟩ u) := by
  have hlt := (p.own.lt b rfl).1
  have hB : B ≤ g := (by obtain ⟨A, n, c, q, h⟩ := p.rd; exact h.2.2.2.2.1)
  have hs := p.own.stored j u
  refine ⟨?_, p.rd.setCell (a := ⟨b, j, none⟩) (show B ≤ b by omega) (show g ≠ b by omega) _, ?_⟩
  · have h1 := hs.1
    rw [h] at h1
    rw [hl]; exact h1
  · exact ⟨hs.2.os.trans p.gr.os, hs.2.tape.trans p.gr.tape, hs.2.output.trans p.gr.output, Nat.le_trans p.gr.size hs.2.size, fun i hi hne => (hs.2.block i (by have := p.gr.size; omega) (by simp [Value.ownBlock]; omega)).trans (p.gr.block i hi hne)⟩

def up0 (xs : List R6) (k : Nat) (s : Int) : List R6 := xs.set k (s, (xs.getD k z6).2.1, (xs.getD k z6).2.2.1, (xs.getD k z6).2.2.2.1, (xs.getD k z6).2.2.2.2.1, (xs.getD k z6).2.2.2.2.2)
theorem rls_up0 : ∀ (xs : List R6) (k : Nat) (s : Int), k < xs.length → (rls xs).set (k * 6) (.int .i64 s) = rls (up0 xs k s)
  | p :: xs, 0, s, _ => rfl
  | p :: xs, k + 1, s, h => by
    have ih := rls_up0 xs k s (by simpa using h)
    rw [rls_cons, show (k + 1) * 6 = k * 6 + 1 + 1 + 1 + 1 + 1 + 1 by omega]
    simp only [List.set_cons_succ]
    rw [ih]; rfl
theorem up0_len (xs : List R6) (k : Nat) (s : Int) : (up0 xs k s).length = xs.length := by unfold up0; rw [List.length_set]
theorem up0_rrs {xs : List R6} {k : Nat} {s : Int} (h : RRs xs) (hs : Rng s) : RRs (up0 xs k s) := by
  intro p hp
  unfold up0 at hp
  have hk := rrs_getD h k
  rcases List.mem_or_eq_of_mem_set hp with h1 | h1
  · exact h p h1
  · subst h1; exact ⟨hs, hk.2.1, hk.2.2.1, hk.2.2.2.1, hk.2.2.2.2.1, hk.2.2.2.2.2⟩

def up2 (xs : List R6) (k : Nat) (s : Int) : List R6 := xs.set k ((xs.getD k z6).1, (xs.getD k z6).2.1, s, (xs.getD k z6).2.2.2.1, (xs.getD k z6).2.2.2.2.1, (xs.getD k z6).2.2.2.2.2)
theorem rls_up2 : ∀ (xs : List R6) (k : Nat) (s : Int), k < xs.length → (rls xs).set (k * 6 + 2) (.int .i64 s) = rls (up2 xs k s)
  | p :: xs, 0, s, _ => rfl
  | p :: xs, k + 1, s, h => by
    have ih := rls_up2 xs k s (by simpa using h)
    rw [rls_cons, show (k + 1) * 6 + 2 = k * 6 + 2 + 1 + 1 + 1 + 1 + 1 + 1 by omega]
    simp only [List.set_cons_succ]
    rw [ih]; rfl
theorem up2_len (xs : List R6) (k : Nat) (s : Int) : (up2 xs k s).length = xs.length := by unfold up2; rw [List.length_set]
theorem up2_rrs {xs : List R6} {k : Nat} {s : Int} (h : RRs xs) (hs : Rng s) : RRs (up2 xs k s) := by
  intro p hp
  unfold up2 at hp
  have hk := rrs_getD h k
  rcases List.mem_or_eq_of_mem_set hp with h1 | h1
  · exact h p h1
  · subst h1; exact ⟨hk.1, hk.2.1, hs, hk.2.2.2.1, hk.2.2.2.2.1, hk.2.2.2.2.2⟩

def up5 (xs : List R6) (k : Nat) (s : Int) : List R6 := xs.set k ((xs.getD k z6).1, (xs.getD k z6).2.1, (xs.getD k z6).2.2.1, (xs.getD k z6).2.2.2.1, (xs.getD k z6).2.2.2.2.1, s)
theorem rls_up5 : ∀ (xs : List R6) (k : Nat) (s : Int), k < xs.length → (rls xs).set (k * 6 + 5) (.int .i64 s) = rls (up5 xs k s)
  | p :: xs, 0, s, _ => rfl
  | p :: xs, k + 1, s, h => by
    have ih := rls_up5 xs k s (by simpa using h)
    rw [rls_cons, show (k + 1) * 6 + 5 = k * 6 + 5 + 1 + 1 + 1 + 1 + 1 + 1 by omega]
    simp only [List.set_cons_succ]
    rw [ih]; rfl
theorem up5_len (xs : List R6) (k : Nat) (s : Int) : (up5 xs k s).length = xs.length := by unfold up5; rw [List.length_set]
theorem up5_rrs {xs : List R6} {k : Nat} {s : Int} (h : RRs xs) (hs : Rng s) : RRs (up5 xs k s) := by
  intro p hp
  unfold up5 at hp
  have hk := rrs_getD h k
  rcases List.mem_or_eq_of_mem_set hp with h1 | h1
  · exact h p h1
  · subst h1; exact ⟨hk.1, hk.2.1, hk.2.2.1, hk.2.2.2.1, hk.2.2.2.2.1, hs⟩


set_option maxRecDepth 100000 in
set_option maxHeartbeats 8000000 in
theorem DrawRollsOk_any (A : Option Addr) (n c : Nat) (w : World) (h : CodeAt w A n c) :
    Calls Try.prog 37 #[.slice A n c] w fun e w' => ∃ v xs W, e = .returned (.tuple #[v, .int .i64 W]) ∧ w'.ownsRow w.heap.size 53 6 v xs.length (rls xs) ∧ xs.length ≤ 9 ∧ RRs xs ∧ 1 ≤ W ∧ W ≤ 30 ∧ Below w.heap.size w w' := by
  have H := Lib.hid h
  clear h
  go_enter Try.func37, Try.ntmps37
  go_wp2_with fail
  refine (open_any A n c _ H.out).mono ?_
  rintro e w1 ⟨rfl, hrd1, hb1⟩
  have Hrd1 := Lib.hid hrd1
  have Hb1 := Lib.hid hb1
  have hgl0 := hrd1.lt
  clear hrd1 hb1
  obtain ⟨B, hBB⟩ : ∃ B, B = w.heap.size := ⟨_, rfl⟩
  obtain ⟨g, hgg⟩ : ∃ g, g = w.heap.size := ⟨_, rfl⟩
  go_wp2_with fail
  refine (below_any _ _ 30 _ Hrd1.out (by omega) (by omega)).mono ?_
  rintro e w2 ⟨_, rfl, ⟨x, rfl, hx0, hx1⟩, hrd2, hgr2⟩
  have Hrd2 := Lib.hid hrd2
  have Hgr2 := Lib.hid hgr2
  have hgl2 := hrd2.lt
  clear hrd2 hgr2
  have ew : IntKind.i64.wrap (1 + x) = 1 + x := IntWalk.i64_in _ (by omega)
  go_wp2_with fail
  refine (small_any 9 (by omega) (by omega) _ _ _ Hrd2.out).mono ?_
  rintro e w3 ⟨v3, ps, rfl, ht, hpl, hpr⟩
  have hgl1 := Hgr2.out.size
  have PP := Lib.hid (PL.of_own ht.own rfl (prng_of hpr) (by omega))
  have HRd3 := Lib.hid ht.rd
  have HG3 := Lib.hid (grown_trans' Hgr2.out ht.gr)
  have Hpr := Lib.hid hpr
  clear ht hpr hgl1
  obtain ⟨W, hW⟩ : ∃ W, W = 1 + x := ⟨_, rfl⟩
  have hW1 : 1 ≤ W := by omega
  have hW2 : W ≤ 30 := by omega
  rw [← hW] at ew ⊢
  clear hW
  go_wp2_with fail
  refine (specRollsOf_any v3 ps W _ PP.out).mono ?_
  rintro e w4 ⟨v4, rfl, hown4, hb4⟩
  have hxl0 : (rollsM ps W).length ≤ 9 := by
    unfold rollsM
    split
    · have := rollsL_len ps W; omega
    · simp
  have HRR := Lib.hid (rrs_of (rollsM_ok ps W (prng_of Hpr.out) (by omega)).1)
  obtain ⟨xs, hxs⟩ : ∃ xs, xs = rollsM ps W := ⟨_, rfl⟩
  rw [← hxs] at hown4 hxl0 HRR
  clear hxs
  have hxl9 : xs.length ≤ 9 := hxl0
  obtain ⟨fb, hfb⟩ : ∃ fb, fb = rollsB ps W := ⟨_, rfl⟩
  rw [← hfb]
  clear hfb
  have hgl1 : w.heap.size < w1.heap.size := hgl0
  have T4 := Lib.hid (show TDR w1 w.heap.size w.heap.size v4 xs w4 from ⟨p_base hown4 HG3.out.size, HRd3.out.below hb4, grown_trans' HG3.out (grew_of_below hb4 _)⟩)
  clear hown4 hb4 PP HG3 HRd3 Hgr2 Hrd2 Hrd1
  rw [← hBB] at T4
  have T4' := Lib.hid (show TDR w1 B g v4 xs w4 from by rw [hgg, ← hBB]; exact T4.out)
  clear T4
  have hgl1 : g < w1.heap.size := by omega
  go_wp2_with fail
  refine (once_any _ _ 4 _ (show Rd w4 w.heap.size w.heap.size from by have := T4'.out.rd; rw [hBB, hgg] at this; exact this) (by omega) (by omega)).mono ?_
  rintro e w5 ⟨_, rfl, ⟨b, rfl⟩, hrd, hgr⟩
  have T5 := Lib.hid (T4'.out.read hgl1 (by rw [hBB, hgg]; exact hrd) (by rw [hgg]; exact hgr))
  clear hrd hgr T4'
  have hdone : ∀ w5, TDR w1 B g v4 xs w5 → Below w.heap.size w w5 ∧ w5.ownsRow w.heap.size 53 6 v4 xs.length (rls xs) := fun w5 T => ⟨Hb1.out.grown T.gr Hb1.out.size (fun k hk => by injection hk with hk; omega), p_base T.own Hb1.out.size⟩
  have Hdone := Lib.hid hdone
  clear hdone
  cases b with
  | false =>
    rcases T5.out.own.2 with ⟨hv, h0⟩ | ⟨bb, cap, cur, hv, _⟩
    all_goals
      subst hv
      go_wp2_with fail
      go_ret2
      exact ⟨_, xs, W, rfl, (Hdone.out _ T5.out).2, hxl9, HRR.out, hW1, hW2, (Hdone.out _ T5.out).1⟩
  | true =>
    rcases T5.out.own.2 with ⟨hv, h0⟩ | ⟨bb, cap, cur, hv, _⟩
    · subst hv
      go_wp2_with fail
      go_ret2
      exact ⟨_, xs, W, rfl, (Hdone.out _ T5.out).2, hxl9, HRR.out, hW1, hW2, (Hdone.out _ T5.out).1⟩
    · subst hv
      by_cases hl0 : 0 < xs.length
      case neg =>
        have hd0 : decide (0 < xs.length) = false := by simpa using hl0
        go_wp2_with fail
        go_ret2
        exact ⟨_, xs, W, rfl, (Hdone.out _ T5.out).2, hxl9, HRR.out, hW1, hW2, (Hdone.out _ T5.out).1⟩
      have hd0 : decide (0 < xs.length) = true := by simpa using hl0
      clear Hdone
      have hBg : B = w.heap.size ∧ g = w.heap.size := ⟨hBB, hgg⟩
      obtain ⟨hB1, hg1⟩ := hBg
      have HBG := Lib.hid (⟨hB1, hg1⟩ : B = w.heap.size ∧ g = w.heap.size)
      clear hB1 hg1 hBB
      go_wp2_with fail
      refine (below_any w.heap.size w.heap.size (xs.length : Int) _ (by have := T5.out.rd; rw [HBG.out.1, HBG.out.2] at this; exact this) (by omega) (by omega)).mono ?_
      rintro e w5b ⟨_, rfl, ⟨kx, rfl, hk0, hk1⟩, hrd, hgr⟩
      have T5b := Lib.hid (T5.out.read hgl1 (by rw [HBG.out.1, HBG.out.2]; exact hrd) (by rw [HBG.out.2]; exact hgr))
      clear hrd hgr T5
      obtain ⟨kk, rfl⟩ : ∃ kk : Nat, kx = (kk : Int) := ⟨kx.toNat, by omega⟩
      have hkl : kk < xs.length := by omega
      go_wp2_with fail
      refine (below_any w.heap.size w.heap.size 3 _ (by have := T5b.out.rd; rw [HBG.out.1, HBG.out.2] at this; exact this) (by omega) (by omega)).mono ?_
      rintro e w6 ⟨_, rfl, ⟨z, rfl, hz0, hz1⟩, hrd, hgr⟩
      have T6 := Lib.hid (T5b.out.read hgl1 (by rw [HBG.out.1, HBG.out.2]; exact hrd) (by rw [HBG.out.2]; exact hgr))
      clear hrd hgr T5b
      subst hgg
      obtain rfl : B = w.heap.size := HBG.out.1
      rcases (show z = 0 ∨ z = 1 ∨ z = 2 by omega) with rfl | rfl | rfl
      · skip
        have HD := Lib.hid T6.out.drew
        obtain ⟨s0, hs0⟩ : ∃ s0, s0 = (xs.getD kk z6).2.2.1 := ⟨_, rfl⟩
        have HS0 := Lib.hid hs0
        clear hs0
        have cc : w6.cell? ⟨bb, kk * 6 + 2, none⟩ = some (.int .i64 s0) := by
          rw [T6.out.own.cellAt _ (by omega), HS0.out]; exact rls_get2 _ _ hkl
        go_wp2_with fail
        go_region_law (go_simp; go_at_call 82; refine (below_any w.heap.size w.heap.size 60 _ (by first | exact HD.out.rd | exact T6.out.rd) (by omega) (by omega)).mono ?_; rintro e w7 ⟨_, rfl, ⟨y, rfl, hy0, hy1⟩, hrd, hgr⟩; have T7 := Lib.hid (HD.out.read hgl1 hrd hgr); have cc7 : w7.cell? ⟨bb, kk * 6 + 2, none⟩ = some (.int .i64 s0) := (by rw [T7.out.own.cellAt _ (by omega), HS0.out]; exact rls_get2 _ _ hkl); have ff7 : w7.frozen? ⟨bb, kk * 6 + 2, none⟩ = false := T7.out.own.frozenAt _)
        all_goals
          go_simp
          have T8 := Lib.hid (T7.out.set hgl1 (up2_len xs kk _) (rls_up2 xs kk (IntKind.i64.wrap (IntKind.i64.wrap (s0 + y) - 30)) hkl))
          have hr8 := Lib.hid (up2_rrs (k := kk) (s := (IntKind.i64.wrap (IntKind.i64.wrap (s0 + y) - 30))) HRR.out (by rw [u64_to_i64]; exact rng_wrap64 _))
          go_wp2_with fail
          go_ret2
          exact ⟨_, _, W, rfl, by have h := p_base T8.out.own Hb1.out.size; rw [up2_len] at h ⊢; exact h, by rw [up2_len]; exact hxl9, hr8.out, hW1, hW2, Hb1.out.grown T8.out.gr Hb1.out.size (fun k hk => by injection hk with hk; omega)⟩
      · skip
        have HD := Lib.hid T6.out.drew
        obtain ⟨s0, hs0⟩ : ∃ s0, s0 = (xs.getD kk z6).1 := ⟨_, rfl⟩
        have HS0 := Lib.hid hs0
        clear hs0
        have cc : w6.cell? ⟨bb, kk * 6, none⟩ = some (.int .i64 s0) := by
          rw [T6.out.own.cellAt _ (by omega), HS0.out]; exact rls_get0 _ _ hkl
        go_wp2_with fail
        go_region_law (go_simp; go_at_call 82; refine (below_any w.heap.size w.heap.size 9 _ (by first | exact HD.out.rd | exact T6.out.rd) (by omega) (by omega)).mono ?_; rintro e w7 ⟨_, rfl, ⟨y, rfl, hy0, hy1⟩, hrd, hgr⟩; have T7 := Lib.hid (HD.out.read hgl1 hrd hgr); have cc7 : w7.cell? ⟨bb, kk * 6, none⟩ = some (.int .i64 s0) := (by rw [T7.out.own.cellAt _ (by omega), HS0.out]; exact rls_get0 _ _ hkl); have ff7 : w7.frozen? ⟨bb, kk * 6, none⟩ = false := T7.out.own.frozenAt _)
        all_goals
          go_simp
          have T8 := Lib.hid (T7.out.set hgl1 (up0_len xs kk _) (rls_up0 xs kk (IntKind.i64.wrap (s0 + y)) hkl))
          have hr8 := Lib.hid (up0_rrs (k := kk) (s := (IntKind.i64.wrap (s0 + y))) HRR.out (by rw [u64_to_i64]; exact rng_wrap64 _))
          go_wp2_with fail
          go_ret2
          exact ⟨_, _, W, rfl, by have h := p_base T8.out.own Hb1.out.size; rw [up0_len] at h ⊢; exact h, by rw [up0_len]; exact hxl9, hr8.out, hW1, hW2, Hb1.out.grown T8.out.gr Hb1.out.size (fun k hk => by injection hk with hk; omega)⟩
      · go_wp2_with fail
        refine (off_any w.heap.size w.heap.size (-30) 70 _ T6.out.rd (by omega) (by omega) (by omega) (by omega)).mono ?_
        rintro e w7 ⟨_, rfl, ⟨y, rfl, hyl, hyh⟩, hrd, hgr⟩
        have T7 := Lib.hid (T6.out.read hgl1 hrd hgr)
        have cc7 : w7.cell? ⟨bb, kk * 6 + 5, none⟩ = some (.int .i64 (xs.getD kk z6).2.2.2.2.2) := by
          rw [T7.out.own.cellAt _ (by omega)]; exact rls_get5 _ _ hkl
        have ff7 : w7.frozen? ⟨bb, kk * 6 + 5, none⟩ = false := T7.out.own.frozenAt _
        generalize (xs.getD kk z6).2.2.2.2.2 = s0 at cc7
        have T8 := Lib.hid (T7.out.set hgl1 (up5_len xs kk _) (rls_up5 xs kk y hkl))
        have hr8 := Lib.hid (up5_rrs (k := kk) (s := y) HRR.out ⟨hyl, hyh⟩)
        go_wp2_with fail
        go_ret2
        exact ⟨_, _, W, rfl, by have h := p_base T8.out.own Hb1.out.size; rw [up5_len] at h ⊢; exact h, by rw [up5_len]; exact hxl9, hr8.out, hW1, hW2, Hb1.out.grown T8.out.gr Hb1.out.size (fun k hk => by injection hk with hk; omega)⟩
end Go.Proofs.Ythmkjenamnmbiab
