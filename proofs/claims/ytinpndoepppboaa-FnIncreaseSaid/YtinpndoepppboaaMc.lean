/- Walks: the law FnIncrease. -/
import Derived.Test.YtinpndoepppboaaMa
import Derived.Test.YtinpndoepppboaaXa
import Derived.Test.YtinpndoepppboaaUb
set_option linter.unusedVariables false
set_option linter.unusedSimpArgs false
namespace Go.Proofs.Ytinpndoepppboaa
open Go.RowKit

def incS : List (Int × Int) → Int
  | [] => 0
  | [_] => 0
  | x :: y :: r => cntD x.2 y.2 + incS (y :: r)
theorem incN_cons (x y : Int × Int) (r : List (Int × Int)) : ∀ n, incN (x :: y :: r) (n + 2) = cntD x.2 y.2 + incN (y :: r) (n + 1)
  | 0 => by simp [incN]
  | n + 1 => by
    have ih := incN_cons x y r n
    have e1 : incN (x :: y :: r) (n + 1 + 2) = incN (x :: y :: r) (n + 2) + cntD ((x :: y :: r).getD (n + 1) (0, 0)).2 ((x :: y :: r).getD (n + 2) (0, 0)).2 := by
      conv => lhs; unfold incN
      rw [if_neg (by omega)]; rfl
    have e2 : incN (y :: r) (n + 1 + 1) = incN (y :: r) (n + 1) + cntD ((y :: r).getD n (0, 0)).2 ((y :: r).getD (n + 1) (0, 0)).2 := by
      conv => lhs; unfold incN
      rw [if_neg (by omega)]; rfl
    rw [e1, e2, ih, List.getD_cons_succ, List.getD_cons_succ]
    omega
theorem incN_S : ∀ l : List (Int × Int), incN l l.length = incS l
  | [] => rfl
  | [_] => by simp [incN, incS]
  | x :: y :: r => by
    have ih := incN_S (y :: r)
    show incN (x :: y :: r) (r.length + 2) = _
    rw [incN_cons, incS, ← ih]; rfl
theorem incS_split : ∀ (l : List (Int × Int)) (k : Nat), k < l.length → incS (l.take (k + 1)) + incS (l.drop k) = incS l
  | [], k, h => by simp at h
  | x :: r, 0, _ => by simp [incS]
  | [x], k + 1, h => by simp at h
  | x :: y :: r, k + 1, h => by
    have ih := incS_split (y :: r) k (by simpa using h)
    rw [List.take_succ_cons, List.take_succ_cons, List.drop_succ_cons, incS, incS, ← List.take_succ_cons]
    omega
theorem incN_last {l : List (Int × Int)} : ∀ n, (∀ j, j < n + 1 → 1 ≤ j → (l.getD (j - 1) (0, 0)).2 ≤ (l.getD j (0, 0)).2) → incN l (n + 1) = (l.getD n (0, 0)).2 - (l.getD 0 (0, 0)).2
  | 0, _ => by simp [incN]
  | n + 1, h => by
    have ih := incN_last n (fun j hj => h j (by omega))
    have h1 : (l.getD n (0, 0)).2 ≤ (l.getD (n + 1) (0, 0)).2 := h (n + 1) (by omega) (by omega)
    have e1 : incN l (n + 1 + 1) = incN l (n + 1) + cntD (l.getD n (0, 0)).2 (l.getD (n + 1) (0, 0)).2 := by
      conv => lhs; unfold incN
      rw [if_neg (by omega)]; rfl
    rw [e1, ih]
    unfold cntD
    rw [if_pos h1]; omega
theorem ptsOkB_ofM {l : List (Int × Int)} (hl : l.length ≤ 120) (hm : ∀ j, j < l.length → (0 ≤ (l.getD j (0, 0)).1 ∧ (l.getD j (0, 0)).1 ≤ 1000000000000) ∧ (j = 0 ∨ (l.getD (j - 1) (0, 0)).1 < (l.getD j (0, 0)).1)) : ptsOkB l = true := by
  unfold ptsOkB timesOkB
  rw [Bool.and_eq_true, decide_eq_true_iff, List.length_map]
  refine ⟨hl, ?_⟩
  unfold goodTo
  rw [List.all_eq_true]
  intro j hj
  have hj : j < l.length := by simpa using hj
  unfold goodAt
  rw [tsOf_getD, tsOf_getD]
  simp only [Bool.and_eq_true, Bool.or_eq_true, decide_eq_true_eq]
  exact hm j hj
theorem take_getD {α : Type} (l : List α) (n j : Nat) (d : α) (h : j < n) : (l.take n).getD j d = l.getD j d := by
  rw [List.getD_eq_getElem?_getD, List.getD_eq_getElem?_getD, List.getElem?_take_of_lt h]
theorem drop_getD {α : Type} (l : List α) (n j : Nat) (d : α) : (l.drop n).getD j d = l.getD (n + j) d := by
  rw [List.getD_eq_getElem?_getD, List.getD_eq_getElem?_getD, List.getElem?_drop]
theorem ptsSmB_len {l : List (Int × Int)} (h : ptsSmB l = true) : l.length ≤ 120 := by
  unfold ptsSmB ptsOkB timesOkB at h
  simp only [Bool.and_eq_true, decide_eq_true_eq, List.length_map] at h
  exact h.2.1
theorem ptsSmB_okM {l : List (Int × Int)} (h : ptsSmB l = true) : ptsOkB l = true := by unfold ptsSmB at h; rw [Bool.and_eq_true] at h; exact h.2
theorem ptsSmB_take {l : List (Int × Int)} (h : ptsSmB l = true) (n : Nat) : ptsSmB (l.take n) = true := by
  have hl := ptsSmB_len h
  have e : ptsOkB (l.take n) = true := ptsOkB_ofM (by rw [List.length_take]; omega) (fun j hj => by
    have hj' : j < n ∧ j < l.length := by rw [List.length_take] at hj; omega
    rw [take_getD _ _ _ _ hj'.1, take_getD _ _ _ _ (by omega)]
    exact ptsOkB_at (ptsSmB_okM h) hj'.2)
  unfold ptsSmB
  rw [e, Bool.and_true, List.all_eq_true]
  intro p hp
  unfold ptsSmB at h
  rw [Bool.and_eq_true] at h
  exact List.all_eq_true.1 h.1 p (List.mem_of_mem_take hp)
theorem ptsSmB_drop {l : List (Int × Int)} (h : ptsSmB l = true) (n : Nat) : ptsSmB (l.drop n) = true := by
  have hl := ptsSmB_len h
  have e : ptsOkB (l.drop n) = true := ptsOkB_ofM (by rw [List.length_drop]; omega) (fun j hj => by
    have hj' : n + j < l.length := by rw [List.length_drop] at hj; omega
    have h1 := ptsOkB_at (ptsSmB_okM h) hj'
    rw [drop_getD, drop_getD]
    refine ⟨h1.1, ?_⟩
    rcases Nat.eq_zero_or_pos j with e | e
    · exact .inl e
    · right
      rcases h1.2 with h2 | h2
      · omega
      · have e3 : n + (j - 1) = n + j - 1 := by omega
        rw [e3]; exact h2)
  unfold ptsSmB
  rw [e, Bool.and_true, List.all_eq_true]
  intro p hp
  unfold ptsSmB at h
  rw [Bool.and_eq_true] at h
  exact List.all_eq_true.1 h.1 p (List.mem_of_mem_drop hp)
theorem inc_split {l : List (Int × Int)} (h : ptsSmB l = true) {k : Nat} (hk : k < l.length) : incM (l.take (k + 1)) + incM (l.drop k) = incM l := by
  unfold incM
  rw [if_pos h, if_pos (ptsSmB_take h _), if_pos (ptsSmB_drop h _), incN_S, incN_S, incN_S]
  exact incS_split l k hk
theorem incM_le {l : List (Int × Int)} : -1 ≤ incM l ∧ incM l ≤ 240000000000 := by
  unfold incM
  split
  · rename_i h
    have h1 := incN_le (n := l.length) (ptsSmB_at h) (Nat.le_refl _)
    have h2 := ptsSmB_len h
    omega
  · omega
theorem incM_neg {l : List (Int × Int)} (h : 0 ≤ incM l) : ptsSmB l = true := by
  unfold incM at h
  split at h
  · assumption
  · omega
theorem PL.cut {w : World} {B b off n c : Nat} {xs : List (Int × Int)} (h : PL w B (.slice (some ⟨b, off, none⟩) xs.length c) xs) (k : Nat) (hk : k ≤ xs.length) : PL w B (.slice (some ⟨b, off, none⟩) k n) (xs.take k) := by
  obtain ⟨hr, hl, A, c', hv, h3⟩ := h
  have e : (xs.take k).length = k := by rw [List.length_take]; omega
  refine ⟨fun j => ?_, by omega, _, n, by rw [e], ?_⟩
  · by_cases hj : j < k
    · rw [take_getD _ _ _ _ hj]; exact hr j
    · rw [List.getD_eq_getElem?_getD, List.getElem?_eq_none (by omega)]; exact ⟨rng_zero, rng_zero⟩
  · rcases h3 with h3 | ⟨b', off', hA, hlt, hc⟩
    · left; rw [h3]; simp
    · cases hv
      cases hA
      refine .inr ⟨b, off, rfl, hlt, fun j hj => ?_⟩
      have hj' : j < k := by omega
      rw [take_getD _ _ _ _ hj']
      exact hc j (by omega)
theorem PL.off {w : World} {B b off n c : Nat} {xs : List (Int × Int)} (h : PL w B (.slice (some ⟨b, off, none⟩) xs.length c) xs) (k : Nat) (hk : k ≤ xs.length) : PL w B (.slice (some ⟨b, off + k * 2, none⟩) (xs.length - k) n) (xs.drop k) := by
  obtain ⟨hr, hl, A, c', hv, h3⟩ := h
  have e : (xs.drop k).length = xs.length - k := by rw [List.length_drop]
  refine ⟨fun j => ?_, by omega, _, n, by rw [e], ?_⟩
  · rw [drop_getD]; exact hr _
  · rcases h3 with h3 | ⟨b', off', hA, hlt, hc⟩
    · left; rw [h3]; simp
    · cases hv
      cases hA
      refine .inr ⟨b, off + k * 2, rfl, hlt, fun j hj => ?_⟩
      rw [drop_getD]
      have h1 := hc (k + j) (by omega)
      have e1 : off + k * 2 + j * 2 = off + (k + j) * 2 := by omega
      rw [e1]; exact h1

set_option maxRecDepth 100000 in
set_option maxHeartbeats 2000000 in
theorem DrawIncrease_any (A : Option Addr) (n c : Nat) (w : World) (h : CodeAt w A n c) :
    Calls Try.prog 21 #[.slice A n c] w fun e w' => ∃ v xs, e = .returned v ∧ w'.ownsRow w.heap.size 33 2 v xs.length (prs xs) ∧ xs.length ≤ 9 ∧ (∀ p ∈ xs, Rng p.1 ∧ Rng p.2) ∧ Below w.heap.size w w' := by
  have H := Lib.hid h
  clear h
  go_enter Try.func21, Try.ntmps21
  go_wp2_with fail
  refine (open_any A n c _ H.out).mono ?_
  rintro e w1 ⟨rfl, hrd1, hb1⟩
  have Hrd1 := Lib.hid hrd1
  have Hb1 := Lib.hid hb1
  have hg1 := hrd1.lt
  clear hrd1 hb1
  go_wp2_with fail
  refine (small_any 9 (by omega) (by omega) _ _ _ Hrd1.out).mono ?_
  rintro e w2 ⟨v, xs, rfl, ht, hxl, hxr⟩
  have Ht := Lib.hid ht
  have Hxr := Lib.hid hxr
  clear ht hxr
  go_wp2_with fail
  have hown := p_base Ht.out.own Hb1.out.size
  have hb2 := Hb1.out.grown Ht.out.gr Hb1.out.size (fun k hk => by injection hk with hk; omega)
  go_ret
  exact ⟨v, xs, rfl, hown, hxl, Hxr.out, hb2⟩

def IncS (w W : World) (v : Value) (xs : List (Int × Int)) : Prop := PL W W.heap.size v xs ∧ Below w.heap.size w W
theorem IncS.call {w W W' : World} {v : Value} {xs : List (Int × Int)} (h : IncS w W v xs) (hb : Below W.heap.size W W') : IncS w W' v xs :=
  ⟨(h.1.below hb).up hb.size, h.2.trans (hb.mono h.2.size)⟩
theorem IncS.pl {w W : World} {v : Value} {xs : List (Int × Int)} (h : IncS w W v xs) : PL W W.heap.size v xs := h.1
theorem IncS.drew {w W : World} {v : Value} {xs : List (Int × Int)} (h : IncS w W v xs) : IncS w W.drew v xs := ⟨h.1, h.2.drew⟩
theorem IncS.drewN {w W : World} {v : Value} {xs : List (Int × Int)} (h : IncS w W v xs) (q : Nat) : IncS w (W.drewN q) v xs := ⟨h.1, below_drewN_u h.2 q⟩
def risV (xs : List (Int × Int)) (k : Nat) : Bool := (List.range k).all (fun j => decide (j = 0) || decide ((xs.getD (j - 1) (0, 0)).2 ≤ (xs.getD j (0, 0)).2))
theorem risV_succ (xs : List (Int × Int)) (k : Nat) : risV xs (k + 1) = (risV xs k && (decide (k = 0) || decide ((xs.getD (k - 1) (0, 0)).2 ≤ (xs.getD k (0, 0)).2))) := by
  unfold risV; rw [List.range_succ, List.all_append]; simp
theorem risV_at {xs : List (Int × Int)} {k j : Nat} (h : risV xs k = true) (hj : j < k) (h1 : 1 ≤ j) : (xs.getD (j - 1) (0, 0)).2 ≤ (xs.getD j (0, 0)).2 := by
  unfold risV at h
  have := List.all_eq_true.1 h j (by simpa using hj)
  simp only [Bool.or_eq_true, decide_eq_true_eq] at this
  rcases this with e | e
  · omega
  · exact e

set_option maxRecDepth 100000 in
set_option maxHeartbeats 8000000 in
theorem walkFnIncrease (A : Option Addr) (n c : Nat) (w : World) (h : n ≤ 1048576 → CodeAt w A n c) :
    Calls Try.prog 4 #[.slice A n c] w fun e w' => e = .returned (.bool true) ∧ Below w.heap.size w w' := by
  have hbig := fun W => big_any A n c W
  by_cases hb : (n : Int) ≤ 1048576
  · have hd : decide (1048576 < (n : Int)) = false := by simp; omega
    rw [hd] at hbig
    have Hbig := Lib.hid hbig
    have hdraw := Lib.hid (fun W h => DrawIncrease_any A n c W h)
    have hcode := Lib.hid (h (by omega))
    clear hbig hd h
    go_enter Try.func4, Try.ntmps4
    go_wp2_with fail
    refine (Hbig.out _).mono ?_
    rintro e w' ⟨rfl, rfl⟩
    go_wp2_with fail
    refine (hdraw.out _ hcode.out).mono ?_
    rintro e w1 ⟨v, xs, rfl, hown1, hxl, hxr, hb1⟩
    have B1 := Lib.hid hb1
    have P1 := Lib.hid (PL.of_own hown1 rfl (prng_of hxr) (by omega))
    have HCAP := Lib.hid (show ∀ A n c, v = .slice A n c → xs.length ≤ c from by
      intro A n c e
      rcases hown1.2 with ⟨rfl, h0⟩ | ⟨g, cap, cur, rfl, _, _, h1, _⟩
      · cases e; omega
      · cases e; exact h1)
    clear hb1 hown1 hxr hdraw hcode Hbig
    obtain ⟨_, _, Ax, cx, hvx, _⟩ := P1.out
    subst hvx
    have hcx := HCAP.out _ _ _ rfl
    clear HCAP
    have him := Lib.hid (fun v xs W h => implIncrease_any v xs W h)
    have hsp := Lib.hid (fun v xs W h => specIncrease_any v xs W h)
    have hM := incM_le (l := xs)
    have HNEG := Lib.hid (fun h => incM_neg (l := xs) h)
    obtain ⟨M, hMM⟩ : ∃ M, M = incM xs := ⟨_, rfl⟩
    have HM := Lib.hid hMM
    rw [← hMM] at hM HNEG
    clear hMM
    go_wp2_with fail
    refine (him.out _ xs _ P1.out).mono ?_
    rintro e w2 ⟨rfl, hb2⟩
    rw [← HM.out]
    have B2 := Lib.hid (B1.out.trans (hb2.mono B1.out.size))
    have P2 := Lib.hid ((P1.out.below hb2).up hb2.size)
    clear hb2 B1 P1
    go_wp2_with fail
    refine (hsp.out _ xs _ P2.out).mono ?_
    rintro e w3 ⟨rfl, hb3⟩
    rw [← HM.out]
    have B3 := Lib.hid (B2.out.trans (hb3.mono B2.out.size))
    have P3 := Lib.hid ((P2.out.below hb3).up hb3.size)
    clear hb3 B2 P2
    by_cases hneg : M < 0
    · go_wp2_with fail
      refine (hsp.out _ xs _ P3.out).mono ?_
      rintro e w4 ⟨rfl, hb4⟩
      rw [← HM.out]
      have B4 := Lib.hid (B3.out.trans (hb4.mono B3.out.size))
      clear hb4
      go_wp2_with fail
      go_ret
      exact ⟨rfl, B4.out⟩
    have hok := HNEG.out (by omega)
    by_cases hlen0 : xs.length ≤ 0
    · have e0 : ((xs.length : Int) == 0) = true := beq_iff_eq.2 (by omega)
      go_wp2_with fail
      refine (hsp.out _ xs _ P3.out).mono ?_
      rintro e w4 ⟨rfl, hb4⟩
      rw [← HM.out]
      have B4 := Lib.hid (B3.out.trans (hb4.mono B3.out.size))
      clear hb4
      go_wp2_with fail
      go_ret
      exact ⟨rfl, B4.out⟩
    obtain ⟨b, off, rfl⟩ : ∃ b off, Ax = some ⟨b, off, none⟩ := by
      obtain ⟨_, _, A', c', hv, h3⟩ := P3.out
      rcases h3 with h3 | ⟨b, off, hA, _⟩
      · rw [h3] at hlen0; simp at hlen0
      · cases hv; exact ⟨b, off, hA⟩
    have hk : n % xs.length < xs.length := Nat.mod_lt _ (by omega)
    have ek : Int.tmod (n : Int) (xs.length : Int) = ((n % xs.length : Nat) : Int) := by
      rw [Int.tmod_eq_emod_of_nonneg (by omega)]; rfl
    obtain ⟨k, hkk⟩ : ∃ k, k = n % xs.length := ⟨_, rfl⟩
    rw [← hkk] at hk ek
    clear hkk
    have HSP := Lib.hid (inc_split hok hk)
    have hl1 := incM_le (l := xs.take (k + 1))
    have hl2 := incM_le (l := xs.drop k)
    rw [← HM.out] at HSP
    have HI1 := Lib.hid (fun cc W h => him.out (.slice (some ⟨b, off, none⟩) (k + 1) cc) (xs.take (k + 1)) W h)
    have HI2 := Lib.hid (fun cc W h => him.out (.slice (some ⟨b, off + k * 2, none⟩) (xs.length - k) cc) (xs.drop k) W h)
    generalize incM (xs.take (k + 1)) = M1 at *
    generalize incM (xs.drop k) = M2 at *
    have hne0 : ((xs.length : Int) == 0) = false := beq_eq_false_iff_ne.2 (by omega)
    have ek1 : IntKind.i64.wrap ((k : Int) + 1) = (k : Int) + 1 := IntWalk.i64_in _ (by omega)
    have ek2 : IntKind.i64.wrap (M1 + M2) = M1 + M2 := IntWalk.i64_in _ (by omega)
    have ek3 : wrap64 (M1 + M2) = M1 + M2 := by unfold wrap64; omega
    have hc1 : (k : Int) + 1 ≤ (cx : Int) := by omega
    have hc2 : k + 1 ≤ cx := by omega
    have hc0 : (0 : Int) ≤ (k : Int) + 1 := by omega
    have hc3 : ¬ cx = k := by omega
    have hc4 : k ≤ xs.length := by omega
    have hc5 : (k : Int) ≤ (xs.length : Int) := by omega
    have HDX := Lib.hid (show IncS w w3 _ xs from ⟨P3.out, B3.out⟩)
    have HLAST := Lib.hid (fun n h => incN_last (l := xs) n h)
    have HIM : Hid (M = incN xs xs.length) := Lib.hid (by rw [HM.out]; unfold incM; rw [if_pos hok])
    have HSB := Lib.hid (fun j hj => smB_bd (ptsSmB_at hok j hj))
    clear P3 B3 hok HNEG hsp him HM
    go_wp2_with fail
    go_region_law (first
      | (go_simp; go_at_call 18; with_reducible refine (HI1.out _ _ ?pl).mono ?_; (case pl => (first | with_reducible exact HDX.out.pl.cut (k + 1) (by omega) | with_reducible exact HDX.out.drew.pl.cut (k + 1) (by omega))); rintro e w5 ⟨rfl, hb5⟩; have HDY : IncS w w5 (.slice (some ⟨b, off, none⟩) xs.length cx) xs := (by first | with_reducible exact HDX.out.call hb5 | with_reducible exact HDX.out.drew.call hb5); clear HDX; have HDX := Lib.hid HDY; clear HDY hb5)
      | (go_simp; go_at_call 18; with_reducible refine (HI2.out _ _ ?pl).mono ?_; (case pl => (first | with_reducible exact HDX.out.pl.off k (by omega) | with_reducible exact HDX.out.drew.pl.off k (by omega))); rintro e w6 ⟨rfl, hb6⟩; have HDY : IncS w w6 (.slice (some ⟨b, off, none⟩) xs.length cx) xs := (by first | with_reducible exact HDX.out.call hb6 | with_reducible exact HDX.out.drew.call hb6); clear HDX; have HDX := Lib.hid HDY; clear HDY hb6))
    go_simp
    have hS := HSP.out
    subst hS
    clear ek1 ek2 ek3 hc1 hc2 hc0 hc3 hc4 hc5 HI1 HI2
    go_wp2_with fail
    go_loopw [6, 7] (fun r i wr => ∃ j : Nat, 1 ≤ j ∧ (j ≤ xs.length ∨ j = 1) ∧ i = .int .i64 j ∧ r = .bool (risV xs j) ∧ Hid (IncS w wr (.slice (some ⟨b, off, none⟩) xs.length cx) xs)) (fun _ i _ => xs.length - (intOf i).toNat)
    case atStart => exact ⟨1, by omega, .inr rfl, rfl, rfl, HDX⟩
    case round =>
      clear HDX
      obtain ⟨j, hj0, hj, rfl, rfl, HDX⟩ := hrel
      obtain ⟨_, _, A', c', hv, h3⟩ := HDX.out.pl
      cases hv
      rcases h3 with h3 | ⟨b', off', hA, hbl, hc⟩
      · rw [h3] at hlen0; simp at hlen0
      cases hA
      by_cases hlt : j < xs.length
      · have HS := Lib.hid (risV_succ xs j)
        rw [decide_eq_false (show ¬ j = 0 by omega), Bool.false_or] at HS
        have hx1 := (hc j hlt).2
        have hy1 := (hc (j - 1) (by omega)).2
        clear hc
        have e1 : IntKind.i64.wrap ((j : Int) - 1) = (j : Int) - 1 := IntWalk.i64_in _ (by omega)
        have e3 : ((j : Int) - 1).toNat = j - 1 := by omega
        have e4 : (j : Int) - 1 < (xs.length : Int) := by omega
        have e5 : (0 : Int) ≤ (j : Int) - 1 := by omega
        have e7 : (1 : Int) ≤ (j : Int) := by omega
        generalize (xs.getD (j - 1) (0, 0)).2 = x at *
        generalize (xs.getD j (0, 0)).2 = y at *
        cases hr : risV xs j with
        | false =>
          rw [hr] at HS
          clear hr
          go_wp2_with fail
          go_quiet (fail)
          clear e1 e3 e4 e5
          go_wp2_with fail
          go_roundw
          case rel => exact ⟨j + 1, by omega, by omega, by go_num, by rw [HS.out]; rfl, Lib.hid (HDX.out.drewN _)⟩
          case measure => simp [intOf]; omega
        | true =>
          rw [hr] at HS
          clear hr
          go_wp2_with fail
          go_quiet (fail)
          clear e1 e3 e4 e5
          go_wp2_with fail
          go_roundw
          case rel => exact ⟨j + 1, by omega, by omega, by go_num, by rw [HS.out]; simp, Lib.hid (HDX.out.drewN _)⟩
          case measure => simp [intOf]; omega
      · obtain rfl : j = xs.length := by omega
        have hf := (hc 0 (by omega)).2
        have hl := (hc (xs.length - 1) (by omega)).2
        have hb0 := HSB.out 0 (by omega)
        have hb1 := HSB.out (xs.length - 1) (by omega)
        have e1 : IntKind.i64.wrap ((xs.length : Int) - 1) = (xs.length : Int) - 1 := IntWalk.i64_in _ (by omega)
        have e3 : ((xs.length : Int) - 1).toNat = xs.length - 1 := by omega
        have e4 : (xs.length : Int) - 1 < (xs.length : Int) := by omega
        have e5 : (0 : Int) ≤ (xs.length : Int) - 1 := by omega
        have e7 : (1 : Int) ≤ (xs.length : Int) := by omega
        cases hr : risV xs xs.length with
        | false =>
          clear hr
          go_wp2_with fail
          go_quiet (fail)
          go_wp2_with fail
          go_ret
          exact ⟨rfl, (HDX.out.drewN _).2⟩
        | true =>
          have HE : Hid (M1 + M2 = (xs.getD (xs.length - 1) (0, 0)).2 - (xs.getD 0 (0, 0)).2) := Lib.hid (by
            have h1 := HLAST.out (xs.length - 1) (fun j hj hj1 => risV_at hr (by omega) hj1)
            have h2 : xs.length - 1 + 1 = xs.length := by omega
            rw [h2, ← HIM.out] at h1
            exact h1)
          clear hr
          generalize (xs.getD (xs.length - 1) (0, 0)).2 = x at *
          generalize (xs.getD 0 (0, 0)).2 = y at *
          have ex : wrap64 (x - y) = x - y := by unfold wrap64; omega
          have ex2 : IntKind.i64.wrap (x - y) = x - y := IntWalk.i64_in _ (by omega)
          go_wp2_with fail
          go_quiet (fail)
          go_wp2_with fail
          go_ret
          exact ⟨by rw [HE.out]; simp, (HDX.out.drewN _).2⟩
  · have hd : decide (1048576 < (n : Int)) = true := by simp; omega
    rw [hd] at hbig
    have Hbig := Lib.hid hbig
    clear hbig hd h
    go_enter Try.func4, Try.ntmps4
    go_wp2_with fail
    refine (Hbig.out _).mono ?_
    rintro e w' ⟨rfl, rfl⟩
    go_wp2_with fail
    go_ret
    exact ⟨rfl, Below.refl _ _⟩
end Go.Proofs.Ytinpndoepppboaa
