/- Walks: sets of numbers as maps: And, Or, Less. -/
import Derived.Test.YtinpndoepppboaaAd
set_option linter.unusedVariables false
set_option linter.unusedSimpArgs false
namespace Go.Proofs.Ytinpndoepppboaa
open Go.RowKit Go.Maps Go.Shelf Go.Sort

set_option maxRecDepth 100000 in
set_option maxHeartbeats 2000000 in
theorem and_any (s o n m : Nat) (a b : List Int) (w : World) (h1 : w.ownsMap Try.prog 2 (plainElem (H := Unit) Try.prog 4) s n (dOf a)) (h2 : w.ownsMap Try.prog 2 (plainElem (H := Unit) Try.prog 4) o m (dOf b)) :
    Calls Try.prog 80 #[.map (some s), .map (some o)] w fun e w' => ∃ g, e = .returned (.map (some g)) ∧ w.heap.size ≤ g ∧ w'.ownsMap Try.prog 2 (plainElem (H := Unit) Try.prog 4) g n (dOf (andL a b)) ∧ Below w.heap.size w w' := by
  have hs := h1.lt
  have HL := Lib.hid (fun o m b W k1 k2 => less_any s o n m a b W k1 k2)
  have H1 := Lib.hid h1
  have H2 := Lib.hid h2
  clear h1 h2
  go_enter Try.func80, Try.ntmps80
  go_wp2_with fail
  refine (HL.out o m b _ H1.out H2.out).mono ?_
  rintro e w1 ⟨g, rfl, hg, hm1, hb1⟩
  have B1 := Lib.hid hb1
  have M1 := Lib.hid hm1
  have H3 := Lib.hid (ownsMap_below H1.out B1.out hs)
  clear hb1 hm1
  go_wp2_with fail
  refine (HL.out g n (lessL a b) _ H3.out M1.out).mono ?_
  rintro e w2 ⟨g2, rfl, hg2, hm2, hb2⟩
  rw [and_less] at hm2
  have B2 := Lib.hid (B1.out.trans (hb2.mono B1.out.size))
  have M2 := Lib.hid hm2
  have S1 := B1.out.size
  clear hb2 hm2
  go_wp2_with fail
  go_ret
  exact ⟨g2, rfl, by omega, M2.out, B2.out⟩

set_option maxRecDepth 100000 in
set_option maxHeartbeats 2000000 in
theorem or_any (s o n m : Nat) (a b : List Int) (w : World) (h1 : w.ownsMap Try.prog 2 (plainElem (H := Unit) Try.prog 4) s n (dOf a)) (h2 : w.ownsMap Try.prog 2 (plainElem (H := Unit) Try.prog 4) o m (dOf b)) (hn : n ≤ 4000) (hb : b.length ≤ 4000) :
    Calls Try.prog 82 #[.map (some s), .map (some o)] w fun e w' => ∃ g, e = .returned (.map (some g)) ∧ w.heap.size ≤ g ∧ w'.ownsMap Try.prog 2 (plainElem (H := Unit) Try.prog 4) g (n + b.length) (dOf (orL a b)) ∧ Below w.heap.size w w' := by
  have hs := h1.lt
  have ho := h2.lt
  have hcl : Calls Try.prog 111 #[.map (some s)] w fun e w' => e = .returned (.map (some w.heap.size)) ∧ w'.ownsMap Try.prog 2 (plainElem (H := Unit) Try.prog 4) w.heap.size n (dOf a) ∧ w'.ownsMap Try.prog 2 (plainElem (H := Unit) Try.prog 4) s n (dOf a) ∧ Below w.heap.size w w' := AnyW.maps_Clone_owns Try.cloneM 2 _ s n (dOf a) w h1
  have hcp : ∀ W : World, W.ownsMap Try.prog 2 (plainElem (H := Unit) Try.prog 4) w.heap.size n (dOf a) → W.ownsMap Try.prog 2 (plainElem (H := Unit) Try.prog 4) o m (dOf b) → Calls Try.prog 112 #[.map (some w.heap.size), .map (some o)] W fun e w' => e = .returned (.tuple #[]) ∧ w'.ownsMap Try.prog 2 (plainElem (H := Unit) Try.prog 4) w.heap.size (n + Maps.size (dOf b)) (Lib.mergeD (dOf a) (dOf b)) ∧ W.grownBy w' (some w.heap.size) := by
    intro W k1 k2
    exact AnyX.maps_Copy_opt Try.copyM lawI _ w.heap.size n (some o) (dOf a) (dOf b) W k1 (.inr ⟨o, m, rfl, k2⟩) (fun e => by have := Option.some.inj e; omega) (by rw [size_dOf]; unfold maxLen; omega)
  have HCL := Lib.hid hcl
  have HCP := Lib.hid hcp
  have H2 := Lib.hid h2
  clear hcl hcp h1 h2
  go_enter Try.func82, Try.ntmps82
  go_wp2_with fail
  refine HCL.out.mono ?_
  rintro e w1 ⟨rfl, hm1, _, hb1⟩
  have B1 := Lib.hid hb1
  have M1 := Lib.hid hm1
  have H3 := Lib.hid (ownsMap_below H2.out B1.out ho)
  clear hb1 hm1
  go_wp2_with fail
  refine (HCP.out _ M1.out H3.out).mono ?_
  rintro e w2 ⟨rfl, hm2, hg2⟩
  rw [mergeD_dOf, size_dOf] at hm2
  have B2 := Lib.hid (B1.out.grown hg2 B1.out.size (fun j e => by injection e with e; omega))
  have M2 := Lib.hid hm2
  clear hg2 hm2
  go_wp2_with fail
  go_ret
  exact ⟨_, rfl, Nat.le_refl _, M2.out, B2.out⟩

theorem sortsM (m : Nat) : AnyZI.SortsIn Try.prog Try.sortedM_ren Fence.wide m :=
  ⟨fun blk off cap ss W hH hblk hsz => callsIn_wide.2 (AnyM.slices_Sort_int Try.sortM blk off cap ss W hH hblk hsz),
   fun p cap W => callsIn_wide.2 (AnyM.slices_Sort_int_none Try.sortM p cap W)⟩

set_option maxRecDepth 100000 in
set_option maxHeartbeats 2000000 in
theorem listed_any (b nn : Nat) (l : List Int) (w : World) (hown : w.ownsMap Try.prog 2 (plainElem (H := Unit) Try.prog 4) b nn (dOf l)) (hris : Ris l) (hl : l.length ≤ 10000) :
    Calls Try.prog 110 #[.map (some b)] w (OwnPost w.heap.size l w) := by
  refine (callsIn_wide (n := 6)).1 ?_
  have hbl := hown.lt
  have hmax : Maps.size (dOf l) ≤ maxLen := by rw [size_dOf]; unfold maxLen; omega
  have hbytes : Maps.size (dOf l) * 8 ≤ 140737488355328 := by rw [size_dOf]; omega
  have hseq : SeqGives Fence.wide 2 Try.prog 157 #[.pointer (some ⟨w.heap.size, 0, none⟩)] encZ (fun ss => ss.Perm (intKeys (dOf l))) (Maps.size (dOf l)) (w.alloc (.cells #[.map (some b)] 88)) :=
    AnyZI.keys_gives (ρ := Try.keysM_ren) { Try.keysM with } Fence.wide _ trivial rfl (by omega) w.heap.size b nn (dOf l) _ (by simp) (by simp) (by
      obtain ⟨es, clock, hb, Ft, hs, hD⟩ := hown
      exact ⟨es, clock, (Below.heap_alloc _ _ b hbl).trans hb, Ft, hs, hD⟩)
  have cK : ∀ mb W, CallsIn Fence.wide 5 Try.prog 143 #[.map mb] W fun e w' => e = .returned (.func (.func 157) #[] #[.pointer (some ⟨W.heap.size, 0, none⟩)]) ∧ w' = W.alloc (.cells #[.map mb] 88) := fun mb W => AnyZI.keys_in Try.keysM Fence.wide 5 trivial rfl mb W
  have cS := AnyZI.sorted_in Try.sortedM Fence.wide 5 trivial trivial trivial trivial rfl (by omega) (sortsM _) (enters_of Try.func156 (by kernel_rfl) rfl) 157 #[.pointer (some ⟨w.heap.size, 0, none⟩)] trivial (enters_of Try.func157 (by kernel_rfl) rfl) _ _ hmax hbytes _ hseq
  change CallsIn _ _ Try.prog 142 _ _ _ at cS
  have hfK : Fence.wide.fn 143 := trivial
  have hfS : Fence.wide.fn 142 := trivial
  have HSR := Lib.hid (fun ss h => sort_ris (ss := ss) hris h)
  have HKL := Lib.hid (intKeys_dOf l)
  refine callsIn_of_wp Try.func110 rfl trivial ?_ rfl
  simp only [Try.ntmps110, List.size_toArray, List.length_cons, List.length_nil, Nat.reduceAdd, Nat.reduceSub, Array.replicate_succ, Array.replicate_zero, List.push_toArray, List.append_toArray, List.nil_append, List.cons_append]
  gi_wp2_with (first
    | (gi_at_call 143; refine (cK _ _).mono ?_; rintro e w' ⟨rfl, rfl⟩)
    | (gi_at_call 142; refine cS.mono ?_; rintro e w' ⟨v, ss, rfl, hS, hrow, hnil, hb⟩))
  go_ret
  have hlen : ss.length = l.length := by have := hS.length_eq; rw [HKL.out] at this; exact this
  rw [HSR.out ss hS, hlen] at hrow
  exact ⟨v, rfl, own_lift hrow (by simp), ((Below.refl _ w).alloc (Nat.le_refl _) _).trans (hb.mono (by simp))⟩


set_option maxRecDepth 100000 in
set_option maxHeartbeats 4000000 in
theorem combinedAnd_any (v u : Value) (a b : List Int) (w : World) (h : IL w w.heap.size v a) (h' : IL w w.heap.size u b) :
    Calls Try.prog 79 #[v, u, .func (.func 80) #[] #[]] w (OwnPost w.heap.size (andM a b) w) := by
  have HP := Lib.hid h
  have HQ := Lib.hid h'
  have hS1 := Lib.hid (fun W h => idsOk_any v a W h)
  have hS2 := Lib.hid (fun W h => idsOk_any u b W h)
  clear h h'
  have eg : ∀ args w, (callFunc 80 args).run Try.prog w = .ok (.enter 80 args) w := enters_of Try.func80 (by kernel_rfl) rfl
  unfold andM
  cases h1 : idsB a with
  | false =>
    rw [h1] at hS1
    rw [if_neg (by simp)]
    clear h1
    go_enter Try.func79, Try.ntmps79
    go_wp2_with fail
    refine (hS1.out _ HP.out).mono ?_
    rintro e w1 ⟨rfl, hb1⟩
    go_wp2_with fail
    go_ret
    exact ⟨_, rfl, World.ownsRow_nil _ _ _ _, hb1⟩
  | true =>
  cases h2 : idsB b with
  | false =>
    rw [h1] at hS1
    rw [h2] at hS2
    rw [if_neg (by simp)]
    clear h1 h2
    go_enter Try.func79, Try.ntmps79
    go_wp2_with fail
    refine (hS1.out _ HP.out).mono ?_
    rintro e w1 ⟨rfl, hb1⟩
    have B1 := Lib.hid hb1
    clear hb1
    go_wp2_with fail
    refine (hS2.out _ ((HQ.out.below B1.out).up B1.out.size)).mono ?_
    rintro e w2 ⟨rfl, hb2⟩
    have B2 := Lib.hid (B1.out.trans (hb2.mono B1.out.size))
    clear hb2
    go_wp2_with fail
    go_ret
    exact ⟨_, rfl, World.ownsRow_nil _ _ _ _, B2.out⟩
  | true =>
    have ra := idsB_ris h1
    have rb := idsB_ris h2
    have la := idsB_len h1
    have lb := idsB_len h2
    rw [h1] at hS1
    rw [h2] at hS2
    rw [if_pos ⟨rfl, rfl⟩]
    have HO1 := Lib.hid (fun W h => setOf_any v a W h ra)
    have HO2 := Lib.hid (fun W h => setOf_any u b W h rb)
    have HF := Lib.hid (fun s o W k1 k2 => and_any s o a.length b.length a b W k1 k2)
    have HT := Lib.hid (fun g W k => listed_any g a.length (andL a b) W k (ra.filter _) (Nat.le_trans (List.length_filter_le _ a) (by omega)))
    clear h1 h2 ra rb
    go_enter Try.func79, Try.ntmps79
    go_wp2_with fail
    refine (hS1.out _ HP.out).mono ?_
    rintro e w1 ⟨rfl, hb1⟩
    have B1 := Lib.hid hb1
    clear hb1
    go_wp2_with fail
    refine (hS2.out _ ((HQ.out.below B1.out).up B1.out.size)).mono ?_
    rintro e w2 ⟨rfl, hb2⟩
    have B2 := Lib.hid (B1.out.trans (hb2.mono B1.out.size))
    clear hb2 B1
    go_wp2_with fail
    refine (HO1.out _ ((HP.out.below B2.out).up B2.out.size)).mono ?_
    rintro e w3 ⟨rfl, hm3, hb3⟩
    have B3 := Lib.hid (B2.out.trans (hb3.mono B2.out.size))
    have M3 := Lib.hid hm3
    clear hb3 hm3
    go_wp2_with fail
    refine (HO2.out _ ((HQ.out.below B3.out).up B3.out.size)).mono ?_
    rintro e w4 ⟨rfl, hm4, hb4⟩
    have B4 := Lib.hid (B3.out.trans (hb4.mono B3.out.size))
    have M4 := Lib.hid hm4
    have M34 := Lib.hid (ownsMap_below M3.out hb4 M3.out.lt)
    clear hb4 hm4 M3
    go_wp2_with fail
    refine (HF.out _ _ _ M34.out M4.out).mono ?_
    rintro e w5 ⟨g, rfl, hg, hm5, hb5⟩
    have B5 := Lib.hid (B4.out.trans (hb5.mono B4.out.size))
    have M5 := Lib.hid hm5
    clear hb5 hm5
    go_wp2_with fail
    refine (HT.out _ _ M5.out).mono ?_
    rintro e w6 ⟨v6, rfl, hown6, hb6⟩
    have B6 := Lib.hid (B5.out.trans (hb6.mono B5.out.size))
    have O6 := Lib.hid (own_lift hown6 B5.out.size)
    clear hb6 hown6
    go_wp2_with fail
    go_ret
    exact ⟨v6, rfl, O6.out, B6.out⟩

set_option maxRecDepth 100000 in
set_option maxHeartbeats 1000000 in
theorem implAnd_any (v u : Value) (a b : List Int) (w : World) (h : IL w w.heap.size v a) (h' : IL w w.heap.size u b) :
    Calls Try.prog 36 #[v, u] w (OwnPost w.heap.size (andM a b) w) := by
  have HC := Lib.hid (combinedAnd_any v u a b w h h')
  clear h h'
  go_enter Try.func36, Try.ntmps36
  go_wp2_with fail
  refine HC.out.mono ?_
  rintro e w1 ⟨v1, rfl, hown, hb⟩
  go_wp2_with fail
  go_ret
  exact ⟨v1, rfl, hown, hb⟩


set_option maxRecDepth 100000 in
set_option maxHeartbeats 4000000 in
theorem combinedOr_any (v u : Value) (a b : List Int) (w : World) (h : IL w w.heap.size v a) (h' : IL w w.heap.size u b) :
    Calls Try.prog 79 #[v, u, .func (.func 82) #[] #[]] w (OwnPost w.heap.size (orM a b) w) := by
  have HP := Lib.hid h
  have HQ := Lib.hid h'
  have hS1 := Lib.hid (fun W h => idsOk_any v a W h)
  have hS2 := Lib.hid (fun W h => idsOk_any u b W h)
  clear h h'
  have eg : ∀ args w, (callFunc 82 args).run Try.prog w = .ok (.enter 82 args) w := enters_of Try.func82 (by kernel_rfl) rfl
  unfold orM
  cases h1 : idsB a with
  | false =>
    rw [h1] at hS1
    rw [if_neg (by simp)]
    clear h1
    go_enter Try.func79, Try.ntmps79
    go_wp2_with fail
    refine (hS1.out _ HP.out).mono ?_
    rintro e w1 ⟨rfl, hb1⟩
    go_wp2_with fail
    go_ret
    exact ⟨_, rfl, World.ownsRow_nil _ _ _ _, hb1⟩
  | true =>
  cases h2 : idsB b with
  | false =>
    rw [h1] at hS1
    rw [h2] at hS2
    rw [if_neg (by simp)]
    clear h1 h2
    go_enter Try.func79, Try.ntmps79
    go_wp2_with fail
    refine (hS1.out _ HP.out).mono ?_
    rintro e w1 ⟨rfl, hb1⟩
    have B1 := Lib.hid hb1
    clear hb1
    go_wp2_with fail
    refine (hS2.out _ ((HQ.out.below B1.out).up B1.out.size)).mono ?_
    rintro e w2 ⟨rfl, hb2⟩
    have B2 := Lib.hid (B1.out.trans (hb2.mono B1.out.size))
    clear hb2
    go_wp2_with fail
    go_ret
    exact ⟨_, rfl, World.ownsRow_nil _ _ _ _, B2.out⟩
  | true =>
    have ra := idsB_ris h1
    have rb := idsB_ris h2
    have la := idsB_len h1
    have lb := idsB_len h2
    rw [h1] at hS1
    rw [h2] at hS2
    rw [if_pos ⟨rfl, rfl⟩]
    have HO1 := Lib.hid (fun W h => setOf_any v a W h ra)
    have HO2 := Lib.hid (fun W h => setOf_any u b W h rb)
    have HF := Lib.hid (fun s o W k1 k2 => or_any s o a.length b.length a b W k1 k2 (by omega) (by omega))
    have HT := Lib.hid (fun g W k => listed_any g (a.length + b.length) (orL a b) W k (orL_ris b ra) (by have := orL_len (a := a) b; omega))
    clear h1 h2 ra rb
    go_enter Try.func79, Try.ntmps79
    go_wp2_with fail
    refine (hS1.out _ HP.out).mono ?_
    rintro e w1 ⟨rfl, hb1⟩
    have B1 := Lib.hid hb1
    clear hb1
    go_wp2_with fail
    refine (hS2.out _ ((HQ.out.below B1.out).up B1.out.size)).mono ?_
    rintro e w2 ⟨rfl, hb2⟩
    have B2 := Lib.hid (B1.out.trans (hb2.mono B1.out.size))
    clear hb2 B1
    go_wp2_with fail
    refine (HO1.out _ ((HP.out.below B2.out).up B2.out.size)).mono ?_
    rintro e w3 ⟨rfl, hm3, hb3⟩
    have B3 := Lib.hid (B2.out.trans (hb3.mono B2.out.size))
    have M3 := Lib.hid hm3
    clear hb3 hm3
    go_wp2_with fail
    refine (HO2.out _ ((HQ.out.below B3.out).up B3.out.size)).mono ?_
    rintro e w4 ⟨rfl, hm4, hb4⟩
    have B4 := Lib.hid (B3.out.trans (hb4.mono B3.out.size))
    have M4 := Lib.hid hm4
    have M34 := Lib.hid (ownsMap_below M3.out hb4 M3.out.lt)
    clear hb4 hm4 M3
    go_wp2_with fail
    refine (HF.out _ _ _ M34.out M4.out).mono ?_
    rintro e w5 ⟨g, rfl, hg, hm5, hb5⟩
    have B5 := Lib.hid (B4.out.trans (hb5.mono B4.out.size))
    have M5 := Lib.hid hm5
    clear hb5 hm5
    go_wp2_with fail
    refine (HT.out _ _ M5.out).mono ?_
    rintro e w6 ⟨v6, rfl, hown6, hb6⟩
    have B6 := Lib.hid (B5.out.trans (hb6.mono B5.out.size))
    have O6 := Lib.hid (own_lift hown6 B5.out.size)
    clear hb6 hown6
    go_wp2_with fail
    go_ret
    exact ⟨v6, rfl, O6.out, B6.out⟩

set_option maxRecDepth 100000 in
set_option maxHeartbeats 1000000 in
theorem implOr_any (v u : Value) (a b : List Int) (w : World) (h : IL w w.heap.size v a) (h' : IL w w.heap.size u b) :
    Calls Try.prog 41 #[v, u] w (OwnPost w.heap.size (orM a b) w) := by
  have HC := Lib.hid (combinedOr_any v u a b w h h')
  clear h h'
  go_enter Try.func41, Try.ntmps41
  go_wp2_with fail
  refine HC.out.mono ?_
  rintro e w1 ⟨v1, rfl, hown, hb⟩
  go_wp2_with fail
  go_ret
  exact ⟨v1, rfl, hown, hb⟩


set_option maxRecDepth 100000 in
set_option maxHeartbeats 4000000 in
theorem combinedLess_any (v u : Value) (a b : List Int) (w : World) (h : IL w w.heap.size v a) (h' : IL w w.heap.size u b) :
    Calls Try.prog 79 #[v, u, .func (.func 83) #[] #[]] w (OwnPost w.heap.size (lessM a b) w) := by
  have HP := Lib.hid h
  have HQ := Lib.hid h'
  have hS1 := Lib.hid (fun W h => idsOk_any v a W h)
  have hS2 := Lib.hid (fun W h => idsOk_any u b W h)
  clear h h'
  have eg : ∀ args w, (callFunc 83 args).run Try.prog w = .ok (.enter 83 args) w := enters_of Try.func83 (by kernel_rfl) rfl
  unfold lessM
  cases h1 : idsB a with
  | false =>
    rw [h1] at hS1
    rw [if_neg (by simp)]
    clear h1
    go_enter Try.func79, Try.ntmps79
    go_wp2_with fail
    refine (hS1.out _ HP.out).mono ?_
    rintro e w1 ⟨rfl, hb1⟩
    go_wp2_with fail
    go_ret
    exact ⟨_, rfl, World.ownsRow_nil _ _ _ _, hb1⟩
  | true =>
  cases h2 : idsB b with
  | false =>
    rw [h1] at hS1
    rw [h2] at hS2
    rw [if_neg (by simp)]
    clear h1 h2
    go_enter Try.func79, Try.ntmps79
    go_wp2_with fail
    refine (hS1.out _ HP.out).mono ?_
    rintro e w1 ⟨rfl, hb1⟩
    have B1 := Lib.hid hb1
    clear hb1
    go_wp2_with fail
    refine (hS2.out _ ((HQ.out.below B1.out).up B1.out.size)).mono ?_
    rintro e w2 ⟨rfl, hb2⟩
    have B2 := Lib.hid (B1.out.trans (hb2.mono B1.out.size))
    clear hb2
    go_wp2_with fail
    go_ret
    exact ⟨_, rfl, World.ownsRow_nil _ _ _ _, B2.out⟩
  | true =>
    have ra := idsB_ris h1
    have rb := idsB_ris h2
    have la := idsB_len h1
    have lb := idsB_len h2
    rw [h1] at hS1
    rw [h2] at hS2
    rw [if_pos ⟨rfl, rfl⟩]
    have HO1 := Lib.hid (fun W h => setOf_any v a W h ra)
    have HO2 := Lib.hid (fun W h => setOf_any u b W h rb)
    have HF := Lib.hid (fun s o W k1 k2 => less_any s o a.length b.length a b W k1 k2)
    have HT := Lib.hid (fun g W k => listed_any g a.length (lessL a b) W k (ra.filter _) (Nat.le_trans (List.length_filter_le _ a) (by omega)))
    clear h1 h2 ra rb
    go_enter Try.func79, Try.ntmps79
    go_wp2_with fail
    refine (hS1.out _ HP.out).mono ?_
    rintro e w1 ⟨rfl, hb1⟩
    have B1 := Lib.hid hb1
    clear hb1
    go_wp2_with fail
    refine (hS2.out _ ((HQ.out.below B1.out).up B1.out.size)).mono ?_
    rintro e w2 ⟨rfl, hb2⟩
    have B2 := Lib.hid (B1.out.trans (hb2.mono B1.out.size))
    clear hb2 B1
    go_wp2_with fail
    refine (HO1.out _ ((HP.out.below B2.out).up B2.out.size)).mono ?_
    rintro e w3 ⟨rfl, hm3, hb3⟩
    have B3 := Lib.hid (B2.out.trans (hb3.mono B2.out.size))
    have M3 := Lib.hid hm3
    clear hb3 hm3
    go_wp2_with fail
    refine (HO2.out _ ((HQ.out.below B3.out).up B3.out.size)).mono ?_
    rintro e w4 ⟨rfl, hm4, hb4⟩
    have B4 := Lib.hid (B3.out.trans (hb4.mono B3.out.size))
    have M4 := Lib.hid hm4
    have M34 := Lib.hid (ownsMap_below M3.out hb4 M3.out.lt)
    clear hb4 hm4 M3
    go_wp2_with fail
    refine (HF.out _ _ _ M34.out M4.out).mono ?_
    rintro e w5 ⟨g, rfl, hg, hm5, hb5⟩
    have B5 := Lib.hid (B4.out.trans (hb5.mono B4.out.size))
    have M5 := Lib.hid hm5
    clear hb5 hm5
    go_wp2_with fail
    refine (HT.out _ _ M5.out).mono ?_
    rintro e w6 ⟨v6, rfl, hown6, hb6⟩
    have B6 := Lib.hid (B5.out.trans (hb6.mono B5.out.size))
    have O6 := Lib.hid (own_lift hown6 B5.out.size)
    clear hb6 hown6
    go_wp2_with fail
    go_ret
    exact ⟨v6, rfl, O6.out, B6.out⟩

set_option maxRecDepth 100000 in
set_option maxHeartbeats 1000000 in
theorem implLess_any (v u : Value) (a b : List Int) (w : World) (h : IL w w.heap.size v a) (h' : IL w w.heap.size u b) :
    Calls Try.prog 43 #[v, u] w (OwnPost w.heap.size (lessM a b) w) := by
  have HC := Lib.hid (combinedLess_any v u a b w h h')
  clear h h'
  go_enter Try.func43, Try.ntmps43
  go_wp2_with fail
  refine HC.out.mono ?_
  rintro e w1 ⟨v1, rfl, hown, hb⟩
  go_wp2_with fail
  go_ret
  exact ⟨v1, rfl, hown, hb⟩

end Go.Proofs.Ytinpndoepppboaa