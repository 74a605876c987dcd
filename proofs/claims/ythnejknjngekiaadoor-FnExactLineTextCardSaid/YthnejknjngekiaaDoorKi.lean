/- Walks: lines: the laws' own helpers; valid lines, both. -/
import Derived.RangeFuncBox
import Derived.Test.YthnejknjngekiaaDoorNd
import Derived.Test.YthnejknjngekiaaDoorNe
import Derived.Test.YthnejknjngekiaaDoorKh
set_option linter.unusedVariables false
set_option linter.unusedSimpArgs false
namespace Go.Proofs.YthnejknjngekiaaDoor
open Go.RowKit

theorem grown_setL {a w : World} {g : Nat} (h : a.grownBy w (some g)) (i : Nat) (u : Value) : a.grownBy (w.setCell ⟨g, i, none⟩ u) (some g) :=
  ⟨h.os, h.tape, h.output, by simpa [World.setCell] using h.size, fun k hk hne => (Below.heap_setCell w _ u k (by rintro rfl; exact hne rfl)).trans (h.block k hk hne)⟩
/-- a variable's box of several cells -/
def BoxL (W : World) (B : Nat) (cs : Array Value) (t : TypeId) : Prop := W.heap[B]? = some (.cells cs t (0, 0))
theorem BoxL.lt {W : World} {B : Nat} {cs : Array Value} {t : TypeId} (h : BoxL W B cs t) : B < W.heap.size := (Array.getElem?_eq_some_iff.1 h).1
theorem BoxL.own {X Y : World} {row : Option Nat} {B : Nat} {cs : Array Value} {t : TypeId} (h : BoxL X B cs t) (hg : X.grownBy Y row) (hr : ∀ r, row = some r → ∃ o : Obj, X.heap[r]? = some o ∧ o.isCells = false) : BoxL Y B cs t :=
  (hg.block B h.lt (fun e => by obtain ⟨o, ho, hc⟩ := hr B e.symm; rw [h] at ho; cases ho; cases hc)).trans h
theorem BoxL.below {X Y : World} {B : Nat} {cs : Array Value} {t : TypeId} (h : BoxL X B cs t) (hb : Below X.heap.size X Y) : BoxL Y B cs t := (hb.block B h.lt).trans h
theorem BoxL.cell {W : World} {B i : Nat} {cs : Array Value} {t : TypeId} {v : Value} (h : BoxL W B cs t) (hv : cs[i]? = some v) : W.cell? ⟨B, i, none⟩ = some v := by
  have hh : W.heap[B]? = some (.cells cs t (0, 0)) := h
  simp [World.cell?, hh, hv]
theorem BoxL.frozen {W : World} {B i : Nat} {cs : Array Value} {t : TypeId} (h : BoxL W B cs t) : W.frozen? ⟨B, i, none⟩ = false := by
  have hh : W.heap[B]? = some (.cells cs t (0, 0)) := h
  simp [World.frozen?, hh]
theorem own_set_otherL {W : World} {base sz : Nat} {e : TypeId} {v : Value} {n : Nat} {xs : List Value} (h : W.ownsRow base e sz v n xs) (b i : Nat) (x : Value) (hb : b < base) : (W.setCell ⟨b, i, none⟩ x).ownsRow base e sz v n xs :=
  h.kept (grown_setL (World.grownBy.refl W (some b)) i x) (by
    by_cases e : v.ownBlock = none
    · exact .inl e
    · right; intro he; have := (h.lt b he).1; omega)
theorem oi_liftL {w : World} {base base' sz : Nat} {e : TypeId} {v : Value} {n : Nat} {xs : List Value} (h : w.ownsRow base e sz v n xs) (hb : base' ≤ base) : w.ownsRow base' e sz v n xs :=
  ⟨h.1, h.2.imp id fun ⟨g, cap, cur, a, b, c⟩ => ⟨g, cap, cur, a, Nat.le_trans hb b, c⟩⟩


set_option maxRecDepth 100000 in
set_option maxHeartbeats 400000 in
theorem timeOkL_any (v : Int) (w : World) : Calls Tryd.prog 26 #[.int .i64 v] w fun e w' => e = .returned (.bool (vIn v 0 1000000000000)) ∧ w' = w := by
  by_cases h1 : 0 ≤ v
  · by_cases h2 : v ≤ 1000000000000
    · rw [vIn_true h1 h2]
      go_enter Tryd.func26, Tryd.ntmps26
      go_wp2
      go_ret
      exact ⟨rfl, rfl⟩
    · rw [vIn_false (fun h => h2 h.2)]
      go_enter Tryd.func26, Tryd.ntmps26
      go_wp2
      go_ret
      exact ⟨rfl, rfl⟩
  · rw [vIn_false (fun h => h1 h.1)]
    go_enter Tryd.func26, Tryd.ntmps26
    go_wp2
    go_ret
    exact ⟨rfl, rfl⟩
def lineB (ls : List (ByteArray × ByteArray)) (V T : Int) : Bool := labOkB ls && (smB V && vIn T 0 1000000000000)
theorem u_own_belowL {w w' : World} {base : Nat} {e : TypeId} {size : Nat} {v : Value} {n : Nat} {xs : List Value} (h : w.ownsRow base e size v n xs) (hb : Below w.heap.size w w') : w'.ownsRow base e size v n xs :=
  h.kept (row := none) ⟨hb.os, hb.tape, hb.output, hb.size, fun i hi _ => hb.block i hi⟩ (by by_cases hx : v.ownBlock = none; exact .inl hx; exact .inr hx)

set_option maxRecDepth 100000 in
set_option maxHeartbeats 1000000 in
theorem toLine_any (V T : Int) (rv : Value) (ls : List (ByteArray × ByteArray)) (w : World) (h : LL w w.heap.size rv ls) :
    Calls Tryd.prog 6 #[.agg #[rv, .int .i64 V, .int .i64 T]] w fun e w' => ∃ v, e = .returned (.agg #[v, .int .i64 V, .int .i64 T]) ∧ w'.ownsRow w.heap.size 45 2 v ls.length (lbs ls) ∧ Below w.heap.size w w' := by
  have hT := Lib.hid (fun W h => toLabelS_any rv ls W h)
  have HR := Lib.hid h
  obtain ⟨_, _, A, c, rfl, _⟩ := h
  obtain ⟨w1, hw1⟩ : ∃ w1, ((w.alloc (.cells #[.slice A ls.length c, .int .i64 V, .int .i64 T] 24)).alloc (.cells #[.slice none 0 0, .int .i64 0, .int .i64 0] 29)).alloc (.cells #[.slice none 0 0, .int .i64 0, .int .i64 0] 29) = w1 := ⟨_, rfl⟩
  have B1 := Lib.hid (show Below w.heap.size w w1 from by rw [← hw1]; exact (((Below.refl _ w).alloc (Nat.le_refl _) _).alloc (by simp) _).alloc (by simp; omega) _)
  have n0 : BoxL w1 w.heap.size #[.slice A ls.length c, .int .i64 V, .int .i64 T] 24 := by
    have h := World.alloc_heap_new w (.cells #[.slice A ls.length c, .int .i64 V, .int .i64 T] 24)
    rw [← hw1]
    exact (Below.heap_alloc _ _ _ (by simp; omega)).trans ((Below.heap_alloc _ _ _ (by simp)).trans h)
  have n1 : BoxL w1 (w.heap.size + 1) #[.slice none 0 0, .int .i64 0, .int .i64 0] 29 := by
    have h := World.alloc_heap_new (w.alloc (.cells #[.slice A ls.length c, .int .i64 V, .int .i64 T] 24)) (.cells #[.slice none 0 0, .int .i64 0, .int .i64 0] 29)
    rw [World.size_alloc] at h
    rw [← hw1]
    exact (Below.heap_alloc _ _ _ (by simp)).trans h
  have n2 : BoxL w1 (w.heap.size + 1 + 1) #[.slice none 0 0, .int .i64 0, .int .i64 0] 29 := by
    have h := World.alloc_heap_new ((w.alloc (.cells #[.slice A ls.length c, .int .i64 V, .int .i64 T] 24)).alloc (.cells #[.slice none 0 0, .int .i64 0, .int .i64 0] 29)) (.cells #[.slice none 0 0, .int .i64 0, .int .i64 0] 29)
    rw [World.size_alloc, World.size_alloc] at h
    rw [← hw1]; exact h
  have hz1 := Lib.hid (show w1.heap.size = w.heap.size + 3 from by rw [← hw1]; simp)
  have HW := Lib.hid hw1
  have N0 := Lib.hid n0
  have N1 := Lib.hid n1
  have N2 := Lib.hid n2
  clear hw1 n0 n1 n2
  go_enter Tryd.func6, Tryd.ntmps6
  go_wp2_with fail
  rw [HW.out]
  refine (hT.out _ ((HR.out.below B1.out).up B1.out.size)).mono ?_
  rintro e w2 ⟨v, rfl, hown, hb2⟩
  have p2 : BoxL w2 w.heap.size #[.slice A ls.length c, .int .i64 V, .int .i64 T] 24 := (hb2.block _ N0.out.lt).trans N0.out
  have r2 : BoxL w2 (w.heap.size + 1) #[.slice none 0 0, .int .i64 0, .int .i64 0] 29 := (hb2.block _ N1.out.lt).trans N1.out
  have o2 : BoxL w2 (w.heap.size + 1 + 1) #[.slice none 0 0, .int .i64 0, .int .i64 0] 29 := (hb2.block _ N2.out.lt).trans N2.out
  have HB := Lib.hid (B1.out.trans (hb2.mono B1.out.size))
  have HO := Lib.hid (show w2.ownsRow (w.heap.size + 3) 45 2 v ls.length (lbs ls) from by rw [← hz1.out]; exact hown)
  clear hown hb2
  have b0 := p2.cell (i := 0) rfl
  have b1 := p2.cell (i := 1) rfl
  have b2 := p2.cell (i := 2) rfl
  have c0 := r2.cell (i := 0) rfl
  have c1 := r2.cell (i := 1) rfl
  have c2 := r2.cell (i := 2) rfl
  have f0 := r2.frozen (i := 0)
  have f1 := r2.frozen (i := 1)
  have f2 := r2.frozen (i := 2)
  have d0 := o2.cell (i := 0) rfl
  have d1 := o2.cell (i := 1) rfl
  have d2 := o2.cell (i := 2) rfl
  have g0 := o2.frozen (i := 0)
  have g1 := o2.frozen (i := 1)
  have g2 := o2.frozen (i := 2)
  obtain ⟨va, vn, vc, rfl⟩ : ∃ a n c, v = .slice a n c := by
    rcases HO.out.2 with ⟨rfl, h0⟩ | ⟨gb, cap, cur, rfl, _⟩
    · exact ⟨_, _, _, rfl⟩
    · exact ⟨_, _, _, rfl⟩
  go_wp2_with fail
  refine bodyPost_ret (v := .agg #[.slice va vn vc, .int .i64 V, .int .i64 T]) (by simp [results, Tryd.results6, go_sem, c0, c1, c2, d0, d1, d2]) rfl ⟨_, rfl, ?_, ?_⟩
  · refine oi_liftL (base := w.heap.size + 3) ?_ (by omega)
    repeat (first | with_reducible exact HO.out | refine own_set_otherL ?_ _ _ _ (by omega))
  · repeat (first | with_reducible exact HB.out | refine Below.setCell ?_ (by simp; try omega) _)

set_option maxRecDepth 100000 in
set_option maxHeartbeats 1000000 in
theorem eqLine_same (V T : Int) (rv ru : Value) (ls : List (ByteArray × ByteArray)) (w : World) (h : LL w w.heap.size rv ls) (h' : LL w w.heap.size ru ls) :
    Calls Tryd.prog 8 #[.agg #[rv, .int .i64 V, .int .i64 T], .agg #[ru, .int .i64 V, .int .i64 T]] w fun e w' => e = .returned (.bool true) ∧ Below w.heap.size w w' := by
  have hE := Lib.hid (fun W h h' => eqLabelS_any rv ru ls ls W h h')
  rw [decide_eq_true rfl] at hE
  have H1 := Lib.hid h
  have H2 := Lib.hid h'
  obtain ⟨_, _, A, c, rfl, _⟩ := h
  obtain ⟨_, _, A', c', rfl, _⟩ := h'
  obtain ⟨w1, hw1⟩ : ∃ w1, (w.alloc (.cells #[.slice A ls.length c, .int .i64 V, .int .i64 T] 29)).alloc (.cells #[.slice A' ls.length c', .int .i64 V, .int .i64 T] 29) = w1 := ⟨_, rfl⟩
  have B1 := Lib.hid (show Below w.heap.size w w1 from by rw [← hw1]; exact ((Below.refl _ w).alloc (Nat.le_refl _) _).alloc (by simp) _)
  have n0 : BoxL w1 w.heap.size #[.slice A ls.length c, .int .i64 V, .int .i64 T] 29 := by
    have h := World.alloc_heap_new w (.cells #[.slice A ls.length c, .int .i64 V, .int .i64 T] 29)
    rw [← hw1]
    exact (Below.heap_alloc _ _ _ (by simp)).trans h
  have n1 : BoxL w1 (w.heap.size + 1) #[.slice A' ls.length c', .int .i64 V, .int .i64 T] 29 := by
    have h := World.alloc_heap_new (w.alloc (.cells #[.slice A ls.length c, .int .i64 V, .int .i64 T] 29)) (.cells #[.slice A' ls.length c', .int .i64 V, .int .i64 T] 29)
    rw [World.size_alloc] at h
    rw [← hw1]; exact h
  have HW := Lib.hid hw1
  have N0 := Lib.hid n0
  have N1 := Lib.hid n1
  have x0 := n0.cell (i := 0) rfl
  have y0 := n1.cell (i := 0) rfl
  clear hw1 n0 n1
  go_enter Tryd.func8, Tryd.ntmps8
  go_wp2_with fail
  rw [HW.out]
  go_wp2_with fail
  refine (hE.out _ ((H1.out.below B1.out).up B1.out.size) ((H2.out.below B1.out).up B1.out.size)).mono ?_
  rintro e w2 ⟨rfl, hb2⟩
  have p2 : BoxL w2 w.heap.size #[.slice A ls.length c, .int .i64 V, .int .i64 T] 29 := (hb2.block _ N0.out.lt).trans N0.out
  have r2 : BoxL w2 (w.heap.size + 1) #[.slice A' ls.length c', .int .i64 V, .int .i64 T] 29 := (hb2.block _ N1.out.lt).trans N1.out
  have hb3 := B1.out.trans (hb2.mono B1.out.size)
  clear x0 y0 hb2
  have b1 := p2.cell (i := 1) rfl
  have b2 := p2.cell (i := 2) rfl
  have c1 := r2.cell (i := 1) rfl
  have c2 := r2.cell (i := 2) rfl
  go_wp2_with fail
  go_ret
  exact ⟨rfl, hb3⟩

set_option maxRecDepth 100000 in
set_option maxHeartbeats 1000000 in
theorem szLine_any (V T : Int) (A : Option Addr) (n c l : Nat) (w : World) (hn : n ≤ maxLen) (hl : l ≤ 1048576) (hx : n ≤ 1048576 → ∃ xs : List (ByteArray × ByteArray), xs.length = n ∧ LL w w.heap.size (.slice A n c) xs) :
    Calls Tryd.prog 4 #[.agg #[.slice A n c, .int .i64 V, .int .i64 T], .int .i64 (l : Int)] w fun e w' => (∃ r : Int, e = .returned (.int .i64 r) ∧ (r = -1 ∨ ∃ m : Nat, r = m ∧ m ≤ l ∧ n ≤ 1048576)) ∧ Below w.heap.size w w' := by
  obtain ⟨w1, hw1⟩ : ∃ w1, w.alloc (.cells #[.slice A n c, .int .i64 V, .int .i64 T] 24) = w1 := ⟨_, rfl⟩
  have B1 := Lib.hid (show Below w.heap.size w w1 from by rw [← hw1]; exact (Below.refl _ w).alloc (Nat.le_refl _) _)
  have n0 : BoxL w1 w.heap.size #[.slice A n c, .int .i64 V, .int .i64 T] 24 := by rw [← hw1]; exact World.alloc_heap_new w _
  have HZ := Lib.hid (szLabelS_any A n c l w1 hn hl (fun h => by obtain ⟨xs, h1, h2⟩ := hx h; exact ⟨xs, h1, (h2.below B1.out).up B1.out.size⟩))
  have HW := Lib.hid hw1
  have x0 := n0.cell (i := 0) rfl
  clear hw1 n0 hx
  go_enter Tryd.func4, Tryd.ntmps4
  go_wp2_with fail
  rw [HW.out]
  go_wp2_with fail
  refine HZ.out.mono ?_
  rintro e w2 ⟨⟨r, rfl, hr⟩, hb2⟩
  have hb3 := Lib.hid (B1.out.trans (hb2.mono B1.out.size))
  clear hb2 x0
  rcases hr with rfl | ⟨m, rfl, hm, hn2⟩
  · go_wp2_with fail
    go_ret
    exact ⟨⟨-1, rfl, .inl rfl⟩, hb3.out⟩
  · go_wp2_with fail
    go_ret
    exact ⟨⟨_, rfl, .inr ⟨m, rfl, hm, hn2⟩⟩, hb3.out⟩

set_option maxRecDepth 100000 in
set_option maxHeartbeats 2000000 in
theorem specLineOk_any (V T : Int) (rv : Value) (ls : List (ByteArray × ByteArray)) (w : World) (h : LL w w.heap.size rv ls) :
    Calls Tryd.prog 10 #[.agg #[rv, .int .i64 V, .int .i64 T]] w (BoolPostL (lineB ls V T) w) := by
  have hL := Lib.hid (fun W h => specLabelsOk_any rv ls W h)
  have hS := Lib.hid (fun W => l7Val_q V W)
  have hT := Lib.hid (fun W => v_l1In_q T 0 1000000000000 W)
  have HR := Lib.hid h
  obtain ⟨_, _, A, c, rfl, _⟩ := h
  obtain ⟨w1, hw1⟩ : ∃ w1, w.alloc (.cells #[.slice A ls.length c, .int .i64 V, .int .i64 T] 29) = w1 := ⟨_, rfl⟩
  have B1 := Lib.hid (show Below w.heap.size w w1 from by rw [← hw1]; exact (Below.refl _ w).alloc (Nat.le_refl _) _)
  have n0 : BoxL w1 w.heap.size #[.slice A ls.length c, .int .i64 V, .int .i64 T] 29 := by rw [← hw1]; exact World.alloc_heap_new w _
  have HW := Lib.hid hw1
  have N0 := Lib.hid n0
  have x0 := n0.cell (i := 0) rfl
  clear hw1 n0
  cases h1 : labOkB ls with
  | false =>
    rw [show lineB ls V T = false from by unfold lineB; rw [h1]; rfl]
    rw [h1] at hL
    clear h1 hS hT
    go_enter Tryd.func10, Tryd.ntmps10
    go_wp2_with fail
    rw [HW.out]
    go_wp2_with fail
    refine (hL.out _ ((HR.out.below B1.out).up B1.out.size)).mono ?_
    rintro e w2 ⟨rfl, hb2⟩
    have p2 : BoxL w2 w.heap.size #[.slice A ls.length c, .int .i64 V, .int .i64 T] 29 := (hb2.block _ N0.out.lt).trans N0.out
    have hb3 := Lib.hid (B1.out.trans (hb2.mono B1.out.size))
    clear hb2 x0
    have b1 := p2.cell (i := 1) rfl
    have b2 := p2.cell (i := 2) rfl
    go_wp2_with fail
    go_ret
    exact ⟨rfl, hb3.out⟩
  | true =>
  cases h2 : smB V with
  | false =>
    rw [show lineB ls V T = false from by unfold lineB; rw [h1, h2]; rfl]
    rw [h1] at hL
    rw [h2] at hS
    clear h1 h2 hT
    go_enter Tryd.func10, Tryd.ntmps10
    go_wp2_with fail
    rw [HW.out]
    go_wp2_with fail
    refine (hL.out _ ((HR.out.below B1.out).up B1.out.size)).mono ?_
    rintro e w2 ⟨rfl, hb2⟩
    have p2 : BoxL w2 w.heap.size #[.slice A ls.length c, .int .i64 V, .int .i64 T] 29 := (hb2.block _ N0.out.lt).trans N0.out
    have hb3 := Lib.hid (B1.out.trans (hb2.mono B1.out.size))
    clear hb2 x0
    have b1 := p2.cell (i := 1) rfl
    have b2 := p2.cell (i := 2) rfl
    go_wp2_with fail
    refine (hS.out _).mono ?_
    rintro e w3 ⟨rfl, rfl⟩
    go_wp2_with fail
    go_ret
    exact ⟨rfl, hb3.out⟩
  | true =>
    have hV : lineB ls V T = vIn T 0 1000000000000 := by unfold lineB; rw [h1, h2]; rfl
    rw [hV]
    rw [h1] at hL
    rw [h2] at hS
    clear h1 h2 hV
    generalize vIn T 0 1000000000000 = tb at *
    go_enter Tryd.func10, Tryd.ntmps10
    go_wp2_with fail
    rw [HW.out]
    go_wp2_with fail
    refine (hL.out _ ((HR.out.below B1.out).up B1.out.size)).mono ?_
    rintro e w2 ⟨rfl, hb2⟩
    have p2 : BoxL w2 w.heap.size #[.slice A ls.length c, .int .i64 V, .int .i64 T] 29 := (hb2.block _ N0.out.lt).trans N0.out
    have hb3 := Lib.hid (B1.out.trans (hb2.mono B1.out.size))
    clear hb2 x0
    have b1 := p2.cell (i := 1) rfl
    have b2 := p2.cell (i := 2) rfl
    go_wp2_with fail
    refine (hS.out _).mono ?_
    rintro e w3 ⟨rfl, rfl⟩
    go_wp2_with fail
    refine (hT.out _).mono ?_
    rintro e w4 ⟨rfl, rfl⟩
    go_wp2_with fail
    go_ret
    exact ⟨rfl, hb3.out⟩

set_option maxRecDepth 100000 in
set_option maxHeartbeats 2000000 in
theorem implLineOk_any (V T : Int) (rv : Value) (ls : List (ByteArray × ByteArray)) (w : World) (h : LL w w.heap.size rv ls) :
    Calls Tryd.prog 13 #[.agg #[rv, .int .i64 V, .int .i64 T]] w (BoolPostL (lineB ls V T) w) := by
  have hL := Lib.hid (fun W h => implLabelsOk_any rv ls W h)
  have hS := Lib.hid (fun W => isSmall_q V W)
  have hT := Lib.hid (fun W => timeOkL_any T W)
  have HR := Lib.hid h
  obtain ⟨_, _, A, c, rfl, _⟩ := h
  obtain ⟨w1, hw1⟩ : ∃ w1, w.alloc (.cells #[.slice A ls.length c, .int .i64 V, .int .i64 T] 29) = w1 := ⟨_, rfl⟩
  have B1 := Lib.hid (show Below w.heap.size w w1 from by rw [← hw1]; exact (Below.refl _ w).alloc (Nat.le_refl _) _)
  have n0 : BoxL w1 w.heap.size #[.slice A ls.length c, .int .i64 V, .int .i64 T] 29 := by rw [← hw1]; exact World.alloc_heap_new w _
  have HW := Lib.hid hw1
  have N0 := Lib.hid n0
  have x0 := n0.cell (i := 0) rfl
  clear hw1 n0
  cases h1 : labOkB ls with
  | false =>
    rw [show lineB ls V T = false from by unfold lineB; rw [h1]; rfl]
    rw [h1] at hL
    clear h1 hS hT
    go_enter Tryd.func13, Tryd.ntmps13
    go_wp2_with fail
    rw [HW.out]
    go_wp2_with fail
    refine (hL.out _ ((HR.out.below B1.out).up B1.out.size)).mono ?_
    rintro e w2 ⟨rfl, hb2⟩
    have p2 : BoxL w2 w.heap.size #[.slice A ls.length c, .int .i64 V, .int .i64 T] 29 := (hb2.block _ N0.out.lt).trans N0.out
    have hb3 := Lib.hid (B1.out.trans (hb2.mono B1.out.size))
    clear hb2 x0
    have b1 := p2.cell (i := 1) rfl
    have b2 := p2.cell (i := 2) rfl
    go_wp2_with fail
    go_ret
    exact ⟨rfl, hb3.out⟩
  | true =>
  cases h2 : smB V with
  | false =>
    rw [show lineB ls V T = false from by unfold lineB; rw [h1, h2]; rfl]
    rw [h1] at hL
    rw [h2] at hS
    clear h1 h2 hT
    go_enter Tryd.func13, Tryd.ntmps13
    go_wp2_with fail
    rw [HW.out]
    go_wp2_with fail
    refine (hL.out _ ((HR.out.below B1.out).up B1.out.size)).mono ?_
    rintro e w2 ⟨rfl, hb2⟩
    have p2 : BoxL w2 w.heap.size #[.slice A ls.length c, .int .i64 V, .int .i64 T] 29 := (hb2.block _ N0.out.lt).trans N0.out
    have hb3 := Lib.hid (B1.out.trans (hb2.mono B1.out.size))
    clear hb2 x0
    have b1 := p2.cell (i := 1) rfl
    have b2 := p2.cell (i := 2) rfl
    go_wp2_with fail
    refine (hS.out _).mono ?_
    rintro e w3 ⟨rfl, rfl⟩
    go_wp2_with fail
    go_ret
    exact ⟨rfl, hb3.out⟩
  | true =>
    have hV : lineB ls V T = vIn T 0 1000000000000 := by unfold lineB; rw [h1, h2]; rfl
    rw [hV]
    rw [h1] at hL
    rw [h2] at hS
    clear h1 h2 hV
    generalize vIn T 0 1000000000000 = tb at *
    go_enter Tryd.func13, Tryd.ntmps13
    go_wp2_with fail
    rw [HW.out]
    go_wp2_with fail
    refine (hL.out _ ((HR.out.below B1.out).up B1.out.size)).mono ?_
    rintro e w2 ⟨rfl, hb2⟩
    have p2 : BoxL w2 w.heap.size #[.slice A ls.length c, .int .i64 V, .int .i64 T] 29 := (hb2.block _ N0.out.lt).trans N0.out
    have hb3 := Lib.hid (B1.out.trans (hb2.mono B1.out.size))
    clear hb2 x0
    have b1 := p2.cell (i := 1) rfl
    have b2 := p2.cell (i := 2) rfl
    go_wp2_with fail
    refine (hS.out _).mono ?_
    rintro e w3 ⟨rfl, rfl⟩
    go_wp2_with fail
    refine (hT.out _).mono ?_
    rintro e w4 ⟨rfl, rfl⟩
    go_wp2_with fail
    go_ret
    exact ⟨rfl, hb3.out⟩
end Go.Proofs.YthnejknjngekiaaDoor
