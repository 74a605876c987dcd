/- Walks: the program's bits of values. -/
import Derived.Test.YtanoohfhifhhaaaDoorEe
import Derived.Deep.RegionLaw
set_option linter.unusedVariables false
set_option linter.unusedSimpArgs false
namespace Go.Proofs.YtanoohfhifhhaaaDoor
open Go.RowKit

def RB (w : World) (g : Nat) (s : ByteArray) (N : Int) : Prop := w.heap[g]? = some (.cells #[.string s, .int .i64 N] 77 (0, 0))
theorem RB.c0 {w : World} {g : Nat} {s : ByteArray} {N : Int} (h : RB w g s N) : w.cell? ⟨g, 0, none⟩ = some (.string s) := by rw [cell_of_row w g 0 _ _ _ h]; rfl
theorem RB.c1 {w : World} {g : Nat} {s : ByteArray} {N : Int} (h : RB w g s N) : w.cell? ⟨g, 1, none⟩ = some (.int .i64 N) := by rw [cell_of_row w g 1 _ _ _ h]; rfl
theorem RB.f {w : World} {g : Nat} {s : ByteArray} {N : Int} (h : RB w g s N) (i : Nat) : w.frozen? ⟨g, i, none⟩ = false := frozen_of_row w g i _ _ h
theorem RB.lt {w : World} {g : Nat} {s : ByteArray} {N : Int} (h : RB w g s N) : g < w.heap.size := eb_lt h
theorem RB.below {w w' : World} {g : Nat} {s : ByteArray} {N : Int} (h : RB w g s N) (k : Below w.heap.size w w') : RB w' g s N := (k.block g h.lt).trans h
theorem RB.grown {w w' : World} {g r : Nat} {s : ByteArray} {N : Int} (h : RB w g s N) (k : w.grownBy w' (some r)) (hne : g ≠ r) : RB w' g s N := (k.block g h.lt (by intro he; injection he with he; omega)).trans h
def BPostV (R : ByteArray) (M : Int) (B : Bool) (w : World) (e : Ending) (w' : World) : Prop :=
  e = .returned (.tuple #[.agg #[.string R, .int .i64 M], .bool B]) ∧ Below w.heap.size w w'

set_option maxRecDepth 100000 in
set_option maxHeartbeats 1000000 in
theorem implValuesBits_bad (v : Value) (xs : List Int) (w : World) (h : IL w w.heap.size v xs) (hl : ¬ xs.length ≤ 120) :
    Calls Tryd.prog 75 #[v] w (BPostV ⟨#[]⟩ 0 false w) := by
  obtain ⟨hr, hlen, A, c, rfl, h3⟩ := h
  clear h3 hr
  have hR0 : RB (w.alloc (.cells #[.string ⟨#[]⟩, .int .i64 0] 77)) w.heap.size ⟨#[]⟩ 0 := heap_alloc_new w _
  have r0 := hR0.c0
  have r1 := hR0.c1
  have f0 := hR0.f 0
  have f1 := hR0.f 1
  clear hR0
  go_enter Tryd.func75, Tryd.ntmps75
  go_wp2_with fail
  exact bodyPost_ret (v := .tuple #[.agg #[.string ⟨#[]⟩, .int .i64 0], .bool false]) (by simp [results, Tryd.results75, go_sem, r0, r1]) rfl
    ⟨rfl, by
      first
      | exact (((eb_below1 w _).setCell (by simp) _).setCell (by simp) _)
      | exact eb_below1 w _⟩

/-- the world in a round of the program's loop over values -/
structure VR (w : World) (xs : List Int) (k : Nat) (W : World) : Prop where
  l : BitsV W (w.heap.size + 1) (valTo xs k).1
  x : ∃ b s : Int, wv (valTo xs k).2.1 (valTo xs k).2.2 = .agg #[.int .i64 b, .int .i64 s] ∧ WB W (w.heap.size + 1 + 1) b s
  r : RB W w.heap.size ⟨#[]⟩ 0
  f : Below w.heap.size w W
theorem bits_set {W : World} {g h : Nat} {L : List Bool} (p : BitsV W g L) (hne : g ≠ h) (u v : Value) : BitsV ((W.setCell ⟨h, 0, none⟩ u).setCell ⟨h, 1, none⟩ v) g L := by
  obtain ⟨ws, h1, h2⟩ := p
  exact ⟨ws, (Below.heap_setCell _ _ _ _ (show g ≠ h from hne)).trans ((Below.heap_setCell _ _ _ _ (show g ≠ h from hne)).trans h1), h2⟩
theorem rb_set {W : World} {g h : Nat} {s : ByteArray} {N : Int} (p : RB W g s N) (hne : g ≠ h) (u v : Value) : RB ((W.setCell ⟨h, 0, none⟩ u).setCell ⟨h, 1, none⟩ v) g s N :=
  (Below.heap_setCell _ _ _ _ (show g ≠ h from hne)).trans ((Below.heap_setCell _ _ _ _ (show g ≠ h from hne)).trans p)
theorem VR.start (w : World) (xs : List Int) : VR w xs 0 (((w.alloc (.cells #[.string ⟨#[]⟩, .int .i64 0] 77)).alloc (.cells (baCells zeroWs 0) 113)).alloc (.cells #[.int .i64 0, .int .i64 0] 128)) := by
  have h3 := heap_alloc_new ((w.alloc (.cells #[.string ⟨#[]⟩, .int .i64 0] 77)).alloc (.cells (baCells zeroWs 0) 113)) (.cells #[.int .i64 0, .int .i64 0] 128)
  rw [World.size_alloc, World.size_alloc] at h3
  have h2 := heap_alloc_new (w.alloc (.cells #[.string ⟨#[]⟩, .int .i64 0] 77)) (.cells (baCells zeroWs 0) 113)
  rw [World.size_alloc] at h2
  refine ⟨⟨zeroWs, ?_, BM.words_zero⟩, ⟨0, 0, rfl, h3⟩, ?_, ((eb_below1 w _).alloc (by simp) _).alloc (by simp; omega) _⟩
  · exact (Below.heap_alloc _ _ _ (by simp)).trans h2
  · exact (Below.heap_alloc _ _ _ (by simp; omega)).trans ((Below.heap_alloc _ _ _ (by simp)).trans (heap_alloc_new w _))

set_option maxRecDepth 100000 in
set_option maxHeartbeats 2000000 in
theorem implValuesBits_good (v : Value) (xs : List Int) (w : World) (h : IL w w.heap.size v xs) (hl : xs.length ≤ 120) (hT : Tab w) (R : List UInt8) (n : Nat) (hR : Hid (BM.pack (valTo xs xs.length).1 = R ∧ (valTo xs xs.length).1.length = n)) :
    Calls Tryd.prog 75 #[v] w (BPostV ⟨R.toArray⟩ (n : Int) true w) := by
  obtain ⟨hr, hlen, A, c, rfl, h3⟩ := h
  have H3 := Lib.hid h3
  have Hr := Lib.hid hr
  clear h3 hr
  have HV0 := Lib.hid (VR.start w xs)
  have hT' := Lib.hid hT
  have hd120 : decide (120 < (xs.length : Int)) = false := by simp; omega
  clear hT
  go_enter Tryd.func75, Tryd.ntmps75
  go_wp2_with (first
    | (with_reducible refine wl_alloc_ba ?_))
  generalize (((w.alloc (.cells #[.string ⟨#[]⟩, .int .i64 0] 77)).alloc (.cells (baCells zeroWs 0) 113)).alloc (.cells #[.int .i64 0, .int .i64 0] 128)) = w1 at HV0 ⊢
  go_loopw [14] (fun i wr => ∃ k : Nat, k ≤ xs.length ∧ i = .int .i64 (k : Int) ∧ Hid (VR w xs k wr)) (fun i _ => xs.length - (intOf i).toNat)
  case atStart => exact ⟨0, Nat.zero_le _, by simp, HV0⟩
  case round =>
    clear HV0
    obtain ⟨k, hk, rfl, HV⟩ := hrel
    by_cases hlt : k < xs.length
    · rcases H3.out with h3 | ⟨b, off, rfl, hbl, hc⟩
      · subst h3; simp at hlt
      clear H3
      have hx : wr.cell? ⟨b, off + k, none⟩ = some (.int .i64 (xs.getD k 0)) := (HV.out.f.cell (p := ⟨b, off + k, none⟩) hbl).trans (hc k hlt)
      have hok := valTo_ok xs k
      by_cases hk0 : k = 0
      · subst hk0
        rw [Nat.add_zero] at hx
        have hL0 : BitsV wr (w.heap.size + 1) [] := HV.out.l
        have Hput := Lib.hid (put_bitsV (w.heap.size + 1) [] (u64of (xs.getD 0 0)) 64 wr hL0 (by simp) (by omega) (u64of_lt _))
        have hcv : IntKind.u64.wrap (xs.getD 0 0) = ((u64of (xs.getD 0 0) : Nat) : Int) := u64n_wrap _
        have HD := Lib.hid (valTo_one xs)
        generalize u64of (xs.getD 0 0) = U at *
        generalize xs.getD 0 0 = x0 at *
        clear hc hL0
        go_wp2_with fail
        refine Hput.out.mono ?_
        rintro e w5 ⟨rfl, hl5, hg5⟩
        rw [List.nil_append] at hl5
        have HV5 : Hid (VR w xs (0 + 1) w5) := by
          obtain ⟨b1, s1, hw1, hb1⟩ := HV.out.x
          refine Lib.hid ⟨?_, ⟨b1, s1, ?_, hb1.grown hg5 (by omega)⟩, HV.out.r.grown hg5 (by omega), HV.out.f.grown hg5 HV.out.f.size (fun k hk => by injection hk with hk; omega)⟩
          · rw [HD.out]; exact hl5
          · rw [HD.out]; exact hw1
        clear hl5 hg5 HV hok
        go_wp2_with fail
        first
        | (go_roundw; (case rel => exact ⟨0 + 1, by omega, by go_num, HV5⟩); (case measure => simp [intOf]; omega))
        | exact ⟨⟨0 + 1, by omega, by go_num, HV5⟩, by simp [intOf]; omega⟩
      · have hx1 : wr.cell? ⟨b, off + (k - 1), none⟩ = some (.int .i64 (xs.getD (k - 1) 0)) := (HV.out.f.cell (p := ⟨b, off + (k - 1), none⟩) hbl).trans (hc (k - 1) (by omega))
        have hr := xor_rng (xs.getD k 0) (xs.getD (k - 1) 0)
        have hpc := putChange_any (w.heap.size + 1) (valTo xs k).1 (valTo xs k).2.1 (valTo xs k).2.2 (xr xs k)
        have HD := Lib.hid (valTo_succ (xs := xs) hk0)
        have hxr : bits .xor .i64 (xs.getD k 0) (xs.getD (k - 1) 0) = xr xs k := rfl
        have hok2 := valTo_ok xs (k + 1)
        rw [HD.out] at hok2
        obtain ⟨b2, s2, hwv2, _⟩ := wv_form hok2.1
        dsimp only at hwv2
        have HV' := HV.out
        obtain ⟨b1, s1, hwv1, hwb⟩ := HV'.x
        have hTr := hT'.out.below HV'.f
        rw [hwv1] at hpc
        have hpcw := fun W hW hTW => hpc W hW (by omega) hTW hok.1 hr.1 hr.2
        rw [hwv2] at hpcw
        have Hpc := Lib.hid hpcw
        have HTr := Lib.hid hTr
        have Hwv2 := Lib.hid hwv2
        have c0 := hwb.c0
        have c1 := hwb.c1
        have cf0 := hwb.f 0
        have cf1 := hwb.f 1
        have Hwb := Lib.hid hwb
        generalize xr xs k = X at *
        generalize xs.getD k 0 = x at *
        generalize xs.getD (k - 1) 0 = y at *
        clear hc hok hr hpc hok2 hwv2 HV' hpcw hwv1 hTr hwb
        have hk1 : IntKind.i64.wrap ((k : Int) - 1) = ((k - 1 : Nat) : Int) := by rw [u_i64_wrap]; unfold wrap64; omega
        have hjl : ((k - 1 : Nat) : Int) < (xs.length : Int) := by omega
        have hj0 : (0 : Int) ≤ ((k - 1 : Nat) : Int) := by omega
        generalize k - 1 = j at *
        go_wp2_with fail
        go_region_law (first
          | (go_simp; go_at_call 101; (refine (Hpc.out wr.drew (by obtain ⟨ws, q1, q2⟩ := HV.out.l; exact ⟨ws, q1, q2⟩) HTr.out).mono ?_); rintro e w5 ⟨rfl, hl5, hg5⟩; have hwb5 : WB w5 (w.heap.size + 1 + 1) b1 s1 := (show WB wr.drew (w.heap.size + 1 + 1) b1 s1 from Hwb.out).grown hg5 (by omega); have c0 := hwb5.c0; have c1 := hwb5.c1; have cf0 := hwb5.f 0; have cf1 := hwb5.f 1))
        all_goals
          have HV6 : Hid (VR w xs (k + 1) ((w5.setCell ⟨w.heap.size + 1 + 1, 0, none⟩ (.int .i64 (b2 : Int))).setCell ⟨w.heap.size + 1 + 1, 1, none⟩ (.int .i64 (s2 : Int)))) := by
            refine Lib.hid ⟨?_, ⟨(b2 : Int), (s2 : Int), ?_, hwb5.set⟩, ?_, ?_⟩
            · rw [HD.out]; exact bits_set hl5 (by omega) _ _
            · rw [HD.out]; exact Hwv2.out
            · exact rb_set ((show RB wr.drew w.heap.size ⟨#[]⟩ 0 from HV.out.r).grown hg5 (by omega)) (by omega) _ _
            · exact (((HV.out.f.drew).grown hg5 (show w.heap.size ≤ wr.heap.size from HV.out.f.size) (fun k hk => by injection hk with hk; omega)).setCell (by simp; omega) _).setCell (by simp; omega) _
          clear hl5 hg5 hwb5 HV
          go_simp
          go_wp2_with fail
          first
          | (go_roundw; (case rel => exact ⟨k + 1, by omega, by go_num, HV6⟩); (case measure => simp [intOf]; omega))
          | exact ⟨⟨k + 1, by omega, by go_num, HV6⟩, by simp [intOf]; omega⟩
    · obtain rfl : k = xs.length := by omega
      have hV : VR w xs xs.length wr := HV.out
      obtain ⟨ws, hbk, hws⟩ := hV.l
      have hpk := packed_any (w.heap.size + 1) ws (valTo xs xs.length).1 wr hbk hws
      rw [hR.out.1, hR.out.2] at hpk
      have HP := Lib.hid hpk
      have HRr := Lib.hid hV.r
      have HF := Lib.hid hV.f
      clear hV hbk hws hpk HV H3
      go_wp2_with fail
      refine HP.out.mono ?_
      rintro e w3 ⟨rfl, hb3⟩
      have hr3 := HRr.out.below hb3
      have hf3 := HF.out.trans (hb3.mono HF.out.size)
      have r0 := hr3.c0
      have r1 := hr3.c1
      have f0 := hr3.f 0
      have f1 := hr3.f 1
      clear hb3 hr3
      go_wp2_with fail
      exact bodyPost_ret (v := .tuple #[.agg #[.string ⟨R.toArray⟩, .int .i64 (n : Int)], .bool true]) (by simp [results, Tryd.results75, go_sem, r0, r1]) rfl
        ⟨rfl, (hf3.setCell (by simp) _).setCell (by simp) _⟩
end Go.Proofs.YtanoohfhifhhaaaDoor
