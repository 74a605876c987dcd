/- Walks: labels that match. -/
import Derived.Test.YtbgogpfhdfgjeabNi
import Derived.Test.YtbgogpfhdfgjeabNk
set_option linter.unusedVariables false
set_option linter.unusedSimpArgs false
namespace Go.Proofs.Ytbgogpfhdfgjeab
open Go.RowKit Go.Maps

def matAt (xs : List (ByteArray × ByteArray)) (ms : List MT) (k : Nat) : Bool := !((decide (lkV xs (ms.getD k em3).1 xs.length = (ms.getD k em3).2.1)) == (ms.getD k em3).2.2)
def mTo (xs : List (ByteArray × ByteArray)) (ms : List MT) (k : Nat) : Bool := (List.range k).all (matAt xs ms)
def matB (xs : List (ByteArray × ByteArray)) (ms : List MT) : Bool := labOkB xs && mTo xs ms ms.length
theorem mTo_succ (xs : List (ByteArray × ByteArray)) (ms : List MT) (k : Nat) : mTo xs ms (k + 1) = (mTo xs ms k && matAt xs ms k) := by
  unfold mTo; rw [List.range_succ, List.all_append]; simp
theorem mTo_bad {xs : List (ByteArray × ByteArray)} {ms : List MT} {k : Nat} (h : matAt xs ms k = false) (hk : k < ms.length) : matB xs ms = false := by
  have : mTo xs ms ms.length = false := by
    unfold mTo
    rw [List.all_eq_false]
    exact ⟨k, by simpa using hk, by simp [h]⟩
  unfold matB; rw [this]; simp
theorem labOk_to {xs : List (ByteArray × ByteArray)} (h : labOkB xs = true) : lTo xs xs.length = true := by
  unfold labOkB at h; rw [Bool.and_eq_true] at h; exact h.2
theorem str_eqb (a b : ByteArray) : (a.toList == b.toList) = decide (a = b) := by
  by_cases e : a = b
  · subst e; simp
  · rw [str_ne e, decide_eq_false e]

set_option maxRecDepth 100000 in
set_option maxHeartbeats 4000000 in
theorem specMatches_any (v u : Value) (xs : List (ByteArray × ByteArray)) (ms : List MT) (w : World) (h : LL w w.heap.size v xs) (h' : ML w w.heap.size u ms) :
    Calls Try.prog 18 #[v, u] w (BoolPostL (matB xs ms) w) := by
  have HS := Lib.hid (specLabelsOk_any v xs w h)
  cases hL : labOkB xs with
  | false =>
    rw [hL] at HS
    have E := Lib.hid (show matB xs ms = false from by unfold matB; rw [hL]; rfl)
    clear hL
    go_enter Try.func18, Try.ntmps18
    go_wp2_with fail
    refine HS.out.mono ?_
    rintro e w0 ⟨rfl, hb0⟩
    go_wp2_with fail
    go_ret
    exact ⟨by rw [E.out]; rfl, hb0⟩
  | true =>
    rw [hL] at HS
    have HT := Lib.hid (labOk_to hL)
    have HL := Lib.hid hL
    have Hv := Lib.hid h
    clear hL h
    obtain ⟨hr', hlen', A', c', rfl, h3'⟩ := h'
    have Hr' := Lib.hid hr'
    clear hr'
    go_enter Try.func18, Try.ntmps18
    go_wp2_with fail
    refine HS.out.mono ?_
    rintro e w0 ⟨rfl, hb0⟩
    have hbl0 := Lib.hid hb0
    clear hb0
    go_wp2_with fail
    go_loopw [5] (fun i wr => ∃ k : Nat, k ≤ ms.length ∧ i = .int .i64 k ∧ mTo xs ms k = true ∧ Below w.heap.size w wr) (fun i _ => ms.length - (intOf i).toNat)
    case atStart => exact ⟨0, Nat.zero_le _, rfl, rfl, hbl0.out⟩
    case round =>
      obtain ⟨k, hk, rfl, hg, hb⟩ := hrel
      have Hg := Lib.hid hg
      clear hg
      by_cases hlt : k < ms.length
      · rcases h3' with h3' | ⟨b, off, rfl, hbl, hc⟩
        · subst h3'; simp at hlt
        have hx0 : wr.cell? ⟨b, off + k * 3, none⟩ = some (.string (ms.getD k em3).1) := (hb.cell (p := ⟨b, off + k * 3, none⟩) hbl).trans (hc k hlt).1
        have hx1 : wr.cell? ⟨b, off + k * 3 + 1, none⟩ = some (.string (ms.getD k em3).2.1) := (hb.cell (p := ⟨b, off + k * 3 + 1, none⟩) hbl).trans (hc k hlt).2.1
        have hx2 : wr.cell? ⟨b, off + k * 3 + 2, none⟩ = some (.bool (ms.getD k em3).2.2) := (hb.cell (p := ⟨b, off + k * 3 + 2, none⟩) hbl).trans (hc k hlt).2.2
        have HV := Lib.hid (fun W (hb' : Below w.heap.size w W) => l6Val_any v xs (ms.getD k em3).1 W ((Hv.out.below hb').up hb'.size) HT.out)
        have hm : Hid (matAt xs ms k = !((decide (lkV xs (ms.getD k em3).1 xs.length = (ms.getD k em3).2.1)) == (ms.getD k em3).2.2)) := rfl
        rw [← str_eqb] at hm
        generalize lkV xs (ms.getD k em3).1 xs.length = lk at *
        generalize (ms.getD k em3).1 = nm at *
        generalize (ms.getD k em3).2.1 = vl at *
        generalize (ms.getD k em3).2.2 = nt at *
        have hrun := Lib.hid ((HV.out wr hb))
        have hrunD := Lib.hid (fun n => HV.out (wr.drewN n) (l_below_drewN hb n))
        clear hc
        cases heq : (lk.toList == vl.toList) <;> cases nt
        all_goals
          rw [heq] at hm
          first
            | (have E := Lib.hid (mTo_bad (xs := xs) (ms := ms) (k := k) hm.out hlt)
               go_wp2_with fail
               go_quiet ((go_at_call 34; first | (with_reducible exact Calls.quiet_of_same (hrun.out)) | (with_reducible exact Calls.quiet_of_same (hrunD.out _))))
               go_wp2_with fail
               go_ret
               exact ⟨by rw [E.out]; rfl, by first | exact l_below_drewN hb _ | exact hb⟩)
            | (have E := Lib.hid (show mTo xs ms (k + 1) = true from by rw [mTo_succ, Hg.out, hm.out]; rfl)
               go_wp2_with fail
               go_quiet ((go_at_call 34; first | (with_reducible exact Calls.quiet_of_same (hrun.out)) | (with_reducible exact Calls.quiet_of_same (hrunD.out _))))
               go_wp2_with fail
               go_roundw
               case rel => exact ⟨k + 1, by omega, by go_num, E.out, by first | exact l_below_drewN hb _ | exact hb⟩
               case measure => simp [intOf]; omega)
      · obtain rfl : k = ms.length := by omega
        have E := Lib.hid (show matB xs ms = true from by unfold matB; rw [HL.out, Hg.out]; rfl)
        go_wp2_with fail
        go_ret
        exact ⟨by rw [E.out]; rfl, hb⟩

set_option maxRecDepth 100000 in
set_option maxHeartbeats 4000000 in
theorem implMatches_any (v u : Value) (xs : List (ByteArray × ByteArray)) (ms : List MT) (w : World) (h : LL w w.heap.size v xs) (h' : ML w w.heap.size u ms) :
    Calls Try.prog 20 #[v, u] w (BoolPostL (matB xs ms) w) := by
  have HS := Lib.hid (implLabelsOk_any v xs w h)
  cases hL : labOkB xs with
  | false =>
    rw [hL] at HS
    have E := Lib.hid (show matB xs ms = false from by unfold matB; rw [hL]; rfl)
    clear hL
    go_enter Try.func20, Try.ntmps20
    go_wp2_with fail
    refine HS.out.mono ?_
    rintro e w0 ⟨rfl, hb0⟩
    go_wp2_with fail
    go_ret
    exact ⟨by rw [E.out]; rfl, hb0⟩
  | true =>
    rw [hL] at HS
    have HT := Lib.hid (labOk_to hL)
    have HL := Lib.hid hL
    have Hv := Lib.hid h
    clear hL h
    obtain ⟨hr', hlen', A', c', rfl, h3'⟩ := h'
    have Hr' := Lib.hid hr'
    clear hr'
    go_enter Try.func20, Try.ntmps20
    go_wp2_with fail
    refine HS.out.mono ?_
    rintro e w0 ⟨rfl, hb0⟩
    have HM := Lib.hid (mapOf_any v xs w0 ((Hv.out.below hb0).up hb0.size))
    have B0 := Lib.hid hb0
    clear hb0
    go_wp2_with fail
    refine HM.out.mono ?_
    rintro e w1 ⟨rfl, hown, hb1⟩
    have HO := Lib.hid hown
    have B1 := Lib.hid (B0.out.trans (hb1.mono B0.out.size))
    have S1 := Lib.hid B0.out.size
    clear hown hb1 B0 HM HS
    generalize w0.heap.size = mb at *
    go_wp2_with fail
    go_loopw [15] (fun i wr => ∃ k : Nat, k ≤ ms.length ∧ i = .int .i64 k ∧ mTo xs ms k = true ∧ wr.ownsMap Try.prog 9 (plainElem (H := Unit) Try.prog 9) mb xs.length (mpTo xs xs.length) ∧ Below w.heap.size w wr) (fun i _ => ms.length - (intOf i).toNat)
    case atStart => exact ⟨0, Nat.zero_le _, rfl, rfl, HO.out, B1.out⟩
    case round =>
      obtain ⟨k, hk, rfl, hg, hown, hb⟩ := hrel
      have Hg := Lib.hid hg
      clear hg
      by_cases hlt : k < ms.length
      · rcases h3' with h3' | ⟨b, off, rfl, hbl, hc⟩
        · subst h3'; simp at hlt
        have hx0 : wr.cell? ⟨b, off + k * 3, none⟩ = some (.string (ms.getD k em3).1) := (hb.cell (p := ⟨b, off + k * 3, none⟩) hbl).trans (hc k hlt).1
        have hx1 : wr.cell? ⟨b, off + k * 3 + 1, none⟩ = some (.string (ms.getD k em3).2.1) := (hb.cell (p := ⟨b, off + k * 3 + 1, none⟩) hbl).trans (hc k hlt).2.1
        have hx2 : wr.cell? ⟨b, off + k * 3 + 2, none⟩ = some (.bool (ms.getD k em3).2.2) := (hb.cell (p := ⟨b, off + k * 3 + 2, none⟩) hbl).trans (hc k hlt).2.2
        have hkey : keyOf Try.prog 9 (.string (ms.getD k em3).1) = some (keyL (ms.getD k em3).1) := WideMaps.keyOf_string_mk Try.underlying9 (Hr'.out k).1
        have hat0 := Lib.hid (mpTo_at xs (ms.getD k em3).1 xs.length)
        have hm : Hid (matAt xs ms k = !((decide (lkV xs (ms.getD k em3).1 xs.length = (ms.getD k em3).2.1)) == (ms.getD k em3).2.2)) := rfl
        rw [← str_eqb] at hm
        generalize lkV xs (ms.getD k em3).1 xs.length = lk at *
        generalize (ms.getD k em3).1 = nm at *
        generalize (ms.getD k em3).2.1 = vl at *
        generalize (ms.getD k em3).2.2 = nt at *
        have hown1 := hown.alloc (.cells #[.string nm, .string vl, .bool nt] 54)
        have hb1 := hb.alloc hb.size (.cells #[.string nm, .string vl, .bool nt] 54)
        have HB1 := Lib.hid hb1
        have HO1 := Lib.hid hown1
        clear hc hb1
        cases heq : (lk.toList == vl.toList) <;> cases nt
        all_goals
          rw [heq] at hm
          go_wp2_with (at_lookup; refine wpList_lookup_own_str _ rfl _ _ 57 rfl 9 9 lawS Try.underlying57 Try.underlying9 (zeroS _) mb xs.length _ rfl hown1 _ _ rfl hkey ?_; intro c hat; rw [hat0.out] at hat; have hce := keyL_inj (DataW.lit.inj hat); clear hat; subst hce)
          first
            | (have E := Lib.hid (mTo_bad (xs := xs) (ms := ms) (k := k) hm.out hlt)
               go_ret
               exact ⟨by rw [E.out]; rfl, HB1.out⟩)
            | (have E := Lib.hid (show mTo xs ms (k + 1) = true from by rw [mTo_succ, Hg.out, hm.out]; rfl)
               go_roundw
               case rel => exact ⟨k + 1, by omega, by go_num, E.out, HO1.out, HB1.out⟩
               case measure => simp [intOf]; omega)
      · obtain rfl : k = ms.length := by omega
        have E := Lib.hid (show matB xs ms = true from by unfold matB; rw [HL.out, Hg.out]; rfl)
        go_wp2_with fail
        go_ret
        exact ⟨by rw [E.out]; rfl, hb⟩
end Go.Proofs.Ytbgogpfhdfgjeab
