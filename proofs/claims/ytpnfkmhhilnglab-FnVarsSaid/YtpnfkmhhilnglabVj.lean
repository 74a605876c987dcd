/- Walks: reading a list of numbers: the model. -/
import Derived.Test.YtpnfkmhhilnglabVh
import Derived.Test.YtpnfkmhhilnglabUi
namespace Go.Proofs.Ytpnfkmhhilnglab
open Go.RowKit

/-- the numbers of a list, k of them, from the place at on -/
def rdList (l : List UInt8) : Nat → Nat → Option (List Int × Nat)
  | 0, a => some ([], a)
  | k + 1, a => match rdList l k a with
    | none => none
    | some (xs, b) => match VM.readV (l.drop b) with
      | none => none
      | some (u, m) => some (xs ++ [zagF (wrap64 (u : Int))], b + m)
def rdVars (l : List UInt8) : Option (List Int) :=
  match VM.readV l with
  | none => none
  | some (u, a) => if 200 < u then none else
    match rdList l u a with
    | none => none
    | some (xs, b) => if b = l.length then some xs else none

theorem rdList_len {l : List UInt8} (k a : Nat) {xs : List Int} {b : Nat} (h : rdList l k a = some (xs, b)) : xs.length = k := by
  induction k generalizing xs b with
  | zero => rw [rdList] at h; cases h; rfl
  | succ k ih =>
    rw [rdList] at h
    split at h
    · cases h
    · rename_i ys c hy
      split at h
      · cases h
      · cases h; simp [ih hy]
theorem rdList_le {l : List UInt8} (k a : Nat) {xs : List Int} {b : Nat} (ha : a ≤ l.length) (h : rdList l k a = some (xs, b)) : b ≤ l.length := by
  induction k generalizing xs b with
  | zero => rw [rdList] at h; cases h; exact ha
  | succ k ih =>
    rw [rdList] at h
    split at h
    · cases h
    · rename_i ys c hy
      split at h
      · cases h
      · rename_i u m hm
        cases h
        have h1 := ih hy
        have h2 := (VM.readV_spec hm).2.2.2.2
        rw [List.length_drop] at h2
        omega
theorem rdList_rng {l : List UInt8} (k a : Nat) {xs : List Int} {b : Nat} (h : rdList l k a = some (xs, b)) : ∀ x ∈ xs, Rng x := by
  induction k generalizing xs b with
  | zero => rw [rdList] at h; cases h; intro x hx; cases hx
  | succ k ih =>
    rw [rdList] at h
    split at h
    · cases h
    · rename_i ys c hy
      split at h
      · cases h
      · rename_i u m hm
        cases h
        intro x hx
        rcases List.mem_append.1 hx with hx | hx
        · exact ih hy x hx
        · have e : x = zagF (wrap64 (u : Int)) := by simpa using hx
          rw [e]
          exact zag_bd _
/-- where one number fails, all fail -/
theorem rdList_none {l : List UInt8} (k a : Nat) (h : rdList l k a = none) (n : Nat) (hn : k ≤ n) : rdList l n a = none := by
  induction n with
  | zero => obtain rfl : k = 0 := by omega
            exact h
  | succ n ih =>
    by_cases e : k = n + 1
    · rw [← e]; exact h
    · rw [rdList, ih (by omega)]
theorem rdList_next {l : List UInt8} {k a : Nat} {xs : List Int} {b : Nat} (h : rdList l k a = some (xs, b)) :
    rdList l (k + 1) a = match VM.readV (l.drop b) with | none => none | some (u, m) => some (xs ++ [zagF (wrap64 (u : Int))], b + m) := by
  rw [rdList, h]

def rvOut (s : ByteArray) : Bool × List Int :=
  match rdVars s.data.toList with
  | none => (false, [])
  | some xs => (true, xs)
def RVPost (s : ByteArray) (w : World) (e : Ending) (w' : World) : Prop :=
  ∃ v, e = .returned (.tuple #[v, .bool (rvOut s).1]) ∧ w'.ownsRow w.heap.size 2 1 v (rvOut s).2.length (ints (rvOut s).2) ∧ Below w.heap.size w w'
theorem rvPost_no {s : ByteArray} {w w' : World} (h : rdVars s.data.toList = none) (hb : Below w.heap.size w w') : RVPost s w (.returned (.tuple #[.slice none 0 0, .bool false])) w' := by
  unfold RVPost rvOut
  rw [h]
  exact ⟨_, rfl, World.ownsRow_nil _ _ _ _, hb⟩
theorem rvPost_yes {s : ByteArray} {w w' : World} {xs : List Int} {v : Value} (h : rdVars s.data.toList = some xs) (ho : w'.ownsRow w.heap.size 2 1 v xs.length (ints xs)) (hb : Below w.heap.size w w') : RVPost s w (.returned (.tuple #[v, .bool true])) w' := by
  unfold RVPost rvOut
  rw [h]
  exact ⟨_, rfl, ho, hb⟩
theorem rvOut_rng (s : ByteArray) : ∀ x ∈ (rvOut s).2, Rng x := by
  unfold rvOut rdVars
  intro x hx
  split at hx
  · cases hx
  · rename_i xs hxs
    split at hxs
    · cases hxs
    · split at hxs
      · cases hxs
      · split at hxs
        · cases hxs
        · rename_i h
          split at hxs
          · cases hxs
            exact rdList_rng _ _ h x hx
          · cases hxs
theorem rvOut_len (s : ByteArray) : (rvOut s).2.length ≤ 200 := by
  unfold rvOut rdVars
  split
  · simp
  · rename_i xs hxs
    split at hxs
    · cases hxs
    · split at hxs
      · cases hxs
      · split at hxs
        · cases hxs
        · rename_i h
          split at hxs
          · cases hxs
            have := rdList_len _ _ h
            show xs.length ≤ 200
            omega
          · cases hxs
theorem extract_drop (s : ByteArray) (b : Nat) : (s.extract b s.size).data.toList = s.data.toList.drop b := by
  have h : List.take (s.size - b) (List.drop b s.data.toList) = List.drop b s.data.toList := List.take_of_length_le (by rw [List.length_drop]; exact Nat.le_refl _)
  simpa [ByteArray.extract, ByteArray.copySlice] using h
theorem rdVal_none {s : ByteArray} (h : VM.readV s.data.toList = none) : rdVal s = .tuple #[.int .i64 0, .int .i64 0, .bool false] := by unfold rdVal; rw [h]
theorem rdVal_some {s : ByteArray} {u k : Nat} (h : VM.readV s.data.toList = some (u, k)) : rdVal s = .tuple #[.int .i64 (wrap64 (u : Int)), .int .i64 (k : Int), .bool true] := by unfold rdVal; rw [h]
theorem rdVars_0 {l : List UInt8} (h : VM.readV l = none) : rdVars l = none := by unfold rdVars; rw [h]
theorem rdVars_1 {l : List UInt8} {u a : Nat} (h : VM.readV l = some (u, a)) (hu : 200 < u) : rdVars l = none := by unfold rdVars; rw [h]; simp [hu]
theorem rdVars_2 {l : List UInt8} {u a : Nat} (h : VM.readV l = some (u, a)) (h2 : rdList l u a = none) : rdVars l = none := by
  unfold rdVars; rw [h]; simp [h2]
theorem rdVars_3 {l : List UInt8} {u a b : Nat} {xs : List Int} (h : VM.readV l = some (u, a)) (h2 : rdList l u a = some (xs, b)) (hb : ¬ b = l.length) : rdVars l = none := by
  unfold rdVars; rw [h]; simp [h2, hb]
theorem rdVars_4 {l : List UInt8} {u a b : Nat} {xs : List Int} (h : VM.readV l = some (u, a)) (hu : ¬ 200 < u) (h2 : rdList l u a = some (xs, b)) (hb : b = l.length) : rdVars l = some xs := by
  unfold rdVars; rw [h]; simp [h2, hb, hu]

set_option maxRecDepth 100000 in
set_option maxHeartbeats 2000000 in
theorem specReadVars_any (s : ByteArray) (w : World) (hs : s.size ≤ maxLen) :
    Calls Try.prog 19 #[.string s] w (RVPost s w) := by
  obtain ⟨i0, hi, hz0, hz1, hz2⟩ := info_parts u_info_i64
  have hrd := Lib.hid (fun t W ht => specReadVar_any t W ht)
  unfold RdVPost at hrd
  have Hs := Lib.hid hs
  unfold maxLen at hs
  cases hv : VM.readV s.data.toList with
  | none =>
    have H := Lib.hid (rdVars_0 hv)
    have hr := Lib.hid (hrd.out s w Hs.out)
    rw [rdVal_none hv] at hr
    clear hv
    go_enter Try.func19, Try.ntmps19
    go_wp2_with fail
    refine (hr.out).mono ?_
    rintro e w1 ⟨rfl, hb1⟩
    go_wp2_with fail
    go_ret2
    exact rvPost_no H.out hb1
  | some p =>
    obtain ⟨u, a⟩ := p
    have hr := Lib.hid (hrd.out s w Hs.out)
    rw [rdVal_some hv] at hr
    have hu64 := (VM.readV_spec hv).1
    have hal : a ≤ s.size := by simpa using (VM.readV_spec hv).2.2.2.2
    by_cases hu : 200 < u
    · have H := Lib.hid (rdVars_1 hv hu)
      have hin := Lib.hid (fun W => v_l1In_any (wrap64 (u : Int)) 0 200 W)
      rw [show vIn (wrap64 (u : Int)) 0 200 = false from by simp only [vIn, decide_eq_false_iff_not]; unfold wrap64; omega] at hin
      clear hv hu64
      go_enter Try.func19, Try.ntmps19
      go_wp2_with fail
      refine (hr.out).mono ?_
      rintro e w1 ⟨rfl, hb1⟩
      go_wp2_with fail
      refine (hin.out _).mono ?_
      rintro e w2 ⟨rfl, rfl⟩
      go_wp2_with fail
      go_ret2
      exact rvPost_no H.out hb1
    · have hin := Lib.hid (fun W => v_l1In_any (u : Int) 0 200 W)
      rw [show vIn (u : Int) 0 200 = true from by simp only [vIn, decide_eq_true_eq]; omega] at hin
      rw [show wrap64 (u : Int) = (u : Int) from by unfold wrap64; omega] at hr
      have Hv := Lib.hid hv
      have hzg := Lib.hid (fun n W => specZag_any n W)
      clear hv hu64
      go_enter Try.func19, Try.ntmps19
      go_wp2_with fail
      refine (hr.out).mono ?_
      rintro e w1 ⟨rfl, hb1⟩
      go_wp2_with fail
      refine (hin.out _).mono ?_
      rintro e w2 ⟨rfl, rfl⟩
      go_wp2_with fail
      go_loopw [5, 7, 8] (fun p v i wr => ∃ (k b : Nat) (xs : List Int), k ≤ u ∧ i = .int .i64 k ∧ p = .int .i64 b ∧ b ≤ s.size ∧ rdList s.data.toList k a = some (xs, b) ∧
          wr.ownsRow w.heap.size 2 1 v k (ints xs) ∧ Below w.heap.size w wr)
        (fun _ _ i _ => u - (intOf i).toNat)
      case atStart =>
        refine ⟨0, a, [], Nat.zero_le _, rfl, rfl, hal, rfl, ?_, ?_⟩
        · have := World.ownsRow_made w1 (base := w.heap.size) (e := 2) (size := 1) #[] 0 hb1.size (by simp [maxLen]) rfl
          simpa [ints] using this
        · exact hb1.alloc hb1.size _
      case round =>
        clear hb1 hr hin
        obtain ⟨k, b, xs, hk, rfl, rfl, hbs, hrl, hown, hb⟩ := hrel
        have Hrl := Lib.hid hrl
        have hsz := hb.size
        clear hrl hal
        by_cases hlt : k < u
        · have hr2 := Lib.hid (hrd.out (s.extract b s.size) wr (by have := Hs.out; unfold maxLen at *; rw [ByteArray.size_extract]; omega))
          cases hv2 : VM.readV (s.data.toList.drop b) with
          | none =>
            have H := Lib.hid (rdVars_2 Hv.out (rdList_none (k + 1) a (by rw [rdList_next Hrl.out, hv2]) u hlt))
            rw [rdVal_none (by rw [extract_drop]; exact hv2)] at hr2
            clear hv2
            go_wp2_with fail
            refine (hr2.out).mono ?_
            rintro e w2 ⟨rfl, hb2⟩
            have hb3 := hb.trans (hb2.mono hsz)
            clear hb2 hb hown
            go_wp2_with fail
            go_ret2
            exact rvPost_no H.out hb3
          | some p2 =>
            obtain ⟨u2, m⟩ := p2
            have hsp := VM.readV_spec hv2
            have hm : b + m ≤ s.size := by
              have := hsp.2.2.2.2
              rw [List.length_drop] at this
              have h2 : s.data.toList.length = s.size := by simp
              omega
            have Hn := Lib.hid (show rdList s.data.toList (k + 1) a = some (xs ++ [zagF (wrap64 (u2 : Int))], b + m) from by rw [rdList_next Hrl.out, hv2])
            rw [rdVal_some (by rw [extract_drop]; exact hv2)] at hr2
            clear hv2 hsp
            go_wp2_with fail
            refine (hr2.out).mono ?_
            rintro e w2 ⟨rfl, hb2⟩
            have hb3 := hb.trans (hb2.mono hsz)
            have hown2 := u_own_below hown hb2
            have hsz2 := hb3.size
            clear hb2 hb hown
            go_wp2_with fail
            refine (hzg.out _ _).mono ?_
            rintro e w3 ⟨rfl, rfl⟩
            generalize hz : zagF (wrap64 (u2 : Int)) = z at *
            have Hz := Lib.hid hz
            clear hz
            go_wp2_with (at_builtin; refine wpList_append_own _ rfl _ _ 29 rfl w.heap.size 2 i0 (.int .i64 0) 1 8 Try.underlying29 hi hz0 hz1 hz2 rfl (by decide) _ _ _ rfl (hown2.alloc _) ⟨w2.heap.size, 0, none⟩ 1 1 [.int .i64 z] rfl rfl ?c1 ?c2 ?c3 ?c4 ?c5 ?_)
            case c1 => exact cell_one_new _ _ _
            case c2 => intro q hq; simp at hq; subst hq; rfl
            case c3 => unfold maxLen; omega
            case c4 => omega
            case c5 => simp; omega
            intro v' w4 hown' hgrow _
            have hb4 := u_below_append hb3 (Nat.le_refl _) hsz2 hown2 hgrow
            have hown5 : w4.ownsRow w.heap.size 2 1 v' (k + 1) (ints (xs ++ [z])) := by rw [ints_append]; exact hown'
            clear hown' hown2 hgrow hb3
            go_wp2_with fail
            go_roundw
            case rel => exact ⟨k + 1, b + m, xs ++ [z], by omega, by go_num, by go_num, hm, Hn.out, hown5, hb4⟩
            case measure => simp [intOf]; omega
        · obtain rfl : k = u := by omega
          have hll := rdList_len _ _ Hrl.out
          by_cases hbe : b = s.size
          · have H := Lib.hid (rdVars_4 Hv.out hu Hrl.out (by simpa using hbe))
            have hne : ((b : Int) != (s.size : Int)) = false := by simp; omega
            rw [← hll] at hown
            clear hll
            go_wp2_with fail
            go_ret2
            exact rvPost_yes H.out hown hb
          · have H := Lib.hid (rdVars_3 Hv.out Hrl.out (by simpa using hbe))
            have hne : ((b : Int) != (s.size : Int)) = true := by simp; omega
            clear hll
            go_wp2_with fail
            go_ret2
            exact rvPost_no H.out hb
end Go.Proofs.Ytpnfkmhhilnglab
