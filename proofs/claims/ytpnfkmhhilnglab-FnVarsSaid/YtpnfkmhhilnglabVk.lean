/- Walks: reading a list of numbers: the program. -/
import Derived.Test.YtpnfkmhhilnglabVj
namespace Go.Proofs.Ytpnfkmhhilnglab
open Go.RowKit

set_option maxRecDepth 100000 in
set_option maxHeartbeats 1000000 in
theorem implReadVars_neg (s : ByteArray) (z a : Int) (w : World) (hz : z < 0)
    (hr : Calls Try.prog 14 #[.string s] w fun e w' => e = .returned (.tuple #[.int .i64 z, .int .i64 a, .bool true]) ∧ Below w.heap.size w w') :
    Calls Try.prog 18 #[.string s] w fun e w' => e = .returned (.tuple #[.slice none 0 0, .bool false]) ∧ Below w.heap.size w w' := by
  have Hr := Lib.hid hr
  have hd : decide (z < 0) = true := by simpa using hz
  clear hr
  go_enter Try.func18, Try.ntmps18
  go_wp2_with fail
  refine (Hr.out).mono ?_
  rintro e w1 ⟨rfl, hb1⟩
  go_wp2_with fail
  go_ret2
  exact ⟨rfl, hb1⟩

set_option maxRecDepth 100000 in
set_option maxHeartbeats 1000000 in
theorem implReadVars_big (s : ByteArray) (z a : Int) (w : World) (hz0 : 0 ≤ z) (hz : 200 < z)
    (hr : Calls Try.prog 14 #[.string s] w fun e w' => e = .returned (.tuple #[.int .i64 z, .int .i64 a, .bool true]) ∧ Below w.heap.size w w') :
    Calls Try.prog 18 #[.string s] w fun e w' => e = .returned (.tuple #[.slice none 0 0, .bool false]) ∧ Below w.heap.size w w' := by
  have Hr := Lib.hid hr
  have hd0 : decide (z < 0) = false := by simpa using hz0
  have hd : decide (200 < z) = true := by simpa using hz
  clear hr
  go_enter Try.func18, Try.ntmps18
  go_wp2_with fail
  refine (Hr.out).mono ?_
  rintro e w1 ⟨rfl, hb1⟩
  go_wp2_with fail
  go_ret2
  exact ⟨rfl, hb1⟩

set_option maxRecDepth 100000 in
set_option maxHeartbeats 2000000 in
theorem implReadVars_any (s : ByteArray) (w : World) (hs : s.size ≤ maxLen) :
    Calls Try.prog 18 #[.string s] w (RVPost s w) := by
  obtain ⟨i0, hi, hz0, hz1, hz2⟩ := info_parts u_info_i64
  have hrd := Lib.hid (fun t W ht => implReadVar_any t W ht)
  unfold RdVPost at hrd
  have Hs := Lib.hid hs
  unfold maxLen at hs
  cases hv : VM.readV s.data.toList with
  | none =>
    have H := Lib.hid (rdVars_0 hv)
    have hr := Lib.hid (hrd.out s w Hs.out)
    rw [rdVal_none hv] at hr
    clear hv
    go_enter Try.func18, Try.ntmps18
    go_wp2_with fail
    refine (hr.out).mono ?_
    rintro e w1 ⟨rfl, hb1⟩
    go_wp2_with fail
    go_ret2
    exact rvPost_no H.out hb1
  | some p =>
    obtain ⟨u, a⟩ := p
    have hr := Lib.hid (hrd.out s w Hs.out)
    rw [rdVal_some hv] at hr
    have hu64 := (VM.readV_spec hv).1
    have hal : a ≤ s.size := by simpa using (VM.readV_spec hv).2.2.2.2
    by_cases hu : 200 < u
    · have H := Lib.hid (rdVars_1 hv hu)
      have hz : wrap64 (u : Int) < 0 ∨ (0 ≤ wrap64 (u : Int) ∧ 200 < wrap64 (u : Int)) := by unfold wrap64; omega
      generalize wrap64 (u : Int) = z at *
      clear hv hu64
      rcases hz with hz | ⟨hz0, hz⟩
      · exact (implReadVars_neg s z a w hz hr.out).mono fun e w' ⟨he, hb⟩ => by subst he; exact rvPost_no H.out hb
      · exact (implReadVars_big s z a w hz0 hz hr.out).mono fun e w' ⟨he, hb⟩ => by subst he; exact rvPost_no H.out hb
    · rw [show wrap64 (u : Int) = (u : Int) from by unfold wrap64; omega] at hr
      have Hv := Lib.hid hv
      have hzg := Lib.hid (fun n W => implZag_any n W)
      clear hv hu64
      go_enter Try.func18, Try.ntmps18
      go_wp2_with fail
      refine (hr.out).mono ?_
      rintro e w1 ⟨rfl, hb1⟩
      go_wp2_with fail
      go_loopw [5, 7, 28] (fun p v i wr => ∃ (k b : Nat) (xs : List Int), k ≤ u ∧ i = .int .i64 k ∧ p = .int .i64 b ∧ b ≤ s.size ∧ rdList s.data.toList k a = some (xs, b) ∧
          wr.ownsRow w.heap.size 2 1 v k (ints xs) ∧ Below w.heap.size w wr)
        (fun _ _ i _ => u - (intOf i).toNat)
      case atStart =>
        refine ⟨0, a, [], Nat.zero_le _, rfl, rfl, hal, rfl, ?_, ?_⟩
        · exact World.ownsRow_nil _ _ _ _
        · exact hb1
      case round =>
        clear hb1 hr
        obtain ⟨k, b, xs, hk, rfl, rfl, hbs, hrl, hown, hb⟩ := hrel
        have Hrl := Lib.hid hrl
        have hsz := hb.size
        clear hrl hal
        by_cases hlt : k < u
        · have hr2 := Lib.hid (hrd.out (s.extract b s.size) wr (by have := Hs.out; unfold maxLen at *; rw [ByteArray.size_extract]; omega))
          cases hv2 : VM.readV (s.data.toList.drop b) with
          | none =>
            have H := Lib.hid (rdVars_2 Hv.out (rdList_none (k + 1) a (by rw [rdList_next Hrl.out, hv2]) u hlt))
            rw [rdVal_none (by rw [extract_drop]; exact hv2)] at hr2
            clear hv2
            go_wp2_with fail
            refine (hr2.out).mono ?_
            rintro e w2 ⟨rfl, hb2⟩
            have hb3 := hb.trans (hb2.mono hsz)
            clear hb2 hb hown
            go_wp2_with fail
            go_ret2
            exact rvPost_no H.out hb3
          | some p2 =>
            obtain ⟨u2, m⟩ := p2
            have hsp := VM.readV_spec hv2
            have hm : b + m ≤ s.size := by
              have := hsp.2.2.2.2
              rw [List.length_drop] at this
              have h2 : s.data.toList.length = s.size := by simp
              omega
            have Hn := Lib.hid (show rdList s.data.toList (k + 1) a = some (xs ++ [zagF (wrap64 (u2 : Int))], b + m) from by rw [rdList_next Hrl.out, hv2])
            rw [rdVal_some (by rw [extract_drop]; exact hv2)] at hr2
            clear hv2 hsp
            go_wp2_with fail
            refine (hr2.out).mono ?_
            rintro e w2 ⟨rfl, hb2⟩
            have hb3 := hb.trans (hb2.mono hsz)
            have hown2 := u_own_below hown hb2
            have hsz2 := hb3.size
            clear hb2 hb hown
            go_wp2_with fail
            refine (hzg.out _ _).mono ?_
            rintro e w3 ⟨rfl, rfl⟩
            generalize hz : zagF (wrap64 (u2 : Int)) = z at *
            have Hz := Lib.hid hz
            clear hz
            go_wp2_with (at_builtin; refine wpList_append_own _ rfl _ _ 29 rfl w.heap.size 2 i0 (.int .i64 0) 1 8 Try.underlying29 hi hz0 hz1 hz2 rfl (by decide) _ _ _ rfl (hown2.alloc _) ⟨w2.heap.size, 0, none⟩ 1 1 [.int .i64 z] rfl rfl ?c1 ?c2 ?c3 ?c4 ?c5 ?_)
            case c1 => exact cell_one_new _ _ _
            case c2 => intro q hq; simp at hq; subst hq; rfl
            case c3 => unfold maxLen; omega
            case c4 => omega
            case c5 => simp; omega
            intro v' w4 hown' hgrow _
            have hb4 := u_below_append hb3 (Nat.le_refl _) hsz2 hown2 hgrow
            have hown5 : w4.ownsRow w.heap.size 2 1 v' (k + 1) (ints (xs ++ [z])) := by rw [ints_append]; exact hown'
            clear hown' hown2 hgrow hb3
            go_wp2_with fail
            go_roundw
            case rel => exact ⟨k + 1, b + m, xs ++ [z], by omega, by go_num, by go_num, hm, Hn.out, hown5, hb4⟩
            case measure => simp [intOf]; omega
        · obtain rfl : k = u := by omega
          have hll := rdList_len _ _ Hrl.out
          by_cases hbe : b = s.size
          · have H := Lib.hid (rdVars_4 Hv.out hu Hrl.out (by simpa using hbe))
            have hne : ((b : Int) != (s.size : Int)) = false := by simp; omega
            rw [← hll] at hown
            clear hll
            go_wp2_with fail
            go_ret2
            exact rvPost_yes H.out hown hb
          · have H := Lib.hid (rdVars_3 Hv.out Hrl.out (by simpa using hbe))
            have hne : ((b : Int) != (s.size : Int)) = true := by simp; omega
            clear hll
            go_wp2_with fail
            go_ret2
            exact rvPost_no H.out hb
end Go.Proofs.Ytpnfkmhhilnglab
