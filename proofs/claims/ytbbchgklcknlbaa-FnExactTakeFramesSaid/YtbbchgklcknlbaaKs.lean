/- Walk: the law FnExactTakeFrames. -/
import Derived.Test.YtbbchgklcknlbaaKr
set_option linter.unusedVariables false
set_option linter.unusedSimpArgs false
namespace Go.Proofs.Ytbbchgklcknlbaa
open Go.RowKit
theorem own_row {w w' : World} {B g : Nat} {e : TypeId} {size : Nat} {v u : Value} {n : Nat} {xs : List Value} (h : w.ownsRow B e size v n xs) (k : w.grownBy w' u.ownBlock) (hne : ∀ g, v.ownBlock = some g → u.ownBlock = some g → False) : w'.ownsRow B e size v n xs := by
  refine ⟨h.1, ?_⟩
  rcases h.2 with h2 | ⟨b, cap, cur, rfl, hb, hh, rest⟩
  · exact .inl h2
  · exact .inr ⟨b, cap, cur, rfl, hb, (k.block b (Array.getElem?_eq_some_iff.1 hh).1 (fun he => hne b rfl he.symm)).trans hh, rest⟩
set_option maxRecDepth 100000 in
set_option maxHeartbeats 1000000 in
theorem walkFnExactTakeFrames (s : ByteArray) (w : World) (hs : s.size ≤ maxLen) :
    Calls Try.prog 3 #[.string s] w fun e w' => e = .returned (.bool true) ∧ Below w.heap.size w w' := by
  unfold maxLen at hs
  by_cases h : 1048576 < s.size
  · have hi : (1048576 : Int) < s.size := by omega
    go_enter Try.func3, Try.ntmps3
    go_wp2_with fail
    go_ret
    exact ⟨rfl, Below.refl _ _⟩
  · have hi : ¬ (1048576 : Int) < s.size := by omega
    have hsp := Lib.hid (fun W => specTakeFrames_any s W (by omega))
    have him := Lib.hid (fun W => implTakeFrames_any s W (by omega))
    unfold TkPost at hsp him
    go_enter Try.func3, Try.ntmps3
    go_wp2_with fail
    refine (hsp.out _).mono ?_
    rintro e w1 ⟨k, v1, rfl, hF, hN, ho1, hb1⟩
    have hk := Fr_size k hF
    have hk8 : k ≤ 131072 := by omega
    have HU := Lib.hid (fun m h1 h2 => Fr_uniq (s := s) (k := m) h1 h2 hF hN)
    clear hF hN hk
    have HI : Hid (∀ W, Calls Try.prog 16 #[.string s] W fun e W' => ∃ v, e = .returned (.tuple #[v, .int .i64 (fA s k : Int)]) ∧ W'.ownsRow W.heap.size 9 1 v k (strv (fL s k)) ∧ Below W.heap.size W W') := Lib.hid (fun W => (him.out W).mono fun e W' hp => by
      obtain ⟨m, v, he, h1, h2, h3, h4⟩ := hp
      obtain rfl := HU.out m h1 h2
      exact ⟨v, he, h3, h4⟩)
    have hL := fL_length s k
    generalize fA s k = a at *
    generalize fL s k = L at *
    subst hL
    clear HU him hsp
    have HO1 := Lib.hid ho1
    have HB1 := Lib.hid hb1
    clear ho1 hb1
    go_wp2_with fail
    refine (HI.out _).mono ?_
    rintro e w2 ⟨v2, rfl, ho2, hb2⟩
    have HO2 := Lib.hid ho2
    have HB2 := Lib.hid hb2
    have HP1 := Lib.hid (u_own_below HO1.out hb2)
    have hz2 := hb2.size
    clear ho2 hb2
    go_wp2_with fail
    refine (eqStrS_same _ _ v2 v1 L w2 (by unfold maxLen; omega) HO2.out HP1.out).mono ?_
    rintro e w3 ⟨rfl, hb3⟩
    have HO3 := Lib.hid (u_own_below HO2.out hb3)
    have HP3 := Lib.hid (u_own_below HP1.out hb3)
    have HB3 := Lib.hid (HB2.out.trans (hb3.mono hz2))
    have hz3 := hb3.size
    clear hb3 HO2 HP1 HB2
    go_wp2_with fail
    refine (markStrS_any _ v2 1 L w3 (by omega) (by omega) HO3.out).mono ?_
    rintro e w4 ⟨rfl, ho4, hg4⟩
    have HO4 := Lib.hid ho4
    have HP4 := Lib.hid (own_row (g := 0) HP3.out hg4 (fun g h1 h2 => by have q1 := (HO1.out.lt g h1).2; have q2 := (ho4.lt g h2).1; omega))
    have HB4 := Lib.hid (HB3.out.grown hg4 (by omega) (fun g e => (ho4.lt g e).1))
    have hz4 := hg4.size
    clear ho4 hg4 HB3 HP3 HO3
    go_wp2_with fail
    refine (heldStrS_any _ v2 L.length 1 w4 (by omega) (by omega) HO4.out).mono ?_
    rintro e w5 ⟨rfl, hb5⟩
    have HO5 := Lib.hid (u_own_below HO4.out hb5)
    have HP5 := Lib.hid (u_own_below HP4.out hb5)
    have HB5 := Lib.hid (HB4.out.trans (hb5.mono (by omega)))
    have hz5 := hb5.size
    clear hb5 HO4 HP4 HB4
    go_wp2_with fail
    refine (HI.out _).mono ?_
    rintro e w6 ⟨v6, rfl, ho6, hb6⟩
    have HO6 := Lib.hid (u_own_below HO5.out hb6)
    have HP6 := Lib.hid (u_own_below HP5.out hb6)
    have HQ6 := Lib.hid ho6
    have HB6 := Lib.hid (HB5.out.trans (hb6.mono (by omega)))
    have hz6 := hb6.size
    clear hb6 ho6 HO5 HP5 HB5
    go_wp2_with fail
    refine (eqStrS_same _ _ v6 v1 L w6 (by unfold maxLen; omega) HQ6.out HP6.out).mono ?_
    rintro e w7 ⟨rfl, hb7⟩
    have HO7 := Lib.hid (u_own_below HO6.out hb7)
    have HB7 := Lib.hid (HB6.out.trans (hb7.mono (by omega)))
    have hz7 := hb7.size
    clear hb7 HO6 HQ6 HP6 HB6
    go_wp2_with fail
    refine (heldStrS_any _ v2 L.length 1 w7 (by omega) (by omega) HO7.out).mono ?_
    rintro e w8 ⟨rfl, hb8⟩
    have HB8 := Lib.hid (HB1.out.trans ((HB7.out.trans (hb8.mono (by omega))).mono HB1.out.size))
    clear hb8 HO7 HB7
    go_wp2_with fail
    go_ret
    exact ⟨rfl, HB8.out⟩
end Go.Proofs.Ytbbchgklcknlbaa
