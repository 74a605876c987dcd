/- Walks: drawn quantiles, counts and ranks. -/
import Derived.Test.YtljmiodkmddllaaBr
import Derived.Test.YtljmiodkmddllaaBl
set_option linter.unusedVariables false
set_option linter.unusedSimpArgs false
namespace Go.Proofs.Ytljmiodkmddllaa
open Go.RowKit

def qList (x : Int) : List Int := [0, 250, 500, 900, 990, 1000, x]
theorem qList_rng {x : Int} (h : Rng x) (j : Nat) : Rng ((qList x).getD j 0) := by
  match j with
  | 0 => show Rng 0; exact ⟨by omega, by omega⟩
  | 1 => show Rng 250; exact ⟨by omega, by omega⟩
  | 2 => show Rng 500; exact ⟨by omega, by omega⟩
  | 3 => show Rng 900; exact ⟨by omega, by omega⟩
  | 4 => show Rng 990; exact ⟨by omega, by omega⟩
  | 5 => show Rng 1000; exact ⟨by omega, by omega⟩
  | 6 => exact h
  | k + 7 => exact ⟨by simp [qList], by simp [qList]⟩
theorem qList_cell (x : Int) (W : World) (p : Nat) (hp : p < 7) : (W.alloc (.cells #[.int .i64 0, .int .i64 250, .int .i64 500, .int .i64 900, .int .i64 990, .int .i64 1000, .int .i64 x] 2)).cell? ⟨W.heap.size, p, none⟩ = some (.int .i64 ((qList x).getD p 0)) := by
  match p, hp with
  | 0, _ => simp [qList]
  | 1, _ => simp [qList]
  | 2, _ => simp [qList]
  | 3, _ => simp [qList]
  | 4, _ => simp [qList]
  | 5, _ => simp [qList]
  | 6, _ => simp [qList]

set_option maxRecDepth 100000 in
set_option maxHeartbeats 4000000 in
theorem DrawQuantile_any (A : Option Addr) (n c : Nat) (w : World) (h : CodeAt w A n c) :
    Calls Try.prog 36 #[.slice A n c] w fun e w' => ∃ v a m, e = .returned (.tuple #[v, .int .i64 m]) ∧ w'.ownsRow w.heap.size 47 2 v a.length (prs a) ∧ a.length ≤ 9 ∧ (∀ p ∈ a, Rng p.1 ∧ Rng p.2) ∧ Rng m ∧ Below w.heap.size w w' := by
  have H := Lib.hid h
  clear h
  have HSM := Lib.hid (fun B g W h => small_any 9 (by omega) (by omega) B g W h)
  have HOF := Lib.hid (fun B g W h => off_any B g 0 1000 W h (by omega) (by omega) (by omega) (by omega))
  have HBE := Lib.hid (fun B g W h => below_any B g 7 W h (by omega) (by omega))
  go_enter Try.func36, Try.ntmps36
  go_wp2_with fail
  refine (open_any A n c _ H.out).mono ?_
  rintro e w1 ⟨rfl, hrd1, hb1⟩
  have Hrd1 := Lib.hid hrd1
  have Hb1 := Lib.hid hb1
  have hg1 := hrd1.lt
  clear hrd1 hb1
  go_wp2_with fail
  refine (HSM.out _ _ _ Hrd1.out).mono ?_
  rintro e w2 ⟨v, a, rfl, ht, hal, har⟩
  have Ht := Lib.hid ht
  have Har := Lib.hid har
  have HR2 := Lib.hid ht.rd.drew
  have HG2 := Lib.hid (show w1.grownBy w2.drew (some w.heap.size) from ⟨ht.gr.os, ht.gr.tape, ht.gr.output, ht.gr.size, ht.gr.block⟩)
  have HO2 := Lib.hid (show w2.drew.ownsRow w1.heap.size 47 2 v a.length (prs a) from ht.own)
  clear ht har Ht
  have hz1 := Hb1.out.size
  have hz2 := HG2.out.size
  go_wp2_with fail
  go_region_law (first
    | (go_simp
       go_at_call 60
       refine (HOF.out _ _ _ HR2.out).mono ?_
       rintro e w3 ⟨_, rfl, ⟨x, rfl, hx0, hx1⟩, hrd3, hgr3⟩
       have HR3 := Lib.hid hrd3
       have HG3 := Lib.hid hgr3
       have HX := Lib.hid (show Rng x from ⟨hx0, hx1⟩)
       clear hrd3 hgr3 hx0 hx1)
    | (go_simp
       go_at_call 61
       refine (HBE.out _ _ _ (by first | exact HR3.out | exact HR3.out.alloc _)).mono ?_
       rintro e w4 ⟨_, rfl, ⟨y, rfl, hy0, hy1⟩, hrd4, hgr4⟩
       obtain ⟨p, rfl⟩ : ∃ p : Nat, y = (p : Int) := ⟨y.toNat, by omega⟩
       have hp7 : p < 7 := by omega
       have hp8 : (p : Int) < 7 := by omega
       have hg3 := HG3.out.size
       have hzz : w2.heap.size ≤ w3.heap.size := hg3
       first
       | (have hq4 : w4.cell? ⟨w3.heap.size, p, none⟩ = some (.int .i64 ((qList x).getD p 0)) := by
            have h0 := qList_cell x w3 p hp7
            have hbk := hgr4.block w3.heap.size (by simp) (fun e => by injection e with e; omega)
            simp only [World.cell?, hbk] at h0 ⊢
            exact h0
          have HE4 := Lib.hid (show w2.drew.grownBy w4 (some w.heap.size) from HG3.out.trans ((World.grownBy_alloc w3 _ _).trans hgr4)))
       | (have hq4 := qList_cell x w4 p hp7
          have HE4 := Lib.hid (show w2.drew.grownBy w4 (some w.heap.size) from HG3.out.trans hgr4))
       have HM := Lib.hid (qList_rng HX.out p)
       generalize (qList x).getD p 0 = m at hq4 HM
       clear hrd4 hgr4))
  all_goals
    go_simp
    go_wp2_with fail
    go_ret2
    have own4 := p_base (HO2.out.kept HE4.out (by
      by_cases hx : v.ownBlock = none
      · exact .inl hx
      · right; intro he; have := (HO2.out.lt _ he).1; omega)) hz1
    have b4 := (Hb1.out.grown HG2.out hz1 (fun k hk => by injection hk with hk; omega)).grown HE4.out (Nat.le_trans hz1 HG2.out.size) (fun k hk => by injection hk with hk; omega)
    first
    | exact ⟨v, a, m, rfl, own4, hal, Har.out, HM.out, b4⟩
    | exact ⟨v, a, m, rfl, own4.alloc _, hal, Har.out, HM.out, b4.alloc b4.size _⟩
end Go.Proofs.Ytljmiodkmddllaa
