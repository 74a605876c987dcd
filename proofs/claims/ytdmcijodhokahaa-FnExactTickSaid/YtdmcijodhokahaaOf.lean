/- Walks: cascades: the range over the levels. -/
import Derived.RangeFuncBox
import Derived.RangeFuncLeaves
import Derived.RangeFuncNested
import Derived.Shelf.Abstract
import Derived.OwnWalkIn
import Derived.TacticsInMore
import Derived.LoopNIn
import Derived.LoopIn
import Derived.Test.YtdmcijodhokahaaOe
set_option linter.unusedVariables false
set_option linter.unusedSimpArgs false
namespace Go.Proofs.Ytdmcijodhokahaa
open Go.RowKit Go.Shelf

attribute [local go_sem] Oper.semAt_some

/-- a level at a place -/
abbrev Lp := (Nat × Nat) × Lv
/-- the level p.2 lies at the place p.1, in the blocks below n₀ -/
def LvHere (W : World) (n₀ : Nat) (p : Lp) : Prop :=
  p.1.1 < n₀ ∧ W.cell? ⟨p.1.1, p.1.2, none⟩ = some (.int .i64 p.2.1) ∧ W.cell? ⟨p.1.1, p.1.2 + 1, none⟩ = some (.int .i64 p.2.2.1) ∧ ∃ r, W.cell? ⟨p.1.1, p.1.2 + 2, none⟩ = some r ∧ RL W n₀ r p.2.2.2
theorem LvHere.below {W W' : World} {n₀ : Nat} {p : Lp} (h : LvHere W n₀ p) (hb : Below n₀ W W') : LvHere W' n₀ p := by
  obtain ⟨h1, h2, h3, r, h4, h5⟩ := h
  exact ⟨h1, (hb.cell (p := ⟨p.1.1, p.1.2, none⟩) h1).trans h2, (hb.cell (p := ⟨p.1.1, p.1.2 + 1, none⟩) h1).trans h3, r, (hb.cell (p := ⟨p.1.1, p.1.2 + 2, none⟩) h1).trans h4, h5.below hb⟩
abbrev LX (W : World) (n₀ : Nat) := {p : Lp // LvHere W n₀ p}
/-- what a round keeps: what lies below n₀, and the block Bn -/
def KpL (n₀ Bn : Nat) (W W' : World) : Prop := Below n₀ W W' ∧ W'.heap[Bn]? = W.heap[Bn]?
theorem KpL.trans {n₀ Bn : Nat} {A B C : World} (h : KpL n₀ Bn A B) (k : KpL n₀ Bn B C) : KpL n₀ Bn A C := ⟨h.1.trans k.1, k.2.trans h.2⟩
def lpAt (b off : Nat) (ls : List Lv) (j : Nat) : Lp := ((b, off + j * 3), ls.getD j zLv)
/-- a variable's box of several cells -/
def BoxN (W : World) (B : Nat) (cs : Array Value) (t : TypeId) : Prop := W.heap[B]? = some (.cells cs t (0, 0))
theorem BoxN.lt {W : World} {B : Nat} {cs : Array Value} {t : TypeId} (h : BoxN W B cs t) : B < W.heap.size := (Array.getElem?_eq_some_iff.1 h).1
theorem BoxN.own {X Y : World} {row : Option Nat} {B : Nat} {cs : Array Value} {t : TypeId} (h : BoxN X B cs t) (hg : X.grownBy Y row) (hr : ∀ r, row = some r → ∃ o : Obj, X.heap[r]? = some o ∧ o.isCells = false) : BoxN Y B cs t :=
  (hg.block B h.lt (fun e => by obtain ⟨o, ho, hc⟩ := hr B e.symm; rw [h] at ho; cases ho; cases hc)).trans h
theorem BoxN.below {X Y : World} {B : Nat} {cs : Array Value} {t : TypeId} (h : BoxN X B cs t) (hb : Below X.heap.size X Y) : BoxN Y B cs t := (hb.block B h.lt).trans h
theorem BoxN.cell {W : World} {B i : Nat} {cs : Array Value} {t : TypeId} {v : Value} (h : BoxN W B cs t) (hv : cs[i]? = some v) : W.cell? ⟨B, i, none⟩ = some v := by
  have hh : W.heap[B]? = some (.cells cs t (0, 0)) := h
  simp [World.cell?, hh, hv]
def lstW (ps : List Lv) : Int := match ps.getLast? with | none => 1 | some x => x.1
def lstK (k : Int) (ps : List Lv) : Int := match ps.getLast? with | none => k | some x => x.2.1
theorem lvsB_snoc (nw : Int) : ∀ (ps : List Lv) (w k : Int) (x : Lv), lvsB nw w k (ps ++ [x]) = (lvsB nw w k ps && lvB nw (match ps.getLast? with | none => w | some y => y.1) (match ps.getLast? with | none => k | some y => y.2.1) x)
  | [], w, k, x => by simp [lvsB]
  | [y], w, k, x => by simp [lvsB]
  | y :: z :: ps, w, k, x => by
    have ih := lvsB_snoc nw (z :: ps) y.1 y.2.1 x
    show (lvB nw w k y && lvsB nw y.1 y.2.1 ((z :: ps) ++ [x])) = _
    rw [ih]
    show _ = (lvB nw w k y && lvsB nw y.1 y.2.1 (z :: ps) && _)
    rw [Bool.and_assoc, List.getLast?_cons_cons]
    cases hq : (z :: ps).getLast? with
    | none => simp at hq
    | some q => rfl
theorem lvsB_app (nw : Int) : ∀ (ps qs : List Lv) (w k : Int), lvsB nw w k ps = false → lvsB nw w k (ps ++ qs) = false
  | [], qs, w, k, h => by simp [lvsB] at h
  | y :: ps, qs, w, k, h => by
    show (lvB nw w k y && lvsB nw y.1 y.2.1 (ps ++ qs)) = false
    cases hy : lvB nw w k y with
    | false => rfl
    | true =>
      have h2 : lvsB nw y.1 y.2.1 ps = false := by
        have h3 : (lvB nw w k y && lvsB nw y.1 y.2.1 ps) = false := h
        rw [hy] at h3; simpa using h3
      rw [lvsB_app nw ps qs y.1 y.2.1 h2]; rfl
theorem heap_cell {W W' : World} {Bn : Nat} {i : Nat} (h : W'.heap[Bn]? = W.heap[Bn]?) : W'.cell? ⟨Bn, i, none⟩ = W.cell? ⟨Bn, i, none⟩ := by
  unfold World.cell?
  rw [h]

set_option maxRecDepth 100000 in
set_option maxHeartbeats 4000000 in
theorem levels1_in (n : Nat) (hn : 1 ≤ n) (l Bn n₀ b off cl : Nat) (Al : Option Addr) (W0 : World) (ls : List Lv) (hA : 0 < ls.length → Al = some ⟨b, off, none⟩) (hll : ls.length ≤ 1048576) (hls : ∀ j, j < ls.length → LvHere W0 n₀ (lpAt b off ls j)) (J Jx : List (LX W0 n₀) → World → Prop)
    (hY : ∀ pre (x : LX W0 n₀) W, J pre W → pre.length < ls.length → YieldAt Fence.wide (n - 1) Try.prog l #[.pointer (some ⟨x.1.1.1, x.1.1.2, none⟩)] W fun e W' =>
      (e = .returned (.bool true) ∧ J (pre ++ [x]) W' ∧ KpL n₀ Bn W W') ∨ (e = .returned (.bool false) ∧ Jx (pre ++ [x]) W'))
    (W : World) (hBn : W.cell? ⟨Bn, 3, none⟩ = some (.slice Al ls.length cl)) (h0 : J [] W) :
    CallsIn Fence.wide n Try.prog 114 #[.func (.yield l) #[] #[], .pointer (some ⟨Bn, 0, none⟩)] W fun e W' => (∃ v, e = .returned v) ∧
      ((∃ ys, ys.map Subtype.val = (List.range ls.length).map (lpAt b off ls) ∧ J ys W') ∨ (∃ pre, (∃ k, k ≤ ls.length ∧ pre.map Subtype.val = (List.range k).map (lpAt b off ls)) ∧ Jx pre W')) := by
  have HLS := Lib.hid hls
  have HY := Lib.hid hY
  clear hls hY
  refine callsIn_of_wp Try.func114 rfl trivial ?_ rfl
  simp only [Try.ntmps114, List.size_toArray, List.length_cons, List.length_nil, Nat.reduceAdd, Nat.reduceSub, Array.replicate_succ, Array.replicate_zero, List.push_toArray, List.append_toArray, List.nil_append, List.cons_append]
  have HBn := Lib.hid hBn
  gi_wp2
  gi_loopw [7] (fun i wr => ∃ (k : Nat) (pre : List (LX W0 n₀)), k ≤ ls.length ∧ i = .int .i64 k ∧ Hid (pre.map Subtype.val = (List.range k).map (lpAt b off ls)) ∧ Hid (J pre wr) ∧ Hid (wr.cell? ⟨Bn, 3, none⟩ = some (.slice Al ls.length cl)))
    (fun i _ => ls.length - (intOf i).toNat)
  case atStart => exact ⟨0, [], Nat.zero_le _, rfl, Lib.hid rfl, Lib.hid h0, HBn⟩
  case round =>
    clear hBn
    obtain ⟨k, pre, hk, rfl, HP, HJk, HBk⟩ := hrel
    by_cases hlt : k < ls.length
    · have hb3 := HBk.out
      rw [hA (by omega)] at hb3
      have hpl : pre.length < ls.length := by
        have h := congrArg List.length HP.out
        rw [List.length_map, List.length_map, List.length_range] at h
        omega
      obtain ⟨fn, tmps, assign, body, hy, hR⟩ := HY.out pre ⟨lpAt b off ls k, HLS.out k hlt⟩ wr HJk.out hpl
      have HS : Hid ((pre ++ [(⟨lpAt b off ls k, HLS.out k hlt⟩ : LX W0 n₀)]).map Subtype.val = (List.range (k + 1)).map (lpAt b off ls)) := Lib.hid (by
        rw [List.map_append, HP.out, List.range_succ, List.map_append]; rfl)
      generalize pre ++ [(⟨lpAt b off ls k, HLS.out k hlt⟩ : LX W0 n₀)] = pre1 at *
      dsimp only [lpAt] at hy
      gi_wp2
      refine hR.mono ?_
      rintro e W3 (⟨rfl, hJ3, hk3⟩ | ⟨rfl, hJx3⟩)
      · gi_wp2
        go_roundw
        case rel => exact ⟨k + 1, pre1, by omega, by go_num, HS, Lib.hid hJ3, Lib.hid ((heap_cell hk3.2).trans HBk.out)⟩
        case measure => simp [intOf]; omega
      · gi_wp2
        refine bodyPost_ret (results_none rfl _ _ _) rfl ?_
        exact ⟨⟨_, rfl⟩, .inr ⟨pre1, ⟨k + 1, by omega, HS.out⟩, hJx3⟩⟩
    · obtain rfl : k = ls.length := by omega
      gi_wp2
      go_end0
      exact ⟨⟨_, rfl⟩, .inl ⟨pre, HP.out, HJk.out⟩⟩

set_option maxRecDepth 100000 in
set_option maxHeartbeats 1000000 in
theorem levels_any (nw kp : Int) (A B : Option Addr) (n m c d : Nat) (w : World) :
    Calls Try.prog 71 #[.agg #[.int .i64 nw, .int .i64 kp, .slice A n c, .slice B m d]] w fun e w' => e = .returned (.func (.func 114) #[] #[.pointer (some ⟨w.heap.size, 0, none⟩)]) ∧ w' = w.alloc (.cells #[.int .i64 nw, .int .i64 kp, .slice A n c, .slice B m d] 30) := by
  go_enter Try.func71, Try.ntmps71
  go_wp2_with fail
  go_ret
  exact ⟨rfl, rfl⟩
end Go.Proofs.Ytdmcijodhokahaa
