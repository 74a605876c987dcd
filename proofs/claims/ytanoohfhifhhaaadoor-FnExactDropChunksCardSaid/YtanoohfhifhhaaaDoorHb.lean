/- Walks: the program's reader of bits: how a method of it ends; ones. -/
import Derived.Test.YtanoohfhifhhaaaDoorHa
set_option linter.unusedVariables false
set_option linter.unusedSimpArgs false
namespace Go.Proofs.YtanoohfhifhhaaaDoor
open Go.RowKit

/-- how a method of the reader ends: with a value and the place behind it, or with a panic of the text's own -/
def RdOut (g : Nat) (ws : List Nat) (N : Nat) (r : Option (Value × Nat)) (w : World) (e : Ending) (w' : World) : Prop :=
  w.grownBy w' (some g) ∧ match r with
    | some (v, q) => e = .returned v ∧ RK w' g ws (N : Int) (q : Int)
    | none => Cry e
/-- words of the reader's block -/
structure RdW (ws : List Nat) (N : Nat) : Prop where
  l : ws.length = 313
  x : ∀ i, ws.getD i 0 < 2 ^ 64
  n : N ≤ 20000
  v : ∀ p k, k ≤ 64 → BM.getW ws p k < 2 ^ k
theorem rdW_of_words {ws : List Nat} {l : List Bool} (h : BM.Words ws l) : RdW ws l.length :=
  ⟨h.1, h.2.1, h.2.2.1, fun p k hk => by rw [BM.words_get h _ _ hk]; exact BM.ofBits_lt _ _⟩
def takeR (ws : List Nat) (N p n : Nat) : Option (Value × Nat) := if p + n ≤ N then some (.int .u64 (BM.getW ws p n : Int), p + n) else none
theorem take_any (g : Nat) (ws : List Nat) (N p n : Nat) (w : World) (h : RK w g ws (N : Int) (p : Int)) (hw : RdW ws N) (hn : n ≤ 64) (hp : p ≤ N) :
    Calls Tryd.prog 113 #[.pointer (some ⟨g, 0, none⟩), .int .i64 (n : Int)] w (RdOut g ws N (takeR ws N p n) w) := by
  unfold takeR
  by_cases hc : p + n ≤ N
  · rw [if_pos hc]
    exact (take_ok g ws N p n w h hw.l hw.x hw.n hn hc).mono fun _ _ q => ⟨q.2.2, q.1, q.2.1⟩
  · rw [if_neg hc]
    exact (take_no g ws N p n w h hw.l hw.n hn hp hc).mono fun _ _ q => ⟨q.2, q.1⟩
theorem RdOut.some' {g : Nat} {ws : List Nat} {N : Nat} {r : Option (Value × Nat)} {w : World} {e : Ending} {w' : World} {v : Value} {q : Nat} (h : RdOut g ws N r w e w') (hr : r = some (v, q)) : e = .returned v ∧ RK w' g ws (N : Int) (q : Int) ∧ w.grownBy w' (some g) := by
  subst hr; exact ⟨h.2.1, h.2.2, h.1⟩
theorem RdOut.none' {g : Nat} {ws : List Nat} {N : Nat} {r : Option (Value × Nat)} {w : World} {e : Ending} {w' : World} (h : RdOut g ws N r w e w') (hr : r = none) : Cry e ∧ w.grownBy w' (some g) := by
  subst hr; exact ⟨h.2, h.1⟩
theorem grown_trans {a b c : World} {row : Option Nat} (h : a.grownBy b row) (k : b.grownBy c row) : a.grownBy c row :=
  ⟨k.os.trans h.os, k.tape.trans h.tape, k.output.trans h.output, Nat.le_trans h.size k.size, fun i hi hne => (k.block i (Nat.lt_of_lt_of_le hi h.size) hne).trans (h.block i hi hne)⟩

/-- how many ones the head of a code has, and where it ends -/
def onesR (ws : List Nat) (N : Nat) : Nat → Nat → Nat → Option (Nat × Nat)
  | 0, i, p => some (i, p)
  | k + 1, i, p => if p + 1 ≤ N then (if BM.getW ws p 1 = 0 then some (i, p + 1) else onesR ws N k (i + 1) (p + 1)) else none
def intR : Option (Nat × Nat) → Option (Value × Nat)
  | some (i, q) => some (.int .i64 (i : Int), q)
  | none => none

set_option maxRecDepth 100000 in
set_option maxHeartbeats 2000000 in
theorem ones_any (g : Nat) (ws : List Nat) (N p : Nat) (w : World) (h : RK w g ws (N : Int) (p : Int)) (hw : RdW ws N) (hp : p ≤ N) :
    Calls Tryd.prog 123 #[.pointer (some ⟨g, 0, none⟩)] w (RdOut g ws N (intR (onesR ws N 4 0 p)) w) := by
  have T := Lib.hid (fun (W : World) (q : Nat) (hk : RK W g ws (N : Int) (q : Int)) (hq : q ≤ N) => take_any g ws N q 1 W hk hw (by omega) hq)
  have HK := Lib.hid h
  have HG := Lib.hid (World.grownBy.refl w (some g))
  have Hp := Lib.hid hp
  clear h hw hp
  go_enter Tryd.func123, Tryd.ntmps123
  go_wp2_with fail
  refine wp_loop_rounds 5 ?_
  rw [rounds_succ]
  go_wp2_with fail
  refine (T.out _ p HK.out Hp.out).mono ?_
  rintro e w1 h1
  by_cases c0 : p + 1 ≤ N
  · obtain ⟨he, hk, hg⟩ := h1.some' (v := .int .u64 (BM.getW ws p 1 : Int)) (q := p + 1) (by unfold takeR; rw [if_pos c0])
    have HK1 := Lib.hid hk
    have HG1 := Lib.hid (grown_trans HG.out hg)
    have Hp1 := Lib.hid c0
    have C0 := Lib.hid c0
    clear hk hg c0 h1
    by_cases z0 : BM.getW ws p 1 = 0
    · rw [z0] at he
      subst he
      have Z0 := Lib.hid z0
      clear z0
      go_wp2_with fail
      go_ret
      have hr : onesR ws N 4 0 p = some (0, p + 1) := by simp [onesR, C0.out, Z0.out]
      rw [hr]
      exact ⟨HG1.out, rfl, HK1.out⟩
    · subst he
      have Z0 := Lib.hid z0
      have zi0 : ¬ ((BM.getW ws p 1 : Nat) : Int) = 0 := by omega
      clear z0
      obtain ⟨V0, hV0⟩ : ∃ V, V = BM.getW ws p 1 := ⟨_, rfl⟩
      rw [← hV0] at zi0 ⊢
      clear hV0
      go_wp2_with fail
      clear zi0
      rw [rounds_succ]
      go_wp2_with fail
      refine (T.out _ (p + 1) HK1.out Hp1.out).mono ?_
      rintro e w2 h2
      by_cases c1 : p + 1 + 1 ≤ N
      · obtain ⟨he, hk, hg⟩ := h2.some' (v := .int .u64 (BM.getW ws (p + 1) 1 : Int)) (q := p + 1 + 1) (by unfold takeR; rw [if_pos c1])
        have HK2 := Lib.hid hk
        have HG2 := Lib.hid (grown_trans HG1.out hg)
        have Hp2 := Lib.hid c1
        have C1 := Lib.hid c1
        clear hk hg c1 h2
        by_cases z1 : BM.getW ws (p + 1) 1 = 0
        · rw [z1] at he
          subst he
          have Z1 := Lib.hid z1
          clear z1
          go_wp2_with fail
          go_ret
          have hr : onesR ws N 4 0 p = some (1, p + 1 + 1) := by simp [onesR, C0.out, Z0.out, C1.out, Z1.out]
          rw [hr]
          exact ⟨HG2.out, rfl, HK2.out⟩
        · subst he
          have Z1 := Lib.hid z1
          have zi1 : ¬ ((BM.getW ws (p + 1) 1 : Nat) : Int) = 0 := by omega
          clear z1
          obtain ⟨V1, hV1⟩ : ∃ V, V = BM.getW ws (p + 1) 1 := ⟨_, rfl⟩
          rw [← hV1] at zi1 ⊢
          clear hV1
          go_wp2_with fail
          clear zi1
          rw [rounds_succ]
          go_wp2_with fail
          refine (T.out _ (p + 1 + 1) HK2.out Hp2.out).mono ?_
          rintro e w3 h3
          by_cases c2 : p + 1 + 1 + 1 ≤ N
          · obtain ⟨he, hk, hg⟩ := h3.some' (v := .int .u64 (BM.getW ws (p + 1 + 1) 1 : Int)) (q := p + 1 + 1 + 1) (by unfold takeR; rw [if_pos c2])
            have HK3 := Lib.hid hk
            have HG3 := Lib.hid (grown_trans HG2.out hg)
            have Hp3 := Lib.hid c2
            have C2 := Lib.hid c2
            clear hk hg c2 h3
            by_cases z2 : BM.getW ws (p + 1 + 1) 1 = 0
            · rw [z2] at he
              subst he
              have Z2 := Lib.hid z2
              clear z2
              go_wp2_with fail
              go_ret
              have hr : onesR ws N 4 0 p = some (2, p + 1 + 1 + 1) := by simp [onesR, C0.out, Z0.out, C1.out, Z1.out, C2.out, Z2.out]
              rw [hr]
              exact ⟨HG3.out, rfl, HK3.out⟩
            · subst he
              have Z2 := Lib.hid z2
              have zi2 : ¬ ((BM.getW ws (p + 1 + 1) 1 : Nat) : Int) = 0 := by omega
              clear z2
              obtain ⟨V2, hV2⟩ : ∃ V, V = BM.getW ws (p + 1 + 1) 1 := ⟨_, rfl⟩
              rw [← hV2] at zi2 ⊢
              clear hV2
              go_wp2_with fail
              clear zi2
              rw [rounds_succ]
              go_wp2_with fail
              refine (T.out _ (p + 1 + 1 + 1) HK3.out Hp3.out).mono ?_
              rintro e w4 h4
              by_cases c3 : p + 1 + 1 + 1 + 1 ≤ N
              · obtain ⟨he, hk, hg⟩ := h4.some' (v := .int .u64 (BM.getW ws (p + 1 + 1 + 1) 1 : Int)) (q := p + 1 + 1 + 1 + 1) (by unfold takeR; rw [if_pos c3])
                have HK4 := Lib.hid hk
                have HG4 := Lib.hid (grown_trans HG3.out hg)
                have Hp4 := Lib.hid c3
                have C3 := Lib.hid c3
                clear hk hg c3 h4
                by_cases z3 : BM.getW ws (p + 1 + 1 + 1) 1 = 0
                · rw [z3] at he
                  subst he
                  have Z3 := Lib.hid z3
                  clear z3
                  go_wp2_with fail
                  go_ret
                  have hr : onesR ws N 4 0 p = some (3, p + 1 + 1 + 1 + 1) := by simp [onesR, C0.out, Z0.out, C1.out, Z1.out, C2.out, Z2.out, C3.out, Z3.out]
                  rw [hr]
                  exact ⟨HG4.out, rfl, HK4.out⟩
                · subst he
                  have Z3 := Lib.hid z3
                  have zi3 : ¬ ((BM.getW ws (p + 1 + 1 + 1) 1 : Nat) : Int) = 0 := by omega
                  clear z3
                  obtain ⟨V3, hV3⟩ : ∃ V, V = BM.getW ws (p + 1 + 1 + 1) 1 := ⟨_, rfl⟩
                  rw [← hV3] at zi3 ⊢
                  clear hV3
                  go_wp2_with fail
                  clear zi3
                  rw [rounds_succ]
                  go_wp2_with fail
                  go_ret
                  have hr : onesR ws N 4 0 p = some (4, p + 1 + 1 + 1 + 1) := by simp [onesR, C0.out, Z0.out, C1.out, Z1.out, C2.out, Z2.out, C3.out, Z3.out]
                  rw [hr]
                  exact ⟨HG4.out, rfl, HK4.out⟩
              · obtain ⟨⟨u, pv, rfl⟩, hg⟩ := h4.none' (by unfold takeR; rw [if_neg c3])
                have HG4 := Lib.hid (grown_trans HG3.out hg)
                have C3 := Lib.hid c3
                clear hg c3 h4
                go_wp2_with fail
                have hr : onesR ws N 4 0 p = none := by simp [onesR, C0.out, Z0.out, C1.out, Z1.out, C2.out, Z2.out, C3.out]
                rw [hr]
                exact ⟨rfl, HG4.out, ⟨_, _, rfl⟩⟩
          · obtain ⟨⟨u, pv, rfl⟩, hg⟩ := h3.none' (by unfold takeR; rw [if_neg c2])
            have HG3 := Lib.hid (grown_trans HG2.out hg)
            have C2 := Lib.hid c2
            clear hg c2 h3
            go_wp2_with fail
            have hr : onesR ws N 4 0 p = none := by simp [onesR, C0.out, Z0.out, C1.out, Z1.out, C2.out]
            rw [hr]
            exact ⟨rfl, HG3.out, ⟨_, _, rfl⟩⟩
      · obtain ⟨⟨u, pv, rfl⟩, hg⟩ := h2.none' (by unfold takeR; rw [if_neg c1])
        have HG2 := Lib.hid (grown_trans HG1.out hg)
        have C1 := Lib.hid c1
        clear hg c1 h2
        go_wp2_with fail
        have hr : onesR ws N 4 0 p = none := by simp [onesR, C0.out, Z0.out, C1.out]
        rw [hr]
        exact ⟨rfl, HG2.out, ⟨_, _, rfl⟩⟩
  · obtain ⟨⟨u, pv, rfl⟩, hg⟩ := h1.none' (by unfold takeR; rw [if_neg c0])
    have HG1 := Lib.hid (grown_trans HG.out hg)
    have C0 := Lib.hid c0
    clear hg c0 h1
    go_wp2_with fail
    have hr : onesR ws N 4 0 p = none := by simp [onesR, C0.out]
    rw [hr]
    exact ⟨rfl, HG1.out, ⟨_, _, rfl⟩⟩
end Go.Proofs.YtanoohfhifhhaaaDoor
