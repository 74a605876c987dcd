/- Walks: rolls, added one by one: the model's walks. -/
import Derived.Test.YtkekpkfhljankaaYh
set_option linter.unusedVariables false
set_option linter.unusedSimpArgs false
namespace Go.Proofs.Ytkekpkfhljankaa
open Go.RowKit

theorem addr_add (b off j : Nat) : (⟨b, off, none⟩ : Addr).add j = ⟨b, off + j, none⟩ := by unfold Addr.add; split <;> simp_all
theorem RS.last {w : World} {B b off : Nat} {xs : List R6} (h : RS w B ⟨b, off, none⟩ xs) (hp : 0 < xs.length) : w.cell? ⟨b, off + (xs.length - 1) * 6, none⟩ = some (.int .i64 (lastR xs).1) ∧ w.cell? ⟨b, off + (xs.length - 1) * 6 + 1, none⟩ = some (.int .i64 (lastR xs).2.1) ∧ w.cell? ⟨b, off + (xs.length - 1) * 6 + 2, none⟩ = some (.int .i64 (lastR xs).2.2.1) ∧ w.cell? ⟨b, off + (xs.length - 1) * 6 + 3, none⟩ = some (.int .i64 (lastR xs).2.2.2.1) ∧ w.cell? ⟨b, off + (xs.length - 1) * 6 + 4, none⟩ = some (.int .i64 (lastR xs).2.2.2.2.1) ∧ w.cell? ⟨b, off + (xs.length - 1) * 6 + 5, none⟩ = some (.int .i64 (lastR xs).2.2.2.2.2) := by
  have hj : xs.length - 1 < xs.length := by omega
  refine ⟨?_, ?_, ?_, ?_, ?_, ?_⟩
  · have := h.2.2 ((xs.length - 1) * 6) _ (rls_get0 xs _ hj)
    rw [addr_add] at this
    exact this
  · have := h.2.2 ((xs.length - 1) * 6 + 1) _ (rls_get1 xs _ hj)
    rw [addr_add, ← Nat.add_assoc] at this
    exact this
  · have := h.2.2 ((xs.length - 1) * 6 + 2) _ (rls_get2 xs _ hj)
    rw [addr_add, ← Nat.add_assoc] at this
    exact this
  · have := h.2.2 ((xs.length - 1) * 6 + 3) _ (rls_get3 xs _ hj)
    rw [addr_add, ← Nat.add_assoc] at this
    exact this
  · have := h.2.2 ((xs.length - 1) * 6 + 4) _ (rls_get4 xs _ hj)
    rw [addr_add, ← Nat.add_assoc] at this
    exact this
  · have := h.2.2 ((xs.length - 1) * 6 + 5) _ (rls_get5 xs _ hj)
    rw [addr_add, ← Nat.add_assoc] at this
    exact this
theorem made0 (W : World) {base : Nat} (hb : base ≤ W.heap.size) : (W.alloc (.cells #[] 60)).ownsRow base 60 6 (.slice (some ⟨W.heap.size, 0, none⟩) 0 0) 0 (rls []) :=
  World.ownsRow_made W (base := base) (e := 60) (size := 6) #[] 0 hb (by simp [maxLen]) rfl
theorem made1 (W : World) (o : Obj) {base : Nat} (hb : base ≤ (W.alloc o).heap.size) : ((W.alloc o).alloc (.cells #[] 60)).ownsRow base 60 6 (.slice (some ⟨W.heap.size + 1, 0, none⟩) 0 0) 0 (rls []) := by
  have h := made0 (W.alloc o) hb
  rw [World.size_alloc] at h
  exact h
theorem addS_app {xs : List R6} {x : R6} (h : xs.length = 0 ∨ ¬ (lastR xs).1 = x.1) : addS xs x = xs ++ [x] := by unfold addS; rw [if_pos h]
theorem addS_in {xs : List R6} {x : R6} (h : ¬ xs.length = 0) (h2 : (lastR xs).1 = x.1) : addS xs x = xs.set (xs.length - 1) (withR (lastR xs) x) := by
  unfold addS; rw [if_neg (fun e => e.elim h (fun e => e h2))]
/-- what l7Add gives -/
def AddPost (xs : List R6) (w : World) (e : Ending) (w' : World) : Prop :=
  ∃ v, e = .returned v ∧ w'.ownsRow w.heap.size 60 6 v xs.length (rls xs) ∧ Below w.heap.size w w'

set_option maxRecDepth 100000 in
set_option maxHeartbeats 4000000 in
theorem l7Add_app (b off c : Nat) (xs : List R6) (a0 a1 a2 a3 a4 a5 : Int) (w : World) (h : RS w w.heap.size ⟨b, off, none⟩ xs) (hl : xs.length + 1 ≤ 1048576) (hd : ¬ xs.length = 0) (hd2 : ¬ (lastR xs).1 = a0) :
    Calls Try.prog 112 #[.slice (some ⟨b, off, none⟩) xs.length c, .agg #[.int .i64 a0, .int .i64 a1, .int .i64 a2, .int .i64 a3, .int .i64 a4, .int .i64 a5]] w (AddPost (addS xs (a0, a1, a2, a3, a4, a5)) w) := by
  rw [addS_app (.inr hd2)]
  obtain ⟨i0, hi, hz0, hz1, hz2⟩ := info_parts info_rl
  have hbx : Below w.heap.size w (w.alloc (.cells #[.int .i64 a0, .int .i64 a1, .int .i64 a2, .int .i64 a3, .int .i64 a4, .int .i64 a5] 60)) := (Below.refl _ _).alloc (Nat.le_refl _) _
  have hbl : b < w.heap.size := h.2.1
  have hL0 := (hbx.cell (p := ⟨b, off + (xs.length - 1) * 6, none⟩) hbl).trans (h.last (by omega)).1
  have HRS : ∀ W, Below w.heap.size w W → ∀ j u, (rls xs)[j]? = some u → W.cell? ((⟨b, off, none⟩ : Addr).add j) = some u := fun W hW => (h.below hW).2.2
  have HRS := Lib.hid HRS
  have H63 := Lib.hid (show 0 + xs.length ≤ maxLen by unfold maxLen; omega)
  have H64 := Lib.hid (show xs.length + 1 ≤ maxLen by unfold maxLen; omega)
  generalize hT : (lastR xs).1 = t at *
  have hne : (t != a0) = true := by simpa using hd2
  have e1 : IntKind.i64.wrap ((xs.length : Int) - 1) = (xs.length : Int) - 1 := IntWalk.i64_in _ (by omega)
  have e2 : (0 : Int) ≤ (xs.length : Int) - 1 := by omega
  have e2' : (1 : Int) ≤ (xs.length : Int) := by omega
  have e3 : ((xs.length : Int) - 1).toNat = xs.length - 1 := by omega
  have e4 : (xs.length : Int) - 1 < (xs.length : Int) := by omega
  have hn1 : decide ((xs.length : Int) - 1 < 0) = false := by simp; omega
  clear hT hd2 h
  go_enter Try.func112, Try.ntmps112
  go_wp2_with fail
  go_quiet (fail)
  go_wp2_with fail
  obtain ⟨W0, hW0⟩ : ∃ W0, W0 = (w.alloc (.cells #[.int .i64 a0, .int .i64 a1, .int .i64 a2, .int .i64 a3, .int .i64 a4, .int .i64 a5] 60)).drewN nq := ⟨_, rfl⟩
  have HB0 := Lib.hid (show Below w.heap.size w W0 from by rw [hW0]; exact below_drewN_u hbx nq)
  have hS : W0.heap.size = w.heap.size + 1 := by rw [hW0]; simp
  have HS0 := Lib.hid (show w.heap.size ≤ W0.heap.size by omega)
  have HS1 := Lib.hid (fun o => (show w.heap.size ≤ (W0.alloc o).heap.size by simp; omega))
  have q0 : W0.cell? ⟨w.heap.size, 0, none⟩ = some (.int .i64 a0) := by rw [hW0]; go_simp
  have q1 : W0.cell? ⟨w.heap.size, 1, none⟩ = some (.int .i64 a1) := by rw [hW0]; go_simp
  have q2 : W0.cell? ⟨w.heap.size, 2, none⟩ = some (.int .i64 a2) := by rw [hW0]; go_simp
  have q3 : W0.cell? ⟨w.heap.size, 3, none⟩ = some (.int .i64 a3) := by rw [hW0]; go_simp
  have q4 : W0.cell? ⟨w.heap.size, 4, none⟩ = some (.int .i64 a4) := by rw [hW0]; go_simp
  have q5 : W0.cell? ⟨w.heap.size, 5, none⟩ = some (.int .i64 a5) := by rw [hW0]; go_simp
  rw [← hW0]
  clear hW0 hbx
  have hlt0 : w.heap.size < W0.heap.size := by omega
  have HS := Lib.hid hS
  clear hS
  go_region_law (first
    | (refine step_append_ownR _ rfl _ _ 56 rfl w.heap.size 60 i0 (.agg #[.int .i64 0, .int .i64 0, .int .i64 0, .int .i64 0, .int .i64 0, .int .i64 0]) 6 48 Try.underlying56 hi hz0 hz1 hz2 rfl (by decide) (.slice (some ⟨W0.heap.size, 0, none⟩) 0 0) 0 (rls []) rfl ((made0 W0 HS0.out).drew) ⟨b, off, none⟩ xs.length c (rls xs) rfl (rls_length xs) (HRS.out _ ((HB0.out.alloc HS0.out _).drew)) (rls_one xs) H63.out (by omega) (by have hS := HS.out; simp; omega) ?_; intro v4 w4 hown4 hgrow4; rw [Nat.zero_add, show rls [] ++ rls xs = rls xs from rfl] at hown4; have x0 := hgrow4.cell (a := ⟨w.heap.size, 0, none⟩) (v := .int .i64 a0) ((((Below.refl W0.heap.size W0).alloc (Nat.le_refl _) _).drew.cell (p := ⟨w.heap.size, 0, none⟩) (by have hS := HS.out; simp; omega)).trans q0) (by have hS := HS.out; simp [Value.ownBlock]; omega); have x1 := hgrow4.cell (a := ⟨w.heap.size, 1, none⟩) (v := .int .i64 a1) ((((Below.refl W0.heap.size W0).alloc (Nat.le_refl _) _).drew.cell (p := ⟨w.heap.size, 1, none⟩) (by have hS := HS.out; simp; omega)).trans q1) (by have hS := HS.out; simp [Value.ownBlock]; omega); have x2 := hgrow4.cell (a := ⟨w.heap.size, 2, none⟩) (v := .int .i64 a2) ((((Below.refl W0.heap.size W0).alloc (Nat.le_refl _) _).drew.cell (p := ⟨w.heap.size, 2, none⟩) (by have hS := HS.out; simp; omega)).trans q2) (by have hS := HS.out; simp [Value.ownBlock]; omega); have x3 := hgrow4.cell (a := ⟨w.heap.size, 3, none⟩) (v := .int .i64 a3) ((((Below.refl W0.heap.size W0).alloc (Nat.le_refl _) _).drew.cell (p := ⟨w.heap.size, 3, none⟩) (by have hS := HS.out; simp; omega)).trans q3) (by have hS := HS.out; simp [Value.ownBlock]; omega); have x4 := hgrow4.cell (a := ⟨w.heap.size, 4, none⟩) (v := .int .i64 a4) ((((Below.refl W0.heap.size W0).alloc (Nat.le_refl _) _).drew.cell (p := ⟨w.heap.size, 4, none⟩) (by have hS := HS.out; simp; omega)).trans q4) (by have hS := HS.out; simp [Value.ownBlock]; omega); have x5 := hgrow4.cell (a := ⟨w.heap.size, 5, none⟩) (v := .int .i64 a5) ((((Below.refl W0.heap.size W0).alloc (Nat.le_refl _) _).drew.cell (p := ⟨w.heap.size, 5, none⟩) (by have hS := HS.out; simp; omega)).trans q5) (by have hS := HS.out; simp [Value.ownBlock]; omega); have hB4 := ((HB0.out.alloc HS0.out _).drew).grown hgrow4 (by have hS := HS.out; simp; omega) (fun j hj => by have hS := HS.out; simp [Value.ownBlock] at hj; omega); have hZ4 := hB4.size)
    | (refine step_append_ownR _ rfl _ _ 56 rfl w.heap.size 60 i0 (.agg #[.int .i64 0, .int .i64 0, .int .i64 0, .int .i64 0, .int .i64 0, .int .i64 0]) 6 48 Try.underlying56 hi hz0 hz1 hz2 rfl (by decide) (.slice (some ⟨W0.heap.size, 0, none⟩) 0 0) 0 (rls []) rfl (((made0 W0 HS0.out).alloc (.cells #[.int .i64 a0, .int .i64 a1, .int .i64 a2, .int .i64 a3, .int .i64 a4, .int .i64 a5] 60)).drew) ⟨b, off, none⟩ xs.length c (rls xs) rfl (rls_length xs) (HRS.out _ (((HB0.out.alloc HS0.out _).alloc (HS1.out _) _).drew)) (rls_one xs) H63.out (by omega) (by have hS := HS.out; simp; omega) ?_; intro v4 w4 hown4 hgrow4; rw [Nat.zero_add, show rls [] ++ rls xs = rls xs from rfl] at hown4; have x0 := hgrow4.cell (a := ⟨w.heap.size, 0, none⟩) (v := .int .i64 a0) (((((Below.refl W0.heap.size W0).alloc (Nat.le_refl _) _).alloc (by simp) _).drew.cell (p := ⟨w.heap.size, 0, none⟩) (by have hS := HS.out; simp; omega)).trans q0) (by have hS := HS.out; simp [Value.ownBlock]; omega); have x1 := hgrow4.cell (a := ⟨w.heap.size, 1, none⟩) (v := .int .i64 a1) (((((Below.refl W0.heap.size W0).alloc (Nat.le_refl _) _).alloc (by simp) _).drew.cell (p := ⟨w.heap.size, 1, none⟩) (by have hS := HS.out; simp; omega)).trans q1) (by have hS := HS.out; simp [Value.ownBlock]; omega); have x2 := hgrow4.cell (a := ⟨w.heap.size, 2, none⟩) (v := .int .i64 a2) (((((Below.refl W0.heap.size W0).alloc (Nat.le_refl _) _).alloc (by simp) _).drew.cell (p := ⟨w.heap.size, 2, none⟩) (by have hS := HS.out; simp; omega)).trans q2) (by have hS := HS.out; simp [Value.ownBlock]; omega); have x3 := hgrow4.cell (a := ⟨w.heap.size, 3, none⟩) (v := .int .i64 a3) (((((Below.refl W0.heap.size W0).alloc (Nat.le_refl _) _).alloc (by simp) _).drew.cell (p := ⟨w.heap.size, 3, none⟩) (by have hS := HS.out; simp; omega)).trans q3) (by have hS := HS.out; simp [Value.ownBlock]; omega); have x4 := hgrow4.cell (a := ⟨w.heap.size, 4, none⟩) (v := .int .i64 a4) (((((Below.refl W0.heap.size W0).alloc (Nat.le_refl _) _).alloc (by simp) _).drew.cell (p := ⟨w.heap.size, 4, none⟩) (by have hS := HS.out; simp; omega)).trans q4) (by have hS := HS.out; simp [Value.ownBlock]; omega); have x5 := hgrow4.cell (a := ⟨w.heap.size, 5, none⟩) (v := .int .i64 a5) (((((Below.refl W0.heap.size W0).alloc (Nat.le_refl _) _).alloc (by simp) _).drew.cell (p := ⟨w.heap.size, 5, none⟩) (by have hS := HS.out; simp; omega)).trans q5) (by have hS := HS.out; simp [Value.ownBlock]; omega); have s0 := hgrow4.cell (a := ⟨W0.heap.size + 1, 0, none⟩) (v := .int .i64 a0) (by go_simp) (by have hS := HS.out; simp [Value.ownBlock]; try omega); have s1 := hgrow4.cell (a := ⟨W0.heap.size + 1, 1, none⟩) (v := .int .i64 a1) (by go_simp) (by have hS := HS.out; simp [Value.ownBlock]; try omega); have s2 := hgrow4.cell (a := ⟨W0.heap.size + 1, 2, none⟩) (v := .int .i64 a2) (by go_simp) (by have hS := HS.out; simp [Value.ownBlock]; try omega); have s3 := hgrow4.cell (a := ⟨W0.heap.size + 1, 3, none⟩) (v := .int .i64 a3) (by go_simp) (by have hS := HS.out; simp [Value.ownBlock]; try omega); have s4 := hgrow4.cell (a := ⟨W0.heap.size + 1, 4, none⟩) (v := .int .i64 a4) (by go_simp) (by have hS := HS.out; simp [Value.ownBlock]; try omega); have s5 := hgrow4.cell (a := ⟨W0.heap.size + 1, 5, none⟩) (v := .int .i64 a5) (by go_simp) (by have hS := HS.out; simp [Value.ownBlock]; try omega); have hB4 := (((HB0.out.alloc HS0.out _).alloc (HS1.out _) _).drew).grown hgrow4 (by have hS := HS.out; simp; omega) (fun j hj => by have hS := HS.out; simp [Value.ownBlock] at hj; omega); have hZ4 := hB4.size)
    | (refine step_append_ownR _ rfl _ _ 56 rfl w.heap.size 60 i0 (.agg #[.int .i64 0, .int .i64 0, .int .i64 0, .int .i64 0, .int .i64 0, .int .i64 0]) 6 48 Try.underlying56 hi hz0 hz1 hz2 rfl (by decide) (.slice (some ⟨W0.heap.size + 1, 0, none⟩) 0 0) 0 (rls []) rfl ((made1 W0 (.cells #[.int .i64 a0, .int .i64 a1, .int .i64 a2, .int .i64 a3, .int .i64 a4, .int .i64 a5] 60) (HS1.out _)).drew) ⟨b, off, none⟩ xs.length c (rls xs) rfl (rls_length xs) (HRS.out _ (((HB0.out.alloc HS0.out _).alloc (HS1.out _) _).drew)) (rls_one xs) H63.out (by omega) (by have hS := HS.out; simp; omega) ?_; intro v4 w4 hown4 hgrow4; rw [Nat.zero_add, show rls [] ++ rls xs = rls xs from rfl] at hown4; have x0 := hgrow4.cell (a := ⟨w.heap.size, 0, none⟩) (v := .int .i64 a0) (((((Below.refl W0.heap.size W0).alloc (Nat.le_refl _) _).alloc (by simp) _).drew.cell (p := ⟨w.heap.size, 0, none⟩) (by have hS := HS.out; simp; omega)).trans q0) (by have hS := HS.out; simp [Value.ownBlock]; omega); have x1 := hgrow4.cell (a := ⟨w.heap.size, 1, none⟩) (v := .int .i64 a1) (((((Below.refl W0.heap.size W0).alloc (Nat.le_refl _) _).alloc (by simp) _).drew.cell (p := ⟨w.heap.size, 1, none⟩) (by have hS := HS.out; simp; omega)).trans q1) (by have hS := HS.out; simp [Value.ownBlock]; omega); have x2 := hgrow4.cell (a := ⟨w.heap.size, 2, none⟩) (v := .int .i64 a2) (((((Below.refl W0.heap.size W0).alloc (Nat.le_refl _) _).alloc (by simp) _).drew.cell (p := ⟨w.heap.size, 2, none⟩) (by have hS := HS.out; simp; omega)).trans q2) (by have hS := HS.out; simp [Value.ownBlock]; omega); have x3 := hgrow4.cell (a := ⟨w.heap.size, 3, none⟩) (v := .int .i64 a3) (((((Below.refl W0.heap.size W0).alloc (Nat.le_refl _) _).alloc (by simp) _).drew.cell (p := ⟨w.heap.size, 3, none⟩) (by have hS := HS.out; simp; omega)).trans q3) (by have hS := HS.out; simp [Value.ownBlock]; omega); have x4 := hgrow4.cell (a := ⟨w.heap.size, 4, none⟩) (v := .int .i64 a4) (((((Below.refl W0.heap.size W0).alloc (Nat.le_refl _) _).alloc (by simp) _).drew.cell (p := ⟨w.heap.size, 4, none⟩) (by have hS := HS.out; simp; omega)).trans q4) (by have hS := HS.out; simp [Value.ownBlock]; omega); have x5 := hgrow4.cell (a := ⟨w.heap.size, 5, none⟩) (v := .int .i64 a5) (((((Below.refl W0.heap.size W0).alloc (Nat.le_refl _) _).alloc (by simp) _).drew.cell (p := ⟨w.heap.size, 5, none⟩) (by have hS := HS.out; simp; omega)).trans q5) (by have hS := HS.out; simp [Value.ownBlock]; omega); have s0 := hgrow4.cell (a := ⟨W0.heap.size, 0, none⟩) (v := .int .i64 a0) (by go_simp) (by have hS := HS.out; simp [Value.ownBlock]; try omega); have s1 := hgrow4.cell (a := ⟨W0.heap.size, 1, none⟩) (v := .int .i64 a1) (by go_simp) (by have hS := HS.out; simp [Value.ownBlock]; try omega); have s2 := hgrow4.cell (a := ⟨W0.heap.size, 2, none⟩) (v := .int .i64 a2) (by go_simp) (by have hS := HS.out; simp [Value.ownBlock]; try omega); have s3 := hgrow4.cell (a := ⟨W0.heap.size, 3, none⟩) (v := .int .i64 a3) (by go_simp) (by have hS := HS.out; simp [Value.ownBlock]; try omega); have s4 := hgrow4.cell (a := ⟨W0.heap.size, 4, none⟩) (v := .int .i64 a4) (by go_simp) (by have hS := HS.out; simp [Value.ownBlock]; try omega); have s5 := hgrow4.cell (a := ⟨W0.heap.size, 5, none⟩) (v := .int .i64 a5) (by go_simp) (by have hS := HS.out; simp [Value.ownBlock]; try omega); have hB4 := (((HB0.out.alloc HS0.out _).alloc (HS1.out _) _).drew).grown hgrow4 (by have hS := HS.out; simp; omega) (fun j hj => by have hS := HS.out; simp [Value.ownBlock] at hj; omega); have hZ4 := hB4.size)
    | (refine step_append_ownR _ rfl _ _ 56 rfl w.heap.size 60 i0 (.agg #[.int .i64 0, .int .i64 0, .int .i64 0, .int .i64 0, .int .i64 0, .int .i64 0]) 6 48 Try.underlying56 hi hz0 hz1 hz2 rfl (by decide) v4 xs.length (rls xs) rfl (hown4.alloc _) ⟨w4.heap.size, 0, none⟩ 1 1 [.int .i64 a0, .int .i64 a1, .int .i64 a2, .int .i64 a3, .int .i64 a4, .int .i64 a5] rfl rfl (cells_six (by go_simp) (by go_simp) (by go_simp) (by go_simp) (by go_simp) (by go_simp)) (fun u hu => by simp at hu; rcases hu with rfl | rfl | rfl | rfl | rfl | rfl <;> rfl) H64.out (by omega) (by first | omega | (simp; omega)) ?_; intro v5 w5 hown5 hgrow5; have hB5 := (hB4.alloc hZ4 _).grown hgrow5 (by first | omega | (simp; omega)) (fun j hj => (hown4.lt j hj).1))
    | (refine step_append_ownR _ rfl _ _ 56 rfl w.heap.size 60 i0 (.agg #[.int .i64 0, .int .i64 0, .int .i64 0, .int .i64 0, .int .i64 0, .int .i64 0]) 6 48 Try.underlying56 hi hz0 hz1 hz2 rfl (by decide) v4 xs.length (rls xs) rfl hown4 ⟨W0.heap.size + 1, 0, none⟩ 1 1 [.int .i64 a0, .int .i64 a1, .int .i64 a2, .int .i64 a3, .int .i64 a4, .int .i64 a5] rfl rfl (cells_six s0 s1 s2 s3 s4 s5) (fun u hu => by simp at hu; rcases hu with rfl | rfl | rfl | rfl | rfl | rfl <;> rfl) H64.out (by omega) hZ4 ?_; intro v5 w5 hown5 hgrow5; have hB5 := hB4.grown hgrow5 (by first | omega | (simp; omega)) (fun j hj => (hown4.lt j hj).1))
    | (refine step_append_ownR _ rfl _ _ 56 rfl w.heap.size 60 i0 (.agg #[.int .i64 0, .int .i64 0, .int .i64 0, .int .i64 0, .int .i64 0, .int .i64 0]) 6 48 Try.underlying56 hi hz0 hz1 hz2 rfl (by decide) v4 xs.length (rls xs) rfl hown4 ⟨W0.heap.size, 0, none⟩ 1 1 [.int .i64 a0, .int .i64 a1, .int .i64 a2, .int .i64 a3, .int .i64 a4, .int .i64 a5] rfl rfl (cells_six s0 s1 s2 s3 s4 s5) (fun u hu => by simp at hu; rcases hu with rfl | rfl | rfl | rfl | rfl | rfl <;> rfl) H64.out (by omega) hZ4 ?_; intro v5 w5 hown5 hgrow5; have hB5 := hB4.grown hgrow5 (by first | omega | (simp; omega)) (fun j hj => (hown4.lt j hj).1)))
  all_goals
    go_simp
    go_wp2_with fail
    go_ret
    exact ⟨_, rfl, by rw [List.length_append, rls_append]; exact hown5, hB5⟩
end Go.Proofs.Ytkekpkfhljankaa
