/- Walks: rolls, added one by one: the model's walks: to no rolls at all. -/
import Derived.Test.YtcjpedolmnahfaaYq
import Derived.Test.YtcjpedolmnahfaaWu
import Derived.Deep.RegionHeld3
import Derived.Test.YtcjpedolmnahfaaZo
import Derived.Test.YtcjpedolmnahfaaZq
import Derived.Test.YtcjpedolmnahfaaZl
import Derived.Test.YtcjpedolmnahfaaWw
set_option linter.unusedVariables false
set_option linter.unusedSimpArgs false
namespace Go.Proofs.Ytcjpedolmnahfaa
open Go.RowKit

theorem src_nil (W : World) : Src W (.slice none 0 0) 0 (rls []) := ⟨none, 0, rfl, .inl ⟨rfl, rfl, rfl⟩⟩
set_option maxRecDepth 100000 in
set_option maxHeartbeats 4000000 in
theorem l7Add_nil (a0 a1 a2 a3 a4 a5 : Int) (w : World) :
    Calls Try.prog 115 #[.slice none 0 0, .agg #[.int .i64 a0, .int .i64 a1, .int .i64 a2, .int .i64 a3, .int .i64 a4, .int .i64 a5]] w (AddPost (addS [] (a0, a1, a2, a3, a4, a5)) w) := by
  rw [addS_app (.inl rfl)]
  obtain ⟨i0, hi, hz0, hz1, hz2⟩ := info_parts info_rl
  have hbx : Below w.heap.size w (w.alloc (.cells #[.int .i64 a0, .int .i64 a1, .int .i64 a2, .int .i64 a3, .int .i64 a4, .int .i64 a5] 48)) := (Below.refl _ _).alloc (Nat.le_refl _) _
  have H63 := Lib.hid (show 0 + 0 ≤ maxLen by unfold maxLen; omega)
  have H64 := Lib.hid (show 0 + 1 ≤ maxLen by unfold maxLen; omega)
  go_enter Try.func115, Try.ntmps115
  go_wp2_with fail
  go_quiet (fail)
  go_wp2_with fail
  obtain ⟨W0, hW0⟩ : ∃ W0, W0 = (w.alloc (.cells #[.int .i64 a0, .int .i64 a1, .int .i64 a2, .int .i64 a3, .int .i64 a4, .int .i64 a5] 48)).drewN nq := ⟨_, rfl⟩
  have HB0 := Lib.hid (show Below w.heap.size w W0 from by rw [hW0]; exact below_drewN_u hbx nq)
  have hS : W0.heap.size = w.heap.size + 1 := by rw [hW0]; simp
  have HS0 := Lib.hid (show w.heap.size ≤ W0.heap.size by omega)
  have HS1 := Lib.hid (fun o => (show w.heap.size ≤ (W0.alloc o).heap.size by simp; omega))
  have q0 : W0.cell? ⟨w.heap.size, 0, none⟩ = some (.int .i64 a0) := by rw [hW0]; go_simp
  have q1 : W0.cell? ⟨w.heap.size, 1, none⟩ = some (.int .i64 a1) := by rw [hW0]; go_simp
  have q2 : W0.cell? ⟨w.heap.size, 2, none⟩ = some (.int .i64 a2) := by rw [hW0]; go_simp
  have q3 : W0.cell? ⟨w.heap.size, 3, none⟩ = some (.int .i64 a3) := by rw [hW0]; go_simp
  have q4 : W0.cell? ⟨w.heap.size, 4, none⟩ = some (.int .i64 a4) := by rw [hW0]; go_simp
  have q5 : W0.cell? ⟨w.heap.size, 5, none⟩ = some (.int .i64 a5) := by rw [hW0]; go_simp
  rw [← hW0]
  clear hW0 hbx
  have hlt0 : w.heap.size < W0.heap.size := by omega
  have HS := Lib.hid hS
  clear hS
  go_region_law (first
    | (refine step_append_src _ rfl _ _ 44 rfl w.heap.size 48 i0 (.agg #[.int .i64 0, .int .i64 0, .int .i64 0, .int .i64 0, .int .i64 0, .int .i64 0]) 6 48 Try.underlying44 hi hz0 hz1 hz2 rfl (by decide) (.slice (some ⟨W0.heap.size, 0, none⟩) 0 0) 0 (rls []) rfl ((made0 W0 HS0.out).drew) (.slice none 0 0) 0 (rls []) rfl (src_nil _) rfl (rls_one []) H63.out (by omega) (by have hS := HS.out; simp; omega) ?_; intro v4 w4 hown4 hgrow4; rw [Nat.zero_add, show rls [] ++ rls [] = rls [] from rfl] at hown4; have x0 := hgrow4.cell (a := ⟨w.heap.size, 0, none⟩) (v := .int .i64 a0) ((((Below.refl W0.heap.size W0).alloc (Nat.le_refl _) _).drew.cell (p := ⟨w.heap.size, 0, none⟩) (by have hS := HS.out; simp; omega)).trans q0) (by have hS := HS.out; simp [Value.ownBlock]; omega); have x1 := hgrow4.cell (a := ⟨w.heap.size, 1, none⟩) (v := .int .i64 a1) ((((Below.refl W0.heap.size W0).alloc (Nat.le_refl _) _).drew.cell (p := ⟨w.heap.size, 1, none⟩) (by have hS := HS.out; simp; omega)).trans q1) (by have hS := HS.out; simp [Value.ownBlock]; omega); have x2 := hgrow4.cell (a := ⟨w.heap.size, 2, none⟩) (v := .int .i64 a2) ((((Below.refl W0.heap.size W0).alloc (Nat.le_refl _) _).drew.cell (p := ⟨w.heap.size, 2, none⟩) (by have hS := HS.out; simp; omega)).trans q2) (by have hS := HS.out; simp [Value.ownBlock]; omega); have x3 := hgrow4.cell (a := ⟨w.heap.size, 3, none⟩) (v := .int .i64 a3) ((((Below.refl W0.heap.size W0).alloc (Nat.le_refl _) _).drew.cell (p := ⟨w.heap.size, 3, none⟩) (by have hS := HS.out; simp; omega)).trans q3) (by have hS := HS.out; simp [Value.ownBlock]; omega); have x4 := hgrow4.cell (a := ⟨w.heap.size, 4, none⟩) (v := .int .i64 a4) ((((Below.refl W0.heap.size W0).alloc (Nat.le_refl _) _).drew.cell (p := ⟨w.heap.size, 4, none⟩) (by have hS := HS.out; simp; omega)).trans q4) (by have hS := HS.out; simp [Value.ownBlock]; omega); have x5 := hgrow4.cell (a := ⟨w.heap.size, 5, none⟩) (v := .int .i64 a5) ((((Below.refl W0.heap.size W0).alloc (Nat.le_refl _) _).drew.cell (p := ⟨w.heap.size, 5, none⟩) (by have hS := HS.out; simp; omega)).trans q5) (by have hS := HS.out; simp [Value.ownBlock]; omega); have hB4 := ((HB0.out.alloc HS0.out _).drew).grown hgrow4 (by have hS := HS.out; simp; omega) (fun j hj => by have hS := HS.out; simp [Value.ownBlock] at hj; omega); have hZ4 := hB4.size)
    | (refine step_append_src _ rfl _ _ 44 rfl w.heap.size 48 i0 (.agg #[.int .i64 0, .int .i64 0, .int .i64 0, .int .i64 0, .int .i64 0, .int .i64 0]) 6 48 Try.underlying44 hi hz0 hz1 hz2 rfl (by decide) (.slice (some ⟨W0.heap.size, 0, none⟩) 0 0) 0 (rls []) rfl (((made0 W0 HS0.out).alloc (.cells #[.int .i64 a0, .int .i64 a1, .int .i64 a2, .int .i64 a3, .int .i64 a4, .int .i64 a5] 48)).drew) (.slice none 0 0) 0 (rls []) rfl (src_nil _) rfl (rls_one []) H63.out (by omega) (by have hS := HS.out; simp; omega) ?_; intro v4 w4 hown4 hgrow4; rw [Nat.zero_add, show rls [] ++ rls [] = rls [] from rfl] at hown4; have x0 := hgrow4.cell (a := ⟨w.heap.size, 0, none⟩) (v := .int .i64 a0) (((((Below.refl W0.heap.size W0).alloc (Nat.le_refl _) _).alloc (by simp) _).drew.cell (p := ⟨w.heap.size, 0, none⟩) (by have hS := HS.out; simp; omega)).trans q0) (by have hS := HS.out; simp [Value.ownBlock]; omega); have x1 := hgrow4.cell (a := ⟨w.heap.size, 1, none⟩) (v := .int .i64 a1) (((((Below.refl W0.heap.size W0).alloc (Nat.le_refl _) _).alloc (by simp) _).drew.cell (p := ⟨w.heap.size, 1, none⟩) (by have hS := HS.out; simp; omega)).trans q1) (by have hS := HS.out; simp [Value.ownBlock]; omega); have x2 := hgrow4.cell (a := ⟨w.heap.size, 2, none⟩) (v := .int .i64 a2) (((((Below.refl W0.heap.size W0).alloc (Nat.le_refl _) _).alloc (by simp) _).drew.cell (p := ⟨w.heap.size, 2, none⟩) (by have hS := HS.out; simp; omega)).trans q2) (by have hS := HS.out; simp [Value.ownBlock]; omega); have x3 := hgrow4.cell (a := ⟨w.heap.size, 3, none⟩) (v := .int .i64 a3) (((((Below.refl W0.heap.size W0).alloc (Nat.le_refl _) _).alloc (by simp) _).drew.cell (p := ⟨w.heap.size, 3, none⟩) (by have hS := HS.out; simp; omega)).trans q3) (by have hS := HS.out; simp [Value.ownBlock]; omega); have x4 := hgrow4.cell (a := ⟨w.heap.size, 4, none⟩) (v := .int .i64 a4) (((((Below.refl W0.heap.size W0).alloc (Nat.le_refl _) _).alloc (by simp) _).drew.cell (p := ⟨w.heap.size, 4, none⟩) (by have hS := HS.out; simp; omega)).trans q4) (by have hS := HS.out; simp [Value.ownBlock]; omega); have x5 := hgrow4.cell (a := ⟨w.heap.size, 5, none⟩) (v := .int .i64 a5) (((((Below.refl W0.heap.size W0).alloc (Nat.le_refl _) _).alloc (by simp) _).drew.cell (p := ⟨w.heap.size, 5, none⟩) (by have hS := HS.out; simp; omega)).trans q5) (by have hS := HS.out; simp [Value.ownBlock]; omega); have s0 := hgrow4.cell (a := ⟨W0.heap.size + 1, 0, none⟩) (v := .int .i64 a0) (by go_simp) (by have hS := HS.out; simp [Value.ownBlock]; try omega); have s1 := hgrow4.cell (a := ⟨W0.heap.size + 1, 1, none⟩) (v := .int .i64 a1) (by go_simp) (by have hS := HS.out; simp [Value.ownBlock]; try omega); have s2 := hgrow4.cell (a := ⟨W0.heap.size + 1, 2, none⟩) (v := .int .i64 a2) (by go_simp) (by have hS := HS.out; simp [Value.ownBlock]; try omega); have s3 := hgrow4.cell (a := ⟨W0.heap.size + 1, 3, none⟩) (v := .int .i64 a3) (by go_simp) (by have hS := HS.out; simp [Value.ownBlock]; try omega); have s4 := hgrow4.cell (a := ⟨W0.heap.size + 1, 4, none⟩) (v := .int .i64 a4) (by go_simp) (by have hS := HS.out; simp [Value.ownBlock]; try omega); have s5 := hgrow4.cell (a := ⟨W0.heap.size + 1, 5, none⟩) (v := .int .i64 a5) (by go_simp) (by have hS := HS.out; simp [Value.ownBlock]; try omega); have hB4 := (((HB0.out.alloc HS0.out _).alloc (HS1.out _) _).drew).grown hgrow4 (by have hS := HS.out; simp; omega) (fun j hj => by have hS := HS.out; simp [Value.ownBlock] at hj; omega); have hZ4 := hB4.size)
    | (refine step_append_src _ rfl _ _ 44 rfl w.heap.size 48 i0 (.agg #[.int .i64 0, .int .i64 0, .int .i64 0, .int .i64 0, .int .i64 0, .int .i64 0]) 6 48 Try.underlying44 hi hz0 hz1 hz2 rfl (by decide) (.slice (some ⟨W0.heap.size + 1, 0, none⟩) 0 0) 0 (rls []) rfl ((made1 W0 (.cells #[.int .i64 a0, .int .i64 a1, .int .i64 a2, .int .i64 a3, .int .i64 a4, .int .i64 a5] 48) (HS1.out _)).drew) (.slice none 0 0) 0 (rls []) rfl (src_nil _) rfl (rls_one []) H63.out (by omega) (by have hS := HS.out; simp; omega) ?_; intro v4 w4 hown4 hgrow4; rw [Nat.zero_add, show rls [] ++ rls [] = rls [] from rfl] at hown4; have x0 := hgrow4.cell (a := ⟨w.heap.size, 0, none⟩) (v := .int .i64 a0) (((((Below.refl W0.heap.size W0).alloc (Nat.le_refl _) _).alloc (by simp) _).drew.cell (p := ⟨w.heap.size, 0, none⟩) (by have hS := HS.out; simp; omega)).trans q0) (by have hS := HS.out; simp [Value.ownBlock]; omega); have x1 := hgrow4.cell (a := ⟨w.heap.size, 1, none⟩) (v := .int .i64 a1) (((((Below.refl W0.heap.size W0).alloc (Nat.le_refl _) _).alloc (by simp) _).drew.cell (p := ⟨w.heap.size, 1, none⟩) (by have hS := HS.out; simp; omega)).trans q1) (by have hS := HS.out; simp [Value.ownBlock]; omega); have x2 := hgrow4.cell (a := ⟨w.heap.size, 2, none⟩) (v := .int .i64 a2) (((((Below.refl W0.heap.size W0).alloc (Nat.le_refl _) _).alloc (by simp) _).drew.cell (p := ⟨w.heap.size, 2, none⟩) (by have hS := HS.out; simp; omega)).trans q2) (by have hS := HS.out; simp [Value.ownBlock]; omega); have x3 := hgrow4.cell (a := ⟨w.heap.size, 3, none⟩) (v := .int .i64 a3) (((((Below.refl W0.heap.size W0).alloc (Nat.le_refl _) _).alloc (by simp) _).drew.cell (p := ⟨w.heap.size, 3, none⟩) (by have hS := HS.out; simp; omega)).trans q3) (by have hS := HS.out; simp [Value.ownBlock]; omega); have x4 := hgrow4.cell (a := ⟨w.heap.size, 4, none⟩) (v := .int .i64 a4) (((((Below.refl W0.heap.size W0).alloc (Nat.le_refl _) _).alloc (by simp) _).drew.cell (p := ⟨w.heap.size, 4, none⟩) (by have hS := HS.out; simp; omega)).trans q4) (by have hS := HS.out; simp [Value.ownBlock]; omega); have x5 := hgrow4.cell (a := ⟨w.heap.size, 5, none⟩) (v := .int .i64 a5) (((((Below.refl W0.heap.size W0).alloc (Nat.le_refl _) _).alloc (by simp) _).drew.cell (p := ⟨w.heap.size, 5, none⟩) (by have hS := HS.out; simp; omega)).trans q5) (by have hS := HS.out; simp [Value.ownBlock]; omega); have s0 := hgrow4.cell (a := ⟨W0.heap.size, 0, none⟩) (v := .int .i64 a0) (by go_simp) (by have hS := HS.out; simp [Value.ownBlock]; try omega); have s1 := hgrow4.cell (a := ⟨W0.heap.size, 1, none⟩) (v := .int .i64 a1) (by go_simp) (by have hS := HS.out; simp [Value.ownBlock]; try omega); have s2 := hgrow4.cell (a := ⟨W0.heap.size, 2, none⟩) (v := .int .i64 a2) (by go_simp) (by have hS := HS.out; simp [Value.ownBlock]; try omega); have s3 := hgrow4.cell (a := ⟨W0.heap.size, 3, none⟩) (v := .int .i64 a3) (by go_simp) (by have hS := HS.out; simp [Value.ownBlock]; try omega); have s4 := hgrow4.cell (a := ⟨W0.heap.size, 4, none⟩) (v := .int .i64 a4) (by go_simp) (by have hS := HS.out; simp [Value.ownBlock]; try omega); have s5 := hgrow4.cell (a := ⟨W0.heap.size, 5, none⟩) (v := .int .i64 a5) (by go_simp) (by have hS := HS.out; simp [Value.ownBlock]; try omega); have hB4 := (((HB0.out.alloc HS0.out _).alloc (HS1.out _) _).drew).grown hgrow4 (by have hS := HS.out; simp; omega) (fun j hj => by have hS := HS.out; simp [Value.ownBlock] at hj; omega); have hZ4 := hB4.size)
    | (refine step_append_ownR _ rfl _ _ 44 rfl w.heap.size 48 i0 (.agg #[.int .i64 0, .int .i64 0, .int .i64 0, .int .i64 0, .int .i64 0, .int .i64 0]) 6 48 Try.underlying44 hi hz0 hz1 hz2 rfl (by decide) v4 0 (rls []) rfl (hown4.alloc _) ⟨w4.heap.size, 0, none⟩ 1 1 [.int .i64 a0, .int .i64 a1, .int .i64 a2, .int .i64 a3, .int .i64 a4, .int .i64 a5] rfl rfl (cells_six (by go_simp) (by go_simp) (by go_simp) (by go_simp) (by go_simp) (by go_simp)) (fun u hu => by simp at hu; rcases hu with rfl | rfl | rfl | rfl | rfl | rfl <;> rfl) H64.out (by omega) (by first | omega | (simp; omega)) ?_; intro v5 w5 hown5 hgrow5; have hB5 := (hB4.alloc hZ4 _).grown hgrow5 (by first | omega | (simp; omega)) (fun j hj => (hown4.lt j hj).1))
    | (refine step_append_ownR _ rfl _ _ 44 rfl w.heap.size 48 i0 (.agg #[.int .i64 0, .int .i64 0, .int .i64 0, .int .i64 0, .int .i64 0, .int .i64 0]) 6 48 Try.underlying44 hi hz0 hz1 hz2 rfl (by decide) v4 0 (rls []) rfl hown4 ⟨W0.heap.size + 1, 0, none⟩ 1 1 [.int .i64 a0, .int .i64 a1, .int .i64 a2, .int .i64 a3, .int .i64 a4, .int .i64 a5] rfl rfl (cells_six s0 s1 s2 s3 s4 s5) (fun u hu => by simp at hu; rcases hu with rfl | rfl | rfl | rfl | rfl | rfl <;> rfl) H64.out (by omega) hZ4 ?_; intro v5 w5 hown5 hgrow5; have hB5 := hB4.grown hgrow5 (by first | omega | (simp; omega)) (fun j hj => (hown4.lt j hj).1))
    | (refine step_append_ownR _ rfl _ _ 44 rfl w.heap.size 48 i0 (.agg #[.int .i64 0, .int .i64 0, .int .i64 0, .int .i64 0, .int .i64 0, .int .i64 0]) 6 48 Try.underlying44 hi hz0 hz1 hz2 rfl (by decide) v4 0 (rls []) rfl hown4 ⟨W0.heap.size, 0, none⟩ 1 1 [.int .i64 a0, .int .i64 a1, .int .i64 a2, .int .i64 a3, .int .i64 a4, .int .i64 a5] rfl rfl (cells_six s0 s1 s2 s3 s4 s5) (fun u hu => by simp at hu; rcases hu with rfl | rfl | rfl | rfl | rfl | rfl <;> rfl) H64.out (by omega) hZ4 ?_; intro v5 w5 hown5 hgrow5; have hB5 := hB4.grown hgrow5 (by first | omega | (simp; omega)) (fun j hj => (hown4.lt j hj).1)))
  all_goals
    go_simp
    go_wp2_with fail
    go_ret
    exact ⟨_, rfl, hown5, hB5⟩


theorem l7AddV_any (u : Value) (B : Nat) (xs : List R6) (a0 a1 a2 a3 a4 a5 : Int) (w : World) (h : w.ownsRow B 48 6 u xs.length (rls xs)) (hl : xs.length + 1 ≤ 1048576) :
    Calls Try.prog 115 #[u, .agg #[.int .i64 a0, .int .i64 a1, .int .i64 a2, .int .i64 a3, .int .i64 a4, .int .i64 a5]] w (AddPost (addS xs (a0, a1, a2, a3, a4, a5)) w) := by
  rcases h.2 with ⟨rfl, h0⟩ | ⟨g, cap, cur, rfl, _, hg, _⟩
  · obtain rfl : xs = [] := List.eq_nil_of_length_eq_zero h0
    exact l7Add_nil a0 a1 a2 a3 a4 a5 w
  · refine l7Add_any g 0 cap xs a0 a1 a2 a3 a4 a5 w ⟨by omega, (Array.getElem?_eq_some_iff.1 hg).1, fun j q hq => ?_⟩ hl
    rw [addr_add, Nat.zero_add]
    exact (h.cellAt j (by have := (List.getElem?_eq_some_iff.1 hq).1; rwa [rls_length] at this)).trans hq
end Go.Proofs.Ytcjpedolmnahfaa

/- Walks: Ingest: the model's own: a right cascade and a later point. -/
set_option linter.unusedVariables false
set_option linter.unusedSimpArgs false
namespace Go.Proofs.Ytcjpedolmnahfaa
open Go.RowKit

theorem addS_mem {xs : List R6} {x r : R6} (h : r ∈ addS xs x) : r.1 = x.1 ∨ ∃ r' ∈ xs, r.1 = r'.1 := by
  unfold addS at h
  split at h
  · rw [List.mem_append] at h
    rcases h with h | h
    · exact .inr ⟨r, h, rfl⟩
    · rw [List.mem_singleton] at h; subst h; exact .inl rfl
  · rename_i hc
    have h0 : ¬ xs.length = 0 := fun e => hc (.inl e)
    rcases List.mem_or_eq_of_mem_set h with h | h
    · exact .inr ⟨r, h, rfl⟩
    · subst h
      refine .inr ⟨lastR xs, ?_, rfl⟩
      show xs.getD (xs.length - 1) z6 ∈ xs
      rw [List.getD_eq_getElem?_getD, List.getElem?_eq_getElem (by omega)]
      exact List.getElem_mem _
theorem casc_smallS {c : Cs} (h : cascB c = true) : c.2.2.1.length ≤ 120 ∧ c.2.2.2.length ≤ 4 ∧ ∀ j, j < c.2.2.2.length → (1 ≤ (c.2.2.2.getD j zLv).1 ∧ (c.2.2.2.getD j zLv).1 ≤ 1000000) ∧ (c.2.2.2.getD j zLv).2.2.length ≤ 400 := by
  unfold cascB at h
  rw [Bool.and_eq_true, Bool.and_eq_true] at h
  obtain ⟨h1, h2, h3, h4⟩ := headB_in h.1
  refine ⟨?_, by omega, fun j hj => ?_⟩
  · unfold ptsSmB at h3
    rw [Bool.and_eq_true] at h3
    have := (timesOkB_rng (show timesOkB (c.2.2.1.map Prod.fst) = true from h3.2)).1
    rwa [List.length_map] at this
  · have hl := lvsB_at h.2.2 j hj
    generalize (if j = 0 then (1 : Int) else (c.2.2.2.getD (j - 1) zLv).1) = w0 at hl
    generalize (if j = 0 then c.2.1 else (c.2.2.2.getD (j - 1) zLv).2.1) = k0 at hl
    generalize c.2.2.2.getD j zLv = x at *
    unfold lvB at hl
    rw [Bool.and_eq_true, Bool.and_eq_true] at hl
    obtain ⟨a, b, _⟩ := rollsOkB_in hl.2.1
    exact ⟨⟨b.1, b.2⟩, a⟩
theorem ing_advS {c : Cs} {p : Int × Int} (h : cascB c = true) (hp : c.1 < p.1) (h0 : 0 ≤ p.1) : ∀ j, j < (addC p c).2.2.2.length → (1 ≤ ((addC p c).2.2.2.getD j zLv).1 ∧ ((addC p c).2.2.2.getD j zLv).1 ≤ 1000000) ∧ (0 ≤ ((addC p c).2.2.2.getD j zLv).2.1 ∧ ((addC p c).2.2.2.getD j zLv).2.1 ≤ 1000000000) ∧ ((addC p c).2.2.2.getD j zLv).2.2.length ≤ 1048576 ∧ ∀ r ∈ ((addC p c).2.2.2.getD j zLv).2.2, 0 ≤ r.1 ∧ r.1 ≤ (addC p c).1 := by
  intro j hj
  have hj : j < (c.2.2.2.map (addLv p)).length := hj
  rw [List.length_map] at hj
  have hg : (addC p c).2.2.2.getD j zLv = addLv p (c.2.2.2.getD j zLv) := by show (c.2.2.2.map (addLv p)).getD j zLv = _; simp [List.getD_eq_getElem?_getD, hj]
  rw [hg]
  have a := casc_adv h p.1 (by omega) j hj
  have b := (casc_smallS h).2.2 j hj
  generalize c.2.2.2.getD j zLv = x at a b
  have hl := addS_len x.2.2 (oneR x.1 p)
  refine ⟨a.1, a.2.1, by show (addS _ _).length ≤ _; omega, fun r hr => ?_⟩
  rcases addS_mem hr with e | ⟨r', hr', e⟩
  · rw [e]
    show 0 ≤ p.1 / x.1 * x.1 ∧ p.1 / x.1 * x.1 ≤ p.1
    have e1 := Int.emod_nonneg p.1 (show x.1 ≠ 0 by omega)
    have e2 := Int.mul_nonneg (Int.ediv_nonneg h0 (show 0 ≤ x.1 by omega)) (show 0 ≤ x.1 by omega)
    have e3 := Int.mul_ediv_add_emod p.1 x.1
    rw [Int.mul_comm] at e3
    omega
  · rw [e]; exact a.2.2.2 r' hr'
theorem win_le {t W : Int} (ht : 0 ≤ t ∧ t ≤ 1000000000000) (hW : 1 ≤ W) : 0 ≤ t / W ∧ t / W ≤ t ∧ 0 ≤ t / W * W ∧ t / W * W ≤ t := by
  have h0 := Int.ediv_nonneg ht.1 (b := W) (by omega)
  have h2 := Int.ediv_le_self W ht.1
  have e2 := Int.mul_nonneg h0 (show 0 ≤ W by omega)
  have e1 := Int.emod_nonneg t (show W ≠ 0 by omega)
  have e3 := Int.mul_ediv_add_emod t W
  rw [Int.mul_comm] at e3
  omega

/-- while the model adds a point's roll to each level -/
structure IngI (w1 : World) (ob pb base : Nat) (t v kp : Int) (rp : List (Int × Int)) (ls : List Lv) (rv lv : Value) (k : Nat) (es : List LvC) (W : World) : Prop where
  box : BoxN W ob #[.int .i64 t, .int .i64 kp, rv, lv] 30
  pt : BoxN W pb #[.int .i64 t, .int .i64 v] 43
  co : CO W base (t, kp, rp ++ [(t, v)], updA (t, v) (List.range k) ls) rv lv es
  bel : Below base w1 W
theorem updA_range (p : Int × Int) {ls : List Lv} {k : Nat} (hk : k < ls.length) : (updA p (List.range k) ls).set k (addLv p (ls.getD k zLv)) = updA p (List.range (k + 1)) ls := by
  rw [updA_snoc p _ ls hk (by simp), List.range_succ]
theorem IngI.step {w1 wr W8 : World} {ob pb base gl c3 k : Nat} {t v kp : Int} {rp : List (Int × Int)} {ls : List Lv} {rv r' : Value} {es : List LvC} (h : IngI w1 ob pb base t v kp rp ls rv (.slice (some ⟨gl, 0, none⟩) ls.length c3) k es wr) (hk : k < ls.length) (hpb : pb < base)
    (hb8 : Below wr.heap.size wr W8) (hor : W8.ownsRow wr.heap.size 48 6 r' (addLv (t, v) (ls.getD k zLv)).2.2.length (rls (addLv (t, v) (ls.getD k zLv)).2.2)) (hpos : 0 < (addLv (t, v) (ls.getD k zLv)).2.2.length) (hbw : base ≤ wr.heap.size) :
    ∃ es', IngI w1 ob pb base t v kp rp ls rv (.slice (some ⟨gl, 0, none⟩) ls.length c3) (k + 1) es' (W8.setCell ⟨gl, k * 3 + 2, none⟩ r') := by
  have hL : (updA (t, v) (List.range k) ls).length = ls.length := updA_length _ _ _
  have hgl : OBk (t, kp, rp ++ [(t, v)], updA (t, v) (List.range k) ls) rv (.slice (some ⟨gl, 0, none⟩) ls.length c3) es gl := .inr (.inl rfl)
  have hglb := (h.co.lt hgl).1
  have hS := CO.setRolls (c3 := c3) (gl := gl) (W2 := W8) (r' := r') (kept := (addLv (t, v) (ls.getD k zLv)).2.2) (by rw [hL]; exact h.co) (show k < (updA (t, v) (List.range k) ls).length by omega) (own_lift hor hbw) (grew_of_below hb8 _) (by
    rcases hor.2 with ⟨_, h0⟩ | ⟨g, cap, cur, rfl, hge, _, _⟩
    · omega
    · exact .inr ⟨g, rfl, hge⟩)
  rw [updA_same (t, v) _ ls hk (by simp), hL] at hS
  have e2 : ((ls.getD k zLv).1, (ls.getD k zLv).2.1, (addLv (t, v) (ls.getD k zLv)).2.2) = addLv (t, v) (ls.getD k zLv) := rfl
  rw [e2, updA_range (t, v) hk] at hS
  have hne := h.co.ne_box h.box gl hgl
  refine ⟨_, ?_, ?_, hS, ?_⟩
  · exact (Below.heap_setCell _ _ _ _ (fun e => hne e.symm)).trans ((hb8.block _ h.box.lt).trans h.box)
  · exact (Below.heap_setCell _ _ _ _ (by show ¬ pb = gl; omega)).trans ((hb8.block _ h.pt.lt).trans h.pt)
  · exact (h.bel.trans (hb8.mono hbw)).setCell (p := ⟨gl, k * 3 + 2, none⟩) hglb _
/-- what the loads of a round read, while a call makes memory and its result is stored -/
def KQ (t v : Int) (l : Value) (ob pb n : Nat) (W : World) : Prop := W.cell? ⟨pb, 0, none⟩ = some (.int .i64 t) ∧ W.cell? ⟨pb, 1, none⟩ = some (.int .i64 v) ∧ W.cell? ⟨ob, 3, none⟩ = some l ∧ n ≤ W.heap.size ∧ ob < n ∧ pb < n
theorem KQ.of {t v : Int} {l : Value} {ob pb n : Nat} {W : World} (h : KQ t v l ob pb n W) : KQ t v l ob pb n W ∧ W.cell? ⟨pb, 0, none⟩ = some (.int .i64 t) ∧ W.cell? ⟨pb, 1, none⟩ = some (.int .i64 v) ∧ W.cell? ⟨ob, 3, none⟩ = some l := ⟨h, h.1, h.2.1, h.2.2.1⟩
theorem KQ.next {t v : Int} {l : Value} {ob pb n : Nat} {W W' : World} (h : KQ t v l ob pb n W) (hb : Below n W W') : KQ t v l ob pb n W' := ⟨(hb.cell (p := ⟨pb, 0, none⟩) h.2.2.2.2.2).trans h.1, (hb.cell (p := ⟨pb, 1, none⟩) h.2.2.2.2.2).trans h.2.1, (hb.cell (p := ⟨ob, 3, none⟩) h.2.2.2.2.1).trans h.2.2.1, Nat.le_trans h.2.2.2.1 hb.size, h.2.2.2.2⟩
theorem KQ.set {t v : Int} {l : Value} {ob pb n gl : Nat} {W : World} (h : KQ t v l ob pb n W) (h1 : ¬ gl = ob) (h2 : ¬ gl = pb) (i : Nat) (x : Value) : KQ t v l ob pb n (W.setCell ⟨gl, i, none⟩ x) := by
  have e : ∀ b j, ¬ gl = b → (W.setCell ⟨gl, i, none⟩ x).cell? ⟨b, j, none⟩ = W.cell? ⟨b, j, none⟩ := fun b j hb => heap_cell (Below.heap_setCell _ _ _ _ (fun e => hb e.symm))
  exact ⟨(e _ _ h2).trans h.1, (e _ _ h2).trans h.2.1, (e _ _ h1).trans h.2.2.1, by show n ≤ (W.setCell _ x).heap.size; simp [World.setCell]; exact h.2.2.2.1, h.2.2.2.2⟩
theorem CO.setNow {W : World} {base : Nat} {a b kp : Int} {rp : List (Int × Int)} {ls : List Lv} {rv lv : Value} {es : List LvC} (h : CO W base (a, kp, rp, ls) rv lv es) : CO W base (b, kp, rp, ls) rv lv es := ⟨h.raw, h.len, h.row, h.lv, h.own, h.dist⟩

set_option maxRecDepth 100000 in
set_option maxHeartbeats 8000000 in
theorem l8Ingest_any (cv : Value) (c : Cs) (t v : Int) (w : World) (h : CV w w.heap.size cv c) (hc : cascB c = true) (h1 : c.1 < t) (h2 : t ≤ 1000000000000) (hvr : Rng v) :
    Calls Try.prog 75 #[cv, .agg #[.int .i64 t, .int .i64 v]] w (CPostD w.heap.size (ingC (t, v) c) w) := by
  have HV := Lib.hid h
  have hCp := Lib.hid (fun W h hl => l8CopyO_any cv c W h hl)
  have hDr := Lib.hid (fun u W h hl hn hk hlv => l8Drop_any u (addC (t, v) c) W h hl hn hk hlv)
  obtain ⟨hn0, hk0, hkk⟩ := cascB_keep hc
  clear hkk
  have hlv := Lib.hid (ing_advS (p := (t, v)) hc h1 (by show 0 ≤ t; omega))
  have hCR := Lib.hid (addC_cr (p := (t, v)) hc (by show 0 ≤ t ∧ t ≤ 1000000000000; omega) hvr)
  obtain ⟨hq1, hq2, hq3⟩ := casc_smallS hc
  have HA := Lib.hid (fun u B xs a0 W h hl => l7AddV_any u B xs a0 1 v v v v W h hl)
  obtain ⟨nw0, kp, rp, ls⟩ := c
  obtain ⟨rv, lv, rfl, hP, hL, z1, z2⟩ := h
  simp only at hP hL h1 hn0 hk0 hq1 hq2 hq3
  obtain ⟨z3, hpl, Ap, cp, rfl, z4⟩ := hP
  obtain ⟨z5, hll, Al, cl, rfl, z6⟩ := hL
  clear z1 z2 z3 z4 z5 z6 hc
  have HQ3 := Lib.hid hq3
  have ht0 : 0 ≤ t := by omega
  clear hq3
  obtain ⟨w1, hw1⟩ : ∃ w1, ((w.alloc (.cells #[.int .i64 nw0, .int .i64 kp, .slice Ap rp.length cp, .slice Al ls.length cl] 30)).alloc (.cells #[.int .i64 t, .int .i64 v] 43)).alloc (.cells #[.int .i64 0, .int .i64 0, .slice none 0 0, .slice none 0 0] 30) = w1 := ⟨_, rfl⟩
  have B1 := Lib.hid (show Below w.heap.size w w1 from by rw [← hw1]; exact (((Below.refl _ w).alloc (Nat.le_refl _) _).alloc (by simp) _).alloc (by simp; omega) _)
  have X1 : Hid (BoxN w1 w.heap.size #[.int .i64 nw0, .int .i64 kp, .slice Ap rp.length cp, .slice Al ls.length cl] 30) := Lib.hid (by
    have h := World.alloc_heap_new w (.cells #[.int .i64 nw0, .int .i64 kp, .slice Ap rp.length cp, .slice Al ls.length cl] 30)
    rw [← hw1]
    exact (Below.heap_alloc _ _ _ (by simp; omega)).trans ((Below.heap_alloc _ _ _ (by simp)).trans h))
  have P1 : Hid (BoxN w1 (w.heap.size + 1) #[.int .i64 t, .int .i64 v] 43) := Lib.hid (by
    have h := World.alloc_heap_new (w.alloc (.cells #[.int .i64 nw0, .int .i64 kp, .slice Ap rp.length cp, .slice Al ls.length cl] 30)) (.cells #[.int .i64 t, .int .i64 v] 43)
    rw [World.size_alloc] at h
    rw [← hw1]
    exact (Below.heap_alloc _ _ _ (by simp)).trans h)
  have R1 : Hid (BoxN w1 (w.heap.size + 2) #[.int .i64 0, .int .i64 0, .slice none 0 0, .slice none 0 0] 30) := Lib.hid (by
    have h := World.alloc_heap_new ((w.alloc (.cells #[.int .i64 nw0, .int .i64 kp, .slice Ap rp.length cp, .slice Al ls.length cl] 30)).alloc (.cells #[.int .i64 t, .int .i64 v] 43)) (.cells #[.int .i64 0, .int .i64 0, .slice none 0 0, .slice none 0 0] 30)
    rw [World.size_alloc, World.size_alloc] at h
    rw [← hw1]; exact h)
  have S1 : w.heap.size + 3 ≤ w1.heap.size := by rw [← hw1]; simp
  have HW1 := Lib.hid hw1
  clear hw1
  have x0 := X1.out.cell (i := 0) rfl
  have x1 := X1.out.cell (i := 1) rfl
  have x2 := X1.out.cell (i := 2) rfl
  have x3 := X1.out.cell (i := 3) rfl
  go_enter Try.func75, Try.ntmps75
  go_wp2_with fail
  rw [HW1.out]
  go_wp2_with fail
  refine (hCp.out _ ((HV.out.below B1.out).up B1.out.size) (by show ls.length ≤ 1000; omega)).mono ?_
  rintro e w2 ⟨rv2, lv2, es2, rfl, hco2, hb2⟩
  have S2 := hb2.size
  obtain ⟨pa, pc, rfl⟩ := (ORow.of_own hco2.raw).shape
  obtain ⟨A3, c3, rfl⟩ := (ORow.of_own hco2.row).shape
  obtain ⟨w3, hw3⟩ : ∃ w3, w2.alloc (.cells #[.int .i64 nw0, .int .i64 kp, .slice pa rp.length pc, .slice A3 ls.length c3] 30) = w3 := ⟨_, rfl⟩
  obtain ⟨ob, hob⟩ : ∃ ob, w2.heap.size = ob := ⟨_, rfl⟩
  have hb3 : Below w2.heap.size w2 w3 := by rw [← hw3]; exact (Below.refl _ _).alloc (Nat.le_refl _) _
  have X3 : BoxN w3 ob #[.int .i64 nw0, .int .i64 kp, .slice pa rp.length pc, .slice A3 ls.length c3] 30 := by rw [← hob, ← hw3]; exact World.alloc_heap_new w2 _
  have HCO3 := Lib.hid (hco2.at_ (W' := w3) (fun g hg => hb3.block g (hco2.lt hg).2))
  have D3 := Lib.hid (show Below w1.heap.size w1 w3 from hb2.trans (hb3.mono S2))
  have hobl : w1.heap.size ≤ ob := by omega
  have S3 := hb3.size
  have P3 : BoxN w3 (w.heap.size + 1) #[.int .i64 t, .int .i64 v] 43 := P1.out.below D3.out
  have p0 := BoxN.cell (i := 0) P3 rfl
  have p1 := BoxN.cell (i := 1) P3 rfl
  have f0 := BoxN.frozen (i := 0) X3
  have g0 := BoxN.cell (i := 0) X3 rfl
  have HX3 := Lib.hid X3
  have HP3 := Lib.hid P3
  have HW3 := Lib.hid hw3
  have HOB := Lib.hid hob
  clear hw3 X3 P3 hco2 hb3 hb2 x0 x1 x2 x3 P1 X1 hCp HV hob
  go_upto_region 2 with fail
  rw [HW3.out, HOB.out]
  clear HW3
  go_upto_region 3 with fail
  obtain ⟨w4, hw4⟩ : ∃ w4, w3.setCell ⟨ob, 0, none⟩ (.int .i64 t) = w4 := ⟨_, rfl⟩
  have X4 : BoxN w4 ob #[.int .i64 t, .int .i64 kp, .slice pa rp.length pc, .slice A3 ls.length c3] 30 := by rw [← hw4]; exact heap_setCell_same w3 ob 0 _ _ (.int .i64 t) HX3.out
  have P4 : BoxN w4 (w.heap.size + 1) #[.int .i64 t, .int .i64 v] 43 := by rw [← hw4]; exact (Below.heap_setCell _ _ _ _ (by simp; omega)).trans HP3.out
  have CO4 : CO w4 w1.heap.size (nw0, kp, rp, ls) (.slice pa rp.length pc) (.slice A3 ls.length c3) es2 := by rw [← hw4]; exact HCO3.out.setBox HX3.out 0 _
  have D4 : Below w1.heap.size w1 w4 := by rw [← hw4]; exact D3.out.setCell (p := ⟨ob, 0, none⟩) hobl _
  have S4 : w4.heap.size = w3.heap.size := by rw [← hw4]; simp [World.setCell]
  have HOL : ob < w4.heap.size := X4.lt
  have HX4 := Lib.hid X4
  have HP4 := Lib.hid P4
  have HC4 := Lib.hid CO4
  have HD4 := Lib.hid D4
  have HS4 := Lib.hid S4
  have HW4 := Lib.hid hw4
  have y2 := X4.cell (i := 2) rfl
  have q0 := P4.cell (i := 0) rfl
  have q1 := P4.cell (i := 1) rfl
  clear hw4 X4 P4 CO4 D4 p0 p1 f0 g0 HX3 HP3 HCO3 D3 S4
  rw [HW4.out]
  clear HW4
  obtain ⟨i0, hi, hz0, hz1, hz2⟩ := info_parts info_pt
  have HO4 := Lib.hid (HC4.out.raw.alloc (.cells #[.int .i64 t, .int .i64 v] 43))
  have HO4b := Lib.hid (show w4.ownsRow w1.heap.size 43 2 (.slice pa rp.length pc) rp.length (prs rp) from HC4.out.raw)
  have B4s := Lib.hid (show w1.heap.size ≤ w4.heap.size from HD4.out.size)
  have X5 := Lib.hid (show BoxN (w4.alloc (.cells #[.int .i64 t, .int .i64 v] 43)) ob #[.int .i64 t, .int .i64 kp, .slice pa rp.length pc, .slice A3 ls.length c3] 30 from (Below.heap_alloc _ _ _ HOL).trans HX4.out)
  go_wp2_with (at_builtin; refine wpList_append_own _ rfl _ _ 27 rfl w1.heap.size 43 i0 (.agg #[.int .i64 0, .int .i64 0]) 2 16 Try.underlying27 hi hz0 hz1 hz2 rfl (by decide) (.slice pa rp.length pc) rp.length (prs rp) rfl HO4.out ⟨w4.heap.size, 0, none⟩ 1 1 [.int .i64 t, .int .i64 v] rfl rfl (two_cells (by go_simp) (by go_simp)) ?c2 ?c3 ?c4 ?c5 ?_)
  case c2 => first | exact ⟨rfl, rfl⟩ | (intro u hu; simp at hu; rcases hu with rfl | rfl <;> rfl)
  case c3 => unfold maxLen; omega
  case c4 => omega
  case c5 => have := B4s.out; simp; omega
  intro v6 w6 hown6 hgrow6 _
  obtain ⟨pa7, pc7, rfl⟩ := (ORow.of_own hown6).shape
  have X6 := BoxN.kept X5.out hgrow6 (own_ne_box HO4.out X5.out pt_ne_ic)
  have P6 : BoxN w6 (w.heap.size + 1) #[.int .i64 t, .int .i64 v] 43 := (hgrow6.block _ (by have := B4s.out; simp; omega) (fun e => by have := (HO4.out.lt _ e.symm).1; omega)).trans ((Below.heap_alloc _ _ _ (by have := B4s.out; omega)).trans HP4.out)
  have D6 : Below w1.heap.size w1 w6 := (HD4.out.alloc B4s.out _).grown hgrow6 (by have := B4s.out; simp; omega) (fun j hj => (HO4.out.lt j hj).1)
  have CO6 : CO w6 w1.heap.size (t, kp, rp ++ [(t, v)], ls) (.slice pa7 (rp.length + 1) pc7) (.slice A3 ls.length c3) es2 := (((HC4.out.at_ (W' := w4.alloc (.cells #[.int .i64 t, .int .i64 v] 43)) (fun g hg => Below.heap_alloc _ _ _ (HC4.out.lt hg).2)).setRaw (rp' := rp ++ [(t, v)]) (by rw [List.length_append, prs_append]; exact hown6) hgrow6)).setNow
  have f2 := BoxN.frozen (i := 2) X6
  have g2 := BoxN.cell (i := 2) X6 rfl
  obtain ⟨w7, hw7⟩ : ∃ w7, w6.setCell ⟨ob, 2, none⟩ (.slice pa7 (rp.length + 1) pc7) = w7 := ⟨_, rfl⟩
  have X7 : BoxN w7 ob #[.int .i64 t, .int .i64 kp, .slice pa7 (rp.length + 1) pc7, .slice A3 ls.length c3] 30 := by rw [← hw7]; exact heap_setCell_same w6 ob 2 _ _ _ X6
  have P7 : BoxN w7 (w.heap.size + 1) #[.int .i64 t, .int .i64 v] 43 := by rw [← hw7]; exact (Below.heap_setCell _ _ _ _ (by simp; omega)).trans P6
  have CO7 : CO w7 w1.heap.size (t, kp, rp ++ [(t, v)], ls) (.slice pa7 (rp.length + 1) pc7) (.slice A3 ls.length c3) es2 := by rw [← hw7]; exact CO6.setBox X6 2 _
  have D7 : Below w1.heap.size w1 w7 := by rw [← hw7]; exact D6.setCell (p := ⟨ob, 2, none⟩) hobl _
  have HI7 := Lib.hid (show IngI w1 ob (w.heap.size + 1) w1.heap.size t v kp rp ls (.slice pa7 (rp.length + 1) pc7) (.slice A3 ls.length c3) 0 es2 w7 from ⟨X7, P7, by rw [show updA (t, v) (List.range 0) ls = ls from updA_nil _ _]; exact CO7, D7⟩)
  have HW7 := Lib.hid hw7
  clear hw7 X7 P7 CO7 D7 X6 P6 CO6 D6 hown6 hgrow6 y2 q0 q1 HO4 HO4b X5 HX4 HP4 HC4 HD4 HS4 B4s HOL
  go_wp2_with fail
  rw [HW7.out]
  clear HW7 f2 g2
  go_loopw [6] (fun i wr => ∃ (k : Nat) (es : List LvC), k ≤ ls.length ∧ i = .int .i64 (k : Int) ∧ Hid (IngI w1 ob (w.heap.size + 1) w1.heap.size t v kp rp ls (.slice pa7 (rp.length + 1) pc7) (.slice A3 ls.length c3) k es wr))
    (fun i _ => ls.length - (intOf i).toNat)
  case atStart => exact ⟨0, es2, Nat.zero_le _, rfl, HI7⟩
  case round =>
    obtain ⟨k, es, hkl, rfl, HI⟩ := hrel
    have y3 := BoxN.cell (i := 3) HI.out.box rfl
    have hbw : w1.heap.size ≤ wr.heap.size := HI.out.bel.size
    by_cases hlt : k < ls.length
    · have hltI : (k : Int) < (ls.length : Int) := by omega
      obtain ⟨gl, rfl⟩ : ∃ gl, A3 = some ⟨gl, 0, none⟩ := by
        rcases HI.out.co.row.2 with ⟨h0, h1⟩ | ⟨g, cap, cur, he, _⟩
        · have h1 : (updA (t, v) (List.range k) ls).length = 0 := h1
          rw [updA_length] at h1
          omega
        · injection he with e1 _ _; exact ⟨g, e1⟩
      have hL : (updA (t, v) (List.range k) ls).length = ls.length := updA_length _ _ _
      have hsame := updA_same (t, v) (List.range k) ls hlt (by simp)
      have hcL := HI.out.co.lv k (show k < (updA (t, v) (List.range k) ls).length by omega)
      have hown := HI.out.co.own k (show k < (updA (t, v) (List.range k) ls).length by omega)
      have hrow := HI.out.co.row
      have hel := HI.out.co.len
      simp only at hcL hown hrow hel
      rw [hsame] at hcL hown
      rw [hL] at hrow hel
      have c0 : wr.cell? ⟨gl, k * 3, none⟩ = some (.int .i64 (ls.getD k zLv).1) := by rw [hrow.cellAt _ (by omega), ← hcL.1]; exact lvs_get0 _ _ (by omega)
      have c2 : wr.cell? ⟨gl, k * 3 + 2, none⟩ = some (es.getD k zLc).2.2 := by rw [hrow.cellAt _ (by omega)]; exact lvs_get2 _ _ (by omega)
      have hq := HQ3.out k hlt
      have hst := fun W8 r' a b c => IngI.step (W8 := W8) (r' := r') HI.out hlt (by omega) a b c hbw
      have hor0 : (addLv (t, v) (ls.getD k zLv)).2.2 = addS (ls.getD k zLv).2.2 ((t / (ls.getD k zLv).1 * (ls.getD k zLv).1), 1, v, v, v, v) := rfl
      rw [hor0] at hst
      have hpos := addS_pos (ls.getD k zLv).2.2 ((t / (ls.getD k zLv).1 * (ls.getD k zLv).1), 1, v, v, v, v)
      obtain ⟨u, hu⟩ : ∃ u, (es.getD k zLc).2.2 = u := ⟨_, rfl⟩
      obtain ⟨rs, hrs⟩ : ∃ rs, (ls.getD k zLv).2.2 = rs := ⟨_, rfl⟩
      obtain ⟨Wd, hWd⟩ : ∃ Wd, (ls.getD k zLv).1 = Wd := ⟨_, rfl⟩
      rw [hu] at c2 hown
      rw [hrs] at hown hst hpos hq
      rw [hWd] at c0 hst hpos hq
      have HST := Lib.hid hst
      have HPO := Lib.hid hpos
      have HOW := Lib.hid hown
      have HRW := Lib.hid hrow
      clear hst hpos hown hrow hcL hel hsame hL hor0 hu hrs hWd
      obtain ⟨hq4, hq5⟩ := hq
      have hwl := win_le (t := t) (W := Wd) ⟨ht0, h2⟩ hq4.1
      have hw0 : ¬ Wd = 0 := by omega
      have hwz : (Wd == 0) = false := by simpa using hw0
      have e3 : t.tdiv Wd = t / Wd := Int.tdiv_eq_ediv_of_nonneg ht0
      have e4 : IntKind.i64.wrap (t / Wd) = t / Wd := IntWalk.i64_in _ (by omega)
      have e2 : IntKind.i64.wrap (t / Wd * Wd) = t / Wd * Wd := IntWalk.i64_in _ (by omega)
      have p0 := BoxN.cell (i := 0) HI.out.pt rfl
      have p1 := BoxN.cell (i := 1) HI.out.pt rfl
      have hbox := HI.out.box
      have HBX := Lib.hid hbox
      clear hbox hwl
      go_wp2_with fail
      have HK0 : KQ t v (.slice (some ⟨gl, 0, none⟩) ls.length c3) ob (w.heap.size + 1) wr.heap.size wr.drew := ⟨p0, p1, y3, Nat.le_refl _, HBX.out.lt, by omega⟩
      have hgo : ¬ gl = ob := HI.out.co.ne_box HBX.out gl (.inr (.inl rfl))
      have hgp : ¬ gl = w.heap.size + 1 := by have := (HI.out.co.lt (g := gl) (.inr (.inl rfl))).1; omega
      have HKO := Lib.hid (KQ.of HK0)
      clear HK0
      refine wp_region_held_drew (S := fun W => KQ t v (.slice (some ⟨gl, 0, none⟩) ls.length c3) ob (w.heap.size + 1) wr.heap.size W) (by kernel_rfl) HKO.out.1 (fun hS => ?_)
      have hgS := hS
      refine wpAnyH_take (i := 0) (v := .pointer (some ⟨ob, 3, none⟩)) rfl (by kernel_rfl) (by kernel_rfl) (by kernel_rfl) (fun _ _ _ h => h) (Or.inl ⟨by kernel_rfl, ?t0⟩) (by assumption) ?_
      case t0 =>
        intro W hW
        have z0 := hW.1
        have z1 := hW.2.1
        have z2 := hW.2.2.1
        clear hW
        go_simp
      refine wpAnyH_take (i := 1) (v := .slice (some ⟨gl, 0, none⟩) ls.length c3) rfl (by kernel_rfl) (by kernel_rfl) (by kernel_rfl) (fun _ _ _ h => h) (Or.inl ⟨by kernel_rfl, ?t1⟩) (by assumption) ?_
      case t1 =>
        intro W hW
        have z0 := hW.1
        have z1 := hW.2.1
        have z2 := hW.2.2.1
        clear hW
        go_simp
      refine wpAnyH_take (i := 2) (v := .int .i64 (k : Int)) rfl (by kernel_rfl) (by kernel_rfl) (by kernel_rfl) (fun _ _ _ h => h) (Or.inl ⟨by kernel_rfl, ?t2⟩) (by assumption) ?_
      case t2 =>
        intro W hW
        have z0 := hW.1
        have z1 := hW.2.1
        have z2 := hW.2.2.1
        clear hW
        go_simp
      refine wpAnyH_take (i := 3) (v := .pointer (some ⟨ob, 3, none⟩)) rfl (by kernel_rfl) (by kernel_rfl) (by kernel_rfl) (fun _ _ _ h => h) (Or.inl ⟨by kernel_rfl, ?t3⟩) (by assumption) ?_
      case t3 =>
        intro W hW
        have z0 := hW.1
        have z1 := hW.2.1
        have z2 := hW.2.2.1
        clear hW
        go_simp
      refine wpAnyH_take (i := 4) (v := .slice (some ⟨gl, 0, none⟩) ls.length c3) rfl (by kernel_rfl) (by kernel_rfl) (by kernel_rfl) (fun _ _ _ h => h) (Or.inl ⟨by kernel_rfl, ?t4⟩) (by assumption) ?_
      case t4 =>
        intro W hW
        have z0 := hW.1
        have z1 := hW.2.1
        have z2 := hW.2.2.1
        clear hW
        go_simp
      refine wpAnyH_take (i := 5) (v := .int .i64 (k : Int)) rfl (by kernel_rfl) (by kernel_rfl) (by kernel_rfl) (fun _ _ _ h => h) (Or.inl ⟨by kernel_rfl, ?t5⟩) (by assumption) ?_
      case t5 =>
        intro W hW
        have z0 := hW.1
        have z1 := hW.2.1
        have z2 := hW.2.2.1
        clear hW
        go_simp
      refine wpAnyH_take (i := 6) (v := .pointer (some ⟨gl, k * 3, none⟩)) rfl (by kernel_rfl) (by kernel_rfl) (by kernel_rfl) (fun _ _ _ h => h) (Or.inl ⟨by kernel_rfl, ?t6⟩) (by assumption) ?_
      case t6 =>
        intro W hW
        have z0 := hW.1
        have z1 := hW.2.1
        have z2 := hW.2.2.1
        clear hW
        go_simp
      refine wpAnyH_take (i := 7) (v := .pointer (some ⟨gl, k * 3 + 2, none⟩)) rfl (by kernel_rfl) (by kernel_rfl) (by kernel_rfl) (fun _ _ _ h => h) (Or.inl ⟨by kernel_rfl, ?t7⟩) (by assumption) ?_
      case t7 =>
        intro W hW
        have z0 := hW.1
        have z1 := hW.2.1
        have z2 := hW.2.2.1
        clear hW
        go_simp
      refine wpAnyH_take (i := 9) (v := .pointer (some ⟨w.heap.size + 1, 0, none⟩)) rfl (by kernel_rfl) (by kernel_rfl) (by kernel_rfl) (fun _ _ _ h => h) (Or.inl ⟨by kernel_rfl, ?t9⟩) (by assumption) ?_
      case t9 =>
        intro W hW
        have z0 := hW.1
        have z1 := hW.2.1
        have z2 := hW.2.2.1
        clear hW
        go_simp
      refine wpAnyH_take (i := 10) (v := .int .i64 t) rfl (by kernel_rfl) (by kernel_rfl) (by kernel_rfl) (fun _ _ _ h => h) (Or.inl ⟨by kernel_rfl, ?t10⟩) (by assumption) ?_
      case t10 =>
        intro W hW
        have z0 := hW.1
        have z1 := hW.2.1
        have z2 := hW.2.2.1
        clear hW
        go_simp
      refine wpAnyH_take (i := 11) (v := .int .i64 Wd) rfl (by kernel_rfl) (by kernel_rfl) (by kernel_rfl) (fun _ _ _ h => h) (Or.inl ⟨by kernel_rfl, ?t11⟩) (by assumption) ?_
      case t11 =>
        intro W hW
        have z0 := hW.1
        have z1 := hW.2.1
        have z2 := hW.2.2.1
        clear hW
        go_simp
      refine wpAnyH_take (i := 12) (v := .int .i64 (t / Wd)) rfl (by kernel_rfl) (by kernel_rfl) (by kernel_rfl) (fun _ _ _ h => h) (Or.inl ⟨by kernel_rfl, ?t12⟩) (by assumption) ?_
      case t12 =>
        intro W hW
        have z0 := hW.1
        have z1 := hW.2.1
        have z2 := hW.2.2.1
        clear hW
        go_simp
      refine wpAnyH_take (i := 13) (v := .int .i64 Wd) rfl (by kernel_rfl) (by kernel_rfl) (by kernel_rfl) (fun _ _ _ h => h) (Or.inl ⟨by kernel_rfl, ?t13⟩) (by assumption) ?_
      case t13 =>
        intro W hW
        have z0 := hW.1
        have z1 := hW.2.1
        have z2 := hW.2.2.1
        clear hW
        go_simp
      refine wpAnyH_take (i := 14) (v := .int .i64 (t / Wd * Wd)) rfl (by kernel_rfl) (by kernel_rfl) (by kernel_rfl) (fun _ _ _ h => h) (Or.inl ⟨by kernel_rfl, ?t14⟩) (by assumption) ?_
      case t14 =>
        intro W hW
        have z0 := hW.1
        have z1 := hW.2.1
        have z2 := hW.2.2.1
        clear hW
        go_simp
      refine wpAnyH_take (i := 15) (v := .pointer (some ⟨w.heap.size + 1, 1, none⟩)) rfl (by kernel_rfl) (by kernel_rfl) (by kernel_rfl) (fun _ _ _ h => h) (Or.inl ⟨by kernel_rfl, ?t15⟩) (by assumption) ?_
      case t15 =>
        intro W hW
        have z0 := hW.1
        have z1 := hW.2.1
        have z2 := hW.2.2.1
        clear hW
        go_simp
      refine wpAnyH_take (i := 16) (v := .int .i64 v) rfl (by kernel_rfl) (by kernel_rfl) (by kernel_rfl) (fun _ _ _ h => h) (Or.inl ⟨by kernel_rfl, ?t16⟩) (by assumption) ?_
      case t16 =>
        intro W hW
        have z0 := hW.1
        have z1 := hW.2.1
        have z2 := hW.2.2.1
        clear hW
        go_simp
      refine wpAnyH_take (i := 17) (v := .pointer (some ⟨w.heap.size + 1, 1, none⟩)) rfl (by kernel_rfl) (by kernel_rfl) (by kernel_rfl) (fun _ _ _ h => h) (Or.inl ⟨by kernel_rfl, ?t17⟩) (by assumption) ?_
      case t17 =>
        intro W hW
        have z0 := hW.1
        have z1 := hW.2.1
        have z2 := hW.2.2.1
        clear hW
        go_simp
      refine wpAnyH_take (i := 18) (v := .int .i64 v) rfl (by kernel_rfl) (by kernel_rfl) (by kernel_rfl) (fun _ _ _ h => h) (Or.inl ⟨by kernel_rfl, ?t18⟩) (by assumption) ?_
      case t18 =>
        intro W hW
        have z0 := hW.1
        have z1 := hW.2.1
        have z2 := hW.2.2.1
        clear hW
        go_simp
      refine wpAnyH_take (i := 19) (v := .pointer (some ⟨w.heap.size + 1, 1, none⟩)) rfl (by kernel_rfl) (by kernel_rfl) (by kernel_rfl) (fun _ _ _ h => h) (Or.inl ⟨by kernel_rfl, ?t19⟩) (by assumption) ?_
      case t19 =>
        intro W hW
        have z0 := hW.1
        have z1 := hW.2.1
        have z2 := hW.2.2.1
        clear hW
        go_simp
      refine wpAnyH_take (i := 20) (v := .int .i64 v) rfl (by kernel_rfl) (by kernel_rfl) (by kernel_rfl) (fun _ _ _ h => h) (Or.inl ⟨by kernel_rfl, ?t20⟩) (by assumption) ?_
      case t20 =>
        intro W hW
        have z0 := hW.1
        have z1 := hW.2.1
        have z2 := hW.2.2.1
        clear hW
        go_simp
      refine wpAnyH_take (i := 21) (v := .pointer (some ⟨w.heap.size + 1, 1, none⟩)) rfl (by kernel_rfl) (by kernel_rfl) (by kernel_rfl) (fun _ _ _ h => h) (Or.inl ⟨by kernel_rfl, ?t21⟩) (by assumption) ?_
      case t21 =>
        intro W hW
        have z0 := hW.1
        have z1 := hW.2.1
        have z2 := hW.2.2.1
        clear hW
        go_simp
      refine wpAnyH_take (i := 22) (v := .int .i64 v) rfl (by kernel_rfl) (by kernel_rfl) (by kernel_rfl) (fun _ _ _ h => h) (Or.inl ⟨by kernel_rfl, ?t22⟩) (by assumption) ?_
      case t22 =>
        intro W hW
        have z0 := hW.1
        have z1 := hW.2.1
        have z2 := hW.2.2.1
        clear hW
        go_simp
      refine wpAnyH_take (i := 23) (v := .agg #[.int .i64 (t / Wd * Wd), .int .i64 1, .int .i64 v, .int .i64 v, .int .i64 v, .int .i64 v]) rfl (by kernel_rfl) (by kernel_rfl) (by kernel_rfl) (fun _ _ _ h => h) (Or.inl ⟨by kernel_rfl, ?t23⟩) (by assumption) ?_
      case t23 =>
        intro W hW
        have z0 := hW.1
        have z1 := hW.2.1
        have z2 := hW.2.2.1
        clear hW
        go_simp
      refine wpAnyH_ready (rs := [8]) (by kernel_rfl) (by simp) ?_
      refine AllReadyH.cons rfl (fun K8 hK8 => ?_) AllReadyH.nil
      go_simp
      refine hK8.out _ _ (by assumption) (fun hS8 => ?_)
      clear hK8 K8
      refine wpAnyH_ready (rs := [24]) (by kernel_rfl) (by simp) ?_
      refine AllReadyH.cons rfl (fun K24 hK24 => ?_) AllReadyH.nil
      go_simp
      go_at_call 115
      refine (HA.out u w1.heap.size rs (t / Wd * Wd) _ (by first | exact HOW.out | exact HOW.out.drew) (by omega)).mono ?_
      rintro e W8 ⟨r', rfl, hor, hb8⟩
      obtain ⟨ra8, rc8, rfl⟩ := (ORow.of_own hor).shape
      have hbk : Below wr.heap.size wr.drew W8 := hb8
      have HB8 := Lib.hid (show Below wr.heap.size wr W8 from ((Below.refl wr.heap.size wr).drew).trans hb8)
      have HOR := Lib.hid (show W8.ownsRow wr.heap.size 48 6 (.slice ra8 _ rc8) _ _ from hor)
      have g8 : W8.cell? ⟨gl, k * 3 + 2, none⟩ = some u := (HB8.out.cell (p := ⟨gl, k * 3 + 2, none⟩) (HRW.out.lt gl rfl).2).trans c2
      have f8 : W8.frozen? ⟨gl, k * 3 + 2, none⟩ = false := (u_own_below HRW.out HB8.out).frozenAt _
      clear hor hb8
      try go_simp
      refine hK24.out _ _ (KQ.next hgS hbk) (fun hS9 => ?_)
      clear hK24 K24
      refine wpAnyH_take (i := 25) (v := .pointer (some ⟨gl, k * 3, none⟩)) rfl (by kernel_rfl) (by kernel_rfl) (by kernel_rfl) (fun _ _ _ h => h) (Or.inl ⟨by kernel_rfl, ?t25⟩) (by assumption) ?_
      case t25 =>
        intro W hW
        have z0 := hW.1
        have z1 := hW.2.1
        have z2 := hW.2.2.1
        clear hW
        go_simp
      refine wpAnyH_take (i := 26) (v := .pointer (some ⟨gl, k * 3 + 2, none⟩)) rfl (by kernel_rfl) (by kernel_rfl) (by kernel_rfl) (fun _ _ _ h => h) (Or.inl ⟨by kernel_rfl, ?t26⟩) (by assumption) ?_
      case t26 =>
        intro W hW
        have z0 := hW.1
        have z1 := hW.2.1
        have z2 := hW.2.2.1
        clear hW
        go_simp
      refine wpAnyH_ready (rs := [27]) (by kernel_rfl) (by simp) ?_
      refine AllReadyH.cons rfl (fun K27 hK27 => ?_) AllReadyH.nil
      go_simp
      refine hK27.out _ _ (KQ.set hS9 hgo hgp _ _) (fun hS10 => ?_)
      clear hK27 K27
      refine wpAnyH_done (by kernel_rfl) ?_ _
      all_goals
        try go_simp
        go_wp2_with fail
        go_roundw
        case rel =>
          obtain ⟨es', hI'⟩ := HST.out _ _ HB8.out HOR.out HPO.out
          exact ⟨k + 1, es', by omega, by go_num, Lib.hid hI'⟩
        case measure => simp [intOf]; omega
    · obtain rfl : k = ls.length := by omega
      have hfin : updA (t, v) (List.range ls.length) ls = ls.map (addLv (t, v)) := updA_all _ (fun j hj => List.mem_range.2 hj)
      have hcoF := HI.out.co
      rw [hfin] at hcoF
      have hcvF : CV wr wr.heap.size (.agg #[.int .i64 t, .int .i64 kp, .slice pa7 (rp.length + 1) pc7, .slice A3 ls.length c3]) (addC (t, v) (nw0, kp, rp, ls)) := hcoF.cd.cv hCR.out
      have HD := Lib.hid (hDr.out _ wr hcvF (by show (ls.map (addLv (t, v))).length ≤ 1000; rw [List.length_map]; omega) (by show 0 ≤ t ∧ t ≤ 1000000000000; omega) (by show 0 ≤ kp ∧ kp ≤ 1000000000; exact ⟨by have : 1 ≤ kp := hk0.1; omega, hk0.2⟩) hlv.out)
      have hR : BoxN wr (w.heap.size + 2) #[.int .i64 0, .int .i64 0, .slice none 0 0, .slice none 0 0] 30 := R1.out.below HI.out.bel
      have y0 := BoxN.cell (i := 0) HI.out.box rfl
      have y1 := BoxN.cell (i := 1) HI.out.box rfl
      have y2 := BoxN.cell (i := 2) HI.out.box rfl
      have HR := Lib.hid hR
      have HBe := Lib.hid HI.out.bel
      clear hcvF hcoF hfin hR HA HI hDr hlv hCR hlt
      go_wp2_with fail
      refine HD.out.mono ?_
      rintro e w9 ⟨rv9, lv9, es9, rfl, hcd9, hb9⟩
      have S9 := hb9.size
      have R9 : BoxN w9 (w.heap.size + 2) #[.int .i64 0, .int .i64 0, .slice none 0 0, .slice none 0 0] 30 := HR.out.below hb9
      have B9 := Lib.hid (B1.out.trans ((HBe.out.trans (hb9.mono hbw)).mono (by omega)))
      obtain ⟨m9, hm9⟩ : ∃ m9, (dropC (addC (t, v) (nw0, kp, rp, ls)).1 (addC (t, v) (nw0, kp, rp, ls))).2.2.1.length = m9 := ⟨_, rfl⟩
      obtain ⟨l9, hl9⟩ : ∃ l9, (dropC (addC (t, v) (nw0, kp, rp, ls)).1 (addC (t, v) (nw0, kp, rp, ls))).2.2.2.length = l9 := ⟨_, rfl⟩
      obtain ⟨pa9, pc9, rfl⟩ : ∃ a c, rv9 = .slice a m9 c := by rw [← hm9]; exact hcd9.raw.shape
      obtain ⟨A9, c9, rfl⟩ : ∃ a c, lv9 = .slice a l9 c := by rw [← hl9]; exact hcd9.lvl.row.shape
      have r0 := BoxN.cell (i := 0) R9 rfl
      have r1 := BoxN.cell (i := 1) R9 rfl
      have r2 := BoxN.cell (i := 2) R9 rfl
      have r3 := BoxN.cell (i := 3) R9 rfl
      have f0 := BoxN.frozen (i := 0) R9
      have f1 := BoxN.frozen (i := 1) R9
      have f2 := BoxN.frozen (i := 2) R9
      have f3 := BoxN.frozen (i := 3) R9
      have HCD := Lib.hid (show CD w9 wr.heap.size w9.heap.size (ingC (t, v) (nw0, kp, rp, ls)) (.slice pa9 m9 pc9) (.slice A9 l9 c9) es9 from hcd9)
      have e1 : (dropC (addC (t, v) (nw0, kp, rp, ls)).1 (addC (t, v) (nw0, kp, rp, ls))).1 = t := rfl
      have e2 : (dropC (addC (t, v) (nw0, kp, rp, ls)).1 (addC (t, v) (nw0, kp, rp, ls))).2.1 = kp := rfl
      rw [e1, e2]
      clear hcd9 hb9 R9 HR HD e1 e2 hm9 hl9 y0 y1 y2 y3
      go_wp2_with fail
      refine bodyPost_ret (v := .agg #[.int .i64 t, .int .i64 kp, .slice pa9 m9 pc9, .slice A9 l9 c9]) (by simp [results, Try.results75, go_sem, r0, r1, r2, r3]) rfl ⟨.slice pa9 m9 pc9, .slice A9 l9 c9, es9, rfl, (CD.at_ (W := w9) HCD.out (fun g hg => ?_)).lift (by omega) (by simp [World.setCell]), ?_⟩
      · have hlo := (HCD.out.lt hg).1
        repeat (first | with_reducible rfl | refine (Below.heap_setCell _ _ _ _ (by simp; omega)).trans ?_)
      · repeat (first | with_reducible exact B9.out | refine Below.setCell ?_ (by simp; try omega) _)
end Go.Proofs.Ytcjpedolmnahfaa
