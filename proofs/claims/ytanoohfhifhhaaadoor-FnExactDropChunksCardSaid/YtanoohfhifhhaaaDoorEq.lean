/- Walks: blocks made of blocks' points, both. -/
import Derived.Test.YtanoohfhifhhaaaDoorEn
import Derived.Test.YtanoohfhifhhaaaDoorEj
set_option linter.unusedVariables false
set_option linter.unusedSimpArgs false
namespace Go.Proofs.YtanoohfhifhhaaaDoor
open Go.RowKit

def rchM (bs : List (Int × ByteArray)) (z : Int) : List (Int × ByteArray) := match uncO bs with
  | none => []
  | some xs => chsM xs z
def rchB (bs : List (Int × ByteArray)) (z : Int) : Bool := match uncO bs with
  | none => false
  | some xs => chsB xs z
theorem uncO_some {bs : List (Int × ByteArray)} {xs : List (Int × Int)} (h : uncO bs = some xs) : (∀ j, Rng (xs.getD j (0, 0)).1 ∧ Rng (xs.getD j (0, 0)).2) ∧ xs.length ≤ 1048576 ∧ ptsOkB xs = true ∧ bs.length ≤ 120 ∧ uncT bs bs.length = some xs := by
  unfold uncO at h
  split at h
  · rename_i hl
    cases hu : uncT bs bs.length with
    | none => rw [hu] at h; cases h
    | some ys =>
      rw [hu] at h
      dsimp only at h
      split at h
      · rename_i hk
        obtain rfl := Option.some.inj h
        obtain ⟨q1, q2⟩ := uncT_ok hu
        exact ⟨q2, by omega, hk, hl, rfl⟩
      · cases h
  · cases h

set_option maxRecDepth 100000 in
set_option maxHeartbeats 4000000 in
theorem specRechunked_any (v : Value) (bs : List (Int × ByteArray)) (z : Int) (w : World) (h : BL w w.heap.size v bs) (hsz : ∀ j, (bs.getD j (0, emB)).2.size ≤ 1048576) :
    Calls Tryd.prog 32 #[v, .int .i64 z] w (BOutF w.heap.size (rchM bs z) (rchB bs z) w) := by
  have HU := Lib.hid (specUnchunked_any v bs w h hsz)
  have HC := Lib.hid (fun v xs W h hc => specChunks_any v xs z W h hc)
  unfold POutF at HU
  unfold BOutF at HC

  obtain ⟨_, _, A, c, rfl, _⟩ := h
  clear hsz
  cases hu : uncO bs with
  | none =>
    have E1 := Lib.hid (show rchM bs z = [] by unfold rchM; rw [hu])
    have E2 := Lib.hid (show rchB bs z = false by unfold rchB; rw [hu])
    rw [hu] at HU
    clear hu
    go_enter Tryd.func32, Tryd.ntmps32
    go_wp2_with fail
    refine HU.out.mono ?_
    rintro e w1 ⟨v1, rfl, ho1, hb1⟩
    go_wp2_with fail
    go_ret2
    rw [E1.out, E2.out]
    exact ⟨_, rfl, World.ownsRow_nil _ _ _ _, hb1⟩
  | some xs =>
    obtain ⟨hr, hl, _⟩ := uncO_some hu
    have E1 := Lib.hid (show rchM bs z = chsM xs z by unfold rchM; rw [hu])
    have E2 := Lib.hid (show rchB bs z = chsB xs z by unfold rchB; rw [hu])
    rw [hu] at HU
    clear hu
    go_enter Tryd.func32, Tryd.ntmps32
    go_wp2_with fail
    refine HU.out.mono ?_
    rintro e w1 ⟨v1, rfl, ho1, hb1⟩
    have ho1' : w1.ownsRow _ 41 2 v1 xs.length (prs xs) := ho1
    have HP := Lib.hid (PL.of_own ho1' rfl hr hl)
    have HK := Lib.hid (CapOk.of_own ho1')
    have HB := Lib.hid hb1
    clear ho1 ho1' hb1 hr
    go_wp2_with fail
    refine (HC.out _ xs _ HP.out HK.out).mono ?_
    rintro e w2 ⟨v2, rfl, ho2, hb2⟩
    have hs1 := HB.out.size
    go_wp2_with fail
    go_ret2
    rw [E1.out, E2.out]
    exact ⟨_, rfl, u_ownsRow_base ho2 hs1, HB.out.trans (hb2.mono hs1)⟩

set_option maxRecDepth 100000 in
set_option maxHeartbeats 4000000 in
theorem implRechunked_any (v : Value) (bs : List (Int × ByteArray)) (z : Int) (w : World) (h : BL w w.heap.size v bs) (hsz : ∀ j, (bs.getD j (0, emB)).2.size ≤ 1048576) (hT : Tab w) :
    Calls Tryd.prog 31 #[v, .int .i64 z] w (BOutF w.heap.size (rchM bs z) (rchB bs z) w) := by
  have HU := Lib.hid (implUnchunked_any v bs w h hsz hT)
  have HC := Lib.hid (fun v xs W h hc hT => implChunks_any v xs z W h hc hT)
  unfold POutF at HU
  unfold BOutF at HC
  have HTab := Lib.hid hT
  obtain ⟨_, _, A, c, rfl, _⟩ := h
  clear hsz hT
  cases hu : uncO bs with
  | none =>
    have E1 := Lib.hid (show rchM bs z = [] by unfold rchM; rw [hu])
    have E2 := Lib.hid (show rchB bs z = false by unfold rchB; rw [hu])
    rw [hu] at HU
    clear hu
    go_enter Tryd.func31, Tryd.ntmps31
    go_wp2_with fail
    refine HU.out.mono ?_
    rintro e w1 ⟨v1, rfl, ho1, hb1⟩
    go_wp2_with fail
    go_ret2
    rw [E1.out, E2.out]
    exact ⟨_, rfl, World.ownsRow_nil _ _ _ _, hb1⟩
  | some xs =>
    obtain ⟨hr, hl, _⟩ := uncO_some hu
    have E1 := Lib.hid (show rchM bs z = chsM xs z by unfold rchM; rw [hu])
    have E2 := Lib.hid (show rchB bs z = chsB xs z by unfold rchB; rw [hu])
    rw [hu] at HU
    clear hu
    go_enter Tryd.func31, Tryd.ntmps31
    go_wp2_with fail
    refine HU.out.mono ?_
    rintro e w1 ⟨v1, rfl, ho1, hb1⟩
    have ho1' : w1.ownsRow _ 41 2 v1 xs.length (prs xs) := ho1
    have HP := Lib.hid (PL.of_own ho1' rfl hr hl)
    have HK := Lib.hid (CapOk.of_own ho1')
    have HB := Lib.hid hb1
    clear ho1 ho1' hb1 hr
    go_wp2_with fail
    refine (HC.out _ xs _ HP.out HK.out (HTab.out.below HB.out)).mono ?_
    rintro e w2 ⟨v2, rfl, ho2, hb2⟩
    have hs1 := HB.out.size
    go_wp2_with fail
    go_ret2
    rw [E1.out, E2.out]
    exact ⟨_, rfl, u_ownsRow_base ho2 hs1, HB.out.trans (hb2.mono hs1)⟩
end Go.Proofs.YtanoohfhifhhaaaDoor
