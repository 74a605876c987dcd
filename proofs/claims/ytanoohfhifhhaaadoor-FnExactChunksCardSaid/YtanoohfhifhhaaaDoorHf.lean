/- Walks: the program's reader of bits: the codes' get, all its ends. -/
import Derived.Test.YtanoohfhifhhaaaDoorHe
set_option linter.unusedVariables false
set_option linter.unusedSimpArgs false
namespace Go.Proofs.YtanoohfhifhhaaaDoor
open Go.RowKit

theorem codesGet_any (gc g : Nat) (ws : List Nat) (N p : Nat) (w : World) (hcs : CodesAt w gc) (h : RK w g ws (N : Int) (p : Int)) (hw : RdW ws N) (hp : p ≤ N) :
    Calls Tryd.prog 114 #[.pointer (some ⟨gc, 0, none⟩), .pointer (some ⟨g, 0, none⟩)] w (RdOut g ws N (i64R (getR ws N p)) w) := by
  cases hr : onesR ws N 4 0 p with
  | none =>
    have e : i64R (getR ws N p) = none := by simp [getR, hr, i64R]
    rw [e]
    exact codesGet_cry gc g ws N p w h hw hp hr
  | some iq =>
    obtain ⟨i, q⟩ := iq
    have hi := (onesR_le ws N 4 0 p i q hr hp).1
    by_cases hc : q + bitsI i ≤ N
    · by_cases hn : (codeB ((BM.getW ws q (bitsI i) : Int) - offI i)).length = q + bitsI i - p
      · have e : i64R (getR ws N p) = some (.int .i64 ((BM.getW ws q (bitsI i) : Int) - offI i), q + bitsI i) := by simp [getR, hr, hc, hn, i64R]
        rw [e]
        match i, hi, hr, hc, hn with
        | 0, _, hr, hc, hn => exact codesGet_yes0 gc g ws N p q w hcs h hw hp hr hc _ rfl _ rfl _ rfl hn
        | 1, _, hr, hc, hn => exact codesGet_yes1 gc g ws N p q w hcs h hw hp hr hc _ rfl _ rfl _ rfl hn
        | 2, _, hr, hc, hn => exact codesGet_yes2 gc g ws N p q w hcs h hw hp hr hc _ rfl _ rfl _ rfl hn
        | 3, _, hr, hc, hn => exact codesGet_yes3 gc g ws N p q w hcs h hw hp hr hc _ rfl _ rfl _ rfl hn
        | 4, _, hr, hc, hn => exact codesGet_yes4 gc g ws N p q w hcs h hw hp hr hc _ rfl _ rfl _ rfl hn
      · have e : i64R (getR ws N p) = none := by simp [getR, hr, hc, hn, i64R]
        rw [e]
        match i, hi, hr, hc, hn with
        | 0, _, hr, hc, hn => exact codesGet_odd0 gc g ws N p q w hcs h hw hp hr hc _ rfl _ rfl _ rfl hn
        | 1, _, hr, hc, hn => exact codesGet_odd1 gc g ws N p q w hcs h hw hp hr hc _ rfl _ rfl _ rfl hn
        | 2, _, hr, hc, hn => exact codesGet_odd2 gc g ws N p q w hcs h hw hp hr hc _ rfl _ rfl _ rfl hn
        | 3, _, hr, hc, hn => exact codesGet_odd3 gc g ws N p q w hcs h hw hp hr hc _ rfl _ rfl _ rfl hn
        | 4, _, hr, hc, hn => exact codesGet_odd4 gc g ws N p q w hcs h hw hp hr hc _ rfl _ rfl _ rfl hn
    · have e : i64R (getR ws N p) = none := by simp [getR, hr, hc, i64R]
      rw [e]
      match i, hi, hr, hc with
      | 0, _, hr, hc => exact codesGet_no0 gc g ws N p q w hcs h hw hp hr hc
      | 1, _, hr, hc => exact codesGet_no1 gc g ws N p q w hcs h hw hp hr hc
      | 2, _, hr, hc => exact codesGet_no2 gc g ws N p q w hcs h hw hp hr hc
      | 3, _, hr, hc => exact codesGet_no3 gc g ws N p q w hcs h hw hp hr hc
      | 4, _, hr, hc => exact codesGet_no4 gc g ws N p q w hcs h hw hp hr hc
end Go.Proofs.YtanoohfhifhhaaaDoor
