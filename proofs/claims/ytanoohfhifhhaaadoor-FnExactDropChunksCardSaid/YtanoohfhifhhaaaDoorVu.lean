/- The table out of the row's condition; the walk of the law FnExactTrail. -/
import Derived.Test.YtanoohfhifhhaaaDoorVt
import Derived.Test.YtanoohfhifhhaaaDoorRows
import Derived.LaidMore
import Derived.Stop.Joined
import Derived.ProofKit
set_option linter.unusedVariables false
set_option linter.unusedSimpArgs false
namespace Go.Proofs.YtanoohfhifhhaaaDoor
open Go.RowKit Go.ChangeShapes Go.WideShapes

theorem gTab : Tryd.prog.globalNamed "math/bits.deBruijn64tab" = some 0 := by kernel_rfl
theorem tTab : (Tryd.prog.globals[0]?).map (·.type) = some 157 := by kernel_rfl
theorem tab_of {W : World} (h : laidMetH Tryd.prog [("math/bits.deBruijn64tab", Rows.laid_math_bits_deBruijn64tab)] W) : Tab W := by
  rw [MakeChecks.laidMetH_plain _ _ _ (by kernel_rfl)] at h
  obtain ⟨ps, ⟨g0, t0, cs0, f0, p0, q0, hg0, ht0, hv0, hd0, _⟩, _⟩ := h
  obtain rfl := Option.some.inj (gTab.symm.trans hg0)
  obtain rfl := Option.some.inj (tTab.symm.trans ht0)
  obtain ⟨xs, m1, rfl, hx1, hlen, hn3, hel⟩ := DataW.trod_array Tryd.underlying157 hd0
  have c5 : Tryd.prog.cellsOf 5 = 1 := by kernel_rfl
  intro j hj
  have h0 := hel j hj
  rw [c5, Nat.mul_one] at h0
  have hxj : j < xs.length := by omega
  rw [List.getElem?_eq_getElem hxj] at h0
  obtain ⟨k, e1, e2, _⟩ := DataW.trod_int Tryd.underlying5 h0
  have hl : Rows.laid_math_bits_deBruijn64tab (H := Unit) = .agg (Lib.deBruijn64tab.map fun y : Nat => .lit (.int .u8 (y : Int))) := rfl
  have hm : Lib.deBruijn64tab.map (fun y : Nat => (DataW.lit (Lit.int .u8 (y : Int)) : DataW Unit)) = xs.map (·.1) := by
    have := congrArg Prod.fst hx1
    rw [hl] at this
    simpa using this
  have hj2 : (Lib.deBruijn64tab.map (fun y : Nat => (DataW.lit (Lit.int .u8 (y : Int)) : DataW Unit)))[j]? = (xs.map (·.1))[j]? := by rw [hm]
  have htl : j < Lib.deBruijn64tab.length := by simpa [Lib.deBruijn64tab] using hj
  rw [List.getElem?_map, List.getElem?_map, List.getElem?_eq_getElem htl, List.getElem?_eq_getElem hxj, e2] at hj2
  have hk : k = ((Lib.deBruijn64tab[j] : Nat) : Int) := by simpa using hj2.symm
  have hcell := World.var?_cell gTab hv0 j
  have hd : cs0.toList[j]? = some (.int .u8 k) := by
    have h3 : (List.take 1 (List.drop j cs0.toList))[0]? = some (.int .u8 k) := by rw [e1]; rfl
    simpa using h3
  rw [hcell, show cs0[j]? = cs0.toList[j]? by simp, hd, hk, List.getD_eq_getElem?_getD, List.getElem?_eq_getElem htl]
  rfl

end Go.Proofs.YtanoohfhifhhaaaDoor
