/- Walks: the program's BitsOk. -/
import Derived.Test.YtpnfkmhhilnglaaDoorWd
set_option linter.unusedVariables false
set_option linter.unusedSimpArgs false
namespace Go.Proofs.YtpnfkmhhilnglaaDoor
open Go.RowKit

theorem below_drewN' {B : Nat} {a w : World} (h : Below B a w) (n : Nat) : Below B a (w.drewN n) := ⟨h.os, h.tape, h.output, h.size, h.block⟩

theorem bytesFor_q (n : Int) (w : World) (h0 : 0 ≤ n) (h1 : n ≤ 100000) :
    Calls Tryd.prog 21 #[.int .i64 n] w fun e w' => e = .returned (.int .i64 ((n + 7) / 8)) ∧ w' = w :=
  (bytesFor_any n w h0 h1).mono fun _ _ ⟨h, k⟩ => ⟨h, k.symm⟩




theorem last_of (s : ByteArray) (h : s.size - 1 < s.size) : s.data.toList.getD (s.data.toList.length - 1) 0 = s[s.size - 1] := by
  have h' : s.data.toList.length - 1 < s.data.toList.length := by simp; omega
  rw [List.getD_eq_getElem?_getD, List.getElem?_eq_getElem h']
  rfl
theorem size_list (s : ByteArray) : s.data.toList.length = s.size := by simp



end Go.Proofs.YtpnfkmhhilnglaaDoor
