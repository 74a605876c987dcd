/- Walks: one digit's text. -/
import Derived.Test.YtbbchgklcknlbaaUa
import Derived.Test.YtbbchgklcknlbaaKf
set_option linter.unusedVariables false
set_option linter.unusedSimpArgs false
namespace Go.Proofs.Ytbbchgklcknlbaa
open Go.RowKit

theorem bytes_madeL (l : List Nat) (xs : List Value) (h : byteCells l = xs) (w : World) (hl : l.length ≤ maxLen) : (w.alloc (.cells xs.toArray 5)).ownsRow w.heap.size 5 1 (.slice (some ⟨w.heap.size, 0, none⟩) l.length l.length) l.length (byteCells l) := by
  subst h
  exact ⟨by rw [byteCells_length, Nat.mul_one], .inr ⟨w.heap.size, l.length, _, rfl, Nat.le_refl _, heap_alloc_new w _, Nat.le_refl _, hl, by simp [byteCells], by rw [Nat.mul_one]; show (byteCells l).take l.length = byteCells l; rw [← byteCells_length l, List.take_length]⟩⟩
def oneS (d : Nat) : ByteArray := ⟨#[UInt8.ofNat (48 + d)]⟩
theorem one_conv (d : Nat) (x : Value) (hx : x = .int .u8 ((48 + d : Nat) : Int)) (w : World) :
    (convert 29 9 (.slice (some ⟨w.heap.size, 0, none⟩) 1 1)).run Try.prog (w.alloc (.cells #[x] 5)) = .ok (.string (oneS d)) (w.alloc (.cells #[x] 5)) :=
  conv_own (l := [48 + d]) (bytes_madeL [48 + d] [x] (by rw [hx]; rfl) w (by unfold maxLen; simp))

def sz1 : Value → Nat
  | .string s => if s.size = 0 then 1 else 0
  | _ => 0
theorem sz1_str (s : ByteArray) : sz1 (.string s) = if s.size = 0 then 1 else 0 := rfl
end Go.Proofs.Ytbbchgklcknlbaa
