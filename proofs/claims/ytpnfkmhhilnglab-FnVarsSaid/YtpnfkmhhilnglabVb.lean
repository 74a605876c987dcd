/- Walks: the model's encoding of a number in bytes of seven bits. -/
import Derived.Test.YtpnfkmhhilnglabUa
import Derived.Test.YtpnfkmhhilnglabVa
namespace Go.Proofs.Ytpnfkmhhilnglab
open Go.RowKit

def i64u (n : Int) : Nat := (n % 18446744073709551616).toNat
theorem i64u_lt (n : Int) : i64u n < 2 ^ 64 := by unfold i64u; omega
theorem u64_wrap (n : Int) : IntKind.u64.wrap n = (i64u n : Int) := by rw [IntKind.wrap_u64]; unfold i64u; omega
theorem i64_u64 (n : Int) (h0 : -9223372036854775808 ≤ n) (h1 : n ≤ 9223372036854775807) : wrap64 (i64u n : Int) = n := by unfold i64u wrap64; omega
theorem i64u_wrap (u : Nat) (h : u < 2 ^ 64) : i64u (wrap64 (u : Int)) = u := by unfold i64u wrap64; omega
def varS (n : Int) : ByteArray := ⟨(VM.varU (i64u n)).toArray⟩
theorem varS_size (n : Int) : (varS n).size = (VM.var (i64u n)).length := by
  show (VM.varU (i64u n)).toArray.size = _
  simp [VM.varU]
theorem varS_list (n : Int) : (varS n).data.toList = VM.varU (i64u n) := rfl

set_option maxRecDepth 100000 in
set_option maxHeartbeats 1000000 in
theorem specL2Var_any (n : Int) (w : World) :
    Calls Try.prog 40 #[.int .i64 n] w fun e w' => e = .returned (.string (varS n)) ∧ Below w.heap.size w w' := by
  obtain ⟨i0, hi, hz0, hz1, hz2⟩ := info_parts u_info_u8
  have hu64 := u64_wrap n
  have hult := i64u_lt n
  have hvar : ∃ V, V = VM.var (i64u n) := ⟨_, rfl⟩
  have hS : varS n = ⟨((VM.var (i64u n)).map UInt8.ofNat).toArray⟩ := rfl
  have hlen := VM.var_len64 _ hult
  obtain ⟨V, hV⟩ := hvar
  rw [hS]
  rw [← hV] at hlen ⊢
  clear hS
  generalize i64u n = u at *
  have HV := Lib.hid hV
  clear hV
  go_enter Try.func40, Try.ntmps40
  go_wp2
  go_loopw [4, 3] (fun v x wr => ∃ (pre : List Nat) (y : Nat), x = .int .u64 (y : Int) ∧ V = pre ++ VM.var y ∧ y < 2 ^ 64 ∧ wr.ownsRow w.heap.size 5 1 v pre.length (byteCells pre) ∧ Below w.heap.size w wr)
    (fun _ x _ => (intOf x).toNat)
  case atStart =>
    refine ⟨[], u, rfl, HV.out, hult, ?_, ?_⟩
    · have := World.ownsRow_made w (base := w.heap.size) (e := 5) (size := 1) #[] 0 (by simp) (by simp [maxLen]) rfl
      simpa [byteCells] using this
    · exact (Below.refl _ _).alloc (by simp) _
  case round =>
    obtain ⟨pre, y, rfl, hpre, hy, hown, hb⟩ := hrel
    have hpl : pre.length + (VM.var y).length ≤ 10 := by rw [hpre] at hlen; simpa using hlen
    have hvp := VM.var_pos y
    have Hpre := Lib.hid hpre
    have Hy := Lib.hid hy
    have hsz := hb.size
    clear hpre HV hu64 hy hult
    by_cases hlt : y < 128
    · go_wp2_with (at_builtin; refine wpList_append_own _ rfl _ _ 22 rfl w.heap.size 5 i0 (.int .u8 0) 1 1 Try.underlying22 hi hz0 hz1 hz2 rfl (by decide) _ _ _ rfl (hown.alloc _) ⟨wr.heap.size, 0, none⟩ 1 1 [.int .u8 (y : Int)] rfl rfl ?c1 ?c2 ?c3 ?c4 ?c5 ?_)
      case c1 => exact cell_one_new _ _ _
      case c2 => intro z hz; simp at hz; subst hz; rfl
      case c3 => unfold maxLen; omega
      case c4 => omega
      case c5 => simp; omega
      intro v' w1 hown' hgrow _
      have hb1 := u_below_append hb (Nat.le_refl _) hsz hown hgrow
      have hown2 : w1.ownsRow w.heap.size 5 1 v' V.length (byteCells V) := by
        rw [Hpre.out, VM.var_lt hlt, byteCells_append]
        simpa [byteCells] using hown'
      have hconv := conv_own hown2
      clear hown hown' hgrow hown2 hb
      go_wp2
      go_ret
      exact ⟨rfl, hb1⟩
    · go_wp2_with (at_builtin; refine wpList_append_own _ rfl _ _ 22 rfl w.heap.size 5 i0 (.int .u8 0) 1 1 Try.underlying22 hi hz0 hz1 hz2 rfl (by decide) _ _ _ rfl (hown.alloc _) ⟨wr.heap.size, 0, none⟩ 1 1 [.int .u8 ((y : Int) % 128 + 128)] rfl rfl ?c1 ?c2 ?c3 ?c4 ?c5 ?_)
      case c1 => exact cell_one_new _ _ _
      case c2 => intro z hz; simp at hz; subst hz; rfl
      case c3 => unfold maxLen; omega
      case c4 => omega
      case c5 => simp; omega
      intro v' w1 hown' hgrow _
      have hb1 := u_below_append hb (Nat.le_refl _) hsz hown hgrow
      have hown2 : w1.ownsRow w.heap.size 5 1 v' (pre ++ [y % 128 + 128]).length (byteCells (pre ++ [y % 128 + 128])) := by
        rw [byteCells_append]
        simpa [byteCells] using hown'
      have hq := Lib.hid (show IntKind.u64.wrap ((y : Int) / 128) = ((y / 128 : Nat) : Int) by
        have := Hy.out
        rw [IntKind.wrap_u64]; omega)
      clear hown hown' hgrow hb
      go_wp2
      go_roundw
      case rel =>
        rw [hq.out]
        refine ⟨pre ++ [y % 128 + 128], y / 128, rfl, ?_, Nat.lt_of_le_of_lt (Nat.div_le_self _ _) Hy.out, hown2, hb1⟩
        rw [Hpre.out, VM.var_ge (by omega)]; simp
      case measure => rw [hq.out]; simp [intOf]; omega

set_option maxRecDepth 100000 in
set_option maxHeartbeats 1000000 in
theorem specVarOf_any (n : Int) (w : World) :
    Calls Try.prog 20 #[.int .i64 n] w fun e w' => e = .returned (.string (varS n)) ∧ Below w.heap.size w w' := by
  have hc := Lib.hid (fun W => specL2Var_any n W)
  go_enter Try.func20, Try.ntmps20
  go_wp2_with fail
  refine (hc.out _).mono ?_
  rintro e w1 ⟨rfl, hb1⟩
  go_wp2_with fail
  go_ret
  exact ⟨rfl, hb1⟩
end Go.Proofs.Ytpnfkmhhilnglab
