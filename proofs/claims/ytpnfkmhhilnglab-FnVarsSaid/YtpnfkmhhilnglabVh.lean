/- Walks: the encoding of a list of numbers. -/
import Derived.Test.YtpnfkmhhilnglabVf
import Derived.Test.YtpnfkmhhilnglabIb
import Derived.Test.YtpnfkmhhilnglabUz
namespace Go.Proofs.Ytpnfkmhhilnglab
open Go.RowKit

def zigB (x : Int) : List Nat := VM.var (i64u (zigF x))
def varsTo (l : List Int) (k : Nat) : List Nat := VM.var (i64u (l.length : Int)) ++ ((l.take k).map zigB).flatten
def varsB (l : List Int) : List Nat := if 200 < l.length then [] else varsTo l l.length
def strN (l : List Nat) : ByteArray := ⟨(l.map UInt8.ofNat).toArray⟩
theorem varsTo_zero (l : List Int) : varsTo l 0 = VM.var (i64u (l.length : Int)) := by simp [varsTo]
theorem varsTo_succ (l : List Int) (k : Nat) (h : k < l.length) : varsTo l (k + 1) = varsTo l k ++ zigB (l.getD k 0) := by
  unfold varsTo
  rw [List.take_succ_eq_append_getElem h, List.map_append, List.flatten_append, List.append_assoc]
  simp [List.getD_eq_getElem?_getD, h]
theorem zigB_len (x : Int) : (zigB x).length ≤ 10 := VM.var_len64 _ (i64u_lt _)
theorem flat_len (l : List Int) : ((l.map zigB).flatten).length ≤ 10 * l.length := by
  induction l with
  | nil => simp
  | cons a l ih => have := zigB_len a; simp only [List.map_cons, List.flatten_cons, List.length_append, List.length_cons]; omega
theorem varsTo_len (l : List Int) (k : Nat) : (varsTo l k).length ≤ 10 + 10 * l.length := by
  have h1 := VM.var_len64 _ (i64u_lt (l.length : Int))
  have h2 := flat_len (l.take k)
  have h3 : (l.take k).length ≤ l.length := by rw [List.length_take]; omega
  unfold varsTo
  rw [List.length_append]; omega
theorem strN_append (a b : List Nat) : strN a ++ strN b = strN (a ++ b) := by
  apply ByteArray.ext
  simp [strN]
theorem strN_size (l : List Nat) : (strN l).size = l.length := by
  show (l.map UInt8.ofNat).toArray.size = _
  simp
theorem varS_strN (n : Int) : varS n = strN (VM.var (i64u n)) := rfl
def SPost (S : ByteArray) (w : World) (e : Ending) (w' : World) : Prop := e = .returned (.string S) ∧ Below w.heap.size w w'

set_option maxRecDepth 100000 in
set_option maxHeartbeats 1000000 in
theorem specVarsOf_any (v : Value) (xs : List Int) (w : World) (h : IL w w.heap.size v xs) :
    Calls Try.prog 23 #[v] w (SPost (strN (varsB xs)) w) := by
  obtain ⟨hr, hlen, A, c, rfl, h3⟩ := h
  by_cases hl : 200 < xs.length
  · have E := Lib.hid (show strN (varsB xs) = ByteArray.empty from by unfold varsB; rw [if_pos hl]; rfl)
    go_enter Try.func23, Try.ntmps23
    go_wp2_with fail
    go_ret
    exact ⟨by rw [E.out]; rfl, Below.refl _ _⟩
  · have E := Lib.hid (show varsB xs = varsTo xs xs.length from by unfold varsB; rw [if_neg hl])
    have hc := Lib.hid (fun n W => specL2Var_any n W)
    have hz := Lib.hid (fun n W h0 h1 => specZig_any n W h0 h1)
    have Hr := Lib.hid hr
    clear hr
    go_enter Try.func23, Try.ntmps23
    go_wp2_with fail
    refine (hc.out _ _).mono ?_
    rintro e w1 ⟨rfl, hb1⟩
    go_wp2_with fail
    go_loopw [3, 4] (fun s i wr => ∃ k : Nat, k ≤ xs.length ∧ i = .int .i64 k ∧ s = .string (strN (varsTo xs k)) ∧ Below w.heap.size w wr) (fun _ i _ => xs.length - (intOf i).toNat)
    case atStart => exact ⟨0, Nat.zero_le _, rfl, by rw [varsTo_zero]; rfl, hb1⟩
    case round =>
      clear hb1
      obtain ⟨k, hk, rfl, rfl, hb⟩ := hrel
      by_cases hlt : k < xs.length
      · rcases h3 with h3 | ⟨b, off, rfl, hbl, hcc⟩
        · subst h3; simp at hlt
        have hx : wr.cell? ⟨b, off + k, none⟩ = some (.int .i64 (xs.getD k 0)) := (hb.cell (p := ⟨b, off + k, none⟩) hbl).trans (hcc k hlt)
        have hrk := Hr.out k
        have hT := varsTo_succ xs k hlt
        generalize hX : xs.getD k 0 = x at hx hrk hT
        have HX := Lib.hid hX
        have HT := Lib.hid hT
        have Hrk := Lib.hid hrk
        clear hX hcc hT hrk
        go_wp2_with fail
        refine (hz.out x _ Hrk.out.1 Hrk.out.2).mono ?_
        rintro e w2 ⟨rfl, rfl⟩
        go_wp2_with fail
        refine (hc.out _ _).mono ?_
        rintro e w2 ⟨rfl, hb2⟩
        have hb3 := hb.trans (hb2.mono hb.size)
        clear hb2 hb
        have hs1 := strN_size (varsTo xs k)
        have hs2 := varS_size (zigF x)
        have hs3 := varsTo_len xs k
        have hs4 := zigB_len x
        unfold zigB at hs4
        rw [← hs1] at hs3
        rw [← hs2] at hs4
        clear hs1 hs2
        go_wp2_with fail
        go_roundw
        case rel => exact ⟨k + 1, by omega, by go_num, by rw [HT.out, ← strN_append]; rfl, hb3⟩
        case measure => simp [intOf]; omega
      · obtain rfl : k = xs.length := by omega
        go_wp2_with fail
        go_ret
        exact ⟨by rw [E.out]; rfl, hb⟩

set_option maxRecDepth 100000 in
set_option maxHeartbeats 1000000 in
theorem implVarsOf_any (v : Value) (xs : List Int) (w : World) (h : IL w w.heap.size v xs) :
    Calls Try.prog 22 #[v] w (SPost (strN (varsB xs)) w) := by
  obtain ⟨hr, hlen, A, c, rfl, h3⟩ := h
  by_cases hl : 200 < xs.length
  · have E := Lib.hid (show strN (varsB xs) = ByteArray.empty from by unfold varsB; rw [if_pos hl]; rfl)
    go_enter Try.func22, Try.ntmps22
    go_wp2_with fail
    go_ret
    exact ⟨by rw [E.out]; rfl, Below.refl _ _⟩
  · have E := Lib.hid (show varsB xs = varsTo xs xs.length from by unfold varsB; rw [if_neg hl])
    have hc := Lib.hid (fun v0 ys m (W : World) (hW : w.heap.size ≤ W.heap.size) hy hrow => appendVar_any w.heap.size v0 ys m W hW hy hrow)
    have hz := Lib.hid (fun n W h0 h1 => implZig_any n W h0 h1)
    have Hr := Lib.hid hr
    clear hr
    go_enter Try.func22, Try.ntmps22
    go_wp2_with fail
    refine (hc.out (.slice none 0 0) [] _ _ (Nat.le_refl _) (by simp) (World.ownsRow_nil _ _ _ _)).mono ?_
    rintro e w1 ⟨v1, rfl, hown, hb1⟩
    rw [List.nil_append, ← varsTo_zero] at hown
    go_wp2_with fail
    go_loopw [3, 14] (fun s i wr => ∃ k : Nat, k ≤ xs.length ∧ i = .int .i64 k ∧ wr.ownsRow w.heap.size 5 1 s (varsTo xs k).length (byteCells (varsTo xs k)) ∧ Below w.heap.size w wr) (fun _ i _ => xs.length - (intOf i).toNat)
    case atStart => exact ⟨0, Nat.zero_le _, rfl, hown, hb1⟩
    case round =>
      clear hb1 hown
      obtain ⟨k, hk, rfl, hown, hb⟩ := hrel
      by_cases hlt : k < xs.length
      · rcases h3 with h3 | ⟨b, off, rfl, hbl, hcc⟩
        · subst h3; simp at hlt
        have hx : wr.cell? ⟨b, off + k, none⟩ = some (.int .i64 (xs.getD k 0)) := (hb.cell (p := ⟨b, off + k, none⟩) hbl).trans (hcc k hlt)
        have hrk := Hr.out k
        have hT := varsTo_succ xs k hlt
        have hTl := varsTo_len xs k
        generalize hX : xs.getD k 0 = x at hx hrk hT
        have HX := Lib.hid hX
        have HT := Lib.hid hT
        have Hrk := Lib.hid hrk
        have Hown := Lib.hid hown
        clear hX hcc hT hrk hown
        go_wp2_with fail
        refine (hz.out x _ Hrk.out.1 Hrk.out.2).mono ?_
        rintro e w2 ⟨rfl, rfl⟩
        go_wp2_with fail
        refine (hc.out _ _ _ _ hb.size (by omega) Hown.out).mono ?_
        rintro e w2 ⟨v2, rfl, hown2, hb2⟩
        have hb3 := hb.trans hb2
        clear hb2 hb
        have hown3 : w2.ownsRow w.heap.size 5 1 v2 (varsTo xs (k + 1)).length (byteCells (varsTo xs (k + 1))) := by rw [HT.out]; exact hown2
        clear hown2 Hown
        go_wp2_with fail
        go_roundw
        case rel => exact ⟨k + 1, by omega, by go_num, hown3, hb3⟩
        case measure => simp [intOf]; omega
      · obtain rfl : k = xs.length := by omega
        have hconv := conv_own hown
        clear hown
        go_wp2_with fail
        go_ret
        exact ⟨by rw [E.out]; rfl, hb⟩
end Go.Proofs.Ytpnfkmhhilnglab
