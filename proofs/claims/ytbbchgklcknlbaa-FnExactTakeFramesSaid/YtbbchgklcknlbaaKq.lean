/- Walks: the program's sequence of frames. -/
import Derived.RangeFuncBox
import Derived.RangeFuncLeaves
import Derived.RangeFuncNested
import Derived.Shelf.Abstract
import Derived.OwnWalkIn
import Derived.TacticsInMore
import Derived.LoopNIn
import Derived.LoopIn
import Derived.Test.YtbbchgklcknlbaaKo
set_option linter.unusedVariables false
set_option linter.unusedSimpArgs false
namespace Go.Proofs.Ytbbchgklcknlbaa
open Go.RowKit Go.Shelf

attribute [local go_sem] Oper.semAt_some

def fD (s : ByteArray) (k : Nat) : ByteArray := rdD (tl s (fA s k))
theorem fL_range (s : ByteArray) : ∀ k, fL s k = (List.range k).map (fD s)
  | 0 => rfl
  | k + 1 => by rw [fL_succ, fL_range s k, List.range_succ, List.map_append]; rfl
theorem kq_grew {w w' : World} (h : Below w.heap.size w w') (row : Option Nat) : w.grownBy w' row := ⟨h.os, h.tape, h.output, h.size, fun k hk _ => h.block k hk⟩
theorem kq_next {s : ByteArray} {k : Nat} (h : fOk s k = true) : fA s (k + 1) ≤ s.size ∧ (rdD (tl s (fA s k))).size = hd4 (tl s (fA s k)) := by
  have h1 := rdOk_size (t := tl s (fA s k)) h
  refine ⟨(fOk_size h).1, ?_⟩
  generalize tl s (fA s k) = t at *
  unfold rdD
  rw [ByteArray.size_extract]
  generalize hd4 t = m at *
  omega
theorem kq_cell {W W' : World} {b i : Nat} (h : W'.heap[b]? = W.heap[b]?) : W'.cell? ⟨b, i, none⟩ = W.cell? ⟨b, i, none⟩ := by simp [World.cell?, h]
/-- the place behind the last frame of a list of numbers -/
def lastA (s : ByteArray) : List Nat → Nat
  | [] => 0
  | [x] => fA s (x + 1)
  | _ :: y :: l => lastA s (y :: l)
theorem lastA_snoc (s : ByteArray) : ∀ (l : List Nat) (x : Nat), lastA s (l ++ [x]) = fA s (x + 1)
  | [], x => rfl
  | [a], x => rfl
  | a :: b :: l, x => lastA_snoc s (b :: l) x
theorem lastA_range (s : ByteArray) : ∀ k, lastA s (List.range k) = fA s k
  | 0 => rfl
  | k + 1 => by rw [List.range_succ, lastA_snoc]

theorem kq_wr {D : ByteArray} {a b m : Nat} (h1 : D.size = m) (h2 : b = a + 8 + m) (h3 : b < 1152921504606846976) : wrap64 (8 + (D.size : Int)) = 8 + (m : Int) ∧ wrap64 ((a : Int) + (8 + (m : Int))) = (b : Int) := by
  constructor
  · unfold wrap64; omega
  · unfold wrap64; omega
theorem kq_yes {s : ByteArray} {k : Nat} (hs : s.size ≤ 1048576) (h : fOk s k = true) :
    ∃ a b m D, fA s k = a ∧ fA s (k + 1) = b ∧ fD s k = D ∧ D.size = m ∧ b = a + 8 + m ∧ b ≤ s.size ∧
      ∀ W, Calls Try.prog 100 #[.string (s.extract a s.size)] W fun e W' => e = .returned (.tuple #[.string D, .bool true]) ∧ Below W.heap.size W W' := by
  obtain ⟨h1, h2⟩ := kq_next h
  refine ⟨_, _, _, _, rfl, rfl, rfl, h2, fA_succ s k, h1, fun W => ?_⟩
  have h3 := readFrame_any (tl s (fA s k)) W (by rw [tl_size]; omega)
  have h4 : rdOk (tl s (fA s k)) = true := h
  refine h3.mono fun e W' hp => ?_
  obtain ⟨⟨x, hx, hx2⟩, hb⟩ := hp
  rw [h4] at hx hx2
  rw [hx2 rfl] at hx
  exact ⟨hx, hb⟩
theorem kq_no {s : ByteArray} {k : Nat} (hs : s.size ≤ 1048576) (h : fOk s k = false) :
    ∃ a, fA s k = a ∧ ∀ W, Calls Try.prog 100 #[.string (s.extract a s.size)] W fun e W' => (∃ x, e = .returned (.tuple #[.string x, .bool false])) ∧ Below W.heap.size W W' := by
  refine ⟨_, rfl, fun W => ?_⟩
  have h3 := readFrame_any (tl s (fA s k)) W (by rw [tl_size]; omega)
  have h4 : rdOk (tl s (fA s k)) = false := h
  refine h3.mono fun e W' hp => ?_
  obtain ⟨⟨x, hx, -⟩, hb⟩ := hp
  rw [h4] at hx
  exact ⟨⟨x, hx⟩, hb⟩
set_option maxRecDepth 100000 in
set_option maxHeartbeats 4000000 in
theorem frames1_in (n : Nat) (hn : 1 ≤ n) (l Bn N : Nat) (s : ByteArray) (hs : s.size ≤ 1048576) (hF : FrTo s N) (hNo : fOk s N = false) (J Jx : List {x : Nat // x < N} → World → Prop)
    (hY : ∀ pre (x : {x : Nat // x < N}) W, J pre W → pre.length < N → YieldAt Fence.wide (n - 1) Try.prog l #[.string (fD s x.1), .int .i64 (fA s (x.1 + 1) : Int)] W fun e W' =>
      (e = .returned (.bool true) ∧ J (pre ++ [x]) W' ∧ W'.heap[Bn]? = W.heap[Bn]?) ∨ (e = .returned (.bool false) ∧ Jx (pre ++ [x]) W'))
    (W : World) (hBn : W.cell? ⟨Bn, 0, none⟩ = some (.string s)) (hJ : AbidesFrom W.heap.size J) (h0 : J [] W) :
    CallsIn Fence.wide n Try.prog 99 #[.func (.yield l) #[] #[], .pointer (some ⟨Bn, 0, none⟩)] W fun e W' => (∃ v, e = .returned v) ∧
      ((∃ ys, ys.map Subtype.val = List.range N ∧ J ys W') ∨ (∃ pre, (∃ k, k ≤ N ∧ pre.map Subtype.val = List.range k) ∧ Jx pre W')) := by
  have HY := Lib.hid hY
  have HJ := Lib.hid hJ
  have HRF := Lib.hid (fun t W h => readFrame_any t W h)
  have HFr := Lib.hid hF
  have HNo := Lib.hid hNo
  clear hY hJ hF hNo
  refine callsIn_of_wp Try.func99 rfl trivial ?_ rfl
  simp only [Try.ntmps99, List.size_toArray, List.length_cons, List.length_nil, Nat.reduceAdd, Nat.reduceSub, Array.replicate_succ, Array.replicate_zero, List.push_toArray, List.append_toArray, List.nil_append, List.cons_append]
  have HBn := Lib.hid hBn
  gi_wp2
  gi_loopw [3] (fun a wr => ∃ (k : Nat) (pre : List {x : Nat // x < N}), k ≤ N ∧ a = .int .i64 (fA s k : Int) ∧ Hid (pre.map Subtype.val = List.range k) ∧ Hid (J pre wr) ∧ Hid (wr.cell? ⟨Bn, 0, none⟩ = some (.string s)))
    (fun a _ => s.size + 1 - (intOf a).toNat)
  case atStart => exact ⟨0, [], Nat.zero_le _, rfl, Lib.hid rfl, Lib.hid h0, HBn⟩
  case round =>
    clear hBn
    obtain ⟨k, pre, hk, rfl, HP, HJk, HBk⟩ := hrel
    have hb3 := HBk.out
    have hbl : Bn < wr.heap.size := by
      rcases Nat.lt_or_ge Bn wr.heap.size with h | h
      · exact h
      · simp [World.cell?, Array.getElem?_eq_none h] at hb3
    obtain ⟨hA, -⟩ := Fr_size k (fun j hj => HFr.out j (by omega))
    by_cases hlt : k < N
    · have hpl : pre.length < N := by
        have h := congrArg List.length HP.out
        rw [List.length_map, List.length_range] at h
        omega
      have HS : Hid ((pre ++ [(⟨k, hlt⟩ : {x : Nat // x < N})]).map Subtype.val = List.range (k + 1)) := Lib.hid (by
        rw [List.map_append, HP.out, List.range_succ]; rfl)
      have HYk := Lib.hid (fun W h => HY.out pre ⟨k, hlt⟩ W h hpl)
      dsimp only at HYk
      obtain ⟨a, b, m, D, ha, hb, hD, hDs, hsu, hbs, hRF⟩ := kq_yes hs (HFr.out k hlt)
      rw [hb, hD] at HYk
      rw [ha] at hA ⊢
      have HRk := Lib.hid hRF
      have HB := Lib.hid hb
      clear ha hb hD hRF
      generalize pre ++ [(⟨k, hlt⟩ : {x : Nat // x < N})] = pre1 at *
      have hai : (a : Int) ≤ s.size := by omega
      have hx1 : (0 : Int) ≤ (a : Int) := by omega
      have hx2 : (a : Int).toNat = a := by omega
      have hb20 : b < 1152921504606846976 := by omega
      obtain ⟨hw1, hw2⟩ := kq_wr hDs hsu hb20
      have hSU := Lib.hid hsu
      clear hsu hDs
      gi_wp2_with (refine ⟨trivial, ?_⟩; gi_at_call 100; refine (callsIn_wide.2 (HRk.out _)).mono ?_; rintro e w2 ⟨rfl, hb2⟩; obtain ⟨fn, tmps, assign, body, hy, hR⟩ := HYk.out w2 (HJ.out _ _ _ none HJk.out (kq_grew hb2 none) (fun r e => by cases e)); have hc2 := (hb2.cell (p := ⟨Bn, 0, none⟩) hbl).trans hb3; clear hb2)
      have HW2 := Lib.hid hw2
      clear hw1 hw2
      refine hR.mono ?_
      rintro e W3 (⟨rfl, hJ3, hk3⟩ | ⟨rfl, hJx3⟩)
      · gi_wp2
        go_roundw
        case rel => exact ⟨k + 1, pre1, by omega, by rw [HB.out, ← HW2.out], HS, Lib.hid hJ3, Lib.hid ((kq_cell hk3).trans hc2)⟩
        case measure => have := hSU.out; rw [HW2.out]; simp [intOf]; omega
      · gi_wp2
        refine bodyPost_ret (results_none rfl _ _ _) rfl ?_
        exact ⟨⟨_, rfl⟩, .inr ⟨pre1, ⟨k + 1, by omega, HS.out⟩, hJx3⟩⟩
    · obtain rfl : k = N := by omega
      obtain ⟨a, ha, hRF⟩ := kq_no hs HNo.out
      rw [ha] at hA ⊢
      have HRk := Lib.hid hRF
      clear ha hRF
      have hai : (a : Int) ≤ s.size := by omega
      have hx1 : (0 : Int) ≤ (a : Int) := by omega
      have hx2 : (a : Int).toNat = a := by omega
      gi_wp2_with (refine ⟨trivial, ?_⟩; gi_at_call 100; refine (callsIn_wide.2 (HRk.out _)).mono ?_; rintro e w2 ⟨⟨x, rfl⟩, hb2⟩; have hJ2 := Lib.hid (HJ.out _ _ _ none HJk.out (kq_grew hb2 none) (fun r e => by cases e)); clear hb2)
      refine bodyPost_ret (results_none rfl _ _ _) rfl ?_
      exact ⟨⟨_, rfl⟩, .inl ⟨pre, HP.out, hJ2.out⟩⟩
end Go.Proofs.Ytbbchgklcknlbaa
