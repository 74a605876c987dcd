/- Walks: the program's ReadTimes. -/
import Derived.Test.YtbgogpfhdfgjeaaSc
import Derived.Test.YtbgogpfhdfgjeaaHk
set_option linter.unusedVariables false
set_option linter.unusedSimpArgs false
namespace Go.Proofs.Ytbgogpfhdfgjeaa
open Go.RowKit

def fL (L : List Bool) (q : Nat) : Option (Int × Nat) := if q + 40 ≤ L.length then some ((numL L q 40 : Int), q + 40) else none
def timesB (L : List Bool) (n p : Nat) : Option (List Int × Nat) := timesFin (timesG (fL L) (getL L) n p)
theorem timesG_congr {f g f' g' : Nat → Option (Int × Nat)} (hf : ∀ q, f q = f' q) (hg : ∀ q, g q = g' q) : ∀ (k p : Nat), timesG f g k p = timesG f' g' k p
  | 0, p => rfl
  | k + 1, p => by
    rw [timesG, timesG, timesG_congr hf hg k p]
    cases timesG f' g' k p with
    | none => rfl
    | some a => obtain ⟨xs, q⟩ := a; simp only [hf q, hg q]
theorem timesW_L {ws : List Nat} {L : List Bool} (h : BM.Words ws L) (n p : Nat) : timesW ws L.length n p = timesG (fL L) (getL L) n p := by
  unfold timesW
  refine timesG_congr (fun q => ?_) (fun q => getR_L h q) n p
  unfold fW fL numL
  rw [BM.words_get h q 40 (by omega)]
/-- what ReadTimes reads -/
def readTs (s : ByteArray) (N a n : Int) : Option (List Int × Nat) :=
  if (0 ≤ n ∧ n ≤ 120) ∧ hasB s N a 0 = true then timesB (BM.listOf s.data.toList N.toNat) n.toNat a.toNat else none

set_option maxRecDepth 100000 in
set_option maxHeartbeats 1000000 in
theorem readTimes1_any (g b : Nat) (ws : List Nat) (N p n : Nat) (w : World) (hb : w.cell? ⟨b, 0, none⟩ = some (.int .i64 (n : Int))) (h : RK w g ws (N : Int) (p : Int)) (hw : RdW ws N) (hp : p ≤ N) (hn : n ≤ 120) :
    Calls Try.prog 68 #[.pointer (some ⟨g, 0, none⟩), .pointer (some ⟨b, 0, none⟩)] w (ListOut g ws N (timesFin (timesW ws N n p)) w) := by
  have T := Lib.hid (fun W hW => times_any g ws N p n W hW hw hp hn)
  have HK := Lib.hid h
  clear h hw
  generalize timesFin (timesW ws N n p) = r at *
  go_enter Try.func68, Try.ntmps68
  go_wp2_with fail
  refine (T.out _ HK.out).mono ?_
  rintro e w' h
  cases r with
  | none =>
    obtain ⟨⟨u, pv, rfl⟩, hg⟩ := h.none' rfl
    go_wp2_with fail
    exact ⟨rfl, hg, ⟨_, _, rfl⟩⟩
  | some xq =>
    obtain ⟨xs, q⟩ := xq
    obtain ⟨⟨v, rfl, ho⟩, hk, hg, hr, hl⟩ := h.some' rfl
    go_wp2_with fail
    go_ret
    exact ⟨hg, v, rfl, ho, hk, hr, hl⟩
theorem ReadOut.below {r : Option (List Int × Nat)} {w0 w : World} {e : Ending} {w' : World} (h : ReadOut r w e w') (hb : w0.heap.size ≤ w.heap.size) : ReadOut r w0 e w' := by
  unfold ReadOut at *
  cases r with
  | none => exact h
  | some xq =>
    obtain ⟨v, h1, h2, h3⟩ := h
    exact ⟨v, h1, u_ownsRow_base h2 hb, h3⟩
/-- readFrom with the reader of times, all its ends -/
theorem readFrom2_any (s : ByteArray) (N a : Int) (n b : Nat) (w : World) (hs : s.size ≤ maxLen) (hn : n ≤ 120) (hb : w.cell? ⟨b, 0, none⟩ = some (.int .i64 (n : Int))) (hbl : b < w.heap.size) :
    Calls Try.prog 67 #[.agg #[.string s, .int .i64 N], .int .i64 a, .func (.func 68) #[] #[.pointer (some ⟨b, 0, none⟩)]] w fun e w' => ReadOut (readTs s N a (n : Int)) w e w' ∧ Below w.heap.size w w' := by
  unfold readTs
  cases h : hasB s N a 0 with
  | false =>
    rw [if_neg (by simp)]
    exact (readFrom2_bad s N a _ w hs h rfl).mono fun e w' h => ⟨h.1, h.2⟩
  | true =>
    rw [if_pos ⟨by omega, rfl⟩]
    have hh := h
    unfold hasB at hh
    rw [Bool.and_eq_true, decide_eq_true_iff] at hh
    obtain ⟨hok, _, ha, haN⟩ := hh
    obtain ⟨f0, f1, f2, f3⟩ := okB_facts hok
    obtain ⟨m, rfl⟩ : ∃ m : Nat, N = (m : Int) := ⟨N.toNat, by omega⟩
    obtain ⟨p, rfl⟩ : ∃ p : Nat, a = (p : Int) := ⟨a.toNat, by omega⟩
    refine (readFrom2_go s m p b (fun ws => timesFin (timesW ws m n p)) w hs h (by omega) (by omega) hok (by omega) (fun ws g W hB hK hw =>
      readTimes1_any g b ws m p n W ((hB.cell (p := ⟨b, 0, none⟩) hbl).trans hb) hK hw (by omega) hn)).mono ?_
    rintro e w' ⟨⟨ws, hws, hrw, ho⟩, hb⟩
    have hW := ok_words hok hws
    have e1 := timesW_L hW n p
    rw [BM.listOf_length] at e1
    rw [e1] at ho
    rw [Int.toNat_natCast, Int.toNat_natCast, Int.toNat_natCast]
    exact ⟨ho, hb⟩
set_option maxRecDepth 100000 in
set_option maxHeartbeats 1000000 in
theorem implReadTimes_any (s : ByteArray) (N a n : Int) (w : World) (hs : s.size ≤ maxLen) :
    Calls Try.prog 22 #[.agg #[.string s, .int .i64 N], .int .i64 a, .int .i64 n] w fun e w' => ReadOut (readTs s N a n) w e w' ∧ Below w.heap.size w w' := by
  have R := Lib.hid (fun (m b : Nat) W hm hb hl => readFrom2_any s N a m b W hs hm hb hl)
  by_cases hn : 0 ≤ n ∧ n ≤ 120
  · obtain ⟨h0, h1⟩ := hn
    obtain ⟨m, rfl⟩ : ∃ m : Nat, n = (m : Int) := ⟨n.toNat, by omega⟩
    have hc : ((w.alloc (.cells #[.string s, .int .i64 N] 26)).alloc (.cells #[.int .i64 (m : Int)] 2)).cell? ⟨w.heap.size + 1, 0, none⟩ = some (.int .i64 (m : Int)) := by go_simp
    have R1 := Lib.hid (R.out m (w.heap.size + 1) _ (by omega) hc (by simp))
    have hB := Lib.hid (below2 w (.cells #[.string s, .int .i64 N] 26) (.cells #[.int .i64 (m : Int)] 2))
    generalize readTs s N a (m : Int) = r at *
    clear hc R
    go_enter Try.func22, Try.ntmps22
    go_wp2_with fail
    refine R1.out.mono ?_
    rintro e w2 ⟨ho, hb⟩
    have hb2 := hB.out.trans (hb.mono (by simp; omega))
    have ho2 := ho.below (w0 := w) (by simp; omega)
    clear hb ho
    cases r with
    | none =>
      unfold ReadOut at ho2
      subst ho2
      go_wp2_with fail
      go_ret3
      exact ⟨rfl, hb2⟩
    | some xq =>
      obtain ⟨xs, q⟩ := xq
      obtain ⟨v, rfl, ho3⟩ := ho2
      go_wp2_with fail
      go_ret3
      exact ⟨⟨v, rfl, ho3⟩, hb2⟩
  · have e : readTs s N a n = none := by unfold readTs; rw [if_neg (fun h => hn h.1)]
    rw [e]
    by_cases h0 : n < 0
    · go_enter Try.func22, Try.ntmps22
      go_wp2_with fail
      go_ret3
      exact ⟨rfl, below2 w _ _⟩
    · have h1 : (120 : Int) < n := by omega
      go_enter Try.func22, Try.ntmps22
      go_wp2_with fail
      go_ret3
      exact ⟨rfl, below2 w _ _⟩
end Go.Proofs.Ytbgogpfhdfgjeaa
