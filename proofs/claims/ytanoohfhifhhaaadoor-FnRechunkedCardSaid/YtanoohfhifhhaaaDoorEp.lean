/- Plain facts on decimal numerals. -/
import Derived.Lib.ItoaNum
import Derived.Test.YtanoohfhifhhaaaDoorUa
import Derived.Deep.RegionHeld3
import Derived.Test.YtanoohfhifhhaaaDoorEj
import Derived.Test.YtanoohfhifhhaaaDoorGa
import Derived.Test.YtanoohfhifhhaaaDoorEn
import Derived.Test.YtanoohfhifhhaaaDoorDg
set_option linter.unusedVariables false
set_option linter.unusedSimpArgs false
namespace Go.Proofs.YtanoohfhifhhaaaDoor
open Go

theorem dd_len : ∀ (k u : Nat), u < 10 ^ (k + 1) → (Lib.decDigits u).length ≤ k + 1
  | 0, u, h => by rw [Lib.decDigits, dif_pos (by simpa using h)]; simp
  | k + 1, u, h => by
    by_cases h1 : u < 10
    · rw [Lib.decDigits, dif_pos h1]; simp
    · rw [Lib.decDigits, dif_neg h1, List.length_append]
      have := dd_len k (u / 10) (by rw [Nat.pow_succ] at h ⊢; rw [Nat.pow_succ] at h; omega)
      simp only [List.length_cons, List.length_nil]
      omega
def ddz (u : Nat) : List UInt8 := if u = 0 then [] else Lib.decDigits u
theorem ddz_zero : ddz 0 = [] := rfl
theorem ddz_pos {u : Nat} (h : u ≠ 0) : ddz u = Lib.decDigits u := if_neg h
theorem dd_step (u : Nat) : Lib.decDigits u = ddz (u / 10) ++ [UInt8.ofNat (48 + u % 10)] := by
  by_cases h : u < 10
  · rw [Lib.decDigits, dif_pos h, show u / 10 = 0 by omega, ddz_zero, show u % 10 = u by omega]; rfl
  · rw [Lib.decDigits, dif_neg h, ddz_pos (by omega)]
/-- What stands in a round: the rest of the number and the numeral so far. -/
def DJ (n0 n : Int) (s : List UInt8) : Prop := (n < 0 → n0 < 0) ∧ ((s = [] ∧ n = n0) ∨ (s ≠ [] ∧ ddz n.natAbs ++ s = Lib.decDigits n0.natAbs))
theorem DJ.start (n : Int) : DJ n n [] := ⟨fun h => h, .inl ⟨rfl, rfl⟩⟩
theorem tdiv_abs (n : Int) : (n.tdiv 10).natAbs = n.natAbs / 10 := by rw [Int.natAbs_tdiv]; rfl
theorem tmod_abs (n : Int) : (n.tmod 10).natAbs = n.natAbs % 10 := by rw [Int.natAbs_tmod]; rfl
theorem DJ.step {n0 n : Int} {s : List UInt8} (h : DJ n0 n s) (hc : s = [] ∨ n ≠ 0) : DJ n0 (n.tdiv 10) (UInt8.ofNat (48 + n.natAbs % 10) :: s) := by
  obtain ⟨h1, h2⟩ := h
  have hD : Lib.decDigits n.natAbs ++ s = Lib.decDigits n0.natAbs := by
    rcases h2 with ⟨rfl, rfl⟩ | ⟨h3, h4⟩
    · simp
    · have hn : n ≠ 0 := by rcases hc with h | h; exact absurd h h3; exact h
      rw [← h4, ddz_pos (by omega)]
  refine ⟨fun h => h1 ?_, .inr ⟨by simp, ?_⟩⟩
  · rcases Int.lt_or_le n 0 with h5 | h5
    · exact h5
    · have := Int.tdiv_nonneg h5 (show (0 : Int) ≤ 10 by omega)
      omega
  · rw [tdiv_abs, ← hD, dd_step n.natAbs]
    simp
theorem DJ.done {n0 : Int} {s : List UInt8} (h : DJ n0 0 s) (hs : s ≠ []) : s = Lib.decDigits n0.natAbs := by
  rcases h.2 with ⟨h1, _⟩ | ⟨_, h2⟩
  · exact absurd h1 hs
  · simpa [ddz_zero] using h2
theorem DJ.len {n0 n : Int} {s : List UInt8} (h : DJ n0 n s) {k : Nat} (hk : n0.natAbs < 10 ^ (k + 1)) : s.length ≤ k + 1 := by
  rcases h.2 with ⟨h1, _⟩ | ⟨_, h2⟩
  · rw [h1]; simp
  · have := dd_len k _ hk
    rw [← h2, List.length_append] at this
    omega
theorem itoa_neg {n : Int} (h : n < 0) : Lib.itoa n = 45 :: Lib.decDigits n.natAbs := if_pos h
theorem itoa_nonneg {n : Int} (h : ¬ n < 0) : Lib.itoa n = Lib.decDigits n.natAbs := by
  unfold Lib.itoa
  rw [if_neg h, show n.toNat = n.natAbs by omega]
def dec (n : Int) : ByteArray := ⟨(Lib.itoa n).toArray⟩
end Go.Proofs.YtanoohfhifhhaaaDoor

/- Walks: one digit's text. -/
set_option linter.unusedVariables false
set_option linter.unusedSimpArgs false
namespace Go.Proofs.YtanoohfhifhhaaaDoor
open Go.RowKit

theorem bytes_madeL (l : List Nat) (xs : List Value) (h : byteCells l = xs) (w : World) (hl : l.length ≤ maxLen) : (w.alloc (.cells xs.toArray 5)).ownsRow w.heap.size 5 1 (.slice (some ⟨w.heap.size, 0, none⟩) l.length l.length) l.length (byteCells l) := by
  subst h
  exact ⟨by rw [byteCells_length, Nat.mul_one], .inr ⟨w.heap.size, l.length, _, rfl, Nat.le_refl _, heap_alloc_new w _, Nat.le_refl _, hl, by simp [byteCells], by rw [Nat.mul_one]; show (byteCells l).take l.length = byteCells l; rw [← byteCells_length l, List.take_length]⟩⟩
def oneS (d : Nat) : ByteArray := ⟨#[UInt8.ofNat (48 + d)]⟩
theorem one_conv (d : Nat) (x : Value) (hx : x = .int .u8 ((48 + d : Nat) : Int)) (w : World) :
    (convert 22 9 (.slice (some ⟨w.heap.size, 0, none⟩) 1 1)).run Tryd.prog (w.alloc (.cells #[x] 5)) = .ok (.string (oneS d)) (w.alloc (.cells #[x] 5)) :=
  conv_own (l := [48 + d]) (bytes_madeL [48 + d] [x] (by rw [hx]; rfl) w (by unfold maxLen; simp))

def sz1 : Value → Nat
  | .string s => if s.size = 0 then 1 else 0
  | _ => 0
theorem sz1_str (s : ByteArray) : sz1 (.string s) = if s.size = 0 then 1 else 0 := rfl
end Go.Proofs.YtanoohfhifhhaaaDoor

/- Walks: slices of blocks: marked, their size. -/
set_option linter.unusedVariables false
set_option linter.unusedSimpArgs false
namespace Go.Proofs.YtanoohfhifhhaaaDoor
open Go.RowKit

def mkSB (K : Nat) : ByteArray := (⟨#[109]⟩ : ByteArray) ++ ⟨(Lib.decDigits K).toArray⟩
set_option maxRecDepth 100000 in
set_option maxHeartbeats 2000000 in
theorem markTextB_any (K : Nat) (w : World) (h1 : 1 ≤ K) (h2 : K < 10 ^ 13) :
    Calls Tryd.prog 65 #[.int .i64 (K : Int)] w fun e w' => e = .returned (.string (mkSB K)) ∧ Below w.heap.size w w' := by
  have HE : Hid (mkSB K = (⟨#[109]⟩ : ByteArray) ++ ⟨(Lib.decDigits K).toArray⟩) := Lib.hid rfl
  have HL := Lib.hid (dd_len 12 K h2)
  have hi : ¬ (K : Int) ≤ 0 := by omega
  go_enter Tryd.func65, Tryd.ntmps65
  go_wp2_with fail
  clear hi
  go_loopw [0, 3] (fun a s wr => ∃ (m : Nat) (S : ByteArray), a = .int .i64 (m : Int) ∧ s = .string S ∧ ddz m ++ S.data.toList = Lib.decDigits K ∧ m ≤ K ∧ Below w.heap.size w wr) (fun a _ _ => (intOf a).toNat)
  case atStart => exact ⟨K, ⟨#[]⟩, rfl, rfl, by rw [ddz_pos (by omega)]; simp, Nat.le_refl _, Below.refl _ _⟩
  case round =>
    obtain ⟨m, S, rfl, rfl, hj, hm, hb⟩ := hrel
    have HJ := Lib.hid hj
    have HB := Lib.hid hb
    have hSL : S.size ≤ 13 := by
      have := HL.out
      rw [← hj, List.length_append] at this
      have e : S.data.toList.length = S.size := by simp
      omega
    clear hj hb
    by_cases h0 : m = 0
    · subst h0
      have HF : Hid (S = ⟨(Lib.decDigits K).toArray⟩) := Lib.hid (by rw [← HJ.out]; simp [ddz])
      have hs1 : ¬ 9223372036854775807 < 1 + S.size := by omega
      go_wp2_with fail
      go_ret
      exact ⟨by rw [HE.out, ← HF.out]; rfl, HB.out⟩
    · have hpos : (0 : Int) < (m : Int) := by omega
      obtain ⟨k, hk⟩ : ∃ k, m % 10 = k := ⟨_, rfl⟩
      have em : Int.tmod (m : Int) 10 = (k : Int) := by rw [Int.tmod_eq_emod_of_nonneg (by omega)]; omega
      have eq : Int.tdiv (m : Int) 10 = ((m / 10 : Nat) : Int) := by rw [Int.tdiv_eq_ediv_of_nonneg (by omega)]; rfl
      have hk10 : k < 10 := by omega
      have e1 : 48 + (k : Int) = ((48 + k : Nat) : Int) := by omega
      have HCV := Lib.hid (fun W => one_conv k (.int .u8 (48 + (k : Int))) (by rw [e1]) W)
      have HST : Hid (ddz (m / 10) ++ (oneS k ++ S).data.toList = Lib.decDigits K) := Lib.hid (by
        rw [← HJ.out, ddz_pos (show m ≠ 0 from h0), dd_step m, hk]
        simp [oneS])
      have hOs : (oneS k).size = 1 := rfl
      obtain ⟨O, hO⟩ : ∃ O, O = oneS k := ⟨_, rfl⟩
      have hw : wrap64 ((m / 10 : Nat) : Int) = ((m / 10 : Nat) : Int) := by unfold wrap64; omega
      have hcv := HCV.out wr
      rw [← hO] at hcv hOs HST
      have hs1 : ¬ 9223372036854775807 < O.size + S.size := by omega
      clear e1 hO hOs HCV
      go_wp2_with fail
      go_roundw
      case rel => exact ⟨m / 10, O ++ S, by go_num, rfl, HST.out, by omega, HB.out.alloc HB.out.size _⟩
      case measure => simp [intOf]; omega


set_option maxRecDepth 100000 in
set_option maxHeartbeats 400000 in
theorem szBlockB_any (n : Int) (s : ByteArray) (l : Int) (w : World) (h0 : 0 ≤ l) (h1 : l ≤ 1048576) (hs : s.size ≤ maxLen) :
    Calls Tryd.prog 66 #[.agg #[.int .i64 n, .string s], .int .i64 l] w fun e w' => e = .returned (.int .i64 (if l < s.size then -1 else l - s.size)) ∧ Below w.heap.size w w' := by
  unfold maxLen at hs
  by_cases h : l < s.size
  · go_enter Tryd.func66, Tryd.ntmps66
    go_wp2
    go_ret
    exact ⟨rfl, (Below.refl _ _).alloc (Nat.le_refl _) _⟩
  · go_enter Tryd.func66, Tryd.ntmps66
    go_wp2
    go_ret
    exact ⟨rfl, (Below.refl _ _).alloc (Nat.le_refl _) _⟩

theorem grown_of_belowK {w w' : World} (h : Below w.heap.size w w') (row : Option Nat) : w.grownBy w' row := ⟨h.os, h.tape, h.output, h.size, fun k hk _ => h.block k hk⟩
def MarkPostK (base : Nat) (v : Value) (n : Nat) (K : Int) (w : World) (e : Ending) (w' : World) : Prop :=
  e = .returned (.int .i64 (K + 2 * (n : Int))) ∧ Below base w w' ∧ w.grownBy w' v.ownBlock

set_option maxRecDepth 100000 in
set_option maxHeartbeats 4000000 in
theorem markBlockS_any (base : Nat) (v : Value) (K : Nat) (xs : List (Int × ByteArray)) (w : World) (hK : 1 ≤ K) (hK2 : K ≤ 1000000000) (hl : xs.length ≤ 1048576) (hbs : base ≤ w.heap.size) (h : w.ownsRow base 36 2 v xs.length (bks xs)) :
    Calls Tryd.prog 38 #[v, .int .i64 (K : Int)] w (MarkPostK base v xs.length K w) := by
  obtain ⟨n, hn⟩ : ∃ n, n = xs.length := ⟨_, rfl⟩
  rw [← hn] at h hl ⊢
  have Hn := Lib.hid hn
  clear hn
  have HM : Hid (∀ k, k < n → ∀ W : World, Calls Tryd.prog 65 #[.int .i64 ((K : Int) + 2 * (k : Int) + 1)] W fun e w' => ∃ s, e = .returned (.string s) ∧ Below W.heap.size W w') := Lib.hid (fun k hk W => by
    have h := markTextB_any (K + 2 * k + 1) W (by omega) (by omega)
    rw [show ((K + 2 * k + 1 : Nat) : Int) = (K : Int) + 2 * (k : Int) + 1 by omega] at h
    exact h.mono fun e w' h => ⟨_, h⟩)
  rcases h.2 with ⟨rfl, h0⟩ | ⟨g, cap, cur, rfl, hb, hg, _⟩
  · subst h0
    go_enter Tryd.func38, Tryd.ntmps38
    go_wp2_with fail
    refine wp_loop_rounds 1 ?_
    rw [rounds_succ]
    go_wp2_with fail
    go_ret
    exact ⟨by simp, Below.refl _ _, World.grownBy.refl _ _⟩
  · clear hg
    go_enter Tryd.func38, Tryd.ntmps38
    go_wp2_with fail
    go_loopw [5, 1] (fun i q wr => ∃ (k : Nat) (l : List (Int × ByteArray)), k ≤ n ∧ i = .int .i64 k ∧ q = .int .i64 ((K : Int) + 2 * (k : Int)) ∧ l.length = n ∧
      wr.ownsRow base 36 2 (.slice (some ⟨g, 0, none⟩) n cap) n (bks l) ∧ Below base w wr ∧ w.grownBy wr (some g))
      (fun i _ _ => n - (Go.RowKit.intOf i).toNat)
    case atStart => exact ⟨0, xs, Nat.zero_le _, rfl, by simp, Hn.out.symm, h, Below.refl _ _, World.grownBy.refl _ _⟩
    case round =>
      clear h
      obtain ⟨k, l, hk, rfl, rfl, hll, hown, hb1, hg1⟩ := hrel
      have Hll := Lib.hid hll
      have HB1 := Lib.hid hb1
      have HG := Lib.hid hg1
      by_cases hlt : k < n
      · have c0 : wr.cell? ⟨g, k * 2, none⟩ = some (.int .i64 (l.getD k (0, emB)).1) := by
          rw [hown.cellAt _ (by omega)]; exact bks_get0 _ _ (by have := Hll.out; omega)
        have f0 : wr.frozen? ⟨g, k * 2, none⟩ = false := hown.frozenAt _
        generalize (l.getD k (0, emB)).1 = o0 at c0
        have hst0 := hown.stored (k * 2) (.int .i64 ((K : Int) + 2 * (k : Int)))
        have HO1 := Lib.hid hst0.1
        have HG1 := Lib.hid (HG.out.trans hst0.2)
        have HB2 := Lib.hid (HB1.out.setCell (p := ⟨g, k * 2, none⟩) (by exact hb) (.int .i64 ((K : Int) + 2 * (k : Int))))
        have HZ := Lib.hid (hb1.size)
        clear hst0 hown hb1 hg1 hll
        go_wp2_with fail
        refine (HM.out k hlt _).mono ?_
        rintro e w2 ⟨M, rfl, hb2⟩
        have HO2 := Lib.hid (u_own_below HO1.out hb2)
        have HG2 := Lib.hid (HG1.out.trans (grown_of_belowK hb2 (some g)))
        have HB3 := Lib.hid (HB2.out.trans (hb2.mono (by have := HZ.out; rw [World.size_setCell]; omega)))
        have hcell : w2.cell? ⟨g, k * 2 + 1, none⟩ = some (.string (l.getD k (0, emB)).2) := by
          rw [HO2.out.cellAt _ (by omega), List.getElem?_set_ne (by omega)]; exact bks_get1 _ _ (by have := Hll.out; omega)
        have hfro : w2.frozen? ⟨g, k * 2 + 1, none⟩ = false := HO2.out.frozenAt _
        generalize (l.getD k (0, emB)).2 = y at hcell
        have hst1 := HO2.out.stored (k * 2 + 1) (.string M)
        rw [bks_set _ _ _ _ (by have := Hll.out; omega)] at hst1
        have HS := Lib.hid hst1
        have HB4 := Lib.hid (HB3.out.setCell (p := ⟨g, k * 2 + 1, none⟩) (by exact hb) (.string M))
        clear hb2 hst1
        go_wp2_with fail
        go_roundw
        case rel =>
          have h1 := HS.out.1
          have h2 := HB4.out
          have h3 := HG2.out.trans HS.out.2
          refine ⟨k + 1, l.set k ((K : Int) + 2 * (k : Int), M), by omega, by go_num, by go_num, by simpa using Hll.out, ?_, ?_, ?_⟩
          case refine_1 => with_reducible exact h1
          case refine_2 => with_reducible exact h2
          case refine_3 => with_reducible exact h3
        case measure => simp [Go.RowKit.intOf]; omega
      · obtain rfl : k = n := by omega
        go_wp2_with fail
        go_ret
        exact ⟨rfl, HB1.out, HG.out⟩

def SzPostK (xs : List (Int × ByteArray)) (w : World) (e : Ending) (w' : World) : Prop :=
  (e = .returned (.int .i64 (-1)) ∨ ∃ L : Int, e = .returned (.int .i64 L) ∧ 0 ≤ L ∧ ∀ j, (xs.getD j (0, emB)).2.size ≤ 1048576) ∧ Below w.heap.size w w'

set_option maxRecDepth 100000 in
set_option maxHeartbeats 2000000 in
theorem szBlockS_any (v : Value) (xs : List (Int × ByteArray)) (w : World) (h : BL w w.heap.size v xs) :
    Calls Tryd.prog 40 #[v, .int .i64 1048576] w (SzPostK xs w) := by
  obtain ⟨hr, hlen, A, c, rfl, h3⟩ := h
  have Hr := Lib.hid hr
  clear hr
  have hE := Lib.hid (fun n s l W h0 h1 hs => szBlockB_any n s l W h0 h1 hs)
  have e0 : ¬ (1048576 - (xs.length : Int) < 0) := by omega
  go_enter Tryd.func40, Tryd.ntmps40
  go_wp2_with fail
  clear e0
  go_loopw [5, 1] (fun i q wr => ∃ (k : Nat) (L : Int), k ≤ xs.length ∧ i = .int .i64 k ∧ q = .int .i64 L ∧ 0 ≤ L ∧ L ≤ 1048576 ∧ (∀ j, j < k → (xs.getD j (0, emB)).2.size ≤ 1048576) ∧ Below w.heap.size w wr) (fun i _ _ => xs.length - (Go.RowKit.intOf i).toNat)
  case atStart => exact ⟨0, _, Nat.zero_le _, rfl, rfl, by omega, by omega, fun j hj => by omega, Below.refl _ _⟩
  case round =>
    obtain ⟨k, L, hk, rfl, rfl, hL0, hL1, hag, hb⟩ := hrel
    have Hag := Lib.hid hag
    clear hag
    by_cases hlt : k < xs.length
    · rcases h3 with h3 | ⟨b, off, rfl, hbl, hc⟩
      · subst h3; simp at hlt
      have hx0 : wr.cell? ⟨b, off + k * 2, none⟩ = some (.int .i64 (xs.getD k (0, emB)).1) := (hb.cell (p := ⟨b, off + k * 2, none⟩) hbl).trans (hc k hlt).1
      have hx1 : wr.cell? ⟨b, off + k * 2 + 1, none⟩ = some (.string (xs.getD k (0, emB)).2) := (hb.cell (p := ⟨b, off + k * 2 + 1, none⟩) hbl).trans (hc k hlt).2
      have hsm := (Hr.out k).2
      obtain ⟨x, y, hX⟩ : ∃ x y, xs.getD k (0, emB) = (x, y) := ⟨_, _, rfl⟩
      rw [hX] at hx0 hx1 hsm
      have HX := Lib.hid hX
      clear hX hc
      have HB := Lib.hid hb
      have HSm := Lib.hid hsm
      clear hb hsm
      by_cases hq : L < (y.size : Int)
      · go_wp2_with fail
        refine (hE.out x y L _ hL0 hL1 HSm.out).mono ?_
        rw [if_pos hq]
        rintro e w2 ⟨rfl, hb2⟩
        have HF := Lib.hid (HB.out.trans (hb2.mono HB.out.size))
        clear hb2
        go_wp2_with fail
        go_ret
        exact ⟨.inl rfl, HF.out⟩
      · go_wp2_with fail
        refine (hE.out x y L _ hL0 hL1 HSm.out).mono ?_
        rw [if_neg (by omega)]
        rintro e w2 ⟨rfl, hb2⟩
        have HF := Lib.hid (HB.out.trans (hb2.mono HB.out.size))
        clear hb2
        have e2 : ¬ (L - (y.size : Int) < 0) := by omega
        go_wp2_with fail
        go_roundw
        case rel =>
          refine ⟨k + 1, _, by omega, by go_num, rfl, by omega, by omega, fun j hj => ?_, HF.out⟩
          by_cases e : j = k
          · subst e; rw [HX.out]; show y.size ≤ 1048576; omega
          · exact Hag.out j (by omega)
        case measure => simp [Go.RowKit.intOf]; omega
    · obtain rfl : k = xs.length := by omega
      go_wp2_with fail
      go_ret
      refine ⟨.inr ⟨_, rfl, hL0, fun j => ?_⟩, hb⟩
      by_cases hj : j < xs.length
      · exact Hag.out j hj
      · rw [List.getD_eq_getElem?_getD, List.getElem?_eq_none (by omega)]; exact Nat.zero_le _
set_option maxRecDepth 100000 in
set_option maxHeartbeats 1000000 in
theorem szBlockS_big (A : Option Addr) (n c : Nat) (w : World) (h : (1048576 : Int) < n) (hn : n ≤ maxLen) :
    Calls Tryd.prog 40 #[.slice A n c, .int .i64 1048576] w fun e w' => e = .returned (.int .i64 (-1)) ∧ Below w.heap.size w w' := by
  unfold maxLen at hn
  have e1 : wrap64 (1048576 - (n : Int)) = 1048576 - (n : Int) := by unfold wrap64; omega
  have e0 : 1048576 - (n : Int) < 0 := by omega
  go_enter Tryd.func40, Tryd.ntmps40
  go_wp2_with fail
  go_ret
  exact ⟨rfl, Below.refl _ _⟩
end Go.Proofs.YtanoohfhifhhaaaDoor

/- Walks: marks of slices of blocks, exactly; held. -/
set_option linter.unusedVariables false
set_option linter.unusedSimpArgs false
namespace Go.Proofs.YtanoohfhifhhaaaDoor
open Go.RowKit

def mkAt (K j : Nat) : Int × ByteArray := ((K : Int) + 2 * (j : Int), mkSB (K + 2 * j + 1))
def mkBs (K n : Nat) : List (Int × ByteArray) := (List.range n).map (mkAt K)
theorem mkBs_len (K n : Nat) : (mkBs K n).length = n := by simp [mkBs]
theorem mkBs_get (K : Nat) {n j : Nat} (h : j < n) : (mkBs K n).getD j (0, emB) = mkAt K j := by simp [mkBs, List.getD_eq_getElem?_getD, h]
theorem mkSB_size {K : Nat} (h : K < 10 ^ 13) : (mkSB K).size ≤ 20 := by
  have h1 := dd_len 12 K h
  have h2 : (mkSB K).size = 1 + (Lib.decDigits K).length := by
    unfold mkSB
    rw [ByteArray.size_append]
    simp [ByteArray.size]
  omega
theorem mkBs_rng (K n : Nat) (hK : K ≤ 1000000000) (hn : n ≤ 1048576) : ∀ j, Rng ((mkBs K n).getD j (0, emB)).1 ∧ ((mkBs K n).getD j (0, emB)).2.size ≤ maxLen := by
  intro j
  by_cases hj : j < n
  · rw [mkBs_get K hj]
    refine ⟨⟨by show _ ≤ (K : Int) + 2 * (j : Int); omega, by show (K : Int) + 2 * (j : Int) ≤ _; omega⟩, ?_⟩
    have := mkSB_size (K := K + 2 * j + 1) (by omega)
    show (mkSB (K + 2 * j + 1)).size ≤ maxLen
    unfold maxLen; omega
  · rw [List.getD_eq_getElem?_getD, List.getElem?_eq_none (by rw [mkBs_len]; omega)]; exact ⟨rng_zero, Nat.zero_le _⟩
def MarkPostF (base : Nat) (v : Value) (n K : Nat) (w : World) (e : Ending) (w' : World) : Prop :=
  e = .returned (.int .i64 ((K : Int) + 2 * (n : Int))) ∧ w'.ownsRow base 36 2 v n (bks (mkBs K n)) ∧ Below base w w' ∧ w.grownBy w' v.ownBlock

set_option maxRecDepth 100000 in
set_option maxHeartbeats 4000000 in
theorem markBlockS_full (base : Nat) (v : Value) (K : Nat) (xs : List (Int × ByteArray)) (w : World) (hK : 1 ≤ K) (hK2 : K ≤ 1000000000) (hl : xs.length ≤ 1048576) (hbs : base ≤ w.heap.size) (h : w.ownsRow base 36 2 v xs.length (bks xs)) :
    Calls Tryd.prog 38 #[v, .int .i64 (K : Int)] w (MarkPostF base v xs.length K w) := by
  obtain ⟨n, hn⟩ : ∃ n, n = xs.length := ⟨_, rfl⟩
  rw [← hn] at h hl ⊢
  have Hn := Lib.hid hn
  clear hn
  have HM : Hid (∀ k, k < n → ∀ W : World, Calls Tryd.prog 65 #[.int .i64 ((K : Int) + 2 * (k : Int) + 1)] W fun e w' => e = .returned (.string (mkSB (K + 2 * k + 1))) ∧ Below W.heap.size W w') := Lib.hid (fun k hk W => by
    have h := markTextB_any (K + 2 * k + 1) W (by omega) (by omega)
    rw [show ((K + 2 * k + 1 : Nat) : Int) = (K : Int) + 2 * (k : Int) + 1 by omega] at h
    exact h)
  rcases h.2 with ⟨rfl, h0⟩ | ⟨g, cap, cur, rfl, hb, hg, _⟩
  · subst h0
    go_enter Tryd.func38, Tryd.ntmps38
    go_wp2_with fail
    refine wp_loop_rounds 1 ?_
    rw [rounds_succ]
    go_wp2_with fail
    go_ret
    exact ⟨by simp, World.ownsRow_nil _ _ _ _, Below.refl _ _, World.grownBy.refl _ _⟩
  · clear hg
    go_enter Tryd.func38, Tryd.ntmps38
    go_wp2_with fail
    go_loopw [5, 1] (fun i q wr => ∃ (k : Nat) (l : List (Int × ByteArray)), k ≤ n ∧ i = .int .i64 k ∧ q = .int .i64 ((K : Int) + 2 * (k : Int)) ∧ l.length = n ∧ Hid (∀ j, j < k → l.getD j (0, emB) = mkAt K j) ∧
      wr.ownsRow base 36 2 (.slice (some ⟨g, 0, none⟩) n cap) n (bks l) ∧ Below base w wr ∧ w.grownBy wr (some g))
      (fun i _ _ => n - (Go.RowKit.intOf i).toNat)
    case atStart => exact ⟨0, xs, Nat.zero_le _, rfl, by simp, Hn.out.symm, Lib.hid (fun j hj => by omega), h, Below.refl _ _, World.grownBy.refl _ _⟩
    case round =>
      clear h
      obtain ⟨k, l, hk, rfl, rfl, hll, HAG, hown, hb1, hg1⟩ := hrel
      have Hll := Lib.hid hll
      have HB1 := Lib.hid hb1
      have HG := Lib.hid hg1
      by_cases hlt : k < n
      · have c0 : wr.cell? ⟨g, k * 2, none⟩ = some (.int .i64 (l.getD k (0, emB)).1) := by
          rw [hown.cellAt _ (by omega)]; exact bks_get0 _ _ (by have := Hll.out; omega)
        have f0 : wr.frozen? ⟨g, k * 2, none⟩ = false := hown.frozenAt _
        generalize (l.getD k (0, emB)).1 = o0 at c0
        have hst0 := hown.stored (k * 2) (.int .i64 ((K : Int) + 2 * (k : Int)))
        have HO1 := Lib.hid hst0.1
        have HG1 := Lib.hid (HG.out.trans hst0.2)
        have HB2 := Lib.hid (HB1.out.setCell (p := ⟨g, k * 2, none⟩) (by exact hb) (.int .i64 ((K : Int) + 2 * (k : Int))))
        have HZ := Lib.hid (hb1.size)
        clear hst0 hown hb1 hg1 hll
        go_wp2_with fail
        refine (HM.out k hlt _).mono ?_
        rintro e w2 ⟨rfl, hb2⟩
        obtain ⟨M, hM⟩ : ∃ M, mkSB (K + 2 * k + 1) = M := ⟨_, rfl⟩
        rw [hM]
        have HMK := Lib.hid hM
        clear hM
        have HO2 := Lib.hid (u_own_below HO1.out hb2)
        have HG2 := Lib.hid (HG1.out.trans (grown_of_belowK hb2 (some g)))
        have HB3 := Lib.hid (HB2.out.trans (hb2.mono (by have := HZ.out; rw [World.size_setCell]; omega)))
        have hcell : w2.cell? ⟨g, k * 2 + 1, none⟩ = some (.string (l.getD k (0, emB)).2) := by
          rw [HO2.out.cellAt _ (by omega), List.getElem?_set_ne (by omega)]; exact bks_get1 _ _ (by have := Hll.out; omega)
        have hfro : w2.frozen? ⟨g, k * 2 + 1, none⟩ = false := HO2.out.frozenAt _
        generalize (l.getD k (0, emB)).2 = y at hcell
        have hst1 := HO2.out.stored (k * 2 + 1) (.string M)
        rw [bks_set _ _ _ _ (by have := Hll.out; omega)] at hst1
        have HS := Lib.hid hst1
        have HB4 := Lib.hid (HB3.out.setCell (p := ⟨g, k * 2 + 1, none⟩) (by exact hb) (.string M))
        clear hb2 hst1
        go_wp2_with fail
        go_roundw
        case rel =>
          have h1 := HS.out.1
          have h2 := HB4.out
          have h3 := HG2.out.trans HS.out.2
          refine ⟨k + 1, l.set k ((K : Int) + 2 * (k : Int), M), by omega, by go_num, by go_num, by simpa using Hll.out, Lib.hid (fun j hj => ?_), ?_, ?_, ?_⟩
          case refine_1 =>
            rw [getD_set_bk _ _ _ _ (by have := Hll.out; omega)]
            by_cases e : j = k
            · subst e; rw [if_pos rfl, ← HMK.out]; rfl
            · rw [if_neg e]; exact HAG.out j (by omega)
          case refine_2 => with_reducible exact h1
          case refine_3 => with_reducible exact h2
          case refine_4 => with_reducible exact h3
        case measure => simp [Go.RowKit.intOf]; omega
      · obtain rfl : k = n := by omega
        have e : l = mkBs K k := bks_ext (by rw [mkBs_len]; exact Hll.out) (fun j hj => by rw [HAG.out j (by have := Hll.out; omega), mkBs_get K (by have := Hll.out; omega)])
        subst e
        go_wp2_with fail
        go_ret
        exact ⟨rfl, hown, HB1.out, HG.out⟩


set_option maxRecDepth 100000 in
set_option maxHeartbeats 4000000 in
theorem heldBlockS_any (v : Value) (K n : Nat) (w : World) (hK : 1 ≤ K) (hK2 : K ≤ 1000000000) (hn : n ≤ 1048576) (h : BL w w.heap.size v (mkBs K n)) :
    Calls Tryd.prog 39 #[v, .int .i64 (K : Int)] w fun e w' => e = .returned (.int .i64 ((K : Int) + 2 * (n : Int))) ∧ Below w.heap.size w w' := by
  obtain ⟨_, _, A, c, rfl, h3⟩ := h
  have HM : Hid (∀ k, k < n → ∀ W : World, Calls Tryd.prog 65 #[.int .i64 ((K : Int) + 2 * (k : Int) + 1)] W fun e w' => e = .returned (.string (mkSB (K + 2 * k + 1))) ∧ Below W.heap.size W w') := Lib.hid (fun k hk W => by
    have h := markTextB_any (K + 2 * k + 1) W (by omega) (by omega)
    rw [show ((K + 2 * k + 1 : Nat) : Int) = (K : Int) + 2 * (k : Int) + 1 by omega] at h
    exact h)
  have hcell : n = 0 ∨ ∃ b off, A = some ⟨b, off, none⟩ ∧ b < w.heap.size ∧ ∀ j, j < n → w.cell? ⟨b, off + j * 2, none⟩ = some (.int .i64 ((K : Int) + 2 * (j : Int))) ∧ w.cell? ⟨b, off + j * 2 + 1, none⟩ = some (.string (mkSB (K + 2 * j + 1))) := by
    rcases h3 with h3 | ⟨b, off, hA, hb, hc⟩
    · left
      have := mkBs_len K n
      rw [h3] at this; simpa using this.symm
    · refine .inr ⟨b, off, hA, hb, fun j hj => ?_⟩
      have h := hc j (by rw [mkBs_len]; exact hj)
      rw [mkBs_get K hj] at h
      exact h
  rw [mkBs_len]
  clear h3
  go_enter Tryd.func39, Tryd.ntmps39
  go_wp2_with fail
  go_loopw [1, 5] (fun q i wr => ∃ k : Nat, k ≤ n ∧ i = .int .i64 k ∧ q = .int .i64 ((K : Int) + 2 * (k : Int)) ∧ Hid (Below w.heap.size w wr))
    (fun _ i _ => n - (intOf i).toNat)
  case atStart => exact ⟨0, Nat.zero_le _, rfl, by simp, Lib.hid (Below.refl _ _)⟩
  case round =>
    obtain ⟨k, hk, rfl, rfl, HB⟩ := hrel
    by_cases hlt : k < n
    · rcases hcell with hcell | ⟨b, off, rfl, hb, hcell⟩
      · omega
      obtain ⟨c0, c1⟩ := hcell k hlt
      have x0 := (HB.out.cell (p := ⟨b, off + k * 2, none⟩) hb).trans c0
      have hbr : b < wr.heap.size := by have := HB.out.size; omega
      have HMk := Lib.hid (HM.out k hlt)
      have HX1 := Lib.hid (fun W (h : Below wr.heap.size wr W) => (h.cell (p := ⟨b, off + k * 2 + 1, none⟩) hbr).trans ((HB.out.cell (p := ⟨b, off + k * 2 + 1, none⟩) hb).trans c1))
      clear c0 c1 hcell
      generalize mkSB (K + 2 * k + 1) = M at *
      have hmm : (M.toList == M.toList) = true := by simp
      have e1 : IntKind.i64.wrap ((K : Int) + 2 * (k : Int) + 1) = (K : Int) + 2 * (k : Int) + 1 := IntWalk.i64_in _ (by omega)
      have e2 : IntKind.i64.wrap ((K : Int) + 2 * (k : Int) + 1 + 1) = (K : Int) + 2 * ((k + 1 : Nat) : Int) := by rw [IntWalk.i64_in _ (by omega)]; omega
      have HD := Lib.hid (show Below wr.heap.size wr wr.drew from (Below.refl _ _).drew)
      have hx1 := HX1.out wr (Below.refl _ _)
      go_wp2_with fail
      go_region_law (first
        | (go_simp; go_at_call 65; (refine (HMk.out _).mono ?_); rintro e w2 ⟨rfl, hb2⟩; have HB2 := Lib.hid (show Below wr.heap.size wr w2 from ((Below.refl wr.heap.size wr).drew).trans hb2); have hx2 := HX1.out w2 HB2.out))
      all_goals
        go_simp
        go_wp2_with fail
        go_roundw
        case rel => exact ⟨k + 1, by omega, by go_num, by go_num, Lib.hid (HB.out.trans (HB2.out.mono HB.out.size))⟩
        case measure => simp [intOf]; omega
    · obtain rfl : k = n := by omega
      go_wp2_with fail
      go_ret
      exact ⟨rfl, HB.out⟩
end Go.Proofs.YtanoohfhifhhaaaDoor

/- Walks: slices of points: the laws' marks. -/
set_option linter.unusedVariables false
set_option linter.unusedSimpArgs false
namespace Go.Proofs.YtanoohfhifhhaaaDoor
open Go.RowKit

def marks2 (K : Int) (n : Nat) : List (Int × Int) := (List.range n).map fun j : Nat => (K + 2 * (j : Int), K + 2 * (j : Int) + 1)
theorem marks2_length (K : Int) (n : Nat) : (marks2 K n).length = n := by simp [marks2]
theorem marks2_getD (K : Int) (n j : Nat) (h : j < n) : (marks2 K n).getD j (0, 0) = (K + 2 * (j : Int), K + 2 * (j : Int) + 1) := by
  simp [marks2, List.getD_eq_getElem?_getD, h]
theorem marks2_rng (K : Int) (n : Nat) (hK : 0 ≤ K) (hK2 : K ≤ 100000000000000) (h : n ≤ 1048576) (j : Nat) : Rng ((marks2 K n).getD j (0, 0)).1 ∧ Rng ((marks2 K n).getD j (0, 0)).2 := by
  by_cases hj : j < n
  · rw [marks2_getD _ _ _ hj]
    unfold Rng
    refine ⟨?_, ?_⟩ <;> (simp only []; omega)
  · rw [List.getD_eq_getElem?_getD, List.getElem?_eq_none (by rw [marks2_length]; omega)]; exact ⟨rng_zero, rng_zero⟩

def MarkPost2 (base : Nat) (v : Value) (n : Nat) (K : Int) (w : World) (e : Ending) (w' : World) : Prop :=
  e = .returned (.int .i64 (K + 2 * (n : Int))) ∧ w'.ownsRow base 41 2 v n (prs (marks2 K n)) ∧ Below base w w' ∧ w.grownBy w' v.ownBlock

set_option maxRecDepth 100000 in
set_option maxHeartbeats 4000000 in
theorem markPointS_any (base : Nat) (v : Value) (K : Int) (xs : List (Int × Int)) (w : World) (hK : 0 ≤ K) (hK2 : K ≤ 100000000000000) (hl : xs.length ≤ 1048576) (h : w.ownsRow base 41 2 v xs.length (prs xs)) :
    Calls Tryd.prog 37 #[v, .int .i64 K] w (MarkPost2 base v xs.length K w) := by
  obtain ⟨n, hn⟩ : ∃ n, n = xs.length := ⟨_, rfl⟩
  rw [← hn] at h hl ⊢
  have Hn := Lib.hid hn
  clear hn
  rcases h.2 with ⟨rfl, h0⟩ | ⟨g, cap, cur, rfl, hb, hg, _⟩
  · subst h0
    go_enter Tryd.func37, Tryd.ntmps37
    go_wp2_with fail
    refine wp_loop_rounds 1 ?_
    rw [rounds_succ]
    go_wp2_with fail
    go_ret
    exact ⟨by simp, World.ownsRow_nil _ _ _ _, Below.refl _ _, World.grownBy.refl _ _⟩
  · clear hg
    go_enter Tryd.func37, Tryd.ntmps37
    go_wp2_with fail
    go_loopw [5, 1] (fun i q wr => ∃ (k : Nat) (l : List (Int × Int)), k ≤ n ∧ i = .int .i64 k ∧ q = .int .i64 (K + 2 * (k : Int)) ∧ l.length = n ∧ (∀ j : Nat, j < k → l.getD j (0, 0) = (K + 2 * (j : Int), K + 2 * (j : Int) + 1)) ∧
      wr.ownsRow base 41 2 (.slice (some ⟨g, 0, none⟩) n cap) n (prs l) ∧ Below base w wr ∧ w.grownBy wr (some g))
      (fun i _ _ => n - (intOf i).toNat)
    case atStart => exact ⟨0, xs, Nat.zero_le _, rfl, by simp, Hn.out.symm, fun j hj => by omega, h, Below.refl _ _, World.grownBy.refl _ _⟩
    case round =>
      clear h
      obtain ⟨k, l, hk, rfl, rfl, hll, hag, hown, hb1, hg1⟩ := hrel
      have Hag := Lib.hid hag
      have Hll := Lib.hid hll
      clear hag hll
      by_cases hlt : k < n
      · have c0 : wr.cell? ⟨g, k * 2, none⟩ = some (.int .i64 (l.getD k (0, 0)).1) := by
          rw [hown.cellAt _ (by omega)]; exact prs_get0 _ _ (by have := Hll.out; omega)
        have c1 : wr.cell? ⟨g, k * 2 + 1, none⟩ = some (.int .i64 (l.getD k (0, 0)).2) := by
          rw [hown.cellAt _ (by omega)]; exact prs_get1 _ _ (by have := Hll.out; omega)
        have f0 : wr.frozen? ⟨g, k * 2, none⟩ = false := hown.frozenAt _
        have f1 : wr.frozen? ⟨g, k * 2 + 1, none⟩ = false := hown.frozenAt _
        generalize (l.getD k (0, 0)).1 = o0 at c0
        generalize (l.getD k (0, 0)).2 = o1 at c1
        have hst0 := hown.stored (k * 2) (.int .i64 (K + 2 * (k : Int)))
        have hst1 := hst0.1.stored (k * 2 + 1) (.int .i64 (K + 2 * (k : Int) + 1))
        have hown2 := hst1.1
        rw [prs_set l k (K + 2 * (k : Int)) (K + 2 * (k : Int) + 1) (by have := Hll.out; omega)] at hown2
        have hb2 := ((hb1.setCell (p := ⟨g, k * 2, none⟩) (by exact hb) (.int .i64 (K + 2 * (k : Int)))).setCell (p := ⟨g, k * 2 + 1, none⟩) (by exact hb) (.int .i64 (K + 2 * (k : Int) + 1)))
        have hg2 := ((hg1.trans hst0.2).trans hst1.2)
        have HO := Lib.hid hown2
        have HB := Lib.hid hb2
        have HG := Lib.hid hg2
        clear hst0 hst1 hown2 hb2 hg2 hb1 hg1 hown
        go_wp2_with fail
        go_roundw
        case rel =>
          have h1 := HO.out
          have h2 := HB.out
          have h3 := HG.out
          have h0 := Hll.out
          clear HO HB HG
          refine ⟨k + 1, l.set k (K + 2 * (k : Int), K + 2 * (k : Int) + 1), by omega, by go_num, by go_num, by simpa using h0, fun j hj => ?_, ?_, ?_, ?_⟩
          case refine_2 => with_reducible exact h1
          case refine_3 => with_reducible exact h2
          case refine_4 => with_reducible exact h3
          rw [getD_set_pr _ _ _ _ (by have := Hll.out; omega)]
          by_cases e : j = k
          · subst e; rw [if_pos rfl]; (try simp only [Prod.mk.injEq]); (repeat' (first | trivial | omega | apply And.intro))
          · rw [if_neg e]; exact Hag.out j (by omega)
        case measure => simp [intOf]; omega
      · obtain rfl : k = n := by omega
        have e : l = marks2 K k := prs_ext (by rw [marks2_length]; exact Hll.out) (fun j hj => by rw [marks2_getD _ _ _ (by have := Hll.out; omega)]; exact Hag.out j (by have := Hll.out; omega))
        subst e
        go_wp2_with fail
        go_ret
        exact ⟨rfl, hown, hb1, hg1⟩

set_option maxRecDepth 100000 in
set_option maxHeartbeats 4000000 in
theorem heldPointS_any (v : Value) (n : Nat) (K : Int) (w : World) (hK : 0 ≤ K) (hK2 : K ≤ 100000000000000) (h : PL w w.heap.size v (marks2 K n)) :
    Calls Tryd.prog 42 #[v, .int .i64 K] w fun e w' => e = .returned (.int .i64 (K + 2 * (n : Int))) ∧ w = w' := by
  obtain ⟨hr, hlen, A, c, rfl, h3⟩ := h
  rw [marks2_length] at hlen
  have hc0 : marks2 K n = [] ∨ ∃ b off, A = some ⟨b, off, none⟩ ∧ ∀ j, j < n → w.cell? ⟨b, off + j * 2, none⟩ = some (.int .i64 (K + 2 * (j : Int))) ∧ w.cell? ⟨b, off + j * 2 + 1, none⟩ = some (.int .i64 (K + 2 * (j : Int) + 1)) := by
    rcases h3 with h3 | ⟨b, off, rfl, hbl, hc⟩
    · exact .inl h3
    · exact .inr ⟨b, off, rfl, fun j hj => by have := hc j (by rw [marks2_length]; exact hj); rw [marks2_getD _ _ _ hj] at this; exact this⟩
  rw [marks2_length]
  clear h3 hr
  go_enter Tryd.func42, Tryd.ntmps42
  go_wp2_with fail
  go_loop [5, 1] (fun i q => ∃ k : Nat, k ≤ n ∧ i = .int .i64 k ∧ q = .int .i64 (K + 2 * (k : Int))) (fun i _ => n - (intOf i).toNat)
  case atStart => exact ⟨0, Nat.zero_le _, rfl, by simp⟩
  case round =>
    obtain ⟨k, hk, rfl, rfl⟩ := hrel
    by_cases hlt : k < n
    · rcases hc0 with hc0 | ⟨b, off, rfl, hc⟩
      · have := marks2_length K n; rw [hc0] at this; simp at this; omega
      obtain ⟨hx0, hx1⟩ := hc k hlt
      clear hc
      have e1 : wrap64 ((K + 2 * (k : Int)) + 1) = K + 2 * (k : Int) + 1 := by unfold wrap64; omega
      have e2 : wrap64 ((K + 2 * (k : Int) + 1) + 1) = K + 2 * (k : Int) + 2 := by unfold wrap64; omega
      go_wp2_with fail
      go_round
      case rel => exact ⟨k + 1, by omega, by go_num, by go_num⟩
      case measure => simp [intOf]; omega
    · obtain rfl : k = n := by omega
      clear hc0
      go_wp2_with fail
      go_ret
      exact ⟨rfl, rfl⟩
end Go.Proofs.YtanoohfhifhhaaaDoor

/- Walks: the law FnExactChunks. -/
set_option linter.unusedVariables false
set_option linter.unusedSimpArgs false
namespace Go.Proofs.YtanoohfhifhhaaaDoor
open Go.RowKit

theorem chsM_ok (xs : List (Int × Int)) (z : Int) : (∀ j, Rng ((chsM xs z).getD j (0, emB)).1 ∧ ((chsM xs z).getD j (0, emB)).2.size ≤ maxLen) ∧ (chsM xs z).length ≤ 1048576 := by
  have h0 : ∀ j, Rng (([] : List (Int × ByteArray)).getD j (0, emB)).1 ∧ (([] : List (Int × ByteArray)).getD j (0, emB)).2.size ≤ maxLen := fun j => ⟨by simpa using rng_zero, by simp; exact Nat.zero_le _⟩
  cases hb : chsB xs z with
  | false =>
    have e : chsM xs z = [] := by unfold chsM; rw [hb]; rfl
    rw [e]; exact ⟨h0, Nat.zero_le _⟩
  | true =>
    have e : chsM xs z = chkT xs z.toNat (nCh xs.length z.toNat) := by unfold chsM; rw [hb]; rfl
    rw [e]
    unfold chsB at hb
    rw [Bool.and_eq_true] at hb
    have hz : 1 ≤ z ∧ z ≤ 120 := by have := hb.2; unfold vIn at this; simpa using this
    have hl := ptsOk_len hb.1
    have hn := nCh_le (n := xs.length) (s := z.toNat) (by omega)
    refine ⟨fun j => ?_, by rw [chkT_len]; omega⟩
    by_cases hj : j < nCh xs.length z.toNat
    · have e2 : (chkT xs z.toNat (nCh xs.length z.toNat)).getD j (0, emB) = bkOf (chk xs z.toNat (j * z.toNat)) := by
        simp [chkT, List.getD_eq_getElem?_getD, hj]
      rw [e2]
      have h1 := bkD_size (chk xs z.toNat (j * z.toNat))
      have h2 := chk_len xs z.toNat (j * z.toNat)
      refine ⟨?_, by show (bkD _).size ≤ maxLen; unfold maxLen; omega⟩
      show Rng (bkN (chk xs z.toNat (j * z.toNat)))
      unfold bkN
      split
      · exact ⟨by omega, by omega⟩
      · exact rng_zero
    · rw [List.getD_eq_getElem?_getD, List.getElem?_eq_none (by rw [chkT_len]; omega)]; exact ⟨rng_zero, Nat.zero_le _⟩

set_option maxRecDepth 100000 in
set_option maxHeartbeats 4000000 in
theorem walkFnExactChunks (A : Option Addr) (n c : Nat) (z : Int) (w : World) (hT : Tab w) (hn : n ≤ maxLen) (hx : n ≤ 1048576 → ∃ xs : List (Int × Int), xs.length = n ∧ PL w w.heap.size (.slice A n c) xs) (r_z : Rng z) :
    Calls Tryd.prog 8 #[.slice A n c, .int .i64 z] w fun e w' => e = .returned (.bool true) ∧ Below w.heap.size w w' := by
  unfold maxLen at hn
  by_cases hbig : (1048576 : Int) < n
  · clear hx
    have e1 : wrap64 (1048576 - (n : Int)) = 1048576 - (n : Int) := by unfold wrap64; omega
    go_enter Tryd.func8, Tryd.ntmps8
    go_wp2
    go_ret
    exact ⟨rfl, Below.refl _ _⟩
  · obtain ⟨xs, rfl, hil⟩ := hx (by omega)
    have Hil := Lib.hid hil
    have Hrng := Lib.hid hil.1
    have hsp := Lib.hid (fun v W h hc => specChunks_any v xs z W h hc)
    have HTab := Lib.hid hT
    have him := Lib.hid (fun v W h hc hT => implChunks_any v xs z W h hc hT)
    unfold BOutF at hsp him
    obtain ⟨yr, hyl⟩ := chsM_ok xs z
    have YR := Lib.hid yr
    have hcp := Lib.hid (fun v W h => toPointS_any v xs W h)
    have heqA := Lib.hid (fun v u W h h' => eqPointS_any v u xs xs W h h')
    rw [decide_eq_true rfl] at heqA
    have hmkA := Lib.hid (fun base v W h => markPointS_any base v 1 xs W (by omega) (by omega) (by omega) h)
    clear hx hil yr hT
    generalize (chsM xs z) = ys at *
    have heqR := Lib.hid (fun v u W h h' => eqBlockS_any v u ys ys W h h')
    rw [decide_eq_true rfl] at heqR
    have hmkR : Hid (∀ (base : Nat) (v : Value) (W : World), base ≤ W.heap.size → W.ownsRow base 36 2 v ys.length (bks ys) → Calls Tryd.prog 38 #[v, .int .i64 1] W (fun e w' => e = .returned (.int .i64 (1 + 2 * (ys.length : Int))) ∧ w'.ownsRow base 36 2 v ys.length (bks (mkBs 1 ys.length)) ∧ Below base W w' ∧ W.grownBy w' v.ownBlock)) := Lib.hid (fun base v W hb h => markBlockS_full base v 1 ys W (by omega) (by omega) hyl hb h)
    have hhdR : Hid (∀ (v : Value) (W : World), BL W W.heap.size v (mkBs 1 ys.length) → Calls Tryd.prog 39 #[v, .int .i64 1] W (fun e w' => e = .returned (.int .i64 (1 + 2 * (ys.length : Int))) ∧ Below W.heap.size W w')) := Lib.hid (fun v W h => heldBlockS_any v 1 ys.length W (by omega) (by omega) hyl h)
    have hmr := Lib.hid (mkBs_rng 1 ys.length (by omega) hyl)
    have e1 : wrap64 (1048576 - (xs.length : Int)) = 1048576 - (xs.length : Int) := by unfold wrap64; omega
    generalize chsB xs z = fb at *
    cases fb
    all_goals
      go_enter Tryd.func8, Tryd.ntmps8
      go_wp2_with (first | (go_at_call 33; go_in) | fail)
      refine (hcp.out _ _ Hil.out).mono ?_
      rintro e w1 ⟨v1, rfl, hown1, hb1⟩
      have H1 := Lib.hid (PL.of_own hown1 rfl Hrng.out (by omega))
      have Hil1 := Lib.hid ((Hil.out.below hb1).up hb1.size)
      have B1 := Lib.hid hb1
      have K1 := Lib.hid (CapOk.of_own hown1)
      clear hown1 hb1 Hil e1
      go_wp2_with fail
      refine (hsp.out _ _ H1.out K1.out).mono ?_
      rintro e w2 ⟨v2, rfl, hown2, hb2⟩
      have R2 := Lib.hid (BL.of_own hown2 rfl YR.out hyl)
      have Hil2 := Lib.hid ((Hil1.out.below hb2).up hb2.size)
      have B2 := Lib.hid (B1.out.trans (hb2.mono B1.out.size))
      clear hown2 hb2 Hil1 B1 H1
      go_wp2_with fail
      refine (hcp.out _ _ Hil2.out).mono ?_
      rintro e w3 ⟨v3, rfl, hown3, hb3⟩
      have S0 := B2.out.size
      have S3 := hb3.size
      have O3 := Lib.hid hown3
      have Q3 := Lib.hid hown3.lt
      have R3 := Lib.hid (R2.out.below hb3)
      have Hil3 := Lib.hid (Hil2.out.below hb3)
      have B3 := Lib.hid (B2.out.trans (hb3.mono S0))
      clear hown3 hb3 Hil2 B2 R2
      go_wp2_with fail
      refine (him.out _ _ (PL.of_own O3.out rfl Hrng.out (by omega)) (CapOk.of_own O3.out) (HTab.out.below B3.out)).mono ?_
      rintro e w4 ⟨v4, rfl, hown4, hb4⟩
      have S4 := hb4.size
      have O4 := Lib.hid hown4
      have P4 := Lib.hid (u_own_below O3.out hb4)
      have R4 := Lib.hid (R3.out.below (hb4.mono S3))
      have Hil4 := Lib.hid (Hil3.out.below (hb4.mono S3))
      have B4 := Lib.hid (B3.out.trans (hb4.mono (by omega)))
      clear hown4 hb4 Hil3 B3 R3 O3
      go_wp2_with fail
      refine (heqR.out _ _ _ (BL.of_own O4.out rfl YR.out hyl) (R4.out.up (by omega))).mono ?_
      rintro e w5 ⟨rfl, hb5⟩
      have S5 := hb5.size
      have O5 := Lib.hid (u_own_below O4.out hb5)
      have P5 := Lib.hid (u_own_below P4.out hb5)
      have R5 := Lib.hid (R4.out.below (hb5.mono (by omega)))
      have Hil5 := Lib.hid (Hil4.out.below (hb5.mono (by omega)))
      have B5 := Lib.hid (B4.out.trans (hb5.mono (by omega)))
      clear hb5 Hil4 B4 R4 O4 P4
      go_wp2_with fail
      refine (hcp.out _ _ (Hil5.out.up (by omega))).mono ?_
      rintro e w6 ⟨v6, rfl, hown6, hb6⟩
      have S6 := hb6.size
      have H6 := Lib.hid (PL.of_own hown6 rfl Hrng.out (by omega))
      have O6 := Lib.hid (u_own_below O5.out hb6)
      have P6 := Lib.hid (u_own_below P5.out hb6)
      have R6' := Lib.hid (R5.out.below (hb6.mono (by omega)))
      have Hil6 := Lib.hid (Hil5.out.below (hb6.mono (by omega)))
      have B6 := Lib.hid (B5.out.trans (hb6.mono (by omega)))
      clear hb6 hown6 Hil5 B5 R5 O5 P5
      go_wp2_with fail
      refine (heqA.out _ _ _ (PL.of_own P6.out rfl Hrng.out (by omega)) H6.out).mono ?_
      rintro e w7 ⟨rfl, hb7⟩
      have S7 := hb7.size
      have O7 := Lib.hid (u_own_below O6.out hb7)
      have P7 := Lib.hid (u_own_below P6.out hb7)
      have R7 := Lib.hid (R6'.out.below (hb7.mono (by omega)))
      have Hil7 := Lib.hid (Hil6.out.below (hb7.mono (by omega)))
      have B7 := Lib.hid (B6.out.trans (hb7.mono (by omega)))
      clear hb7 Hil6 B6 R6' O6 P6 H6
      go_wp2_with fail
      refine (hmkA.out _ _ _ P7.out).mono ?_
      rintro e w8 ⟨rfl, hown8, hb8, hg8⟩
      have S8 := hg8.size
      have hne : v4.ownBlock = none ∨ v4.ownBlock ≠ v3.ownBlock := by
        cases h4 : v4.ownBlock with
        | none => exact .inl rfl
        | some k4 =>
          right
          intro h3
          have q4 := (O7.out.lt k4 h4).1
          have q3 := (Q3.out k4 h3.symm).2
          omega
      have O8 := Lib.hid (O7.out.kept hg8 hne)
      have R8 := Lib.hid (R7.out.below hb8)
      have Hil8 := Lib.hid (Hil7.out.below hb8)
      have B8 := Lib.hid (B7.out.trans (hb8.mono (by omega)))
      clear hown8 hb8 hg8 hne Hil7 B7 R7 O7 P7 Q3
      go_wp2_with fail
      refine (heqR.out _ _ _ (BL.of_own O8.out rfl YR.out hyl) (R8.out.up (by omega))).mono ?_
      rintro e w9 ⟨rfl, hb9⟩
      have S9 := hb9.size
      have O9 := Lib.hid (u_own_below O8.out hb9)
      have R9 := Lib.hid (R8.out.below (hb9.mono (by omega)))
      have Hil9 := Lib.hid (Hil8.out.below (hb9.mono (by omega)))
      have B9 := Lib.hid (B8.out.trans (hb9.mono (by omega)))
      clear hb9 Hil8 B8 R8 O8
      go_wp2_with fail
      refine (hmkR.out _ _ _ (by omega) O9.out).mono ?_
      rintro e w10 ⟨rfl, hown10, hb10, hg10⟩
      have S10 := hg10.size
      have G10 := Lib.hid (BL.of_own hown10 (mkBs_len _ _).symm hmr.out (by rw [mkBs_len]; exact hyl))
      have R10 := Lib.hid (R9.out.below (hb10.mono (by omega)))
      have Hil10 := Lib.hid (Hil9.out.below (hb10.mono (by omega)))
      have B10 := Lib.hid (B9.out.trans (hb10.mono (by omega)))
      clear hown10 hb10 hg10 Hil9 B9 R9 O9
      go_wp2_with fail
      refine (hhdR.out _ _ G10.out).mono ?_
      rintro e wh ⟨rfl, hbh⟩
      have SH := hbh.size
      have GH := Lib.hid ((G10.out.below hbh).up hbh.size)
      have RH := Lib.hid (R10.out.below (hbh.mono (by omega)))
      have HilH := Lib.hid (Hil10.out.below (hbh.mono (by omega)))
      have BH := Lib.hid (B10.out.trans (hbh.mono (by omega)))
      clear hbh Hil10 B10 R10 G10
      go_wp2_with fail
      refine (hcp.out _ _ (HilH.out.up (by omega))).mono ?_
      rintro e w11 ⟨v11, rfl, hown11, hb11⟩
      have S11 := hb11.size
      have H11 := Lib.hid (PL.of_own hown11 rfl Hrng.out (by omega))
      have G11 := Lib.hid ((GH.out.below hb11).up hb11.size)
      have R11 := Lib.hid (RH.out.below (hb11.mono (by omega)))
      have B11 := Lib.hid (BH.out.trans (hb11.mono (by omega)))
      have K11 := Lib.hid (CapOk.of_own hown11)
      clear hown11 hb11 HilH BH RH GH
      go_wp2_with fail
      refine (him.out _ _ H11.out K11.out (HTab.out.below B11.out)).mono ?_
      rintro e w12 ⟨v12, rfl, hown12, hb12⟩
      have S12 := hb12.size
      have J12 := Lib.hid (BL.of_own hown12 rfl YR.out hyl)
      have G12 := Lib.hid ((G11.out.below hb12).up hb12.size)
      have R12 := Lib.hid (R11.out.below (hb12.mono (by omega)))
      have B12 := Lib.hid (B11.out.trans (hb12.mono (by omega)))
      clear hown12 hb12 B11 R11 G11 H11
      go_wp2_with fail
      refine (heqR.out _ _ _ J12.out (R12.out.up (by omega))).mono ?_
      rintro e w13 ⟨rfl, hb13⟩
      have G13 := Lib.hid ((G12.out.below hb13).up hb13.size)
      have B13 := Lib.hid (B12.out.trans (hb13.mono (by omega)))
      clear hb13 B12 R12 G12 J12
      go_wp2_with fail
      refine (hhdR.out _ _ G13.out).mono ?_
      rintro e w14 ⟨rfl, hb14⟩
      go_wp2_with fail
      go_ret
      exact ⟨rfl, B13.out.trans (hb14.mono (by have := B13.out.size; omega))⟩
end Go.Proofs.YtanoohfhifhhaaaDoor
