/- Walks: the model's bits of values; the law FnExactValuesBits. -/
import Derived.Test.YtanoohfhifhhaaaDoorEg
import Derived.Test.YtanoohfhifhhaaaDoorQs
import Derived.Deep.RegionHeld3
set_option linter.unusedVariables false
set_option linter.unusedSimpArgs false
namespace Go.Proofs.YtanoohfhifhhaaaDoor
open Go.RowKit

theorem RB.new (w : World) (s : ByteArray) (N : Int) : RB (w.alloc (.cells #[.string s, .int .i64 N] 77)) w.heap.size s N := heap_alloc_new w _
theorem below1 (w : World) (o : Obj) : Below w.heap.size w (w.alloc o) := eb_below1 w o
theorem intsAt_own {w : World} {base g c : Nat} {l : List Bool} (h : w.ownsRow base 2 1 (.slice (some ⟨g, 0, none⟩) l.length c) l.length (bitInts l)) : IntsAt w w.heap.size (some ⟨g, 0, none⟩) (bitInts l) :=
  .inr ⟨g, 0, rfl, (h.lt g rfl).2, fun j u hj => by
    have := h.cells rfl j u hj
    rw [addr_add] at this
    exact this⟩


/-- what ValuesBits returns -/
def vbL (xs : List Int) : List Bool := if xs.length ≤ 120 then (valTo xs xs.length).1 else []
def vbS (xs : List Int) : ByteArray := ⟨(BM.pack (vbL xs)).toArray⟩
theorem pack_nil : BM.pack [] = [] := rfl
theorem vb_bad {xs : List Int} (h : ¬ xs.length ≤ 120) : vbS xs = ⟨#[]⟩ ∧ ((vbL xs).length : Int) = 0 ∧ decide (xs.length ≤ 120) = false := by
  have e : vbL xs = [] := by unfold vbL; rw [if_neg h]
  refine ⟨by unfold vbS; rw [e, pack_nil], by rw [e]; rfl, by simpa using h⟩
theorem vb_good {xs : List Int} (h : xs.length ≤ 120) : vbL xs = (valTo xs xs.length).1 ∧ decide (xs.length ≤ 120) = true := by
  refine ⟨by unfold vbL; rw [if_pos h], by simpa using h⟩
theorem implValuesBits_any (v : Value) (xs : List Int) (w : World) (h : IL w w.heap.size v xs) (hT : Tab w) :
    Calls Tryd.prog 75 #[v] w (BPostV (vbS xs) ((vbL xs).length : Int) (decide (xs.length ≤ 120)) w) := by
  by_cases hl : xs.length ≤ 120
  · rw [(vb_good hl).2]
    exact implValuesBits_good v xs w h hl hT _ _ (Lib.hid ⟨by rw [(vb_good hl).1], by rw [(vb_good hl).1]⟩)
  · obtain ⟨h1, h2, h3⟩ := vb_bad hl
    rw [h1, h2, h3]
    exact implValuesBits_bad v xs w h hl

end Go.Proofs.YtanoohfhifhhaaaDoor

/- Walks: the document's reader of values. -/
set_option linter.unusedVariables false
set_option linter.unusedSimpArgs false
namespace Go.Proofs.YtanoohfhifhhaaaDoor
open Go.RowKit

def BackV (r : Option (List Int × Nat × Nat × Nat)) (w : World) (e : Ending) (w' : World) : Prop := match r with
  | some (xs, q, _, _) => ∃ v, e = .returned (.tuple #[v, .int .i64 (q : Int), .bool true]) ∧ w'.ownsRow w.heap.size 2 1 v xs.length (ints xs)
  | none => e = .returned (.tuple #[.slice none 0 0, .int .i64 0, .bool false])
def SB0 (g : Nat) (s : ByteArray) (N : Int) (W : World) : Prop := W.cell? ⟨g, 0, none⟩ = some (.string s) ∧ W.cell? ⟨g, 1, none⟩ = some (.int .i64 N)
theorem numB_take {s : ByteArray} {n a k : Nat} (h : a + k ≤ n) : numB (BM.listOf s.data.toList n) a k = takeN s a k := by
  unfold numB takeN
  apply BM.ofBits_congr
  intro i hi
  rw [BM.listOf_getD, if_pos (by omega)]
theorem numB_one {s : ByteArray} {n a : Nat} (h : a + 1 ≤ n) : numB (BM.listOf s.data.toList n) a 1 = (BM.bitAt s.data.toList a).toNat := by
  rw [numB_take h]; unfold takeN; simp [BM.ofBits]
theorem numB_lt (L : List Bool) (a k : Nat) : numB L a k < 2 ^ k := BM.ofBits_lt _ _
theorem xor_nought {a : Int} (h : Rng a) : bits .xor .i64 a 0 = a := by
  show IntKind.i64.wrap ((BitVec.ofInt 64 a ^^^ BitVec.ofInt 64 0).toNat : Int) = a
  rw [show BitVec.ofInt 64 0 = 0#64 from rfl, BitVec.xor_zero, BitVec.toNat_ofInt, u_i64_wrap]
  unfold Rng at h
  unfold wrap64
  omega
theorem u64_small (t : Nat) (h : t ≤ 64) : IntKind.u64.wrap (t : Int) = (t : Int) := by
  simp only [IntKind.wrap, IntKind.bits, IntKind.signed]
  simp
  omega
theorem shl_i64 (V t : Nat) : IntKind.i64.wrap (wrap64 (V : Int) * 2 ^ t) = wrap64 ((V * 2 ^ t : Nat) : Int) := by
  rw [u_i64_wrap]
  have h2 : ((2 : Int) ^ t) = ((2 ^ t : Nat) : Int) := by simp
  rw [h2, Int.natCast_mul]
  generalize ((2 ^ t : Nat) : Int) = m
  generalize (V : Int) = v
  unfold wrap64
  have h3 : (v + 9223372036854775808) % 18446744073709551616 = v + 9223372036854775808 - 18446744073709551616 * ((v + 9223372036854775808) / 18446744073709551616) := by omega
  rw [h3]
  generalize (v + 9223372036854775808) / 18446744073709551616 = d
  have h4 : (v + 9223372036854775808 - 18446744073709551616 * d - 9223372036854775808) * m = v * m - 18446744073709551616 * (d * m) := by
    rw [show v + 9223372036854775808 - 18446744073709551616 * d - 9223372036854775808 = v - 18446744073709551616 * d by omega, Int.sub_mul, Int.mul_assoc]
  rw [h4]
  generalize v * m = a
  generalize d * m = b
  omega
theorem valG_none {L : List Bool} {k p : Nat} (h : valG L k p = none) : ∀ n, k ≤ n → valG L n p = none := by
  intro n
  induction n with
  | zero => intro hk; obtain rfl : k = 0 := by omega
            exact h
  | succ n ih =>
    intro hk
    by_cases e : k = n + 1
    · subst e; exact h
    · rw [valG, ih (by omega)]
theorem valG_step {L : List Bool} {k p q l t : Nat} {xs : List Int} (h : valG L k p = some (xs, q, l, t)) :
    valG L (k + 1) p = if k = 0 then (if q + 64 ≤ L.length then some (xs ++ [wrap64 ((numB L q 64 : Nat) : Int)], q + 64, 64, 64) else none)
      else match stepR L q l t with
        | none => none
        | some (x, q', l', t') => some (xs ++ [bits .xor .i64 (xs.getD (k - 1) 0) x], q', l', t') := by
  simp only [valG, h]
  split <;> rfl
theorem stepR_0 {L : List Bool} {p l t : Nat} (h : ¬ p + 1 ≤ L.length) : stepR L p l t = none := by unfold stepR; rw [if_neg h]
theorem stepR_1 {L : List Bool} {p l t : Nat} (h : p + 1 ≤ L.length) (h1 : numB L p 1 = 0) : stepR L p l t = some (0, p + 1, l, t) := by unfold stepR; rw [if_pos h, if_pos h1]
theorem stepR_2 {L : List Bool} {p l t : Nat} (h : p + 1 ≤ L.length) (h1 : ¬ numB L p 1 = 0) (h2 : ¬ p + 2 ≤ L.length) : stepR L p l t = none := by unfold stepR; rw [if_pos h, if_neg h1, if_neg h2]
theorem stepR_3 {L : List Bool} {p l t : Nat} (h2 : p + 2 ≤ L.length) (h1 : ¬ numB L p 1 = 0) (h3 : numB L (p + 1) 1 = 0) :
    stepR L p l t = if l + t ≤ 63 ∧ p + 2 + (64 - l - t) ≤ L.length then some (wrap64 ((numB L (p + 2) (64 - l - t) * 2 ^ t : Nat) : Int), p + 2 + (64 - l - t), l, t) else none := by
  unfold stepR; rw [if_pos (show p + 1 ≤ L.length by omega), if_neg h1, if_pos h2, if_pos h3]
theorem stepR_4 {L : List Bool} {p l t : Nat} (h2 : p + 2 ≤ L.length) (h1 : ¬ numB L p 1 = 0) (h3 : ¬ numB L (p + 1) 1 = 0) (h4 : ¬ p + 13 ≤ L.length) : stepR L p l t = none := by
  unfold stepR; rw [if_pos (show p + 1 ≤ L.length by omega), if_neg h1, if_pos h2, if_neg h3, if_neg h4]
theorem stepR_5 {L : List Bool} {p l t : Nat} (h2 : p + 2 ≤ L.length) (h1 : ¬ numB L p 1 = 0) (h3 : ¬ numB L (p + 1) 1 = 0) (h4 : p + 13 ≤ L.length) :
    stepR L p l t = if numB L (p + 2) 5 + numB L (p + 7) 6 ≤ 63 ∧ p + 13 + (numB L (p + 7) 6 + 1) ≤ L.length then
          some (wrap64 ((numB L (p + 13) (numB L (p + 7) 6 + 1) * 2 ^ (63 - numB L (p + 2) 5 - numB L (p + 7) 6) : Nat) : Int), p + 13 + (numB L (p + 7) 6 + 1), numB L (p + 2) 5, 63 - numB L (p + 2) 5 - numB L (p + 7) 6)
        else none := by
  unfold stepR; rw [if_pos (show p + 1 ≤ L.length by omega), if_neg h1, if_pos h2, if_neg h3, if_pos h4]
theorem step_append_ownQ {P : Program} (w : World) {ops : Array Oper} {o : Oper} {a : Act} {K : Act → World → Prop} {Q : Exit → Act → World → Prop} {E : Prop} (hgd : o.guard = none) (s x : Operand) (t : TypeId)
    (ho : o.op = .call { callee := .builtin .append, args := #[s, x], argTypes := #[t, t] })
    (base : Nat) (e : TypeId) (i : TypeInfo) (z : Value) (size bytes : Nat) (ht : P.underlying t = some (.slice e)) (hi : P.info? e = some i) (hz : i.zero = some z)
    (hsize : i.size = size) (hby : i.bytes = bytes) (hzs : z.cells.size = size) (hsz : 0 < size)
    (v : Value) (n : Nat) (xs : List Value) (hs : a.eval s = v) (hown : w.ownsRow base e size v n xs)
    (ad : Addr) (m c : Nat) (news : List Value) (hx : a.eval x = .slice (some ad) m c) (hl : news.length = m * size) (hnews : ∀ j u, news[j]? = some u → w.cell? (ad.add j) = some u) (h1 : ∀ u ∈ news, u.oneCell' = true)
    (h63 : n + m ≤ maxLen) (hbytes : (n + m) * bytes ≤ 140737488355328) (hbase : base ≤ w.heap.size)
    (h : ∀ v' w', w'.ownsRow base e size v' (n + m) (xs ++ news) → w.grownBy w' v.ownBlock → (v' = .slice none 0 0 ↔ v = .slice none 0 0 ∧ m = 0) → K (a.put o.dst v') w') :
    if Region.wanted o (yielded ops a.tmps) = true then Oper.wp P o a w K Q else E := by
  have hw : Region.wanted o (yielded ops a.tmps) = true := by simp [Region.wanted, hgd]
  rw [if_pos hw]
  exact wp_append_own w s x t ho base e i z size bytes ht hi hz hsize hby hzs hsz v n xs hs hown ad m c news hx hl hnews h1 h63 hbytes hbase h


set_option maxRecDepth 100000 in
set_option maxHeartbeats 8000000 in
theorem l4Back_any (s : ByteArray) (N p n : Nat) (w : World) (hs : s.size ≤ maxLen) (hN : N ≤ 20000) (h8 : N ≤ 8 * s.size) (hp : p ≤ N) (hn : n ≤ 120) (L : List Bool) (hL : BM.listOf s.data.toList N = L) :
    Calls Tryd.prog 87 #[.agg #[.string s, .int .i64 (N : Int)], .int .i64 (p : Int), .int .i64 (n : Int)] w fun e w' => BackV (valG L n p) w e w' ∧ Below w.heap.size w w' := by
  have hlen : L.length = N := by rw [← hL]; exact BM.listOf_length _ _
  have HTk := Lib.hid (fun (q j : Nat) W (hq : q + j ≤ N) => l1Take_any s (N : Int) q j W (by omega) (by omega) hs)
  have HNm := Lib.hid (fun (q j : Nat) (hq : q + j ≤ N) => numB_take (s := s) (n := N) (a := q) (k := j) hq)
  have HBt := Lib.hid (fun (q : Nat) W (hq : q + 1 ≤ N) => l1Bit_any s q W (by omega) (by omega) hs)
  have HNo := Lib.hid (fun (q : Nat) (hq : q + 1 ≤ N) => numB_one (s := s) (n := N) (a := q) hq)
  rw [hL] at HNm HNo
  have HO := Lib.hid (fun k xs q l t h => valI_of (L := L) (p := p) k xs q l t h)
  have HOk := Lib.hid (fun k xs q b z h => valI_ok (num := numB L) (N := L.length) (p := p) (by omega) k xs q b z h)
  rw [hlen] at HO HOk
  have HVS := Lib.hid (fun k xs q l t h => valG_step (L := L) (k := k) (p := p) (q := q) (l := l) (t := t) (xs := xs) h)
  have R0 := Lib.hid (fun q l t h => stepR_0 (L := L) (p := q) (l := l) (t := t) h)
  have R1 := Lib.hid (fun q l t h h1 => stepR_1 (L := L) (p := q) (l := l) (t := t) h h1)
  have R2 := Lib.hid (fun q l t h h1 h2 => stepR_2 (L := L) (p := q) (l := l) (t := t) h h1 h2)
  have R3 := Lib.hid (fun q l t h h1 h2 => stepR_3 (L := L) (p := q) (l := l) (t := t) h h1 h2)
  have R4 := Lib.hid (fun q l t h h1 h2 h3 => stepR_4 (L := L) (p := q) (l := l) (t := t) h h1 h2 h3)
  have R5 := Lib.hid (fun q l t h h1 h2 h3 => stepR_5 (L := L) (p := q) (l := l) (t := t) h h1 h2 h3)
  rw [hlen] at HVS R0 R1 R2 R3 R4 R5
  obtain ⟨i0, hi, hz0, hz1, hz2⟩ := info_parts u_info_i64
  have hx0 : (w.alloc (.cells #[.string s, .int .i64 (N : Int)] 77)).cell? ⟨w.heap.size, 0, none⟩ = some (.string s) := by go_simp
  have hx1 : (w.alloc (.cells #[.string s, .int .i64 (N : Int)] 77)).cell? ⟨w.heap.size, 1, none⟩ = some (.int .i64 (N : Int)) := by go_simp
  have hsz0 : (w.alloc (.cells #[.string s, .int .i64 (N : Int)] 77)).heap.size = w.heap.size + 1 := by simp
  have hown0 : ((w.alloc (.cells #[.string s, .int .i64 (N : Int)] 77)).alloc (.cells #[] 2)).ownsRow (w.heap.size + 1) 2 1 (.slice (some ⟨w.heap.size + 1, 0, none⟩) 0 0) 0 (ints []) := by
    have := World.ownsRow_made (w.alloc (.cells #[.string s, .int .i64 (N : Int)] 77)) (base := w.heap.size + 1) (e := 2) (size := 1) #[] 0 (by rw [hsz0]; omega) (by simp [maxLen]) rfl
    rw [hsz0] at this
    simpa [ints] using this
  have HB0 := Lib.hid (below1 w (.cells #[.string s, .int .i64 (N : Int)] 77))
  have HX0 := Lib.hid hx0
  have HX1 := Lib.hid hx1
  have HZ0 := Lib.hid hsz0
  have HOw := Lib.hid hown0
  have HLn := Lib.hid hlen
  clear hx0 hx1 hsz0 hown0 hL hlen
  go_enter Tryd.func87, Tryd.ntmps87
  go_wp2_with fail
  have hb0 : Below (w.heap.size + 1) (w.alloc (.cells #[.string s, .int .i64 (N : Int)] 77)) ((w.alloc (.cells #[.string s, .int .i64 (N : Int)] 77)).alloc (.cells #[] 2)) := (Below.refl _ _).alloc (by rw [HZ0.out]; omega) _
  generalize w.alloc (.cells #[.string s, .int .i64 (N : Int)] 77) = w0 at *
  go_loopw [1, 9, 10, 11, 12] (fun a v ld tr i wr => ∃ (k : Nat) (xs : List Int) (q l t : Nat), k ≤ n ∧ i = .int .i64 k ∧ Hid (valG L k p = some (xs, q, l, t)) ∧ a = .int .i64 (q : Int) ∧ ld = .int .i64 (l : Int) ∧ tr = .int .i64 (t : Int) ∧
      wr.ownsRow (w.heap.size + 1) 2 1 v k (ints xs) ∧ Below (w.heap.size + 1) w0 wr)
    (fun _ _ _ _ i _ => n - (intOf i).toNat)
  case atStart => exact ⟨0, [], p, 64, 64, Nat.zero_le _, rfl, Lib.hid rfl, rfl, rfl, rfl, HOw.out, hb0⟩
  case round =>
    clear hb0
    obtain ⟨k, xs, q, l, t, hk, rfl, HTw, rfl, rfl, rfl, hown, hb⟩ := hrel
    obtain ⟨hV, hlt2⟩ := HO.out k xs q l t HTw.out
    have hG := HOk.out k xs q _ _ hV
    have hqN := hG.qN
    have hlen := hG.len
    have HRg := Lib.hid hG.rng
    have x0 : wr.cell? ⟨w.heap.size, 0, none⟩ = some (.string s) := (hb.cell (p := ⟨w.heap.size, 0, none⟩) (by simp)).trans HX0.out
    have x1 : wr.cell? ⟨w.heap.size, 1, none⟩ = some (.int .i64 (N : Int)) := (hb.cell (p := ⟨w.heap.size, 1, none⟩) (by simp)).trans HX1.out
    have hsz : w.heap.size < wr.heap.size := by have := hb.size; have := HZ0.out; omega
    have HBr := Lib.hid hb
    have HOr := Lib.hid hown
    clear hb hown hV hG
    have HDone : Hid (∀ W, Below wr.heap.size wr W → Below w.heap.size w W) := Lib.hid (fun W h => HB0.out.trans ((HBr.out.trans (h.mono (by omega))).mono (by omega)))
    by_cases hlt : k < n
    · have HEnd : Hid (valG L (k + 1) p = none → valG L n p = none) := Lib.hid (fun h => valG_none h n (by omega))
      have HST := Lib.hid (HVS.out k xs q l t HTw.out)
      by_cases hk0 : k = 0
      · subst hk0
        rw [if_pos rfl] at HST
        have h64 : l = 64 ∧ t = 64 := by
          have h0 := HTw.out
          simp only [valG, Option.some.injEq, Prod.mk.injEq] at h0
          omega
        obtain ⟨rfl, rfl⟩ := h64
        by_cases c : q + 64 ≤ N
        · have ci : ¬ (N : Int) < (q : Int) + 64 := by omega
          have hn1 := Lib.hid (show valG L (0 + 1) p = some (xs ++ [wrap64 ((numB L q 64 : Nat) : Int)], q + 64, 64, 64) from by rw [HST.out, if_pos c])
          have HTV := Lib.hid (fun W => HTk.out q 64 W c)
          rw [← HNm.out q 64 c] at HTV
          obtain ⟨Y, hY⟩ : ∃ Y, Y = wrap64 ((numB L q 64 : Nat) : Int) := ⟨_, rfl⟩
          rw [← hY] at hn1 HTV
          clear hY HST
          go_wp2_with fail
          refine (HTV.out _).mono ?_
          rintro e w2 ⟨rfl, hb2⟩
          have ho2 := u_own_below HOr.out hb2
          have hb3 := HBr.out.trans (hb2.mono (by omega))
          have hsz2 : w.heap.size + 1 ≤ w2.heap.size := Nat.le_trans (by omega) hb2.size
          clear hb2 x0 x1
          go_wp2_with (at_builtin; refine wpList_append_own _ rfl _ _ 94 rfl (w.heap.size + 1) 2 i0 (.int .i64 0) 1 8 Tryd.underlying94 hi hz0 hz1 hz2 rfl (by decide) _ _ _ rfl (ho2.alloc _) ⟨w2.heap.size, 0, none⟩ 1 1 [.int .i64 Y] rfl rfl ?c1 ?c2 ?c3 ?c4 ?c5 ?_)
          case c1 => exact cell_one_new _ _ _
          case c2 => first | rfl | (intro q hq; simp at hq; subst hq; rfl)
          case c3 => unfold maxLen; omega
          case c4 => omega
          case c5 => simp; omega
          intro v' w4 hown' hgrow _
          have hb4 := u_below_append hb3 (Nat.le_refl _) hsz2 ho2 hgrow
          have hown5 : w4.ownsRow (w.heap.size + 1) 2 1 v' (0 + 1) (ints (xs ++ [Y])) := by rw [ints_append]; exact hown'
          clear hown' hgrow
          go_wp2_with fail
          first
          | (go_roundw; (case rel => exact ⟨0 + 1, _, q + 64, 64, 64, by omega, rfl, hn1, by go_num, rfl, rfl, hown5, hb4⟩); (case measure => simp [intOf]; omega))
          | exact ⟨⟨0 + 1, _, q + 64, 64, 64, by omega, rfl, hn1, by go_num, rfl, rfl, hown5, hb4⟩, by simp [intOf]; omega⟩
        · have ci : (N : Int) < (q : Int) + 64 := by omega
          have E := Lib.hid (HEnd.out (by rw [HST.out, if_neg c]))
          go_wp2_with fail
          go_ret3
          rw [E.out]
          exact ⟨rfl, HDone.out _ (Below.refl _ _)⟩
      · rw [if_neg hk0] at HST
        have hki : ¬ (k : Int) = 0 := by omega
        have hkb : ((k : Int) == 0) = false := by rw [beq_eq_false_iff_ne]; exact hki
        have hkd : decide ((k : Int) = 0) = false := decide_eq_false hki
        obtain ⟨la, hla1⟩ : ∃ la, xs.getD (k - 1) 0 = la := ⟨_, rfl⟩
        have hget : (ints xs)[k - 1]? = some (.int .i64 la) := by rw [ints_get _ _ (by omega), hla1]
        have hlr : Rng la := by rw [← hla1]; exact HRg.out _
        rw [hla1] at HST
        clear hla1
        have e3 : IntKind.i64.wrap ((k : Int) - 1) = (k : Int) - 1 := IntWalk.i64_in _ (by omega)
        have e4 : (0 : Int) ≤ (k : Int) - 1 := by omega
        have e5 : ((k : Int) - 1).toNat = k - 1 := by omega
        have e6 : (k : Int) - 1 < (k : Int) := by omega
        have e7 : (1 : Int) ≤ (k : Int) := by omega
        rcases HOr.out.2 with ⟨_, h0⟩ | ⟨gO, cO, cuO, rfl, hgO, hcO, hnO, _⟩
        · omega
        have hcl : wr.cell? ⟨gO, k - 1, none⟩ = some (.int .i64 la) := by rw [HOr.out.cellAt _ (by omega)]; exact hget
        have hgO2 : gO < wr.heap.size := (Array.getElem?_eq_some_iff.1 hcO).1
        clear hget hcO hnO
        by_cases c1 : q + 1 ≤ N
        · have ci : ¬ (N : Int) ≤ (q : Int) := by omega
          have HB1 := Lib.hid (fun W => HBt.out q W c1)
          rw [← HNo.out q c1] at HB1
          have hv1 := numB_lt L q 1
          have RR1 := Lib.hid (R1.out q l t c1)
          have RR2 := Lib.hid (R2.out q l t c1)
          have RR3 := Lib.hid (fun h => R3.out q l t h)
          have RR4 := Lib.hid (fun h => R4.out q l t h)
          have RR5 := Lib.hid (fun h => R5.out q l t h)
          clear R0 R1 R2 R3 R4 R5
          generalize numB L q 1 = V1 at *
          by_cases z1 : V1 = 0
          · subst z1
            have hn1 := Lib.hid (show valG L (k + 1) p = some (xs ++ [la], q + 1, l, t) from by rw [HST.out, RR1.out rfl]; simp only; rw [xor_nought hlr])
            clear HST RR1 RR2 RR3 RR4 RR5
            go_wp2_with fail
            refine (HB1.out _).mono ?_
            rintro e w2 ⟨rfl, rfl⟩
            go_wp2_with (at_builtin; refine wpList_append_own _ rfl _ _ 94 rfl (w.heap.size + 1) 2 i0 (.int .i64 0) 1 8 Tryd.underlying94 hi hz0 hz1 hz2 rfl (by decide) _ _ _ rfl (HOr.out.alloc _) ⟨wr.heap.size, 0, none⟩ 1 1 [.int .i64 la] rfl rfl ?c1 ?c2 ?c3 ?c4 ?c5 ?_)
            case c1 => exact cell_one_new _ _ _
            case c2 => first | rfl | (intro q hq; simp at hq; subst hq; rfl)
            case c3 => unfold maxLen; omega
            case c4 => omega
            case c5 => simp; omega
            intro v' w4 hown' hgrow _
            have hb4 := u_below_append HBr.out (Nat.le_refl _) (by omega) HOr.out hgrow
            have hown5 : w4.ownsRow (w.heap.size + 1) 2 1 v' (k + 1) (ints (xs ++ [la])) := by rw [ints_append]; exact hown'
            clear hown' hgrow hcl x0 x1
            go_wp2_with fail
            first
            | (go_roundw; (case rel => exact ⟨k + 1, _, q + 1, l, t, by omega, by go_num, hn1, by go_num, rfl, rfl, hown5, hb4⟩); (case measure => simp [intOf]; omega))
            | exact ⟨⟨k + 1, _, q + 1, l, t, by omega, by go_num, hn1, by go_num, rfl, rfl, hown5, hb4⟩, by simp [intOf]; omega⟩
          · have zi : ¬ (V1 : Int) = 0 := by omega
            by_cases c2 : q + 2 ≤ N
            · have cj : ¬ (N : Int) < (q : Int) + 2 := by omega
              have HB2 := Lib.hid (fun W => HBt.out (q + 1) W (by omega))
              rw [← HNo.out (q + 1) (by omega)] at HB2
              have hv2 := numB_lt L (q + 1) 1
              have S3 := Lib.hid (RR3.out c2 z1)
              have S4 := Lib.hid (RR4.out c2 z1)
              have S5 := Lib.hid (RR5.out c2 z1)
              clear RR1 RR2 RR3 RR4 RR5
              generalize numB L (q + 1) 1 = V2 at *
              rw [Int.natCast_add q 1] at HB2
              have c1i : ((1 : Nat) : Int) = 1 := rfl
              rw [c1i] at HB2
              clear c1i
              by_cases z2 : V2 = 0
              · subst z2
                have HR := Lib.hid (S3.out rfl)
                clear S3 S4 S5
                have HGo := Lib.hid (fun h : l + t ≤ 63 ∧ q + 2 + (64 - l - t) ≤ N => (show valG L (k + 1) p = some (xs ++ [bits .xor .i64 la (wrap64 ((numB L (q + 2) (64 - l - t) * 2 ^ t : Nat) : Int))], q + 2 + (64 - l - t), l, t) from by rw [HST.out, HR.out, if_pos h]))
                have HNoGo := Lib.hid (fun h : ¬ (l + t ≤ 63 ∧ q + 2 + (64 - l - t) ≤ N) => HEnd.out (show valG L (k + 1) p = none from by rw [HST.out, HR.out, if_neg h]))
                clear HST HR HEnd hv1 hv2 HNo HBt HVS HO HOk hlr
                go_wp2_with fail
                refine (HB1.out _).mono ?_
                rintro e w2 ⟨rfl, rfl⟩
                go_wp2_with fail
                refine (HB2.out _).mono ?_
                rintro e w2 ⟨rfl, rfl⟩
                by_cases hlt3 : l + t ≤ 63
                · obtain ⟨WD, hWD⟩ : ∃ WD, WD = 64 - l - t := ⟨_, rfl⟩
                  rw [← hWD] at HGo HNoGo
                  have hwd : (64 : Int) - (l : Int) - (t : Int) = (WD : Int) := by omega
                  have hw1 : ¬ (WD : Int) < 1 := by omega
                  have ht0 : ¬ (t : Int) < 0 := by omega
                  have ht64 : t ≤ 64 := by omega
                  by_cases cz : q + 2 + WD ≤ N
                  · have cy : ¬ (N : Int) < (q : Int) + 2 + (WD : Int) := by omega
                    have hgo := HGo.out ⟨hlt3, cz⟩
                    have HTV := Lib.hid (fun W => HTk.out (q + 2) WD W cz)
                    rw [← HNm.out (q + 2) WD cz] at HTV
                    generalize numB L (q + 2) WD = V at *
                    obtain ⟨X0, hX0⟩ : ∃ X0, X0 = wrap64 ((V * 2 ^ t : Nat) : Int) := ⟨_, rfl⟩
                    have hx0 := shl_i64 V t
                    rw [← hX0] at hx0 hgo
                    generalize wrap64 (V : Int) = Z at *
                    obtain ⟨Y, hY⟩ : ∃ Y, Y = bits .xor .i64 la X0 := ⟨_, rfl⟩
                    rw [← hY] at hgo
                    have hxr : bits .xor .i64 la X0 = Y := hY.symm
                    have hn1 := Lib.hid hgo
                    clear hX0 hY hgo HGo HNoGo hWD hlt2
                    rw [Int.natCast_add q 2, show ((2 : Nat) : Int) = 2 from rfl] at HTV
                    go_wp2_with fail
                    have hS0 : SB0 w.heap.size s (N : Int) wr.drew := ⟨x0, x1⟩
                    refine wp_region_held_drew (S := SB0 w.heap.size s (N : Int)) (by kernel_rfl) hS0 ?_
                    intro _
                    refine wpAnyH_take (i := 0) (v := .slice (some ⟨gO, 0, none⟩) k cO) rfl (by kernel_rfl) (by kernel_rfl) (by kernel_rfl) (fun _ _ _ h => h) (Or.inl ⟨by kernel_rfl, ?t0⟩) (by assumption) ?_
                    case t0 =>
                      intro W hW
                      clear hW
                      go_simp
                    refine wpAnyH_take (i := 1) (v := .slice (some ⟨gO, 0, none⟩) k cO) rfl (by kernel_rfl) (by kernel_rfl) (by kernel_rfl) (fun _ _ _ h => h) (Or.inl ⟨by kernel_rfl, ?t1⟩) (by assumption) ?_
                    case t1 =>
                      intro W hW
                      clear hW
                      go_simp
                    refine wpAnyH_take (i := 2) (v := .int .i64 (k : Int)) rfl (by kernel_rfl) (by kernel_rfl) (by kernel_rfl) (fun _ _ _ h => h) (Or.inl ⟨by kernel_rfl, ?t2⟩) (by assumption) ?_
                    case t2 =>
                      intro W hW
                      clear hW
                      go_simp
                    refine wpAnyH_take (i := 3) (v := .int .i64 ((k : Int) - 1)) rfl (by kernel_rfl) (by kernel_rfl) (by kernel_rfl) (fun _ _ _ h => h) (Or.inl ⟨by kernel_rfl, ?t3⟩) (by assumption) ?_
                    case t3 =>
                      intro W hW
                      clear hW
                      go_simp
                    refine wpAnyH_take (i := 4) (v := .pointer (some ⟨gO, k - 1, none⟩)) rfl (by kernel_rfl) (by kernel_rfl) (by kernel_rfl) (fun _ _ _ h => h) (Or.inl ⟨by kernel_rfl, ?t4⟩) (by assumption) ?_
                    case t4 =>
                      intro W hW
                      clear hW
                      go_simp
                    refine wpAnyH_take (i := 6) (v := .agg #[.string s, .int .i64 (N : Int)]) rfl (by kernel_rfl) (by kernel_rfl) (by kernel_rfl) (fun _ _ _ h => h) (Or.inl ⟨by kernel_rfl, ?t6⟩) (by assumption) ?_
                    case t6 =>
                      intro W hW
                      have z0 := hW.1
                      have z1 := hW.2
                      clear hW
                      go_simp
                    refine wpAnyH_take (i := 7) (v := .int .i64 ((q : Int) + 2 : Int)) rfl (by kernel_rfl) (by kernel_rfl) (by kernel_rfl) (fun _ _ _ h => h) (Or.inl ⟨by kernel_rfl, ?t7⟩) (by assumption) ?_
                    case t7 =>
                      intro W hW
                      clear hW
                      go_simp
                    refine wpAnyH_take (i := 8) (v := .int .i64 (WD : Int)) rfl (by kernel_rfl) (by kernel_rfl) (by kernel_rfl) (fun _ _ _ h => h) (Or.inl ⟨by kernel_rfl, ?t8⟩) (by assumption) ?_
                    case t8 =>
                      intro W hW
                      clear hW
                      go_simp
                    refine wpAnyH_take (i := 10) (v := .int .i64 (t : Int)) rfl (by kernel_rfl) (by kernel_rfl) (by kernel_rfl) (fun _ _ _ h => h) (Or.inl ⟨by kernel_rfl, ?t10⟩) (by assumption) ?_
                    case t10 =>
                      intro W hW
                      clear hW
                      go_simp
                    refine wpAnyH_take (i := 11) (v := .int .u64 (t : Int)) rfl (by kernel_rfl) (by kernel_rfl) (by kernel_rfl) (fun _ _ _ h => h) (Or.inl ⟨by kernel_rfl, ?t11⟩) (by assumption) ?_
                    case t11 =>
                      intro W hW
                      clear hW
                      go_simp
                      try exact u64_small t ht64
                    refine wpAnyH_ready (rs := [5, 9]) (by kernel_rfl) (by simp) ?_
                    refine AllReadyH.cons rfl (fun K5 hK5 => ?_) (AllReadyH.cons rfl (fun K9 hK9 => ?_) AllReadyH.nil)
                    · have zc := hcl
                      go_simp
                      refine hK5.out _ _ (by assumption) (fun _ => ?_)
                      clear hK5 K5 zc
                      refine wpAnyH_ready (rs := [9]) (by kernel_rfl) (by simp) ?_
                      refine AllReadyH.cons rfl (fun K9 hK9 => ?_) AllReadyH.nil
                      go_simp
                      go_at_call 109
                      refine (HTV.out _).mono ?_
                      rintro e w9 ⟨rfl, hb9⟩
                      have hB9 : Below wr.heap.size wr w9 := (Below.refl wr.heap.size wr).drew.trans hb9
                      have hS9 : SB0 w.heap.size s (N : Int) w9 := ⟨(hB9.cell (p := ⟨w.heap.size, 0, none⟩) hsz).trans x0, (hB9.cell (p := ⟨w.heap.size, 1, none⟩) hsz).trans x1⟩
                      try go_simp
                      refine hK9.out _ _ hS9 (fun _ => ?_)
                      clear hK9 K9 hb9
                      refine wpAnyH_take (i := 12) (v := .int .i64 X0) rfl (by kernel_rfl) (by kernel_rfl) (by kernel_rfl) (fun _ _ _ h => h) (Or.inl ⟨by kernel_rfl, ?t12⟩) (by assumption) ?_
                      case t12 =>
                        intro W hW
                        clear hW
                        go_simp
                        try exact hx0
                      refine wpAnyH_take (i := 13) (v := .int .i64 Y) rfl (by kernel_rfl) (by kernel_rfl) (by kernel_rfl) (fun _ _ _ h => h) (Or.inl ⟨by kernel_rfl, ?t13⟩) (by assumption) ?_
                      case t13 =>
                        intro W hW
                        clear hW
                        go_simp
                        try exact hxr
                      refine wpAnyH_ready (rs := [14]) (by kernel_rfl) (by simp) ?_
                      refine AllReadyH.cons rfl (fun K14 hK14 => ?_) AllReadyH.nil
                      go_simp
                      refine hK14.out _ _ (show SB0 w.heap.size s (N : Int) _ from ⟨(((Below.refl _ _).alloc (Nat.le_refl _) _).cell (p := ⟨w.heap.size, 0, none⟩) (by have := hB9.size; show w.heap.size < w9.heap.size; omega)).trans hS9.1, (((Below.refl _ _).alloc (Nat.le_refl _) _).cell (p := ⟨w.heap.size, 1, none⟩) (by have := hB9.size; show w.heap.size < w9.heap.size; omega)).trans hS9.2⟩) (fun _ => ?_)
                      clear hK14 K14
                      refine wpAnyH_ready (rs := [15]) (by kernel_rfl) (by simp) ?_
                      refine AllReadyH.cons rfl (fun K15 hK15 => ?_) AllReadyH.nil
                      have HO9 := Lib.hid (u_own_below HOr.out hB9)
                      have hs9 : w.heap.size + 1 ≤ w9.heap.size := by have := hB9.size; omega
                      refine step_append_ownQ _ rfl _ _ 94 rfl (w.heap.size + 1) 2 i0 (.int .i64 0) 1 8 Tryd.underlying94 hi hz0 hz1 hz2 rfl (by decide) _ k (ints xs) rfl (HO9.out.alloc _) ⟨w9.heap.size, 0, none⟩ 1 1 [.int .i64 Y] rfl rfl (cell_one_new _ _ _) (by simp [Value.oneCell']) (by unfold maxLen; omega) (by omega) (by simp; omega) ?_
                      intro v' w4 hown' hgrow _
                      have hb4 := u_below_append (HBr.out.trans (hB9.mono (by omega))) (Nat.le_refl _) hs9 HO9.out hgrow
                      have hown5 : w4.ownsRow (w.heap.size + 1) 2 1 v' (k + 1) (ints (xs ++ [Y])) := by rw [ints_append]; exact hown'
                      have hS4 : SB0 w.heap.size s (N : Int) w4 := ⟨(hb4.cell (p := ⟨w.heap.size, 0, none⟩) (by show w.heap.size < w.heap.size + 1; omega)).trans HX0.out, (hb4.cell (p := ⟨w.heap.size, 1, none⟩) (by show w.heap.size < w.heap.size + 1; omega)).trans HX1.out⟩
                      clear hown' hgrow
                      refine hK15.out _ _ hS4 (fun _ => ?_)
                      clear hK15 K15
                      refine wpAnyH_ready (rs := [16]) (by kernel_rfl) (by simp) ?_
                      refine AllReadyH.cons rfl (fun K16 hK16 => ?_) AllReadyH.nil
                      go_simp
                      refine hK16.out _ _ hS4 (fun _ => ?_)
                      clear hK16 K16
                      refine wpAnyH_done (by kernel_rfl) ?_ _
                      have HB4 := Lib.hid hb4
                      have HO5 := Lib.hid hown5
                      clear hb4 hown5 hS4 hS9 hS0 hx0 hxr x0 x1
                      go_wp2_with fail
                      first
                      | (go_roundw; (case rel => exact ⟨k + 1, _, _, _, _, by omega, by go_num, hn1, by go_num, rfl, rfl, HO5.out, HB4.out⟩); (case measure => simp [intOf]; omega))
                      | exact ⟨⟨k + 1, _, _, _, _, by omega, by go_num, hn1, by go_num, rfl, rfl, HO5.out, HB4.out⟩, by simp [intOf]; omega⟩
                    · go_simp
                      go_at_call 109
                      refine (HTV.out _).mono ?_
                      rintro e w9 ⟨rfl, hb9⟩
                      have hB9 : Below wr.heap.size wr w9 := (Below.refl wr.heap.size wr).drew.trans hb9
                      have hS9 : SB0 w.heap.size s (N : Int) w9 := ⟨(hB9.cell (p := ⟨w.heap.size, 0, none⟩) hsz).trans x0, (hB9.cell (p := ⟨w.heap.size, 1, none⟩) hsz).trans x1⟩
                      try go_simp
                      refine hK9.out _ _ hS9 (fun _ => ?_)
                      clear hK9 K9 hb9
                      refine wpAnyH_take (i := 12) (v := .int .i64 X0) rfl (by kernel_rfl) (by kernel_rfl) (by kernel_rfl) (fun _ _ _ h => h) (Or.inl ⟨by kernel_rfl, ?t12⟩) (by assumption) ?_
                      case t12 =>
                        intro W hW
                        clear hW
                        go_simp
                        try exact hx0
                      refine wpAnyH_ready (rs := [5]) (by kernel_rfl) (by simp) ?_
                      refine AllReadyH.cons rfl (fun K5 hK5 => ?_) AllReadyH.nil
                      have zc := (hB9.cell (p := ⟨gO, k - 1, none⟩) hgO2).trans hcl
                      go_simp
                      refine hK5.out _ _ (by assumption) (fun _ => ?_)
                      clear hK5 K5 zc
                      refine wpAnyH_take (i := 13) (v := .int .i64 Y) rfl (by kernel_rfl) (by kernel_rfl) (by kernel_rfl) (fun _ _ _ h => h) (Or.inl ⟨by kernel_rfl, ?t13⟩) (by assumption) ?_
                      case t13 =>
                        intro W hW
                        clear hW
                        go_simp
                        try exact hxr
                      refine wpAnyH_ready (rs := [14]) (by kernel_rfl) (by simp) ?_
                      refine AllReadyH.cons rfl (fun K14 hK14 => ?_) AllReadyH.nil
                      go_simp
                      refine hK14.out _ _ (show SB0 w.heap.size s (N : Int) _ from ⟨(((Below.refl _ _).alloc (Nat.le_refl _) _).cell (p := ⟨w.heap.size, 0, none⟩) (by have := hB9.size; show w.heap.size < w9.heap.size; omega)).trans hS9.1, (((Below.refl _ _).alloc (Nat.le_refl _) _).cell (p := ⟨w.heap.size, 1, none⟩) (by have := hB9.size; show w.heap.size < w9.heap.size; omega)).trans hS9.2⟩) (fun _ => ?_)
                      clear hK14 K14
                      refine wpAnyH_ready (rs := [15]) (by kernel_rfl) (by simp) ?_
                      refine AllReadyH.cons rfl (fun K15 hK15 => ?_) AllReadyH.nil
                      have HO9 := Lib.hid (u_own_below HOr.out hB9)
                      have hs9 : w.heap.size + 1 ≤ w9.heap.size := by have := hB9.size; omega
                      refine step_append_ownQ _ rfl _ _ 94 rfl (w.heap.size + 1) 2 i0 (.int .i64 0) 1 8 Tryd.underlying94 hi hz0 hz1 hz2 rfl (by decide) _ k (ints xs) rfl (HO9.out.alloc _) ⟨w9.heap.size, 0, none⟩ 1 1 [.int .i64 Y] rfl rfl (cell_one_new _ _ _) (by simp [Value.oneCell']) (by unfold maxLen; omega) (by omega) (by simp; omega) ?_
                      intro v' w4 hown' hgrow _
                      have hb4 := u_below_append (HBr.out.trans (hB9.mono (by omega))) (Nat.le_refl _) hs9 HO9.out hgrow
                      have hown5 : w4.ownsRow (w.heap.size + 1) 2 1 v' (k + 1) (ints (xs ++ [Y])) := by rw [ints_append]; exact hown'
                      have hS4 : SB0 w.heap.size s (N : Int) w4 := ⟨(hb4.cell (p := ⟨w.heap.size, 0, none⟩) (by show w.heap.size < w.heap.size + 1; omega)).trans HX0.out, (hb4.cell (p := ⟨w.heap.size, 1, none⟩) (by show w.heap.size < w.heap.size + 1; omega)).trans HX1.out⟩
                      clear hown' hgrow
                      refine hK15.out _ _ hS4 (fun _ => ?_)
                      clear hK15 K15
                      refine wpAnyH_ready (rs := [16]) (by kernel_rfl) (by simp) ?_
                      refine AllReadyH.cons rfl (fun K16 hK16 => ?_) AllReadyH.nil
                      go_simp
                      refine hK16.out _ _ hS4 (fun _ => ?_)
                      clear hK16 K16
                      refine wpAnyH_done (by kernel_rfl) ?_ _
                      have HB4 := Lib.hid hb4
                      have HO5 := Lib.hid hown5
                      clear hb4 hown5 hS4 hS9 hS0 hx0 hxr x0 x1
                      go_wp2_with fail
                      first
                      | (go_roundw; (case rel => exact ⟨k + 1, _, _, _, _, by omega, by go_num, hn1, by go_num, rfl, rfl, HO5.out, HB4.out⟩); (case measure => simp [intOf]; omega))
                      | exact ⟨⟨k + 1, _, _, _, _, by omega, by go_num, hn1, by go_num, rfl, rfl, HO5.out, HB4.out⟩, by simp [intOf]; omega⟩
                  · have cy : (N : Int) < (q : Int) + 2 + (WD : Int) := by omega
                    have E := Lib.hid (HNoGo.out (fun h => cz h.2))
                    clear HGo HNoGo hWD
                    go_wp2_with fail
                    go_ret3
                    rw [E.out]
                    exact ⟨rfl, HDone.out _ (Below.refl _ _)⟩
                · have h64 : l = 64 ∧ t = 64 := by omega
                  obtain ⟨rfl, rfl⟩ := h64
                  have E := Lib.hid (HNoGo.out (fun h => hlt3 h.1))
                  clear HGo HNoGo
                  go_wp2_with fail
                  go_ret3
                  rw [E.out]
                  exact ⟨rfl, HDone.out _ (Below.refl _ _)⟩
              · obtain rfl : V2 = 1 := by omega
                clear S3
                have S4' := Lib.hid (S4.out (by omega))
                have S5' := Lib.hid (S5.out (by omega))
                clear S4 S5
                have hv5 := numB_lt L (q + 2) 5
                have hv6 := numB_lt L (q + 7) 6
                clear hv1 hv2 HNo HBt HVS HO HOk hlr
                go_wp2_with fail
                refine (HB1.out _).mono ?_
                rintro e w2 ⟨rfl, rfl⟩
                go_wp2_with fail
                refine (HB2.out _).mono ?_
                rintro e w2 ⟨rfl, rfl⟩
                by_cases c13 : q + 13 ≤ N
                · have HR := Lib.hid (S5'.out c13)
                  clear S4' S5'
                  have cf : ¬ (N : Int) < (q : Int) + 2 + 11 := by omega
                  have HT5 := Lib.hid (fun W => HTk.out (q + 2) 5 W (by omega))
                  have HT6 := Lib.hid (fun W => HTk.out (q + 7) 6 W (by omega))
                  rw [← HNm.out (q + 2) 5 (by omega), Int.natCast_add q 2, show ((2 : Nat) : Int) = 2 from rfl, show ((5 : Nat) : Int) = 5 from rfl] at HT5
                  rw [← HNm.out (q + 7) 6 (by omega), show ((q + 7 : Nat) : Int) = (q : Int) + 2 + 5 by omega, show ((6 : Nat) : Int) = 6 from rfl] at HT6
                  have HGo := Lib.hid (fun h : numB L (q + 2) 5 + numB L (q + 7) 6 ≤ 63 ∧ q + 13 + (numB L (q + 7) 6 + 1) ≤ N => (show valG L (k + 1) p = some (xs ++ [bits .xor .i64 la (wrap64 ((numB L (q + 13) (numB L (q + 7) 6 + 1) * 2 ^ (63 - numB L (q + 2) 5 - numB L (q + 7) 6) : Nat) : Int))], q + 13 + (numB L (q + 7) 6 + 1), numB L (q + 2) 5, 63 - numB L (q + 2) 5 - numB L (q + 7) 6) from by rw [HST.out, HR.out, if_pos h]))
                  have HNoGo := Lib.hid (fun h : ¬ (numB L (q + 2) 5 + numB L (q + 7) 6 ≤ 63 ∧ q + 13 + (numB L (q + 7) 6 + 1) ≤ N) => HEnd.out (show valG L (k + 1) p = none from by rw [HST.out, HR.out, if_neg h]))
                  clear HST HR HEnd
                  generalize numB L (q + 2) 5 = V5 at *
                  generalize numB L (q + 7) 6 = V6 at *
                  rw [show wrap64 (V5 : Int) = (V5 : Int) by unfold wrap64; omega] at HT5
                  rw [show wrap64 (V6 : Int) = (V6 : Int) by unfold wrap64; omega] at HT6
                  go_wp2_with fail
                  refine (HT5.out _).mono ?_
                  rintro e w5 ⟨rfl, hb5⟩
                  have y0 := (hb5.cell (p := ⟨w.heap.size, 0, none⟩) hsz).trans x0
                  have y1 := (hb5.cell (p := ⟨w.heap.size, 1, none⟩) hsz).trans x1
                  go_wp2_with fail
                  refine (HT6.out _).mono ?_
                  rintro e w6 ⟨rfl, hb6⟩
                  have hB6 : Below wr.heap.size wr w6 := hb5.trans (hb6.mono hb5.size)
                  have hcl6 := (hB6.cell (p := ⟨gO, k - 1, none⟩) hgO2).trans hcl
                  have hgO6 : gO < w6.heap.size := Nat.lt_of_lt_of_le hgO2 hB6.size
                  have z0 := (hB6.cell (p := ⟨w.heap.size, 0, none⟩) hsz).trans x0
                  have z1 := (hB6.cell (p := ⟨w.heap.size, 1, none⟩) hsz).trans x1
                  have HOr6 := Lib.hid (u_own_below HOr.out hB6)
                  have HBr6 := Lib.hid (HBr.out.trans (hB6.mono (by omega)))
                  have hsz6 : w.heap.size < w6.heap.size := Nat.lt_of_lt_of_le hsz hB6.size
                  have HDone6 : Hid (∀ W, Below w6.heap.size w6 W → Below w.heap.size w W) := Lib.hid (fun W h => HB0.out.trans ((HBr6.out.trans (h.mono (by omega))).mono (by omega)))
                  clear hcl hgO2 x0 x1 y0 y1 HOr HBr hsz HDone hb5 hb6 hB6
                  have x0 := z0
                  have x1 := z1
                  have hcl := hcl6
                  have hgO2 := hgO6
                  have HOr := HOr6
                  have HBr := HBr6
                  have hsz := hsz6
                  have HDone := HDone6
                  clear z0 z1 hcl6 hgO6 HOr6 HBr6 hsz6 HDone6
                  by_cases hlt3 : V5 + V6 ≤ 63
                  · obtain ⟨WD, hWD⟩ : ∃ WD, WD = V6 + 1 := ⟨_, rfl⟩
                    obtain ⟨TT, hTT⟩ : ∃ TT, TT = 63 - V5 - V6 := ⟨_, rfl⟩
                    rw [← hWD] at HGo HNoGo
                    rw [← hTT] at HGo
                    have htt : (63 : Int) - (V5 : Int) - (V6 : Int) = (TT : Int) := by omega
                    have hwd : (64 : Int) - (V5 : Int) - (TT : Int) = (WD : Int) := by omega
                    have hw1 : ¬ (WD : Int) < 1 := by omega
                    have ht0 : ¬ (TT : Int) < 0 := by omega
                    have ht64 : TT ≤ 64 := by omega
                    by_cases cz : q + 13 + WD ≤ N
                    · have cy : ¬ (N : Int) < (q : Int) + 2 + 11 + (WD : Int) := by omega
                      have hgo := HGo.out ⟨hlt3, cz⟩
                      have HTV := Lib.hid (fun W => HTk.out (q + 13) WD W cz)
                      rw [← HNm.out (q + 13) WD cz] at HTV
                      generalize numB L (q + 13) WD = V at *
                      obtain ⟨X0, hX0⟩ : ∃ X0, X0 = wrap64 ((V * 2 ^ TT : Nat) : Int) := ⟨_, rfl⟩
                      have hx0 := shl_i64 V TT
                      rw [← hX0] at hx0 hgo
                      generalize wrap64 (V : Int) = Z at *
                      obtain ⟨Y, hY⟩ : ∃ Y, Y = bits .xor .i64 la X0 := ⟨_, rfl⟩
                      rw [← hY] at hgo
                      have hxr : bits .xor .i64 la X0 = Y := hY.symm
                      have hn1 := Lib.hid hgo
                      clear hX0 hY hgo HGo HNoGo hWD hTT
                      rw [show ((q + 13 : Nat) : Int) = (q : Int) + 2 + 11 by omega] at HTV
                      go_wp2_with fail
                      have hS0 : SB0 w.heap.size s (N : Int) w6.drew := ⟨x0, x1⟩
                      refine wp_region_held_drew (S := SB0 w.heap.size s (N : Int)) (by kernel_rfl) hS0 ?_
                      intro _
                      refine wpAnyH_take (i := 0) (v := .slice (some ⟨gO, 0, none⟩) k cO) rfl (by kernel_rfl) (by kernel_rfl) (by kernel_rfl) (fun _ _ _ h => h) (Or.inl ⟨by kernel_rfl, ?t0⟩) (by assumption) ?_
                      case t0 =>
                        intro W hW
                        clear hW
                        go_simp
                      refine wpAnyH_take (i := 1) (v := .slice (some ⟨gO, 0, none⟩) k cO) rfl (by kernel_rfl) (by kernel_rfl) (by kernel_rfl) (fun _ _ _ h => h) (Or.inl ⟨by kernel_rfl, ?t1⟩) (by assumption) ?_
                      case t1 =>
                        intro W hW
                        clear hW
                        go_simp
                      refine wpAnyH_take (i := 2) (v := .int .i64 (k : Int)) rfl (by kernel_rfl) (by kernel_rfl) (by kernel_rfl) (fun _ _ _ h => h) (Or.inl ⟨by kernel_rfl, ?t2⟩) (by assumption) ?_
                      case t2 =>
                        intro W hW
                        clear hW
                        go_simp
                      refine wpAnyH_take (i := 3) (v := .int .i64 ((k : Int) - 1)) rfl (by kernel_rfl) (by kernel_rfl) (by kernel_rfl) (fun _ _ _ h => h) (Or.inl ⟨by kernel_rfl, ?t3⟩) (by assumption) ?_
                      case t3 =>
                        intro W hW
                        clear hW
                        go_simp
                      refine wpAnyH_take (i := 4) (v := .pointer (some ⟨gO, k - 1, none⟩)) rfl (by kernel_rfl) (by kernel_rfl) (by kernel_rfl) (fun _ _ _ h => h) (Or.inl ⟨by kernel_rfl, ?t4⟩) (by assumption) ?_
                      case t4 =>
                        intro W hW
                        clear hW
                        go_simp
                      refine wpAnyH_take (i := 6) (v := .agg #[.string s, .int .i64 (N : Int)]) rfl (by kernel_rfl) (by kernel_rfl) (by kernel_rfl) (fun _ _ _ h => h) (Or.inl ⟨by kernel_rfl, ?t6⟩) (by assumption) ?_
                      case t6 =>
                        intro W hW
                        have z0 := hW.1
                        have z1 := hW.2
                        clear hW
                        go_simp
                      refine wpAnyH_take (i := 7) (v := .int .i64 ((q : Int) + 2 + 11 : Int)) rfl (by kernel_rfl) (by kernel_rfl) (by kernel_rfl) (fun _ _ _ h => h) (Or.inl ⟨by kernel_rfl, ?t7⟩) (by assumption) ?_
                      case t7 =>
                        intro W hW
                        clear hW
                        go_simp
                      refine wpAnyH_take (i := 8) (v := .int .i64 (WD : Int)) rfl (by kernel_rfl) (by kernel_rfl) (by kernel_rfl) (fun _ _ _ h => h) (Or.inl ⟨by kernel_rfl, ?t8⟩) (by assumption) ?_
                      case t8 =>
                        intro W hW
                        clear hW
                        go_simp
                      refine wpAnyH_take (i := 10) (v := .int .i64 (TT : Int)) rfl (by kernel_rfl) (by kernel_rfl) (by kernel_rfl) (fun _ _ _ h => h) (Or.inl ⟨by kernel_rfl, ?t10⟩) (by assumption) ?_
                      case t10 =>
                        intro W hW
                        clear hW
                        go_simp
                      refine wpAnyH_take (i := 11) (v := .int .u64 (TT : Int)) rfl (by kernel_rfl) (by kernel_rfl) (by kernel_rfl) (fun _ _ _ h => h) (Or.inl ⟨by kernel_rfl, ?t11⟩) (by assumption) ?_
                      case t11 =>
                        intro W hW
                        clear hW
                        go_simp
                        try exact u64_small TT ht64
                      refine wpAnyH_ready (rs := [5, 9]) (by kernel_rfl) (by simp) ?_
                      refine AllReadyH.cons rfl (fun K5 hK5 => ?_) (AllReadyH.cons rfl (fun K9 hK9 => ?_) AllReadyH.nil)
                      · have zc := hcl
                        go_simp
                        refine hK5.out _ _ (by assumption) (fun _ => ?_)
                        clear hK5 K5 zc
                        refine wpAnyH_ready (rs := [9]) (by kernel_rfl) (by simp) ?_
                        refine AllReadyH.cons rfl (fun K9 hK9 => ?_) AllReadyH.nil
                        go_simp
                        go_at_call 109
                        refine (HTV.out _).mono ?_
                        rintro e w9 ⟨rfl, hb9⟩
                        have hB9 : Below w6.heap.size w6 w9 := (Below.refl w6.heap.size w6).drew.trans hb9
                        have hS9 : SB0 w.heap.size s (N : Int) w9 := ⟨(hB9.cell (p := ⟨w.heap.size, 0, none⟩) hsz).trans x0, (hB9.cell (p := ⟨w.heap.size, 1, none⟩) hsz).trans x1⟩
                        try go_simp
                        refine hK9.out _ _ hS9 (fun _ => ?_)
                        clear hK9 K9 hb9
                        refine wpAnyH_take (i := 12) (v := .int .i64 X0) rfl (by kernel_rfl) (by kernel_rfl) (by kernel_rfl) (fun _ _ _ h => h) (Or.inl ⟨by kernel_rfl, ?t12⟩) (by assumption) ?_
                        case t12 =>
                          intro W hW
                          clear hW
                          go_simp
                          try exact hx0
                        refine wpAnyH_take (i := 13) (v := .int .i64 Y) rfl (by kernel_rfl) (by kernel_rfl) (by kernel_rfl) (fun _ _ _ h => h) (Or.inl ⟨by kernel_rfl, ?t13⟩) (by assumption) ?_
                        case t13 =>
                          intro W hW
                          clear hW
                          go_simp
                          try exact hxr
                        refine wpAnyH_ready (rs := [14]) (by kernel_rfl) (by simp) ?_
                        refine AllReadyH.cons rfl (fun K14 hK14 => ?_) AllReadyH.nil
                        go_simp
                        refine hK14.out _ _ (show SB0 w.heap.size s (N : Int) _ from ⟨(((Below.refl _ _).alloc (Nat.le_refl _) _).cell (p := ⟨w.heap.size, 0, none⟩) (by have := hB9.size; show w.heap.size < w9.heap.size; omega)).trans hS9.1, (((Below.refl _ _).alloc (Nat.le_refl _) _).cell (p := ⟨w.heap.size, 1, none⟩) (by have := hB9.size; show w.heap.size < w9.heap.size; omega)).trans hS9.2⟩) (fun _ => ?_)
                        clear hK14 K14
                        refine wpAnyH_ready (rs := [15]) (by kernel_rfl) (by simp) ?_
                        refine AllReadyH.cons rfl (fun K15 hK15 => ?_) AllReadyH.nil
                        have HO9 := Lib.hid (u_own_below HOr.out hB9)
                        have hs9 : w.heap.size + 1 ≤ w9.heap.size := by have := hB9.size; omega
                        refine step_append_ownQ _ rfl _ _ 94 rfl (w.heap.size + 1) 2 i0 (.int .i64 0) 1 8 Tryd.underlying94 hi hz0 hz1 hz2 rfl (by decide) _ k (ints xs) rfl (HO9.out.alloc _) ⟨w9.heap.size, 0, none⟩ 1 1 [.int .i64 Y] rfl rfl (cell_one_new _ _ _) (by simp [Value.oneCell']) (by unfold maxLen; omega) (by omega) (by simp; omega) ?_
                        intro v' w4 hown' hgrow _
                        have hb4 := u_below_append (HBr.out.trans (hB9.mono (by omega))) (Nat.le_refl _) hs9 HO9.out hgrow
                        have hown5 : w4.ownsRow (w.heap.size + 1) 2 1 v' (k + 1) (ints (xs ++ [Y])) := by rw [ints_append]; exact hown'
                        have hS4 : SB0 w.heap.size s (N : Int) w4 := ⟨(hb4.cell (p := ⟨w.heap.size, 0, none⟩) (by show w.heap.size < w.heap.size + 1; omega)).trans HX0.out, (hb4.cell (p := ⟨w.heap.size, 1, none⟩) (by show w.heap.size < w.heap.size + 1; omega)).trans HX1.out⟩
                        clear hown' hgrow
                        refine hK15.out _ _ hS4 (fun _ => ?_)
                        clear hK15 K15
                        refine wpAnyH_ready (rs := [16]) (by kernel_rfl) (by simp) ?_
                        refine AllReadyH.cons rfl (fun K16 hK16 => ?_) AllReadyH.nil
                        go_simp
                        refine hK16.out _ _ hS4 (fun _ => ?_)
                        clear hK16 K16
                        refine wpAnyH_done (by kernel_rfl) ?_ _
                        have HB4 := Lib.hid hb4
                        have HO5 := Lib.hid hown5
                        clear hb4 hown5 hS4 hS9 hS0 hx0 hxr x0 x1
                        go_wp2_with fail
                        first
                        | (go_roundw; (case rel => exact ⟨k + 1, _, _, _, _, by omega, by go_num, hn1, by go_num, rfl, rfl, HO5.out, HB4.out⟩); (case measure => simp [intOf]; omega))
                        | exact ⟨⟨k + 1, _, _, _, _, by omega, by go_num, hn1, by go_num, rfl, rfl, HO5.out, HB4.out⟩, by simp [intOf]; omega⟩
                      · go_simp
                        go_at_call 109
                        refine (HTV.out _).mono ?_
                        rintro e w9 ⟨rfl, hb9⟩
                        have hB9 : Below w6.heap.size w6 w9 := (Below.refl w6.heap.size w6).drew.trans hb9
                        have hS9 : SB0 w.heap.size s (N : Int) w9 := ⟨(hB9.cell (p := ⟨w.heap.size, 0, none⟩) hsz).trans x0, (hB9.cell (p := ⟨w.heap.size, 1, none⟩) hsz).trans x1⟩
                        try go_simp
                        refine hK9.out _ _ hS9 (fun _ => ?_)
                        clear hK9 K9 hb9
                        refine wpAnyH_take (i := 12) (v := .int .i64 X0) rfl (by kernel_rfl) (by kernel_rfl) (by kernel_rfl) (fun _ _ _ h => h) (Or.inl ⟨by kernel_rfl, ?t12⟩) (by assumption) ?_
                        case t12 =>
                          intro W hW
                          clear hW
                          go_simp
                          try exact hx0
                        refine wpAnyH_ready (rs := [5]) (by kernel_rfl) (by simp) ?_
                        refine AllReadyH.cons rfl (fun K5 hK5 => ?_) AllReadyH.nil
                        have zc := (hB9.cell (p := ⟨gO, k - 1, none⟩) hgO2).trans hcl
                        go_simp
                        refine hK5.out _ _ (by assumption) (fun _ => ?_)
                        clear hK5 K5 zc
                        refine wpAnyH_take (i := 13) (v := .int .i64 Y) rfl (by kernel_rfl) (by kernel_rfl) (by kernel_rfl) (fun _ _ _ h => h) (Or.inl ⟨by kernel_rfl, ?t13⟩) (by assumption) ?_
                        case t13 =>
                          intro W hW
                          clear hW
                          go_simp
                          try exact hxr
                        refine wpAnyH_ready (rs := [14]) (by kernel_rfl) (by simp) ?_
                        refine AllReadyH.cons rfl (fun K14 hK14 => ?_) AllReadyH.nil
                        go_simp
                        refine hK14.out _ _ (show SB0 w.heap.size s (N : Int) _ from ⟨(((Below.refl _ _).alloc (Nat.le_refl _) _).cell (p := ⟨w.heap.size, 0, none⟩) (by have := hB9.size; show w.heap.size < w9.heap.size; omega)).trans hS9.1, (((Below.refl _ _).alloc (Nat.le_refl _) _).cell (p := ⟨w.heap.size, 1, none⟩) (by have := hB9.size; show w.heap.size < w9.heap.size; omega)).trans hS9.2⟩) (fun _ => ?_)
                        clear hK14 K14
                        refine wpAnyH_ready (rs := [15]) (by kernel_rfl) (by simp) ?_
                        refine AllReadyH.cons rfl (fun K15 hK15 => ?_) AllReadyH.nil
                        have HO9 := Lib.hid (u_own_below HOr.out hB9)
                        have hs9 : w.heap.size + 1 ≤ w9.heap.size := by have := hB9.size; omega
                        refine step_append_ownQ _ rfl _ _ 94 rfl (w.heap.size + 1) 2 i0 (.int .i64 0) 1 8 Tryd.underlying94 hi hz0 hz1 hz2 rfl (by decide) _ k (ints xs) rfl (HO9.out.alloc _) ⟨w9.heap.size, 0, none⟩ 1 1 [.int .i64 Y] rfl rfl (cell_one_new _ _ _) (by simp [Value.oneCell']) (by unfold maxLen; omega) (by omega) (by simp; omega) ?_
                        intro v' w4 hown' hgrow _
                        have hb4 := u_below_append (HBr.out.trans (hB9.mono (by omega))) (Nat.le_refl _) hs9 HO9.out hgrow
                        have hown5 : w4.ownsRow (w.heap.size + 1) 2 1 v' (k + 1) (ints (xs ++ [Y])) := by rw [ints_append]; exact hown'
                        have hS4 : SB0 w.heap.size s (N : Int) w4 := ⟨(hb4.cell (p := ⟨w.heap.size, 0, none⟩) (by show w.heap.size < w.heap.size + 1; omega)).trans HX0.out, (hb4.cell (p := ⟨w.heap.size, 1, none⟩) (by show w.heap.size < w.heap.size + 1; omega)).trans HX1.out⟩
                        clear hown' hgrow
                        refine hK15.out _ _ hS4 (fun _ => ?_)
                        clear hK15 K15
                        refine wpAnyH_ready (rs := [16]) (by kernel_rfl) (by simp) ?_
                        refine AllReadyH.cons rfl (fun K16 hK16 => ?_) AllReadyH.nil
                        go_simp
                        refine hK16.out _ _ hS4 (fun _ => ?_)
                        clear hK16 K16
                        refine wpAnyH_done (by kernel_rfl) ?_ _
                        have HB4 := Lib.hid hb4
                        have HO5 := Lib.hid hown5
                        clear hb4 hown5 hS4 hS9 hS0 hx0 hxr x0 x1
                        go_wp2_with fail
                        first
                        | (go_roundw; (case rel => exact ⟨k + 1, _, _, _, _, by omega, by go_num, hn1, by go_num, rfl, rfl, HO5.out, HB4.out⟩); (case measure => simp [intOf]; omega))
                        | exact ⟨⟨k + 1, _, _, _, _, by omega, by go_num, hn1, by go_num, rfl, rfl, HO5.out, HB4.out⟩, by simp [intOf]; omega⟩
                    · have cy : (N : Int) < (q : Int) + 2 + 11 + (WD : Int) := by omega
                      have E := Lib.hid (HNoGo.out (fun h => cz h.2))
                      clear HGo HNoGo hWD hTT
                      go_wp2_with fail
                      go_ret3
                      rw [E.out]
                      exact ⟨rfl, HDone.out _ (Below.refl _ _)⟩
                  · have E := Lib.hid (HNoGo.out (fun h => hlt3 h.1))
                    have ht0 : (63 : Int) - (V5 : Int) - (V6 : Int) < 0 := by omega
                    clear HGo HNoGo
                    go_wp2_with fail
                    go_ret3
                    rw [E.out]
                    exact ⟨rfl, HDone.out _ (Below.refl _ _)⟩
                · have E := Lib.hid (HEnd.out (by rw [HST.out, S4'.out c13]))
                  have cf : (N : Int) < (q : Int) + 2 + 11 := by omega
                  clear S4' S5'
                  go_wp2_with fail
                  go_ret3
                  rw [E.out]
                  exact ⟨rfl, HDone.out _ (Below.refl _ _)⟩
            · have cj : (N : Int) < (q : Int) + 2 := by omega
              have E := Lib.hid (HEnd.out (by rw [HST.out, RR2.out z1 c2]))
              clear HST RR1 RR2 RR3 RR4 RR5
              go_wp2_with fail
              refine (HB1.out _).mono ?_
              rintro e w2 ⟨rfl, rfl⟩
              go_wp2_with fail
              go_ret3
              rw [E.out]
              exact ⟨rfl, HDone.out _ (Below.refl _ _)⟩
        · have ci : (N : Int) ≤ (q : Int) := by omega
          have E := Lib.hid (HEnd.out (by rw [HST.out, R0.out q l t c1]))
          clear HST R0 R1 R2 R3 R4 R5
          go_wp2_with fail
          go_ret3
          rw [E.out]
          exact ⟨rfl, HDone.out _ (Below.refl _ _)⟩
    · obtain rfl : k = n := by omega
      go_wp2_with fail
      go_ret3
      rw [HTw.out]
      exact ⟨⟨_, rfl, by rw [hlen]; exact u_ownsRow_base HOr.out (by omega)⟩, HDone.out _ (Below.refl _ _)⟩
end Go.Proofs.YtanoohfhifhhaaaDoor
