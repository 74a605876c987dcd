/- The walk of the law FnTurned. -/
import Derived.Test.YtpnfkmhhilnglabDoorFa
import Derived.Test.YtpnfkmhhilnglabDoorUb
import Derived.Deep.RegionLaw
import Derived.Deep.AppendLies
set_option linter.unusedVariables false
set_option linter.unusedSimpArgs false
namespace Go.Proofs.YtpnfkmhhilnglabDoor
open Go.RowKit

theorem step_append_own {P : Program} (w : World) {ops : Array Oper} {o : Oper} {a : Act} {K : Act → World → Prop} {Q : Exit → Act → World → Prop} {E : Prop} (hgd : o.guard = none) (s x : Operand) (t : TypeId)
    (ho : o.op = .call { callee := .builtin .append, args := #[s, x], argTypes := #[t, t] })
    (base : Nat) (e : TypeId) (i : TypeInfo) (z : Value) (size bytes : Nat) (ht : P.underlying t = some (.slice e)) (hi : P.info? e = some i) (hz : i.zero = some z)
    (hsize : i.size = size) (hby : i.bytes = bytes) (hzs : z.cells.size = size) (hsz : 0 < size)
    (v : Value) (n : Nat) (xs : List Value) (hs : a.eval s = v) (hown : w.ownsRow base e size v n xs)
    (ad : Addr) (m c : Nat) (news : List Value) (hx : a.eval x = .slice (some ad) m c) (hl : news.length = m * size) (hnews : ∀ j u, news[j]? = some u → w.cell? (ad.add j) = some u) (h1 : ∀ u ∈ news, u.oneCell' = true)
    (h63 : n + m ≤ maxLen) (hbytes : (n + m) * bytes ≤ 140737488355328) (hbase : base ≤ w.heap.size)
    (h : ∀ v' w', w'.ownsRow base e size v' (n + m) (xs ++ news) → w.grownBy w' v.ownBlock → K (a.put o.dst v') w') :
    if Region.wanted o (yielded ops a.tmps) = true then Oper.wp P o a w K Q else E := by
  have hw : Region.wanted o (yielded ops a.tmps) = true := by simp [Region.wanted, hgd]
  rw [if_pos hw]
  exact wp_append_own w s x t ho base e i z size bytes ht hi hz hsize hby hzs hsz v n xs hs hown ad m c news hx hl hnews h1 h63 hbytes hbase fun v' w' h2 h3 _ => h v' w' h2 h3

theorem ofInt_wrap (x : Int) : BitVec.ofInt 64 (IntKind.i64.wrap x) = BitVec.ofInt 64 x := by
  apply BitVec.eq_of_toNat_eq
  rw [BitVec.toNat_ofInt, BitVec.toNat_ofInt, u_i64_wrap]
  unfold wrap64
  omega
theorem ofInt_toNat (v : BitVec 64) : BitVec.ofInt 64 (v.toNat : Int) = v := by
  apply BitVec.eq_of_toNat_eq
  rw [BitVec.ofInt_natCast, BitVec.toNat_ofNat]
  exact Nat.mod_eq_of_lt v.isLt
theorem xor_xor (a b z : Int) : bits .xor .i64 (bits .xor .i64 a z) (bits .xor .i64 b z) = bits .xor .i64 a b := by
  show IntKind.i64.wrap ((BitVec.ofInt 64 (IntKind.i64.wrap ((BitVec.ofInt 64 a ^^^ BitVec.ofInt 64 z).toNat : Int)) ^^^ BitVec.ofInt 64 (IntKind.i64.wrap ((BitVec.ofInt 64 b ^^^ BitVec.ofInt 64 z).toNat : Int))).toNat : Int) = IntKind.i64.wrap ((BitVec.ofInt 64 a ^^^ BitVec.ofInt 64 b).toNat : Int)
  rw [ofInt_wrap, ofInt_wrap, ofInt_toNat, ofInt_toNat]
  generalize BitVec.ofInt 64 a = A
  generalize BitVec.ofInt 64 b = B
  generalize BitVec.ofInt 64 z = Z
  rw [BitVec.xor_assoc, BitVec.xor_comm B Z, ← BitVec.xor_assoc Z Z B, BitVec.xor_self, BitVec.zero_xor]
def turned (xs : List Int) : List Int := xs.map fun x => bits .xor .i64 x (xs.getD 0 0)
theorem turned_get (xs : List Int) (j : Nat) (hj : j < xs.length) : (turned xs).getD j 0 = bits .xor .i64 (xs.getD j 0) (xs.getD 0 0) := by
  unfold turned; simp [List.getD_eq_getElem?_getD, hj]
theorem turned_length (xs : List Int) : (turned xs).length = xs.length := by simp [turned]
theorem turned_xr (xs : List Int) (k : Nat) (h0 : ¬ k = 0) (hk : k < xs.length) : xr (turned xs) k = xr xs k := by
  unfold xr; rw [turned_get xs k hk, turned_get xs (k - 1) (by omega), xor_xor]
theorem turned_valTo (xs : List Int) (k : Nat) (hk : k ≤ xs.length) : (valTo (turned xs) k).2 = (valTo xs k).2 ∧ (valTo (turned xs) k).1.length = (valTo xs k).1.length := by
  induction k with
  | zero => exact ⟨rfl, rfl⟩
  | succ k ih =>
    obtain ⟨h1, h2⟩ := ih (by omega)
    by_cases h0 : k = 0
    · subst h0; rw [valTo_one, valTo_one]; exact ⟨rfl, by rw [BM.digits_length, BM.digits_length]⟩
    · rw [valTo_succ h0, valTo_succ h0, turned_xr xs k h0 (by omega), h1]
      exact ⟨rfl, by rw [List.length_append, List.length_append, h2]⟩
theorem turned_len (xs : List Int) : (vbL (turned xs)).length = (vbL xs).length := by
  unfold vbL
  rw [turned_length]
  split
  · exact (turned_valTo xs _ (Nat.le_refl _)).2
  · rfl
theorem turned_all (xs : List Int) (j : Nat) : Rng ((turned xs).getD j 0) := by
  by_cases hj : j < xs.length
  · rw [turned_get xs j hj]; exact xor_rng _ _
  · rw [List.getD_eq_getElem?_getD, List.getElem?_eq_none (by rw [turned_length]; omega)]; exact rng_zero
theorem ints_take (l : List Int) (k : Nat) (hk : k < l.length) : ints (l.take (k + 1)) = ints (l.take k) ++ [.int .i64 (l.getD k 0)] := by
  rw [List.take_succ_eq_append_getElem hk, ints_append]
  simp [ints, List.getD_eq_getElem?_getD, hk]

set_option maxRecDepth 100000 in
set_option maxHeartbeats 4000000 in
theorem walkFnTurned (A : Option Addr) (n c : Nat) (w : World) (h : n ≤ 1048576 → CodeAt w A n c) (hT : Tab w) :
    Calls Tryd.prog 6 #[.slice A n c] w fun e w' => e = .returned (.bool true) ∧ Below w.heap.size w w' := by
  have hbig := fun W => big_any A n c W
  have HTab := Lib.hid hT
  clear hT
  by_cases hn : n ≤ 1048576
  · have H := Lib.hid (h hn)
    have hd : decide (1048576 < (n : Int)) = false := by simp; omega
    rw [hd] at hbig
    have Hbig := Lib.hid hbig
    obtain ⟨i0, hi, hz0, hz1, hz2⟩ := info_parts info_i64
    clear hbig hd h
    go_enter Tryd.func6, Tryd.ntmps6
    go_wp2_with fail
    refine (Hbig.out _).mono ?_
    rintro e w' ⟨rfl, rfl⟩
    go_wp2_with fail
    refine (DrawValuesBits_any A n c _ H.out).mono ?_
    rintro e w1 ⟨v, xs, rfl, hown, hxl, hxr, hb1⟩
    have I1 := Lib.hid (IL.of_own hown rfl (rng_of hxr) (by omega))
    have B1 := Lib.hid hb1
    clear hown hxr hb1 H
    obtain ⟨A1, c1, rfl⟩ : ∃ A1 c1, v = .slice A1 xs.length c1 := by obtain ⟨_, _, A1, c1, rfl, _⟩ := I1.out; exact ⟨A1, c1, rfl⟩
    have him := Lib.hid (fun v W h hT => implValuesBits_any v xs W h hT)
    have hsp := Lib.hid (fun v W h => specValuesBits_any v xs W h)
    have hsh := Lib.hid (turned_len xs)
    rw [show decide (xs.length ≤ 120) = true by simp; omega] at him hsp
    generalize hN : ((vbL xs).length : Int) = N at *
    generalize vbS xs = R at *
    have HN := Lib.hid hN
    clear hN
    go_wp2_with fail
    refine (him.out _ _ I1.out (HTab.out.below B1.out)).mono ?_
    rintro e w2 ⟨rfl, hb2⟩
    have ha : Below w2.heap.size w2 (w2.alloc (.cells #[.string R, .int .i64 N] 30)) := below1 w2 _
    have I2 := Lib.hid ((((I1.out.below hb2).up hb2.size).below ha).up ha.size)
    have B2 := Lib.hid ((B1.out.trans (hb2.mono B1.out.size)).trans (ha.mono (B1.out.trans (hb2.mono B1.out.size)).size))
    have S2 := Lib.hid (RB.new w2 R N)
    clear hb2 ha I1 B1
    go_wp2_with fail
    refine (hsp.out _ _ I2.out).mono ?_
    rintro e w3 ⟨rfl, hb3⟩
    have ha : Below w3.heap.size w3 (w3.alloc (.cells #[.string R, .int .i64 N] 30)) := below1 w3 _
    have I4 := Lib.hid ((((I2.out.below hb3).up hb3.size).below ha).up ha.size)
    have B4 := Lib.hid ((B2.out.trans (hb3.mono B2.out.size)).trans (ha.mono (B2.out.trans (hb3.mono B2.out.size)).size))
    have S4 := Lib.hid ((S2.out.below hb3).below ha)
    clear hb3 ha I2 B2 S2
    by_cases h0 : xs.length = 0
    · have hz : ((xs.length : Int) == 0) = true := by simp [h0]
      go_wp2_with fail
      go_ret
      exact ⟨rfl, B4.out⟩
    · have hz : ((xs.length : Int) == 0) = false := by simp [h0]
      have hz4 : (w3.alloc (.cells #[.string R, .int .i64 N] 30)).heap.size = w3.heap.size + 1 := by simp
      have hown0 : ((w3.alloc (.cells #[.string R, .int .i64 N] 30)).alloc (.cells #[] 2)).ownsRow (w3.heap.size + 1) 2 1 (.slice (some ⟨w3.heap.size + 1, 0, none⟩) 0 0) 0 (ints []) := by
        have h0 := World.ownsRow_made (w3.alloc (.cells #[.string R, .int .i64 N] 30)) (base := w3.heap.size + 1) (e := 2) (size := 1) #[] 0 (by simp) (by simp [maxLen]) rfl
        rw [World.size_alloc] at h0
        exact h0
      have hb0 : Below (w3.heap.size + 1) (w3.alloc (.cells #[.string R, .int .i64 N] 30)) ((w3.alloc (.cells #[.string R, .int .i64 N] 30)).alloc (.cells #[] 2)) := (Below.refl _ _).alloc (by simp) _
      have H0 := Lib.hid hown0
      have HB0 := Lib.hid hb0
      clear hown0 hb0
      go_wp2_with fail
      generalize w3.alloc (.cells #[.string R, .int .i64 N] 30) = w4 at *
      have hI4 := I4.out
      rw [hz4] at hI4
      obtain ⟨hr4, hlen4, A4, c4, hv4, h34⟩ := hI4
      injection hv4 with hA4 _ hc4
      subst hA4 hc4
      have H34 := Lib.hid h34
      have Hh0 := Lib.hid h0
      clear h34 hr4 h0
      go_loopw [8, 9] (fun u i wr => ∃ k : Nat, k ≤ xs.length ∧ i = .int .i64 (k : Int) ∧ wr.ownsRow (w3.heap.size + 1) 2 1 u k (ints ((turned xs).take k)) ∧ Below (w3.heap.size + 1) w4 wr)
        (fun _ i _ => xs.length - (intOf i).toNat)
      case atStart => exact ⟨0, Nat.zero_le _, by simp, by simpa using H0.out, HB0.out⟩
      case round =>
        clear H0 HB0
        obtain ⟨k, hk, rfl, hown, hb⟩ := hrel
        by_cases hlt : k < xs.length
        · rcases H34.out with h3 | ⟨b, off, rfl, hbl, hc⟩
          · subst h3; simp at hlt
          have hx : wr.cell? ⟨b, off + k, none⟩ = some (.int .i64 (xs.getD k 0)) := (hb.cell (p := ⟨b, off + k, none⟩) hbl).trans (hc k hlt)
          have hx0 : wr.cell? ⟨b, off, none⟩ = some (.int .i64 (xs.getD 0 0)) := (hb.cell (p := ⟨b, off, none⟩) hbl).trans (by have := hc 0 (by omega); rw [Nat.add_zero] at this; exact this)
          have hTk := Lib.hid (ints_take (turned xs) k (by rw [turned_length]; exact hlt))
          rw [turned_get xs k hlt] at hTk
          have hY : bits .xor .i64 (xs.getD k 0) (xs.getD 0 0) = bits .xor .i64 (xs.getD k 0) (xs.getD 0 0) := rfl
          generalize hYY : bits .xor .i64 (xs.getD k 0) (xs.getD 0 0) = y at hTk hY
          have hYZ := hYY
          clear hY
          generalize xs.getD k 0 = x at *
          generalize xs.getD 0 0 = z at *
          have hzz := hb.size
          have hpos : 0 < xs.length := by omega
          have Hb := Lib.hid hb
          clear hc hb H34 hYZ
          have hownD : (wr.drew.alloc (.cells #[.int .i64 y] 2)).ownsRow (w3.heap.size + 1) 2 1 u8 k (ints ((turned xs).take k)) := World.ownsRow.alloc (w := wr.drew) hown _
          go_wp2_with fail
          go_region_law (first
            | (refine step_append_own _ rfl _ _ 27 rfl (w3.heap.size + 1) 2 i0 (.int .i64 0) 1 8 Tryd.underlying27 hi hz0 hz1 hz2 rfl (by decide) u8 k (ints ((turned xs).take k)) rfl hownD ⟨wr.heap.size, 0, none⟩ 1 1 [.int .i64 y] rfl rfl (cell_one_new wr.drew _ _) (by intro q hq; simp at hq; subst hq; rfl) (by unfold maxLen; omega) (by omega) (by simp; omega) ?_; intro v' w5 hown3 hgrow))
          all_goals
            rw [← hTk.out] at hown3
            have hb5 : Below (w3.heap.size + 1) w4 w5 := ((Hb.out.drew).alloc (show w3.heap.size + 1 ≤ wr.heap.size by omega) _).grown hgrow (by simp; omega) (fun k hk => (hownD.lt _ hk).1)
            clear hgrow hownD hown
            go_simp
            go_wp2_with fail
            first
            | (go_roundw; (case rel => exact ⟨k + 1, by omega, by go_num, hown3, hb5⟩); (case measure => simp [intOf]; omega))
            | exact ⟨⟨k + 1, by omega, by go_num, hown3, hb5⟩, by simp [intOf]; omega⟩
        · obtain rfl : k = xs.length := by omega
          have hlm := turned_length xs
          rw [List.take_of_length_le (by omega)] at hown
          have I5 := Lib.hid (IL.of_own hown hlm.symm (turned_all xs) (by omega))
          have B5 := Lib.hid (B4.out.trans (hb.mono (by rw [← hz4]; exact B4.out.size)))
          have S5 := Lib.hid (S4.out.below (hz4 ▸ hb))
          have him2 := Lib.hid (fun v W h hT => implValuesBits_any v (turned xs) W h hT)
          rw [hlm, show decide (xs.length ≤ 120) = true by simp; omega] at him2
          have hNN := hsh.out
          clear hown hb H34 hlm hsh
          have hN2 : ((vbL (turned xs)).length : Int) = N := by rw [hNN, HN.out]
          rw [hN2] at him2
          clear hNN hN2
          generalize turned xs = ys at *
          have s0 := S5.out.c0
          have s1 := S5.out.c1
          go_wp2_with fail
          refine (him2.out _ _ I5.out (HTab.out.below B5.out)).mono ?_
          rintro e w6 ⟨rfl, hb6⟩
          have B6 := Lib.hid (B5.out.trans (hb6.mono B5.out.size))
          have S6 := S5.out.below hb6
          have s0 := S6.c0
          have s1 := S6.c1
          have sl := S6.lt
          clear hb6 S6
          go_wp2_with fail
          go_ret
          exact ⟨rfl, B6.out.alloc (by have := B6.out.size; omega) _⟩
  · have hd : decide (1048576 < (n : Int)) = true := by simp; omega
    rw [hd] at hbig
    have Hbig := Lib.hid hbig
    clear hbig hd h
    go_enter Tryd.func6, Tryd.ntmps6
    go_wp2_with fail
    refine (Hbig.out _).mono ?_
    rintro e w' ⟨rfl, rfl⟩
    go_wp2_with fail
    go_ret
    exact ⟨rfl, Below.refl _ _⟩
end Go.Proofs.YtpnfkmhhilnglabDoor
