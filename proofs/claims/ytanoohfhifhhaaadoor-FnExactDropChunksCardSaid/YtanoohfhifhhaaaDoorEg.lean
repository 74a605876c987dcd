/- Walks: the model's bits of values. -/
import Derived.Test.YtanoohfhifhhaaaDoorEf
import Derived.Lib.SmallJoins
import Derived.Deep.QuietTactic
set_option linter.unusedVariables false
set_option linter.unusedSimpArgs false
namespace Go.Proofs.YtanoohfhifhhaaaDoor
open Go.RowKit

theorem addr_add (g a j : Nat) : (⟨g, a, none⟩ : Addr).add j = ⟨g, a + j, none⟩ := by
  by_cases h : j = 0
  · subst h; simp [Addr.add]
  · simp [Addr.add, h]
def WinPost (L : List Bool) (w : World) (e : Ending) (w' : World) : Prop :=
  ∃ g off c, e = .returned (.slice (some ⟨g, off, none⟩) L.length c) ∧ (∀ j u, (bitInts L)[j]? = some u → w'.cell? ((⟨g, off, none⟩ : Addr).add j) = some u) ∧ Below w.heap.size w w'
theorem own_cap {w : World} {base g n c : Nat} {xs : List Value} (h : w.ownsRow base 2 1 (.slice (some ⟨g, 0, none⟩) n c) n xs) : n ≤ c := by
  rcases h.2 with ⟨h1, _⟩ | ⟨g', cap, cur, h1, _, _, h2, _⟩
  · cases h1
  · injection h1 with _ _ h1; omega
set_option maxRecDepth 100000 in
set_option maxHeartbeats 1000000 in
theorem l4Window_any (x : Int) (l t : Nat) (w : World) (h : l + t ≤ 63) (L : List Bool) (hL : Hid (winL x l t = L)) :
    Calls Tryd.prog 108 #[.int .i64 x, .int .i64 (l : Int), .int .i64 (t : Int)] w (WinPost L w) := by
  have hd := Lib.hid (fun W => l1Digits_any x 64 W (by omega))
  have hcut := Lib.hid ((winL_cut (x := x) (l := l) (t := t) (by omega)).trans hL.out)
  have hlen := Lib.hid (winL_len x l t)
  rw [hL.out] at hlen
  have hdl := Lib.hid (BM.digits_length (u64of x) 64)
  generalize BM.digits (u64of x) 64 = D at *
  go_enter Tryd.func108, Tryd.ntmps108
  go_wp2_with fail
  refine (hd.out _).mono ?_
  rintro e w1 ⟨v, rfl, hown, hb, -⟩
  obtain ⟨g, c, rfl⟩ := Go.Joins.ownsRow_form hown (by rw [hdl.out]; omega)
  have hcap := own_cap hown
  have Hcells := Lib.hid (show ∀ j u, (bitInts D)[j]? = some u → w1.cell? ((⟨g, 0, none⟩ : Addr).add j) = some u from hown.cells rfl)
  rw [hdl.out] at hcap ⊢
  have h1 : (64 : Int) - (t : Int) ≤ (c : Int) := by omega
  have h2 : (l : Int) ≤ 64 - (t : Int) := by omega
  have hB := Lib.hid hb
  clear hb hown
  go_wp2_with fail
  have hLD : ∀ j : Nat, (bitInts L)[j]? = if j < 64 - l - t then (bitInts D)[l + j]? else none := fun j => by
    rw [← hcut.out]
    unfold bitInts
    rw [List.getElem?_map, List.getElem?_take]
    split
    · rw [List.getElem?_drop, List.getElem?_map]
    · rfl
  go_ret
  refine ⟨g, l, c - l, by rw [hlen.out, show 64 - l - t = 64 - t - l by omega]; rfl, fun j u hj => ?_, hB.out⟩
  rw [hLD j] at hj
  split at hj
  · have := Hcells.out (l + j) u hj
    rw [addr_add] at this ⊢
    simpa using this
  · cases hj
theorem bitInts_append' (l m : List Bool) : bitInts l ++ bitInts m = bitInts (l ++ m) := by simp [bitInts]
theorem bitInts_one' (l : List Bool) : ∀ u ∈ bitInts l, u.oneCell' = true := by
  intro u hu; unfold bitInts at hu; rw [List.mem_map] at hu; obtain ⟨b, _, rfl⟩ := hu; rfl
theorem lit_cells (w : World) (l : List Bool) (hl : l.length ≤ 100) : ∀ j u, (bitInts l)[j]? = some u → (w.alloc (.cells (bitInts l).toArray 2)).cell? ((⟨w.heap.size, 0, none⟩ : Addr).add j) = some u :=
  (World.ownsRow_lit w (base := 0) (e := 2) (size := 1) (bitInts l).toArray l.length (Nat.zero_le _) (by unfold maxLen; omega) (by simp [bitInts])).cells rfl
structure OV (w : World) (u : Value) (L : List Bool) (W : World) : Prop where
  own : W.ownsRow w.heap.size 2 1 u L.length (bitInts L)
  f : Below w.heap.size w W
  nn : u ≠ .slice none 0 0
theorem OV.below {w W W' : World} {u : Value} {L : List Bool} (p : OV w u L W) (k : Below W.heap.size W W') : OV w u L W' := ⟨u_own_below p.own k, p.f.trans (k.mono p.f.size), p.nn⟩
theorem OV.app {w W W' : World} {u v' : Value} {L D : List Bool} {m : Nat} (p : OV w u L W) (hm : D.length = m) (hown : W'.ownsRow w.heap.size 2 1 v' (L.length + m) (bitInts L ++ bitInts D)) (hg : W.grownBy W' u.ownBlock) (hnn : v' ≠ .slice none 0 0) : OV w v' (L ++ D) W' := by
  subst hm
  refine ⟨?_, p.f.grown hg p.f.size (fun k hk => (p.own.lt _ hk).1), hnn⟩
  rw [List.length_append, ← bitInts_append']; exact hown

set_option maxRecDepth 100000 in
set_option maxHeartbeats 4000000 in
theorem l4Values_any (v : Value) (xs : List Int) (w : World) (h : IL w w.heap.size v xs) (hl : xs.length ≤ 120) :
    Calls Tryd.prog 82 #[v] w (ListPost w.heap.size (valTo xs xs.length).1 w) := by
  obtain ⟨hr, hlen, A, c, rfl, h3⟩ := h
  obtain ⟨i0, hi, hz0, hz1, hz2⟩ := info_parts info_i64
  have H3 := Lib.hid h3
  have Hr := Lib.hid hr
  clear h3 hr
  go_enter Tryd.func82, Tryd.ntmps82
  go_wp2_with fail
  go_loopw [3, 4, 5, 6] (fun u a b i wr => ∃ (k : Nat) (L : List Bool) (l t : Nat), k ≤ xs.length ∧ i = .int .i64 (k : Int) ∧ Hid (valTo xs k = (L, l, t)) ∧ a = .int .i64 (l : Int) ∧ b = .int .i64 (t : Int) ∧ Hid (OV w u L wr))
    (fun _ _ _ i _ => xs.length - (intOf i).toNat)
  case atStart =>
    refine ⟨0, [], 64, 64, Nat.zero_le _, by simp, Lib.hid rfl, rfl, rfl, Lib.hid ⟨?_, (Below.refl _ _).alloc (Nat.le_refl _) _, by simp⟩⟩
    have := World.ownsRow_made w (base := w.heap.size) (e := 2) (size := 1) #[] 0 (by simp) (by simp [maxLen]) rfl
    simpa [bitInts] using this
  case round =>
    obtain ⟨k, L, l, t, hk, rfl, HVT, rfl, rfl, HO⟩ := hrel
    by_cases hlt : k < xs.length
    · rcases H3.out with h3 | ⟨b, off, rfl, hbl, hc⟩
      · subst h3; simp at hlt
      clear H3
      have hx : wr.cell? ⟨b, off + k, none⟩ = some (.int .i64 (xs.getD k 0)) := (HO.out.f.cell (p := ⟨b, off + k, none⟩) hbl).trans (hc k hlt)
      have hvo := valTo_ok xs k
      rw [HVT.out] at hvo
      have hLl : L.length ≤ 9240 := by have := hvo.2; dsimp only at this; omega
      have hsz := HO.out.f.size
      by_cases hk0 : k = 0
      · subst hk0
        rw [Nat.add_zero] at hx
        have hdig := Lib.hid (fun W => l1Digits_any (xs.getD 0 0) 64 W (by omega))
        have HD := Lib.hid (valTo_one xs)
        have HDl := Lib.hid (BM.digits_length (u64of (xs.getD 0 0)) 64)
        have hnil : L = [] := by have := HVT.out; rw [valTo] at this; injection this with h _; exact h.symm
        generalize BM.digits (u64of (xs.getD 0 0)) 64 = D at *
        generalize xs.getD 0 0 = x0 at *
        have hl64 : l = 64 ∧ t = 64 := by have := HVT.out; rw [valTo] at this; injection this with _ h; injection h with h1 h2; exact ⟨h1.symm, h2.symm⟩
        have Hl64 := Lib.hid hl64
        have Hnil := Lib.hid hnil
        clear hc hvo hnil hl64
        go_wp2_with fail
        refine (hdig.out _).mono ?_
        rintro e w5 ⟨v, rfl, hown5, hb5, -⟩
        have O5 := HO.out.below hb5
        rw [HDl.out] at hown5
        obtain ⟨gB, cB, rfl⟩ := Go.Joins.ownsRow_form hown5 (by omega)
        have Hcells := Lib.hid (show ∀ j u, (bitInts D)[j]? = some u → w5.cell? ((⟨gB, 0, none⟩ : Addr).add j) = some u from hown5.cells rfl)
        have Hln := Lib.hid (show (bitInts D).length = 64 * 1 by rw [bitInts_length, HDl.out])
        have Hone := Lib.hid (bitInts_one' D)
        have hown := O5.own
        have hsz5 := O5.f.size
        clear hown5 hb5 HO
        go_wp2_with (at_builtin; refine wpList_append_own _ rfl _ _ 94 rfl w.heap.size 2 i0 (.int .i64 0) 1 8 Tryd.underlying94 hi hz0 hz1 hz2 rfl (by decide) _ _ _ rfl hown ⟨gB, 0, none⟩ 64 cB (bitInts D) rfl Hln.out Hcells.out Hone.out ?c3 ?c4 ?c5 ?_)
        case c3 => unfold maxLen; omega
        case c4 => omega
        case c5 => exact hsz5
        intro v' w6 hown' hgrow hnn
        have O6 := Lib.hid (O5.app HDl.out hown' hgrow (by first | exact hnn | exact fun h => O5.nn (hnn.1 h).1))
        have HVT2 : Hid (valTo xs (0 + 1) = (L ++ D, l, t)) := Lib.hid (by rw [HD.out, Hnil.out, List.nil_append, Hl64.out.1, Hl64.out.2])
        clear hnn hown' hgrow hown O5
        go_wp2_with fail
        exact ⟨⟨0 + 1, L ++ D, l, t, by omega, by go_num, HVT2, rfl, rfl, O6⟩, by simp [intOf]; omega⟩
      · have hx1 : wr.cell? ⟨b, off + (k - 1), none⟩ = some (.int .i64 (xs.getD (k - 1) 0)) := (HO.out.f.cell (p := ⟨b, off + (k - 1), none⟩) hbl).trans (hc (k - 1) (by omega))
        have hr := xor_rng (xs.getD k 0) (xs.getD (k - 1) 0)
        have HD := HVT
        have hvs := valTo_succ (xs := xs) hk0
        rw [HVT.out] at hvs
        have Hvs := Lib.hid hvs
        have hxr : bits .xor .i64 (xs.getD k 0) (xs.getD (k - 1) 0) = xr xs k := rfl
        rw [hxr] at hr
        have hOK : OKS l t := hvo.1
        have HOK := Lib.hid hOK
        have hlb : l ≤ 64 ∧ t ≤ 64 := by rcases hOK with ⟨h1, h2⟩ | h1 <;> omega
        generalize xr xs k = X at *
        generalize xs.getD k 0 = x at *
        generalize xs.getD (k - 1) 0 = y at *
        clear hc hvo hvs HD hOK
        go_wp2_with fail
        go_quiet (fail)
        by_cases hX : X = 0
        · have e1 : stepL X l t = [false] := by unfold stepL; rw [if_pos hX]
          have e2 : stepS X l t = (l, t) := by unfold stepS; rw [if_pos hX]
          have hv2 := Hvs.out
          try dsimp only at hv2
          rw [e1, e2] at hv2
          have Hv2 := Lib.hid hv2
          have hXz : (X == 0) = true := by simpa using hX
          clear e1 e2 hv2 Hvs hX
          have O5 : OV w u3 L (wr.drewN nq) := ⟨HO.out.own, eb_drewN HO.out.f _, HO.out.nn⟩
          have hown := O5.own
          clear HO
          go_wp2_with (at_builtin; refine wpList_append_own _ rfl _ _ 94 rfl w.heap.size 2 i0 (.int .i64 0) 1 8 Tryd.underlying94 hi hz0 hz1 hz2 rfl (by decide) _ _ _ rfl (hown.alloc _) ⟨wr.heap.size, 0, none⟩ 1 1 [.int .i64 0] rfl rfl ?d1 ?d2 ?d3 ?d4 ?d5 ?_)
          case d1 => exact cell_one_new _ _ _
          case d2 => intro q hq; simp at hq; subst hq; rfl
          case d3 => unfold maxLen; omega
          case d4 => omega
          case d5 => simp; omega
          intro v' w6 hown' hgrow hnn
          have O5b := O5.below (eb_below1 (wr.drewN nq) (.cells #[.int .i64 0] 2))
          have O6 := Lib.hid (O5b.app (D := [false]) (m := 1) rfl hown' hgrow (by first | exact hnn | exact fun h => O5.nn (hnn.1 h).1))
          clear hnn hown' hgrow hown O5 O5b
          go_wp2_with fail
          exact ⟨⟨k + 1, L ++ [false], l, t, by omega, by go_num, Hv2, rfl, rfl, O6⟩, by simp [intOf]; omega⟩
        · obtain ⟨hA, hB, hAB⟩ := nzK hX hr.1 hr.2
          have hcl := Lib.hid (fun W => specL4Lead_any X W hr.1 hr.2)
          have hct := Lib.hid (fun W => specL4Trail_any X W hr.1 hr.2)
          rw [hA] at hcl
          rw [hB] at hct
          have hXz : (X == 0) = false := by simpa using hX
          have O5 : Hid (OV w u3 L (wr.drewN nq)) := Lib.hid ⟨HO.out.own, eb_drewN HO.out.f _, HO.out.nn⟩
          have hwn := Lib.hid (fun W l t h => l4Window_any X l t W h _ (Lib.hid rfl))
          clear HO hA hB hr
          cases hin : inW X l t with
          | true =>
            have hin' := hin
            unfold inW at hin'
            rw [decide_eq_true_iff] at hin'
            have e1 : stepL X l t = [true, false] ++ winL X l t := by unfold stepL; rw [if_neg hX, if_pos hin]
            have e2 : stepS X l t = (l, t) := by unfold stepS; rw [if_neg hX, if_pos hin]
            have hv2 := Hvs.out
            try dsimp only at hv2
            rw [e1, e2] at hv2
            have Hv2 := Lib.hid hv2
            have d1 : decide ((l : Int) + (t : Int) < 64) = true := by simp; omega
            have hla : l ≤ leadK X := by omega
            have htb : t ≤ trailK X := by omega
            have hla' : (l : Int) ≤ (leadK X : Int) := by omega
            have htb' : (t : Int) ≤ (trailK X : Int) := by omega
            have hlt63 : l + t ≤ 63 := by omega
            have Hwl := Lib.hid (winL_len X l t)
            have hwin := Lib.hid (fun W => hwn.out W l t hlt63)
            clear e1 e2 hv2 Hvs hX hin hin' hwn
            generalize winL X l t = D at *
            generalize leadK X = a at *
            generalize trailK X = b' at *

            generalize wr.drewN nq = w5 at *
            have hDl : D.length ≤ 64 := by rw [Hwl.out]; omega
            go_wp2_with fail
            refine (hcl.out _).mono ?_
            rintro e w5 ⟨rfl, rfl⟩
            go_wp2_with fail
            refine (hct.out _).mono ?_
            rintro e w5 ⟨rfl, rfl⟩
            have Oa := O5.out.below (eb_below1 w5 (.cells (bitInts [true, false]).toArray 2))
            have hown := Oa.own
            have hszO := Oa.f.size
            have Hcl := Lib.hid (lit_cells w5 [true, false] (by decide))
            go_wp2_with (at_builtin; refine wpList_append_own _ rfl _ _ 94 rfl w.heap.size 2 i0 (.int .i64 0) 1 8 Tryd.underlying94 hi hz0 hz1 hz2 rfl (by decide) _ _ _ rfl hown ⟨w5.heap.size, 0, none⟩ 2 2 (bitInts [true, false]) rfl rfl Hcl.out (bitInts_one' _) ?c3 ?c4 ?c5 ?_)
            case c3 => unfold maxLen; omega
            case c4 => omega
            case c5 => exact hszO
            intro v6 w6 hown' hgrow hnn
            have O6 := Lib.hid (Oa.app (D := [true, false]) (m := 2) rfl hown' hgrow (by first | exact hnn | exact fun h => Oa.nn (hnn.1 h).1))
            clear hnn hown' hgrow hown Oa Hcl hszO
            obtain ⟨L6, hLL⟩ : ∃ Lx, Lx = L ++ [true, false] := ⟨_, rfl⟩
            have hl6 : L6.length ≤ 9242 := by rw [hLL, List.length_append]; simp; omega
            rw [← hLL] at O6
            have HL6 := Lib.hid hLL
            clear hLL
            go_wp2_with fail
            refine (hwin.out _).mono ?_
            rintro e w7 ⟨gB, oB, cB, rfl, hcB, hb⟩
            have Hcells := Lib.hid hcB
            have Oa := O6.out.below hb
            have Hln := Lib.hid (show (bitInts D).length = D.length * 1 by rw [bitInts_length, Nat.mul_one])
            have Hone := Lib.hid (bitInts_one' D)
            have hown := Oa.own
            have hszO := Oa.f.size
            clear hb hcB
            go_wp2_with (at_builtin; refine wpList_append_own _ rfl _ _ 94 rfl w.heap.size 2 i0 (.int .i64 0) 1 8 Tryd.underlying94 hi hz0 hz1 hz2 rfl (by decide) _ _ _ rfl hown ⟨gB, oB, none⟩ D.length cB (bitInts D) rfl Hln.out Hcells.out Hone.out ?c3 ?c4 ?c5 ?_)
            case c3 => unfold maxLen; omega
            case c4 => omega
            case c5 => exact hszO
            intro v8 w8 hown' hgrow hnn
            have O8 := Lib.hid (Oa.app (D := D) rfl hown' hgrow (by first | exact hnn | exact fun h => Oa.nn (hnn.1 h).1))
            clear hnn hown' hgrow hown Oa Hcells Hln Hone hszO
            obtain ⟨L8, hLL⟩ : ∃ Lx, Lx = L6 ++ D := ⟨_, rfl⟩
            have hl8 : L8.length ≤ 9306 := by rw [hLL, List.length_append]; omega
            rw [← hLL] at O8
            have HL8 := Lib.hid hLL
            clear hLL
            go_wp2_with fail
            have Hv3 : Hid (valTo xs (k + 1) = (L8, l, t)) := Lib.hid (by rw [Hv2.out, HL8.out, HL6.out, List.append_assoc])
            exact ⟨⟨k + 1, L8, l, t, by omega, by go_num, Hv3, rfl, rfl, O8⟩, by simp [intOf]; omega⟩
          | false =>
            have e1 : stepL X l t = newL X (min 31 (leadK X)) (trailK X) := by unfold stepL; rw [if_neg hX, if_neg (by rw [hin]; decide)]
            have e2 : stepS X l t = (min 31 (leadK X), trailK X) := by unfold stepS; rw [if_neg hX, if_neg (by rw [hin]; decide)]
            have hv2 := Hvs.out
            try dsimp only at hv2
            rw [e1, e2] at hv2
            have hin' := hin
            unfold inW at hin'
            rw [decide_eq_false_iff_not] at hin'
            have hA31 : min (31 : Int) (leadK X : Int) = ((min 31 (leadK X) : Nat) : Int) := by omega
            have hm63 : min 31 (leadK X) + trailK X ≤ 63 := by omega
            have hm31 : min 31 (leadK X) ≤ 31 := by omega
            have hwin := Lib.hid (fun W => hwn.out W (min 31 (leadK X)) (trailK X) hm63)
            have Hwl := Lib.hid (winL_len X (min 31 (leadK X)) (trailK X))
            unfold newL at hv2
            have Hv2 := Lib.hid hv2
            have hdA := Lib.hid (fun W => l1Digits_any ((min 31 (leadK X) : Nat) : Int) 5 W (by omega))
            have hdB := Lib.hid (fun W => l1Digits_any (63 - ((min 31 (leadK X) : Nat) : Int) - (trailK X : Int)) 6 W (by omega))
            have uA : u64of ((min 31 (leadK X) : Nat) : Int) = min 31 (leadK X) := by unfold u64of; omega
            have uB : u64of (63 - ((min 31 (leadK X) : Nat) : Int) - (trailK X : Int)) = 63 - min 31 (leadK X) - trailK X := by unfold u64of; omega
            rw [uA] at hdA
            rw [uB] at hdB
            have HlA := Lib.hid (BM.digits_length (min 31 (leadK X)) 5)
            have HlB := Lib.hid (BM.digits_length (63 - min 31 (leadK X) - trailK X) 6)
            clear e1 e2 hv2 Hvs hX hin hwn uA uB
            generalize winL X (min 31 (leadK X)) (trailK X) = D at *
            generalize BM.digits (min 31 (leadK X)) 5 = DA at *
            generalize BM.digits (63 - min 31 (leadK X) - trailK X) 6 = DB at *
            have hmn : ∀ m : Nat, min 31 (leadK X) = m → True := fun _ _ => trivial
            generalize hmm : min 31 (leadK X) = m at *
            have Hmm := Lib.hid hmm
            clear hmm hmn
            generalize leadK X = a at *
            generalize trailK X = b' at *
            generalize wr.drewN nq = w5 at *
            have hDl : D.length ≤ 64 := by rw [Hwl.out]; omega
            have hA32 : min (a : Int) 31 = (m : Int) := by omega
            have hc3 : ¬ l + t < 64 ∨ (l + t < 64 ∧ ¬ l ≤ a) ∨ (l + t < 64 ∧ l ≤ a ∧ ¬ t ≤ b') := by omega
            clear hin'
            rcases hc3 with hc1 | ⟨hc1, hc2⟩ | ⟨hc1, hc2, hc3⟩
            · have d1 : ¬ (l : Int) + (t : Int) < 64 := by omega
              go_wp2_with fail
              refine (hcl.out _).mono ?_
              rintro e w5 ⟨rfl, rfl⟩
              go_wp2_with fail
              refine (hct.out _).mono ?_
              rintro e w5 ⟨rfl, rfl⟩
              have Oa := O5.out.below (eb_below1 w5 (.cells (bitInts [true, true]).toArray 2))
              have hown := Oa.own
              have hszO := Oa.f.size
              have Hcl := Lib.hid (lit_cells w5 [true, true] (by decide))
              go_wp2_with (at_builtin; refine wpList_append_own _ rfl _ _ 94 rfl w.heap.size 2 i0 (.int .i64 0) 1 8 Tryd.underlying94 hi hz0 hz1 hz2 rfl (by decide) _ _ _ rfl hown ⟨w5.heap.size, 0, none⟩ 2 2 (bitInts [true, true]) rfl rfl Hcl.out (bitInts_one' _) ?c3 ?c4 ?c5 ?_)
              case c3 => unfold maxLen; omega
              case c4 => omega
              case c5 => exact hszO
              intro v6 w6 hown' hgrow hnn
              have O6 := Lib.hid (Oa.app (D := [true, true]) (m := 2) rfl hown' hgrow (by first | exact hnn | exact fun h => Oa.nn (hnn.1 h).1))
              clear hnn hown' hgrow hown Oa Hcl hszO
              obtain ⟨L6, hLL⟩ : ∃ Lx, Lx = L ++ [true, true] := ⟨_, rfl⟩
              have hl6 : L6.length ≤ 9242 := by rw [hLL, List.length_append]; simp; omega
              rw [← hLL] at O6
              have HL6 := Lib.hid hLL
              clear hLL
              go_wp2_with fail
              refine (hdA.out _).mono ?_
              rintro e w7 ⟨v, rfl, hownB, hb, -⟩
              have Oa := O6.out.below hb
              rw [HlA.out] at hownB
              obtain ⟨gB, cB, rfl⟩ := Go.Joins.ownsRow_form hownB (by omega)
              have Hcells := Lib.hid (show ∀ j u, (bitInts DA)[j]? = some u → w7.cell? ((⟨gB, 0, none⟩ : Addr).add j) = some u from hownB.cells rfl)
              have Hln := Lib.hid (show (bitInts DA).length = 5 * 1 by rw [bitInts_length, HlA.out])
              have Hone := Lib.hid (bitInts_one' DA)
              have hown := Oa.own
              have hszO := Oa.f.size
              clear hb hownB
              go_wp2_with (at_builtin; refine wpList_append_own _ rfl _ _ 94 rfl w.heap.size 2 i0 (.int .i64 0) 1 8 Tryd.underlying94 hi hz0 hz1 hz2 rfl (by decide) _ _ _ rfl hown ⟨gB, 0, none⟩ 5 cB (bitInts DA) rfl Hln.out Hcells.out Hone.out ?c3 ?c4 ?c5 ?_)
              case c3 => unfold maxLen; omega
              case c4 => omega
              case c5 => exact hszO
              intro v8 w8 hown' hgrow hnn
              have O8 := Lib.hid (Oa.app (D := DA) (m := 5) HlA.out hown' hgrow (by first | exact hnn | exact fun h => Oa.nn (hnn.1 h).1))
              clear hnn hown' hgrow hown Oa Hcells Hln Hone hszO
              obtain ⟨L8, hLL⟩ : ∃ Lx, Lx = L6 ++ DA := ⟨_, rfl⟩
              have hl8 : L8.length ≤ 9247 := by rw [hLL, List.length_append]; rw [HlA.out]; omega
              rw [← hLL] at O8
              have HL8 := Lib.hid hLL
              clear hLL
              go_wp2_with fail
              refine (hdB.out _).mono ?_
              rintro e w9 ⟨v, rfl, hownB, hb, -⟩
              have Oa := O8.out.below hb
              rw [HlB.out] at hownB
              obtain ⟨gB, cB, rfl⟩ := Go.Joins.ownsRow_form hownB (by omega)
              have Hcells := Lib.hid (show ∀ j u, (bitInts DB)[j]? = some u → w9.cell? ((⟨gB, 0, none⟩ : Addr).add j) = some u from hownB.cells rfl)
              have Hln := Lib.hid (show (bitInts DB).length = 6 * 1 by rw [bitInts_length, HlB.out])
              have Hone := Lib.hid (bitInts_one' DB)
              have hown := Oa.own
              have hszO := Oa.f.size
              clear hb hownB
              go_wp2_with (at_builtin; refine wpList_append_own _ rfl _ _ 94 rfl w.heap.size 2 i0 (.int .i64 0) 1 8 Tryd.underlying94 hi hz0 hz1 hz2 rfl (by decide) _ _ _ rfl hown ⟨gB, 0, none⟩ 6 cB (bitInts DB) rfl Hln.out Hcells.out Hone.out ?c3 ?c4 ?c5 ?_)
              case c3 => unfold maxLen; omega
              case c4 => omega
              case c5 => exact hszO
              intro v10 w10 hown' hgrow hnn
              have O10 := Lib.hid (Oa.app (D := DB) (m := 6) HlB.out hown' hgrow (by first | exact hnn | exact fun h => Oa.nn (hnn.1 h).1))
              clear hnn hown' hgrow hown Oa Hcells Hln Hone hszO
              obtain ⟨L10, hLL⟩ : ∃ Lx, Lx = L8 ++ DB := ⟨_, rfl⟩
              have hl10 : L10.length ≤ 9253 := by rw [hLL, List.length_append]; rw [HlB.out]; omega
              rw [← hLL] at O10
              have HL10 := Lib.hid hLL
              clear hLL
              go_wp2_with fail
              refine (hwin.out _).mono ?_
              rintro e w11 ⟨gB, oB, cB, rfl, hcB, hb⟩
              have Hcells := Lib.hid hcB
              have Oa := O10.out.below hb
              have Hln := Lib.hid (show (bitInts D).length = D.length * 1 by rw [bitInts_length, Nat.mul_one])
              have Hone := Lib.hid (bitInts_one' D)
              have hown := Oa.own
              have hszO := Oa.f.size
              clear hb hcB
              go_wp2_with (at_builtin; refine wpList_append_own _ rfl _ _ 94 rfl w.heap.size 2 i0 (.int .i64 0) 1 8 Tryd.underlying94 hi hz0 hz1 hz2 rfl (by decide) _ _ _ rfl hown ⟨gB, oB, none⟩ D.length cB (bitInts D) rfl Hln.out Hcells.out Hone.out ?c3 ?c4 ?c5 ?_)
              case c3 => unfold maxLen; omega
              case c4 => omega
              case c5 => exact hszO
              intro v12 w12 hown' hgrow hnn
              have O12 := Lib.hid (Oa.app (D := D) rfl hown' hgrow (by first | exact hnn | exact fun h => Oa.nn (hnn.1 h).1))
              clear hnn hown' hgrow hown Oa Hcells Hln Hone hszO
              obtain ⟨L12, hLL⟩ : ∃ Lx, Lx = L10 ++ D := ⟨_, rfl⟩
              have hl12 : L12.length ≤ 9317 := by rw [hLL, List.length_append]; omega
              rw [← hLL] at O12
              have HL12 := Lib.hid hLL
              clear hLL
              go_wp2_with fail
              have Hv3 : Hid (valTo xs (k + 1) = (L12, m, b')) := Lib.hid (by rw [Hv2.out, HL12.out, HL10.out, HL8.out, HL6.out]; simp only [List.append_assoc])
              exact ⟨⟨k + 1, L12, m, b', by omega, by go_num, Hv3, rfl, rfl, O12⟩, by simp [intOf]; omega⟩
            · have d2 : ¬ (l : Int) ≤ (a : Int) := by omega
              have d1 : (l : Int) + (t : Int) < 64 := by omega
              go_wp2_with fail
              refine (hcl.out _).mono ?_
              rintro e w5 ⟨rfl, rfl⟩
              go_wp2_with fail
              refine (hcl.out _).mono ?_
              rintro e w5 ⟨rfl, rfl⟩
              go_wp2_with fail
              refine (hct.out _).mono ?_
              rintro e w5 ⟨rfl, rfl⟩
              have Oa := O5.out.below (eb_below1 w5 (.cells (bitInts [true, true]).toArray 2))
              have hown := Oa.own
              have hszO := Oa.f.size
              have Hcl := Lib.hid (lit_cells w5 [true, true] (by decide))
              go_wp2_with (at_builtin; refine wpList_append_own _ rfl _ _ 94 rfl w.heap.size 2 i0 (.int .i64 0) 1 8 Tryd.underlying94 hi hz0 hz1 hz2 rfl (by decide) _ _ _ rfl hown ⟨w5.heap.size, 0, none⟩ 2 2 (bitInts [true, true]) rfl rfl Hcl.out (bitInts_one' _) ?c3 ?c4 ?c5 ?_)
              case c3 => unfold maxLen; omega
              case c4 => omega
              case c5 => exact hszO
              intro v6 w6 hown' hgrow hnn
              have O6 := Lib.hid (Oa.app (D := [true, true]) (m := 2) rfl hown' hgrow (by first | exact hnn | exact fun h => Oa.nn (hnn.1 h).1))
              clear hnn hown' hgrow hown Oa Hcl hszO
              obtain ⟨L6, hLL⟩ : ∃ Lx, Lx = L ++ [true, true] := ⟨_, rfl⟩
              have hl6 : L6.length ≤ 9242 := by rw [hLL, List.length_append]; simp; omega
              rw [← hLL] at O6
              have HL6 := Lib.hid hLL
              clear hLL
              go_wp2_with fail
              refine (hdA.out _).mono ?_
              rintro e w7 ⟨v, rfl, hownB, hb, -⟩
              have Oa := O6.out.below hb
              rw [HlA.out] at hownB
              obtain ⟨gB, cB, rfl⟩ := Go.Joins.ownsRow_form hownB (by omega)
              have Hcells := Lib.hid (show ∀ j u, (bitInts DA)[j]? = some u → w7.cell? ((⟨gB, 0, none⟩ : Addr).add j) = some u from hownB.cells rfl)
              have Hln := Lib.hid (show (bitInts DA).length = 5 * 1 by rw [bitInts_length, HlA.out])
              have Hone := Lib.hid (bitInts_one' DA)
              have hown := Oa.own
              have hszO := Oa.f.size
              clear hb hownB
              go_wp2_with (at_builtin; refine wpList_append_own _ rfl _ _ 94 rfl w.heap.size 2 i0 (.int .i64 0) 1 8 Tryd.underlying94 hi hz0 hz1 hz2 rfl (by decide) _ _ _ rfl hown ⟨gB, 0, none⟩ 5 cB (bitInts DA) rfl Hln.out Hcells.out Hone.out ?c3 ?c4 ?c5 ?_)
              case c3 => unfold maxLen; omega
              case c4 => omega
              case c5 => exact hszO
              intro v8 w8 hown' hgrow hnn
              have O8 := Lib.hid (Oa.app (D := DA) (m := 5) HlA.out hown' hgrow (by first | exact hnn | exact fun h => Oa.nn (hnn.1 h).1))
              clear hnn hown' hgrow hown Oa Hcells Hln Hone hszO
              obtain ⟨L8, hLL⟩ : ∃ Lx, Lx = L6 ++ DA := ⟨_, rfl⟩
              have hl8 : L8.length ≤ 9247 := by rw [hLL, List.length_append]; rw [HlA.out]; omega
              rw [← hLL] at O8
              have HL8 := Lib.hid hLL
              clear hLL
              go_wp2_with fail
              refine (hdB.out _).mono ?_
              rintro e w9 ⟨v, rfl, hownB, hb, -⟩
              have Oa := O8.out.below hb
              rw [HlB.out] at hownB
              obtain ⟨gB, cB, rfl⟩ := Go.Joins.ownsRow_form hownB (by omega)
              have Hcells := Lib.hid (show ∀ j u, (bitInts DB)[j]? = some u → w9.cell? ((⟨gB, 0, none⟩ : Addr).add j) = some u from hownB.cells rfl)
              have Hln := Lib.hid (show (bitInts DB).length = 6 * 1 by rw [bitInts_length, HlB.out])
              have Hone := Lib.hid (bitInts_one' DB)
              have hown := Oa.own
              have hszO := Oa.f.size
              clear hb hownB
              go_wp2_with (at_builtin; refine wpList_append_own _ rfl _ _ 94 rfl w.heap.size 2 i0 (.int .i64 0) 1 8 Tryd.underlying94 hi hz0 hz1 hz2 rfl (by decide) _ _ _ rfl hown ⟨gB, 0, none⟩ 6 cB (bitInts DB) rfl Hln.out Hcells.out Hone.out ?c3 ?c4 ?c5 ?_)
              case c3 => unfold maxLen; omega
              case c4 => omega
              case c5 => exact hszO
              intro v10 w10 hown' hgrow hnn
              have O10 := Lib.hid (Oa.app (D := DB) (m := 6) HlB.out hown' hgrow (by first | exact hnn | exact fun h => Oa.nn (hnn.1 h).1))
              clear hnn hown' hgrow hown Oa Hcells Hln Hone hszO
              obtain ⟨L10, hLL⟩ : ∃ Lx, Lx = L8 ++ DB := ⟨_, rfl⟩
              have hl10 : L10.length ≤ 9253 := by rw [hLL, List.length_append]; rw [HlB.out]; omega
              rw [← hLL] at O10
              have HL10 := Lib.hid hLL
              clear hLL
              go_wp2_with fail
              refine (hwin.out _).mono ?_
              rintro e w11 ⟨gB, oB, cB, rfl, hcB, hb⟩
              have Hcells := Lib.hid hcB
              have Oa := O10.out.below hb
              have Hln := Lib.hid (show (bitInts D).length = D.length * 1 by rw [bitInts_length, Nat.mul_one])
              have Hone := Lib.hid (bitInts_one' D)
              have hown := Oa.own
              have hszO := Oa.f.size
              clear hb hcB
              go_wp2_with (at_builtin; refine wpList_append_own _ rfl _ _ 94 rfl w.heap.size 2 i0 (.int .i64 0) 1 8 Tryd.underlying94 hi hz0 hz1 hz2 rfl (by decide) _ _ _ rfl hown ⟨gB, oB, none⟩ D.length cB (bitInts D) rfl Hln.out Hcells.out Hone.out ?c3 ?c4 ?c5 ?_)
              case c3 => unfold maxLen; omega
              case c4 => omega
              case c5 => exact hszO
              intro v12 w12 hown' hgrow hnn
              have O12 := Lib.hid (Oa.app (D := D) rfl hown' hgrow (by first | exact hnn | exact fun h => Oa.nn (hnn.1 h).1))
              clear hnn hown' hgrow hown Oa Hcells Hln Hone hszO
              obtain ⟨L12, hLL⟩ : ∃ Lx, Lx = L10 ++ D := ⟨_, rfl⟩
              have hl12 : L12.length ≤ 9317 := by rw [hLL, List.length_append]; omega
              rw [← hLL] at O12
              have HL12 := Lib.hid hLL
              clear hLL
              go_wp2_with fail
              have Hv3 : Hid (valTo xs (k + 1) = (L12, m, b')) := Lib.hid (by rw [Hv2.out, HL12.out, HL10.out, HL8.out, HL6.out]; simp only [List.append_assoc])
              exact ⟨⟨k + 1, L12, m, b', by omega, by go_num, Hv3, rfl, rfl, O12⟩, by simp [intOf]; omega⟩
            · have d3 : ¬ (t : Int) ≤ (b' : Int) := by omega
              have d2 : (l : Int) ≤ (a : Int) := by omega
              have d1 : (l : Int) + (t : Int) < 64 := by omega
              go_wp2_with fail
              refine (hcl.out _).mono ?_
              rintro e w5 ⟨rfl, rfl⟩
              go_wp2_with fail
              refine (hct.out _).mono ?_
              rintro e w5 ⟨rfl, rfl⟩
              go_wp2_with fail
              refine (hcl.out _).mono ?_
              rintro e w5 ⟨rfl, rfl⟩
              go_wp2_with fail
              refine (hct.out _).mono ?_
              rintro e w5 ⟨rfl, rfl⟩
              have Oa := O5.out.below (eb_below1 w5 (.cells (bitInts [true, true]).toArray 2))
              have hown := Oa.own
              have hszO := Oa.f.size
              have Hcl := Lib.hid (lit_cells w5 [true, true] (by decide))
              go_wp2_with (at_builtin; refine wpList_append_own _ rfl _ _ 94 rfl w.heap.size 2 i0 (.int .i64 0) 1 8 Tryd.underlying94 hi hz0 hz1 hz2 rfl (by decide) _ _ _ rfl hown ⟨w5.heap.size, 0, none⟩ 2 2 (bitInts [true, true]) rfl rfl Hcl.out (bitInts_one' _) ?c3 ?c4 ?c5 ?_)
              case c3 => unfold maxLen; omega
              case c4 => omega
              case c5 => exact hszO
              intro v6 w6 hown' hgrow hnn
              have O6 := Lib.hid (Oa.app (D := [true, true]) (m := 2) rfl hown' hgrow (by first | exact hnn | exact fun h => Oa.nn (hnn.1 h).1))
              clear hnn hown' hgrow hown Oa Hcl hszO
              obtain ⟨L6, hLL⟩ : ∃ Lx, Lx = L ++ [true, true] := ⟨_, rfl⟩
              have hl6 : L6.length ≤ 9242 := by rw [hLL, List.length_append]; simp; omega
              rw [← hLL] at O6
              have HL6 := Lib.hid hLL
              clear hLL
              go_wp2_with fail
              refine (hdA.out _).mono ?_
              rintro e w7 ⟨v, rfl, hownB, hb, -⟩
              have Oa := O6.out.below hb
              rw [HlA.out] at hownB
              obtain ⟨gB, cB, rfl⟩ := Go.Joins.ownsRow_form hownB (by omega)
              have Hcells := Lib.hid (show ∀ j u, (bitInts DA)[j]? = some u → w7.cell? ((⟨gB, 0, none⟩ : Addr).add j) = some u from hownB.cells rfl)
              have Hln := Lib.hid (show (bitInts DA).length = 5 * 1 by rw [bitInts_length, HlA.out])
              have Hone := Lib.hid (bitInts_one' DA)
              have hown := Oa.own
              have hszO := Oa.f.size
              clear hb hownB
              go_wp2_with (at_builtin; refine wpList_append_own _ rfl _ _ 94 rfl w.heap.size 2 i0 (.int .i64 0) 1 8 Tryd.underlying94 hi hz0 hz1 hz2 rfl (by decide) _ _ _ rfl hown ⟨gB, 0, none⟩ 5 cB (bitInts DA) rfl Hln.out Hcells.out Hone.out ?c3 ?c4 ?c5 ?_)
              case c3 => unfold maxLen; omega
              case c4 => omega
              case c5 => exact hszO
              intro v8 w8 hown' hgrow hnn
              have O8 := Lib.hid (Oa.app (D := DA) (m := 5) HlA.out hown' hgrow (by first | exact hnn | exact fun h => Oa.nn (hnn.1 h).1))
              clear hnn hown' hgrow hown Oa Hcells Hln Hone hszO
              obtain ⟨L8, hLL⟩ : ∃ Lx, Lx = L6 ++ DA := ⟨_, rfl⟩
              have hl8 : L8.length ≤ 9247 := by rw [hLL, List.length_append]; rw [HlA.out]; omega
              rw [← hLL] at O8
              have HL8 := Lib.hid hLL
              clear hLL
              go_wp2_with fail
              refine (hdB.out _).mono ?_
              rintro e w9 ⟨v, rfl, hownB, hb, -⟩
              have Oa := O8.out.below hb
              rw [HlB.out] at hownB
              obtain ⟨gB, cB, rfl⟩ := Go.Joins.ownsRow_form hownB (by omega)
              have Hcells := Lib.hid (show ∀ j u, (bitInts DB)[j]? = some u → w9.cell? ((⟨gB, 0, none⟩ : Addr).add j) = some u from hownB.cells rfl)
              have Hln := Lib.hid (show (bitInts DB).length = 6 * 1 by rw [bitInts_length, HlB.out])
              have Hone := Lib.hid (bitInts_one' DB)
              have hown := Oa.own
              have hszO := Oa.f.size
              clear hb hownB
              go_wp2_with (at_builtin; refine wpList_append_own _ rfl _ _ 94 rfl w.heap.size 2 i0 (.int .i64 0) 1 8 Tryd.underlying94 hi hz0 hz1 hz2 rfl (by decide) _ _ _ rfl hown ⟨gB, 0, none⟩ 6 cB (bitInts DB) rfl Hln.out Hcells.out Hone.out ?c3 ?c4 ?c5 ?_)
              case c3 => unfold maxLen; omega
              case c4 => omega
              case c5 => exact hszO
              intro v10 w10 hown' hgrow hnn
              have O10 := Lib.hid (Oa.app (D := DB) (m := 6) HlB.out hown' hgrow (by first | exact hnn | exact fun h => Oa.nn (hnn.1 h).1))
              clear hnn hown' hgrow hown Oa Hcells Hln Hone hszO
              obtain ⟨L10, hLL⟩ : ∃ Lx, Lx = L8 ++ DB := ⟨_, rfl⟩
              have hl10 : L10.length ≤ 9253 := by rw [hLL, List.length_append]; rw [HlB.out]; omega
              rw [← hLL] at O10
              have HL10 := Lib.hid hLL
              clear hLL
              go_wp2_with fail
              refine (hwin.out _).mono ?_
              rintro e w11 ⟨gB, oB, cB, rfl, hcB, hb⟩
              have Hcells := Lib.hid hcB
              have Oa := O10.out.below hb
              have Hln := Lib.hid (show (bitInts D).length = D.length * 1 by rw [bitInts_length, Nat.mul_one])
              have Hone := Lib.hid (bitInts_one' D)
              have hown := Oa.own
              have hszO := Oa.f.size
              clear hb hcB
              go_wp2_with (at_builtin; refine wpList_append_own _ rfl _ _ 94 rfl w.heap.size 2 i0 (.int .i64 0) 1 8 Tryd.underlying94 hi hz0 hz1 hz2 rfl (by decide) _ _ _ rfl hown ⟨gB, oB, none⟩ D.length cB (bitInts D) rfl Hln.out Hcells.out Hone.out ?c3 ?c4 ?c5 ?_)
              case c3 => unfold maxLen; omega
              case c4 => omega
              case c5 => exact hszO
              intro v12 w12 hown' hgrow hnn
              have O12 := Lib.hid (Oa.app (D := D) rfl hown' hgrow (by first | exact hnn | exact fun h => Oa.nn (hnn.1 h).1))
              clear hnn hown' hgrow hown Oa Hcells Hln Hone hszO
              obtain ⟨L12, hLL⟩ : ∃ Lx, Lx = L10 ++ D := ⟨_, rfl⟩
              have hl12 : L12.length ≤ 9317 := by rw [hLL, List.length_append]; omega
              rw [← hLL] at O12
              have HL12 := Lib.hid hLL
              clear hLL
              go_wp2_with fail
              have Hv3 : Hid (valTo xs (k + 1) = (L12, m, b')) := Lib.hid (by rw [Hv2.out, HL12.out, HL10.out, HL8.out, HL6.out]; simp only [List.append_assoc])
              exact ⟨⟨k + 1, L12, m, b', by omega, by go_num, Hv3, rfl, rfl, O12⟩, by simp [intOf]; omega⟩
    · obtain rfl : k = xs.length := by omega
      have hO := HO.out
      clear HO
      go_wp2_with fail
      go_ret
      rw [HVT.out]
      exact ⟨u3, rfl, hO.own, hO.f, hO.nn⟩
end Go.Proofs.YtanoohfhifhhaaaDoor
