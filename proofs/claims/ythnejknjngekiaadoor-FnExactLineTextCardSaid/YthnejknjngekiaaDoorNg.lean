/- Walks: the program's text of labels. -/
import Derived.Test.YthnejknjngekiaaDoorNf
import Derived.Test.YthnejknjngekiaaDoorSh
set_option linter.unusedVariables false
set_option linter.unusedSimpArgs false
namespace Go.Proofs.YthnejknjngekiaaDoor
open Go.RowKit

def strs (l : List ByteArray) : List Value := l.map Value.string
theorem strs_length (l : List ByteArray) : (strs l).length = l.length := by simp [strs]
theorem strs_append (l m : List ByteArray) : strs (l ++ m) = strs l ++ strs m := by simp [strs]
theorem strs_get (l : List ByteArray) (j : Nat) (x : ByteArray) (h : l[j]? = some x) : (strs l)[j]? = some (.string x) := by
  simp [strs, h]
theorem cell_one_at {w : World} {v : Value} {ty : TypeId} {b : Nat} (hb : b = w.heap.size) : ∀ (j : Nat) (u : Value), [v][j]? = some u → (w.alloc (.cells #[v] ty)).cell? ((⟨b, 0, none⟩ : Addr).add j) = some u := by
  subst hb; exact cell_one_new _ _ _
/-- the part of the k-th label -/
def ptAt (xs : List (ByteArray × ByteArray)) (k : Nat) : ByteArray := nmAt xs k ++ eqS ++ vlAt xs k
def pts (xs : List (ByteArray × ByteArray)) (k : Nat) : List ByteArray := (List.range k).map (ptAt xs)
theorem pts_succ (xs : List (ByteArray × ByteArray)) (k : Nat) : pts xs (k + 1) = pts xs k ++ [ptAt xs k] := by simp [pts, List.range_succ]
theorem pts_length (xs : List (ByteArray × ByteArray)) (k : Nat) : (pts xs k).length = k := by simp [pts]
theorem join_snoc (l : List (List UInt8)) (x sep : List UInt8) : Lib.join (l ++ [x]) sep = (if l = [] then x else Lib.join l sep ++ sep ++ x) := by
  cases l with
  | nil => simp [Lib.join_one]
  | cons a r => rw [if_neg (by simp), List.cons_append, Lib.join_cons, Lib.join_cons]; simp [Lib.joinTail]
theorem n_data_append (a b : ByteArray) : (a ++ b).data.toList = a.data.toList ++ b.data.toList := by
  simp [ByteArray.data_append]
theorem txTo_join (xs : List (ByteArray × ByteArray)) : ∀ k, (txTo xs k).data.toList = Lib.join ((pts xs k).map (·.data.toList)) coS.data.toList
  | 0 => rfl
  | k + 1 => by
    have ih := txTo_join xs k
    rw [pts_succ, List.map_append, List.map_singleton, join_snoc, txTo]
    by_cases h : 0 < k
    · have hne : ¬ (pts xs k).map (·.data.toList) = [] := by
        intro e
        have := congrArg List.length e
        rw [List.length_map, pts_length] at this
        simp at this
        omega
      rw [if_pos h, if_neg hne, ← ih]
      simp only [n_data_append, ptAt, List.append_assoc]
    · obtain rfl : k = 0 := by omega
      rw [if_neg h, if_pos (show (pts xs 0).map (·.data.toList) = [] from rfl)]
      simp only [n_data_append, ptAt, txTo, List.append_assoc]
      rfl
theorem txTo_mk (xs : List (ByteArray × ByteArray)) (k : Nat) : (⟨(Lib.join ((pts xs k).map (·.data.toList)) coS.data.toList).toArray⟩ : ByteArray) = txTo xs k := by
  rw [← txTo_join]

set_option maxRecDepth 100000 in
set_option maxHeartbeats 2000000 in
theorem implLabelsText_any (v : Value) (xs : List (ByteArray × ByteArray)) (w : World) (h : LL w w.heap.size v xs) :
    Calls Tryd.prog 14 #[v] w fun e w' => e = .returned (.string (lbText xs)) ∧ Below w.heap.size w w' := by
  have HO := Lib.hid (implLabelsOk_any v xs w h)
  have HL := Lib.hid h
  obtain ⟨hr, hlen, A, c, rfl, h3⟩ := h
  have Hr := Lib.hid hr
  clear hr h3
  unfold lbText
  cases hB : labOkB xs with
  | false =>
    rw [hB] at HO
    rw [if_neg (by simp)]
    go_enter Tryd.func14, Tryd.ntmps14
    go_wp2_with fail
    refine HO.out.mono ?_
    rintro e w1 ⟨rfl, hb⟩
    go_wp2_with fail
    go_ret
    exact ⟨rfl, hb⟩
  | true =>
    obtain ⟨h1, h2, h5⟩ := labOk_parts hB
    have HA := Lib.hid (fun k (hk : k < xs.length) => lAt_size (lTo_at h1 hk))
    have HS := Lib.hid (txTo_size xs.length h1)
    rw [hB] at HO
    rw [if_pos rfl]
    clear hB h1
    obtain ⟨i0, hi, hz0, hz1, hz2⟩ := info_parts info_str
    go_enter Tryd.func14, Tryd.ntmps14
    go_wp2_with fail
    refine HO.out.mono ?_
    rintro e w1 ⟨rfl, hb⟩
    have HL1 := Lib.hid ((HL.out.below hb).up hb.size)
    clear HL HO
    go_wp2_with fail
    have HB := Lib.hid hb
    clear hb
    go_loopw [3, 11] (fun v i wr => ∃ k : Nat, k ≤ xs.length ∧ i = .int .i64 k ∧ wr.ownsRow w1.heap.size 9 1 v k (strs (pts xs k)) ∧ Below w1.heap.size w1 wr) (fun _ i _ => xs.length - (intOf i).toNat)
    case atStart => exact ⟨0, Nat.zero_le _, rfl, World.ownsRow_nil _ _ _ _, Below.refl _ _⟩
    case round =>
      obtain ⟨k, hk, rfl, hown, hb1⟩ := hrel
      have hsz1 := hb1.size
      by_cases hlt : k < xs.length
      · obtain ⟨_, _, A', c', hA, h3⟩ := HL1.out
        injection hA with hA1 _ hA3
        subst hA1
        subst hA3
        rcases h3 with h3 | ⟨b, off, rfl, hbl, hc⟩
        · subst h3; simp at hlt
        have hx0 : wr.cell? ⟨b, off + k * 2, none⟩ = some (.string (nmAt xs k)) := (hb1.cell (p := ⟨b, off + k * 2, none⟩) hbl).trans (hc k hlt).1
        have hx1 : wr.cell? ⟨b, off + k * 2 + 1, none⟩ = some (.string (vlAt xs k)) := (hb1.cell (p := ⟨b, off + k * 2 + 1, none⟩) hbl).trans (hc k hlt).2
        obtain ⟨s1, s2⟩ := HA.out k hlt
        have hn := Lib.hid (pts_succ xs k)
        unfold ptAt at hn
        generalize nmAt xs k = nm at *
        generalize vlAt xs k = vl at *
        clear hc
        have hP1 := Lib.hid (hb1.alloc hsz1 (.cells #[.string nm, .string vl] 45))
        have hO1 := hown.alloc (.cells #[.string nm, .string vl] 45)
        go_wp2_with (at_builtin; refine wpList_append_own _ rfl _ _ 47 rfl w1.heap.size 9 i0 (.string em) 1 16 Tryd.underlying47 hi hz0 hz1 hz2 rfl (by decide) _ _ _ rfl (hO1.alloc _) ⟨wr.heap.size + 1, 0, none⟩ 1 1 [.string (nm ++ eqS ++ vl)] rfl rfl ?c1 ?c2 ?c3 ?c4 ?c5 ?_)
        case c1 => exact fun j u h => h
        case c2 => rfl
        case c3 => unfold maxLen; omega
        case c4 => omega
        case c5 => omega
        intro v' w4 hown' hgrow _
        have hb4 := u_below_append hP1.out (Nat.le_refl _) (by simp; omega) hO1 hgrow
        have hown5 : w4.ownsRow w1.heap.size 9 1 v' (k + 1) (strs (pts xs (k + 1))) := by rw [hn.out, strs_append]; exact hown'
        clear hown' hown hgrow hb1 hO1
        go_wp2_with fail
        go_roundw
        case rel => exact ⟨k + 1, by omega, by go_num, hown5, hb4⟩
        case measure => simp [intOf]; omega
      · obtain rfl : k = xs.length := by omega
        rcases hown.2 with ⟨_, h0⟩ | ⟨g, cap, cur, rfl, hg, hcur, hnc, _⟩
        · omega
        have hcells : ∀ (j : Nat) x, (pts xs xs.length)[j]? = some x → wr.cell? ⟨g, 0 + j, none⟩ = some (.string x) := by
          intro j x hx
          have hj : j < xs.length := by
            have := (List.getElem?_eq_some_iff.1 hx).1
            rw [pts_length] at this; exact this
          rw [Nat.zero_add, hown.cellAt j (by omega)]
          exact strs_get _ _ _ hx
        have hsize := HS.out xs.length (Nat.le_refl _)
        have HJ := Lib.hid (Tryd.strings_Join g 0 cap (pts xs xs.length) coS wr hcells (Array.getElem?_eq_some_iff.1 hcur).1 (by rw [pts_length]; omega) (by rw [pts_length]; exact hnc) (by
          rw [← txTo_join]
          have e : (txTo xs xs.length).data.toList.length = (txTo xs xs.length).size := by simp
          omega))
        rw [txTo_mk, pts_length] at HJ
        have HB2 := Lib.hid (HB.out.trans (hb1.mono HB.out.size))
        clear hcells hown hcur hb1
        go_wp2_with fail
        refine HJ.out.mono ?_
        rintro e w5 ⟨rfl, hb5⟩
        go_wp2_with fail
        go_ret
        exact ⟨rfl, HB2.out.trans (hb5.mono HB2.out.size)⟩
end Go.Proofs.YthnejknjngekiaaDoor
