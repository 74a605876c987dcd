/- Walks: labels in a map. -/
import Derived.Test.YtbgogpfhdfgjeabNd
import Derived.Maps.OwnOps
import Derived.Maps.OwnSet
import Derived.Maps.Views
import Derived.Maps.StringElems
set_option linter.unusedVariables false
set_option linter.unusedSimpArgs false
namespace Go.Proofs.Ytbgogpfhdfgjeab
open Go.RowKit Go.Maps

theorem less_irrefl : ∀ x : List UInt8, Go.Op.bytesLess x x = false
  | [] => rfl
  | a :: x => by
    have hl : ¬ a < a := UInt8.lt_irrefl a
    simp [Go.Op.bytesLess, hl, less_irrefl x]
theorem less_trans : ∀ x y z : List UInt8, Go.Op.bytesLess x y = true → Go.Op.bytesLess y z = true → Go.Op.bytesLess x z = true
  | _, [], _, h, _ => by simp [Go.Op.bytesLess] at h
  | _, _ :: _, [], _, h => by simp [Go.Op.bytesLess] at h
  | [], _ :: _, _ :: _, _, _ => rfl
  | a :: x, b :: y, c :: z, h1, h2 => by
    simp only [Go.Op.bytesLess, Bool.or_eq_true, Bool.and_eq_true, decide_eq_true_eq, beq_iff_eq] at h1 h2 ⊢
    have ih := less_trans x y z
    rcases h1 with h1 | ⟨rfl, h1⟩
    · rcases h2 with h2 | ⟨rfl, h2⟩
      · left; rw [UInt8.lt_iff_toNat_lt] at *; omega
      · exact .inl h1
    · rcases h2 with h2 | ⟨rfl, h2⟩
      · exact .inl h2
      · exact .inr ⟨rfl, ih h1 h2⟩
theorem names_less {xs : List (ByteArray × ByteArray)} {n : Nat} (h : lTo xs n = true) : ∀ j, j < n → ∀ i, i < j → Go.Op.bytesLess (nmAt xs i).toList (nmAt xs j).toList = true := by
  intro j
  induction j with
  | zero => intro _ i hi; omega
  | succ j ih =>
    intro hj i hi
    have hl := lTo_at h hj
    unfold lAt at hl
    simp only [Bool.and_eq_true, Bool.or_eq_true, decide_eq_true_eq] at hl
    have h2 : Go.Op.bytesLess (nmAt xs j).toList (nmAt xs (j + 1)).toList = true := by
      rcases hl.2.2 with h0 | h0
      · omega
      · exact h0
    by_cases e : i = j
    · subst e; exact h2
    · exact less_trans _ _ _ (ih (by omega) i (by omega)) h2
theorem names_ne {xs : List (ByteArray × ByteArray)} {n : Nat} (h : lTo xs n = true) {i j : Nat} (hi : i < n) (hj : j < n) (e : nmAt xs i = nmAt xs j) : i = j := by
  rcases Nat.lt_trichotomy i j with hlt | he | hlt
  · have := names_less h j hj i hlt; rw [e, less_irrefl] at this; cases this
  · exact he
  · have := names_less h i hi j hlt; rw [e, less_irrefl] at this; cases this
/-- the value under a name, of the first k labels -/
def lkV (xs : List (ByteArray × ByteArray)) (nm : ByteArray) : Nat → ByteArray
  | 0 => em
  | k + 1 => if nmAt xs k = nm then vlAt xs k else lkV xs nm k
theorem lkV_hit {xs : List (ByteArray × ByteArray)} {n : Nat} (h : lTo xs n = true) {nm : ByteArray} {j : Nat} (e : nmAt xs j = nm) : ∀ k, k ≤ n → j < k → lkV xs nm k = vlAt xs j := by
  intro k
  induction k with
  | zero => intro _ hj; omega
  | succ k ih =>
    intro hk hj
    rw [lkV]
    by_cases e2 : nmAt xs k = nm
    · rw [if_pos e2]
      have := names_ne h (show k < n by omega) (show j < n by omega) (e2.trans e.symm)
      rw [this]
    · rw [if_neg e2]
      by_cases e3 : j = k
      · subst e3; exact absurd e e2
      · exact ih (by omega) (by omega)
theorem lkV_miss {xs : List (ByteArray × ByteArray)} {nm : ByteArray} : ∀ k, (∀ j, j < k → ¬ nmAt xs j = nm) → lkV xs nm k = em := by
  intro k
  induction k with
  | zero => intro _; rfl
  | succ k ih =>
    intro h
    rw [lkV, if_neg (h k (by omega))]
    exact ih fun j hj => h j (by omega)

abbrev DU := DataW Unit
def keyL (s : ByteArray) : Lit := .string s.data.toList
/-- the map of the first k labels -/
def mpTo (xs : List (ByteArray × ByteArray)) : Nat → DU
  | 0 => .map []
  | k + 1 => (mpTo xs k).put (keyL (nmAt xs k)) (.lit (keyL (vlAt xs k)))
theorem mpTo_map (xs : List (ByteArray × ByteArray)) : ∀ k, IsMap (mpTo xs k)
  | 0 => isMap_empty
  | k + 1 => (mpTo_map xs k).put _ _
theorem keyL_inj {a b : ByteArray} (h : keyL a = keyL b) : a = b := by
  injection h with h
  cases a; cases b
  congr
  exact Array.toList_inj.1 h
theorem keyL_isKey (a : ByteArray) : WideAt.IsKeyLit (keyL a) := by first | trivial | exact ⟨_, rfl⟩ | (unfold WideAt.IsKeyLit keyL; simp)
theorem mpTo_at (xs : List (ByteArray × ByteArray)) (nm : ByteArray) : ∀ k, (mpTo xs k).atKey (keyL nm) (.lit (keyL em)) = .lit (keyL (lkV xs nm k))
  | 0 => rfl
  | k + 1 => by
    rw [mpTo, lkV]
    by_cases e : nmAt xs k = nm
    · rw [if_pos e, e, atKey_put_same (mpTo_map xs k) (keyL_isKey _)]
    · rw [if_neg e, atKey_put_other (fun h => e (keyL_inj h).symm)]
      exact mpTo_at xs nm k

theorem lawS : Keyed Try.prog 9 := string_keyed Try.underlying9
theorem zeroS (w : World) : (zeroValue 9).run Try.prog w = .ok (.string em) w := by kernel_rfl
/-- a look-up by the map's own law, at strings -/
theorem wpList_lookup_own_str {P : Program} (w : World) {ops : Array Oper} {rest : List Oper} {o : Oper} {a : Act} {Q : Exit → Act → World → Prop}
    (hg : o.guard = none) (m x : Operand) (t : TypeId) (hop : o.op = Op.lookup t m x false)
    (k e : TypeId) (K : Keyed P k) (ht : P.underlying t = some (.map k e)) (he : P.underlying e = some .string) (hz : (zeroValue e).run P w = .ok (.string em) w) (b n : Nat) (D : DU)
    (hm : a.eval m = .map (some b)) (hown : w.ownsMap P k (plainElem P e) b n D) (key : Value) (kl : Lit) (hx : a.eval x = key) (hkey : keyOf P k key = some kl)
    (hK : ∀ c : ByteArray, D.atKey kl (.lit (keyL em)) = .lit (keyL c) → wpList P ops Q rest (a.put o.dst (.string c)) w) :
    wpList P ops Q (o :: rest) a w := by
  refine wpList_plain hg fun K' hK' => ?_
  obtain ⟨v, ps, hrun, hv⟩ := hown.lookup K ht hz (plainElem_string he (Nat.zero_le _)) hkey
  obtain ⟨c, rfl, hc, hwc⟩ := plainElem_string_inv he hv
  simp only [Prod.mk.injEq] at hc
  unfold Oper.wp
  simp [execOp, hop, hm, hx, hrun, Result.andThen]
  exact hK' _ _ (hK c hc.1)

set_option maxRecDepth 100000 in
set_option maxHeartbeats 1000000 in
theorem mapOf_any (v : Value) (xs : List (ByteArray × ByteArray)) (w : World) (h : LL w w.heap.size v xs) :
    Calls Try.prog 36 #[v] w fun e w' => e = .returned (.map (some w.heap.size)) ∧ w'.ownsMap Try.prog 9 (plainElem (H := Unit) Try.prog 9) w.heap.size xs.length (mpTo xs xs.length) ∧ Below w.heap.size w w' := by
  obtain ⟨hr, hlen, A, c, rfl, h3⟩ := h
  have Hr := Lib.hid hr
  clear hr
  have hmm := @run_makeMap Try.prog
  go_enter Try.func36, Try.ntmps36
  go_wp2_with fail
  go_loopw [9] (fun i wr => ∃ k : Nat, k ≤ xs.length ∧ i = .int .i64 k ∧ wr.ownsMap Try.prog 9 (plainElem (H := Unit) Try.prog 9) w.heap.size k (mpTo xs k) ∧ Below w.heap.size w wr)
    (fun i _ => xs.length - (intOf i).toNat)
  case atStart => exact ⟨0, Nat.zero_le _, rfl, World.ownsMap_made _ _ _ _, (Below.refl _ _).alloc (Nat.le_refl _) _⟩
  case round =>
    obtain ⟨k, hk, rfl, hown, hb⟩ := hrel
    have hsz := hb.size
    by_cases hlt : k < xs.length
    · rcases h3 with h3 | ⟨b, off, rfl, hbl, hc⟩
      · subst h3; simp at hlt
      have hx0 : wr.cell? ⟨b, off + k * 2, none⟩ = some (.string (nmAt xs k)) := (hb.cell (p := ⟨b, off + k * 2, none⟩) hbl).trans (hc k hlt).1
      have hx1 : wr.cell? ⟨b, off + k * 2 + 1, none⟩ = some (.string (vlAt xs k)) := (hb.cell (p := ⟨b, off + k * 2 + 1, none⟩) hbl).trans (hc k hlt).2
      have hkey : keyOf Try.prog 9 (.string (nmAt xs k)) = some (keyL (nmAt xs k)) := WideMaps.keyOf_string_mk Try.underlying9 (Hr.out k).1
      have hval : plainElem (H := Unit) Try.prog 9 (.string (vlAt xs k)) = some (.lit (keyL (vlAt xs k)), []) := plainElem_string Try.underlying9 (Hr.out k).2
      have hn : Hid ((mpTo xs k).put (keyL (nmAt xs k)) (.lit (keyL (vlAt xs k))) = mpTo xs (k + 1)) := rfl
      generalize nmAt xs k = nm at *
      generalize vlAt xs k = vl at *
      have hown1 := hown.alloc (.cells #[.string nm, .string vl] 45)
      have hb1 := hb.alloc hsz (.cells #[.string nm, .string vl] 45)
      clear hc
      go_wp2_with (at_mapUpdate; refine wpList_mapUpdate_own _ rfl _ _ _ 57 rfl 9 9 lawS Try.underlying57 _ w.heap.size k _ rfl hown1 (by unfold maxLen; omega) _ _ _ rfl rfl hkey _ [] hval ?_)
      intro w4 hown4 hgrow4
      rw [hn.out] at hown4
      have hb4 := hb1.grown hgrow4 hb1.size (fun j hj => by cases hj; exact Nat.le_refl _)
      clear hown hown1 hb hb1 hgrow4
      go_wp2_with fail
      go_roundw
      case rel => exact ⟨k + 1, by omega, by go_num, hown4, hb4⟩
      case measure => simp [intOf]; omega
    · obtain rfl : k = xs.length := by omega
      go_wp2_with fail
      go_ret
      exact ⟨rfl, hown, hb⟩

set_option maxRecDepth 100000 in
set_option maxHeartbeats 1000000 in
theorem l6Val_any (v : Value) (xs : List (ByteArray × ByteArray)) (nm : ByteArray) (w : World) (h : LL w w.heap.size v xs) (hl : lTo xs xs.length = true) :
    Calls Try.prog 34 #[v, .string nm] w fun e w' => e = .returned (.string (lkV xs nm xs.length)) ∧ w' = w := by
  obtain ⟨hr, hlen, A, c, rfl, h3⟩ := h
  clear hr
  have HH := Lib.hid (fun j (e : nmAt xs j = nm) (hj : j < xs.length) => lkV_hit hl e xs.length (Nat.le_refl _) hj)
  have HM := Lib.hid (lkV_miss (xs := xs) (nm := nm) xs.length)
  clear hl
  go_enter Try.func34, Try.ntmps34
  go_wp2_with fail
  go_loop [5] (fun i => ∃ k : Nat, k ≤ xs.length ∧ i = .int .i64 k ∧ ∀ j, j < k → ¬ nmAt xs j = nm) (fun i => xs.length - (intOf i).toNat)
  case atStart => exact ⟨0, Nat.zero_le _, rfl, fun j hj => by omega⟩
  case round =>
    obtain ⟨k, hk, rfl, hno⟩ := hrel
    have Hno := Lib.hid hno
    clear hno
    by_cases hlt : k < xs.length
    · rcases h3 with h3 | ⟨b, off, rfl, hbl, hc⟩
      · subst h3; simp at hlt
      have hx0 : w.cell? ⟨b, off + k * 2, none⟩ = some (.string (nmAt xs k)) := (hc k hlt).1
      have hx1 : w.cell? ⟨b, off + k * 2 + 1, none⟩ = some (.string (vlAt xs k)) := (hc k hlt).2
      by_cases e : nmAt xs k = nm
      · have E := Lib.hid (HH.out k e hlt)
        have heq : ((nmAt xs k).toList == nm.toList) = true := by rw [e]; simp
        generalize nmAt xs k = nm2 at *
        generalize vlAt xs k = vl at *
        clear hc e
        go_wp2_with fail
        go_ret
        exact ⟨by rw [E.out]; rfl, rfl⟩
      · have heq := str_ne e
        have E := Lib.hid e
        have HX : Hid (nmAt xs k = nmAt xs k) := rfl
        obtain ⟨nm2, hnm2⟩ : ∃ x, nmAt xs k = x := ⟨_, rfl⟩
        rw [hnm2] at heq hx0
        clear hc e hnm2
        go_wp2_with fail
        go_round
        case rel =>
          refine ⟨k + 1, by omega, by go_num, fun j hj => ?_⟩
          by_cases e : j = k
          · subst e; exact E.out
          · exact Hno.out j (by omega)
        case measure => simp [intOf]; omega
    · obtain rfl : k = xs.length := by omega
      have E := Lib.hid (HM.out Hno.out)
      go_wp2_with fail
      go_ret
      exact ⟨by rw [E.out]; rfl, rfl⟩
end Go.Proofs.Ytbgogpfhdfgjeab
