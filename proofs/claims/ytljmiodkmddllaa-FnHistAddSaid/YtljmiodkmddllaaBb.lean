/- Walks: counts of a histogram: both checks; HistAdd of both. -/
import Derived.Test.YtljmiodkmddllaaBa
import Derived.Deep.RegionLaw
import Derived.Deep.AppendLies
import Derived.Lib.SliceRun
set_option linter.unusedVariables false
set_option linter.unusedSimpArgs false
namespace Go.Proofs.Ytljmiodkmddllaa
open Go.RowKit

theorem h_step_append_own {P : Program} (w : World) {ops : Array Oper} {o : Oper} {a : Act} {K : Act → World → Prop} {Q : Exit → Act → World → Prop} {E : Prop} (hgd : o.guard = none) (s x : Operand) (t : TypeId)
    (ho : o.op = .call { callee := .builtin .append, args := #[s, x], argTypes := #[t, t] })
    (base : Nat) (e : TypeId) (i : TypeInfo) (z : Value) (size bytes : Nat) (ht : P.underlying t = some (.slice e)) (hi : P.info? e = some i) (hz : i.zero = some z)
    (hsize : i.size = size) (hby : i.bytes = bytes) (hzs : z.cells.size = size) (hsz : 0 < size)
    (v : Value) (n : Nat) (xs : List Value) (hs : a.eval s = v) (hown : w.ownsRow base e size v n xs)
    (ad : Addr) (m c : Nat) (news : List Value) (hx : a.eval x = .slice (some ad) m c) (hl : news.length = m * size) (hnews : ∀ j u, news[j]? = some u → w.cell? (ad.add j) = some u) (h1 : ∀ u ∈ news, u.oneCell' = true)
    (h63 : n + m ≤ maxLen) (hbytes : (n + m) * bytes ≤ 140737488355328) (hbase : base ≤ w.heap.size)
    (h : ∀ v' w', w'.ownsRow base e size v' (n + m) (xs ++ news) → w.grownBy w' v.ownBlock → K (a.put o.dst v') w') :
    if Region.wanted o (yielded ops a.tmps) = true then Oper.wp P o a w K Q else E := by
  have hw : Region.wanted o (yielded ops a.tmps) = true := by simp [Region.wanted, hgd]
  rw [if_pos hw]
  exact wp_append_own w s x t ho base e i z size bytes ht hi hz hsize hby hzs hsz v n xs hs hown ad m c news hx hl hnews h1 h63 hbytes hbase fun v' w' h2 h3 _ => h v' w' h2 h3

def inH (x : Int) : Bool := vIn x 0 1000000000
def histTo (l : List Int) (k : Nat) : Bool := (l.take k).all inH
def histB (l : List Int) : Bool := histTo l l.length && decide (1 ≤ l.length ∧ l.length ≤ 21)
theorem histTo_succ {l : List Int} {k : Nat} (hk : k < l.length) : histTo l (k + 1) = (histTo l k && inH (l.getD k 0)) := by
  unfold histTo; rw [take_snoc_int hk, List.all_append]; simp
theorem histTo_at {l : List Int} (h : histTo l l.length = true) (j : Nat) (hj : j < l.length) : inH (l.getD j 0) = true := by
  unfold histTo at h
  rw [List.take_length] at h
  refine List.all_eq_true.1 h _ ?_
  rw [List.getD_eq_getElem?_getD, List.getElem?_eq_getElem hj]
  exact List.getElem_mem hj
theorem histTo_of {l : List Int} (h : ∀ j, j < l.length → inH (l.getD j 0) = true) : histTo l l.length = true := by
  unfold histTo
  rw [List.take_length, List.all_eq_true]
  intro x hx
  obtain ⟨i, hi, rfl⟩ := List.getElem_of_mem hx
  have := h i hi
  rwa [List.getD_eq_getElem?_getD, List.getElem?_eq_getElem hi] at this
theorem histB_bad {l : List Int} {k : Nat} (h : inH (l.getD k 0) = false) (hk : k < l.length) : histB l = false := by
  unfold histB
  cases hh : histTo l l.length with
  | false => rfl
  | true => rw [histTo_at hh k hk] at h; cases h
theorem histB_in {l : List Int} (h : histB l = true) (j : Nat) : 0 ≤ l.getD j 0 ∧ l.getD j 0 ≤ 1000000000 := by
  unfold histB at h
  rw [Bool.and_eq_true] at h
  by_cases hj : j < l.length
  · have := histTo_at h.1 j hj
    unfold inH vIn at this
    simpa using this
  · rw [List.getD_eq_getElem?_getD, List.getElem?_eq_none (by omega)]; exact ⟨by simp, by simp⟩
theorem histB_len {l : List Int} (h : histB l = true) : 1 ≤ l.length ∧ l.length ≤ 21 := by
  unfold histB at h
  rw [Bool.and_eq_true] at h
  simpa using h.2
def hAdd (a b : List Int) : List Int := (List.range a.length).map fun i => a.getD i 0 + b.getD i 0
theorem hAdd_length (a b : List Int) : (hAdd a b).length = a.length := by simp [hAdd]
theorem hAdd_getD (a b : List Int) (j : Nat) (hj : j < a.length) : (hAdd a b).getD j 0 = a.getD j 0 + b.getD j 0 := by
  simp [hAdd, List.getD_eq_getElem?_getD, hj]
def haB (a b : List Int) : Bool := histB a && histB b && decide (a.length = b.length) && histB (hAdd a b)
def haM (a b : List Int) : List Int := if haB a b = true then hAdd a b else []
theorem hAdd_rng {a b : List Int} (ha : histB a = true) (hb : histB b = true) (j : Nat) : Rng ((hAdd a b).getD j 0) := by
  by_cases hj : j < a.length
  · rw [hAdd_getD a b j hj]
    have := histB_in ha j
    have := histB_in hb j
    exact ⟨by omega, by omega⟩
  · rw [List.getD_eq_getElem?_getD, List.getElem?_eq_none (by rw [hAdd_length]; omega)]; exact ⟨by simp, by simp⟩
theorem haM_ok (a b : List Int) : (∀ j, Rng ((haM a b).getD j 0)) ∧ (haM a b).length ≤ 1048576 := by
  unfold haM
  split
  · rename_i h
    unfold haB at h
    simp only [Bool.and_eq_true] at h
    exact ⟨hAdd_rng h.1.1.1 h.1.1.2, by rw [hAdd_length]; have := histB_len h.1.1.1; omega⟩
  · exact ⟨fun j => ⟨by simp, by simp⟩, Nat.zero_le _⟩
theorem haM_no {a b : List Int} (h : haB a b = false) : haM a b = [] := by unfold haM; rw [h]; rfl
theorem haM_yes {a b : List Int} (h : haB a b = true) : haM a b = hAdd a b := by unfold haM; rw [if_pos h]

set_option maxRecDepth 100000 in
set_option maxHeartbeats 2000000 in
theorem l16Hist_any (v : Value) (xs : List Int) (w : World) (h : IL w w.heap.size v xs) :
    Calls Try.prog 39 #[v] w fun e w' => e = .returned (.bool (histB xs)) ∧ w = w' := by
  obtain ⟨hr, hlen, A, c, rfl, h3⟩ := h
  clear hr
  go_enter Try.func39, Try.ntmps39
  go_wp2_with fail
  go_loop [3] (fun i => ∃ k : Nat, k ≤ xs.length ∧ i = .int .i64 k ∧ Hid (histTo xs k = true)) (fun i => xs.length - (Go.RowKit.intOf i).toNat)
  case atStart => exact ⟨0, Nat.zero_le _, rfl, Lib.hid (by simp [histTo])⟩
  case round =>
    obtain ⟨k, hk, rfl, Hg⟩ := hrel
    by_cases hlt : k < xs.length
    · rcases h3 with h3 | ⟨b, off, rfl, hbl, hc⟩
      · subst h3; simp at hlt
      have hx : w.cell? ⟨b, off + k, none⟩ = some (.int .i64 (xs.getD k 0)) := hc k hlt
      have hI := Lib.hid (fun W => v_l1In_q (xs.getD k 0) 0 1000000000 W)
      have HS := Lib.hid (histTo_succ hlt)
      have HB := Lib.hid (fun h => histB_bad (l := xs) (k := k) h hlt)
      clear hc
      cases e : inH (xs.getD k 0) with
      | true =>
        have e' : vIn (xs.getD k 0) 0 1000000000 = true := e
        rw [e'] at hI
        have G : Hid (histTo xs (k + 1) = true) := Lib.hid (by rw [HS.out, Hg.out, e]; rfl)
        clear HS HB e e'
        generalize xs.getD k 0 = x at *
        go_wp2_with (go_at_call 42; refine (hI.out _).mono ?_; rintro e w' ⟨rfl, rfl⟩)
        go_round
        case rel => exact ⟨k + 1, by omega, by go_num, G⟩
        case measure => simp [Go.RowKit.intOf]; omega
      | false =>
        have e' : vIn (xs.getD k 0) 0 1000000000 = false := e
        rw [e'] at hI
        have E := Lib.hid (HB.out e)
        clear HS HB e e'
        generalize xs.getD k 0 = x at *
        go_wp2_with (go_at_call 42; refine (hI.out _).mono ?_; rintro e w' ⟨rfl, rfl⟩)
        go_ret
        exact ⟨by rw [E.out]; rfl, rfl⟩
    · obtain rfl : k = xs.length := by omega
      by_cases h1 : 1 ≤ xs.length
      · by_cases h2 : xs.length ≤ 21
        · have E : Hid (histB xs = true) := Lib.hid (by unfold histB; rw [Hg.out, decide_eq_true ⟨h1, h2⟩]; rfl)
          go_wp2_with fail
          go_ret
          exact ⟨by rw [E.out]; first | rfl | (simp; omega), rfl⟩
        · have E : Hid (histB xs = false) := Lib.hid (by unfold histB; rw [Hg.out, decide_eq_false (fun h => h2 h.2)]; rfl)
          go_wp2_with fail
          go_ret
          exact ⟨by rw [E.out]; first | rfl | (simp; omega), rfl⟩
      · have E : Hid (histB xs = false) := Lib.hid (by unfold histB; rw [Hg.out, decide_eq_false (fun h => h1 h.1)]; rfl)
        go_wp2_with fail
        go_ret
        exact ⟨by rw [E.out]; first | rfl | (simp; omega), rfl⟩

set_option maxRecDepth 100000 in
set_option maxHeartbeats 2000000 in
theorem slotsOk_any (v : Value) (xs : List Int) (w : World) (h : IL w w.heap.size v xs) :
    Calls Try.prog 40 #[v] w fun e w' => e = .returned (.bool (histB xs)) ∧ w = w' := by
  obtain ⟨hr, hlen, A, c, rfl, h3⟩ := h
  clear hr
  by_cases h1 : xs.length < 1
  · have E : Hid (histB xs = false) := Lib.hid (by unfold histB; rw [decide_eq_false (fun h => by omega), Bool.and_false])
    rw [E.out]
    go_enter Try.func40, Try.ntmps40
    go_wp2_with fail
    go_ret
    exact ⟨rfl, rfl⟩
  by_cases h2 : 21 < xs.length
  · have E : Hid (histB xs = false) := Lib.hid (by unfold histB; rw [decide_eq_false (fun h => by omega), Bool.and_false])
    rw [E.out]
    go_enter Try.func40, Try.ntmps40
    go_wp2_with fail
    go_ret
    exact ⟨rfl, rfl⟩
  have h21 : 1 ≤ xs.length ∧ xs.length ≤ 21 := ⟨by omega, by omega⟩
  have H21 := Lib.hid h21
  go_enter Try.func40, Try.ntmps40
  go_wp2_with fail
  clear h21
  go_loop [15] (fun i => ∃ k : Nat, k ≤ xs.length ∧ i = .int .i64 k ∧ Hid (histTo xs k = true)) (fun i => xs.length - (Go.RowKit.intOf i).toNat)
  case atStart => exact ⟨0, Nat.zero_le _, rfl, Lib.hid (by simp [histTo])⟩
  case round =>
    obtain ⟨k, hk, rfl, Hg⟩ := hrel
    by_cases hlt : k < xs.length
    · rcases h3 with h3 | ⟨b, off, rfl, hbl, hc⟩
      · subst h3; simp at hlt
      have hx : w.cell? ⟨b, off + k, none⟩ = some (.int .i64 (xs.getD k 0)) := hc k hlt
      have HS := Lib.hid (histTo_succ hlt)
      have HB := Lib.hid (fun h => histB_bad (l := xs) (k := k) h hlt)
      clear hc
      generalize xs.getD k 0 = x at *
      by_cases hx0 : x < 0
      · have E := Lib.hid (HB.out (vIn_false (by omega)))
        clear HS HB
        go_wp2_with fail
        go_ret
        exact ⟨by rw [E.out]; rfl, rfl⟩
      by_cases hx1 : 1000000000 < x
      · have E := Lib.hid (HB.out (vIn_false (by omega)))
        clear HS HB
        go_wp2_with fail
        go_ret
        exact ⟨by rw [E.out]; rfl, rfl⟩
      · have G : Hid (histTo xs (k + 1) = true) := Lib.hid (by rw [HS.out, Hg.out]; unfold inH; rw [vIn_true (by omega) (by omega)]; rfl)
        clear HS HB
        go_wp2_with fail
        go_round
        case rel => exact ⟨k + 1, by omega, by go_num, G⟩
        case measure => simp [Go.RowKit.intOf]; omega
    · obtain rfl : k = xs.length := by omega
      have E : Hid (histB xs = true) := Lib.hid (by unfold histB; rw [Hg.out, decide_eq_true H21.out]; rfl)
      go_wp2_with fail
      go_ret
      exact ⟨by rw [E.out]; rfl, rfl⟩
end Go.Proofs.Ytljmiodkmddllaa
