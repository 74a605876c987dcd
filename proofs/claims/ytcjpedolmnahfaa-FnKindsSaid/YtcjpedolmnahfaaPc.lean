/- Walks: cascades: the marks of levels and cascades. -/
import Derived.Test.YtcjpedolmnahfaaPa
set_option linter.unusedVariables false
set_option linter.unusedSimpArgs false
namespace Go.Proofs.Ytcjpedolmnahfaa
open Go.RowKit

/-- the levels' row, and each level's rolls, all apart -/
structure LD (W : World) (base top : Nat) (v : Value) (ls : List Lv) (es : List LvC) : Prop where
  len : es.length = ls.length
  row : ORow W base top 51 3 v ls.length (lvs es)
  lv : ∀ j, j < ls.length → (es.getD j zLc).1 = (ls.getD j zLv).1 ∧ (es.getD j zLc).2.1 = (ls.getD j zLv).2.1 ∧ ORow W base top 48 6 (es.getD j zLc).2.2 (ls.getD j zLv).2.2.length (rls (ls.getD j zLv).2.2)
  apart : ∀ j g, j < ls.length → obk (es.getD j zLc).2.2 (ls.getD j zLv).2.2.length = some g → ¬ v.ownBlock = some g
  dist : ∀ i j g, i < j → j < ls.length → obk (es.getD i zLc).2.2 (ls.getD i zLv).2.2.length = some g → ¬ obk (es.getD j zLc).2.2 (ls.getD j zLv).2.2.length = some g
/-- the blocks of levels -/
def LBk (v : Value) (ls : List Lv) (es : List LvC) (b : Nat) : Prop := obk v ls.length = some b ∨ ∃ j, j < ls.length ∧ obk (es.getD j zLc).2.2 (ls.getD j zLv).2.2.length = some b
theorem LD.at_ {W W' : World} {base top : Nat} {v : Value} {ls : List Lv} {es : List LvC} (h : LD W base top v ls es) (hb : ∀ g, LBk v ls es g → W'.heap[g]? = W.heap[g]?) : LD W' base top v ls es :=
  ⟨h.len, h.row.at_ (fun g hg => hb g (.inl hg)), fun j hj => ⟨(h.lv j hj).1, (h.lv j hj).2.1, (h.lv j hj).2.2.at_ (fun g hg => hb g (.inr ⟨j, hj, hg⟩))⟩, h.apart, h.dist⟩
theorem LD.lt {W : World} {base top : Nat} {v : Value} {ls : List Lv} {es : List LvC} (h : LD W base top v ls es) {g : Nat} (hg : LBk v ls es g) : base ≤ g ∧ g < top ∧ g < W.heap.size := by
  rcases hg with hg | ⟨j, hj, hg⟩
  · exact h.row.lt hg
  · exact (h.lv j hj).2.2.lt hg
theorem LD.below {W W' : World} {base top : Nat} {v : Value} {ls : List Lv} {es : List LvC} (h : LD W base top v ls es) (hb : Below W.heap.size W W') : LD W' base top v ls es :=
  h.at_ (fun g hg => hb.block g (h.lt hg).2.2)
theorem LD.chg {S : Nat → Prop} {W W' : World} {base top : Nat} {v : Value} {ls : List Lv} {es : List LvC} (h : LD W base top v ls es) (hc : Chg S W W') (hs : ∀ g, LBk v ls es g → ¬ S g) : LD W' base top v ls es :=
  h.at_ (fun g hg => hc.block g (h.lt hg).2.2 (hs g hg))
theorem LD.lift {W : World} {base base' top top' : Nat} {v : Value} {ls : List Lv} {es : List LvC} (h : LD W base top v ls es) (hb : base' ≤ base) (ht : top ≤ top') : LD W base' top' v ls es :=
  ⟨h.len, h.row.lift hb ht, fun j hj => ⟨(h.lv j hj).1, (h.lv j hj).2.1, (h.lv j hj).2.2.lift hb ht⟩, h.apart, h.dist⟩
theorem ORow.rl {W : World} {base top : Nat} {v : Value} {xs : List R6} (h : ORow W base top 48 6 v xs.length (rls xs)) (hr : ∀ j, Rng6 (xs.getD j z6)) (hl : xs.length ≤ 1048576) : RL W W.heap.size v xs := by
  rcases h with ⟨h, _⟩ | ⟨h0, _, A, c, rfl⟩
  · exact RL.of_own h rfl hr hl
  · obtain rfl := List.eq_nil_of_length_eq_zero h0
    exact ⟨hr, hl, A, c, rfl, .inl rfl⟩
theorem ORow.pl {W : World} {base top : Nat} {v : Value} {xs : List (Int × Int)} (h : ORow W base top 43 2 v xs.length (prs xs)) (hr : ∀ j, Rng (xs.getD j (0, 0)).1 ∧ Rng (xs.getD j (0, 0)).2) (hl : xs.length ≤ 1048576) : PL W W.heap.size v xs := by
  rcases h with ⟨h, _⟩ | ⟨h0, _, A, c, rfl⟩
  · exact PL.of_own h rfl hr hl
  · obtain rfl := List.eq_nil_of_length_eq_zero h0
    exact ⟨hr, hl, A, c, rfl, .inl rfl⟩
theorem LD.ls {W : World} {base top : Nat} {v : Value} {ls : List Lv} {es : List LvC} (h : LD W base top v ls es) (hr : ∀ j, Rng (ls.getD j zLv).1 ∧ Rng (ls.getD j zLv).2.1) (hl : ls.length ≤ 1048576) (hrr : ∀ j, j < ls.length → (∀ i, Rng6 ((ls.getD j zLv).2.2.getD i z6)) ∧ (ls.getD j zLv).2.2.length ≤ 1048576) : LS W W.heap.size v ls := by
  obtain ⟨h1, h2, h3, _, _⟩ := h
  obtain ⟨A, c, rfl⟩ := h2.shape
  refine ⟨hr, hl, A, c, rfl, ?_⟩
  by_cases hn : ls.length = 0
  · exact .inl (List.eq_nil_of_length_eq_zero hn)
  rcases h2 with ⟨h2, _⟩ | ⟨h0, _⟩
  · rcases h2.2 with ⟨_, h0⟩ | ⟨g, cap, cur, he, hb, hg, _⟩
    · exact absurd h0 hn
    · obtain ⟨rfl, rfl⟩ : A = some ⟨g, 0, none⟩ ∧ c = cap := by injection he with e1 e2 e3; exact ⟨e1, e3⟩
      refine .inr ⟨g, 0, rfl, (Array.getElem?_eq_some_iff.1 hg).1, fun j hj => ?_⟩
      obtain ⟨e1, e2, e3⟩ := h3 j hj
      refine ⟨?_, ?_, (es.getD j zLc).2.2, ?_, e3.rl (hrr j hj).1 (hrr j hj).2⟩
      · rw [Nat.zero_add, h2.cellAt (j * 3) (by omega), ← e1]; exact lvs_get0 _ _ (by omega)
      · rw [Nat.zero_add, h2.cellAt (j * 3 + 1) (by omega), ← e2]; exact lvs_get1 _ _ (by omega)
      · rw [Nat.zero_add, h2.cellAt (j * 3 + 2) (by omega)]; exact lvs_get2 _ _ (by omega)
  · exact absurd h0 hn

def totL : List Lv → Int
  | [] => 0
  | x :: ls => 2 + 6 * (x.2.2.length : Int) + totL ls
def mkL : Int → List Lv → List Lv
  | _, [] => []
  | K, x :: ls => (K, K + 1, marks6 (K + 2) x.2.2.length) :: mkL (K + 2 + 6 * (x.2.2.length : Int)) ls
theorem mkL_length : ∀ (ls : List Lv) (K : Int), (mkL K ls).length = ls.length
  | [], _ => rfl
  | x :: ls, K => by simp [mkL, mkL_length ls]
theorem totL_nonneg : ∀ ls : List Lv, 0 ≤ totL ls
  | [] => by simp [totL]
  | x :: ls => by have := totL_nonneg ls; unfold totL; omega
theorem totL_succ : ∀ (ls : List Lv) (j : Nat), j < ls.length → totL (ls.take (j + 1)) = totL (ls.take j) + 2 + 6 * ((ls.getD j zLv).2.2.length : Int)
  | x :: ls, 0, _ => by simp [totL]
  | x :: ls, j + 1, h => by
    have := totL_succ ls j (by simpa using h)
    simp only [List.take_succ_cons, totL, List.getD_cons_succ] at this ⊢
    omega
theorem totL_take_le : ∀ (ls : List Lv) (j : Nat), totL (ls.take j) ≤ totL ls
  | [], j => by simp
  | x :: ls, 0 => by have := totL_nonneg (x :: ls); simpa [totL] using this
  | x :: ls, j + 1 => by have := totL_take_le ls j; simp only [List.take_succ_cons, totL]; omega
theorem mkL_getD : ∀ (ls : List Lv) (K : Int) (j : Nat), j < ls.length → (mkL K ls).getD j zLv = (K + totL (ls.take j), K + totL (ls.take j) + 1, marks6 (K + totL (ls.take j) + 2) (ls.getD j zLv).2.2.length)
  | x :: ls, K, 0, _ => by simp [mkL, totL]
  | x :: ls, K, j + 1, h => by
    have := mkL_getD ls (K + 2 + 6 * (x.2.2.length : Int)) j (by simpa using h)
    simp only [mkL, List.getD_cons_succ, List.take_succ_cons, totL]
    rw [this]
    have e : K + 2 + 6 * (x.2.2.length : Int) + totL (ls.take j) = K + (2 + 6 * (x.2.2.length : Int) + totL (ls.take j)) := by omega
    rw [e]
theorem getD_set_lw (l : List Lv) (k j : Nat) (x : Lv) (h : k < l.length) : (l.set k x).getD j zLv = if j = k then x else l.getD j zLv := by
  rw [List.getD_eq_getElem?_getD, List.getD_eq_getElem?_getD, List.getElem?_set]
  by_cases e : k = j
  · subst e; simp [h]
  · rw [if_neg e, if_neg (fun h => e h.symm)]
theorem lw_ext {xs ys : List Lv} (hl : xs.length = ys.length) (h : ∀ j, j < xs.length → xs.getD j zLv = ys.getD j zLv) : xs = ys := by
  apply List.ext_getElem hl
  intro j h1 h2
  have := h j h1
  rw [List.getD_eq_getElem?_getD, List.getElem?_eq_getElem h1, List.getD_eq_getElem?_getD, List.getElem?_eq_getElem h2] at this
  exact this

theorem lvs_set2 : ∀ (xs : List LvC) (k : Nat) (a b : Int), k < xs.length → ((lvs xs).set (k * 3) (.int .i64 a)).set (k * 3 + 1) (.int .i64 b) = lvs (xs.set k (a, b, (xs.getD k zLc).2.2))
  | p :: xs, 0, a, b, _ => rfl
  | p :: xs, k + 1, a, b, h => by
    rw [lvs_cons, show (k + 1) * 3 = k * 3 + 1 + 1 + 1 by omega]
    simp only [List.set_cons_succ]
    rw [lvs_set2 xs k a b (by simpa using h)]; rfl
theorem LBk.same {v : Value} {ls l : List Lv} {es fs : List LvC} (hl : l.length = ls.length) (h : ∀ j, j < ls.length → (l.getD j zLv).2.2.length = (ls.getD j zLv).2.2.length ∧ (fs.getD j zLc).2.2 = (es.getD j zLc).2.2) {b : Nat} (hb : LBk v l fs b) : LBk v ls es b := by
  rcases hb with hb | ⟨j, hj, hb⟩
  · left; rw [← hl]; exact hb
  · right; refine ⟨j, by omega, ?_⟩
    rw [← (h j (by omega)).1, ← (h j (by omega)).2]; exact hb
theorem LD.mark {wr w2 w3 : World} {base top g n cap k : Nat} {l : List Lv} {fs : List LvC} {qq : Int}
    (h : LD wr base top (.slice (some ⟨g, 0, none⟩) n cap) l fs) (hn : l.length = n) (hk : k < n)
    (hw2 : (wr.setCell ⟨g, k * 3, none⟩ (.int .i64 qq)).setCell ⟨g, k * 3 + 1, none⟩ (.int .i64 (qq + 1)) = w2)
    (hrow : ORow w3 base top 48 6 (fs.getD k zLc).2.2 (l.getD k zLv).2.2.length (rls (marks6 (qq + 1 + 1) (l.getD k zLv).2.2.length)))
    (hc : Chg (fun b => obk (fs.getD k zLc).2.2 (l.getD k zLv).2.2.length = some b) w2 w3) :
    LD w3 base top (.slice (some ⟨g, 0, none⟩) n cap) (l.set k (qq, qq + 1, marks6 (qq + 1 + 1) (l.getD k zLv).2.2.length)) (fs.set k (qq, qq + 1, (fs.getD k zLc).2.2)) ∧ Chg (LBk (.slice (some ⟨g, 0, none⟩) n cap) l fs) wr w3 := by
  have hlf := h.len
  have hes : ∀ j, ((fs.set k (qq, qq + 1, (fs.getD k zLc).2.2)).getD j zLc).2.2 = (fs.getD j zLc).2.2 := fun j => by
    rw [getD_set_lv _ _ _ _ (by omega)]
    by_cases e : j = k
    · subst e; rw [if_pos rfl]
    · rw [if_neg e]
  have hls : ∀ j, ((l.set k (qq, qq + 1, marks6 (qq + 1 + 1) (l.getD k zLv).2.2.length)).getD j zLv).2.2.length = (l.getD j zLv).2.2.length := fun j => by
    rw [getD_set_lw _ _ _ _ (by omega)]
    by_cases e : j = k
    · subst e; rw [if_pos rfl]; exact marks6_length _ _
    · rw [if_neg e]
  have hob : ∀ j, j < l.length → ¬ obk (fs.getD j zLc).2.2 (l.getD j zLv).2.2.length = some g := fun j hj he => h.apart j g hj he rfl
  have hg2 : wr.grownBy w2 (some g) := by rw [← hw2]; exact grown_set (grown_set (World.grownBy.refl wr (some g)) _ _) _ _
  have hrow' : w2.ownsRow base 51 3 (.slice (some ⟨g, 0, none⟩) n cap) n (lvs (fs.set k (qq, qq + 1, (fs.getD k zLc).2.2))) ∧ ∀ x, (Value.slice (some ⟨g, 0, none⟩) n cap).ownBlock = some x → x < top := by
    rcases h.row with ⟨ho, ht⟩ | ⟨h0, _⟩
    · rw [hn] at ho
      refine ⟨?_, ht⟩
      have s0 := ho.stored (k * 3) (.int .i64 qq)
      have s1 := s0.1.stored (k * 3 + 1) (.int .i64 (qq + 1))
      rw [lvs_set2 fs k _ _ (by omega)] at s1
      rw [← hw2]; exact s1.1
    · omega
  have hrow3 : ORow w3 base top 51 3 (.slice (some ⟨g, 0, none⟩) n cap) n (lvs (fs.set k (qq, qq + 1, (fs.getD k zLc).2.2))) := by
    refine ORow.at_ (W := w2) (.inl hrow') (fun x hx => ?_)
    obtain rfl : g = x := by rw [obk_pos (by omega)] at hx; injection hx
    exact hc.block g (hrow'.1.lt g rfl).2 (hob k (by omega))
  refine ⟨⟨by simpa using hlf, by simpa [hn] using hrow3, fun j hj => ?_, fun j x hj he => ?_, fun i j x hij hj he => ?_⟩, ?_⟩
  · have hj' : j < l.length := by simpa using hj
    by_cases e : j = k
    · subst e
      rw [hes, hls, getD_set_lv _ _ _ _ (by omega), getD_set_lw _ _ _ _ (by omega), if_pos rfl, if_pos rfl]
      exact ⟨rfl, rfl, hrow⟩
    · rw [getD_set_lv _ _ _ _ (by omega), getD_set_lw _ _ _ _ (by omega), if_neg e, if_neg e]
      have h0 := h.lv j hj'
      refine ⟨h0.1, h0.2.1, h0.2.2.at_ (fun x hx => ?_)⟩
      have hlt := (h0.2.2.lt hx).2.2
      have hxg : x ≠ g := by rintro rfl; exact hob j hj' hx
      rw [hc.block x (Nat.lt_of_lt_of_le hlt hg2.size) ?_]
      · exact hg2.block x hlt (by intro he; injection he with he; exact hxg he)
      · intro hk'
        rcases Nat.lt_or_ge j k with hjk | hjk
        · exact h.dist j k x hjk (by omega) hx hk'
        · exact h.dist k j x (by omega) hj' hk' hx
  · rw [hes, hls] at he
    exact h.apart j x (by simpa using hj) he
  · rw [hes, hls] at he
    rw [hes, hls]
    exact h.dist i j x hij (by simpa using hj) he
  · refine (Chg.grown hg2 (fun x hx => .inl ?_)).trans (hc.mono (fun x hx => .inr ⟨k, by omega, hx⟩))
    rw [obk_pos (by omega), ← hx]; rfl

def MarkPL (base top : Nat) (v : Value) (ls : List Lv) (es : List LvC) (K : Int) (w : World) (e : Ending) (w' : World) : Prop :=
  e = .returned (.int .i64 (K + totL ls)) ∧ (∃ es', LD w' base top v (mkL K ls) es' ∧ ∀ j, j < ls.length → (es'.getD j zLc).2.2 = (es.getD j zLc).2.2) ∧ Chg (LBk v ls es) w w'

set_option maxRecDepth 100000 in
set_option maxHeartbeats 8000000 in
theorem markLevelS_any (base top : Nat) (v : Value) (K : Int) (ls : List Lv) (es : List LvC) (w : World) (hK : 0 ≤ K) (hK2 : K + totL ls ≤ 100000000000000) (hl : ls.length ≤ 1048576) (hrl : ∀ j, j < ls.length → (ls.getD j zLv).2.2.length ≤ 1048576) (h : LD w base top v ls es) :
    Calls Try.prog 93 #[v, .int .i64 K] w (MarkPL base top v ls es K w) := by
  obtain ⟨A, cap, rfl⟩ := h.row.shape
  obtain ⟨n, hn⟩ : ∃ n, n = ls.length := ⟨_, rfl⟩
  have Hn := Lib.hid hn
  have HT := Lib.hid hK2
  have HRL := Lib.hid hrl
  rw [← hn] at hl h ⊢
  have HD := Lib.hid h
  clear hn hK2 hrl h
  have hmr := Lib.hid (fun v K xs w hK hK2 hl h => markRollO_any base top v K xs w hK hK2 hl h)
  go_enter Try.func93, Try.ntmps93
  go_wp2_with fail
  go_loopw [5, 1] (fun i q wr => ∃ (k : Nat) (qq : Int) (l : List Lv) (fs : List LvC), k ≤ n ∧ i = .int .i64 k ∧ q = .int .i64 qq ∧ Hid (qq = K + totL (ls.take k)) ∧ Hid (l.length = n ∧ (∀ j : Nat, j < k → l.getD j zLv = (mkL K ls).getD j zLv) ∧ (∀ j : Nat, k ≤ j → l.getD j zLv = ls.getD j zLv) ∧ (∀ j : Nat, j < n → (fs.getD j zLc).2.2 = (es.getD j zLc).2.2)) ∧
      Hid (LD wr base top (.slice A n cap) l fs) ∧ Hid (Chg (LBk (.slice A n cap) ls es) w wr))
      (fun i _ _ => n - (intOf i).toNat)
  case atStart => exact ⟨0, K, ls, es, Nat.zero_le _, rfl, rfl, Lib.hid (by simp [totL]), Lib.hid ⟨Hn.out.symm, fun j hj => by omega, fun j hj => rfl, fun j hj => rfl⟩, Lib.hid HD.out, Lib.hid (Chg.refl _ _)⟩
  case round =>
    obtain ⟨k, qq, l, fs, hk, rfl, rfl, HQ, HA, HL, HC⟩ := hrel
    by_cases hlt : k < n
    · obtain ⟨hll, hA1, hA2, hA3⟩ := HA.out
      have hls := Hn.out
      have hlk := hA2 k (Nat.le_refl _)
      have hq0 : 0 ≤ qq ∧ qq + 2 + 6 * ((ls.getD k zLv).2.2.length : Int) ≤ 100000000000000 := by
        have h1 := HQ.out; have h2 := totL_nonneg (ls.take k); have h3 := HT.out
        have h4 := totL_take_le ls (k + 1); rw [totL_succ ls k (by omega)] at h4
        omega
      have hk6 := HRL.out k (by omega)
      have hob : ∃ g, A = some ⟨g, 0, none⟩ ∧ wr.ownsRow base 51 3 (.slice (some ⟨g, 0, none⟩) n cap) n (lvs fs) := by
        rcases HL.out.row with ⟨ho, _⟩ | ⟨h0, _⟩
        · rw [hll] at ho
          rcases ho.2 with ⟨_, h0⟩ | ⟨g, cap', cur, he, _⟩
          · omega
          · injection he with e1 e2 e3
            subst e1
            exact ⟨g, rfl, ho⟩
        · omega
      obtain ⟨g, rfl, hown⟩ := hob
      have hfl := HL.out.len
      have c0 : wr.cell? ⟨g, k * 3, none⟩ = some (.int .i64 (fs.getD k zLc).1) := by
        rw [hown.cellAt _ (by omega)]; exact lvs_get0 _ _ (by omega)
      have c1 : wr.cell? ⟨g, k * 3 + 1, none⟩ = some (.int .i64 (fs.getD k zLc).2.1) := by
        rw [hown.cellAt _ (by omega)]; exact lvs_get1 _ _ (by omega)
      have f0 : wr.frozen? ⟨g, k * 3, none⟩ = false := hown.frozenAt _
      have f1 : wr.frozen? ⟨g, k * 3 + 1, none⟩ = false := hown.frozenAt _
      have s0 := hown.stored (k * 3) (.int .i64 qq)
      have s1 := s0.1.stored (k * 3 + 1) (.int .i64 (qq + 1))
      rw [lvs_set2 fs k _ _ (by omega)] at s1
      have x2 : ((wr.setCell ⟨g, k * 3, none⟩ (.int .i64 qq)).setCell ⟨g, k * 3 + 1, none⟩ (.int .i64 (qq + 1))).cell? ⟨g, k * 3 + 2, none⟩ = some (fs.getD k zLc).2.2 := by
        rw [s1.1.cellAt _ (by omega), lvs_get2 _ _ (by simp; omega), getD_set_lv _ _ _ _ (by omega), if_pos rfl]
      obtain ⟨w2, hw2⟩ : ∃ w2, (wr.setCell ⟨g, k * 3, none⟩ (.int .i64 qq)).setCell ⟨g, k * 3 + 1, none⟩ (.int .i64 (qq + 1)) = w2 := ⟨_, rfl⟩
      have hr0 := (HL.out.lv k (by omega)).2.2
      have hr2 : ORow w2 base top 48 6 (fs.getD k zLc).2.2 (ls.getD k zLv).2.2.length (rls (ls.getD k zLv).2.2) := by
        rw [← hlk]
        refine hr0.at_ (fun x hx => ?_)
        have hxg : x ≠ g := by rintro rfl; exact HL.out.apart k x (by omega) hx rfl
        rw [← hw2]
        exact (grown_set (grown_set (World.grownBy.refl wr (some g)) _ _) _ _).block x (hr0.lt hx).2.2 (by intro he; injection he with he; exact hxg he)
      obtain ⟨ra, rc, hrv⟩ := hr2.shape
      have HM := Lib.hid (fun w3 h1 h2 => LD.mark (w3 := w3) (qq := qq) HL.out hll hlt hw2 h1 h2)
      rw [hlk, hrv] at HM
      rw [hrv] at hr2 x2
      have hcal := Lib.hid (hmr.out _ (qq + 1 + 1) _ w2 (by omega) (by omega) hk6 hr2)
      have HW2 := Lib.hid hw2
      have HFS := Lib.hid hrv
      have HLK := Lib.hid hlk
      clear s0 s1 hr0 hr2 hown hw2 hA1 hA2 hA3 hrv hlk
      generalize (fs.getD k zLc).1 = o0 at c0
      generalize (fs.getD k zLc).2.1 = o1 at c1
      obtain ⟨rn, hrn⟩ : ∃ rn, (ls.getD k zLv).2.2.length = rn := ⟨_, rfl⟩
      have HRN := Lib.hid hrn
      rw [hrn] at hq0 hk6 x2 hcal
      clear hrn hls hll hfl
      go_wp2_with fail
      rw [HW2.out]
      refine hcal.out.mono ?_
      rintro e w3 ⟨rfl, hrow3, hchg3⟩
      have HN := Lib.hid (HM.out w3 (by rw [HRN.out]; exact hrow3) (by rw [HRN.out]; exact hchg3))
      clear hrow3 hchg3 HM c0 c1 f0 f1 x2 hcal
      go_wp2_with fail
      go_roundw
      case rel =>
        refine ⟨k + 1, qq + 1 + 1 + 6 * (rn : Int), _, _, by omega, by go_num, by go_num, Lib.hid ?_, ?_, Lib.hid HN.out.1, ?_⟩
        · have h1 := HQ.out; have h2 := Hn.out; have h3 := HRN.out
          rw [totL_succ ls k (by omega), h3]; omega
        · obtain ⟨a0, a1, a2, a3⟩ := HA.out
          have h2 := Hn.out
          have h4 := HL.out.len
          refine Lib.hid ⟨by simpa using a0, fun j hj => ?_, fun j hj => ?_, fun j hj => ?_⟩
          · rw [getD_set_lw _ _ _ _ (by omega)]
            by_cases e : j = k
            · subst e
              rw [if_pos rfl, mkL_getD ls K j (by omega), ← HQ.out, HRN.out, show qq + 1 + 1 = qq + 2 by omega]
            · rw [if_neg e]; exact a1 j (by omega)
          · rw [getD_set_lw _ _ _ _ (by omega), if_neg (by omega)]; exact a2 j (by omega)
          · rw [getD_set_lv _ _ _ _ (by omega)]
            by_cases e : j = k
            · subst e; rw [if_pos rfl, ← a3 j hj]; exact HFS.out.symm
            · rw [if_neg e]; exact a3 j hj
        · obtain ⟨a0, a1, a2, a3⟩ := HA.out
          have h2 := Hn.out
          refine Lib.hid (HC.out.trans (HN.out.2.mono (fun b hb => hb.same (by omega) (fun j hj => ⟨?_, a3 j (by omega)⟩))))
          rcases Nat.lt_or_ge j k with hjk | hjk
          · rw [a1 j hjk, mkL_getD ls K j hj]; exact marks6_length _ _
          · rw [a2 j hjk]
      case measure => simp [intOf]; omega
    · obtain rfl : k = n := by omega
      go_wp2_with fail
      go_ret
      obtain ⟨a0, a1, a2, a3⟩ := HA.out
      have h2 := Hn.out
      have e : l = mkL K ls := lw_ext (by rw [mkL_length]; omega) (fun j hj => a1 j (by omega))
      have hq := HQ.out
      rw [h2, List.take_length] at hq
      refine ⟨by rw [hq]; rfl, ⟨fs, ?_, fun j hj => a3 j (by omega)⟩, HC.out⟩
      rw [← e]; exact HL.out
end Go.Proofs.Ytcjpedolmnahfaa

/- Walks: cascades: what the laws' marks read as. -/
set_option linter.unusedVariables false
set_option linter.unusedSimpArgs false
namespace Go.Proofs.Ytcjpedolmnahfaa
open Go.RowKit

theorem LS.at_ {w : World} {A : Option Addr} {n c : Nat} {xs : List Lv} (h : LS w w.heap.size (.slice A n c) xs) {k : Nat} (hk : k < n) :
    ∃ b off, A = some ⟨b, off, none⟩ ∧ w.cell? ⟨b, off + k * 3, none⟩ = some (.int .i64 (xs.getD k zLv).1) ∧ w.cell? ⟨b, off + k * 3 + 1, none⟩ = some (.int .i64 (xs.getD k zLv).2.1) ∧ ∃ r, w.cell? ⟨b, off + k * 3 + 2, none⟩ = some r ∧ RL w w.heap.size r (xs.getD k zLv).2.2 := by
  obtain ⟨_, _, A', c', he, h3⟩ := h
  injection he with e1 e2 e3
  rcases h3 with h3 | ⟨b, off, hb, _, hc⟩
  · rw [h3] at e2; simp at e2; omega
  · obtain ⟨x0, x1, r, x2, hr⟩ := hc k (by omega)
    exact ⟨b, off, e1.trans hb, x0, x1, r, x2, hr⟩

set_option maxRecDepth 100000 in
set_option maxHeartbeats 8000000 in
theorem heldLevelS_any (v : Value) (ls : List Lv) (K : Int) (w : World) (hK : 0 ≤ K) (hK2 : K + totL ls ≤ 100000000000000) (h : LS w w.heap.size v (mkL K ls)) :
    Calls Try.prog 94 #[v, .int .i64 K] w fun e w' => e = .returned (.int .i64 (K + totL ls)) ∧ w = w' := by
  have H := Lib.hid h
  obtain ⟨z1, hlen, A, c, rfl, z2⟩ := h
  clear z1 z2
  obtain ⟨n, hn⟩ : ∃ n, n = ls.length := ⟨_, rfl⟩
  have Hn := Lib.hid hn
  have HT := Lib.hid hK2
  rw [mkL_length, ← hn] at H hlen ⊢
  clear hn hK2
  have hmr := Lib.hid (fun v n K w hK hK2 h => heldRollS_any v n K w hK hK2 h)
  go_enter Try.func94, Try.ntmps94
  go_wp2_with fail
  go_loop [5, 1] (fun i q => ∃ (k : Nat) (qq : Int), k ≤ n ∧ i = .int .i64 k ∧ q = .int .i64 qq ∧ Hid (qq = K + totL (ls.take k))) (fun i _ => n - (intOf i).toNat)
  case atStart => exact ⟨0, K, Nat.zero_le _, rfl, rfl, Lib.hid (by simp [totL])⟩
  case round =>
    obtain ⟨k, qq, hk, rfl, rfl, HQ⟩ := hrel
    by_cases hlt : k < n
    · obtain ⟨b, off, rfl, x0, x1, r, x2, hr⟩ := H.out.at_ hlt
      have hls := Hn.out
      have hq0 : 0 ≤ qq ∧ qq + 2 + 6 * ((ls.getD k zLv).2.2.length : Int) ≤ 100000000000000 := by
        have h1 := HQ.out; have h2 := totL_nonneg (ls.take k); have h3 := HT.out
        have h4 := totL_take_le ls (k + 1); rw [totL_succ ls k (by omega)] at h4
        omega
      rw [mkL_getD ls K k (by omega), ← HQ.out] at x0 x1 hr
      simp only at x0 x1 hr
      obtain ⟨rn, hrn⟩ : ∃ rn, (ls.getD k zLv).2.2.length = rn := ⟨_, rfl⟩
      have HRN := Lib.hid hrn
      rw [hrn] at hr hq0
      clear hrn
      have e1 : wrap64 (qq + 1) = qq + 1 := by unfold wrap64; omega
      have e2 : wrap64 (qq + 1 + 1) = qq + 1 + 1 := by unfold wrap64; omega
      rw [show qq + 2 = qq + 1 + 1 by omega] at hr
      obtain ⟨ra, rm, rc, rfl⟩ : ∃ a m c, r = .slice a m c := by
        obtain ⟨z1, z2, ra, rc, he, z3⟩ := hr
        exact ⟨_, _, _, he⟩
      have hcal := Lib.hid (hmr.out _ rn (qq + 1 + 1) w (by omega) (by omega) hr)
      clear hr
      clear hls
      have d1 : decide (qq + 1 + 1 + 6 * (rn : Int) < 0) = false := decide_eq_false (by omega)
      go_wp2_with fail
      refine hcal.out.mono ?_
      rintro e w3 ⟨rfl, rfl⟩
      go_wp2_with fail
      go_round
      case rel => exact ⟨k + 1, qq + 1 + 1 + 6 * (rn : Int), by omega, by go_num, rfl, Lib.hid (by
        have h1 := HQ.out; have h3 := HRN.out; have h4 := Hn.out
        rw [totL_succ ls k (by omega), h3]; omega)⟩
      case measure => simp [intOf]; omega
    · obtain rfl : k = n := by omega
      have hq := HQ.out
      rw [Hn.out, List.take_length] at hq
      have HE := Lib.hid hq
      go_wp2_with fail
      go_ret
      exact ⟨by first | rfl | (rw [HE.out]; rfl) | rw [HE.out], rfl⟩

/-- a cascade's rows of its own, all apart -/
structure CD (W : World) (base top : Nat) (c : Cs) (rv lv : Value) (es : List LvC) : Prop where
  raw : ORow W base top 43 2 rv c.2.2.1.length (prs c.2.2.1)
  lvl : LD W base top lv c.2.2.2 es
  off : ∀ g, obk rv c.2.2.1.length = some g → ¬ LBk lv c.2.2.2 es g
def CBk (c : Cs) (rv lv : Value) (es : List LvC) (b : Nat) : Prop := obk rv c.2.2.1.length = some b ∨ LBk lv c.2.2.2 es b
theorem CD.lt {W : World} {base top : Nat} {c : Cs} {rv lv : Value} {es : List LvC} (h : CD W base top c rv lv es) {g : Nat} (hg : CBk c rv lv es g) : base ≤ g ∧ g < top ∧ g < W.heap.size := by
  rcases hg with hg | hg
  · exact h.raw.lt hg
  · exact h.lvl.lt hg
theorem CD.at_ {W W' : World} {base top : Nat} {c : Cs} {rv lv : Value} {es : List LvC} (h : CD W base top c rv lv es) (hb : ∀ g, CBk c rv lv es g → W'.heap[g]? = W.heap[g]?) : CD W' base top c rv lv es :=
  ⟨h.raw.at_ (fun g hg => hb g (.inl hg)), h.lvl.at_ (fun g hg => hb g (.inr hg)), h.off⟩
theorem CD.below {W W' : World} {base top : Nat} {c : Cs} {rv lv : Value} {es : List LvC} (h : CD W base top c rv lv es) (hb : Below W.heap.size W W') : CD W' base top c rv lv es :=
  h.at_ (fun g hg => hb.block g (h.lt hg).2.2)
theorem CD.chg {S : Nat → Prop} {W W' : World} {base top : Nat} {c : Cs} {rv lv : Value} {es : List LvC} (h : CD W base top c rv lv es) (hc : Chg S W W') (hs : ∀ g, CBk c rv lv es g → ¬ S g) : CD W' base top c rv lv es :=
  h.at_ (fun g hg => hc.block g (h.lt hg).2.2 (hs g hg))
theorem CD.lift {W : World} {base base' top top' : Nat} {c : Cs} {rv lv : Value} {es : List LvC} (h : CD W base top c rv lv es) (hb : base' ≤ base) (ht : top ≤ top') : CD W base' top' c rv lv es :=
  ⟨h.raw.lift hb ht, h.lvl.lift hb ht, h.off⟩
/-- the numbers of a cascade are in range, and its lists not too long -/
structure CR (c : Cs) : Prop where
  now : Rng c.1
  keep : Rng c.2.1
  raw : ∀ j, Rng (c.2.2.1.getD j (0, 0)).1 ∧ Rng (c.2.2.1.getD j (0, 0)).2
  rlen : c.2.2.1.length ≤ 1048576
  lv : ∀ j, Rng (c.2.2.2.getD j zLv).1 ∧ Rng (c.2.2.2.getD j zLv).2.1
  llen : c.2.2.2.length ≤ 1048576
  rolls : ∀ j, j < c.2.2.2.length → (∀ i, Rng6 ((c.2.2.2.getD j zLv).2.2.getD i z6)) ∧ (c.2.2.2.getD j zLv).2.2.length ≤ 1048576
theorem CV.cr {w : World} {B : Nat} {v : Value} {c : Cs} (h : CV w B v c) : CR c := by
  obtain ⟨rv, lv, rfl, hP, hL, h1, h2⟩ := h
  exact ⟨h1, h2, hP.1, hP.2.1, hL.1, hL.2.1, hL.rolls⟩
theorem CD.cv {W : World} {base top : Nat} {c : Cs} {rv lv : Value} {es : List LvC} (h : CD W base top c rv lv es) (hr : CR c) : CV W W.heap.size (.agg #[.int .i64 c.1, .int .i64 c.2.1, rv, lv]) c :=
  ⟨rv, lv, rfl, h.raw.pl hr.raw hr.rlen, h.lvl.ls hr.lv hr.llen hr.rolls, hr.now, hr.keep⟩
def mkC (K : Int) (c : Cs) : Cs := (c.1, c.2.1, marks2 K c.2.2.1.length, mkL (K + 2 * (c.2.2.1.length : Int)) c.2.2.2)
def totC (c : Cs) : Int := 2 * (c.2.2.1.length : Int) + totL c.2.2.2
def MarkPC (base top : Nat) (c : Cs) (rv lv : Value) (es : List LvC) (K : Int) (w : World) (e : Ending) (w' : World) : Prop :=
  e = .returned (.int .i64 (K + totC c)) ∧ (∃ es', CD w' base top (mkC K c) rv lv es') ∧ ∃ w1, Below w.heap.size w w1 ∧ Chg (CBk c rv lv es) w1 w'
theorem mkL_rng {ls : List Lv} {K : Int} (hK : 0 ≤ K) (hK2 : K + totL ls ≤ 100000000000000) (hr : ∀ j, j < ls.length → (ls.getD j zLv).2.2.length ≤ 1048576) : (∀ j, Rng ((mkL K ls).getD j zLv).1 ∧ Rng ((mkL K ls).getD j zLv).2.1) ∧ ∀ j, j < (mkL K ls).length → (∀ i, Rng6 (((mkL K ls).getD j zLv).2.2.getD i z6)) ∧ ((mkL K ls).getD j zLv).2.2.length ≤ 1048576 := by
  have hb : ∀ j, j < ls.length → 0 ≤ totL (ls.take j) ∧ K + totL (ls.take j) + 2 ≤ 100000000000000 := fun j hj => by
    have h2 := totL_nonneg (ls.take j)
    have h4 := totL_take_le ls (j + 1); rw [totL_succ ls j hj] at h4
    omega
  refine ⟨fun j => ?_, fun j hj => ?_⟩
  · by_cases hj : j < ls.length
    · rw [mkL_getD ls K j hj]
      have := hb j hj
      exact ⟨⟨by simp only []; omega, by simp only []; omega⟩, ⟨by simp only []; omega, by simp only []; omega⟩⟩
    · rw [List.getD_eq_getElem?_getD, List.getElem?_eq_none (by rw [mkL_length]; omega)]; exact ⟨rng_zero, rng_zero⟩
  · rw [mkL_length] at hj
    rw [mkL_getD ls K j hj]
    have := hb j hj
    exact ⟨fun i => marks6_rng _ _ (by omega) (by omega) (hr j hj) i, by rw [marks6_length]; exact hr j hj⟩
theorem mkC_cr {c : Cs} {K : Int} (h : CR c) (hK : 0 ≤ K) (hK2 : K + totC c ≤ 100000000000000) : CR (mkC K c) := by
  have h0 := totL_nonneg c.2.2.2
  unfold totC at hK2
  have hm := mkL_rng (ls := c.2.2.2) (K := K + 2 * (c.2.2.1.length : Int)) (by omega) (by omega) (fun j hj => (h.rolls j hj).2)
  exact ⟨h.now, h.keep, fun j => marks2_rng _ _ hK (by omega) h.rlen j, by show (marks2 K c.2.2.1.length).length ≤ _; rw [marks2_length]; exact h.rlen, hm.1, by show (mkL _ c.2.2.2).length ≤ _; rw [mkL_length]; exact h.llen, hm.2⟩
end Go.Proofs.Ytcjpedolmnahfaa
