/- Walks: cascades: one level's rolls replaced in place; what is too old. -/
import Derived.Test.YtdmcijodhokahaaYy
import Derived.Test.YtdmcijodhokahaaYz
set_option linter.unusedVariables false
set_option linter.unusedSimpArgs false
namespace Go.Proofs.Ytdmcijodhokahaa
open Go.RowKit

def dropR (nw : Int) (x : Lv) : List R6 := x.2.2.filter (rolAt nw x)
def dropL (nw : Int) (x : Lv) : Lv := (x.1, x.2.1, dropR nw x)
def dropP (nw kp : Int) (rp : List (Int × Int)) : List (Int × Int) := rp.filter (fun p => decide (nw - kp < p.1))
def dropC (nw : Int) (c : Cs) : Cs := (nw, c.2.1, dropP nw c.2.1 c.2.2.1, c.2.2.2.map (dropL nw))
/-- the levels, of which those in pre have dropped what is too old -/
def updL (nw : Int) (pre : List Nat) (ls : List Lv) : List Lv := (List.range ls.length).map (fun j => if j ∈ pre then dropL nw (ls.getD j zLv) else ls.getD j zLv)
theorem updL_length (nw : Int) (pre : List Nat) (ls : List Lv) : (updL nw pre ls).length = ls.length := by simp [updL]
theorem updL_getD (nw : Int) (pre : List Nat) (ls : List Lv) {j : Nat} (h : j < ls.length) : (updL nw pre ls).getD j zLv = if j ∈ pre then dropL nw (ls.getD j zLv) else ls.getD j zLv := by
  simp [updL, List.getD_eq_getElem?_getD, h]
theorem rolAt_same (nw : Int) (x : Lv) (rs : List R6) : rolAt nw (x.1, x.2.1, rs) = rolAt nw x := by funext r; rfl
theorem dropR_twice (nw : Int) (x : Lv) : dropR nw (dropL nw x) = dropR nw x := by
  unfold dropL dropR
  rw [rolAt_same, List.filter_filter]
  congr 1; funext r; simp
theorem updL_nil (nw : Int) (ls : List Lv) : updL nw [] ls = ls := by
  refine lw_ext (updL_length _ _ _) (fun j hj => ?_)
  rw [updL_length] at hj
  rw [updL_getD _ _ _ hj, if_neg (List.not_mem_nil)]
theorem updL_all (nw : Int) {pre : List Nat} {ls : List Lv} (h : ∀ j, j < ls.length → j ∈ pre) : updL nw pre ls = ls.map (dropL nw) := by
  refine lw_ext (by simp [updL_length]) (fun j hj => ?_)
  rw [updL_length] at hj
  rw [updL_getD _ _ _ hj, if_pos (h j hj)]
  rw [List.getD_eq_getElem?_getD, List.getD_eq_getElem?_getD, List.getElem?_map, List.getElem?_eq_getElem hj]; rfl
theorem updL_snoc (nw : Int) (pre : List Nat) (ls : List Lv) {x : Nat} (hx : x < ls.length) : (updL nw pre ls).set x (((updL nw pre ls).getD x zLv).1, ((updL nw pre ls).getD x zLv).2.1, dropR nw ((updL nw pre ls).getD x zLv)) = updL nw (pre ++ [x]) ls := by
  refine lw_ext (by simp [updL_length]) (fun j hj => ?_)
  have hj' : j < ls.length := by simpa [updL_length] using hj
  rw [getD_set_lw _ _ _ _ (by rw [updL_length]; exact hx), updL_getD _ (pre ++ [x]) _ hj']
  by_cases e : j = x
  · subst e
    rw [if_pos rfl, if_pos (by simp), updL_getD _ _ _ hx]
    split
    · show (_, _, dropR nw (dropL nw (ls.getD j zLv))) = _
      rw [dropR_twice]; rfl
    · rfl
  · rw [if_neg e, updL_getD _ _ _ hj']
    have : (j ∈ pre ++ [x]) ↔ j ∈ pre := by
      constructor
      · intro h
        rcases List.mem_append.1 h with h | h
        · exact h
        · exact absurd (List.mem_singleton.1 h) e
      · intro h; simp [h]
    by_cases hp : j ∈ pre
    · rw [if_pos hp, if_pos (this.2 hp)]
    · rw [if_neg hp, if_neg (fun h => hp (this.1 h))]

theorem LD.upd {W W1 : World} {base top gl n cap x : Nat} {L : List Lv} {es : List LvC} {r' : Value} {kept : List R6}
    (h : LD W base top (.slice (some ⟨gl, 0, none⟩) n cap) L es) (hn : L.length = n) (hx : x < n)
    (hc : Chg (fun b => obk (es.getD x zLc).2.2 (L.getD x zLv).2.2.length = some b) W W1)
    (hr : ORow W1 base top 56 6 r' kept.length (rls kept))
    (ho : ∀ g, obk r' kept.length = some g → obk (es.getD x zLc).2.2 (L.getD x zLv).2.2.length = some g) :
    LD (W1.setCell ⟨gl, x * 3 + 2, none⟩ r') base top (.slice (some ⟨gl, 0, none⟩) n cap) (L.set x ((L.getD x zLv).1, (L.getD x zLv).2.1, kept)) (es.set x ((es.getD x zLc).1, (es.getD x zLc).2.1, r')) ∧ Chg (LBk (.slice (some ⟨gl, 0, none⟩) n cap) L es) W (W1.setCell ⟨gl, x * 3 + 2, none⟩ r') := by
  have hlf := h.len
  have hob : ∀ j, j < L.length → ¬ obk (es.getD j zLc).2.2 (L.getD j zLv).2.2.length = some gl := fun j hj he => h.apart j gl hj he rfl
  have hg2 : W1.grownBy (W1.setCell ⟨gl, x * 3 + 2, none⟩ r') (some gl) := grown_set (World.grownBy.refl W1 (some gl)) _ _
  have hes : ∀ j, j < L.length → ¬ j = x → (es.set x ((es.getD x zLc).1, (es.getD x zLc).2.1, r')).getD j zLc = es.getD j zLc := fun j hj e => by rw [getD_set_lv _ _ _ _ (by omega), if_neg e]
  have hex : (es.set x ((es.getD x zLc).1, (es.getD x zLc).2.1, r')).getD x zLc = ((es.getD x zLc).1, (es.getD x zLc).2.1, r') := by rw [getD_set_lv _ _ _ _ (by omega), if_pos rfl]
  have hls : ∀ j, j < L.length → ¬ j = x → (L.set x ((L.getD x zLv).1, (L.getD x zLv).2.1, kept)).getD j zLv = L.getD j zLv := fun j hj e => by rw [getD_set_lw _ _ _ _ (by omega), if_neg e]
  have hlx : (L.set x ((L.getD x zLv).1, (L.getD x zLv).2.1, kept)).getD x zLv = ((L.getD x zLv).1, (L.getD x zLv).2.1, kept) := by rw [getD_set_lw _ _ _ _ (by omega), if_pos rfl]
  have hrow1 : W1.ownsRow base 54 3 (.slice (some ⟨gl, 0, none⟩) n cap) n (lvs es) ∧ ∀ g, (Value.slice (some ⟨gl, 0, none⟩) n cap).ownBlock = some g → g < top := by
    have h1 := h.row.at_ (W' := W1) (fun g hg => by
      obtain rfl : gl = g := by rw [obk_pos (by omega)] at hg; injection hg
      exact hc.block gl (h.row.lt hg).2.2 (hob x (by omega)))
    rcases h1 with ⟨h1, h2⟩ | ⟨h0, _⟩
    · rw [hn] at h1; exact ⟨h1, h2⟩
    · omega
  have hset := hrow1.1.stored (x * 3 + 2) r'
  have hl3 : (lvs es).set (x * 3 + 2) r' = lvs (es.set x ((es.getD x zLc).1, (es.getD x zLc).2.1, r')) := by
    have h3 := lvs_set es x (es.getD x zLc).1 (es.getD x zLc).2.1 r' (by omega)
    rw [← h3]
    congr 1
    apply List.ext_getElem?
    intro i
    by_cases e0 : i = x * 3
    · subst e0
      rw [List.getElem?_set_ne (by omega), List.getElem?_set_self (by rw [lvs_length]; omega)]
      exact lvs_get0 _ _ (by omega)
    · by_cases e1 : i = x * 3 + 1
      · subst e1
        rw [List.getElem?_set_self (by rw [List.length_set, lvs_length]; omega)]
        exact lvs_get1 _ _ (by omega)
      · rw [List.getElem?_set_ne (by omega), List.getElem?_set_ne (by omega)]
  rw [hl3] at hset
  refine ⟨⟨by simpa using hlf, .inl ⟨by simpa [hn] using hset.1, hrow1.2⟩, fun j hj => ?_, fun j g hj hg => ?_, fun i j g hij hj hi hj2 => ?_⟩, ?_⟩
  · have hj' : j < L.length := by simpa using hj
    by_cases e : j = x
    · subst e
      rw [hex, hlx]
      refine ⟨(h.lv j hj').1, (h.lv j hj').2.1, hr.at_ (fun g hg => ?_)⟩
      exact hg2.block g (hr.lt hg).2.2 (fun e => by injection e with e; subst e; exact hob j hj' (ho _ hg))
    · rw [hes j hj' e, hls j hj' e]
      have h0 := h.lv j hj'
      refine ⟨h0.1, h0.2.1, h0.2.2.at_ (fun g hg => ?_)⟩
      have hlt := (h0.2.2.lt hg).2.2
      rw [hg2.block g (Nat.lt_of_lt_of_le hlt hc.size) (fun e => by injection e with e; subst e; exact hob j hj' hg)]
      refine hc.block g hlt (fun hk => ?_)
      rcases Nat.lt_or_ge j x with hjk | hjk
      · exact h.dist j x g hjk (by omega) hg hk
      · exact h.dist x j g (by omega) hj' hk hg
  · have hj' : j < L.length := by simpa using hj
    by_cases e : j = x
    · subst e; rw [hex, hlx] at hg; exact h.apart j g hj' (ho g hg)
    · rw [hes j hj' e, hls j hj' e] at hg; exact h.apart j g hj' hg
  · have hj' : j < L.length := by simpa using hj
    have key : ∀ y, y < L.length → ∀ g, obk ((es.set x ((es.getD x zLc).1, (es.getD x zLc).2.1, r')).getD y zLc).2.2 ((L.set x ((L.getD x zLv).1, (L.getD x zLv).2.1, kept)).getD y zLv).2.2.length = some g → obk (es.getD y zLc).2.2 (L.getD y zLv).2.2.length = some g := fun y hy g hg => by
      by_cases e : y = x
      · subst e; rw [hex, hlx] at hg; exact ho g hg
      · rw [hes y hy e, hls y hy e] at hg; exact hg
    exact h.dist i j g hij hj' (key i (by omega) g hi) (key j hj' g hj2)
  · refine (hc.mono (fun b hb => .inr ⟨x, by omega, hb⟩)).trans (Chg.grown hg2 (fun b hb => .inl ?_))
    rw [obk_pos (by omega), ← hb]; rfl
end Go.Proofs.Ytdmcijodhokahaa
