/- Plain facts: sets of numbers as maps that read as rising lists. -/
import Derived.Lib.SlKeysI
import Derived.Lib.SlMapFilter
import Derived.Lib.SlMapMerge
set_option linter.unusedVariables false
set_option linter.unusedSimpArgs false
namespace Go.Proofs.Ytljmiodkmddllaa
open Go.Maps

abbrev DV := DataW Unit
def tkn (x : Int) : Lit := .int .i64 x
def dOf (l : List Int) : DV := .map (l.map fun x => (tkn x, .lit (.bool true)))
def Ris (l : List Int) : Prop := l.Pairwise (fun a b => a < b)
def insI (x : Int) : List Int → List Int
  | [] => [x]
  | y :: r => if x < y then x :: y :: r else y :: insI x r
def putI (l : List Int) (x : Int) : List Int := insI x (l.filter (fun y => !decide (y = x)))
theorem same_tkn (y x : Int) : (tkn y).sameKey (tkn x) = decide (y = x) := by simp [tkn, Lit.sameKey]
theorem filter_tkn (l : List Int) (x : Int) : (l.map fun y => (tkn y, (.lit (.bool true) : DV))).filter (fun p => !p.1.sameKey (tkn x)) = (l.filter (fun y => !decide (y = x))).map fun y => (tkn y, .lit (.bool true)) := by
  induction l with
  | nil => rfl
  | cons y r ih =>
    simp only [List.map_cons, List.filter_cons, same_tkn]
    split
    · rw [ih]; rfl
    · rw [ih]
theorem insert_tkn (l : List Int) (x : Int) : DataW.insert (tkn x, (.lit (.bool true) : DV)) (l.map fun y => (tkn y, .lit (.bool true))) = (insI x l).map fun y => (tkn y, .lit (.bool true)) := by
  induction l with
  | nil => rfl
  | cons y r ih =>
    simp only [List.map_cons, DataW.insert, insI]
    have e : (tkn x).before (tkn y) = decide (x < y) := rfl
    rw [e]
    by_cases h : x < y
    · simp [h]
    · simp [h, ih]
theorem dOf_put (l : List Int) (x : Int) : (dOf l).put (tkn x) (.lit (.bool true)) = dOf (putI l x) := by
  unfold dOf DataW.put
  simp only
  rw [filter_tkn, insert_tkn]
  rfl
theorem insI_last {x : Int} : ∀ {l : List Int}, (∀ y ∈ l, y < x) → insI x l = l ++ [x]
  | [], _ => rfl
  | y :: r, h => by
    have h1 := h y (by simp)
    rw [insI, if_neg (by omega), insI_last (fun z hz => h z (by simp [hz]))]; rfl
theorem putI_last {x : Int} {l : List Int} (h : ∀ y ∈ l, y < x) : putI l x = l ++ [x] := by
  unfold putI
  rw [List.filter_eq_self.2 (fun y hy => by have := h y hy; simp; omega), insI_last h]
theorem insI_mem {x z : Int} : ∀ {l : List Int}, z ∈ insI x l ↔ z = x ∨ z ∈ l
  | [] => by simp [insI]
  | y :: r => by
    rw [insI]
    split
    · simp
    · simp only [List.mem_cons, insI_mem (l := r)]
      constructor
      · rintro (h | h | h)
        · exact .inr (.inl h)
        · exact .inl h
        · exact .inr (.inr h)
      · rintro (h | h | h)
        · exact .inr (.inl h)
        · exact .inl h
        · exact .inr (.inr h)
theorem insI_ris {x : Int} : ∀ {l : List Int}, Ris l → x ∉ l → Ris (insI x l)
  | [], _, _ => by simp [insI, Ris]
  | y :: r, h, hx => by
    obtain ⟨h1, h2⟩ := List.pairwise_cons.1 h
    rw [insI]
    split
    · rename_i hlt
      refine List.pairwise_cons.2 ⟨fun z hz => ?_, h⟩
      rcases List.mem_cons.1 hz with rfl | hz
      · exact hlt
      · have := h1 z hz; omega
    · rename_i hlt
      have hne : x ≠ y := fun e => hx (by simp [e])
      refine List.pairwise_cons.2 ⟨fun z hz => ?_, insI_ris h2 (fun e => hx (by simp [e]))⟩
      rcases insI_mem.1 hz with rfl | hz
      · omega
      · exact h1 z hz
theorem insI_len {x : Int} : ∀ (l : List Int), (insI x l).length = l.length + 1
  | [] => rfl
  | y :: r => by
    rw [insI]; split
    · rfl
    · simp [insI_len r]
theorem putI_mem {x z : Int} {l : List Int} : z ∈ putI l x ↔ z = x ∨ z ∈ l := by
  unfold putI
  rw [insI_mem, List.mem_filter]
  by_cases e : z = x
  · simp [e]
  · simp [e]
theorem putI_ris {x : Int} {l : List Int} (h : Ris l) : Ris (putI l x) := insI_ris (h.filter _) (by simp)
theorem ris_ext {a b : List Int} (ha : Ris a) (hb : Ris b) (h : ∀ x, x ∈ a ↔ x ∈ b) : a = b := by
  have na : a.Nodup := ha.imp (fun {x y} hxy => by omega)
  have nb : b.Nodup := hb.imp (fun {x y} hxy => by omega)
  exact List.Perm.eq_of_pairwise (le := fun x y : Int => x < y) (fun x y _ _ h1 h2 => by omega) ha hb ((List.perm_ext_iff_of_nodup na nb).2 h)
theorem ris_nodup {a : List Int} (ha : Ris a) : a.Nodup := ha.imp (fun {x y} hxy => by omega)
theorem putI_has {x : Int} {l : List Int} (h : Ris l) (hx : x ∈ l) : putI l x = l := by
  refine ris_ext (putI_ris h) h (fun z => ?_)
  rw [putI_mem]
  exact ⟨fun e => e.elim (fun e => e ▸ hx) id, .inr⟩
theorem putI_new {x : Int} {l : List Int} (hx : x ∉ l) : putI l x = insI x l := by
  unfold putI
  rw [List.filter_eq_self.2 (fun y hy => by simp; intro e; exact hx (e ▸ hy))]
theorem putI_len (l : List Int) (x : Int) : (putI l x).length ≤ l.length + 1 := by
  unfold putI
  rw [insI_len]
  have := List.length_filter_le (fun y => !decide (y = x)) l
  omega
theorem mergeD_dOf (a : List Int) : ∀ (b : List Int), Lib.mergeD (dOf a) (dOf b) = dOf (b.foldl putI a) := by
  intro b
  show (b.map fun x => (tkn x, (.lit (.bool true) : DV))).foldl (fun D p => D.put p.1 p.2) (dOf a) = _
  induction b generalizing a with
  | nil => rfl
  | cons x r ih => simp only [List.map_cons, List.foldl_cons]; rw [dOf_put, ih]
def notIn (b : List Int) (k : Lit) (_ : DV) : Bool := match k with | .int .i64 x => decide (x ∈ b) | _ => false
theorem delD_dOf (a b : List Int) : Lib.deleteFuncD (notIn b) (dOf a) = dOf (a.filter (fun x => !decide (x ∈ b))) := by
  unfold Lib.deleteFuncD dOf
  simp only
  congr 1
  induction a with
  | nil => rfl
  | cons y r ih =>
    simp only [List.map_cons, List.filter_cons]
    have e : notIn b (tkn y) (.lit (.bool true)) = decide (y ∈ b) := rfl
    rw [e, ih]
    split <;> rfl
theorem intKeys_dOf (l : List Int) : intKeys (dOf l) = l := by
  unfold dOf intKeys
  simp [List.map_map, Function.comp_def, tkn, Go.intOf]
theorem size_dOf (l : List Int) : Maps.size (dOf l) = l.length := by
  unfold dOf
  rw [size_eq, List.length_map]
theorem sort_ris {ss l : List Int} (h : Ris l) (hp : ss.Perm (intKeys (dOf l))) : ss.mergeSort (fun x y => decide (x ≤ y)) = l := by
  rw [intKeys_dOf] at hp
  have e := mergeSort_of_perm_i hp
  rw [show ss.mergeSort (fun x y => decide (x ≤ y)) = ss.mergeSort leI from rfl, e]
  exact List.mergeSort_of_pairwise (h.imp (fun {a b} hab => by simp [leI]; omega))
theorem dOf_at (l : List Int) (x : Int) (z : DV) : (dOf l).atKey (tkn x) z = if x ∈ l then .lit (.bool true) else z := by
  unfold dOf DataW.atKey
  simp only
  induction l with
  | nil => rfl
  | cons y r ih =>
    simp only [List.map_cons, List.find?_cons, same_tkn]
    by_cases e : y = x
    · simp [e]
    · have e' : x ≠ y := fun h => e h.symm
      simp only [e, decide_false, List.mem_cons, e', false_or]
      exact ih
def andL (a b : List Int) : List Int := a.filter (fun x => decide (x ∈ b))
def lessL (a b : List Int) : List Int := a.filter (fun x => !decide (x ∈ b))
def orL (a b : List Int) : List Int := b.foldl putI a
theorem and_less (a b : List Int) : lessL a (lessL a b) = andL a b := by
  unfold lessL andL
  refine List.filter_congr (fun x hx => ?_)
  by_cases e : x ∈ b <;> simp [List.mem_filter, e, hx]
theorem orL_ris {a : List Int} : ∀ (b : List Int), Ris a → Ris (orL a b) := by
  intro b
  unfold orL
  induction b generalizing a with
  | nil => exact id
  | cons x r ih => intro h; exact ih (putI_ris h)
theorem orL_len {a : List Int} : ∀ (b : List Int), (orL a b).length ≤ a.length + b.length := by
  intro b
  unfold orL
  induction b generalizing a with
  | nil => simp
  | cons x r ih => have h1 := ih (a := putI a x); have h2 := putI_len a x; simp only [List.foldl_cons, List.length_cons]; omega
theorem orL_mem {z : Int} {a : List Int} : ∀ (b : List Int), z ∈ orL a b ↔ z ∈ a ∨ z ∈ b := by
  intro b
  unfold orL
  induction b generalizing a with
  | nil => simp
  | cons x r ih =>
    simp only [List.foldl_cons, ih, putI_mem, List.mem_cons]
    constructor
    · rintro ((h | h) | h)
      · exact .inr (.inl h)
      · exact .inl h
      · exact .inr (.inr h)
    · rintro (h | h | h)
      · exact .inl (.inr h)
      · exact .inl (.inl h)
      · exact .inr h
end Go.Proofs.Ytljmiodkmddllaa
