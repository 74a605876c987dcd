/- Plain facts: lists of numbers come back from their bytes. -/
import Derived.Test.YtpnfkmhhilnglabVk
namespace Go.Proofs.Ytpnfkmhhilnglab
open Go.RowKit

def fl (xs : List Int) : List UInt8 := ((xs.map zigB).flatten).map UInt8.ofNat
theorem fl_nil : fl [] = [] := rfl
theorem fl_snoc (xs : List Int) (x : Int) : fl (xs ++ [x]) = fl xs ++ VM.varU (i64u (zigF x)) := by
  unfold fl zigB VM.varU; simp
theorem fl_append (xs ys : List Int) : fl (xs ++ ys) = fl xs ++ fl ys := by
  unfold fl; simp
theorem fl_cons (x : Int) (xs : List Int) : fl (x :: xs) = VM.varU (i64u (zigF x)) ++ fl xs := by
  unfold fl zigB VM.varU; simp
theorem zag_zig_u (u : Nat) (h : u < 2 ^ 64) : i64u (zigF (zagF (wrap64 (u : Int)))) = u := by
  have hb := uz_wrap64_bd (u : Int)
  rw [zig_zag _ hb.1 hb.2, i64u_wrap u h]
theorem varsTo_map (xs : List Int) : (varsTo xs xs.length).map UInt8.ofNat = VM.varU (i64u (xs.length : Int)) ++ fl xs := by
  unfold varsTo fl VM.varU; simp
theorem i64u_nat (n : Nat) (h : n < 2 ^ 63) : i64u (n : Int) = n := by unfold i64u; omega

theorem rdList_take {l : List UInt8} {a : Nat} (ha : a ≤ l.length) (k : Nat) {xs : List Int} {b : Nat} (h : rdList l k a = some (xs, b)) : l.take b = l.take a ++ fl xs := by
  induction k generalizing xs b with
  | zero => rw [rdList] at h; cases h; rw [fl_nil, List.append_nil]
  | succ k ih =>
    rw [rdList] at h
    split at h
    · cases h
    · rename_i ys c hy
      split at h
      · cases h
      · rename_i u m hm
        cases h
        obtain ⟨h1, h2, h3, h4, h5⟩ := VM.readV_spec hm
        rw [fl_snoc, zag_zig_u u h1, h2, ← List.append_assoc, ← ih hy, List.take_add]
theorem rdVars_back {l : List UInt8} {xs : List Int} (h : rdVars l = some xs) : (varsB xs).map UInt8.ofNat = l := by
  unfold rdVars at h
  split at h
  · cases h
  · rename_i u a hv
    obtain ⟨h1, h2, h3, h4, h5⟩ := VM.readV_spec hv
    split at h
    · cases h
    · rename_i hu
      split at h
      · cases h
      · rename_i ys b hl
        split at h
        · rename_i hb
          cases h
          have hlen := rdList_len _ _ hl
          have ht := rdList_take h5 _ hl
          rw [hb, List.take_length] at ht
          unfold varsB
          rw [if_neg (by omega), varsTo_map, hlen, i64u_nat u (by omega), h2]
          exact ht.symm
        · cases h

theorem rdList_fl (p q : List UInt8) (xs : List Int) (hx : ∀ x ∈ xs, Rng x) (k : Nat) (hk : k ≤ xs.length) :
    rdList (p ++ fl xs ++ q) k p.length = some (xs.take k, p.length + (fl (xs.take k)).length) := by
  induction k with
  | zero => simp [rdList, fl_nil]
  | succ k ih =>
    have hlt : k < xs.length := by omega
    rw [rdList_next (ih (by omega))]
    have hsplit : xs = xs.take k ++ xs[k] :: xs.drop (k + 1) := by
      rw [← List.drop_eq_getElem_cons hlt, List.take_append_drop]
    have hfl : fl xs = fl (xs.take k) ++ (VM.varU (i64u (zigF xs[k])) ++ fl (xs.drop (k + 1))) := by
      conv => lhs; rw [hsplit]
      rw [fl_append, fl_cons]
    have hdrop : (p ++ fl xs ++ q).drop (p.length + (fl (xs.take k)).length) = VM.varU (i64u (zigF xs[k])) ++ (fl (xs.drop (k + 1)) ++ q) := by
      rw [hfl]
      have e : p ++ (fl (xs.take k) ++ (VM.varU (i64u (zigF xs[k])) ++ fl (xs.drop (k + 1)))) ++ q = (p ++ fl (xs.take k)) ++ (VM.varU (i64u (zigF xs[k])) ++ (fl (xs.drop (k + 1)) ++ q)) := by simp
      rw [e, ← List.length_append, List.drop_left]
    rw [hdrop, VM.readV_var _ (i64u_lt _)]
    have hr := hx xs[k] (List.getElem_mem hlt)
    have hzb := zig_bd xs[k]
    have hz : zagF (wrap64 ((i64u (zigF xs[k]) : Nat) : Int)) = xs[k] := by
      rw [i64_u64 _ hzb.1 hzb.2, zag_zig _ hr.1 hr.2]
    show some (xs.take k ++ [zagF (wrap64 ((i64u (zigF xs[k]) : Nat) : Int))], _) = _
    rw [hz, List.take_succ_eq_append_getElem hlt, fl_snoc, List.length_append, VM.varU_length, Nat.add_assoc]
theorem rdVars_varsB {xs : List Int} (hl : xs.length ≤ 200) (hx : ∀ x ∈ xs, Rng x) : rdVars ((varsB xs).map UInt8.ofNat) = some xs := by
  unfold varsB
  rw [if_neg (by omega), varsTo_map]
  have hn := i64u_nat xs.length (by omega)
  have h1 := VM.readV_var (i64u (xs.length : Int)) (i64u_lt _) (fl xs)
  have hl2 := VM.varU_length (i64u (xs.length : Int))
  have h2 := rdList_fl (VM.varU (i64u (xs.length : Int))) [] xs hx xs.length (Nat.le_refl _)
  rw [List.append_nil, List.take_length] at h2
  rw [hn] at h1
  refine rdVars_4 (u := xs.length) (a := (VM.var xs.length).length) (b := (VM.varU (i64u (xs.length : Int))).length + (fl xs).length) (by rw [hn]; exact h1) (by omega) ?_ (by rw [List.length_append])
  rw [hl2] at h2
  rw [hl2]
  rw [hn] at h2 ⊢
  exact h2
theorem rvOut_varsB {xs : List Int} (hl : xs.length ≤ 200) (hx : ∀ x ∈ xs, Rng x) : rvOut (strN (varsB xs)) = (true, xs) := by
  unfold rvOut
  rw [show (strN (varsB xs)).data.toList = (varsB xs).map UInt8.ofNat from rfl, rdVars_varsB hl hx]
theorem rvOut_back {s : ByteArray} (h : (rvOut s).1 = true) : strN (varsB (rvOut s).2) = s := by
  unfold rvOut at h ⊢
  split at h
  · cases h
  · rename_i xs hxs
    have := rdVars_back hxs
    apply ByteArray.ext
    apply Array.ext'
    exact this
theorem rdVal_append (n : Int) (t : ByteArray) (h0 : -9223372036854775808 ≤ n) (h1 : n ≤ 9223372036854775807) : rdVal (varS n ++ t) = .tuple #[.int .i64 n, .int .i64 ((varS n).size : Int), .bool true] := by
  have hd : (varS n ++ t).data.toList = VM.varU (i64u n) ++ t.data.toList := by
    rw [ByteArray.data_append, Array.toList_append, varS_list]
  rw [rdVal_some (by rw [hd]; exact VM.readV_var _ (i64u_lt n) _), i64_u64 n h0 h1, varS_size]
theorem rdVal_back {s : ByteArray} {a b : Int} {c : Bool} (h : rdVal s = .tuple #[.int .i64 a, .int .i64 b, .bool c]) (hc : c = true) :
    ∃ k : Nat, b = (k : Int) ∧ k ≤ s.size ∧ varS a = s.extract 0 k := by
  subst hc
  cases hv : VM.readV s.data.toList with
  | none => rw [rdVal_none hv] at h; simp at h
  | some p =>
    obtain ⟨u, k⟩ := p
    rw [rdVal_some hv] at h
    obtain ⟨h1, h2, h3, h4, h5⟩ := VM.readV_spec hv
    simp at h
    obtain ⟨rfl, rfl⟩ := h
    refine ⟨k, rfl, by simpa using h5, ?_⟩
    rw [varS_wrap u h1, h2]
    apply ByteArray.ext
    apply Array.ext'
    rw [extract_take]
end Go.Proofs.Ytpnfkmhhilnglab
