/- Plain facts: joined bits are divided again. -/
import Derived.Test.YtpnfkmhhilnglaaDf
import Derived.Test.YtpnfkmhhilnglaaWt
set_option linter.unusedVariables false
set_option linter.unusedSimpArgs false
namespace Go.Proofs.Ytpnfkmhhilnglaa
open Go.RowKit

def pk (l : List Bool) : ByteArray := ⟨(BM.pack l).toArray⟩
theorem pk_of {s : ByteArray} {N : Int} (h : okB s N = true) : ∃ l : List Bool, s = pk l ∧ N = (l.length : Int) := by
  obtain ⟨h0, h1, h2, h3⟩ := okB_facts h
  refine ⟨BM.listOf s.data.toList N.toNat, ?_, ?_⟩
  · unfold pk; rw [h3]
  · rw [BM.listOf_length]; omega
theorem join_pk (l m : List Bool) (h : l.length + m.length ≤ 20000) :
    joinB (pk l) (l.length : Int) (pk m) (m.length : Int) = true ∧ joinS (pk l) (l.length : Int) (pk m) (m.length : Int) = pk (l ++ m) ∧ joinN (pk l) (l.length : Int) (pk m) (m.length : Int) = ((l ++ m).length : Int) := by
  have hb : joinB (pk l) (l.length : Int) (pk m) (m.length : Int) = true := by
    unfold joinB pk; rw [okB_pack l (by omega), okB_pack m (by omega), Bool.true_and, Bool.true_and]; apply decide_eq_true; omega
  refine ⟨hb, ?_, ?_⟩
  · unfold joinS; rw [if_pos hb]; unfold joinL pk; rw [pack_list, pack_list, Int.toNat_natCast, Int.toNat_natCast, BM.listOf_pack, BM.listOf_pack]
  · unfold joinN; rw [if_pos hb, List.length_append, Int.natCast_add]
theorem part_tail {L l m : List Bool} (hL : L = l ++ m) (h : L.length ≤ 20000) :
    hasB (pk L) (L.length : Int) (l.length : Int) (m.length : Int) = true ∧ partS (pk L) (L.length : Int) (l.length : Int) (m.length : Int) = pk m ∧ partN (pk L) (L.length : Int) (l.length : Int) (m.length : Int) = (m.length : Int) := by
  have hl : L.length = l.length + m.length := by rw [hL, List.length_append]
  have hh : hasB (pk L) (L.length : Int) (l.length : Int) (m.length : Int) = true := by
    unfold hasB pk; rw [okB_pack L h, Bool.true_and]; apply decide_eq_true; omega
  refine ⟨hh, ?_, ?_⟩
  · unfold partS
    rw [if_pos hh]
    have e : partL (pk L) (L.length : Int) (l.length : Int) (m.length : Int) = m := by
      unfold partL pk
      rw [pack_list, Int.toNat_natCast, Int.toNat_natCast, Int.toNat_natCast, BM.listOf_pack, hL, List.drop_left, List.take_of_length_le (Nat.le_refl _)]
    rw [e]; rfl
  · unfold partN; rw [if_pos hh]
theorem pk_len {l : List Bool} (h : (pk l).size ≤ 127) : l.length ≤ 1016 := by
  unfold pk at h; rw [pack_size] at h; omega
theorem pk_size (l : List Bool) (h : l.length ≤ 20000) : (pk l).size ≤ maxLen := by
  unfold pk maxLen; rw [pack_size]; omega
theorem pk_nil : pk [] = ⟨#[]⟩ := rfl

/-- what the law asks of two strings that are joined -/
structure JoinFacts (s : ByteArray) (N : Int) (t : ByteArray) (M : Int) (R : ByteArray) (K : Int) (U : ByteArray) (KU : Int) (V : ByteArray) (KV : Int) : Prop where
  x : ∀ W, Calls Try.prog 19 #[.agg #[.string R, .int .i64 K], .int .i64 0, .int .i64 N] W (BPost s N true W)
  y : ∀ W, Calls Try.prog 19 #[.agg #[.string R, .int .i64 K], .int .i64 N, .int .i64 M] W (BPost t M true W)
  z : ∀ W, Calls Try.prog 16 #[.agg #[.string s, .int .i64 N], .agg #[.string ⟨#[]⟩, .int .i64 0]] W (BPost s N true W)
  u : ∀ W, Calls Try.prog 16 #[.agg #[.string R, .int .i64 K], .agg #[.string s, .int .i64 N]] W (BPost U KU true W)
  v : ∀ W, Calls Try.prog 16 #[.agg #[.string t, .int .i64 M], .agg #[.string s, .int .i64 N]] W (BPost V KV true W)
  w : ∀ W, Calls Try.prog 16 #[.agg #[.string s, .int .i64 N], .agg #[.string V, .int .i64 KV]] W (BPost U KU true W)
theorem joinCalls (l m : List Bool) (h : l.length + m.length ≤ 20000) (W : World) :
    Calls Try.prog 16 #[.agg #[.string (pk l), .int .i64 (l.length : Int)], .agg #[.string (pk m), .int .i64 (m.length : Int)]] W (BPost (pk (l ++ m)) ((l ++ m).length : Int) true W) := by
  have := implJoined_any (pk l) (l.length : Int) (pk m) (m.length : Int) W (pk_size l (by omega)) (pk_size m (by omega))
  obtain ⟨h1, h2, h3⟩ := join_pk l m h
  rw [h1, h2, h3] at this
  exact this
theorem join_facts {s : ByteArray} {N : Int} {t : ByteArray} {M : Int} (h : joinB s N t M = true) (hs : s.size ≤ 127) (ht : t.size ≤ 127) :
    ∃ U KU V KV, JoinFacts s N t M (joinS s N t M) (joinN s N t M) U KU V KV := by
  unfold joinB at h
  rw [Bool.and_eq_true, Bool.and_eq_true] at h
  obtain ⟨l, rfl, rfl⟩ := pk_of h.1
  obtain ⟨m, rfl, rfl⟩ := pk_of h.2.1
  have hl := pk_len hs
  have hm := pk_len ht
  obtain ⟨h1, h2, h3⟩ := join_pk l m (by omega)
  rw [h2, h3]
  have hL : (l ++ m).length ≤ 20000 := by rw [List.length_append]; omega
  refine ⟨pk ((l ++ m) ++ l), (((l ++ m) ++ l).length : Int), pk (m ++ l), ((m ++ l).length : Int), ?_, ?_, ?_, ?_, ?_, ?_⟩
  · intro W
    have := implPart_any (pk (l ++ m)) ((l ++ m).length : Int) 0 (l.length : Int) W (pk_size _ hL) (by omega)
    obtain ⟨p1, p2, p3⟩ := part_prefix (L := l ++ m) rfl hL
    change hasB (pk (l ++ m)) _ _ _ = _ at p1
    change partS (pk (l ++ m)) _ _ _ = _ at p2
    change partN (pk (l ++ m)) _ _ _ = _ at p3
    rw [p1, p2, p3] at this
    exact this
  · intro W
    have := implPart_any (pk (l ++ m)) ((l ++ m).length : Int) (l.length : Int) (m.length : Int) W (pk_size _ hL) (by omega)
    obtain ⟨p1, p2, p3⟩ := part_tail (L := l ++ m) rfl hL
    rw [p1, p2, p3] at this
    exact this
  · intro W
    have := joinCalls l [] (by simp; omega) W
    rw [List.append_nil] at this
    exact this
  · exact fun W => joinCalls (l ++ m) l (by rw [List.length_append]; omega) W
  · exact fun W => joinCalls m l (by omega) W
  · intro W
    have := joinCalls l (m ++ l) (by rw [List.length_append]; omega) W
    rw [← List.append_assoc] at this
    exact this
end Go.Proofs.Ytpnfkmhhilnglaa
