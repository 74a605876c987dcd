/- Walks: the program's encoding of a number: a range over a function. -/
import Derived.RangeFuncBox
import Derived.RangeFuncLeaves
import Derived.Shelf.Abstract
import Derived.OwnWalkIn
import Derived.TacticsInMore
import Derived.LoopNIn
import Derived.LoopIn
import Derived.Test.YtpnfkmhhilnglabVb
namespace Go.Proofs.Ytpnfkmhhilnglab
open Go.RowKit Go.Shelf

attribute [local go_sem] Oper.semAt_some

theorem u8_or (a b : Nat) (ha : a < 256) (hb : b < 256) : bits .or .u8 (a : Int) (b : Int) = ((a ||| b : Nat) : Int) := by
  have hx : a ||| b < 2 ^ 8 := Nat.or_lt_two_pow (by omega) (by omega)
  have h1 : (BitVec.ofInt 8 (a : Int)).toNat = a := by
    rw [BitVec.ofInt_natCast, BitVec.toNat_ofNat]; exact Nat.mod_eq_of_lt (by omega)
  have h2 : (BitVec.ofInt 8 (b : Int)).toNat = b := by
    rw [BitVec.ofInt_natCast, BitVec.toNat_ofNat]; exact Nat.mod_eq_of_lt (by omega)
  show IntKind.u8.wrap ((BitVec.ofInt 8 (a : Int) ||| BitVec.ofInt 8 (b : Int)).toNat : Int) = _
  rw [BitVec.toNat_or, h1, h2, IntKind.wrap_u8]
  omega
theorem or_128 (x : Nat) (h : x < 256) : x ||| 128 = x % 128 + 128 := by
  have e : x = x % 128 + 2 ^ 7 * (x / 128) := by omega
  have h1 : x / 128 < 2 := by omega
  have hm : x % 128 < 2 ^ 7 := Nat.mod_lt _ (by decide)
  have key : ∀ b : Nat, b < 2 → ∀ r : Nat, r < 2 ^ 7 → (r + 2 ^ 7 * b) ||| 128 = r + 128 := by
    intro b hb r hr
    rw [Nat.add_comm, Nat.two_pow_add_eq_or_of_lt hr, Nat.or_comm _ r, Nat.or_assoc]
    have hb' : b = 0 ∨ b = 1 := by omega
    have h2 : 2 ^ 7 * b ||| 128 = 2 ^ 7 * 1 := by rcases hb' with rfl | rfl <;> rfl
    rw [h2, Nat.or_comm, ← Nat.two_pow_add_eq_or_of_lt hr, Nat.add_comm]
  conv => lhs; rw [e]
  exact key _ h1 _ hm
theorem or128 (y : Nat) : bits .or .u8 ((y : Int) % 256) 128 = ((y % 128 + 128 : Nat) : Int) := by
  have h : (y : Int) % 256 = ((y % 256 : Nat) : Int) := by omega
  rw [h]
  show bits .or .u8 ((y % 256 : Nat) : Int) ((128 : Nat) : Int) = _
  rw [u8_or _ _ (Nat.mod_lt _ (by decide)) (by decide), or_128 _ (Nat.mod_lt _ (by decide))]
  omega

set_option maxRecDepth 100000 in
set_option maxHeartbeats 1000000 in
theorem varBytes1_in (F : Fence) (n : Nat) (h6 : F.fn 53) (hro : F.round = none) (hn : 1 ≤ n) (l Bn n₀ : Nat) (m : Int) (J Jx : List Nat → World → Prop)
    (hY : ∀ pre (x : Nat) W, J pre W → pre.length < (VM.var (i64u m)).length → YieldAt F (n - 1) Try.prog l #[.int .u8 (x : Int)] W fun e W' =>
      (e = .returned (.bool true) ∧ J (pre ++ [x]) W' ∧ Below n₀ W W') ∨ (e = .returned (.bool false) ∧ Jx (pre ++ [x]) W'))
    (W : World) (hBn : W.cell? ⟨Bn, 0, none⟩ = some (.int .i64 m)) (h0 : J [] W) :
    CallsIn F n Try.prog 53 #[.func (.yield l) #[] #[], .pointer (some ⟨Bn, 0, none⟩)] W fun e W' => (∃ v, e = .returned v) ∧
      ((∃ ys, ys = VM.var (i64u m) ∧ J ys W') ∨ (∃ pre, pre <+: VM.var (i64u m) ∧ Jx pre W')) := by
  have hu64 := u64_wrap m
  have hult := i64u_lt m
  obtain ⟨V, hV⟩ : ∃ V, V = VM.var (i64u m) := ⟨_, rfl⟩
  rw [← hV] at hY ⊢
  generalize i64u m = u at *
  have HV := Lib.hid hV
  clear hV
  refine callsIn_of_wp Try.func53 rfl h6 ?_ hro
  simp only [Try.ntmps53, List.size_toArray, List.length_cons, List.length_nil, Nat.reduceAdd, Nat.reduceSub, Array.replicate_succ, Array.replicate_zero, List.push_toArray, List.append_toArray, List.nil_append, List.cons_append]
  gi_wp2
  gi_loopw [3] (fun p wr => ∃ (pre : List Nat) (y : Nat), p = .int .u64 (y : Int) ∧ V = pre ++ VM.var y ∧ y < 2 ^ 64 ∧ J pre wr)
    (fun p _ => (intOf p).toNat)
  case atStart =>
    exact ⟨[], u, rfl, HV.out, hult, h0⟩
  case round =>
    obtain ⟨pre, y, rfl, hpre, hy, hJs⟩ := hrel
    have Hpre := Lib.hid hpre
    have Hy := Lib.hid hy
    clear hpre HV hu64 hy hult
    by_cases hlt : y < 128
    · have hl : pre.length < V.length := by rw [Hpre.out, VM.var_lt hlt]; simp
      obtain ⟨fn, tmps, assign, body, hy1, hR⟩ := hY pre y wr hJs hl
      gi_wp2
      refine hR.mono ?_
      rintro e W3 (⟨rfl, hJ3, hk3⟩ | ⟨rfl, hJx3⟩)
      · gi_wp2
        go_end0
        exact ⟨⟨_, rfl⟩, .inl ⟨_, by rw [Hpre.out, VM.var_lt hlt], hJ3⟩⟩
      · gi_wp2
        go_end0
        exact ⟨⟨_, rfl⟩, .inr ⟨pre ++ [y], by rw [Hpre.out, VM.var_lt hlt]; exact List.prefix_refl _, hJx3⟩⟩
    · have hl : pre.length < V.length := by rw [Hpre.out, VM.var_ge (by omega)]; simp
      obtain ⟨x, hx⟩ : ∃ x : Nat, x = y % 128 + 128 := ⟨_, rfl⟩
      have hor : bits .or .u8 ((y : Int) % 256) 128 = (x : Int) := by rw [hx]; exact or128 y
      have Hx := Lib.hid hx
      clear hx
      obtain ⟨fn, tmps, assign, body, hy1, hR⟩ := hY pre x wr hJs hl
      gi_wp2
      refine hR.mono ?_
      rintro e W3 (⟨rfl, hJ3, hk3⟩ | ⟨rfl, hJx3⟩)
      · gi_wp2
        go_roundw
        case rel =>
          refine ⟨pre ++ [x], y / 128, by simp, ?_, Nat.lt_of_le_of_lt (Nat.div_le_self _ _) Hy.out, hJ3⟩
          rw [Hpre.out, VM.var_ge (by omega), Hx.out]; simp
        case measure => simp [intOf]; omega
      · gi_wp2
        refine bodyPost_ret (results_none rfl _ _ _) rfl ?_
        exact ⟨⟨_, rfl⟩, .inr ⟨pre ++ [x], by rw [Hpre.out, VM.var_ge (by omega), Hx.out]; exact ⟨VM.var (y / 128), by simp⟩, hJx3⟩⟩

/-- varBytes(n): n is boxed; the function value captures the box. -/
theorem varBytes_in (F : Fence) (n : Nat) (h5 : F.fn 47) (hro : F.round = none) (m : Int) (w : World) :
    CallsIn F n Try.prog 47 #[.int .i64 m] w fun e w' => e = .returned (.func (.func 53) #[] #[.pointer (some ⟨w.heap.size, 0, none⟩)]) ∧ w' = w.alloc (.cells #[.int .i64 m] 2) := by
  refine callsIn_of_wp Try.func47 rfl h5 ?_ hro
  simp only [Try.ntmps47, List.size_toArray, List.length_cons, List.length_nil, Nat.reduceAdd, Nat.reduceSub, Array.replicate_succ, Array.replicate_zero, List.push_toArray, List.append_toArray, List.nil_append, List.cons_append]
  gi_wp2
  go_ret
  exact ⟨rfl, rfl⟩

theorem varBytes_stops (F : Fence) (n : Nat) (h6 : F.fn 53) (hro : F.round = none) (hn : 1 ≤ n) (Bn n₀ : Nat) (m : Int) (w : World) (hBn : Bn < w.heap.size)
    (hc : w.cell? ⟨Bn, 0, none⟩ = some (.int .i64 m)) :
    SeqStopsK F n Try.prog 53 #[.pointer (some ⟨Bn, 0, none⟩)] (fun x : Nat => #[Value.int .u8 (x : Int)]) (Below n₀) (fun ys => ys = VM.var (i64u m)) (fun pre => pre <+: VM.var (i64u m)) (VM.var (i64u m)).length w := fun l J Jx W hW _ _ hY h0 =>
  varBytes1_in F n h6 hro hn l Bn n₀ m J Jx hY W ((hW.cell (p := ⟨Bn, 0, none⟩) hBn).trans hc) h0

set_option maxRecDepth 100000 in
set_option maxHeartbeats 2000000 in
/-- appendVar(out, m): out's bytes, then those of m; what lies below out's base stays. -/
theorem appendVar_in (F : Fence) (n : Nat) (h3 : F.fn 33) (h4 : F.fn 47) (h5 : F.fn 53) (hro : F.round = none) (hn : 3 ≤ n)
    (n₀ : Nat) (v0 : Value) (xs : List Nat) (m : Int) (w : World) (hn₀ : n₀ ≤ w.heap.size) (hxs : xs.length ≤ 100000) (hrow0 : w.ownsRow n₀ 5 1 v0 xs.length (byteCells xs)) :
    CallsIn F n Try.prog 33 #[v0, .int .i64 m] w fun e W' => ∃ v, e = .returned v ∧ W'.ownsRow n₀ 5 1 v (xs ++ VM.var (i64u m)).length (byteCells (xs ++ VM.var (i64u m))) ∧ Below n₀ w W' := by
  have h1 : 1 ≤ n := by omega
  have h10 := VM.var_len64 _ (i64u_lt m)
  obtain ⟨i0, hi, hz0, hz1, hz2⟩ := info_parts u_info_u8
  refine callsIn_of_wp_marks Try.func33 rfl h3 ?_ hro
  simp only [Try.ntmps33, List.size_toArray, List.length_cons, List.length_nil, Nat.reduceAdd, Nat.reduceSub, Array.replicate_succ, Array.replicate_zero, List.push_toArray, List.append_toArray, List.nil_append, List.cons_append]
  obtain ⟨b0, l0, c0, rfl⟩ : ∃ b l c, v0 = .slice b l c := by
    rcases hrow0.2 with ⟨rfl, _⟩ | ⟨g, cap, cur, rfl, _⟩ <;> exact ⟨_, _, _, rfl⟩
  gi_wp2_with (gi_at_call 47; refine (varBytes_in F (n - 1) h4 hro _ _).mono ?_; rintro e w' ⟨rfl, rfl⟩)
  have bO := Boxed.new w 22 (.slice b0 l0 c0)
  have bN := Boxed.new (w.alloc (.cells #[.slice b0 l0 c0] 22)) 2 (.int .i64 m)
  rw [World.size_alloc] at bN
  have hB0 : Below n₀ w ((w.alloc (.cells #[.slice b0 l0 c0] 22)).alloc (.cells #[.int .i64 m] 2)) := ((Below.refl _ w).alloc hn₀ _).alloc (by simp; omega) _
  refine wpIn_rangeFunc_ownG hro h1 (gf := 53) (lb := #[.pointer (some ⟨w.heap.size + 1, 0, none⟩)]) rfl h5 (enters_of Try.func53 (by kernel_rfl) rfl)
    (varBytes_stops F (n - 1) h5 hro (by omega) (w.heap.size + 1) n₀ m _ (by simp) bN.cell) belowK_t (belowK_b (by simp; omega)) (Below.refl _ _) (fun _ => rfl)
    (fun pre W => (∃ v, Boxed W w.heap.size 22 v ∧ W.ownsRow n₀ 5 1 v (xs.length + pre.length) (byteCells (xs ++ pre)) ∧ True) ∧ Below n₀ w W)
    (fun _ _ _ => False)
    (OwnFrom.and (Own.from (holdsRow_own n₀ w.heap.size 22 5 1 (fun pre => xs.length + pre.length) (fun pre => byteCells (xs ++ pre)) (fun _ _ => True)) _) (ownFrom_below hn₀ (by simp; omega)))
    (fun _ _ _ _ _ hs _ _ => hs)
    ⟨⟨_, bO.alloc _, by rw [List.append_nil, List.length_nil, Nat.add_zero]; exact (hrow0.alloc _).alloc _, trivial⟩, hB0⟩
    (fun x : Nat => { tmps := #[.slice b0 l0 c0, .int .i64 m, .pointer (some ⟨w.heap.size, 0, none⟩), undef, .slice none 0 0, .int .u8 (x : Int), .int .i64 m, .func (.func 53) #[] #[.pointer (some ⟨w.heap.size + 1, 0, none⟩)], .int .u8 (x : Int), undef, undef, undef, undef, undef], defers := [] }) ?assign ?body ?done ?stop
  case assign =>
    intro l x W K hK
    gi_wp2
    exact hK
  case body =>
    rintro l pre x W ⟨⟨v, hv, hrow, -⟩, hB⟩ hlt
    have hc := hv.cell
    have hsB := hB.size
    have hpl : xs.length + pre.length ≤ 100010 := by omega
    gi_wp2_with (gi_at_builtin; refine wpListIn_append_own _ rfl _ _ 22 rfl n₀ 5 i0 (.int .u8 0) 1 1 Try.underlying22 hi hz0 hz1 hz2 rfl (by decide) _ _ _ rfl (hrow.alloc _) ⟨W.heap.size, 0, none⟩ 1 1 [.int .u8 (x : Int)] rfl rfl (cell_one_new _ _ _) (by simp [Value.oneCell']) (by unfold maxLen; omega) (by omega) (by simp; omega) ?_; intro v' w1 hown' hgrow _; obtain ⟨g', cap', rfl⟩ := ownsRow_succ hown'; obtain ⟨hv1, hv2, hr2, hk2, hb2⟩ := hv.appended (by decide) hrow (by omega) hn₀ hown' hgrow; have hc1 := hv1.cell; have hf1 := hv1.frozen)
    exact ⟨hk2.from _, hb2, ⟨_, hv2, by rw [← List.append_assoc, byteCells_append, List.length_append, ← Nat.add_assoc]; exact hr2, trivial⟩, hB.trans hb2⟩
  case done =>
    rintro D ys W hD rfl ⟨⟨v, hv, hrow, -⟩, hB⟩ hK
    have hc := hv.cell
    gi_wp2
    refine ⟨by simp, .inl ⟨_, _, rfl, run_takeDeferred hK, ?_⟩⟩
    exact ⟨_, results_tmp rfl _ _ _, v, rfl, by rw [List.length_append]; exact ownsRow_putObj hrow _ hK rfl, hB.trans (belowK_b (w := w) hn₀ W D _ _ (by simp at hD; omega) hK rfl rfl)⟩
  case stop =>
    rintro D c pre W _ _ h _
    exact h.elim

theorem appendVar_any (n₀ : Nat) (v0 : Value) (xs : List Nat) (m : Int) (w : World) (hn₀ : n₀ ≤ w.heap.size) (hxs : xs.length ≤ 100000) (hrow0 : w.ownsRow n₀ 5 1 v0 xs.length (byteCells xs)) :
    Calls Try.prog 33 #[v0, .int .i64 m] w fun e W' => ∃ v, e = .returned v ∧ W'.ownsRow n₀ 5 1 v (xs ++ VM.var (i64u m)).length (byteCells (xs ++ VM.var (i64u m))) ∧ Below n₀ w W' :=
  (callsIn_wide (n := 3)).1 (appendVar_in Fence.wide 3 trivial trivial trivial rfl (Nat.le_refl _) n₀ v0 xs m w hn₀ hxs hrow0)

set_option maxRecDepth 100000 in
set_option maxHeartbeats 1000000 in
theorem implVarOf_any (n : Int) (w : World) :
    Calls Try.prog 12 #[.int .i64 n] w fun e w' => e = .returned (.string (varS n)) ∧ Below w.heap.size w w' := by
  have hS : varS n = ⟨((VM.var (i64u n)).map UInt8.ofNat).toArray⟩ := rfl
  have hc := Lib.hid (fun W => appendVar_any W.heap.size (.slice none 0 0) [] n W (Nat.le_refl _) (by simp) (World.ownsRow_nil _ _ _ _))
  rw [hS]
  clear hS
  go_enter Try.func12, Try.ntmps12
  go_wp2_with fail
  refine (hc.out _).mono ?_
  rintro e w1 ⟨v, rfl, hown, hb1⟩
  rw [List.nil_append] at hown
  have hconv := conv_own hown
  clear hown
  go_wp2_with fail
  go_ret
  exact ⟨rfl, hb1⟩
end Go.Proofs.Ytpnfkmhhilnglab
