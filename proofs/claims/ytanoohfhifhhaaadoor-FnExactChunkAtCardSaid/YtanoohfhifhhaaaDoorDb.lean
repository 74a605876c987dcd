/- Walks: the program's bits of times. -/
import Derived.Test.YtanoohfhifhhaaaDoorDa
import Derived.Test.YtanoohfhifhhaaaDoorCe
set_option linter.unusedVariables false
set_option linter.unusedSimpArgs false
namespace Go.Proofs.YtanoohfhifhhaaaDoor
open Go.RowKit

theorem CodesAt.put {W W' : World} {gc g : Nat} {l : List Bool} (p : CodesAt W gc) (h : BitsAt W g l) (k : W.grownBy W' (some g)) : CodesAt W' gc := by
  obtain ⟨a0, b0, a1, b1, a2, b2, a3, b3, a4, b4, hc, c0, c1, c2, c3, c4⟩ := p
  obtain ⟨ws, hb, hw⟩ := h
  have hs := baCells_size ws (l.length : Int) hw.1
  unfold BaBlk at hb
  have hr : ∀ g', some g = some g' → ∀ c ty, W.heap[g']? = some (.cells c ty (0, 0)) → c.size ≠ 1 := by
    intro g' hg c ty hc
    injection hg with hg
    subst hg
    rw [hb] at hc
    injection hc with hc
    injection hc with hc _ _
    rw [← hc, hs]; omega
  have hne : some gc ≠ some g := by
    intro he
    injection he with he
    subst he
    rw [hb] at hc
    injection hc with hc
    injection hc with hc _ _
    have := congrArg Array.size hc
    rw [hs] at this
    simp at this
  exact ⟨a0, b0, a1, b1, a2, b2, a3, b3, a4, b4, (k.block _ (heap_lt hc) hne).trans hc, c0.grown k hr, c1.grown k hr, c2.grown k hr, c3.grown k hr, c4.grown k hr⟩
theorem stepAt_zero (xs : List Int) : stepAt xs (0 - 1) = 0 := rfl
/-- the world in a round of the program's loop over times -/
structure TR (w : World) (gb gc : Nat) (xs : List Int) (k : Nat) (wr : World) : Prop where
  l : BitsAt wr gb (timesTo xs k)
  c : CodesAt wr gc
  r : ResBlk wr w.heap.size
  f : Below w.heap.size w wr
theorem TR.put {w : World} {gb gc : Nat} {xs : List Int} {k : Nat} {wr W' : World} {L : List Bool} (p : TR w gb gc xs k wr) (hgb : w.heap.size < gb) (hT : timesTo xs (k + 1) = L) (hl : BitsAt W' gb L) (hg : wr.grownBy W' (some gb)) : TR w gb gc xs (k + 1) W' :=
  ⟨hT ▸ hl, p.c.put p.l hg, p.r.grown hg (by simp; omega), p.f.grown hg p.f.size (fun k hk => by injection hk with hk; omega)⟩

set_option maxRecDepth 100000 in
set_option maxHeartbeats 4000000 in
theorem implTimesBits_go (v : Value) (xs : List Int) (w : World) (h : IL w w.heap.size v xs) (R : List UInt8) (n : Nat) (B : Bool) (hB : timesOkB xs = B) (hR : B = true → BM.pack (timesL xs) = R ∧ (timesL xs).length = n) (hf : B = false → R = [] ∧ n = 0) :
    Calls Tryd.prog 74 #[v] w (BPost ⟨R.toArray⟩ (n : Int) B w) := by
  have hb0 : Below w.heap.size w (w.alloc (.cells #[.string ⟨#[]⟩, .int .i64 0] 77)) := below1 w _
  have hI := h.below hb0
  have hI1 := Lib.hid (hI.up hb0.size)
  obtain ⟨hr, hlen, A, c, rfl, h3⟩ := h
  have hR0 : ResBlk (w.alloc (.cells #[.string ⟨#[]⟩, .int .i64 0] 77)) w.heap.size := heap_alloc_new w _
  have HR0 := Lib.hid hR0
  have HB0 := Lib.hid hb0
  have hok := implTimesOk_any _ xs _ hI1.out
  rw [hB] at hok
  have Hok := Lib.hid hok
  have hl120 : B = true → xs.length ≤ 120 := fun hh => by rw [hh] at hB; unfold timesOkB at hB; rw [Bool.and_eq_true, decide_eq_true_iff] at hB; exact hB.1
  have hgo : B = true → goodTo xs xs.length = true := fun hh => by rw [hh] at hB; unfold timesOkB at hB; rw [Bool.and_eq_true] at hB; exact hB.2
  have H3 := Lib.hid h3
  clear hok hR0 hb0 hI h3 hr
  go_enter Tryd.func74, Tryd.ntmps74
  go_wp2_with fail
  refine Hok.out.mono ?_
  rintro e w1 ⟨rfl, hb1⟩
  cases B with
  | false =>
    obtain ⟨rfl, rfl⟩ := hf rfl
    have hr1 := HR0.out.below hb1
    have r0 := hr1.c0
    have r1 := hr1.c1
    have f0 := hr1.f 0
    have f1 := hr1.f 1
    have hf1 := HB0.out.trans (hb1.mono HB0.out.size)
    clear hb1 hr1 hR hB hf hl120 hgo
    go_wp2_with fail
    exact bodyPost_ret (v := .tuple #[.agg #[.string ⟨#[]⟩, .int .i64 0], .bool false]) (by simp [results, Tryd.results74, go_sem, r0, r1]) rfl
      ⟨rfl, (hf1.setCell (by simp) _).setCell (by simp) _⟩
  | true =>
    obtain ⟨h1, h2⟩ := hR rfl
    subst h1 h2
    have hl := hl120 rfl
    have hgo := hgo rfl
    have Hgo := Lib.hid hgo
    have hr1 := HR0.out.below hb1
    have hf1 := HB0.out.trans (hb1.mono HB0.out.size)
    have hb2 : Below w1.heap.size w1 (w1.alloc (.cells (baCells zeroWs 0) 113)) := below1 w1 _
    have hl0 : BitsAt (w1.alloc (.cells (baCells zeroWs 0) 113)) w1.heap.size [] := ⟨zeroWs, BaBlk.new w1 zeroWs 0, BM.words_zero⟩
    have HR1 := Lib.hid (hr1.below hb2)
    have HF1 := Lib.hid (hf1.trans (hb2.mono hf1.size))
    have HL0 := Lib.hid hl0
    have hz1 := hf1.size
    have hw1 : w.heap.size < w1.heap.size := hr1.lt
    obtain ⟨gb, hgb⟩ : ∃ gb, gb = w1.heap.size := ⟨_, rfl⟩
    clear hr1 hf1 hR hf hl120 hgo hB hb1 hb2 hl0
    go_wp2_with (first
      | (with_reducible refine wl_alloc_ba ?_))
    refine (newStepCodes_any _).mono ?_
    rintro e w2 ⟨gc, rfl, hcs, hgc, hb2⟩
    have HC := Lib.hid hcs
    have HR2 := Lib.hid (HR1.out.below hb2)
    have HF2 := Lib.hid (HF1.out.trans (hb2.mono HF1.out.size))
    have HL2 := Lib.hid (HL0.out.below hb2)
    clear hb2 hcs HR1 HF1 HL0
    go_wp2_with fail
    have HT := Lib.hid (show TR w w1.heap.size gc xs 0 w2 from ⟨HL2.out, HC.out, HR2.out, HF2.out⟩)
    clear HC HR2 HF2 HL2 hgb gb
    go_loopw [6, 17] (fun st i wr => ∃ k : Nat, k ≤ xs.length ∧ i = .int .i64 (k : Int) ∧ st = .int .i64 (stepAt xs (k - 1)) ∧ Hid (TR w w1.heap.size gc xs k wr))
      (fun _ i _ => xs.length - (intOf i).toNat)
    case atStart => exact ⟨0, Nat.zero_le _, by simp, by simp [stepAt], HT⟩
    case round =>
      clear HT
      obtain ⟨k, hk, rfl, rfl, HT⟩ := hrel
      by_cases hlt : k < xs.length
      · rcases H3.out with h3 | ⟨b, off, rfl, hbl, hc⟩
        · subst h3; simp at hlt
        clear H3
        have hb := HT.out.f
        have hx : wr.cell? ⟨b, off + k, none⟩ = some (.int .i64 (xs.getD k 0)) := (hb.cell (p := ⟨b, off + k, none⟩) hbl).trans (hc k hlt)
        have hlk := timesTo_le xs k
        by_cases hk0 : k = 0
        · subst hk0
          rw [Nat.add_zero] at hx
          have hput := put_bits w1.heap.size (timesTo xs 0) (u64of (xs.getD 0 0)) 40 wr HT.out.l (by omega) (by omega) (u64of_lt2 _)
          have hcv := wrap_u64of' (xs.getD 0 0)
          have HD := Lib.hid (timesTo_zero xs)
          have Hput := Lib.hid hput
          generalize u64of (xs.getD 0 0) = U at *
          generalize xs.getD 0 0 = x0 at *
          clear hput hc hb
          go_wp2_with fail
          refine Hput.out.mono ?_
          rintro e w5 ⟨rfl, hl5, hg5⟩
          have HT5 := Lib.hid (HT.out.put hw1 HD.out hl5 hg5)
          clear hl5 hg5 hlk HT
          go_wp2_with fail
          go_roundw
          case rel => exact ⟨0 + 1, by omega, by go_num, rfl, HT5⟩
          case measure => simp [intOf]; omega
        · have hx1 : wr.cell? ⟨b, off + (k - 1), none⟩ = some (.int .i64 (xs.getD (k - 1) 0)) := (hb.cell (p := ⟨b, off + (k - 1), none⟩) hbl).trans (hc (k - 1) (by omega))
          have hst1 := stepAt_in Hgo.out hlt
          have hst2 := stepAt_in Hgo.out (show k - 1 < xs.length by omega)
          have hput := codesPut_any w1.heap.size gc (timesTo xs k) (stepAt xs k - stepAt xs (k - 1)) wr HT.out.c HT.out.l (by omega)
          have HD := Lib.hid (timesTo_succ (xs := xs) hk0)
          have hse : stepAt xs k = xs.getD k 0 - xs.getD (k - 1) 0 := by unfold stepAt; rw [if_neg hk0]
          have Hput := Lib.hid hput
          generalize codeB (stepAt xs k - stepAt xs (k - 1)) = D at *
          generalize hP : stepAt xs (k - 1) = p at *
          generalize hS : stepAt xs k = q at *
          have hX := goodAt_in (goodTo_at Hgo.out hlt)
          have hX1 := goodAt_in (goodTo_at Hgo.out (show k - 1 < xs.length by omega))
          generalize xs.getD k 0 = x at *
          generalize xs.getD (k - 1) 0 = y at *
          have HS := Lib.hid hS
          have hw1' : wrap64 (x - y) = q := by unfold wrap64; omega
          have hw2 : wrap64 (q - p) = q - p := by unfold wrap64; omega
          clear hP hS hse hc hb hX hX1 hput
          go_wp2_with fail
          refine Hput.out.mono ?_
          rintro e w5 ⟨rfl, hl5, hg5⟩
          have HT5 := Lib.hid (HT.out.put hw1 HD.out hl5 hg5)
          clear hl5 hg5 hlk HT
          go_wp2_with fail
          go_roundw
          case rel => exact ⟨k + 1, by omega, by go_num, by rw [Nat.add_sub_cancel, HS.out], HT5⟩
          case measure => simp [intOf]; omega
      · obtain rfl : k = xs.length := by omega
        have hT : TR w w1.heap.size gc xs xs.length wr := HT.out
        obtain ⟨ws, hbk, hws⟩ := hT.l
        have hpk := packed_any w1.heap.size ws (timesTo xs xs.length) wr hbk hws
        have HP := Lib.hid hpk
        have HR := Lib.hid hT.r
        have HF := Lib.hid hT.f
        change Hid (Calls _ _ _ _ (RetBelow (.agg #[.string ⟨(BM.pack (timesL xs)).toArray⟩, .int .i64 ((timesL xs).length : Int)]) _)) at HP
        clear hT hbk hws hpk HT H3
        generalize timesL xs = L at *
        go_wp2_with fail
        refine HP.out.mono ?_
        rintro e w3 ⟨rfl, hb3⟩
        have hr3 := HR.out.below hb3
        have hf3 := HF.out.trans (hb3.mono HF.out.size)
        have r0 := hr3.c0
        have r1 := hr3.c1
        have f0 := hr3.f 0
        have f1 := hr3.f 1
        clear hb3 hr3
        go_wp2_with fail
        exact bodyPost_ret (v := .tuple #[.agg #[.string ⟨(BM.pack L).toArray⟩, .int .i64 (L.length : Int)], .bool true]) (by simp [results, Tryd.results74, go_sem, r0, r1]) rfl
          ⟨rfl, (hf3.setCell (by simp) _).setCell (by simp) _⟩

/-- what TimesBits returns -/
def tbL (xs : List Int) : List Bool := if timesOkB xs then timesL xs else []
def tbS (xs : List Int) : ByteArray := ⟨(BM.pack (tbL xs)).toArray⟩
theorem pack_nil : BM.pack [] = [] := rfl
theorem implTimesBits_any (v : Value) (xs : List Int) (w : World) (h : IL w w.heap.size v xs) :
    Calls Tryd.prog 74 #[v] w (BPost (tbS xs) ((tbL xs).length : Int) (timesOkB xs) w) :=
  implTimesBits_go v xs w h _ _ _ rfl (fun hb => by unfold tbL; rw [hb]; exact ⟨rfl, rfl⟩) (fun hb => by unfold tbL; rw [hb, if_neg (by decide)]; exact ⟨pack_nil, rfl⟩)
end Go.Proofs.YtanoohfhifhhaaaDoor
