/-
  Every operation on every two tnums is the document's.
-/
import Derived.Test.YtpmhojfbjhgjpaaBase
import Derived.Test.YtpmhojfbjhgjpaaSh
import Derived.Test.YtpmhojfbjhgjpaaArt
import Derived.Test.YtpmhojfbjhgjpaaRmt
import Derived.Test.YtpmhojfbjhgjpaaRin
import Derived.Test.YtpmhojfbjhgjpaaRand
import Derived.Test.YtpmhojfbjhgjpaaRor
import Derived.Test.YtpmhojfbjhgjpaaRxor
import Derived.Test.YtpmhojfbjhgjpaaRjoin
import Derived.Test.YtpmhojfbjhgjpaaRadd
import Derived.Test.YtpmhojfbjhgjpaaRsub
import Derived.Deep.DeepCutAuto
import Derived.Deep.RegionHeld3
import Derived.ProofKit
import Derived.ChangeSame
namespace Go.Proofs.Ytpmhojfbjhgjpaa.tnumExact
open Go.ChangeShapes Go.WideShapes Go.ChangeAt Go.RowKit Go.Joins
set_option linter.unusedVariables false
set_option linter.unusedSimpArgs false
theorem rin_eq (a b : T) (ha : wf a) (hb : wf b) : rin a b = decide (pjoin a b = b) := by
  unfold rin
  rw [Bool.eq_iff_iff]
  simp only [Bool.and_eq_true, decide_eq_true_eq]
  constructor
  · intro ⟨h1, h2⟩
    refine T.ext' ?_ ?_
    · apply bit_ext; intro i hi'
      have w1 := congrArg (fun z => BitVec.getLsbD z i) h1
      have w2 := congrArg (fun z => BitVec.getLsbD z i) h2
      have u := wf_bit ha i
      have v := wf_bit hb i
      revert w1 w2 u v
      simp only [pjoin, wo, BitVec.getLsbD_and, BitVec.getLsbD_or, BitVec.getLsbD_xor, BitVec.getLsbD_not, hi', decide_true, Bool.true_and, BitVec.getLsbD_zero]
      cases a.v.getLsbD i <;> cases a.m.getLsbD i <;> cases b.v.getLsbD i <;> cases b.m.getLsbD i <;> decide
    · apply bit_ext; intro i hi'
      have w1 := congrArg (fun z => BitVec.getLsbD z i) h1
      have w2 := congrArg (fun z => BitVec.getLsbD z i) h2
      have u := wf_bit ha i
      have v := wf_bit hb i
      revert w1 w2 u v
      simp only [pjoin, wo, BitVec.getLsbD_and, BitVec.getLsbD_or, BitVec.getLsbD_xor, BitVec.getLsbD_not, hi', decide_true, Bool.true_and, BitVec.getLsbD_zero]
      cases a.v.getLsbD i <;> cases a.m.getLsbD i <;> cases b.v.getLsbD i <;> cases b.m.getLsbD i <;> decide
  · intro h
    have h1 := congrArg T.v h
    have h2 := congrArg T.m h
    constructor
    · apply bit_ext; intro i hi'
      have w1 := congrArg (fun z => BitVec.getLsbD z i) h1
      have w2 := congrArg (fun z => BitVec.getLsbD z i) h2
      revert w1 w2
      simp only [pjoin, wo, BitVec.getLsbD_and, BitVec.getLsbD_or, BitVec.getLsbD_xor, BitVec.getLsbD_not, hi', decide_true, Bool.true_and, BitVec.getLsbD_zero]
      cases a.v.getLsbD i <;> cases a.m.getLsbD i <;> cases b.v.getLsbD i <;> cases b.m.getLsbD i <;> decide
    · apply bit_ext; intro i hi'
      have w1 := congrArg (fun z => BitVec.getLsbD z i) h1
      have w2 := congrArg (fun z => BitVec.getLsbD z i) h2
      have v := wf_bit hb i
      revert w1 w2 v
      simp only [pjoin, wo, BitVec.getLsbD_and, BitVec.getLsbD_or, BitVec.getLsbD_xor, BitVec.getLsbD_not, hi', decide_true, Bool.true_and, BitVec.getLsbD_zero]
      cases a.v.getLsbD i <;> cases a.m.getLsbD i <;> cases b.v.getLsbD i <;> cases b.m.getLsbD i <;> decide
theorem wo_meet {a b : T} (ha : wf a) (hb : wf b) : wo (a.v ||| b.v) (a.m &&& b.m) = ⟨a.v ||| b.v, a.m &&& b.m⟩ := by
  refine T.ext' ?_ rfl
  apply bit_ext; intro i hi'
  have u := wf_bit ha i
  have v := wf_bit hb i
  revert u v
  simp only [wo, BitVec.getLsbD_and, BitVec.getLsbD_or, BitVec.getLsbD_not, hi', decide_true, Bool.true_and]
  cases a.v.getLsbD i <;> cases a.m.getLsbD i <;> cases b.v.getLsbD i <;> cases b.m.getLsbD i <;> decide
theorem tmod_low (x : BitVec 64) : (nn x).tmod 4294967296 = nn (x &&& 0xffffffff#64) := by
  rw [Int.tmod_eq_emod_of_nonneg (by unfold nn; omega), b_low]
theorem p_meet (a b : T) : ∃ (m : T) (kb : Bool), (∀ w, Calls Try.prog 11 #[.agg #[.int .u64 (nn a.v), .int .u64 (nn a.m)], .agg #[.int .u64 (nn b.v), .int .u64 (nn b.m)]] w fun e w' => e = .returned (.tuple #[.agg #[.int .u64 (nn m.v), .int .u64 (nn m.m)], .bool kb]) ∧ Below w.heap.size w w') ∧ (∀ w, Calls Try.prog 12 #[.agg #[.int .u64 (nn a.v), .int .u64 (nn a.m)], .agg #[.int .u64 (nn b.v), .int .u64 (nn b.m)]] w fun e w' => e = .returned (.tuple #[.agg #[.int .u64 (nn m.v), .int .u64 (nn m.m)], .bool kb]) ∧ Below w.heap.size w w') := by
  by_cases h : apart (kn a) (kn b)
  · exact ⟨_, _, meet_no a b h, rmeet_no a b h⟩
  · refine ⟨_, _, meet_yes a b h, fun w => ?_⟩
    have := rmeet_yes a b h w
    rw [wo_meet (wf_kn a) (wf_kn b)] at this
    exact this
theorem p_is (a : T) : ∃ p1 : Bool, (∀ w, Calls Try.prog 13 #[.agg #[.int .u64 (nn a.v), .int .u64 (nn a.m)]] w fun e w' => e = .returned (.bool p1) ∧ Below w.heap.size w w') ∧ (∀ w, Calls Try.prog 14 #[.agg #[.int .u64 (nn a.v), .int .u64 (nn a.m)]] w fun e w' => e = .returned (.bool p1) ∧ Below w.heap.size w w') := by
  exact ⟨_, is_any a, ris_any a⟩
theorem p_has (a : T) (x : BitVec 64) : ∃ p2 : Bool, (∀ w, Calls Try.prog 15 #[.agg #[.int .u64 (nn a.v), .int .u64 (nn a.m)], .int .u64 (nn x)] w fun e w' => e = .returned (.bool p2) ∧ Below w.heap.size w w') ∧ (∀ w, Calls Try.prog 16 #[.agg #[.int .u64 (nn a.v), .int .u64 (nn a.m)], .int .u64 (nn x)] w fun e w' => e = .returned (.bool p2) ∧ Below w.heap.size w w') := by
  exact ⟨_, has_any a x, rhas_any a x⟩
theorem p_in (a b : T) : ∃ p3 : Bool, (∀ w, Calls Try.prog 17 #[.agg #[.int .u64 (nn a.v), .int .u64 (nn a.m)], .agg #[.int .u64 (nn b.v), .int .u64 (nn b.m)]] w fun e w' => e = .returned (.bool p3) ∧ Below w.heap.size w w') ∧ (∀ w, Calls Try.prog 18 #[.agg #[.int .u64 (nn a.v), .int .u64 (nn a.m)], .agg #[.int .u64 (nn b.v), .int .u64 (nn b.m)]] w fun e w' => e = .returned (.bool p3) ∧ Below w.heap.size w w') := by
  refine ⟨_, in_any a b, fun w => ?_⟩
  have := rin_any a b w
  rw [rin_eq _ _ (wf_kn a) (wf_kn b)] at this
  exact this
theorem p_range (x y : BitVec 64) : ∃ tr : T, (∀ w, Calls Try.prog 20 #[.int .u64 (nn x), .int .u64 (nn y)] w fun e w' => e = .returned (.agg #[.int .u64 (nn tr.v), .int .u64 (nn tr.m)]) ∧ Below w.heap.size w w') ∧ (∀ w, Calls Try.prog 21 #[.int .u64 (nn x), .int .u64 (nn y)] w fun e w' => e = .returned (.agg #[.int .u64 (nn tr.v), .int .u64 (nn tr.m)]) ∧ Below w.heap.size w w') := by
  by_cases h : nn y < nn x
  · exact ⟨_, range_no x y (decide_eq_true h), rrange_no x y (decide_eq_true h)⟩
  · exact ⟨_, range_yes x y (decide_eq_false h), rrange_yes x y (decide_eq_false h) (by omega)⟩
theorem p_join (a b : T) : ∃ tj : T, (∀ w, Calls Try.prog 22 #[.agg #[.int .u64 (nn a.v), .int .u64 (nn a.m)], .agg #[.int .u64 (nn b.v), .int .u64 (nn b.m)]] w fun e w' => e = .returned (.agg #[.int .u64 (nn tj.v), .int .u64 (nn tj.m)]) ∧ Below w.heap.size w w') ∧ (∀ w, Calls Try.prog 23 #[.agg #[.int .u64 (nn a.v), .int .u64 (nn a.m)], .agg #[.int .u64 (nn b.v), .int .u64 (nn b.m)]] w fun e w' => e = .returned (.agg #[.int .u64 (nn tj.v), .int .u64 (nn tj.m)]) ∧ Below w.heap.size w w') := by
  exact ⟨_, join_any a b, rjoin_any a b⟩
theorem p_add (a b : T) : ∃ ta : T, (∀ w, Calls Try.prog 24 #[.agg #[.int .u64 (nn a.v), .int .u64 (nn a.m)], .agg #[.int .u64 (nn b.v), .int .u64 (nn b.m)]] w fun e w' => e = .returned (.agg #[.int .u64 (nn ta.v), .int .u64 (nn ta.m)]) ∧ Below w.heap.size w w') ∧ (∀ w, Calls Try.prog 25 #[.agg #[.int .u64 (nn a.v), .int .u64 (nn a.m)], .agg #[.int .u64 (nn b.v), .int .u64 (nn b.m)]] w fun e w' => e = .returned (.agg #[.int .u64 (nn ta.v), .int .u64 (nn ta.m)]) ∧ Below w.heap.size w w') := by
  exact ⟨_, add_any a b, fun w => by have := radd_any a b w; rw [rpadd_eq] at this; exact this⟩
theorem p_sub (a b : T) : ∃ ts : T, (∀ w, Calls Try.prog 26 #[.agg #[.int .u64 (nn a.v), .int .u64 (nn a.m)], .agg #[.int .u64 (nn b.v), .int .u64 (nn b.m)]] w fun e w' => e = .returned (.agg #[.int .u64 (nn ts.v), .int .u64 (nn ts.m)]) ∧ Below w.heap.size w w') ∧ (∀ w, Calls Try.prog 27 #[.agg #[.int .u64 (nn a.v), .int .u64 (nn a.m)], .agg #[.int .u64 (nn b.v), .int .u64 (nn b.m)]] w fun e w' => e = .returned (.agg #[.int .u64 (nn ts.v), .int .u64 (nn ts.m)]) ∧ Below w.heap.size w w') := by
  exact ⟨_, sub_any a b, fun w => by have := rsub_any a b w; rw [rpsub_eq] at this; exact this⟩
theorem p_and (a b : T) : ∃ tn : T, (∀ w, Calls Try.prog 28 #[.agg #[.int .u64 (nn a.v), .int .u64 (nn a.m)], .agg #[.int .u64 (nn b.v), .int .u64 (nn b.m)]] w fun e w' => e = .returned (.agg #[.int .u64 (nn tn.v), .int .u64 (nn tn.m)]) ∧ Below w.heap.size w w') ∧ (∀ w, Calls Try.prog 29 #[.agg #[.int .u64 (nn a.v), .int .u64 (nn a.m)], .agg #[.int .u64 (nn b.v), .int .u64 (nn b.m)]] w fun e w' => e = .returned (.agg #[.int .u64 (nn tn.v), .int .u64 (nn tn.m)]) ∧ Below w.heap.size w w') := by
  exact ⟨_, and_any a b, fun w => by have := rand_any a b w; rw [rpand_eq] at this; exact this⟩
theorem p_or (a b : T) : ∃ tq : T, (∀ w, Calls Try.prog 30 #[.agg #[.int .u64 (nn a.v), .int .u64 (nn a.m)], .agg #[.int .u64 (nn b.v), .int .u64 (nn b.m)]] w fun e w' => e = .returned (.agg #[.int .u64 (nn tq.v), .int .u64 (nn tq.m)]) ∧ Below w.heap.size w w') ∧ (∀ w, Calls Try.prog 31 #[.agg #[.int .u64 (nn a.v), .int .u64 (nn a.m)], .agg #[.int .u64 (nn b.v), .int .u64 (nn b.m)]] w fun e w' => e = .returned (.agg #[.int .u64 (nn tq.v), .int .u64 (nn tq.m)]) ∧ Below w.heap.size w w') := by
  exact ⟨_, or_any a b, ror_any a b⟩
theorem p_xor (a b : T) : ∃ tx : T, (∀ w, Calls Try.prog 32 #[.agg #[.int .u64 (nn a.v), .int .u64 (nn a.m)], .agg #[.int .u64 (nn b.v), .int .u64 (nn b.m)]] w fun e w' => e = .returned (.agg #[.int .u64 (nn tx.v), .int .u64 (nn tx.m)]) ∧ Below w.heap.size w w') ∧ (∀ w, Calls Try.prog 33 #[.agg #[.int .u64 (nn a.v), .int .u64 (nn a.m)], .agg #[.int .u64 (nn b.v), .int .u64 (nn b.m)]] w fun e w' => e = .returned (.agg #[.int .u64 (nn tx.v), .int .u64 (nn tx.m)]) ∧ Below w.heap.size w w') := by
  exact ⟨_, xor_any a b, rxor_any a b⟩
theorem p_lsh (a : T) (n : Int) : ∃ tl : T, (∀ w, Calls Try.prog 34 #[.agg #[.int .u64 (nn a.v), .int .u64 (nn a.m)], .int .i64 n] w fun e w' => e = .returned (.agg #[.int .u64 (nn tl.v), .int .u64 (nn tl.m)]) ∧ Below w.heap.size w w') ∧ (∀ w, Calls Try.prog 35 #[.agg #[.int .u64 (nn a.v), .int .u64 (nn a.m)], .int .i64 n] w fun e w' => e = .returned (.agg #[.int .u64 (nn tl.v), .int .u64 (nn tl.m)]) ∧ Below w.heap.size w w') := by
  exact ⟨_, lsh_any a n, rlsh_any a n⟩
theorem p_rsh (a : T) (n : Int) : ∃ tg : T, (∀ w, Calls Try.prog 36 #[.agg #[.int .u64 (nn a.v), .int .u64 (nn a.m)], .int .i64 n] w fun e w' => e = .returned (.agg #[.int .u64 (nn tg.v), .int .u64 (nn tg.m)]) ∧ Below w.heap.size w w') ∧ (∀ w, Calls Try.prog 37 #[.agg #[.int .u64 (nn a.v), .int .u64 (nn a.m)], .int .i64 n] w fun e w' => e = .returned (.agg #[.int .u64 (nn tg.v), .int .u64 (nn tg.m)]) ∧ Below w.heap.size w w') := by
  exact ⟨_, rsh_any a n, rrsh_any a n⟩
theorem p_arsh (a : T) (n : Int) (wide : Bool) : ∃ th : T, (∀ w, Calls Try.prog 38 #[.agg #[.int .u64 (nn a.v), .int .u64 (nn a.m)], .int .i64 n, .bool wide] w fun e w' => e = .returned (.agg #[.int .u64 (nn th.v), .int .u64 (nn th.m)]) ∧ Below w.heap.size w w') ∧ (∀ w, Calls Try.prog 39 #[.agg #[.int .u64 (nn a.v), .int .u64 (nn a.m)], .int .i64 n, .bool wide] w fun e w' => e = .returned (.agg #[.int .u64 (nn th.v), .int .u64 (nn th.m)]) ∧ Below w.heap.size w w') := by
  cases wide
  · exact ⟨_, arshN_any a n, rarshN_any a n⟩
  · exact ⟨_, arsh_any a n, rarsh_any a n⟩
theorem p_low (a : T) : ∃ tw : T, (∀ w, Calls Try.prog 40 #[.agg #[.int .u64 (nn a.v), .int .u64 (nn a.m)]] w fun e w' => e = .returned (.agg #[.int .u64 (nn tw.v), .int .u64 (nn tw.m)]) ∧ Below w.heap.size w w') ∧ (∀ w, Calls Try.prog 41 #[.agg #[.int .u64 (nn a.v), .int .u64 (nn a.m)]] w fun e w' => e = .returned (.agg #[.int .u64 (nn tw.v), .int .u64 (nn tw.m)]) ∧ Below w.heap.size w w') := by
  exact ⟨_, low_any a, fun w => by have := rlow_any a w; rw [tmod_low, tmod_low] at this; exact this⟩
theorem p_least (a : T) : ∃ lo : Int, (∀ w, Calls Try.prog 42 #[.agg #[.int .u64 (nn a.v), .int .u64 (nn a.m)]] w fun e w' => e = .returned (.int .u64 lo) ∧ Below w.heap.size w w') ∧ (∀ w, Calls Try.prog 43 #[.agg #[.int .u64 (nn a.v), .int .u64 (nn a.m)]] w fun e w' => e = .returned (.int .u64 lo) ∧ Below w.heap.size w w') := by
  exact ⟨_, least_any a, rleast_any a⟩
theorem p_most (a : T) : ∃ hi : Int, (∀ w, Calls Try.prog 44 #[.agg #[.int .u64 (nn a.v), .int .u64 (nn a.m)]] w fun e w' => e = .returned (.int .u64 hi) ∧ Below w.heap.size w w') ∧ (∀ w, Calls Try.prog 45 #[.agg #[.int .u64 (nn a.v), .int .u64 (nn a.m)]] w fun e w' => e = .returned (.int .u64 hi) ∧ Below w.heap.size w w') := by
  exact ⟨_, most_any a, rmost_any a⟩
def R4 (wb w : World) (p q r s : Nat) (a b c d : T) : Prop := At w p a ∧ At w q b ∧ At w r c ∧ At w s d ∧ Below wb.heap.size wb w
theorem R4.next {wb w w1 : World} {p q r s : Nat} {a b c d : T} (h : R4 wb w p q r s a b c d) (g : Below w.heap.size w w1) : R4 wb w1 p q r s a b c d :=
  ⟨h.1.next g, h.2.1.next g, h.2.2.1.next g, h.2.2.2.1.next g, bl_trans h.2.2.2.2 g⟩
theorem R4.cells {wb w : World} {p q r s : Nat} {a b c d : T} (h : R4 wb w p q r s a b c d) : w.cell? ⟨p, 0, none⟩ = some (.int .u64 (nn a.v)) ∧ w.cell? ⟨p, 1, none⟩ = some (.int .u64 (nn a.m)) ∧ w.cell? ⟨q, 0, none⟩ = some (.int .u64 (nn b.v)) ∧ w.cell? ⟨q, 1, none⟩ = some (.int .u64 (nn b.m)) ∧ w.cell? ⟨r, 0, none⟩ = some (.int .u64 (nn c.v)) ∧ w.cell? ⟨r, 1, none⟩ = some (.int .u64 (nn c.m)) ∧ w.cell? ⟨s, 0, none⟩ = some (.int .u64 (nn d.v)) ∧ w.cell? ⟨s, 1, none⟩ = some (.int .u64 (nn d.m)) ∧ R4 wb w p q r s a b c d :=
  ⟨h.1.1, h.1.2.1, h.2.1.1, h.2.1.2.1, h.2.2.1.1, h.2.2.1.2.1, h.2.2.2.1.1, h.2.2.2.1.2.1, h⟩
theorem keep8 {wb w w1 : World} {p q r s : Nat} {a b c d : T} (g : Below w.heap.size w w1) (h : w.cell? ⟨p, 0, none⟩ = some (.int .u64 (nn a.v)) ∧ w.cell? ⟨p, 1, none⟩ = some (.int .u64 (nn a.m)) ∧ w.cell? ⟨q, 0, none⟩ = some (.int .u64 (nn b.v)) ∧ w.cell? ⟨q, 1, none⟩ = some (.int .u64 (nn b.m)) ∧ w.cell? ⟨r, 0, none⟩ = some (.int .u64 (nn c.v)) ∧ w.cell? ⟨r, 1, none⟩ = some (.int .u64 (nn c.m)) ∧ w.cell? ⟨s, 0, none⟩ = some (.int .u64 (nn d.v)) ∧ w.cell? ⟨s, 1, none⟩ = some (.int .u64 (nn d.m)) ∧ R4 wb w p q r s a b c d) : w1.cell? ⟨p, 0, none⟩ = some (.int .u64 (nn a.v)) ∧ w1.cell? ⟨p, 1, none⟩ = some (.int .u64 (nn a.m)) ∧ w1.cell? ⟨q, 0, none⟩ = some (.int .u64 (nn b.v)) ∧ w1.cell? ⟨q, 1, none⟩ = some (.int .u64 (nn b.m)) ∧ w1.cell? ⟨r, 0, none⟩ = some (.int .u64 (nn c.v)) ∧ w1.cell? ⟨r, 1, none⟩ = some (.int .u64 (nn c.m)) ∧ w1.cell? ⟨s, 0, none⟩ = some (.int .u64 (nn d.v)) ∧ w1.cell? ⟨s, 1, none⟩ = some (.int .u64 (nn d.m)) ∧ R4 wb w1 p q r s a b c d :=
  (h.2.2.2.2.2.2.2.2.next g).cells

set_option maxHeartbeats 8000000 in
set_option maxRecDepth 100000 in
theorem walk0 (a b : T) (n : Int) (x y : BitVec 64) (wide : Bool) (m tr tj ta ts tn tq tx tl tg th tw : T) (kb p1 p2 p3 : Bool) (lo hi : Int) (O_meet : Hid (∀ w, Calls Try.prog 11 #[.agg #[.int .u64 (nn a.v), .int .u64 (nn a.m)], .agg #[.int .u64 (nn b.v), .int .u64 (nn b.m)]] w fun e w' => e = .returned (.tuple #[.agg #[.int .u64 (nn m.v), .int .u64 (nn m.m)], .bool kb]) ∧ Below w.heap.size w w')) (R_meet : Hid (∀ w, Calls Try.prog 12 #[.agg #[.int .u64 (nn a.v), .int .u64 (nn a.m)], .agg #[.int .u64 (nn b.v), .int .u64 (nn b.m)]] w fun e w' => e = .returned (.tuple #[.agg #[.int .u64 (nn m.v), .int .u64 (nn m.m)], .bool kb]) ∧ Below w.heap.size w w')) (O_is : Hid (∀ w, Calls Try.prog 13 #[.agg #[.int .u64 (nn a.v), .int .u64 (nn a.m)]] w fun e w' => e = .returned (.bool p1) ∧ Below w.heap.size w w')) (R_is : Hid (∀ w, Calls Try.prog 14 #[.agg #[.int .u64 (nn a.v), .int .u64 (nn a.m)]] w fun e w' => e = .returned (.bool p1) ∧ Below w.heap.size w w')) (O_has : Hid (∀ w, Calls Try.prog 15 #[.agg #[.int .u64 (nn a.v), .int .u64 (nn a.m)], .int .u64 (nn x)] w fun e w' => e = .returned (.bool p2) ∧ Below w.heap.size w w')) (R_has : Hid (∀ w, Calls Try.prog 16 #[.agg #[.int .u64 (nn a.v), .int .u64 (nn a.m)], .int .u64 (nn x)] w fun e w' => e = .returned (.bool p2) ∧ Below w.heap.size w w')) (O_in : Hid (∀ w, Calls Try.prog 17 #[.agg #[.int .u64 (nn a.v), .int .u64 (nn a.m)], .agg #[.int .u64 (nn b.v), .int .u64 (nn b.m)]] w fun e w' => e = .returned (.bool p3) ∧ Below w.heap.size w w')) (R_in : Hid (∀ w, Calls Try.prog 18 #[.agg #[.int .u64 (nn a.v), .int .u64 (nn a.m)], .agg #[.int .u64 (nn b.v), .int .u64 (nn b.m)]] w fun e w' => e = .returned (.bool p3) ∧ Below w.heap.size w w')) (O_range : Hid (∀ w, Calls Try.prog 20 #[.int .u64 (nn x), .int .u64 (nn y)] w fun e w' => e = .returned (.agg #[.int .u64 (nn tr.v), .int .u64 (nn tr.m)]) ∧ Below w.heap.size w w')) (R_range : Hid (∀ w, Calls Try.prog 21 #[.int .u64 (nn x), .int .u64 (nn y)] w fun e w' => e = .returned (.agg #[.int .u64 (nn tr.v), .int .u64 (nn tr.m)]) ∧ Below w.heap.size w w')) (O_join : Hid (∀ w, Calls Try.prog 22 #[.agg #[.int .u64 (nn a.v), .int .u64 (nn a.m)], .agg #[.int .u64 (nn b.v), .int .u64 (nn b.m)]] w fun e w' => e = .returned (.agg #[.int .u64 (nn tj.v), .int .u64 (nn tj.m)]) ∧ Below w.heap.size w w')) (R_join : Hid (∀ w, Calls Try.prog 23 #[.agg #[.int .u64 (nn a.v), .int .u64 (nn a.m)], .agg #[.int .u64 (nn b.v), .int .u64 (nn b.m)]] w fun e w' => e = .returned (.agg #[.int .u64 (nn tj.v), .int .u64 (nn tj.m)]) ∧ Below w.heap.size w w')) (O_add : Hid (∀ w, Calls Try.prog 24 #[.agg #[.int .u64 (nn a.v), .int .u64 (nn a.m)], .agg #[.int .u64 (nn b.v), .int .u64 (nn b.m)]] w fun e w' => e = .returned (.agg #[.int .u64 (nn ta.v), .int .u64 (nn ta.m)]) ∧ Below w.heap.size w w')) (R_add : Hid (∀ w, Calls Try.prog 25 #[.agg #[.int .u64 (nn a.v), .int .u64 (nn a.m)], .agg #[.int .u64 (nn b.v), .int .u64 (nn b.m)]] w fun e w' => e = .returned (.agg #[.int .u64 (nn ta.v), .int .u64 (nn ta.m)]) ∧ Below w.heap.size w w')) (O_sub : Hid (∀ w, Calls Try.prog 26 #[.agg #[.int .u64 (nn a.v), .int .u64 (nn a.m)], .agg #[.int .u64 (nn b.v), .int .u64 (nn b.m)]] w fun e w' => e = .returned (.agg #[.int .u64 (nn ts.v), .int .u64 (nn ts.m)]) ∧ Below w.heap.size w w')) (R_sub : Hid (∀ w, Calls Try.prog 27 #[.agg #[.int .u64 (nn a.v), .int .u64 (nn a.m)], .agg #[.int .u64 (nn b.v), .int .u64 (nn b.m)]] w fun e w' => e = .returned (.agg #[.int .u64 (nn ts.v), .int .u64 (nn ts.m)]) ∧ Below w.heap.size w w')) (O_and : Hid (∀ w, Calls Try.prog 28 #[.agg #[.int .u64 (nn a.v), .int .u64 (nn a.m)], .agg #[.int .u64 (nn b.v), .int .u64 (nn b.m)]] w fun e w' => e = .returned (.agg #[.int .u64 (nn tn.v), .int .u64 (nn tn.m)]) ∧ Below w.heap.size w w')) (R_and : Hid (∀ w, Calls Try.prog 29 #[.agg #[.int .u64 (nn a.v), .int .u64 (nn a.m)], .agg #[.int .u64 (nn b.v), .int .u64 (nn b.m)]] w fun e w' => e = .returned (.agg #[.int .u64 (nn tn.v), .int .u64 (nn tn.m)]) ∧ Below w.heap.size w w')) (O_or : Hid (∀ w, Calls Try.prog 30 #[.agg #[.int .u64 (nn a.v), .int .u64 (nn a.m)], .agg #[.int .u64 (nn b.v), .int .u64 (nn b.m)]] w fun e w' => e = .returned (.agg #[.int .u64 (nn tq.v), .int .u64 (nn tq.m)]) ∧ Below w.heap.size w w')) (R_or : Hid (∀ w, Calls Try.prog 31 #[.agg #[.int .u64 (nn a.v), .int .u64 (nn a.m)], .agg #[.int .u64 (nn b.v), .int .u64 (nn b.m)]] w fun e w' => e = .returned (.agg #[.int .u64 (nn tq.v), .int .u64 (nn tq.m)]) ∧ Below w.heap.size w w')) (O_xor : Hid (∀ w, Calls Try.prog 32 #[.agg #[.int .u64 (nn a.v), .int .u64 (nn a.m)], .agg #[.int .u64 (nn b.v), .int .u64 (nn b.m)]] w fun e w' => e = .returned (.agg #[.int .u64 (nn tx.v), .int .u64 (nn tx.m)]) ∧ Below w.heap.size w w')) (R_xor : Hid (∀ w, Calls Try.prog 33 #[.agg #[.int .u64 (nn a.v), .int .u64 (nn a.m)], .agg #[.int .u64 (nn b.v), .int .u64 (nn b.m)]] w fun e w' => e = .returned (.agg #[.int .u64 (nn tx.v), .int .u64 (nn tx.m)]) ∧ Below w.heap.size w w')) (O_lsh : Hid (∀ w, Calls Try.prog 34 #[.agg #[.int .u64 (nn a.v), .int .u64 (nn a.m)], .int .i64 n] w fun e w' => e = .returned (.agg #[.int .u64 (nn tl.v), .int .u64 (nn tl.m)]) ∧ Below w.heap.size w w')) (R_lsh : Hid (∀ w, Calls Try.prog 35 #[.agg #[.int .u64 (nn a.v), .int .u64 (nn a.m)], .int .i64 n] w fun e w' => e = .returned (.agg #[.int .u64 (nn tl.v), .int .u64 (nn tl.m)]) ∧ Below w.heap.size w w')) (O_rsh : Hid (∀ w, Calls Try.prog 36 #[.agg #[.int .u64 (nn a.v), .int .u64 (nn a.m)], .int .i64 n] w fun e w' => e = .returned (.agg #[.int .u64 (nn tg.v), .int .u64 (nn tg.m)]) ∧ Below w.heap.size w w')) (R_rsh : Hid (∀ w, Calls Try.prog 37 #[.agg #[.int .u64 (nn a.v), .int .u64 (nn a.m)], .int .i64 n] w fun e w' => e = .returned (.agg #[.int .u64 (nn tg.v), .int .u64 (nn tg.m)]) ∧ Below w.heap.size w w')) (O_arsh : Hid (∀ w, Calls Try.prog 38 #[.agg #[.int .u64 (nn a.v), .int .u64 (nn a.m)], .int .i64 n, .bool wide] w fun e w' => e = .returned (.agg #[.int .u64 (nn th.v), .int .u64 (nn th.m)]) ∧ Below w.heap.size w w')) (R_arsh : Hid (∀ w, Calls Try.prog 39 #[.agg #[.int .u64 (nn a.v), .int .u64 (nn a.m)], .int .i64 n, .bool wide] w fun e w' => e = .returned (.agg #[.int .u64 (nn th.v), .int .u64 (nn th.m)]) ∧ Below w.heap.size w w')) (O_low : Hid (∀ w, Calls Try.prog 40 #[.agg #[.int .u64 (nn a.v), .int .u64 (nn a.m)]] w fun e w' => e = .returned (.agg #[.int .u64 (nn tw.v), .int .u64 (nn tw.m)]) ∧ Below w.heap.size w w')) (R_low : Hid (∀ w, Calls Try.prog 41 #[.agg #[.int .u64 (nn a.v), .int .u64 (nn a.m)]] w fun e w' => e = .returned (.agg #[.int .u64 (nn tw.v), .int .u64 (nn tw.m)]) ∧ Below w.heap.size w w')) (O_least : Hid (∀ w, Calls Try.prog 42 #[.agg #[.int .u64 (nn a.v), .int .u64 (nn a.m)]] w fun e w' => e = .returned (.int .u64 lo) ∧ Below w.heap.size w w')) (R_least : Hid (∀ w, Calls Try.prog 43 #[.agg #[.int .u64 (nn a.v), .int .u64 (nn a.m)]] w fun e w' => e = .returned (.int .u64 lo) ∧ Below w.heap.size w w')) (O_most : Hid (∀ w, Calls Try.prog 44 #[.agg #[.int .u64 (nn a.v), .int .u64 (nn a.m)]] w fun e w' => e = .returned (.int .u64 hi) ∧ Below w.heap.size w w')) (R_most : Hid (∀ w, Calls Try.prog 45 #[.agg #[.int .u64 (nn a.v), .int .u64 (nn a.m)]] w fun e w' => e = .returned (.int .u64 hi) ∧ Below w.heap.size w w')) (O_const : Hid (∀ w, Calls Try.prog 19 #[.int .u64 (nn x)] w fun e w' => e = .returned (.agg #[.int .u64 (nn x), .int .u64 0]) ∧ Below w.heap.size w w')) (w : World) : Calls Try.prog 3 #[.agg #[.int .u64 (nn a.v), .int .u64 (nn a.m)], .agg #[.int .u64 (nn b.v), .int .u64 (nn b.m)], .int .i64 n, .int .u64 (nn x), .int .u64 (nn y), .bool wide] w fun e w' => e = .returned (.bool true) ∧ Below w.heap.size w w' := by
  have hk := Lib.hid known_any
  go_enter Try.func3, Try.ntmps3
  go_upto_region 1 with (fail)
  have A0 : At ((w.alloc (.cells #[.int .u64 (nn a.v), .int .u64 (nn a.m)] 24)).alloc (.cells #[.int .u64 (nn b.v), .int .u64 (nn b.m)] 24)) w.heap.size a := ⟨by go_cell, by go_cell, by first | (simp; done) | (simp; omega)⟩
  have B0 : At ((w.alloc (.cells #[.int .u64 (nn a.v), .int .u64 (nn a.m)] 24)).alloc (.cells #[.int .u64 (nn b.v), .int .u64 (nn b.m)] 24)) (w.heap.size + 1) b := ⟨by go_cell, by go_cell, by first | (simp; done) | (simp; omega)⟩
  have g0 : Below w.heap.size w ((w.alloc (.cells #[.int .u64 (nn a.v), .int .u64 (nn a.m)] 24)).alloc (.cells #[.int .u64 (nn b.v), .int .u64 (nn b.m)] 24)) := by go_grown
  generalize ((w.alloc (.cells #[.int .u64 (nn a.v), .int .u64 (nn a.m)] 24)).alloc (.cells #[.int .u64 (nn b.v), .int .u64 (nn b.m)] 24)) = w0 at *
  go_upto_region 3 with ((with_reducible refine (hk.out _).mono ?_); rintro e w1 ⟨rfl, g1⟩)
  have A1 := A0.next g1
  have B1 := B0.next g1
  obtain ⟨x1, x2, x3⟩ := id A1
  obtain ⟨x4, x5, x6⟩ := id B1
  go_upto_region 4 with ((with_reducible refine (O_meet.out _).mono ?_); rintro e w2 ⟨rfl, g2⟩)
  clear x1 x2 x3 x4 x5 x6
  have A2 := (A1.next g2).alloc (.cells #[.int .u64 (nn m.v), .int .u64 (nn m.m)] 24)
  have B2 := (B1.next g2).alloc (.cells #[.int .u64 (nn m.v), .int .u64 (nn m.m)] 24)
  have C2 := At.new w2 m 24
  have g2' := bl_alloc g2 (.cells #[.int .u64 (nn m.v), .int .u64 (nn m.m)] 24)
  generalize hW : w2.alloc (.cells #[.int .u64 (nn m.v), .int .u64 (nn m.m)] 24) = w3 at *
  generalize hP : w2.heap.size = P at *
  clear hW hP g2
  obtain ⟨x1, x2, x3⟩ := id A2
  obtain ⟨x4, x5, x6⟩ := id B2
  go_upto_region 5 with ((with_reducible refine (R_meet.out _).mono ?_); rintro e w4 ⟨rfl, g4⟩)
  clear x1 x2 x3 x4 x5 x6
  have A4 := (A2.next g4).alloc (.cells #[.int .u64 (nn m.v), .int .u64 (nn m.m)] 24)
  have B4 := (B2.next g4).alloc (.cells #[.int .u64 (nn m.v), .int .u64 (nn m.m)] 24)
  have C4 := (C2.next g4).alloc (.cells #[.int .u64 (nn m.v), .int .u64 (nn m.m)] 24)
  have D4 := At.new w4 m 24
  have g4' := bl_alloc g4 (.cells #[.int .u64 (nn m.v), .int .u64 (nn m.m)] 24)
  generalize hW : w4.alloc (.cells #[.int .u64 (nn m.v), .int .u64 (nn m.m)] 24) = w5 at *
  generalize hQ : w4.heap.size = Q at *
  clear hW hQ g4
  have G := Lib.hid (bl_trans g0 (bl_trans g1 (bl_trans g2' g4')))
  clear g0 g1 g2' g4'
  have R0 : R4 w5 w5 w.heap.size (w.heap.size + 1) P Q a b m m := ⟨A4, B4, C4, D4, Below.refl _ _⟩
  clear A0 B0 A1 B1 A2 B2 C2 A4 B4 C4 D4
  have hE := eqT
  go_region_held3 (fun w' => w'.cell? ⟨w.heap.size, 0, none⟩ = some (.int .u64 (nn a.v)) ∧ w'.cell? ⟨w.heap.size, 1, none⟩ = some (.int .u64 (nn a.m)) ∧ w'.cell? ⟨(w.heap.size + 1), 0, none⟩ = some (.int .u64 (nn b.v)) ∧ w'.cell? ⟨(w.heap.size + 1), 1, none⟩ = some (.int .u64 (nn b.m)) ∧ w'.cell? ⟨P, 0, none⟩ = some (.int .u64 (nn m.v)) ∧ w'.cell? ⟨P, 1, none⟩ = some (.int .u64 (nn m.m)) ∧ w'.cell? ⟨Q, 0, none⟩ = some (.int .u64 (nn m.v)) ∧ w'.cell? ⟨Q, 1, none⟩ = some (.int .u64 (nn m.m)) ∧ R4 w5 w' w.heap.size (w.heap.size + 1) P Q a b m m)
    (first | exact keep8 (by assumption) (by assumption) | exact (R4.next R0 (Below.drew (Below.refl _ _))).cells | assumption)
    (first
      | (go_at_call 13; (with_reducible refine (O_is.out _).mono ?_); rintro e wx ⟨rfl, g_wx⟩)
      | (go_at_call 14; (with_reducible refine (R_is.out _).mono ?_); rintro e wx ⟨rfl, g_wx⟩)
      | (go_at_call 15; (with_reducible refine (O_has.out _).mono ?_); rintro e wx ⟨rfl, g_wx⟩)
      | (go_at_call 16; (with_reducible refine (R_has.out _).mono ?_); rintro e wx ⟨rfl, g_wx⟩)
      | (go_at_call 17; (with_reducible refine (O_in.out _).mono ?_); rintro e wx ⟨rfl, g_wx⟩)
      | (go_at_call 18; (with_reducible refine (R_in.out _).mono ?_); rintro e wx ⟨rfl, g_wx⟩))
  obtain ⟨_, _, _, _, _, _, _, _, q_is⟩ := ‹_ ∧ _ ∧ _ ∧ _ ∧ _ ∧ _ ∧ _ ∧ _ ∧ R4 _ _ _ _ _ _ _ _ _ _›
  go_upto_region 6 with (fail)
  go_region_held3 (fun w' => w'.cell? ⟨w.heap.size, 0, none⟩ = some (.int .u64 (nn a.v)) ∧ w'.cell? ⟨w.heap.size, 1, none⟩ = some (.int .u64 (nn a.m)) ∧ w'.cell? ⟨(w.heap.size + 1), 0, none⟩ = some (.int .u64 (nn b.v)) ∧ w'.cell? ⟨(w.heap.size + 1), 1, none⟩ = some (.int .u64 (nn b.m)) ∧ w'.cell? ⟨P, 0, none⟩ = some (.int .u64 (nn m.v)) ∧ w'.cell? ⟨P, 1, none⟩ = some (.int .u64 (nn m.m)) ∧ w'.cell? ⟨Q, 0, none⟩ = some (.int .u64 (nn m.v)) ∧ w'.cell? ⟨Q, 1, none⟩ = some (.int .u64 (nn m.m)) ∧ R4 w5 w' w.heap.size (w.heap.size + 1) P Q a b m m)
    (first | exact keep8 (by assumption) (by assumption) | exact (R4.next q_is (Below.drew (Below.refl _ _))).cells | assumption)
    (first
      | (go_at_call 20; (with_reducible refine (O_range.out _).mono ?_); rintro e wx ⟨rfl, g_wx⟩)
      | (go_at_call 21; (with_reducible refine (R_range.out _).mono ?_); rintro e wx ⟨rfl, g_wx⟩)
      | (go_at_call 22; (with_reducible refine (O_join.out _).mono ?_); rintro e wx ⟨rfl, g_wx⟩)
      | (go_at_call 23; (with_reducible refine (R_join.out _).mono ?_); rintro e wx ⟨rfl, g_wx⟩)
      | (go_at_call 19; (with_reducible refine (O_const.out _).mono ?_); rintro e wx ⟨rfl, g_wx⟩))
  obtain ⟨_, _, _, _, _, _, _, _, q_range⟩ := ‹_ ∧ _ ∧ _ ∧ _ ∧ _ ∧ _ ∧ _ ∧ _ ∧ R4 _ _ _ _ _ _ _ _ _ _›
  go_upto_region 7 with (fail)
  go_region_held3 (fun w' => w'.cell? ⟨w.heap.size, 0, none⟩ = some (.int .u64 (nn a.v)) ∧ w'.cell? ⟨w.heap.size, 1, none⟩ = some (.int .u64 (nn a.m)) ∧ w'.cell? ⟨(w.heap.size + 1), 0, none⟩ = some (.int .u64 (nn b.v)) ∧ w'.cell? ⟨(w.heap.size + 1), 1, none⟩ = some (.int .u64 (nn b.m)) ∧ w'.cell? ⟨P, 0, none⟩ = some (.int .u64 (nn m.v)) ∧ w'.cell? ⟨P, 1, none⟩ = some (.int .u64 (nn m.m)) ∧ w'.cell? ⟨Q, 0, none⟩ = some (.int .u64 (nn m.v)) ∧ w'.cell? ⟨Q, 1, none⟩ = some (.int .u64 (nn m.m)) ∧ R4 w5 w' w.heap.size (w.heap.size + 1) P Q a b m m)
    (first | exact keep8 (by assumption) (by assumption) | exact (R4.next q_range (Below.drew (Below.refl _ _))).cells | assumption)
    (first
      | (go_at_call 24; (with_reducible refine (O_add.out _).mono ?_); rintro e wx ⟨rfl, g_wx⟩)
      | (go_at_call 25; (with_reducible refine (R_add.out _).mono ?_); rintro e wx ⟨rfl, g_wx⟩)
      | (go_at_call 26; (with_reducible refine (O_sub.out _).mono ?_); rintro e wx ⟨rfl, g_wx⟩)
      | (go_at_call 27; (with_reducible refine (R_sub.out _).mono ?_); rintro e wx ⟨rfl, g_wx⟩)
      | (go_at_call 28; (with_reducible refine (O_and.out _).mono ?_); rintro e wx ⟨rfl, g_wx⟩)
      | (go_at_call 29; (with_reducible refine (R_and.out _).mono ?_); rintro e wx ⟨rfl, g_wx⟩)
      | (go_at_call 30; (with_reducible refine (O_or.out _).mono ?_); rintro e wx ⟨rfl, g_wx⟩)
      | (go_at_call 31; (with_reducible refine (R_or.out _).mono ?_); rintro e wx ⟨rfl, g_wx⟩)
      | (go_at_call 32; (with_reducible refine (O_xor.out _).mono ?_); rintro e wx ⟨rfl, g_wx⟩)
      | (go_at_call 33; (with_reducible refine (R_xor.out _).mono ?_); rintro e wx ⟨rfl, g_wx⟩))
  obtain ⟨_, _, _, _, _, _, _, _, q_add⟩ := ‹_ ∧ _ ∧ _ ∧ _ ∧ _ ∧ _ ∧ _ ∧ _ ∧ R4 _ _ _ _ _ _ _ _ _ _›
  go_upto_region 8 with (fail)
  go_region_held3 (fun w' => w'.cell? ⟨w.heap.size, 0, none⟩ = some (.int .u64 (nn a.v)) ∧ w'.cell? ⟨w.heap.size, 1, none⟩ = some (.int .u64 (nn a.m)) ∧ w'.cell? ⟨(w.heap.size + 1), 0, none⟩ = some (.int .u64 (nn b.v)) ∧ w'.cell? ⟨(w.heap.size + 1), 1, none⟩ = some (.int .u64 (nn b.m)) ∧ w'.cell? ⟨P, 0, none⟩ = some (.int .u64 (nn m.v)) ∧ w'.cell? ⟨P, 1, none⟩ = some (.int .u64 (nn m.m)) ∧ w'.cell? ⟨Q, 0, none⟩ = some (.int .u64 (nn m.v)) ∧ w'.cell? ⟨Q, 1, none⟩ = some (.int .u64 (nn m.m)) ∧ R4 w5 w' w.heap.size (w.heap.size + 1) P Q a b m m)
    (first | exact keep8 (by assumption) (by assumption) | exact (R4.next q_add (Below.drew (Below.refl _ _))).cells | assumption)
    (first
      | (go_at_call 34; (with_reducible refine (O_lsh.out _).mono ?_); rintro e wx ⟨rfl, g_wx⟩)
      | (go_at_call 35; (with_reducible refine (R_lsh.out _).mono ?_); rintro e wx ⟨rfl, g_wx⟩)
      | (go_at_call 36; (with_reducible refine (O_rsh.out _).mono ?_); rintro e wx ⟨rfl, g_wx⟩)
      | (go_at_call 37; (with_reducible refine (R_rsh.out _).mono ?_); rintro e wx ⟨rfl, g_wx⟩)
      | (go_at_call 38; (with_reducible refine (O_arsh.out _).mono ?_); rintro e wx ⟨rfl, g_wx⟩)
      | (go_at_call 39; (with_reducible refine (R_arsh.out _).mono ?_); rintro e wx ⟨rfl, g_wx⟩))
  obtain ⟨_, _, _, _, _, _, _, _, q_lsh⟩ := ‹_ ∧ _ ∧ _ ∧ _ ∧ _ ∧ _ ∧ _ ∧ _ ∧ R4 _ _ _ _ _ _ _ _ _ _›
  go_upto_region 9 with (fail)
  go_region_held3 (fun w' => w'.cell? ⟨w.heap.size, 0, none⟩ = some (.int .u64 (nn a.v)) ∧ w'.cell? ⟨w.heap.size, 1, none⟩ = some (.int .u64 (nn a.m)) ∧ w'.cell? ⟨(w.heap.size + 1), 0, none⟩ = some (.int .u64 (nn b.v)) ∧ w'.cell? ⟨(w.heap.size + 1), 1, none⟩ = some (.int .u64 (nn b.m)) ∧ w'.cell? ⟨P, 0, none⟩ = some (.int .u64 (nn m.v)) ∧ w'.cell? ⟨P, 1, none⟩ = some (.int .u64 (nn m.m)) ∧ w'.cell? ⟨Q, 0, none⟩ = some (.int .u64 (nn m.v)) ∧ w'.cell? ⟨Q, 1, none⟩ = some (.int .u64 (nn m.m)) ∧ R4 w5 w' w.heap.size (w.heap.size + 1) P Q a b m m)
    (first | exact keep8 (by assumption) (by assumption) | exact (R4.next q_lsh (Below.drew (Below.refl _ _))).cells | assumption)
    (first
      | (go_at_call 40; (with_reducible refine (O_low.out _).mono ?_); rintro e wx ⟨rfl, g_wx⟩)
      | (go_at_call 41; (with_reducible refine (R_low.out _).mono ?_); rintro e wx ⟨rfl, g_wx⟩)
      | (go_at_call 42; (with_reducible refine (O_least.out _).mono ?_); rintro e wx ⟨rfl, g_wx⟩)
      | (go_at_call 43; (with_reducible refine (R_least.out _).mono ?_); rintro e wx ⟨rfl, g_wx⟩)
      | (go_at_call 44; (with_reducible refine (O_most.out _).mono ?_); rintro e wx ⟨rfl, g_wx⟩)
      | (go_at_call 45; (with_reducible refine (R_most.out _).mono ?_); rintro e wx ⟨rfl, g_wx⟩))
  obtain ⟨_, _, _, _, _, _, _, _, q_low⟩ := ‹_ ∧ _ ∧ _ ∧ _ ∧ _ ∧ _ ∧ _ ∧ _ ∧ R4 _ _ _ _ _ _ _ _ _ _›
  clear hE
  go_wp2
  go_ret
  exact ⟨rfl, bl_trans G.out q_low.2.2.2.2⟩
set_option maxHeartbeats 1000000 in
set_option maxRecDepth 100000 in
theorem walk (a0 : T) (a1 : T) (a2 : Int) (w_a2 : (Lit.int .i64 a2).wf = true) (a3 : BitVec 64) (a4 : BitVec 64) (a5 : Bool) (w : World) : Calls Try.prog 3 #[.agg #[.int .u64 (nn a0.v), .int .u64 (nn a0.m)], .agg #[.int .u64 (nn a1.v), .int .u64 (nn a1.m)], .int .i64 a2, .int .u64 (nn a3), .int .u64 (nn a4), .bool a5] w fun e w' => e = .returned (.bool true) ∧ Below w.heap.size w w' := by
  obtain ⟨m_, v_meet, o_meet, r_meet⟩ := p_meet a0 a1
  obtain ⟨v_is, o_is, r_is⟩ := p_is a0
  obtain ⟨v_has, o_has, r_has⟩ := p_has a0 a3
  obtain ⟨v_in, o_in, r_in⟩ := p_in a0 a1
  obtain ⟨v_range, o_range, r_range⟩ := p_range a3 a4
  obtain ⟨v_join, o_join, r_join⟩ := p_join a0 a1
  obtain ⟨v_add, o_add, r_add⟩ := p_add a0 a1
  obtain ⟨v_sub, o_sub, r_sub⟩ := p_sub a0 a1
  obtain ⟨v_and, o_and, r_and⟩ := p_and a0 a1
  obtain ⟨v_or, o_or, r_or⟩ := p_or a0 a1
  obtain ⟨v_xor, o_xor, r_xor⟩ := p_xor a0 a1
  obtain ⟨v_lsh, o_lsh, r_lsh⟩ := p_lsh a0 a2
  obtain ⟨v_rsh, o_rsh, r_rsh⟩ := p_rsh a0 a2
  obtain ⟨v_arsh, o_arsh, r_arsh⟩ := p_arsh a0 a2 a5
  obtain ⟨v_low, o_low, r_low⟩ := p_low a0
  obtain ⟨v_least, o_least, r_least⟩ := p_least a0
  obtain ⟨v_most, o_most, r_most⟩ := p_most a0
  exact walk0 a0 a1 a2 a3 a4 a5 m_ v_range v_join v_add v_sub v_and v_or v_xor v_lsh v_rsh v_arsh v_low v_meet v_is v_has v_in v_least v_most (Lib.hid o_meet) (Lib.hid r_meet) (Lib.hid o_is) (Lib.hid r_is) (Lib.hid o_has) (Lib.hid r_has) (Lib.hid o_in) (Lib.hid r_in) (Lib.hid o_range) (Lib.hid r_range) (Lib.hid o_join) (Lib.hid r_join) (Lib.hid o_add) (Lib.hid r_add) (Lib.hid o_sub) (Lib.hid r_sub) (Lib.hid o_and) (Lib.hid r_and) (Lib.hid o_or) (Lib.hid r_or) (Lib.hid o_xor) (Lib.hid r_xor) (Lib.hid o_lsh) (Lib.hid r_lsh) (Lib.hid o_rsh) (Lib.hid r_rsh) (Lib.hid o_arsh) (Lib.hid r_arsh) (Lib.hid o_low) (Lib.hid r_low) (Lib.hid o_least) (Lib.hid r_least) (Lib.hid o_most) (Lib.hid r_most) (Lib.hid (const_any a3)) w

set_option maxRecDepth 100000 in
theorem lifted (os : Os) (started : os.Started) (H : Type) (enc : TypeId × Value → H) :
    ReturnsInHanded {} Try.checked os 3 .any (Rows.tnumExactSpec.pre6 enc Try.prog Try.f3 Rows.tnumExactRow.domain false) (Rows.tnumExactSpec.post enc Try.prog Try.f3 false true false false) := by
  refine returnsInHanded_of_change (C := Try.checked) own started (by kernel_rfl) Try.func3
    (ChangeSpec.witness6 (enc := enc) (C := Try.checked) false ⟨#[], #[.agg #[.int .u64 0, .int .u64 0], .agg #[.int .u64 0, .int .u64 0], .int .i64 0, .int .u64 0, .int .u64 0, .bool false], []⟩ 8 (by kernel_rfl) (by kernel_rfl) (by kernel_rfl) (by kernel_rfl)) ?_
  intro W base args ds gs before hval0 hW hcnd _
  have hval : ∀ (j : Nat) t v, Try.f3.params[j]? = some t → args[j]? = some v → Value.okWide Try.prog W .any base t v := hval0
  have hW' := hW
  obtain ⟨p, q, hA0, hV, rfl, hfz, hnd⟩ := hW
  have hA : DataW.TrodAll enc Try.prog W 0 (fun _ => true) true Try.f3.params.toList args.toList ds p := hA0
  rw [Try.params3] at hA hval
  obtain ⟨v0, vs0, d0, ds0, p0, q0, hargs, rfl, rfl, h0, r0⟩ := trodAll_cons hA
  obtain ⟨v1, vs1, d1, ds1, p1, q1, rfl, rfl, rfl, h1, r1⟩ := trodAll_cons r0
  obtain ⟨v2, vs2, d2, ds2, p2, q2, rfl, rfl, rfl, h2, r2⟩ := trodAll_cons r1
  obtain ⟨v3, vs3, d3, ds3, p3, q3, rfl, rfl, rfl, h3, r3⟩ := trodAll_cons r2
  obtain ⟨v4, vs4, d4, ds4, p4, q4, rfl, rfl, rfl, h4, r4⟩ := trodAll_cons r3
  obtain ⟨v5, vs5, d5, ds5, p5, q5, rfl, rfl, rfl, h5, r5⟩ := trodAll_cons r4
  obtain ⟨rfl, rfl, rfl⟩ := trodAll_nil r5
  obtain rfl : args = #[v0, v1, v2, v3, v4, v5] := by cases args; simp_all
  obtain ⟨rfl, rfl⟩ := trodVars_none hV
  obtain ⟨a0, rfl, rfl, rfl⟩ := open_T (hval 0 24 v0 rfl rfl) h0
  obtain ⟨a1, rfl, rfl, rfl⟩ := open_T (hval 1 24 v1 rfl rfl) h1
  obtain ⟨a2, rfl, rfl, rfl, w2⟩ := open_int Try.underlying3 (hval 2 3 v2 rfl rfl) h2
  obtain ⟨x3, rfl, rfl, rfl, w3⟩ := open_int Try.underlying22 (hval 3 22 v3 rfl rfl) h3
  obtain ⟨a3, rfl⟩ := open_u64 w3
  obtain ⟨x4, rfl, rfl, rfl, w4⟩ := open_int Try.underlying22 (hval 4 22 v4 rfl rfl) h4
  obtain ⟨a4, rfl⟩ := open_u64 w4
  obtain ⟨a5, rfl, rfl, rfl⟩ := open_bool Try.underlying4 (hval 5 4 v5 rfl rfl) h5
  clear hA0 hval0
  simp only [List.append_nil] at hW'
  refine (walk a0 a1 a2 w2 a3 a4 a5 W).mono fun e W' ⟨he, hg⟩ => ?_
  subst he
  exact ⟨_, rfl, post_of_below (pa := []) (pv := []) hW' (fun _ _ _ => (trodAll_cons_mk (shut_bool Try.underlying4 _) trodAll_mk0)) (fun sp _ => (trodAll_cons_mk (shut_T a0) (trodAll_cons_mk (shut_T a1) (trodAll_cons_mk (shut_int Try.underlying3 w2) (trodAll_cons_mk (shut_int Try.underlying22 w3) (trodAll_cons_mk (shut_int Try.underlying22 w4) (trodAll_cons_mk (shut_bool Try.underlying4 _) trodAll_mk0))))))) (fun _ _ => rfl) rfl
    hg (ok_one (by kernel_rfl) rfl (okWide_bool_mk Try.underlying4 _))⟩

theorem over : Rows.tnumExactRow.holds Try.pinned (OpenSpec.ofChange Rows.tnumExactSpec) :=
  OpenClaim.holds_of_wide 3 Try.f3 rfl rfl rfl rfl rfl rfl rfl ⟨rfl, rfl, rfl, rfl, rfl⟩ rfl rfl rfl rfl rfl (by kernel_rfl) Try.func3 (by kernel_rfl)
    (of_decide_eq_true (by kernel_rfl)) (by unfold Func.isWrapper; first | (rw [if_pos (by decide +kernel)]; kernel_rfl) | (rw [if_neg (by decide +kernel)]; exact ⟨rfl, rfl⟩))
    (fun os started H enc _ => lifted os started H enc)

/-- The statement. -/
theorem proved : Rows.TnumExactSaid :=
  over
end Go.Proofs.Ytpmhojfbjhgjpaa.tnumExact
