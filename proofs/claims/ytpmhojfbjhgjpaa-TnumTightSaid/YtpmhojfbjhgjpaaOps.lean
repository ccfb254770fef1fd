/-
  What the functions of package tnum answer, as contracts over the program's own text.
-/
import Derived.Test.YtpmhojfbjhgjpaaRows
import Derived.Test.YtpmhojfbjhgjpaaMath
import Derived.WalkKit
import Derived.ProofKit
import Derived.OpenShut
import Derived.Handy
import Derived.Below
import Derived.Lib.Hide
import Derived.Deep.RegionHeld3
namespace Go.Proofs.Ytpmhojfbjhgjpaa
open Go.ChangeShapes Go.WideShapes Go.ChangeAt Go.RowKit
set_option linter.unusedVariables false
set_option linter.unusedSimpArgs false

/-- A word as the program's number. -/
def nn (x : BitVec 64) : Int := (x.toNat : Int)
def tv (t : T) : Value := .agg #[.int .u64 (nn t.v), .int .u64 (nn t.m)]

theorem b_and (a b : BitVec 64) : bits .and .u64 (nn a) (nn b) = nn (a &&& b) := by
  unfold nn; rw [bits_and_u64_nat _ _ a.isLt b.isLt, BitVec.toNat_and]
theorem b_or (a b : BitVec 64) : bits .or .u64 (nn a) (nn b) = nn (a ||| b) := by
  unfold nn; rw [bits_or_u64_nat _ _ a.isLt b.isLt, BitVec.toNat_or]
theorem b_xor (a b : BitVec 64) : bits .xor .u64 (nn a) (nn b) = nn (a ^^^ b) := by
  unfold nn; rw [bits_xor_u64_nat _ _ a.isLt b.isLt, BitVec.toNat_xor]
theorem b_not (a b : BitVec 64) : bits .andNot .u64 (nn a) (nn b) = nn (a &&& ~~~b) := by
  unfold nn
  show IntKind.u64.wrap ((BitVec.ofInt 64 (a.toNat : Int) &&& ~~~BitVec.ofInt 64 (b.toNat : Int)).toNat : Int) = _
  rw [BitVec.ofInt_natCast, BitVec.ofInt_natCast, BitVec.ofNat_toNat, BitVec.ofNat_toNat, BitVec.setWidth_eq, BitVec.setWidth_eq, IntKind.wrap_u64]
  have := (a &&& ~~~b).isLt
  omega
theorem b_add (a b : BitVec 64) : IntKind.u64.wrap (nn a + nn b) = nn (a + b) := by
  unfold nn; rw [IntKind.wrap_u64, BitVec.toNat_add]; omega
theorem b_sub (a b : BitVec 64) : IntKind.u64.wrap (nn a - nn b) = nn (a - b) := by
  unfold nn
  have := a.isLt
  have := b.isLt
  rw [IntKind.wrap_u64, BitVec.toNat_sub]; omega
theorem b_mul (a b : BitVec 64) : IntKind.u64.wrap (nn a * nn b) = nn (a * b) := by
  unfold nn; rw [IntKind.wrap_u64, BitVec.toNat_mul]; simp
theorem b_eq0 (a : BitVec 64) : (nn a == 0) = decide (a = 0#64) := by
  rw [Bool.eq_iff_iff]; simp [nn, BitVec.toNat_eq]
theorem b_ne0 (a : BitVec 64) : (nn a != 0) = !decide (a = 0#64) := by
  rw [bne, b_eq0]
theorem b_eq (a b : BitVec 64) : (nn a == nn b) = decide (a = b) := by
  rw [Bool.eq_iff_iff]; simp only [nn, BitVec.toNat_eq, beq_iff_eq, decide_eq_true_eq]; omega
theorem bl_trans {a b c : World} (h : Below a.heap.size a b) (g : Below b.heap.size b c) : Below a.heap.size a c :=
  h.trans (g.mono h.size)

theorem is_any (a : T) (w : World) : Calls Try.prog 13 #[.agg #[.int .u64 (nn a.v), .int .u64 (nn a.m)]] w fun e w' => e = .returned (.bool (decide (wf a))) ∧ Below w.heap.size w w' := by
  have hf0 := b_and
  have hf1 := b_eq0
  go_enter Try.func13, Try.ntmps13
  go_wp2
  clear hf0 hf1
  go_returns
  exact ⟨rfl, by go_grown⟩

theorem wo_any (x m : BitVec 64) (w : World) : Calls Try.prog 65 #[.int .u64 (nn x), .int .u64 (nn m)] w fun e w' => e = .returned (tv (wo x m)) ∧ Below w.heap.size w w' := by
  have hf0 := b_not
  go_enter Try.func65, Try.ntmps65
  go_wp2
  clear hf0
  go_returns
  exact ⟨rfl, by go_grown⟩

theorem unk_any  (w : World) : Calls Try.prog 50 #[] w fun e w' => e = .returned (tv unk) ∧ Below w.heap.size w w' := by
  go_enter Try.func50, Try.ntmps50
  go_wp2
  go_returns
  exact ⟨rfl, by go_grown⟩

theorem kn_any (a : T) (w : World) : Calls Try.prog 51 #[.agg #[.int .u64 (nn a.v), .int .u64 (nn a.m)]] w fun e w' => e = .returned (tv (kn a)) ∧ Below w.heap.size w w' := by
  by_cases h : a.v &&& a.m = 0#64
  · have hk : kn a = a := if_pos h
    have h1 := b_and
    have h2 : (nn (a.v &&& a.m) == 0) = true := by rw [b_eq0]; simp [h]
    rw [hk]
    clear hk h
    go_enter Try.func51, Try.ntmps51
    go_wp2
    clear h1 h2
    go_returns
    exact ⟨rfl, by go_grown⟩
  · have hk : kn a = unk := if_neg h
    have h1 := b_and
    have h2 : (nn (a.v &&& a.m) == 0) = false := by rw [b_eq0]; simp [h]
    rw [hk]
    clear hk h
    go_enter Try.func51, Try.ntmps51
    go_wp2
    clear h1 h2
    go_returns
    exact ⟨rfl, by go_grown⟩

set_option maxRecDepth 100000 in
theorem pjoin_any (a b : T) (w : World) : Calls Try.prog 57 #[.agg #[.int .u64 (nn a.v), .int .u64 (nn a.m), .int .u64 (nn b.v), .int .u64 (nn b.m)]] w fun e w' => e = .returned (tv (pjoin a b)) ∧ Below w.heap.size w w' := by
  have hf0 := b_or
  have hf1 := b_xor
  have hf2 := b_add
  have hf3 := b_sub
  have hf4 := b_not
  have hf5 := b_and
  go_enter Try.func57, Try.ntmps57
  go_wp2
  clear hf0 hf1 hf2 hf3 hf4 hf5
  go_returns
  exact ⟨rfl, by go_grown⟩

set_option maxRecDepth 100000 in
theorem padd_any (a b : T) (w : World) : Calls Try.prog 58 #[.agg #[.int .u64 (nn a.v), .int .u64 (nn a.m), .int .u64 (nn b.v), .int .u64 (nn b.m)]] w fun e w' => e = .returned (tv (padd a b)) ∧ Below w.heap.size w w' := by
  have hf0 := b_or
  have hf1 := b_xor
  have hf2 := b_add
  have hf3 := b_sub
  have hf4 := b_not
  have hf5 := b_and
  go_enter Try.func58, Try.ntmps58
  go_wp2
  clear hf0 hf1 hf2 hf3 hf4 hf5
  go_returns
  exact ⟨rfl, by go_grown⟩

set_option maxRecDepth 100000 in
theorem pand_any (a b : T) (w : World) : Calls Try.prog 60 #[.agg #[.int .u64 (nn a.v), .int .u64 (nn a.m), .int .u64 (nn b.v), .int .u64 (nn b.m)]] w fun e w' => e = .returned (tv (pand a b)) ∧ Below w.heap.size w w' := by
  have hf0 := b_or
  have hf1 := b_xor
  have hf2 := b_add
  have hf3 := b_sub
  have hf4 := b_not
  have hf5 := b_and
  go_enter Try.func60, Try.ntmps60
  go_wp2
  clear hf0 hf1 hf2 hf3 hf4 hf5
  go_returns
  exact ⟨rfl, by go_grown⟩

set_option maxRecDepth 100000 in
theorem por_any (a b : T) (w : World) : Calls Try.prog 61 #[.agg #[.int .u64 (nn a.v), .int .u64 (nn a.m), .int .u64 (nn b.v), .int .u64 (nn b.m)]] w fun e w' => e = .returned (tv (por a b)) ∧ Below w.heap.size w w' := by
  have hf0 := b_or
  have hf1 := b_xor
  have hf2 := b_add
  have hf3 := b_sub
  have hf4 := b_not
  have hf5 := b_and
  go_enter Try.func61, Try.ntmps61
  go_wp2
  clear hf0 hf1 hf2 hf3 hf4 hf5
  go_returns
  exact ⟨rfl, by go_grown⟩

set_option maxRecDepth 100000 in
theorem pxor_any (a b : T) (w : World) : Calls Try.prog 62 #[.agg #[.int .u64 (nn a.v), .int .u64 (nn a.m), .int .u64 (nn b.v), .int .u64 (nn b.m)]] w fun e w' => e = .returned (tv (pxor a b)) ∧ Below w.heap.size w w' := by
  have hf0 := b_or
  have hf1 := b_xor
  have hf2 := b_add
  have hf3 := b_sub
  have hf4 := b_not
  have hf5 := b_and
  go_enter Try.func62, Try.ntmps62
  go_wp2
  clear hf0 hf1 hf2 hf3 hf4 hf5
  go_returns
  exact ⟨rfl, by go_grown⟩

end Go.Proofs.Ytpmhojfbjhgjpaa
