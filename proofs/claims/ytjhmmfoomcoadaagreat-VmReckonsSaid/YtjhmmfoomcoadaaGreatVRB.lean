/-
  A law's run in parts: a number that is split in two and put together again; what the runs take for granted.
-/
import Derived.Test.YtjhmmfoomcoadaaGreatVRA
import Derived.Laws.BitsLemmas
namespace Go.Proofs.YtjhmmfoomcoadaaGreat.Ev
open Go.RowKit
set_option linter.unusedVariables false
theorem wrapFits (k : IntKind) (n : Int) (h1 : kMin k ≤ n) (h2 : n ≤ kMax k) : k.wrap n = n := by
  cases k <;> simp [IntKind.wrap, IntKind.bits, IntKind.signed, kMin, kMax] at * <;> (try split) <;> omega
theorem wraps32 {x : Int} (h0 : 0 ≤ x) (h1 : x < 4294967296) : IntKind.u32.wrap (IntKind.i32.wrap x) = x := by
  have e1 : IntKind.i32.wrap x = (x + 2147483648) % 4294967296 - 2147483648 := IntKind.wrap_i32 x
  have e2 : ∀ y, IntKind.u32.wrap y = y % 4294967296 := fun y => IntKind.wrap_u32 y
  rw [e1, e2]; omega
theorem recon (n : Int) (h0 : 0 ≤ n) (h1 : n ≤ 18446744073709551615) : opI .or .u64 (IntKind.u32.wrap (IntKind.i32.wrap (opI .rem .u64 n 4294967296))) (opI .shl .u64 (IntKind.u32.wrap (IntKind.i32.wrap (opI .shr .u64 n 32))) 32) = n := by
  obtain ⟨m, rfl⟩ := Int.eq_ofNat_of_zero_le h0
  have e1 : opI .rem .u64 (m : Int) 4294967296 = ((m % 4294967296 : Nat) : Int) := by
    show (m : Int).tmod 4294967296 = _
    rw [Int.tmod_eq_emod_of_nonneg (by omega)]; rfl
  have e2 : opI .shr .u64 (m : Int) 32 = ((m / 4294967296 : Nat) : Int) := by
    show (m : Int).fdiv ((2 : Int) ^ 32) = _
    rw [Int.fdiv_eq_ediv_of_nonneg _ (by decide)]; rfl
  have hm : m < 18446744073709551616 := by omega
  rw [e1, e2, wraps32 (by omega) (by omega), wraps32 (by omega) (by omega)]
  have e3 : opI .shl .u64 ((m / 4294967296 : Nat) : Int) 32 = ((4294967296 * (m / 4294967296) : Nat) : Int) := by
    show IntKind.u64.wrap (((m / 4294967296 : Nat) : Int) * (2 : Int) ^ 32) = _
    rw [wrapFits .u64 _ (by show (0 : Int) ≤ _; omega) (by show _ ≤ (18446744073709551615 : Int); omega)]
    omega
  rw [e3]
  have hof : ∀ k : Nat, k < 18446744073709551616 → (BitVec.ofInt 64 (k : Int)).toNat = k := by
    intro k hk
    rw [BitVec.toNat_ofInt]
    omega
  have e4 : opI .or .u64 ((m % 4294967296 : Nat) : Int) ((4294967296 * (m / 4294967296) : Nat) : Int) = IntKind.u64.wrap ((m : Nat) : Int) := by
    show IntKind.u64.wrap ((BitVec.ofInt 64 ((m % 4294967296 : Nat) : Int) ||| BitVec.ofInt 64 ((4294967296 * (m / 4294967296) : Nat) : Int)).toNat : Int) = _
    rw [BitVec.toNat_or, hof _ (by omega), hof _ (by omega), Nat.or_comm, show (4294967296 : Nat) = 2 ^ 32 from rfl, ← Nat.two_pow_add_eq_or_of_lt (Nat.mod_lt _ (by decide))]
    congr 2
    omega
  rw [e4]
  exact wrapFits .u64 _ (by show (0 : Int) ≤ _; omega) (by show _ ≤ (18446744073709551615 : Int); omega)
theorem sA_ev {η : Nat → Int} (h0 : 0 ≤ η 2) (h1 : η 2 ≤ 18446744073709551615) : sA.ev η = η 2 := by
  show opI .or .u64 (IntKind.u32.wrap (IntKind.i32.wrap (opI .rem .u64 (η 2) 4294967296))) (opI .shl .u64 (IntKind.u32.wrap (IntKind.i32.wrap (opI .shr .u64 (η 2) 32))) 32) = _
  exact recon _ h0 h1
theorem sB_ev {η : Nat → Int} (h0 : 0 ≤ η 3) (h1 : η 3 ≤ 18446744073709551615) : sB.ev η = η 3 := by
  show opI .or .u64 (IntKind.u32.wrap (IntKind.i32.wrap (opI .rem .u64 (η 3) 4294967296))) (opI .shl .u64 (IntKind.u32.wrap (IntKind.i32.wrap (opI .shr .u64 (η 3) 32))) 32) = _
  exact recon _ h0 h1
theorem neq_self (x : Int) : cmpI .neq x x = false := by simp [cmpI]
end Go.Proofs.YtjhmmfoomcoadaaGreat.Ev
