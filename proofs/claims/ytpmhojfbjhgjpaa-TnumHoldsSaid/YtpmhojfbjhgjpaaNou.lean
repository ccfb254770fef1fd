/-
  Products and noughts: contracts over the program's own text.
-/
import Derived.Test.YtpmhojfbjhgjpaaBase
import Derived.Test.YtpmhojfbjhgjpaaMul
import Derived.Test.YtpmhojfbjhgjpaaSh
import Derived.LoopTactic
namespace Go.Proofs.Ytpmhojfbjhgjpaa
open Go.ChangeShapes Go.WideShapes Go.ChangeAt Go.RowKit Go.Joins
set_option linter.unusedVariables false
set_option linter.unusedSimpArgs false
def mul (a b : T) : T := pmul (kn a) (kn b)
theorem mul_any (a b : T) (w : World) : Calls Try.prog 46 #[.agg #[.int .u64 (nn a.v), .int .u64 (nn a.m)], .agg #[.int .u64 (nn b.v), .int .u64 (nn b.m)]] w fun e w' => e = .returned (tv (mul a b)) ∧ Below w.heap.size w w' := by
  go_enter Try.func46, Try.ntmps46
  go_wp2_with ((with_reducible refine (of_any 64 pmul (fun xs w => by kernel_rfl) pmul_any _ _ _).mono ?_); rintro e w1 ⟨rfl, g1⟩; obtain ⟨hc, hf⟩ := bcell g1; simp only [tv])
  refine bodyPost_ret (v := tv (mul a b)) ?_ rfl ⟨rfl, ?_⟩
  · simp [results, Try.results46, go_sem, hc, hf, tv, mul]
    try rfl
  · refine Below.setCell (Below.setCell (Below.trans ?_ (g1.mono ?_)) ?_ _) ?_ _ <;> go_grown
def NR (t : T) (i : Value) : Prop := ∃ n : Nat, n ≤ 64 ∧ i = .int .i64 n ∧ Z n (hi t)
theorem test_bit (x : BitVec 64) (n : Nat) : ((nn (x >>> n)).tmod 2 == 0) = !x.getLsbD n := by
  rw [Int.tmod_eq_emod_of_nonneg (by unfold nn; omega)]
  unfold nn
  have h : x.getLsbD n = x.toNat.testBit n := rfl
  rw [BitVec.toNat_ushiftRight, h, Nat.testBit_eq_decide_div_mod_eq, Nat.shiftRight_eq_div_pow]
  generalize x.toNat / 2 ^ n = q
  rw [Bool.eq_iff_iff]
  simp only [beq_iff_eq, Bool.not_eq_true', decide_eq_false_iff_not]
  omega
theorem Z_succ {n : Nat} {x : BitVec 64} (h : Z n x) (hb : x.getLsbD n = false) : Z (n + 1) x := by
  rw [Z_iff] at *
  intro i hi
  rcases Nat.lt_or_ge i n with g | g
  · exact h i g
  · obtain rfl : i = n := by omega
    exact hb
def NP (t : T) (w : World) (e : Ending) (w' : World) : Prop := ∃ n : Nat, n ≤ 64 ∧ Z n (hi t) ∧ e = .returned (.int .i64 n) ∧ Below w.heap.size w w'
set_option maxRecDepth 100000 in
theorem noughts_any (t : T) (w : World) : Calls Try.prog 49 #[.agg #[.int .u64 (nn t.v), .int .u64 (nn t.m)]] w (NP t w) := by
  have ho : bits .or .u64 (nn t.v) (nn t.m) = nn (hi t) := b_or _ _
  go_enter Try.func49, Try.ntmps49
  go_wp2
  go_loop [3] (fun i => NR t i) (fun i => 64 - (intOf i).toNat)
  case atStart => exact ⟨0, by omega, rfl, by rw [Z_iff]; intro i h; omega⟩
  case round =>
    obtain ⟨n, hn, rfl, hz⟩ := hrel
    have HZ := Lib.hid hz
    clear hz
    by_cases hlt : n < 64
    · have hm : min n 64 = n := by omega
      have hs : nn (hi t) / 2 ^ n = nn (hi t >>> n) := b_shr _ _
      cases hb : (hi t).getLsbD n
      · have ht : ((nn (hi t >>> n)).tmod 2 == 0) = true := by rw [test_bit, hb]; rfl
        have HB := Lib.hid hb
        clear hb
        go_wp2
        go_round
        case rel => exact ⟨n + 1, by omega, by go_num, Z_succ HZ.out HB.out⟩
        case measure => simp [intOf]; omega
      · have ht : ((nn (hi t >>> n)).tmod 2 == 0) = false := by rw [test_bit, hb]; rfl
        clear hb
        go_wp2
        go_ret
        exact ⟨n, hn, HZ.out, rfl, by go_grown⟩
    · have hd : decide (n < 64) = false := by simpa using hlt
      obtain rfl : n = 64 := by omega
      go_wp2
      go_ret
      exact ⟨64, hn, HZ.out, rfl, by go_grown⟩
end Go.Proofs.Ytpmhojfbjhgjpaa
