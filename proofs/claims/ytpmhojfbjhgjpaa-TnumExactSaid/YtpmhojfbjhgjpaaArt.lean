/-
  The arithmetic shifts of a tnum, the program's and the document's, as contracts over the program's own text.
-/
import Derived.Test.YtpmhojfbjhgjpaaArs
import Derived.StillTailTactics
namespace Go.Proofs.Ytpmhojfbjhgjpaa
open Go.ChangeShapes Go.WideShapes Go.ChangeAt Go.RowKit
set_option linter.unusedVariables false
set_option linter.unusedSimpArgs false
theorem wrap_nn (y : BitVec 64) : IntKind.u64.wrap (nn y) = nn y := by
  have := y.isLt
  unfold nn
  rw [IntKind.wrap_u64]
  omega
theorem sN_of (x : BitVec 64) (k : Nat) : IntKind.u64.wrap (wrap32 (nn x) / 2 ^ k % 4294967296) = nn (s32 x k) := by
  rw [int32_of, s32_of, wrap_nn]
theorem sN_low (x : BitVec 64) (k : Nat) : IntKind.u64.wrap (wrap32 (nn x % 4294967296) / 2 ^ k % 4294967296) = nn (s32 x k) := by
  rw [int32_low, s32_of, wrap_nn]
set_option maxHeartbeats 1000000 in
set_option maxRecDepth 100000 in
theorem rarsh_any (a : T) (n : Int) (w : World) : Calls Try.prog 39 #[.agg #[.int .u64 (nn a.v), .int .u64 (nn a.m)], .int .i64 n, .bool true] w fun e w' => e = .returned (tv (sar a (cnt n 64))) ∧ Below w.heap.size w w' := by
  have f0 := f2_start w a
  have CT := Lib.hid (times64 n)
  go_enter Try.func39, Try.ntmps39
  go_upto_region 2 with ((with_reducible refine (may_any _ _).mono ?_); rintro e w1 ⟨rfl, g1⟩; have f1 := f0.next g1; obtain ⟨⟨k1, k2, k3, k4⟩, ⟨k5, k6, k7, k8⟩, k9⟩ := id f1; simp only [tv])
  clear k1 k2 k3 k4 k5 k6 k7 k8 k9
  have f2 := F2.set f1 (.int .u64 (nn (kn a).v)) (.int .u64 (nn (kn a).m))
  generalize ((w1.setCell ⟨w.heap.size, 0, none⟩ (.int .u64 (nn (kn a).v))).setCell ⟨w.heap.size, 1, none⟩ (.int .u64 (nn (kn a).m))) = w2 at *
  obtain ⟨⟨k1, k2, k3, k4⟩, ⟨k5, k6, k7, k8⟩, k9⟩ := id f2
  have f3 := f2.next (Below.drew (Below.refl _ _))
  clear f0 f1 f2
  go_upto_region 4 with ((with_reducible refine (CT.out _).mono ?_); rintro e wx ⟨rfl, rfl⟩)
  have e0 := b_int (kn a).v
  have e1 := b_sar (kn a).v (cnt n 64)
  have e3 := b_int (kn a).m
  have e4 := b_sar (kn a).m (cnt n 64)
  have e6 := cnt_min64 n
  go_still_tail 13, (by kernel_rfl)
  change wpList _ _ _ _ _ w2.drew
  clear k1 k2 k3 k4 k5 k6 k7 k8 k9 e0 e1 e3 e4 e6
  generalize w2.drew = w3 at *
  obtain ⟨⟨k1, k2, k3, k4⟩, ⟨k5, k6, k7, k8⟩, k9⟩ := id f3
  clear f3
  go_wp2
  have kb := k9.2
  have hz := k9.1
  refine bodyPost_ret (v := tv (sar a (cnt n 64))) ?_ rfl ⟨rfl, ?_⟩
  · simp [results, Try.results39, go_sem, k5, k6, tv, sar]
    rw [b_int, b_int, b_sar, b_sar]; exact ⟨rfl, rfl⟩
  · go_grown
set_option maxHeartbeats 1000000 in
set_option maxRecDepth 100000 in
theorem rarshN_any (a : T) (n : Int) (w : World) : Calls Try.prog 39 #[.agg #[.int .u64 (nn a.v), .int .u64 (nn a.m)], .int .i64 n, .bool false] w fun e w' => e = .returned (tv (sarN a (cnt n 32))) ∧ Below w.heap.size w w' := by
  have f0 := f2_start w a
  have CT := Lib.hid (times32 n)
  go_enter Try.func39, Try.ntmps39
  go_upto_region 2 with ((with_reducible refine (may_any _ _).mono ?_); rintro e w1 ⟨rfl, g1⟩; have f1 := f0.next g1; obtain ⟨⟨k1, k2, k3, k4⟩, ⟨k5, k6, k7, k8⟩, k9⟩ := id f1; simp only [tv])
  clear k1 k2 k3 k4 k5 k6 k7 k8 k9
  have f2 := F2.set f1 (.int .u64 (nn (kn a).v)) (.int .u64 (nn (kn a).m))
  generalize ((w1.setCell ⟨w.heap.size, 0, none⟩ (.int .u64 (nn (kn a).v))).setCell ⟨w.heap.size, 1, none⟩ (.int .u64 (nn (kn a).m))) = w2 at *
  obtain ⟨⟨k1, k2, k3, k4⟩, ⟨k5, k6, k7, k8⟩, k9⟩ := id f2
  have f3 := f2.next (Below.drew (Below.refl _ _))
  clear f0 f1 f2
  go_upto_region 6 with ((with_reducible refine (CT.out _).mono ?_); rintro e wx ⟨rfl, rfl⟩)
  have e6 := cnt_min32 n
  go_still_tail 17, (by kernel_rfl)
  change wpList _ _ _ _ _ w2.drew
  clear k1 k2 k3 k4 k5 k6 k7 k8 k9 e6
  generalize w2.drew = w3 at *
  obtain ⟨⟨k1, k2, k3, k4⟩, ⟨k5, k6, k7, k8⟩, k9⟩ := id f3
  clear f3
  go_wp2
  have kb := k9.2
  have hz := k9.1
  refine bodyPost_ret (v := tv (sarN a (cnt n 32))) ?_ rfl ⟨rfl, ?_⟩
  · simp [results, Try.results39, go_sem, k5, k6, tv, sarN]
    exact ⟨sN_low _ _, sN_low _ _⟩
  · go_grown
set_option maxHeartbeats 1000000 in
set_option maxRecDepth 100000 in
theorem arshN_any (a : T) (n : Int) (w : World) : Calls Try.prog 38 #[.agg #[.int .u64 (nn a.v), .int .u64 (nn a.m)], .int .i64 n, .bool false] w fun e w' => e = .returned (tv (sarN a (cnt n 32))) ∧ Below w.heap.size w w' := by
  have f0 := f2_start w a
  go_enter Try.func38, Try.ntmps38
  go_upto_region 2 with ((with_reducible refine (kn_any _ _).mono ?_); rintro e w1 ⟨rfl, g1⟩; have f1 := f0.next g1; obtain ⟨⟨k1, k2, k3, k4⟩, ⟨k5, k6, k7, k8⟩, k9⟩ := id f1; simp only [tv])
  clear k1 k2 k3 k4 k5 k6 k7 k8 k9
  have f2 := F2.set f1 (.int .u64 (nn (kn a).v)) (.int .u64 (nn (kn a).m))
  generalize ((w1.setCell ⟨w.heap.size, 0, none⟩ (.int .u64 (nn (kn a).v))).setCell ⟨w.heap.size, 1, none⟩ (.int .u64 (nn (kn a).m))) = w2 at *
  obtain ⟨⟨k1, k2, k3, k4⟩, ⟨k5, k6, k7, k8⟩, k9⟩ := id f2
  have f3 := f2.next (Below.drew (Below.refl _ _))
  clear f0 f1 f2
  go_upto_region 4 with fail
  have e5 := b_cnt32 n
  have e6 := cnt_min32 n
  go_still_tail 17, (by kernel_rfl)
  change wpList _ _ _ _ _ w2.drew
  clear k1 k2 k3 k4 k5 k6 k7 k8 k9 e5 e6
  generalize w2.drew = w3 at *
  obtain ⟨⟨k1, k2, k3, k4⟩, ⟨k5, k6, k7, k8⟩, k9⟩ := id f3
  clear f3
  go_wp2
  have kb := k9.2
  have hz := k9.1
  refine bodyPost_ret (v := tv (sarN a (cnt n 32))) ?_ rfl ⟨rfl, ?_⟩
  · simp [results, Try.results38, go_sem, k5, k6, tv, sarN]
    exact ⟨sN_of _ _, sN_of _ _⟩
  · go_grown
end Go.Proofs.Ytpmhojfbjhgjpaa
