/-
  The document's shifts of a tnum, as contracts over the program's own text.
-/
import Derived.Test.YtpmhojfbjhgjpaaRefB
import Derived.Test.YtpmhojfbjhgjpaaSh
import Derived.Deep.DeepCutAuto
import Derived.Deep.RegionHeld3
namespace Go.Proofs.Ytpmhojfbjhgjpaa
open Go.ChangeShapes Go.WideShapes Go.ChangeAt Go.RowKit
set_option linter.unusedVariables false
set_option linter.unusedSimpArgs false
theorem kk1 (n : Int) : IntKind.i64.wrap (n.tmod 64 + 64) = n.tmod 64 + 64 := by
  have h1 := Int.lt_tmod_of_pos n (by decide : (0 : Int) < 64)
  have h2 := Int.tmod_lt_of_pos n (by decide : (0 : Int) < 64)
  rw [IntKind.wrap_i64]; omega
theorem kk2 (n : Int) : wrap64 (n.tmod 64 + 64) = n.tmod 64 + 64 := by
  have h1 := Int.lt_tmod_of_pos n (by decide : (0 : Int) < 64)
  have h2 := Int.tmod_lt_of_pos n (by decide : (0 : Int) < 64)
  unfold wrap64; omega
theorem kk3 (n : Int) : (n.tmod 64 + 64).tmod 64 = (cnt n 64 : Int) := by
  have h1 := Int.lt_tmod_of_pos n (by decide : (0 : Int) < 64)
  have h2 := Int.tmod_lt_of_pos n (by decide : (0 : Int) < 64)
  rw [Int.tmod_eq_emod_of_nonneg (by omega)]
  unfold cnt
  have h3 := Int.tmod_def n 64
  have h4 : n.tmod 64 % 64 = n % 64 := by
    rw [h3, Int.sub_mul_emod_self_left]
  omega
theorem times64 (n : Int) (w : World) : Calls Try.prog 63 #[.int .i64 n, .int .i64 64] w fun e w' => e = .returned (.int .i64 (cnt n 64 : Nat)) ∧ w = w' := by
  have e1 := kk1 n
  have e2 := kk2 n
  have e3 := kk3 n
  go_enter Try.func63, Try.ntmps63
  go_wp2
  go_ret
  exact ⟨rfl, rfl⟩
theorem F2.set {W w : World} {p q : Value} (h : F2 W w p q) (x y : Value) : F2 W ((w.setCell ⟨W.heap.size, 0, none⟩ x).setCell ⟨W.heap.size, 1, none⟩ y) x y := by
  obtain ⟨⟨h1, h2, f1, f2⟩, ⟨h5, h6, f5, f6⟩, k⟩ := h
  refine ⟨⟨?_, ?_, ?_, ?_⟩, ⟨?_, ?_, ?_, ?_⟩, ?_, ?_⟩
  all_goals first
    | (rw [World.cell?_setCell_far _ _ _ _ (by simp only [ne_eq]; omega), World.cell?_setCell_far _ _ _ _ (by simp only [ne_eq]; omega)]; assumption)
    | (rw [World.frozen?_setCell, World.frozen?_setCell]; assumption)
    | (go_cell; done)
    | (have := k.1; simp; omega)
    | (refine Below.setCell (Below.setCell k.2 ?_ _) ?_ _ <;> go_grown)
/-- The result's block and what is below. -/
def G2 (W w : World) : Prop := Cell2 w (W.heap.size + 1) ∧ Kp W w 2
theorem G2.set {W w : World} {p q : Value} (o : Nat) (x : Value) (h : w.cell? ⟨W.heap.size, 0, none⟩ = some p ∧ w.cell? ⟨W.heap.size, 1, none⟩ = some q ∧ G2 W w) :
    (w.setCell ⟨W.heap.size + 1, o, none⟩ x).cell? ⟨W.heap.size, 0, none⟩ = some p ∧ (w.setCell ⟨W.heap.size + 1, o, none⟩ x).cell? ⟨W.heap.size, 1, none⟩ = some q ∧ G2 W (w.setCell ⟨W.heap.size + 1, o, none⟩ x) := by
  obtain ⟨h1, h2, ⟨u, v, h7, h8, h9, h10⟩, k⟩ := h
  obtain ⟨u', h7'⟩ := cell?_setCell_some (p := ⟨W.heap.size + 1, o, none⟩) (x := x) h7
  obtain ⟨v', h8'⟩ := cell?_setCell_some (p := ⟨W.heap.size + 1, o, none⟩) (x := x) h8
  refine ⟨?_, ?_, ⟨u', v', h7', h8', ?_, ?_⟩, ?_, ?_⟩
  · rw [World.cell?_setCell_far _ _ _ _ (by simp)]; exact h1
  · rw [World.cell?_setCell_far _ _ _ _ (by simp)]; exact h2
  · rw [World.frozen?_setCell]; exact h9
  · rw [World.frozen?_setCell]; exact h10
  · simpa using k.1
  · exact k.2.setCell (by simp) _
set_option maxHeartbeats 1000000 in
set_option maxRecDepth 100000 in
theorem rlsh_any (a : T) (n : Int) (w : World) : Calls Try.prog 35 #[.agg #[.int .u64 (nn a.v), .int .u64 (nn a.m)], .int .i64 n] w fun e w' => e = .returned (tv (shl a (cnt n 64))) ∧ Below w.heap.size w w' := by
  have f0 := f2_start w a
  have CT := Lib.hid (times64 n)
  go_enter Try.func35, Try.ntmps35
  go_upto_region 2 with ((with_reducible refine (may_any _ _).mono ?_); rintro e w1 ⟨rfl, g1⟩; have f1 := f0.next g1; obtain ⟨⟨k1, k2, k3, k4⟩, ⟨k5, k6, k7, k8⟩, k9⟩ := id f1; simp only [tv])
  clear k1 k2 k3 k4 k5 k6 k7 k8 k9
  have f2 := F2.set f1 (.int .u64 (nn (kn a).v)) (.int .u64 (nn (kn a).m))
  generalize ((w1.setCell ⟨w.heap.size, 0, none⟩ (.int .u64 (nn (kn a).v))).setCell ⟨w.heap.size, 1, none⟩ (.int .u64 (nn (kn a).m))) = w2 at *
  obtain ⟨⟨k1, k2, k3, k4⟩, ⟨k5, k6, k7, k8⟩, k9⟩ := id f2
  have e1 := b_shl (kn a).v (cnt n 64)
  have e2 := b_shl (kn a).m (cnt n 64)
  have e3 := cnt_min64 n
  have g0 : G2 w w2.drew := ⟨⟨_, _, k5, k6, k7, k8⟩, k9.next (Below.drew (Below.refl _ _))⟩
  go_region_held3 (fun w' => w'.cell? ⟨w.heap.size, 0, none⟩ = some (.int .u64 (nn (kn a).v)) ∧ w'.cell? ⟨w.heap.size, 1, none⟩ = some (.int .u64 (nn (kn a).m)) ∧ G2 w w')
    (first | assumption | exact ⟨k1, k2, g0⟩ | exact G2.set _ _ (G2.set _ _ (by assumption)))
    (first | (go_at_call 63; (with_reducible refine (CT.out _).mono ?_); rintro e wx ⟨rfl, rfl⟩))
  obtain ⟨_, _, q⟩ := ‹_ ∧ _ ∧ G2 _ _›
  clear e1 e2 e3
  go_wp2
  refine bodyPost_ret (v := tv (shl a (cnt n 64))) ?_ rfl ⟨rfl, q.2.2⟩
  simp [results, Try.results35, go_sem, k5, k6, tv, shl]
set_option maxHeartbeats 1000000 in
set_option maxRecDepth 100000 in
theorem rrsh_any (a : T) (n : Int) (w : World) : Calls Try.prog 37 #[.agg #[.int .u64 (nn a.v), .int .u64 (nn a.m)], .int .i64 n] w fun e w' => e = .returned (tv (shr a (cnt n 64))) ∧ Below w.heap.size w w' := by
  have f0 := f2_start w a
  have CT := Lib.hid (times64 n)
  go_enter Try.func37, Try.ntmps37
  go_upto_region 2 with ((with_reducible refine (may_any _ _).mono ?_); rintro e w1 ⟨rfl, g1⟩; have f1 := f0.next g1; obtain ⟨⟨k1, k2, k3, k4⟩, ⟨k5, k6, k7, k8⟩, k9⟩ := id f1; simp only [tv])
  clear k1 k2 k3 k4 k5 k6 k7 k8 k9
  have f2 := F2.set f1 (.int .u64 (nn (kn a).v)) (.int .u64 (nn (kn a).m))
  generalize ((w1.setCell ⟨w.heap.size, 0, none⟩ (.int .u64 (nn (kn a).v))).setCell ⟨w.heap.size, 1, none⟩ (.int .u64 (nn (kn a).m))) = w2 at *
  obtain ⟨⟨k1, k2, k3, k4⟩, ⟨k5, k6, k7, k8⟩, k9⟩ := id f2
  have e1 := b_shr (kn a).v (cnt n 64)
  have e2 := b_shr (kn a).m (cnt n 64)
  have e3 := cnt_min64 n
  have g0 : G2 w w2.drew := ⟨⟨_, _, k5, k6, k7, k8⟩, k9.next (Below.drew (Below.refl _ _))⟩
  go_region_held3 (fun w' => w'.cell? ⟨w.heap.size, 0, none⟩ = some (.int .u64 (nn (kn a).v)) ∧ w'.cell? ⟨w.heap.size, 1, none⟩ = some (.int .u64 (nn (kn a).m)) ∧ G2 w w')
    (first | assumption | exact ⟨k1, k2, g0⟩ | exact G2.set _ _ (G2.set _ _ (by assumption)))
    (first | (go_at_call 63; (with_reducible refine (CT.out _).mono ?_); rintro e wx ⟨rfl, rfl⟩))
  obtain ⟨_, _, q⟩ := ‹_ ∧ _ ∧ G2 _ _›
  clear e1 e2 e3
  go_wp2
  refine bodyPost_ret (v := tv (shr a (cnt n 64))) ?_ rfl ⟨rfl, q.2.2⟩
  simp [results, Try.results37, go_sem, k5, k6, tv, shr]
end Go.Proofs.Ytpmhojfbjhgjpaa
