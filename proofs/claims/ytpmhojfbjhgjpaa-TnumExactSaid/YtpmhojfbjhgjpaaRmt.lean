/-
  The document's meeting and being within of two tnums, as contracts over the program's own text.
-/
import Derived.Test.YtpmhojfbjhgjpaaRefD
import Derived.Deep.DeepCutAuto
namespace Go.Proofs.Ytpmhojfbjhgjpaa
open Go.ChangeShapes Go.WideShapes Go.ChangeAt Go.RowKit
set_option linter.unusedVariables false
set_option linter.unusedSimpArgs false

theorem apart_of (a b : T) : ((nn ((a.v ^^^ b.v) &&& ~~~a.m &&& ~~~b.m) != 0) : Bool) = decide (apart a b) := by
  have e : (a.v ^^^ b.v) &&& ~~~(a.m ||| b.m) = (a.v ^^^ b.v) &&& ~~~a.m &&& ~~~b.m := by
    apply bit_ext; intro i hi'
    simp only [BitVec.getLsbD_and, BitVec.getLsbD_or, BitVec.getLsbD_not, BitVec.getLsbD_xor, hi', decide_true, Bool.true_and]
    cases a.v.getLsbD i <;> cases a.m.getLsbD i <;> cases b.v.getLsbD i <;> cases b.m.getLsbD i <;> decide
  rw [b_ne0, ← e]
  by_cases h : apart a b
  · rw [decide_eq_true h]; unfold apart at h; rw [decide_eq_false h]; rfl
  · rw [decide_eq_false h]; unfold apart at h; rw [decide_eq_true (Decidable.not_not.1 h)]; rfl
set_option maxHeartbeats 2000000 in
set_option maxRecDepth 100000 in
theorem rmeet_no (a b : T) (hp : apart (kn a) (kn b)) (w : World) : Calls Try.prog 12 #[.agg #[.int .u64 (nn a.v), .int .u64 (nn a.m)], .agg #[.int .u64 (nn b.v), .int .u64 (nn b.m)]] w fun e w' => e = .returned (.tuple #[tv ⟨0#64, 0#64⟩, .bool false]) ∧ Below w.heap.size w w' := by
  have f0 : F3 w (((w.alloc (.cells #[.int .u64 (nn a.v), .int .u64 (nn a.m)] 24)).alloc (.cells #[.int .u64 (nn b.v), .int .u64 (nn b.m)] 24)).alloc (.cells #[.int .u64 0, .int .u64 0] 24)).drew (.int .u64 (nn a.v)) (.int .u64 (nn a.m)) (.int .u64 (nn b.v)) (.int .u64 (nn b.m)) :=
    ⟨⟨by go_cell, by go_cell, by go_cell, by go_cell⟩, ⟨by go_simp, by go_simp, by go_simp, by go_simp⟩, ⟨by go_cell, by go_cell, by go_simp, by go_simp⟩, by simp, by go_grown⟩
  have h0 : (nn (((kn a).v ^^^ (kn b).v) &&& ~~~(kn a).m &&& ~~~(kn b).m) != 0) = true := by rw [apart_of]; simpa using hp
  clear hp
  go_enter Try.func12, Try.ntmps12
  go_wp2_with fail
  go_region_with (first
    | (go_at_call 52; (with_reducible refine (may_any a _).mono ?_); rintro e w1 ⟨rfl, g1⟩; simp only [tv]; have f1 := F3.next f0 g1; obtain ⟨⟨_, _, k3, k4⟩, _⟩ := id f1)
    | (go_at_call 52; (with_reducible refine (may_any b _).mono ?_); rintro e w2 ⟨rfl, g2⟩; simp only [tv]; have f2 := F3.next f1 g2; clear k3 k4; obtain ⟨⟨k1, k2, k3, k4⟩, ⟨k5, k6, k7, k8⟩, ⟨k9, k10, k11, k12⟩, k13⟩ := f2))
  all_goals clear f0 f1
  all_goals (have hz := k13.1; have kb := k13.2; clear k13)
  all_goals (have hf1 := b_xor (kn a).v (kn b).v)
  all_goals (have hf2 := b_not ((kn a).v ^^^ (kn b).v) (kn a).m)
  all_goals (have hf3 := b_not (((kn a).v ^^^ (kn b).v) &&& ~~~(kn a).m) (kn b).m)
  all_goals (go_wp2; refine bodyPost_ret (v := .tuple #[tv ⟨0#64, 0#64⟩, .bool false]) ?_ rfl ⟨rfl, ?_⟩)
  all_goals first
    | (go_grown; done)
    | (simp [results, Try.results12, go_sem, k9, k10, tv] <;> first | exact ⟨rfl, rfl⟩ | rfl)
set_option maxHeartbeats 2000000 in
set_option maxRecDepth 100000 in
theorem rmeet_yes (a b : T) (hp : ¬ apart (kn a) (kn b)) (w : World) : Calls Try.prog 12 #[.agg #[.int .u64 (nn a.v), .int .u64 (nn a.m)], .agg #[.int .u64 (nn b.v), .int .u64 (nn b.m)]] w fun e w' => e = .returned (.tuple #[tv (wo ((kn a).v ||| (kn b).v) ((kn a).m &&& (kn b).m)), .bool true]) ∧ Below w.heap.size w w' := by
  have f0 : F3 w (((w.alloc (.cells #[.int .u64 (nn a.v), .int .u64 (nn a.m)] 24)).alloc (.cells #[.int .u64 (nn b.v), .int .u64 (nn b.m)] 24)).alloc (.cells #[.int .u64 0, .int .u64 0] 24)).drew (.int .u64 (nn a.v)) (.int .u64 (nn a.m)) (.int .u64 (nn b.v)) (.int .u64 (nn b.m)) :=
    ⟨⟨by go_cell, by go_cell, by go_cell, by go_cell⟩, ⟨by go_simp, by go_simp, by go_simp, by go_simp⟩, ⟨by go_cell, by go_cell, by go_simp, by go_simp⟩, by simp, by go_grown⟩
  have h0 : (nn (((kn a).v ^^^ (kn b).v) &&& ~~~(kn a).m &&& ~~~(kn b).m) != 0) = false := by rw [apart_of]; simpa using hp
  clear hp
  go_enter Try.func12, Try.ntmps12
  go_wp2_with fail
  go_region_with (first
    | (go_at_call 52; (with_reducible refine (may_any a _).mono ?_); rintro e w1 ⟨rfl, g1⟩; simp only [tv]; have f1 := F3.next f0 g1; obtain ⟨⟨_, _, k3, k4⟩, _⟩ := id f1)
    | (go_at_call 52; (with_reducible refine (may_any b _).mono ?_); rintro e w2 ⟨rfl, g2⟩; simp only [tv]; have f2 := F3.next f1 g2; clear k3 k4; obtain ⟨⟨k1, k2, k3, k4⟩, ⟨k5, k6, k7, k8⟩, ⟨k9, k10, k11, k12⟩, k13⟩ := f2))
  all_goals clear f0 f1
  all_goals (have hz := k13.1; have kb := k13.2; clear k13)
  all_goals (have hf1 := b_xor (kn a).v (kn b).v)
  all_goals (have hf2 := b_not ((kn a).v ^^^ (kn b).v) (kn a).m)
  all_goals (have hf3 := b_not (((kn a).v ^^^ (kn b).v) &&& ~~~(kn a).m) (kn b).m)
  all_goals (have hf4 := b_or (kn a).v (kn b).v)
  all_goals (have hf5 := b_and (kn a).m (kn b).m)
  all_goals (go_wp2_with ((with_reducible refine (rof_any _ _ _).mono ?_); rintro e w5 ⟨rfl, g5⟩; simp only [tv]; have r9 : w5.cell? ⟨w.heap.size + 1 + 1, 0, none⟩ = some (.int .u64 0) := (g5.cell (p := ⟨w.heap.size + 1 + 1, 0, none⟩) (by simp; omega)).trans (by go_cell); have r10 : w5.cell? ⟨w.heap.size + 1 + 1, 1, none⟩ = some (.int .u64 0) := (g5.cell (p := ⟨w.heap.size + 1 + 1, 1, none⟩) (by simp; omega)).trans (by go_cell); have r11 : w5.frozen? ⟨w.heap.size + 1 + 1, 0, none⟩ = false := (g5.frozen (p := ⟨w.heap.size + 1 + 1, 0, none⟩) (by simp; omega)).trans (by go_simp); have r12 : w5.frozen? ⟨w.heap.size + 1 + 1, 1, none⟩ = false := (g5.frozen (p := ⟨w.heap.size + 1 + 1, 1, none⟩) (by simp; omega)).trans (by go_simp); have kb5 : Below w.heap.size w w5 := Below.trans (by go_grown) (g5.mono (by simp; omega))); refine bodyPost_ret (v := .tuple #[tv (wo ((kn a).v ||| (kn b).v) ((kn a).m &&& (kn b).m)), .bool true]) ?_ rfl ⟨rfl, ?_⟩)
  all_goals first
    | (go_grown; done)
    | (simp [results, Try.results12, go_sem, r9, r10, tv] <;> first | exact ⟨rfl, rfl⟩ | rfl)
end Go.Proofs.Ytpmhojfbjhgjpaa
