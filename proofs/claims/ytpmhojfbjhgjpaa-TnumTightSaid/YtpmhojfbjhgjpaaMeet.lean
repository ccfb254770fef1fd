/-
  Meeting: a contract over the program's own text.
-/
import Derived.Test.YtpmhojfbjhgjpaaMt
namespace Go.Proofs.Ytpmhojfbjhgjpaa
open Go.ChangeShapes Go.WideShapes Go.ChangeAt Go.RowKit
set_option linter.unusedVariables false
set_option linter.unusedSimpArgs false
/-- What is known of three blocks of the call's own. -/
def F3 (W w : World) (p q r s : Value) : Prop :=
  (w.cell? ⟨W.heap.size, 0, none⟩ = some p ∧ w.cell? ⟨W.heap.size, 1, none⟩ = some q ∧ w.cell? ⟨W.heap.size + 1, 0, none⟩ = some r ∧ w.cell? ⟨W.heap.size + 1, 1, none⟩ = some s) ∧
  (w.frozen? ⟨W.heap.size, 0, none⟩ = false ∧ w.frozen? ⟨W.heap.size, 1, none⟩ = false ∧ w.frozen? ⟨W.heap.size + 1, 0, none⟩ = false ∧ w.frozen? ⟨W.heap.size + 1, 1, none⟩ = false) ∧
  (w.cell? ⟨W.heap.size + 1 + 1, 0, none⟩ = some (.int .u64 0) ∧ w.cell? ⟨W.heap.size + 1 + 1, 1, none⟩ = some (.int .u64 0) ∧ w.frozen? ⟨W.heap.size + 1 + 1, 0, none⟩ = false ∧ w.frozen? ⟨W.heap.size + 1 + 1, 1, none⟩ = false) ∧ Kp W w 3
theorem F3.next {W w w1 : World} {p q r s : Value} (h : F3 W w p q r s) (g : Below w.heap.size w w1) : F3 W w1 p q r s := by
  obtain ⟨⟨h1, h2, h3, h4⟩, ⟨f1, f2, f3, f4⟩, ⟨h5, h6, f5, f6⟩, k⟩ := h
  exact ⟨⟨kp_cell k g _ _ (by omega) h1, kp_cell k g _ _ (by omega) h2, kp_cell k g _ _ (by omega) h3, kp_cell k g _ _ (by omega) h4⟩,
    ⟨kp_frozen k g _ _ (by omega) f1, kp_frozen k g _ _ (by omega) f2, kp_frozen k g _ _ (by omega) f3, kp_frozen k g _ _ (by omega) f4⟩,
    ⟨kp_cell k g _ _ (by omega) h5, kp_cell k g _ _ (by omega) h6, kp_frozen k g _ _ (by omega) f5, kp_frozen k g _ _ (by omega) f6⟩, k.next g⟩
set_option maxHeartbeats 1600000 in
set_option maxRecDepth 100000 in
theorem meet_no (a b : T) (hp : apart (kn a) (kn b)) (w : World) : Calls Try.prog 11 #[.agg #[.int .u64 (nn a.v), .int .u64 (nn a.m)], .agg #[.int .u64 (nn b.v), .int .u64 (nn b.m)]] w fun e w' => e = .returned (.tuple #[tv ⟨0#64, 0#64⟩, .bool false]) ∧ Below w.heap.size w w' := by
  have f0 : F3 w (((w.alloc (.cells #[.int .u64 (nn a.v), .int .u64 (nn a.m)] 24)).alloc (.cells #[.int .u64 (nn b.v), .int .u64 (nn b.m)] 24)).alloc (.cells #[.int .u64 0, .int .u64 0] 24)).drew (.int .u64 (nn a.v)) (.int .u64 (nn a.m)) (.int .u64 (nn b.v)) (.int .u64 (nn b.m)) :=
    ⟨⟨by go_cell, by go_cell, by go_cell, by go_cell⟩, ⟨by go_simp, by go_simp, by go_simp, by go_simp⟩, ⟨by go_cell, by go_cell, by go_simp, by go_simp⟩, by simp, by go_grown⟩
  have hx := b_xor
  have ho := b_or
  have ha := b_and
  have hn := b_not
  have h0 : (nn (((kn a).v ^^^ (kn b).v) &&& ~~~((kn a).m ||| (kn b).m)) != 0) = true := by rw [b_ne0]; simpa [apart] using hp
  clear hp
  go_enter Try.func11, Try.ntmps11
  go_wp2_with fail
  go_region_with (first | (go_at_call 51; refine (kn_any _ _).mono ?_; rintro e w1 ⟨rfl, g1⟩; simp only [tv]; have f1 := F3.next (by assumption) g1; obtain ⟨⟨k1, k2, k3, k4⟩, ⟨k5, k6, k7, k8⟩, ⟨k9, k10, k11, k12⟩, k13⟩ := id f1))
  all_goals (go_wp2; refine bodyPost_ret (v := .tuple #[tv ⟨0#64, 0#64⟩, .bool false]) ?_ rfl ⟨rfl, ?_⟩)
  all_goals first
    | (refine Below.setCell (Below.setCell (Below.setCell (Below.setCell (Below.setCell (Below.setCell k13.2 ?_ _) ?_ _) ?_ _) ?_ _) ?_ _) ?_ _ <;> go_grown)
    | (simp [results, Try.results11, go_sem, k9, k10, tv] <;> rfl)
set_option maxHeartbeats 1600000 in
set_option maxRecDepth 100000 in
theorem meet_yes (a b : T) (hp : ¬ apart (kn a) (kn b)) (w : World) : Calls Try.prog 11 #[.agg #[.int .u64 (nn a.v), .int .u64 (nn a.m)], .agg #[.int .u64 (nn b.v), .int .u64 (nn b.m)]] w fun e w' => e = .returned (.tuple #[tv ⟨(kn a).v ||| (kn b).v, (kn a).m &&& (kn b).m⟩, .bool true]) ∧ Below w.heap.size w w' := by
  have f0 : F3 w (((w.alloc (.cells #[.int .u64 (nn a.v), .int .u64 (nn a.m)] 24)).alloc (.cells #[.int .u64 (nn b.v), .int .u64 (nn b.m)] 24)).alloc (.cells #[.int .u64 0, .int .u64 0] 24)).drew (.int .u64 (nn a.v)) (.int .u64 (nn a.m)) (.int .u64 (nn b.v)) (.int .u64 (nn b.m)) :=
    ⟨⟨by go_cell, by go_cell, by go_cell, by go_cell⟩, ⟨by go_simp, by go_simp, by go_simp, by go_simp⟩, ⟨by go_cell, by go_cell, by go_simp, by go_simp⟩, by simp, by go_grown⟩
  have hx := b_xor
  have ho := b_or
  have ha := b_and
  have hn := b_not
  have h0 : (nn (((kn a).v ^^^ (kn b).v) &&& ~~~((kn a).m ||| (kn b).m)) != 0) = false := by rw [b_ne0]; simpa [apart] using hp
  clear hp
  go_enter Try.func11, Try.ntmps11
  go_wp2_with fail
  go_region_with (first | (go_at_call 51; refine (kn_any _ _).mono ?_; rintro e w1 ⟨rfl, g1⟩; simp only [tv]; have f1 := F3.next (by assumption) g1; obtain ⟨⟨k1, k2, k3, k4⟩, ⟨k5, k6, k7, k8⟩, ⟨k9, k10, k11, k12⟩, k13⟩ := id f1))
  all_goals (go_wp2; refine bodyPost_ret (v := .tuple #[tv ⟨(kn a).v ||| (kn b).v, (kn a).m &&& (kn b).m⟩, .bool true]) ?_ rfl ⟨rfl, ?_⟩)
  all_goals first
    | (refine Below.setCell (Below.setCell (Below.setCell (Below.setCell (Below.setCell (Below.setCell k13.2 ?_ _) ?_ _) ?_ _) ?_ _) ?_ _) ?_ _ <;> go_grown)
    | (simp [results, Try.results11, go_sem, k9, k10, tv] <;> rfl)
end Go.Proofs.Ytpmhojfbjhgjpaa
