/-
  The document's being within, of two tnums, as a contract over the program's own text.
-/
import Derived.Test.YtpmhojfbjhgjpaaRefD
import Derived.Deep.DeepCutAuto
namespace Go.Proofs.Ytpmhojfbjhgjpaa
open Go.ChangeShapes Go.WideShapes Go.ChangeAt Go.RowKit
set_option linter.unusedVariables false
set_option linter.unusedSimpArgs false
/-- What is known of two blocks of the call's own. -/
def Fb (W w : World) (p q r s : Value) : Prop :=
  (w.cell? ⟨W.heap.size, 0, none⟩ = some p ∧ w.cell? ⟨W.heap.size, 1, none⟩ = some q ∧ w.cell? ⟨W.heap.size + 1, 0, none⟩ = some r ∧ w.cell? ⟨W.heap.size + 1, 1, none⟩ = some s) ∧
  (w.frozen? ⟨W.heap.size, 0, none⟩ = false ∧ w.frozen? ⟨W.heap.size, 1, none⟩ = false ∧ w.frozen? ⟨W.heap.size + 1, 0, none⟩ = false ∧ w.frozen? ⟨W.heap.size + 1, 1, none⟩ = false) ∧ Kp W w 2
theorem Fb.next {W w w1 : World} {p q r s : Value} (h : Fb W w p q r s) (g : Below w.heap.size w w1) : Fb W w1 p q r s := by
  obtain ⟨⟨h1, h2, h3, h4⟩, ⟨f1, f2, f3, f4⟩, k⟩ := h
  exact ⟨⟨kp_cell k g _ _ (by omega) h1, kp_cell k g _ _ (by omega) h2, kp_cell k g _ _ (by omega) h3, kp_cell k g _ _ (by omega) h4⟩,
    ⟨kp_frozen k g _ _ (by omega) f1, kp_frozen k g _ _ (by omega) f2, kp_frozen k g _ _ (by omega) f3, kp_frozen k g _ _ (by omega) f4⟩, k.next g⟩
def rin (a b : T) : Bool := decide (a.m &&& ~~~b.m = 0#64) && decide (a.v &&& ~~~b.m = b.v)
set_option maxHeartbeats 2000000 in
set_option maxRecDepth 100000 in
theorem rin_any (a b : T) (w : World) : Calls Try.prog 18 #[.agg #[.int .u64 (nn a.v), .int .u64 (nn a.m)], .agg #[.int .u64 (nn b.v), .int .u64 (nn b.m)]] w fun e w' => e = .returned (.bool (rin (kn a) (kn b))) ∧ Below w.heap.size w w' := by
  have f0 : Fb w ((w.alloc (.cells #[.int .u64 (nn a.v), .int .u64 (nn a.m)] 24)).alloc (.cells #[.int .u64 (nn b.v), .int .u64 (nn b.m)] 24)).drew (.int .u64 (nn a.v)) (.int .u64 (nn a.m)) (.int .u64 (nn b.v)) (.int .u64 (nn b.m)) :=
    ⟨⟨by go_cell, by go_cell, by go_cell, by go_cell⟩, ⟨by go_simp, by go_simp, by go_simp, by go_simp⟩, by simp, by go_grown⟩
  by_cases c1 : (kn a).m &&& ~~~(kn b).m = 0#64
  · have e1 : rin (kn a) (kn b) = decide ((kn a).v &&& ~~~(kn b).m = (kn b).v) := by unfold rin; simp [c1]
    have t1 : (nn ((kn a).m &&& ~~~(kn b).m) == 0) = true := by rw [b_eq0]; simpa using c1
    rw [e1]
    have t2 := b_eq ((kn a).v &&& ~~~(kn b).m) (kn b).v
    clear c1 e1
    go_enter Try.func18, Try.ntmps18
    go_wp2_with fail
    go_region_with (first
      | (go_at_call 52; (with_reducible refine (may_any a _).mono ?_); rintro e w1 ⟨rfl, g1⟩; simp only [tv]; have f1 := Fb.next f0 g1; obtain ⟨⟨_, _, k3, k4⟩, _⟩ := id f1)
      | (go_at_call 52; (with_reducible refine (may_any b _).mono ?_); rintro e w2 ⟨rfl, g2⟩; simp only [tv]; have f2 := Fb.next f1 g2; clear k3 k4; obtain ⟨⟨k1, k2, k3, k4⟩, ⟨k5, k6, k7, k8⟩, k13⟩ := f2))
    all_goals clear f0 f1
    all_goals (have hz := k13.1; have kb := k13.2; clear k13)
    all_goals (have hf1 := b_not (kn a).m (kn b).m)
    all_goals (have hf2 := b_not (kn a).v (kn b).m)
    all_goals (go_wp2; clear hf1 hf2 t1 t2; go_ret; exact ⟨rfl, by go_grown⟩)
  · have e1 : rin (kn a) (kn b) = false := by unfold rin; simp [c1]
    have t1 : (nn ((kn a).m &&& ~~~(kn b).m) == 0) = false := by rw [b_eq0]; simpa using c1
    rw [e1]
    clear c1 e1
    go_enter Try.func18, Try.ntmps18
    go_wp2_with fail
    go_region_with (first
      | (go_at_call 52; (with_reducible refine (may_any a _).mono ?_); rintro e w1 ⟨rfl, g1⟩; simp only [tv]; have f1 := Fb.next f0 g1; obtain ⟨⟨_, _, k3, k4⟩, _⟩ := id f1)
      | (go_at_call 52; (with_reducible refine (may_any b _).mono ?_); rintro e w2 ⟨rfl, g2⟩; simp only [tv]; have f2 := Fb.next f1 g2; clear k3 k4; obtain ⟨⟨k1, k2, k3, k4⟩, ⟨k5, k6, k7, k8⟩, k13⟩ := f2))
    all_goals clear f0 f1
    all_goals (have hz := k13.1; have kb := k13.2; clear k13)
    all_goals (have hf1 := b_not (kn a).m (kn b).m)
    all_goals (go_wp2; clear hf1 t1; go_ret; exact ⟨rfl, by go_grown⟩)
end Go.Proofs.Ytpmhojfbjhgjpaa
