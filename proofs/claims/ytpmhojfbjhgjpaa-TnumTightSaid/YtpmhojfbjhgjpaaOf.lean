/-
  The operations on two tnums, and what handing them on to an operation makes, as contracts over the program's own text.
-/
import Derived.Test.YtpmhojfbjhgjpaaOps
import Derived.BigQuiet
import Derived.Deep.QuietTactic
namespace Go.Proofs.Ytpmhojfbjhgjpaa
open Go.ChangeShapes Go.WideShapes Go.ChangeAt Go.RowKit
set_option linter.unusedVariables false
set_option linter.unusedSimpArgs false

theorem bl_drewN {B : Nat} {a w : World} (h : Below B a w) (n : Nat) : Below B a (w.drewN n) := ⟨h.os, h.tape, h.output, h.size, h.block⟩
theorem bcell {W w1 : World} (hb : Below W.heap.size W w1) : (∀ b o, b < W.heap.size → w1.cell? ⟨b, o, none⟩ = W.cell? ⟨b, o, none⟩) ∧ (∀ b o, b < W.heap.size → w1.frozen? ⟨b, o, none⟩ = W.frozen? ⟨b, o, none⟩) :=
  ⟨fun b o h => hb.cell (p := ⟨b, o, none⟩) h, fun b o h => hb.frozen (p := ⟨b, o, none⟩) h⟩

set_option maxRecDepth 100000 in
theorem psub_any (a b : T) (w : World) : Calls Try.prog 59 #[.agg #[.int .u64 (nn a.v), .int .u64 (nn a.m), .int .u64 (nn b.v), .int .u64 (nn b.m)]] w fun e w' => e = .returned (tv (psub a b)) ∧ Below w.heap.size w w' := by
  have hf0 := b_or
  have hf1 := b_xor
  have hf2 := b_add
  have hf3 := b_sub
  have hf4 := b_not
  go_enter Try.func59, Try.ntmps59
  go_wp2
  go_quiet (fail)
  go_wp2
  clear hf0 hf1 hf2 hf3 hf4
  go_returns
  refine ⟨rfl, ?_⟩
  go_grown
  refine bl_drewN ?_ _
  go_grown
/-- Two cells of a block of the call's own. -/
def Cell2 (w : World) (b : Nat) : Prop := ∃ u v, w.cell? ⟨b, 0, none⟩ = some u ∧ w.cell? ⟨b, 1, none⟩ = some v ∧ w.frozen? ⟨b, 0, none⟩ = false ∧ w.frozen? ⟨b, 1, none⟩ = false
def Fr (W w : World) : Prop := W.heap.size + 3 ≤ w.heap.size ∧ Below W.heap.size W w ∧ Cell2 w (W.heap.size + 2)
theorem keep_call {W w w1 : World} {p q r s : Value} (g : Below w.heap.size w w1)
    (h : w.cell? ⟨W.heap.size, 0, none⟩ = some p ∧ w.cell? ⟨W.heap.size, 1, none⟩ = some q ∧ w.cell? ⟨W.heap.size + 1, 0, none⟩ = some r ∧ w.cell? ⟨W.heap.size + 1, 1, none⟩ = some s ∧ Fr W w) :
    w1.cell? ⟨W.heap.size, 0, none⟩ = some p ∧ w1.cell? ⟨W.heap.size, 1, none⟩ = some q ∧ w1.cell? ⟨W.heap.size + 1, 0, none⟩ = some r ∧ w1.cell? ⟨W.heap.size + 1, 1, none⟩ = some s ∧ Fr W w1 := by
  obtain ⟨h1, h2, h3, h4, h5, h6, u, v, h7, h8, h9, h10⟩ := h
  have hc : ∀ b o, b < w.heap.size → w1.cell? ⟨b, o, none⟩ = w.cell? ⟨b, o, none⟩ := fun b o h => g.cell (p := ⟨b, o, none⟩) h
  have hf : ∀ b o, b < w.heap.size → w1.frozen? ⟨b, o, none⟩ = w.frozen? ⟨b, o, none⟩ := fun b o h => g.frozen (p := ⟨b, o, none⟩) h
  have hs := g.size
  refine ⟨?_, ?_, ?_, ?_, by omega, h6.trans (g.mono (by omega)), u, v, ?_, ?_, ?_, ?_⟩
  · rw [hc _ _ (by omega)]; exact h1
  · rw [hc _ _ (by omega)]; exact h2
  · rw [hc _ _ (by omega)]; exact h3
  · rw [hc _ _ (by omega)]; exact h4
  · rw [hc _ _ (by omega)]; exact h7
  · rw [hc _ _ (by omega)]; exact h8
  · rw [hf _ _ (by omega)]; exact h9
  · rw [hf _ _ (by omega)]; exact h10


theorem keep_set {W w : World} {p q r s : Value} (o : Nat) (x : Value)
    (h : w.cell? ⟨W.heap.size, 0, none⟩ = some p ∧ w.cell? ⟨W.heap.size, 1, none⟩ = some q ∧ w.cell? ⟨W.heap.size + 1, 0, none⟩ = some r ∧ w.cell? ⟨W.heap.size + 1, 1, none⟩ = some s ∧ Fr W w) :
    (w.setCell ⟨W.heap.size + 2, o, none⟩ x).cell? ⟨W.heap.size, 0, none⟩ = some p ∧ (w.setCell ⟨W.heap.size + 2, o, none⟩ x).cell? ⟨W.heap.size, 1, none⟩ = some q ∧ (w.setCell ⟨W.heap.size + 2, o, none⟩ x).cell? ⟨W.heap.size + 1, 0, none⟩ = some r ∧ (w.setCell ⟨W.heap.size + 2, o, none⟩ x).cell? ⟨W.heap.size + 1, 1, none⟩ = some s ∧ Fr W (w.setCell ⟨W.heap.size + 2, o, none⟩ x) := by
  obtain ⟨h1, h2, h3, h4, h5, h6, u, v, h7, h8, h9, h10⟩ := h
  obtain ⟨u', h7'⟩ := cell?_setCell_some (p := ⟨W.heap.size + 2, o, none⟩) (x := x) h7
  obtain ⟨v', h8'⟩ := cell?_setCell_some (p := ⟨W.heap.size + 2, o, none⟩) (x := x) h8
  refine ⟨?_, ?_, ?_, ?_, by simpa using h5, h6.setCell (by simp) _, u', v', h7', h8', ?_, ?_⟩
  · rw [World.cell?_setCell_far _ _ _ _ (by simp)]; exact h1
  · rw [World.cell?_setCell_far _ _ _ _ (by simp)]; exact h2
  · rw [World.cell?_setCell_far _ _ _ _ (by simp)]; exact h3
  · rw [World.cell?_setCell_far _ _ _ _ (by simp)]; exact h4
  · go_simp
  · go_simp
theorem cells_after {W w w1 : World} {p q r s : Value} (g : Below w.heap.size w w1)
    (h : w.cell? ⟨W.heap.size, 0, none⟩ = some p ∧ w.cell? ⟨W.heap.size, 1, none⟩ = some q ∧ w.cell? ⟨W.heap.size + 1, 0, none⟩ = some r ∧ w.cell? ⟨W.heap.size + 1, 1, none⟩ = some s ∧ Fr W w) : Cell2 w1 (W.heap.size + 2) := (keep_call g h).2.2.2.2.2.2
theorem of_any (F : Nat) (f : T → T → T) (hF : ∀ xs w, (callFunc F xs).run Try.prog w = .ok (.enter F xs) w)
    (hC : ∀ (a b : T) (w : World), Calls Try.prog F #[.agg #[.int .u64 (nn a.v), .int .u64 (nn a.m), .int .u64 (nn b.v), .int .u64 (nn b.m)]] w fun e w' => e = .returned (tv (f a b)) ∧ Below w.heap.size w w') (a b : T) (w : World) : Calls Try.prog 56 #[.func (.func F) #[] #[], .agg #[.int .u64 (nn a.v), .int .u64 (nn a.m)], .agg #[.int .u64 (nn b.v), .int .u64 (nn b.m)]] w fun e w' => e = .returned (tv (f (kn a) (kn b))) ∧ Below w.heap.size w w' := by
  have HC := Lib.hid hC
  clear hC
  go_enter Try.func56, Try.ntmps56
  go_wp2_with fail
  go_region_held3 (fun w' => w'.cell? ⟨w.heap.size, 0, none⟩ = some (.int .u64 (nn a.v)) ∧ w'.cell? ⟨w.heap.size, 1, none⟩ = some (.int .u64 (nn a.m)) ∧ w'.cell? ⟨w.heap.size + 1, 0, none⟩ = some (.int .u64 (nn b.v)) ∧ w'.cell? ⟨w.heap.size + 1, 1, none⟩ = some (.int .u64 (nn b.m)) ∧ Fr w w')
    (first | exact keep_call (by assumption) (by assumption) | exact keep_set _ _ (keep_set _ _ (by assumption)) | (refine ⟨by go_cell, by go_cell, by go_cell, by go_cell, by simp, by go_grown, .int .u64 0, .int .u64 0, by go_cell, by go_cell, by go_simp, by go_simp⟩) | (trace_state; fail))
    (first | (go_at_call 51; refine (kn_any _ _).mono ?_; rintro e w1 ⟨rfl, g1⟩; simp only [tv]) | (refine (HC.out _ _ _).mono ?_; rintro e w1 ⟨rfl, g1⟩; simp only [tv]; obtain ⟨u1, u2, u3, u4, u5, u6⟩ := cells_after g1 (by assumption)))
  obtain ⟨k1, k2, k3, k4, k5, k6, k7⟩ := ‹_ ∧ _ ∧ _ ∧ _ ∧ Fr _ _›
  have r1 : ((w1.setCell ⟨w.heap.size + 1 + 1, 0, none⟩ (.int .u64 (nn (f (kn a) (kn b)).v))).setCell ⟨w.heap.size + 1 + 1, 1, none⟩ (.int .u64 (nn (f (kn a) (kn b)).m))).cell? ⟨w.heap.size + 1 + 1, 0, none⟩ = some (.int .u64 (nn (f (kn a) (kn b)).v)) := by go_cell
  have r2 : ((w1.setCell ⟨w.heap.size + 1 + 1, 0, none⟩ (.int .u64 (nn (f (kn a) (kn b)).v))).setCell ⟨w.heap.size + 1 + 1, 1, none⟩ (.int .u64 (nn (f (kn a) (kn b)).m))).cell? ⟨w.heap.size + 1 + 1, 1, none⟩ = some (.int .u64 (nn (f (kn a) (kn b)).m)) := by go_cell
  go_wp2
  exact bodyPost_ret (v := tv (f (kn a) (kn b))) (by simp [results, Try.results56, go_sem, r1, r2, tv]; try rfl) rfl ⟨rfl, k6⟩

end Go.Proofs.Ytpmhojfbjhgjpaa
