/-
  Meeting, being within, ranges: contracts over the program's own text.
-/
import Derived.Test.YtpmhojfbjhgjpaaFace
import Derived.Test.YtpmhojfbjhgjpaaHs
import Derived.Test.YtpmhojfbjhgjpaaSh
import Derived.Deep.RegionWith
import Derived.Outline
import Derived.Laws.StructEq
namespace Go.Proofs.Ytpmhojfbjhgjpaa
open Go.ChangeShapes Go.WideShapes Go.ChangeAt Go.RowKit
set_option linter.unusedVariables false
set_option linter.unusedSimpArgs false
set_option maxRecDepth 100000 in
theorem range_no (x y : BitVec 64) (h : decide (nn y < nn x) = true) (w : World) : Calls Try.prog 20 #[.int .u64 (nn x), .int .u64 (nn y)] w fun e w' => e = .returned (tv unk) ∧ Below w.heap.size w w' := by
  go_enter Try.func20, Try.ntmps20
  go_wp2
  go_returns
  exact ⟨rfl, by go_grown⟩
set_option maxRecDepth 100000 in
theorem range_yes (x y : BitVec 64) (h : decide (nn y < nn x) = false) (w : World) : Calls Try.prog 20 #[.int .u64 (nn x), .int .u64 (nn y)] w fun e w' => e = .returned (tv (wo x (mk (x ^^^ y)))) ∧ Below w.heap.size w w' := by
  have h1 := b_xor
  have h2 := b_not
  have h3 := b_mk
  go_enter Try.func20, Try.ntmps20
  go_wp2_with ((with_reducible refine (len_any _ _).mono ?_); rintro e w1 ⟨rfl, rfl⟩)
  go_returns
  exact ⟨rfl, by go_grown⟩
instance : DecidableEq T := fun a b => decidable_of_iff (a.v = b.v ∧ a.m = b.m) ⟨fun h => T.ext' h.1 h.2, fun h => by rw [h]; exact ⟨rfl, rfl⟩⟩
def Kp (W w : World) (n : Nat) : Prop := W.heap.size + n ≤ w.heap.size ∧ Below W.heap.size W w
theorem Kp.next {W w w1 : World} {n : Nat} (h : Kp W w n) (g : Below w.heap.size w w1) : Kp W w1 n := ⟨Nat.le_trans h.1 g.size, h.2.trans (g.mono (by have := h.1; omega))⟩
theorem kp_cell {W w w1 : World} {n : Nat} (h : Kp W w n) (g : Below w.heap.size w w1) (b o : Nat) (hb : b < W.heap.size + n) {v : Value} (hv : w.cell? ⟨b, o, none⟩ = some v) : w1.cell? ⟨b, o, none⟩ = some v :=
  (g.cell (p := ⟨b, o, none⟩) (show b < w.heap.size by have := h.1; omega)).trans hv
theorem kp_frozen {W w w1 : World} {n : Nat} (h : Kp W w n) (g : Below w.heap.size w w1) (b o : Nat) (hb : b < W.heap.size + n) (hv : w.frozen? ⟨b, o, none⟩ = false) : w1.frozen? ⟨b, o, none⟩ = false :=
  (g.frozen (p := ⟨b, o, none⟩) (show b < w.heap.size by have := h.1; omega)).trans hv
theorem keep4 {W w w1 : World} {p q r s : Value} (g : Below w.heap.size w w1)
    (h : w.cell? ⟨W.heap.size, 0, none⟩ = some p ∧ w.cell? ⟨W.heap.size, 1, none⟩ = some q ∧ w.cell? ⟨W.heap.size + 1, 0, none⟩ = some r ∧ w.cell? ⟨W.heap.size + 1, 1, none⟩ = some s ∧ Kp W w 2) :
    w1.cell? ⟨W.heap.size, 0, none⟩ = some p ∧ w1.cell? ⟨W.heap.size, 1, none⟩ = some q ∧ w1.cell? ⟨W.heap.size + 1, 0, none⟩ = some r ∧ w1.cell? ⟨W.heap.size + 1, 1, none⟩ = some s ∧ Kp W w1 2 := by
  obtain ⟨h1, h2, h3, h4, h5⟩ := h
  exact ⟨kp_cell h5 g _ _ (by omega) h1, kp_cell h5 g _ _ (by omega) h2, kp_cell h5 g _ _ (by omega) h3, kp_cell h5 g _ _ (by omega) h4, h5.next g⟩
theorem eqT (x y x' y' : Int) (w : World) : (binOp .eql 24 (.agg #[.int .u64 x, .int .u64 y]) (.agg #[.int .u64 x', .int .u64 y'])).run Try.prog w = .ok (.bool (x == x' && y == y')) w := by
  rw [run_eql_struct, run_equalIn_agg w 9999 24 _ _ (by kernel_rfl) (by kernel_rfl)]
  by_cases h1 : x = x' <;> by_cases h2 : y = y' <;> go_simp <;> simp [h1, h2]
theorem eq_dec (a b : T) : (nn a.v == nn b.v && nn a.m == nn b.m) = decide (a = b) := by
  rw [b_eq, b_eq, Bool.eq_iff_iff]
  simp only [Bool.and_eq_true, decide_eq_true_eq]
  exact ⟨fun h => T.ext' h.1 h.2, fun h => by rw [h]; exact ⟨rfl, rfl⟩⟩
set_option maxRecDepth 100000 in
theorem in_any (a b : T) (w : World) : Calls Try.prog 17 #[.agg #[.int .u64 (nn a.v), .int .u64 (nn a.m)], .agg #[.int .u64 (nn b.v), .int .u64 (nn b.m)]] w fun e w' => e = .returned (.bool (decide (join a b = kn b))) ∧ Below w.heap.size w w' := by
  have hE := eqT
  go_enter Try.func17, Try.ntmps17
  go_wp2_with fail
  go_region_held3 (fun w' => w'.cell? ⟨w.heap.size, 0, none⟩ = some (.int .u64 (nn a.v)) ∧ w'.cell? ⟨w.heap.size, 1, none⟩ = some (.int .u64 (nn a.m)) ∧ w'.cell? ⟨w.heap.size + 1, 0, none⟩ = some (.int .u64 (nn b.v)) ∧ w'.cell? ⟨w.heap.size + 1, 1, none⟩ = some (.int .u64 (nn b.m)) ∧ Kp w w' 2)
    (first | exact keep4 (by assumption) (by assumption) | (refine ⟨by go_cell, by go_cell, by go_cell, by go_cell, by simp, by go_grown⟩) | assumption)
    (first | (go_at_call 22; refine (join_any _ _ _).mono ?_; rintro e w1 ⟨rfl, g1⟩; simp only [tv]) | (go_at_call 51; refine (kn_any _ _).mono ?_; rintro e w1 ⟨rfl, g1⟩; simp only [tv]))
  obtain ⟨_, _, _, _, k5⟩ := ‹_ ∧ _ ∧ _ ∧ _ ∧ Kp _ _ _›
  clear hE
  go_wp2
  go_returns
  exact ⟨ret_bool (eq_dec _ _), k5.2⟩
end Go.Proofs.Ytpmhojfbjhgjpaa
