/-
  What the document's tnums answer, as contracts over the program's own text: the small ones.
-/
import Derived.Test.YtpmhojfbjhgjpaaMeet
namespace Go.Proofs.Ytpmhojfbjhgjpaa
open Go.ChangeShapes Go.WideShapes Go.ChangeAt Go.RowKit
set_option linter.unusedVariables false
set_option linter.unusedSimpArgs false

set_option maxRecDepth 100000 in
theorem ris_any (a : T) (w : World) : Calls Try.prog 14 #[.agg #[.int .u64 (nn a.v), .int .u64 (nn a.m)]] w fun e w' => e = .returned (.bool (decide (wf a))) ∧ Below w.heap.size w w' := by
  have hf0 := b_and
  have hf1 := b_eq0
  go_enter Try.func14, Try.ntmps14
  go_wp2
  clear hf0 hf1
  go_returns
  exact ⟨rfl, by go_grown⟩

set_option maxRecDepth 100000 in
theorem rof_any (x m : BitVec 64) (w : World) : Calls Try.prog 53 #[.int .u64 (nn x), .int .u64 (nn m)] w fun e w' => e = .returned (tv (wo x m)) ∧ Below w.heap.size w w' := by
  have hf0 := b_not
  go_enter Try.func53, Try.ntmps53
  go_wp2
  clear hf0
  go_returns
  exact ⟨rfl, by go_grown⟩

set_option maxRecDepth 100000 in
theorem runk_any  (w : World) : Calls Try.prog 55 #[] w fun e w' => e = .returned (tv unk) ∧ Below w.heap.size w w' := by
  go_enter Try.func55, Try.ntmps55
  go_wp2
  go_returns
  exact ⟨rfl, by go_grown⟩

theorem ris_yes (a : T) (h : wf a) (w : World) : Calls Try.prog 14 #[.agg #[.int .u64 (nn a.v), .int .u64 (nn a.m)]] w fun e w' => e = .returned (.bool true) ∧ Below w.heap.size w w' := by
  have := ris_any a w
  rw [decide_eq_true h] at this
  exact this
theorem ris_no (a : T) (h : ¬ wf a) (w : World) : Calls Try.prog 14 #[.agg #[.int .u64 (nn a.v), .int .u64 (nn a.m)]] w fun e w' => e = .returned (.bool false) ∧ Below w.heap.size w w' := by
  have := ris_any a w
  rw [decide_eq_false h] at this
  exact this
set_option maxRecDepth 100000 in
theorem may_any (a : T) (w : World) : Calls Try.prog 52 #[.agg #[.int .u64 (nn a.v), .int .u64 (nn a.m)]] w fun e w' => e = .returned (tv (kn a)) ∧ Below w.heap.size w w' := by
  by_cases h : wf a
  · rw [kn_wf h]
    have C := Lib.hid (fun w => ris_yes a h w)
    clear h
    go_enter Try.func52, Try.ntmps52
    go_wp2_with ((with_reducible refine (C.out _).mono ?_); rintro e w1 ⟨rfl, g1⟩; obtain ⟨hc, hf⟩ := bcell g1)
    refine bodyPost_ret (v := tv a) ?_ rfl ⟨rfl, ?_⟩
    · simp [results, Try.results52, go_sem, hc, hf, tv]
    · refine Below.setCell (Below.setCell (Below.trans ?_ (g1.mono ?_)) ?_ _) ?_ _ <;> go_grown
  · rw [show kn a = unk from if_neg h]
    have C := Lib.hid (fun w => ris_no a h w)
    clear h
    have hu : ∀ w, Calls Try.prog 55 #[] w fun e w' => e = .returned (.agg #[.int .u64 0, .int .u64 18446744073709551615]) ∧ Below w.heap.size w w' := runk_any
    have U := Lib.hid hu
    clear hu
    go_enter Try.func52, Try.ntmps52
    go_wp2_with (first
      | ((with_reducible refine (C.out _).mono ?_); rintro e w1 ⟨rfl, g1⟩)
      | ((with_reducible refine (U.out _).mono ?_); rintro e w2 ⟨rfl, g2⟩; obtain ⟨hc, hf⟩ := bcell (bl_trans g1 g2)))
    refine bodyPost_ret (v := tv unk) ?_ rfl ⟨rfl, ?_⟩
    · simp [results, Try.results52, go_sem, hc, hf, tv]
      first | exact ⟨rfl, rfl⟩ | rfl
    · refine Below.setCell (Below.setCell (Below.trans ?_ ((bl_trans g1 g2).mono ?_)) ?_ _) ?_ _ <;> go_grown
end Go.Proofs.Ytpmhojfbjhgjpaa
