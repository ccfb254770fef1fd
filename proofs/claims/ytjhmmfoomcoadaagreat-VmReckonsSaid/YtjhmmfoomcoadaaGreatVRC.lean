/-
  A law's run in parts: the parts put together.
-/
import Derived.Test.YtjhmmfoomcoadaaGreatVRB
import Derived.Test.YtjhmmfoomcoadaaGreatVRK
namespace Go.Proofs.YtjhmmfoomcoadaaGreat.Ev
open Go.RowKit
set_option linter.unusedVariables false
set_option linter.unusedSimpArgs false
set_option linter.unusedSectionVars false
section
variable [E : En]
theorem noFs_ok : @FsOk noFs E := @FsOk.mk noFs E (fun f hf => by cases hf)
/-- What is left to do, told. -/
def Ends (c : Code) (T : Tr PV) (H : Hp) : Prop := ∃ T' H', T'.at 10 = some (.bl true) ∧ Goes Tryz.prog (fun Q a w => c.wp Tryz.prog Q a w) 127 T [] H .ret T' [] H'
theorem goA {F : Fs} (hF : @FsOk F E) {p0 p1 : PV} {w : Bool} (h : runA F p0 p1 w = some (resA p1 w)) (g : Ends d9 (T2 p1 w) H2) : Ends d2 (T1 p0 p1 (.bl w) sa sb) ⟨.lf, 1197⟩ := by
  letI := F
  haveI := hF
  obtain ⟨T9, H9, h9, g⟩ := g
  refine ⟨T9, H9, h9, ?_⟩
  rw [d2_is]
  obtain ⟨T', D', H', h1, h2⟩ := evL_ok (draw := evDraw Tryz.prog) (evDraw_ok (by kernel_rfl)) (n := 1000) (N := 127) (k := kA) (by intro e T D H he; cases e <;> first | rfl | exact absurd rfl he) [c2, c3, c4, c5, c6, c7, c8] h
  refine h2 d9 ?_
  cases D' with
  | cons d D' => simp [kA] at h1
  | nil =>
    simp only [kA, resA, Option.some.injEq, Prod.mk.injEq, List.cons.injEq, and_true] at h1
    obtain ⟨⟨e1, e2, e3, e4, e12, e14⟩, eR, en⟩ := h1
    have hrow : ∃ c, H'.t.at 2332 = some (.row c 6 28 0 false) := by
      split at eR
      · rename_i c n T sz gg hc
        simp only [Option.some.injEq, Prod.mk.injEq] at eR
        obtain ⟨rfl, rfl, rfl, rfl⟩ := eR
        exact ⟨c, hc⟩
      · cases eR
    obtain ⟨c, hc⟩ := hrow
    refine Goes.less (T0 := T2 p1 w) (H0 := H2) (puts_at ?_) (by rw [en]; exact Nat.le_refl _) ?_ g
    · intro x hx
      simp only [List.mem_cons, List.not_mem_nil, or_false] at hx
      rcases hx with rfl | rfl | rfl | rfl | rfl | rfl
      · exact e1
      · exact e2
      · exact e3
      · exact e4
      · exact e12
      · exact e14
    · intro i o0 hi
      simp only [H2, Tr.at_put, Tr.at_lf] at hi
      split at hi
      · rename_i hi2
        subst hi2
        simp only [Option.some.injEq] at hi
        exact ⟨_, hc, .inr ⟨c, 6, 28, 0, false, rfl, hi.symm⟩⟩
      · cases hi
theorem goB {F : Fs} (hF : @FsOk F E) {p1 : PV} {w : Bool} (h : runB F p1 w = some ()) : Ends d9 (T2 p1 w) H2 := by
  letI := F
  haveI := hF
  exact goes_true (draw := evDraw Tryz.prog) (evDraw_ok (by kernel_rfl)) (n := 1000) (N := 127) (t := 10) h
theorem goE {p0 p1 p2 p3 p4 : PV} (h : runE p0 p1 p2 p3 p4 = some ()) : Ends d2 (T1 p0 p1 p2 p3 p4) ⟨.lf, 1197⟩ := by
  letI := noFs
  haveI := noFs_ok
  exact goes_true (draw := evDraw Tryz.prog) (evDraw_ok (by kernel_rfl)) (n := 1000) (N := 127) (t := 10) h
theorem fin {p0 p1 p2 p3 p4 : PV} {l : List Value} (hl : ∀ b, VL b [p0, p1, p2, p3, p4] l) (g : Ends d2 (T1 p0 p1 p2 p3 p4) ⟨.lf, 1197⟩) (w : World) : Calls Tryz.prog 4 ⟨l⟩ w fun e w' => e = .returned (.bool true) ∧ Below w.heap.size w w' := by
  letI := noFs
  haveI := noFs_ok
  obtain ⟨T', H', h1, g2⟩ := g
  have dr : DrawOk Tryz.prog (evDraw Tryz.prog (α := Tr PV × Nat)) := evDraw_ok (by kernel_rfl)
  have g0 := goes_bare (n := 1000) (N := 127) (c := c0) (T := T0 p0 p1 p2 p3 p4) (H := ⟨.lf, 0⟩) (X := (_, 0)) dr (X0_is p0 p1 p2 p3 p4)
  have g1 := goes_bare (n := 10000) (N := 127) (c := c1) (T := Ta p0 p1 p2 p3 p4) (H := ⟨.lf, 0⟩) (X := (_, 1197)) dr (X1_is p0 p1 p2 p3 p4)
  exact calls_of_goes (P := Tryz.prog) Tryz.func4 tB_is (args := [p0, p1, p2, p3, p4]) hl (Nat.le_of_ble_eq_true (by kernel_rfl)) (by kernel_rfl) h1 (Goes.chain g0 (Goes.chain g1 g2)) w
end
/-- The letters of one call. -/
@[reducible] def En5 (o c a b : Int) : En := ⟨fun i => match i with
  | 0 => o
  | 1 => c
  | 2 => a
  | _ => b⟩
end Go.Proofs.YtjhmmfoomcoadaaGreat.Ev
