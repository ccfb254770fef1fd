/-
  A law's run in stages: the told calls are so; the stages put together.
-/
import Derived.Test.YtoapdkcokemieaaGreatVTA
import Derived.Test.YtoapdkcokemieaaGreatVTR0
import Derived.Test.YtoapdkcokemieaaGreatVTR1
import Derived.Test.YtoapdkcokemieaaGreatVTR2
import Derived.Test.YtoapdkcokemieaaGreatVTR3
import Derived.Test.YtoapdkcokemieaaGreatVTR4
import Derived.Test.YtoapdkcokemieaaGreatVTR5
import Derived.Test.YtoapdkcokemieaaGreatVTR6
import Derived.Test.YtoapdkcokemieaaGreatVTR7
import Derived.Test.YtoapdkcokemieaaGreatVTR8
import Derived.Test.YtoapdkcokemieaaGreatVTR9
import Derived.Test.YtoapdkcokemieaaGreatVTR10
import Derived.Test.YtoapdkcokemieaaGreatVTR11
namespace Go.Proofs.YtoapdkcokemieaaGreat.Ev
open Go.RowKit
set_option linter.unusedVariables false
set_option linter.unusedSimpArgs false
set_option linter.unusedSectionVars false
section
variable [E : En]
theorem noFs_ok : @FsOk noFs E := @FsOk.mk noFs E (fun f hf => by cases hf) (fun p hp => by cases hp) (fun p hp => by cases hp)
theorem noHk_ok : @HkOk E noHk Tryz.prog := @HkOk.mk E noHk Tryz.prog (fun t ht => by cases ht)
/-- A told call is so. -/
def IsSo (t : Told) : Prop := FunRet Tryz.prog t.f t.args ⟨putO t.q, t.m⟩ t.v ⟨putO (t.q ++ t.r), t.m + t.n⟩
theorem fr {hk : Hk} (hok : @HkOk E hk Tryz.prog) {t : Told} (hc : callable Tryz.prog t.f = true) (h : runT hk t = some ()) : IsSo t := by
  letI := noFs
  haveI := noFs_ok
  letI := hk
  haveI := hok
  exact told_okA (draw := evDraw Tryz.prog) (evDraw_ok (by kernel_rfl)) (n := 10000) hc h
theorem hkOne {t : Told} (h : IsSo t) : @HkOk E ⟨[t]⟩ Tryz.prog := @HkOk.mk E ⟨[t]⟩ Tryz.prog (fun u hu => by
  have hu : u ∈ [t] := hu
  simp only [List.mem_cons, List.not_mem_nil, or_false] at hu
  subst hu; exact h)
theorem hkFive {a b c d e : Told} (h1 : IsSo a) (h2 : IsSo b) (h3 : IsSo c) (h4 : IsSo d) (h5 : IsSo e) : @HkOk E ⟨[a, b, c, d, e]⟩ Tryz.prog := @HkOk.mk E ⟨[a, b, c, d, e]⟩ Tryz.prog (fun u hu => by
  have hu : u ∈ [a, b, c, d, e] := hu
  simp only [List.mem_cons, List.not_mem_nil, or_false] at hu
  rcases hu with rfl | rfl | rfl | rfl | rfl
  · exact h1
  · exact h2
  · exact h3
  · exact h4
  · exact h5)
theorem clL : callable Tryz.prog 9 = true := by kernel_rfl
theorem clC : callable Tryz.prog 50 = true := by kernel_rfl
theorem clV : callable Tryz.prog 27 = true := by kernel_rfl
theorem clS : callable Tryz.prog 13 = true := by kernel_rfl
theorem clJ : callable Tryz.prog 28 = true := by kernel_rfl
theorem fL_0 : IsSo tL_0 := fr noHk_ok clL rL_0
theorem fC_0 : IsSo tC_0 := fr noHk_ok clC rC_0
theorem fV_0 : IsSo tV_0 := fr (hkOne fC_0) clV rV_0
theorem fS_0 : IsSo tS_0 := fr (hkOne fC_0) clS rS_0
theorem fJ_0 : IsSo tJ_0 := fr (hkOne fC_0) clJ rJ_0
theorem ok_0 : @HkOk E hk_0 Tryz.prog := hkFive fL_0 fC_0 fV_0 fS_0 fJ_0
theorem fL_1 : IsSo tL_1 := fr noHk_ok clL rL_1
theorem fC_1 : IsSo tC_1 := fr noHk_ok clC rC_1
theorem fV_1 : IsSo tV_1 := fr (hkOne fC_1) clV rV_1
theorem fS_1 : IsSo tS_1 := fr (hkOne fC_1) clS rS_1
theorem fJ_1 : IsSo tJ_1 := fr (hkOne fC_1) clJ rJ_1
theorem ok_1 : @HkOk E hk_1 Tryz.prog := hkFive fL_1 fC_1 fV_1 fS_1 fJ_1
theorem fL_2 : IsSo tL_2 := fr noHk_ok clL rL_2
theorem fC_2 : IsSo tC_2 := fr noHk_ok clC rC_2
theorem fV_2 : IsSo tV_2 := fr (hkOne fC_2) clV rV_2
theorem fS_2 : IsSo tS_2 := fr (hkOne fC_2) clS rS_2
theorem fJ_2 : IsSo tJ_2 := fr (hkOne fC_2) clJ rJ_2
theorem ok_2 : @HkOk E hk_2 Tryz.prog := hkFive fL_2 fC_2 fV_2 fS_2 fJ_2
theorem fL_3 : IsSo tL_3 := fr noHk_ok clL rL_3
theorem fC_3 : IsSo tC_3 := fr noHk_ok clC rC_3
theorem fV_3 : IsSo tV_3 := fr (hkOne fC_3) clV rV_3
theorem fS_3 : IsSo tS_3 := fr (hkOne fC_3) clS rS_3
theorem fJ_3 : IsSo tJ_3 := fr (hkOne fC_3) clJ rJ_3
theorem ok_3 : @HkOk E hk_3 Tryz.prog := hkFive fL_3 fC_3 fV_3 fS_3 fJ_3
theorem fL_4 : IsSo tL_4 := fr noHk_ok clL rL_4
theorem fC_4 : IsSo tC_4 := fr noHk_ok clC rC_4
theorem fV_4 : IsSo tV_4 := fr (hkOne fC_4) clV rV_4
theorem fS_4 : IsSo tS_4 := fr (hkOne fC_4) clS rS_4
theorem fJ_4 : IsSo tJ_4 := fr (hkOne fC_4) clJ rJ_4
theorem ok_4 : @HkOk E hk_4 Tryz.prog := hkFive fL_4 fC_4 fV_4 fS_4 fJ_4
theorem fL_5 : IsSo tL_5 := fr noHk_ok clL rL_5
theorem fC_5 : IsSo tC_5 := fr noHk_ok clC rC_5
theorem fV_5 : IsSo tV_5 := fr (hkOne fC_5) clV rV_5
theorem fS_5 : IsSo tS_5 := fr (hkOne fC_5) clS rS_5
theorem fJ_5 : IsSo tJ_5 := fr (hkOne fC_5) clJ rJ_5
theorem ok_5 : @HkOk E hk_5 Tryz.prog := hkFive fL_5 fC_5 fV_5 fS_5 fJ_5
theorem fL_6 : IsSo tL_6 := fr noHk_ok clL rL_6
theorem fC_6 : IsSo tC_6 := fr noHk_ok clC rC_6
theorem fV_6 : IsSo tV_6 := fr (hkOne fC_6) clV rV_6
theorem fS_6 : IsSo tS_6 := fr (hkOne fC_6) clS rS_6
theorem fJ_6 : IsSo tJ_6 := fr (hkOne fC_6) clJ rJ_6
theorem ok_6 : @HkOk E hk_6 Tryz.prog := hkFive fL_6 fC_6 fV_6 fS_6 fJ_6
theorem fL_7 : IsSo tL_7 := fr noHk_ok clL rL_7
theorem fC_7 : IsSo tC_7 := fr noHk_ok clC rC_7
theorem fV_7 : IsSo tV_7 := fr (hkOne fC_7) clV rV_7
theorem fS_7 : IsSo tS_7 := fr (hkOne fC_7) clS rS_7
theorem fJ_7 : IsSo tJ_7 := fr (hkOne fC_7) clJ rJ_7
theorem ok_7 : @HkOk E hk_7 Tryz.prog := hkFive fL_7 fC_7 fV_7 fS_7 fJ_7
theorem fL_8 : IsSo tL_8 := fr noHk_ok clL rL_8
theorem fC_8 : IsSo tC_8 := fr noHk_ok clC rC_8
theorem fV_8 : IsSo tV_8 := fr (hkOne fC_8) clV rV_8
theorem fS_8 : IsSo tS_8 := fr (hkOne fC_8) clS rS_8
theorem fJ_8 : IsSo tJ_8 := fr (hkOne fC_8) clJ rJ_8
theorem ok_8 : @HkOk E hk_8 Tryz.prog := hkFive fL_8 fC_8 fV_8 fS_8 fJ_8
theorem fL_9 : IsSo tL_9 := fr noHk_ok clL rL_9
theorem fC_9 : IsSo tC_9 := fr noHk_ok clC rC_9
theorem fV_9 : IsSo tV_9 := fr (hkOne fC_9) clV rV_9
theorem fS_9 : IsSo tS_9 := fr (hkOne fC_9) clS rS_9
theorem fJ_9 : IsSo tJ_9 := fr (hkOne fC_9) clJ rJ_9
theorem ok_9 : @HkOk E hk_9 Tryz.prog := hkFive fL_9 fC_9 fV_9 fS_9 fJ_9
theorem fL_10 : IsSo tL_10 := fr noHk_ok clL rL_10
theorem fC_10 : IsSo tC_10 := fr noHk_ok clC rC_10
theorem fV_10 : IsSo tV_10 := fr (hkOne fC_10) clV rV_10
theorem fS_10 : IsSo tS_10 := fr (hkOne fC_10) clS rS_10
theorem fJ_10 : IsSo tJ_10 := fr (hkOne fC_10) clJ rJ_10
theorem ok_10 : @HkOk E hk_10 Tryz.prog := hkFive fL_10 fC_10 fV_10 fS_10 fJ_10
theorem fL_11 : IsSo tL_11 := fr noHk_ok clL rL_11
theorem fC_11 : IsSo tC_11 := fr noHk_ok clC rC_11
theorem fV_11 : IsSo tV_11 := fr (hkOne fC_11) clV rV_11
theorem fS_11 : IsSo tS_11 := fr (hkOne fC_11) clS rS_11
theorem fJ_11 : IsSo tJ_11 := fr (hkOne fC_11) clJ rJ_11
theorem ok_11 : @HkOk E hk_11 Tryz.prog := hkFive fL_11 fC_11 fV_11 fS_11 fJ_11
theorem fL_12 : IsSo tL_12 := fr noHk_ok clL rL_12
theorem fC_12 : IsSo tC_12 := fr noHk_ok clC rC_12
theorem fV_12 : IsSo tV_12 := fr (hkOne fC_12) clV rV_12
theorem fS_12 : IsSo tS_12 := fr (hkOne fC_12) clS rS_12
theorem fJ_12 : IsSo tJ_12 := fr (hkOne fC_12) clJ rJ_12
theorem ok_12 : @HkOk E hk_12 Tryz.prog := hkFive fL_12 fC_12 fV_12 fS_12 fJ_12
theorem fL_13 : IsSo tL_13 := fr noHk_ok clL rL_13
theorem fC_13 : IsSo tC_13 := fr noHk_ok clC rC_13
theorem fV_13 : IsSo tV_13 := fr (hkOne fC_13) clV rV_13
theorem fS_13 : IsSo tS_13 := fr (hkOne fC_13) clS rS_13
theorem fJ_13 : IsSo tJ_13 := fr (hkOne fC_13) clJ rJ_13
theorem ok_13 : @HkOk E hk_13 Tryz.prog := hkFive fL_13 fC_13 fV_13 fS_13 fJ_13
theorem fL_14 : IsSo tL_14 := fr noHk_ok clL rL_14
theorem fC_14 : IsSo tC_14 := fr noHk_ok clC rC_14
theorem fV_14 : IsSo tV_14 := fr (hkOne fC_14) clV rV_14
theorem fS_14 : IsSo tS_14 := fr (hkOne fC_14) clS rS_14
theorem fJ_14 : IsSo tJ_14 := fr (hkOne fC_14) clJ rJ_14
theorem ok_14 : @HkOk E hk_14 Tryz.prog := hkFive fL_14 fC_14 fV_14 fS_14 fJ_14
theorem fL_15 : IsSo tL_15 := fr noHk_ok clL rL_15
theorem fC_15 : IsSo tC_15 := fr noHk_ok clC rC_15
theorem fV_15 : IsSo tV_15 := fr (hkOne fC_15) clV rV_15
theorem fS_15 : IsSo tS_15 := fr (hkOne fC_15) clS rS_15
theorem fJ_15 : IsSo tJ_15 := fr (hkOne fC_15) clJ rJ_15
theorem ok_15 : @HkOk E hk_15 Tryz.prog := hkFive fL_15 fC_15 fV_15 fS_15 fJ_15
theorem fL_16 : IsSo tL_16 := fr noHk_ok clL rL_16
theorem fC_16 : IsSo tC_16 := fr noHk_ok clC rC_16
theorem fV_16 : IsSo tV_16 := fr (hkOne fC_16) clV rV_16
theorem fS_16 : IsSo tS_16 := fr (hkOne fC_16) clS rS_16
theorem fJ_16 : IsSo tJ_16 := fr (hkOne fC_16) clJ rJ_16
theorem ok_16 : @HkOk E hk_16 Tryz.prog := hkFive fL_16 fC_16 fV_16 fS_16 fJ_16
theorem fL_17 : IsSo tL_17 := fr noHk_ok clL rL_17
theorem fC_17 : IsSo tC_17 := fr noHk_ok clC rC_17
theorem fV_17 : IsSo tV_17 := fr (hkOne fC_17) clV rV_17
theorem fS_17 : IsSo tS_17 := fr (hkOne fC_17) clS rS_17
theorem fJ_17 : IsSo tJ_17 := fr (hkOne fC_17) clJ rJ_17
theorem ok_17 : @HkOk E hk_17 Tryz.prog := hkFive fL_17 fC_17 fV_17 fS_17 fJ_17
theorem ok_K : @HkOk E hkK Tryz.prog := @HkOk.mk E hkK Tryz.prog (fun u hu => by
  have hu : u ∈ [tL_16, tC_16, tV_16, tS_16, tJ_16, tL_17, tC_17, tV_17, tS_17, tJ_17] := hu
  simp only [List.mem_cons, List.not_mem_nil, or_false] at hu
  rcases hu with rfl | rfl | rfl | rfl | rfl | rfl | rfl | rfl | rfl | rfl
  · exact fL_16
  · exact fC_16
  · exact fV_16
  · exact fS_16
  · exact fJ_16
  · exact fL_17
  · exact fC_17
  · exact fV_17
  · exact fS_17
  · exact fJ_17)
/-- What is left to do, told. -/
def Done (c : Code) (T : Tr PV) (H : Hp) : Prop := ∃ T' H', T'.at 2 = some (.bl true) ∧ Goes Tryz.prog (fun Q a w => c.wp Tryz.prog Q a w) 16 T [] H .ret T' [] H'
theorem goT {F : Fs} (hF : @FsOk F E) {hk : Hk} (hok : @HkOk E hk Tryz.prog) {n : Nat} {c : Code} {T : Tr PV} {H : Hp} (h : @evC F _ Tryz.prog hk (@evDraw F _ Tryz.prog) n false 16 c T [] H kT = some ()) : Done c T H := by
  letI := F
  haveI := hF
  letI := hk
  haveI := hok
  exact goes_true (draw := evDraw Tryz.prog) (evDraw_ok (by kernel_rfl)) (n := n) (N := 16) (t := 2) h
theorem fin {l : List Value} (hl : ∀ b, VL b [sx] l) (g : Done d2 sK.T sK.H) (w : World) : Calls Tryz.prog 3 ⟨l⟩ w fun e w' => e = .returned (.bool true) ∧ Below w.heap.size w w' := by
  letI := noFs
  haveI := noFs_ok
  letI := hkK
  haveI := ok_K
  obtain ⟨T', H', h1, g2⟩ := g
  have g0 : Goes Tryz.prog (fun Q a w => c0.wp Tryz.prog Q a w) 16 T0 [] ⟨.lf, 0⟩ .normal Ta [] ⟨.lf, 0⟩ := by
    letI := noHk
    haveI := noHk_ok
    have dr : DrawOk Tryz.prog (evDraw Tryz.prog (α := Tr PV × Nat)) := evDraw_ok (by kernel_rfl)
    exact goes_bare (n := 1000) (N := 16) (c := c0) (T := T0) (H := ⟨.lf, 0⟩) (X := (_, 0)) dr X0_is
  have g1 : Goes Tryz.prog (fun Q a w => (catC [c1] d2).wp Tryz.prog Q a w) 16 Ta [] ⟨.lf, 0⟩ .ret T' [] H' := stage2 (draw := evDraw Tryz.prog) (evDraw_ok (by kernel_rfl)) rK g2
  exact calls_of_goes (P := Tryz.prog) Tryz.func3 tB_is (args := [sx]) hl (Nat.le_of_ble_eq_true (by kernel_rfl)) (by kernel_rfl) h1 (Goes.chain g0 g1) w
end
/-- The letter of one call. -/
@[reducible] def En1 (x : Int) : En := ⟨fun _ => x⟩
theorem fv_ok {x r : Int} (h : x.tmod 16 = r) : @FsOk (FV r) (En1 x) := @FsOk.mk (FV r) (En1 x) (fun f hf => by cases hf) (fun p hp => by
  have hp : p ∈ ([(.o .rem .i64 (.v 0) (.c 16), r)] : List (SE × Int)) := hp
  simp only [List.mem_cons, List.not_mem_nil, or_false] at hp
  subst hp
  exact h) (fun p hp => by cases hp)
theorem all_done (x : Int) : @Done (En1 x) d2 sK.T sK.H := by
  have h1 := Int.tmod_lt_of_pos x (show (0 : Int) < 16 by decide)
  have h2 := Int.lt_tmod_of_pos x (show (0 : Int) < 16 by decide)
  have h : x.tmod 16 = -15 ∨ x.tmod 16 = -14 ∨ x.tmod 16 = -13 ∨ x.tmod 16 = -12 ∨ x.tmod 16 = -11 ∨ x.tmod 16 = -10 ∨ x.tmod 16 = -9 ∨ x.tmod 16 = -8 ∨ x.tmod 16 = -7 ∨ x.tmod 16 = -6 ∨ x.tmod 16 = -5 ∨ x.tmod 16 = -4 ∨ x.tmod 16 = -3 ∨ x.tmod 16 = -2 ∨ x.tmod 16 = -1 ∨ x.tmod 16 = 0 ∨ x.tmod 16 = 1 ∨ x.tmod 16 = 2 ∨ x.tmod 16 = 3 ∨ x.tmod 16 = 4 ∨ x.tmod 16 = 5 ∨ x.tmod 16 = 6 ∨ x.tmod 16 = 7 ∨ x.tmod 16 = 8 ∨ x.tmod 16 = 9 ∨ x.tmod 16 = 10 ∨ x.tmod 16 = 11 ∨ x.tmod 16 = 12 ∨ x.tmod 16 = 13 ∨ x.tmod 16 = 14 ∨ x.tmod 16 = 15 := by omega
  rcases h with h | h | h | h | h | h | h | h | h | h | h | h | h | h | h | h | h | h | h | h | h | h | h | h | h | h | h | h | h | h | h
  · exact goT (E := En1 x) (fv_ok h) (ok_1 (E := En1 x)) rM_m15
  · exact goT (E := En1 x) (fv_ok h) (ok_2 (E := En1 x)) rM_m14
  · exact goT (E := En1 x) (fv_ok h) (ok_3 (E := En1 x)) rM_m13
  · exact goT (E := En1 x) (fv_ok h) (ok_4 (E := En1 x)) rM_m12
  · exact goT (E := En1 x) (fv_ok h) (ok_5 (E := En1 x)) rM_m11
  · exact goT (E := En1 x) (fv_ok h) (ok_6 (E := En1 x)) rM_m10
  · exact goT (E := En1 x) (fv_ok h) (ok_7 (E := En1 x)) rM_m9
  · exact goT (E := En1 x) (fv_ok h) (ok_8 (E := En1 x)) rM_m8
  · exact goT (E := En1 x) (fv_ok h) (ok_9 (E := En1 x)) rM_m7
  · exact goT (E := En1 x) (fv_ok h) (ok_10 (E := En1 x)) rM_m6
  · exact goT (E := En1 x) (fv_ok h) (ok_11 (E := En1 x)) rM_m5
  · exact goT (E := En1 x) (fv_ok h) (ok_12 (E := En1 x)) rM_m4
  · exact goT (E := En1 x) (fv_ok h) (ok_13 (E := En1 x)) rM_m3
  · exact goT (E := En1 x) (fv_ok h) (ok_14 (E := En1 x)) rM_m2
  · exact goT (E := En1 x) (fv_ok h) (ok_15 (E := En1 x)) rM_m1
  · exact goT (E := En1 x) (fv_ok h) (ok_0 (E := En1 x)) rM_0
  · exact goT (E := En1 x) (fv_ok h) (ok_1 (E := En1 x)) rM_1
  · exact goT (E := En1 x) (fv_ok h) (ok_2 (E := En1 x)) rM_2
  · exact goT (E := En1 x) (fv_ok h) (ok_3 (E := En1 x)) rM_3
  · exact goT (E := En1 x) (fv_ok h) (ok_4 (E := En1 x)) rM_4
  · exact goT (E := En1 x) (fv_ok h) (ok_5 (E := En1 x)) rM_5
  · exact goT (E := En1 x) (fv_ok h) (ok_6 (E := En1 x)) rM_6
  · exact goT (E := En1 x) (fv_ok h) (ok_7 (E := En1 x)) rM_7
  · exact goT (E := En1 x) (fv_ok h) (ok_8 (E := En1 x)) rM_8
  · exact goT (E := En1 x) (fv_ok h) (ok_9 (E := En1 x)) rM_9
  · exact goT (E := En1 x) (fv_ok h) (ok_10 (E := En1 x)) rM_10
  · exact goT (E := En1 x) (fv_ok h) (ok_11 (E := En1 x)) rM_11
  · exact goT (E := En1 x) (fv_ok h) (ok_12 (E := En1 x)) rM_12
  · exact goT (E := En1 x) (fv_ok h) (ok_13 (E := En1 x)) rM_13
  · exact goT (E := En1 x) (fv_ok h) (ok_14 (E := En1 x)) rM_14
  · exact goT (E := En1 x) (fv_ok h) (ok_15 (E := En1 x)) rM_15
end Go.Proofs.YtoapdkcokemieaaGreat.Ev
