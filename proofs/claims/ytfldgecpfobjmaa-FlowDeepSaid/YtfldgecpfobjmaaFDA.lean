/-
  A law's run in stages: its code; what is known between two stages.
-/
import Derived.Test.YtfldgecpfobjmaaExZE
import Derived.Test.YtfldgecpfobjmaaChecked
namespace Go.Proofs.Ytfldgecpfobjmaa.Ev
open Go.RowKit
set_option linter.unusedVariables false
noncomputable def fstC : Code → Code
  | .seq x _ => x
  | c => c
noncomputable def sndC : Code → Code
  | .seq _ y => y
  | c => c
noncomputable def tB : Code := Try.f3.body.getD .skip
noncomputable def c0 : Code := fstC tB
noncomputable def d1 : Code := sndC tB
noncomputable def c1 : Code := fstC d1
noncomputable def d2 : Code := sndC d1
noncomputable def c2 : Code := fstC d2
noncomputable def d3 : Code := sndC d2
noncomputable def c3 : Code := fstC d3
noncomputable def d4 : Code := sndC d3
noncomputable def c4 : Code := fstC d4
noncomputable def d5 : Code := sndC d4
noncomputable def c5 : Code := fstC d5
noncomputable def d6 : Code := sndC d5
noncomputable def c6 : Code := fstC d6
noncomputable def d7 : Code := sndC d6
noncomputable def c7 : Code := fstC d7
noncomputable def d8 : Code := sndC d7
noncomputable def c8 : Code := fstC d8
noncomputable def d9 : Code := sndC d8
noncomputable def c9 : Code := fstC d9
noncomputable def d10 : Code := sndC d9
noncomputable def c10 : Code := fstC d10
noncomputable def d11 : Code := sndC d10
theorem tB_is : Try.f3.body = some (.seq c0 (.seq c1 d2)) := by kernel_rfl
theorem d2_is : d2 = catC [c2, c3] d4 := by kernel_rfl
theorem d4_is : d4 = catC [c4, c5, c6] d7 := by kernel_rfl
theorem d7_is : d7 = catC [c7] d8 := by kernel_rfl
@[reducible] noncomputable def noFs : Fs := ⟨[], []⟩
noncomputable def sx : PV := .sy .i64 (-9223372036854775808) 9223372036854775807 (.v 1)
noncomputable def kB (e : AE) (T : Tr PV) (D : DL) (H : Hp) : Option (Tr PV × Nat) := match e with
  | .normal => match D with
    | [] => some (T, H.n)
    | _ => none
  | _ => none
noncomputable def kT (e : AE) (T : Tr PV) (D : DL) (H : Hp) : Option Unit := match e with
      | .ret => match D with
        | [] => match T.at 4 with
          | some (.bl true) => some ()
          | _ => none
        | _ => none
      | _ => none
noncomputable def T0 (p0 p1 : PV) : Tr PV := Tr.fill .lf 0 [p0, p1]
noncomputable def Ta (p0 p1 : PV) : Tr PV := (T0 p0 p1).put 4 (some (.bl false))
noncomputable def T1 (p0 p1 : PV) : Tr PV := ((Ta p0 p1).put 10 (some (.bl true))).put 11 (some (.bl false))
noncomputable def X0 (p0 p1 : PV) : Option (Tr PV × Nat) := @evC noFs _ Try.prog (@evDraw noFs _ Try.prog) 1000 false 81 c0 (T0 p0 p1) [] ⟨.lf, 0⟩ kB
noncomputable def X1 (p0 p1 : PV) : Option (Tr PV × Nat) := @evC noFs _ Try.prog (@evDraw noFs _ Try.prog) 10000 false 81 c1 (Ta p0 p1) [] ⟨.lf, 0⟩ kB
noncomputable def slot (op src imm : Int) : List PV := [.it .u8 op, .it .u8 0, .it .u8 src, .it .i16 0, .it .i32 imm]
noncomputable def calls : Nat → List PV
  | 0 => slot 183 0 0 ++ slot 149 0 0
  | n + 1 => slot 133 1 1 ++ (slot 149 0 0 ++ calls n)
noncomputable def slc (n : Nat) : PV := .sl (301 + 40 * n) 0 (2 * n) (2 * n) true
noncomputable def rw (n : Nat) : Rw := ⟨301 + 40 * n, calls (n - 1), 37, 5, true⟩
noncomputable def sA (n : Nat) : St := ⟨[(0, .it .i64 (Int.ofNat n)), (1, sx), (5, slc n)], [rw n], 305 + 40 * n⟩
noncomputable def sB (n : Nat) : St := ⟨[(0, .it .i64 (Int.ofNat n)), (1, sx), (5, slc n)], [rw n], 309 + 183 * n⟩
noncomputable def sC (n : Nat) (to : Nat) : St := ⟨[(0, .it .i64 (Int.ofNat n)), (5, slc n), (8, .it .i64 (Int.ofNat to))], [rw n], 309 + 183 * n⟩
@[reducible] noncomputable def FV (n : Nat) (r : Int) : Fs := ⟨[], [(.o .rem .i64 (.v 1) (.c (Int.ofNat (n - 1))), r)]⟩
noncomputable def runA (n : Nat) : Option Unit := @evL noFs _ Try.prog (@evDraw noFs _ Try.prog) 10000 81 [c2, c3] (T1 (.it .i64 (Int.ofNat n)) sx) [] ⟨.lf, 118⟩ (kS (sA n))
noncomputable def runB (n : Nat) : Option Unit := @evL noFs _ Try.prog (@evDraw noFs _ Try.prog) 10000 81 [c4, c5, c6] (sA n).T [] (sA n).H (kS (sB n))
noncomputable def runB1 : Option Unit := @evC noFs _ Try.prog (@evDraw noFs _ Try.prog) 10000 false 81 d4 (sA 1).T [] (sA 1).H kT
noncomputable def runC (n : Nat) (r : Int) (to : Nat) : Option Unit := @evL (FV n r) _ Try.prog (@evDraw (FV n r) _ Try.prog) 10000 81 [c7] (sB n).T [] (sB n).H (kS (sC n to))
noncomputable def runD (n : Nat) (to : Nat) : Option Unit := @evC noFs _ Try.prog (@evDraw noFs _ Try.prog) 10000 false 81 d8 (sC n to).T [] (sC n to).H kT
noncomputable def runE (p0 p1 : PV) : Option Unit := @evC noFs _ Try.prog (@evDraw noFs _ Try.prog) 1000 false 81 d2 (T1 p0 p1) [] ⟨.lf, 118⟩ kT
noncomputable def pLo : PV := .sy .i64 (-9223372036854775808) 0 (.v 0)
noncomputable def pHi : PV := .sy .i64 21 9223372036854775807 (.v 0)
set_option maxRecDepth 100000000
theorem X0_is (p0 p1 : PV) : X0 p0 p1 = some (Ta p0 p1, 0) := by kernel_rfl
theorem X1_is (p0 p1 : PV) : X1 p0 p1 = some (T1 p0 p1, 118) := by kernel_rfl
theorem e_lo (p1 : PV) : runE pLo p1 = some () := by kernel_rfl
theorem e_hi (p1 : PV) : runE pHi p1 = some () := by kernel_rfl
end Go.Proofs.Ytfldgecpfobjmaa.Ev
