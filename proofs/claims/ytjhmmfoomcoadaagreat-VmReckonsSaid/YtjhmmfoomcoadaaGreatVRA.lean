/-
  A law's run in parts: its code; what is known whatever its arguments are.
-/
import Derived.Test.YtjhmmfoomcoadaaGreatEwZD
import Derived.Test.YtjhmmfoomcoadaaGreatChecked
namespace Go.Proofs.YtjhmmfoomcoadaaGreat.Ev
open Go.RowKit
set_option linter.unusedVariables false
noncomputable def fstC : Code → Code
  | .seq x _ => x
  | c => c
noncomputable def sndC : Code → Code
  | .seq _ y => y
  | c => c
noncomputable def tB : Code := Tryz.f4.body.getD .skip
noncomputable def c0 : Code := fstC tB
noncomputable def d1 : Code := sndC tB
noncomputable def c1 : Code := fstC d1
noncomputable def d2 : Code := sndC d1
noncomputable def c2 : Code := fstC d2
noncomputable def d3 : Code := sndC d2
noncomputable def c3 : Code := fstC d3
noncomputable def d4 : Code := sndC d3
noncomputable def c4 : Code := fstC d4
noncomputable def d5 : Code := sndC d4
noncomputable def c5 : Code := fstC d5
noncomputable def d6 : Code := sndC d5
noncomputable def c6 : Code := fstC d6
noncomputable def d7 : Code := sndC d6
noncomputable def c7 : Code := fstC d7
noncomputable def d8 : Code := sndC d7
noncomputable def c8 : Code := fstC d8
noncomputable def d9 : Code := sndC d8
theorem tB_is : Tryz.f4.body = some (.seq c0 (.seq c1 d2)) := by kernel_rfl
theorem d2_is : d2 = catC [c2, c3, c4, c5, c6, c7, c8] d9 := by kernel_rfl
@[reducible] noncomputable def noFs : Fs := ⟨[]⟩
noncomputable def sa : PV := .sy .u64 0 18446744073709551615 (.v 2)
noncomputable def sb : PV := .sy .u64 0 18446744073709551615 (.v 3)
noncomputable def sA : SE := .o .or .u64 (.w .u32 (.w .i32 (.o .rem .u64 (.v 2) (.c 4294967296)))) (.o .shl .u64 (.w .u32 (.w .i32 (.o .shr .u64 (.v 2) (.c 32)))) (.c 32))
noncomputable def sB : SE := .o .or .u64 (.w .u32 (.w .i32 (.o .rem .u64 (.v 3) (.c 4294967296)))) (.o .shl .u64 (.w .u32 (.w .i32 (.o .shr .u64 (.v 3) (.c 32)))) (.c 32))
noncomputable def kB (e : AE) (T : Tr PV) (D : DL) (H : Hp) : Option (Tr PV × Nat) := match e with
  | .normal => match D with
    | [] => some (T, H.n)
    | _ => none
  | _ => none
noncomputable def kT (e : AE) (T : Tr PV) (D : DL) (H : Hp) : Option Unit := match e with
      | .ret => match D with
        | [] => match T.at 10 with
          | some (.bl true) => some ()
          | _ => none
        | _ => none
      | _ => none
noncomputable def T0 (p0 p1 p2 p3 p4 : PV) : Tr PV := Tr.fill .lf 0 [p0, p1, p2, p3, p4]
noncomputable def Ta (p0 p1 p2 p3 p4 : PV) : Tr PV := (T0 p0 p1 p2 p3 p4).put 10 (some (.bl false))
noncomputable def T1 (p0 p1 p2 p3 p4 : PV) : Tr PV := ((Ta p0 p1 p2 p3 p4).put 20 (some (.bl true))).put 21 (some (.bl false))
noncomputable def X0 (p0 p1 p2 p3 p4 : PV) : Option (Tr PV × Nat) := @evC noFs _ Tryz.prog (@evDraw noFs _ Tryz.prog) 1000 false 127 c0 (T0 p0 p1 p2 p3 p4) [] ⟨.lf, 0⟩ kB
noncomputable def X1 (p0 p1 p2 p3 p4 : PV) : Option (Tr PV × Nat) := @evC noFs _ Tryz.prog (@evDraw noFs _ Tryz.prog) 10000 false 127 c1 (Ta p0 p1 p2 p3 p4) [] ⟨.lf, 0⟩ kB
set_option maxRecDepth 100000000
theorem X0_is (p0 p1 p2 p3 p4 : PV) : X0 p0 p1 p2 p3 p4 = some (Ta p0 p1 p2 p3 p4, 0) := by kernel_rfl
/-! ### Up to the first run's end -/
abbrev R1 := List (Option PV) × Option (Nat × Nat × Nat × Bool) × Nat
noncomputable def kA (e : AE) (T : Tr PV) (D : DL) (H : Hp) : Option R1 := match e with
  | .normal => match D with
    | [] => some ([T.at 1, T.at 2, T.at 3, T.at 4, T.at 12, T.at 14], (match H.t.at 2332 with
      | some (.row _ n T sz g) => some (n, T, sz, g)
      | _ => none), H.n)
    | _ => none
  | _ => none
noncomputable def runA (F : Fs) (p0 p1 : PV) (w : Bool) : Option R1 := @evL F _ Tryz.prog (@evDraw F _ Tryz.prog) 1000 127 [c2, c3, c4, c5, c6, c7, c8] (T1 p0 p1 (.bl w) sa sb) [] ⟨.lf, 1197⟩ kA
noncomputable def resA (p1 : PV) (w : Bool) : R1 := ([some p1, some (.bl w), some sa, some sb, some (.it .u8 (match w with | true => 5 | false => 6)), some (.pt 2332 0)], some (6, 28, 0, false), 2338)
noncomputable def T2 (p1 : PV) (w : Bool) : Tr PV := puts [(1, p1), (2, .bl w), (3, sa), (4, sb), (12, .it .u8 (match w with | true => 5 | false => 6)), (14, .pt 2332 0)]
noncomputable def H2 : Hp := ⟨Tr.lf.put 2332 (some (.row .lf 6 28 0 false)), 2338⟩
noncomputable def runB (F : Fs) (p1 : PV) (w : Bool) : Option Unit := @evC F _ Tryz.prog (@evDraw F _ Tryz.prog) 1000 false 127 d9 (T2 p1 w) [] H2 kT
noncomputable def runE (p0 p1 p2 p3 p4 : PV) : Option Unit := @evC noFs _ Tryz.prog (@evDraw noFs _ Tryz.prog) 1000 false 127 d2 (T1 p0 p1 p2 p3 p4) [] ⟨.lf, 1197⟩ kT
noncomputable def pLo : PV := .sy .i64 (-9223372036854775808) (-1) (.v 0)
noncomputable def pHi : PV := .sy .i64 13 9223372036854775807 (.v 0)
theorem e_lo (p1 p2 p3 p4 : PV) : runE pLo p1 p2 p3 p4 = some () := by kernel_rfl
theorem e_hi (p1 p2 p3 p4 : PV) : runE pHi p1 p2 p3 p4 = some () := by kernel_rfl
theorem e_8 (p1 p2 p3 p4 : PV) : runE (.it .i64 8) p1 p2 p3 p4 = some () := by kernel_rfl
noncomputable def qLo : PV := .sy .i64 (-9223372036854775808) (-1) (.v 1)
noncomputable def qHi : PV := .sy .i64 14 9223372036854775807 (.v 1)
end Go.Proofs.YtjhmmfoomcoadaaGreat.Ev
