/-
  A law's run in stages: its code; what is known between two stages; a number's digits.
-/
import Derived.Test.YtkjclmafddgoiaaGreatEzZI
import Derived.Test.YtkjclmafddgoiaaGreatChecked
namespace Go.Proofs.YtkjclmafddgoiaaGreat.Ev
open Go.RowKit
set_option linter.unusedVariables false
noncomputable def fstC : Code → Code
  | .seq x _ => x
  | c => c
noncomputable def sndC : Code → Code
  | .seq _ y => y
  | c => c
noncomputable def tB : Code := Tryz.f3.body.getD .skip
noncomputable def c0 : Code := fstC tB
noncomputable def d1 : Code := sndC tB
noncomputable def c1 : Code := fstC d1
noncomputable def d2 : Code := sndC d1
noncomputable def c2 : Code := fstC d2
noncomputable def d3 : Code := sndC d2
noncomputable def c3 : Code := fstC d3
noncomputable def d4 : Code := sndC d3
noncomputable def c4 : Code := fstC d4
noncomputable def d5 : Code := sndC d4
noncomputable def c5 : Code := fstC d5
noncomputable def d6 : Code := sndC d5
noncomputable def c6 : Code := fstC d6
noncomputable def d7 : Code := sndC d6
noncomputable def c7 : Code := fstC d7
noncomputable def d8 : Code := sndC d7
noncomputable def c8 : Code := fstC d8
noncomputable def d9 : Code := sndC d8
noncomputable def c9 : Code := fstC d9
noncomputable def d10 : Code := sndC d9
theorem tB_is : Tryz.f3.body = some (.seq c0 (.seq c1 d2)) := by kernel_rfl
theorem d2_is : d2 = catC [c2, c3, c4, c5, c6, c7, c8, c9] d10 := by kernel_rfl
@[reducible] noncomputable def noFs : Fs := ⟨[], [], []⟩
@[reducible] noncomputable def noHk : Hk := ⟨[]⟩
noncomputable def sv : PV := .sy .u64 0 18446744073709551615 (.v 0)
noncomputable def kB (e : AE) (T : Tr PV) (D : DL) (H : Hp) : Option (Tr PV × Nat) := match e with
  | .normal => match D with
    | [] => some (T, H.n)
    | _ => none
  | _ => none
noncomputable def kT (e : AE) (T : Tr PV) (D : DL) (H : Hp) : Option Unit := match e with
      | .ret => match D with
        | [] => match T.at 6 with
          | some (.bl true) => some ()
          | _ => none
        | _ => none
      | _ => none
noncomputable def T0 (p0 p1 p2 : PV) : Tr PV := Tr.fill .lf 0 [p0, p1, p2]
noncomputable def Ta (p0 p1 p2 : PV) : Tr PV := (T0 p0 p1 p2).put 6 (some (.bl false))
noncomputable def T1 (p0 p1 p2 : PV) : Tr PV := ((Ta p0 p1 p2).put 19 (some (.bl true))).put 20 (some (.bl false))
noncomputable def X0 (p0 p1 p2 : PV) : Option (Tr PV × Nat) := @evC noFs _ Tryz.prog noHk (@evDraw noFs _ Tryz.prog) 1000 false 151 c0 (T0 p0 p1 p2) [] ⟨.lf, 0⟩ kB
noncomputable def X1 (p0 p1 p2 : PV) : Option (Tr PV × Nat) := @evC noFs _ Tryz.prog noHk (@evDraw noFs _ Tryz.prog) 10000 false 151 c1 (Ta p0 p1 p2) [] ⟨.lf, 0⟩ kB
/-! ### A number's digits -/
noncomputable def sR : SE := .w .i32 (.o .rem .u64 (.v 0) (.c 4294967296))
noncomputable def quoE (E : SE) : Nat → SE
  | 0 => E
  | i + 1 => .o .quo .u64 (quoE E i) (.c 10)
noncomputable def chE (E : SE) (i : Nat) : SE := .o .add .u64 (.c 48) (.o .rem .u64 (quoE E i) (.c 10))
/-- What is read of the k lowest digits, what stood ahead of them read as a. -/
noncomputable def parE (E : SE) : Nat → SE → SE
  | 0, a => a
  | k + 1, a => parE E k (.o .add .u64 (.o .mul .u64 (.c 10) a) (.o .sub .u64 (chE E k) (.c 48)))
noncomputable def parsE (E : SE) (d : Nat) : SE := parE E d (.o .add .u64 (.c 0) (.o .sub .u64 (chE E d) (.c 48)))
noncomputable def negE : SE := .o .sub .u64 (.c 0) (.w .u64 (.v 1))
/-- What the letters are called, where the number has d + 1 digits and lies between the two. -/
noncomputable def subsP (lo hi : Int) (d : Nat) : List (SE × Int × Int × SE) := [(sR, lo, hi, .v 1), (parsE (.v 1) d, -2147483648, 2147483647, .v 1)]
noncomputable def subsN (lo hi : Int) (d : Nat) : List (SE × Int × Int × SE) := [(sR, lo, hi, .v 1), (negE, -hi, -lo, negE), (parsE negE d, -hi, -lo, negE), (.o .sub .i64 (.c 0) negE, -2147483648, 2147483647, .v 1)]
noncomputable def bE (k : Nat) : SE := .w .u8 (.o .shr .u64 (.w .u64 (.v 1)) (.c (Int.ofNat k)))
noncomputable def hE : List SE → SE → SE
  | [], a => a
  | x :: l, a => hE l (.o .add .u64 (.o .mul .u64 (.c 256) a) x)
noncomputable def gotE : SE := hE [bE 48, bE 40, bE 32, bE 24, bE 16, bE 8, bE 0] (.o .add .u64 (.c 0) (.o .shr .u64 (.w .u64 (.v 1)) (.c 56)))
/-- A byte of v. -/
noncomputable def vE (o : Nat) : SE := match o with
  | 7 => .o .shr .u64 (.v 0) (.c 56)
  | o => .w .u8 (.o .shr .u64 (.v 0) (.c (Int.ofNat (8 * o))))
@[reducible] noncomputable def FA (o : Nat) : Fs := ⟨[⟨.neq, .o .or .u64 (.c 0) (.o .shl .u64 (vE o) (.c 0)), vE o, false⟩], [], []⟩
@[reducible] noncomputable def FP (lo hi : Int) (d : Nat) : Fs := ⟨[⟨.eql, gotE, .v 1, true⟩], [], subsP lo hi d⟩
@[reducible] noncomputable def FN (lo hi : Int) (d : Nat) : Fs := ⟨[⟨.eql, gotE, .w .u64 (.v 1), true⟩], [], subsN lo hi d⟩
noncomputable def sA (k : Nat) : S2 := ⟨[(0, .it .i32 (Int.ofNat k)), (1, sv), (7, .sl 1197 0 4 4 false), (12, .pt 4448 0)], [(4448, .part [] 6 38 0 false), (1197, .row [.it .u8 (Int.ofNat k), .it .u8 0, .it .u8 0, .it .u8 0] 5 0 false)], 4600⟩
noncomputable def runA (k o : Nat) : Option Unit := @evL (FA o) noHk _ Tryz.prog (@evDraw (FA o) _ Tryz.prog) 10000 151 [c2, c3, c4, c5, c6, c7, c8, c9] (T1 (.it .i32 (Int.ofNat k)) sv (.it .i64 (Int.ofNat o))) [] ⟨.lf, 1197⟩ (kS2 (sA k))
noncomputable def runB (F : Fs) (k : Nat) : Option Unit := @evC F _ Tryz.prog noHk (@evDraw F _ Tryz.prog) 10000 false 151 d10 (sA k).T [] (sA k).H kT
noncomputable def runE (p0 p1 p2 : PV) : Option Unit := @evC noFs _ Tryz.prog noHk (@evDraw noFs _ Tryz.prog) 1000 false 151 d2 (T1 p0 p1 p2) [] ⟨.lf, 1197⟩ kT
noncomputable def kLo : PV := .sy .i32 (-2147483648) (-1) (.v 2)
noncomputable def kHi : PV := .sy .i32 4 2147483647 (.v 2)
noncomputable def kIn : PV := .sy .i32 0 3 (.v 2)
noncomputable def oLo : PV := .sy .i64 (-9223372036854775808) (-1) (.v 3)
noncomputable def oHi : PV := .sy .i64 8 9223372036854775807 (.v 3)
set_option maxRecDepth 100000000
theorem X0_is (p0 p1 p2 : PV) : X0 p0 p1 p2 = some (Ta p0 p1 p2, 0) := by kernel_rfl
theorem X1_is (p0 p1 p2 : PV) : X1 p0 p1 p2 = some (T1 p0 p1 p2, 1197) := by kernel_rfl
theorem e_klo (p1 p2 : PV) : runE kLo p1 p2 = some () := by kernel_rfl
theorem e_khi (p1 p2 : PV) : runE kHi p1 p2 = some () := by kernel_rfl
theorem e_olo (p1 : PV) : runE kIn p1 oLo = some () := by kernel_rfl
theorem e_ohi (p1 : PV) : runE kIn p1 oHi = some () := by kernel_rfl
end Go.Proofs.YtkjclmafddgoiaaGreat.Ev
