/-
  A law's run in parts: its code up to the machine's texts, whatever its argument is.
-/
import Derived.Test.YtjhmmfoomcoadaaGreatEvZC
import Derived.Test.YtjhmmfoomcoadaaGreatChecked
namespace Go.Proofs.YtjhmmfoomcoadaaGreat.Ev
open Go.RowKit
set_option linter.unusedVariables false
noncomputable section
def fstC : Code → Code
  | .seq x _ => x
  | c => c
def sndC : Code → Code
  | .seq _ y => y
  | c => c
noncomputable def tB : Code := Tryz.f3.body.getD .skip
def t0 : Code := fstC tB
def tA : Code := fstC (sndC tB)
def t3 : Code := fstC (sndC (sndC tB))
def t4 : Code := fstC (sndC (sndC (sndC tB)))
def t5 : Code := fstC (sndC (sndC (sndC (sndC tB))))
def tR : Code := sndC (sndC (sndC (sndC (sndC tB))))
theorem tB_is : Tryz.f3.body = some (.seq t0 (.seq tA (.seq t3 (.seq t4 (.seq t5 tR))))) := by kernel_rfl
def kB (e : AE) (T : Tr PV) (D : DL) (H : Hp) : Option (Tr PV × Nat) := match e with
  | .normal => match D with
    | [] => some (T, H.n)
    | _ => none
  | _ => none
def kH (e : AE) (T : Tr PV) (D : DL) (H : Hp) : Option (Tr PV × Hp) := match e with
  | .normal => match D with
    | [] => some (T, H)
    | _ => none
  | _ => none
def T0 (x : Int) : Tr PV := Tr.fill .lf 0 [.it .i64 x]
def X0 (x : Int) : Option (Tr PV × Nat) := evC Tryz.prog (evDraw Tryz.prog) 1000 false 40 t0 (T0 x) [] ⟨.lf, 0⟩ kB
def T1 (x : Int) : Tr PV := (((T0 x).put 2 (some (.bl false))).put 8 (some (.bl true))).put 9 (some (.bl false))
def XA (x : Int) : Option (Tr PV × Nat) := evC Tryz.prog (evDraw Tryz.prog) 10000 false 40 tA ((T0 x).put 2 (some (.bl false))) [] ⟨.lf, 0⟩ kB
def X3 (x : Int) : Option (Tr PV × Hp) := evC Tryz.prog (evDraw Tryz.prog) 1000 false 40 t3 (T1 x) [] ⟨.lf, 1197⟩ kH
def d0 : Tr PV × Hp := (.lf, ⟨.lf, 0⟩)
def S3 (x : Int) : Tr PV × Hp := (X3 x).getD d0
def X4 (x : Int) : Option (Tr PV × Hp) := evC Tryz.prog (evDraw Tryz.prog) 1000 false 40 t4 (S3 x).1 [] (S3 x).2 kH
def S4 (x : Int) : Tr PV × Hp := (X4 x).getD d0
def T6 (x r s k : Int) : Tr PV := (((((S4 x).1.put 12 (some (.it .i64 x))).put 13 (some (.it .i64 r))).put 14 (some (.it .i64 s))).put 15 (some (.it .i64 k))).put 5 (some (.it .i64 k))
def kT (e : AE) (T : Tr PV) (D : DL) (H : Hp) : Option Unit := match e with
      | .ret => match D with
        | [] => match T.at 2 with
          | some (.bl true) => some ()
          | _ => none
        | _ => none
      | _ => none
set_option maxRecDepth 100000000
theorem X0_is (x : Int) : X0 x = some (((T0 x).put 2 (some (.bl false))), 0) := by kernel_rfl
theorem X3_is (x : Int) : X3 x = some (S3 x) := by kernel_rfl
theorem X4_is (x : Int) : X4 x = some (S4 x) := by kernel_rfl
theorem S4_at (x : Int) : (S4 x).1.at 0 = some (.it .i64 x) := by kernel_rfl
end
end Go.Proofs.YtjhmmfoomcoadaaGreat.Ev
