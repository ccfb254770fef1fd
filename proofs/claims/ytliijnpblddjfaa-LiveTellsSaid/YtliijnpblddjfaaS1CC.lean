/-
  Instructions: the reference.
-/
import Derived.Test.YtliijnpblddjfaaS1CB
namespace Go.Proofs.Ytliijnpblddjfaa
open Go.RowKit
set_option linter.unusedVariables false
set_option linter.unusedSimpArgs false
set_option linter.unusedSectionVars false
set_option maxRecDepth 100000
set_option maxHeartbeats 4000000
inductive zef where
 | e0 (c0_0 : Bool)
noncomputable def zeb (A0 : Nat → Insn) (y2 : Int) : Bool :=
 bif BitVec.ult (10#8) ((A0 (y2).toNat)).fDst then
 (true)
 else (bif BitVec.ult (10#8) ((A0 (y2).toNat)).fSrc then
 (true)
 else (bif ((A0 (y2).toNat)).fDst == 10#8 then
 (bif zdy ((A0 (y2).toNat)) then
 (true)
 else (false))
 else (false)))
noncomputable def zjL : Code := zb6 Try.f62 [1,1,0,0,1,1,0]
def zr8 (a0 : Option Addr) (p0 q0 n0 k0 : Nat) (A0 : Nat → Insn) (a1 : Option Addr) (p1 q1 n1 k1 : Nat) (A1 : Nat → Bool) (y2 : Int) (ls : List L1) : List Value := [.slice a0 n0 (n0 + k0),.slice a1 n1 (n1 + k1),.int .i64 (y2),.int .i64 (0),.pointer (some ⟨(lget ls 0).n,0,none⟩)]
noncomputable def zrN (a0 : Option Addr) (p0 q0 n0 k0 : Nat) (A0 : Nat → Insn) (a1 : Option Addr) (p1 q1 n1 k1 : Nat) (A1 : Nat → Bool) (y2 : Int) : List L1 → List Value := mrgF [(3,3),(2,96)] (zr8 a0 p0 q0 n0 k0 A0 a1 p1 q1 n1 k1 A1 y2) 1
def zrO (a0 : Option Addr) (p0 q0 n0 k0 : Nat) (A0 : Nat → Insn) (a1 : Option Addr) (p1 q1 n1 k1 : Nat) (A1 : Nat → Bool) (y2 : Int) (ls : List L1) : List Obj := [.cells #[.int .u8 (nn ((A0 (y2).toNat)).fOp),.int .u8 (nn ((A0 (y2).toNat)).fDst),.int .u8 (nn ((A0 (y2).toNat)).fSrc),.int .i16 (ii ((A0 (y2).toNat)).fOff),.int .i32 (ii ((A0 (y2).toNat)).fImm)] 25,unb]
def zr7 (a0 : Option Addr) (p0 q0 n0 k0 : Nat) (A0 : Nat → Insn) (a1 : Option Addr) (p1 q1 n1 k1 : Nat) (A1 : Nat → Bool) (y2 : Int) : zef → List L1 → List Value
 | .e0 c0_0,ls => [.slice a0 n0 (n0 + k0),.slice a1 n1 (n1 + k1),.int .i64 (y2),.int .i64 (0),.pointer (some ⟨(lget ls 0).n,0,none⟩),.bool (c0_0)]
def zrg : zef → List (Nat × Nat)
 | .e0 _ => [(3,3),(2,10),(1,85)]
noncomputable def zjH (a0 : Option Addr) (p0 q0 n0 k0 : Nat) (A0 : Nat → Insn) (a1 : Option Addr) (p1 q1 n1 k1 : Nat) (A1 : Nat → Bool) (y2 : Int) (r : zef) : List L1 → List Value := mrgF (zrg r) (zr7 a0 p0 q0 n0 k0 A0 a1 p1 q1 n1 k1 A1 y2 r) 1
def zjZ (a0 : Option Addr) (p0 q0 n0 k0 : Nat) (A0 : Nat → Insn) (a1 : Option Addr) (p1 q1 n1 k1 : Nat) (A1 : Nat → Bool) (y2 : Int) : zef → List L1 → List Obj
 | .e0 c0_0,ls => [.cells #[.int .u8 (nn ((A0 (y2).toNat)).fOp),.int .u8 (nn ((A0 (y2).toNat)).fDst),.int .u8 (nn ((A0 (y2).toNat)).fSrc),.int .i16 (ii ((A0 (y2).toNat)).fOff),.int .i32 (ii ((A0 (y2).toNat)).fImm)] 25,unb]
def zsd : zef → Ex
 | .e0 _ => .normal
section
variable {M : Nat → Prop} {B0 : Nat} {S : World → Prop} (hU : Up M B0 S) (a0 : Option Addr) (p0 q0 n0 k0 : Nat) (A0 : Nat → Insn) (hR0 : Ro S zd9 5 a0 p0 q0 n0 A0) (a1 : Option Addr) (p1 q1 n1 k1 : Nat) (A1 : Nat → Bool) (hR1 : Ro S cB 1 a1 p1 q1 n1 A1) (y2 : Int) (c0_0 : Bool)
include hU a0 p0 q0 n0 k0 A0 hR0 a1 p1 q1 n1 k1 A1 hR1 y2 c0_0
theorem zrY (e : zeb A0 y2 = c0_0) : zdm Try.prog M B0 S zjL 2 (zrN a0 p0 q0 n0 k0 A0 a1 p1 q1 n1 k1 A1 y2) (zrO a0 p0 q0 n0 k0 A0 a1 p1 q1 n1 k1 A1 y2) (zsd (.e0 c0_0)) 1 (zjH a0 p0 q0 n0 k0 A0 a1 p1 q1 n1 k1 A1 y2 (.e0 c0_0)) (zjZ a0 p0 q0 n0 k0 A0 a1 p1 q1 n1 k1 A1 y2 (.e0 c0_0)) 2 := by
 unfold zeb at e
 replace e := za e
 rcases e with ⟨hq0,e⟩ | ⟨hq0,e⟩
 ·subst e; exact zb hU [.o,.a 0,.t (u_gt ((A0 (y2).toNat)).fDst (10#8)) hq0,.o,.o,.o,.o,.o] [0] (fun b => rfl) (by decide) rfl rfl (fun b => by kernel_rfl)
 ·replace e := za e
  let P1 : List (PG Try.prog M B0 S) := [.o,.a 0,.t (u_gt ((A0 (y2).toNat)).fDst (10#8)) hq0,.o,.o,.a 0]
  rcases e with ⟨hq1,e⟩ | ⟨hq1,e⟩
  ·subst e; exact zb hU (P1 ++ [.t (u_gt ((A0 (y2).toNat)).fSrc (10#8)) hq1,.o,.o,.o,.o]) [0] (fun b => rfl) (by decide) rfl rfl (fun b => by kernel_rfl)
  ·replace e := za e
   let P2 : List (PG Try.prog M B0 S) := P1 ++ [.t (u_gt ((A0 (y2).toNat)).fSrc (10#8)) hq1,.o,.o,.o,.a 0]
   rcases e with ⟨hq2,e⟩ | ⟨hq2,e⟩
   ·replace e := za e
    rcases e with ⟨hq3,e⟩ | ⟨hq3,e⟩
    ·subst e; exact zb hU (P2 ++ [.t (u_eq ((A0 (y2).toNat)).fDst (10#8)) hq2,.o,.a 0,.cg (zff hU ((A0 (y2).toNat)) true hq3),.o,.o,.o]) [0] (fun b => rfl) (by decide) rfl rfl (fun b => by kernel_rfl)
    ·subst e; exact zb hU (P2 ++ [.t (u_eq ((A0 (y2).toNat)).fDst (10#8)) hq2,.o,.a 0,.cg (zff hU ((A0 (y2).toNat)) false hq3),.o,.o,.o]) [0] (fun b => rfl) (by decide) rfl rfl (fun b => by kernel_rfl)
   ·subst e; exact zb hU (P2 ++ [.t (u_eq ((A0 (y2).toNat)).fDst (10#8)) hq2,.o,.o,.o,.o]) [0] (fun b => rfl) (by decide) rfl rfl (fun b => by kernel_rfl)
def zqv (a0 : Option Addr) (p0 q0 n0 k0 : Nat) (A0 : Nat → Insn) (a1 : Option Addr) (p1 q1 n1 k1 : Nat) (A1 : Nat → Bool) (y2 : Int) (ls : List L1) : List Obj := [.cells #[.int .u8 (nn ((A0 (y2).toNat)).fOp),.int .u8 (nn ((A0 (y2).toNat)).fDst),.int .u8 (nn ((A0 (y2).toNat)).fSrc),.int .i16 (ii ((A0 (y2).toNat)).fOff),.int .i32 (ii ((A0 (y2).toNat)).fImm)] 25]
noncomputable def zrj (a0 : Option Addr) (p0 q0 n0 k0 : Nat) (A0 : Nat → Insn) (a1 : Option Addr) (p1 q1 n1 k1 : Nat) (A1 : Nat → Bool) (y2 : Int) (ls : List L1) : List Value := List.append [.slice a0 n0 (n0 + k0),.slice a1 n1 (n1 + k1),.int .i64 (y2),undef,undef,undef,.int .i64 (0),.pointer (some ⟨(lget ls 0).n,0,none⟩),undef,undef,.slice a0 n0 (n0 + k0),.int .i64 (y2),.pointer (some ⟨p0,q0 + (y2).toNat * 5,none⟩),.agg #[.int .u8 (nn ((A0 (y2).toNat)).fOp),.int .u8 (nn ((A0 (y2).toNat)).fDst),.int .u8 (nn ((A0 (y2).toNat)).fSrc),.int .i16 (ii ((A0 (y2).toNat)).fOff),.int .i32 (ii ((A0 (y2).toNat)).fImm)],.bool false,.agg #[.int .u8 (nn ((A0 (y2).toNat)).fOp),.int .u8 (nn ((A0 (y2).toNat)).fDst),.int .u8 (nn ((A0 (y2).toNat)).fSrc),.int .i16 (ii ((A0 (y2).toNat)).fOff),.int .i32 (ii ((A0 (y2).toNat)).fImm)],.bool true,.bool false] (und 86)
theorem zh8 (h : zeb A0 y2 = c0_0) : SpcG Try.prog M B0 S (spcJ zjL (zrj a0 p0 q0 n0 k0 A0 a1 p1 q1 n1 k1 A1 y2) (zqv a0 p0 q0 n0 k0 A0 a1 p1 q1 n1 k1 A1 y2) 1 0 .normal (zjH a0 p0 q0 n0 k0 A0 a1 p1 q1 n1 k1 A1 y2 (.e0 c0_0)) (zjZ a0 p0 q0 n0 k0 A0 a1 p1 q1 n1 k1 A1 y2 (.e0 c0_0))) :=
 zei hU (zrY hU a0 p0 q0 n0 k0 A0 hR0 a1 p1 q1 n1 k1 A1 hR1 y2 c0_0 h) (fun _ => rfl) (fun ls h => by match ls,h with | [l0],_ => exact ⟨by kernel_rfl,by kernel_rfl⟩) (fun ls h => by match ls,h with | [l0],_ => rfl) (fun ls => rfl)
inductive zd8 where
 | e0 (c0_0 : Bool)
noncomputable def zcU (A0 : Nat → Insn) (y2 : Int) : Bool :=
 bif ((A0 ((IntKind.i64.wrap (y2 + 1))).toNat)).fOp == 0#8 then
 (bif ((A0 ((IntKind.i64.wrap (y2 + 1))).toNat)).fDst == 0#8 then
 (bif ((A0 ((IntKind.i64.wrap (y2 + 1))).toNat)).fSrc == 0#8 then
 (bif ((A0 ((IntKind.i64.wrap (y2 + 1))).toNat)).fOff == 0#16 then
 (bif ((A0 (y2).toNat)).fSrc == 0#8 then
 (false)
 else (bif ((A0 ((IntKind.i64.wrap (y2 + 1))).toNat)).fImm == 0#32 then
 (false)
 else (true)))
 else (true))
 else (true))
 else (true))
 else (true)
noncomputable def zjT : Code := zb6 Try.f62 [1,1,1,0,1,0,1,1,0]
def zrK (a0 : Option Addr) (p0 q0 n0 k0 : Nat) (A0 : Nat → Insn) (a1 : Option Addr) (p1 q1 n1 k1 : Nat) (A1 : Nat → Bool) (y2 : Int) (ls : List L1) : List Value := [.slice a0 n0 (n0 + k0),.slice a1 n1 (n1 + k1),.int .i64 (y2),.int .i64 (0),.pointer (some ⟨(lget ls 0).n,0,none⟩),.pointer (some ⟨(lget ls 2).n,0,none⟩)]
noncomputable def zrp (a0 : Option Addr) (p0 q0 n0 k0 : Nat) (A0 : Nat → Insn) (a1 : Option Addr) (p1 q1 n1 k1 : Nat) (A1 : Nat → Bool) (y2 : Int) : List L1 → List Value := mrgF [(3,3),(3,95)] (zrK a0 p0 q0 n0 k0 A0 a1 p1 q1 n1 k1 A1 y2) 3
def zry (a0 : Option Addr) (p0 q0 n0 k0 : Nat) (A0 : Nat → Insn) (a1 : Option Addr) (p1 q1 n1 k1 : Nat) (A1 : Nat → Bool) (y2 : Int) (ls : List L1) : List Obj := [.cells #[.int .u8 (nn ((A0 (y2).toNat)).fOp),.int .u8 (nn ((A0 (y2).toNat)).fDst),.int .u8 (nn ((A0 (y2).toNat)).fSrc),.int .i16 (ii ((A0 (y2).toNat)).fOff),.int .i32 (ii ((A0 (y2).toNat)).fImm)] 25,unb,.cells #[.int .u8 (nn ((A0 ((IntKind.i64.wrap (y2 + 1))).toNat)).fOp),.int .u8 (nn ((A0 ((IntKind.i64.wrap (y2 + 1))).toNat)).fDst),.int .u8 (nn ((A0 ((IntKind.i64.wrap (y2 + 1))).toNat)).fSrc),.int .i16 (ii ((A0 ((IntKind.i64.wrap (y2 + 1))).toNat)).fOff),.int .i32 (ii ((A0 ((IntKind.i64.wrap (y2 + 1))).toNat)).fImm)] 25,unb]
def zrT (a0 : Option Addr) (p0 q0 n0 k0 : Nat) (A0 : Nat → Insn) (a1 : Option Addr) (p1 q1 n1 k1 : Nat) (A1 : Nat → Bool) (y2 : Int) : zd8 → List L1 → List Value
 | .e0 c0_0,ls => [.slice a0 n0 (n0 + k0),.slice a1 n1 (n1 + k1),.int .i64 (y2),.int .i64 (0),.pointer (some ⟨(lget ls 0).n,0,none⟩),.bool (c0_0)]
def zrE : zd8 → List (Nat × Nat)
 | .e0 _ => [(3,3),(2,67),(1,28)]
noncomputable def zj0 (a0 : Option Addr) (p0 q0 n0 k0 : Nat) (A0 : Nat → Insn) (a1 : Option Addr) (p1 q1 n1 k1 : Nat) (A1 : Nat → Bool) (y2 : Int) (r : zd8) : List L1 → List Value := mrgF (zrE r) (zrT a0 p0 q0 n0 k0 A0 a1 p1 q1 n1 k1 A1 y2 r) 3
def zjE (a0 : Option Addr) (p0 q0 n0 k0 : Nat) (A0 : Nat → Insn) (a1 : Option Addr) (p1 q1 n1 k1 : Nat) (A1 : Nat → Bool) (y2 : Int) : zd8 → List L1 → List Obj
 | .e0 c0_0,ls => [.cells #[.int .u8 (nn ((A0 (y2).toNat)).fOp),.int .u8 (nn ((A0 (y2).toNat)).fDst),.int .u8 (nn ((A0 (y2).toNat)).fSrc),.int .i16 (ii ((A0 (y2).toNat)).fOff),.int .i32 (ii ((A0 (y2).toNat)).fImm)] 25,unb,.cells #[.int .u8 (nn ((A0 ((IntKind.i64.wrap (y2 + 1))).toNat)).fOp),.int .u8 (nn ((A0 ((IntKind.i64.wrap (y2 + 1))).toNat)).fDst),.int .u8 (nn ((A0 ((IntKind.i64.wrap (y2 + 1))).toNat)).fSrc),.int .i16 (ii ((A0 ((IntKind.i64.wrap (y2 + 1))).toNat)).fOff),.int .i32 (ii ((A0 ((IntKind.i64.wrap (y2 + 1))).toNat)).fImm)] 25,unb]
def zrI : zd8 → Ex
 | .e0 _ => .normal
theorem zrG (e : zcU A0 y2 = c0_0) : zdm Try.prog M B0 S zjT 4 (zrp a0 p0 q0 n0 k0 A0 a1 p1 q1 n1 k1 A1 y2) (zry a0 p0 q0 n0 k0 A0 a1 p1 q1 n1 k1 A1 y2) (zrI (.e0 c0_0)) 3 (zj0 a0 p0 q0 n0 k0 A0 a1 p1 q1 n1 k1 A1 y2 (.e0 c0_0)) (zjE a0 p0 q0 n0 k0 A0 a1 p1 q1 n1 k1 A1 y2 (.e0 c0_0)) 4 := by
 unfold zcU at e
 replace e := za e
 rcases e with ⟨hq0,e⟩ | ⟨hq0,e⟩
 ·replace e := za e
  let P1 : List (PG Try.prog M B0 S) := [.o,.a 2,.tn (u_ne ((A0 ((IntKind.i64.wrap (y2 + 1))).toNat)).fOp (0#8)) hq0,.o,.o,.a 2]
  rcases e with ⟨hq1,e⟩ | ⟨hq1,e⟩
  ·replace e := za e
   let P2 : List (PG Try.prog M B0 S) := P1 ++ [.tn (u_ne ((A0 ((IntKind.i64.wrap (y2 + 1))).toNat)).fDst (0#8)) hq1,.o,.o,.o,.a 2]
   rcases e with ⟨hq2,e⟩ | ⟨hq2,e⟩
   ·replace e := za e
    let P3 : List (PG Try.prog M B0 S) := P2 ++ [.tn (u_ne ((A0 ((IntKind.i64.wrap (y2 + 1))).toNat)).fSrc (0#8)) hq2,.o,.o,.o,.a 2]
    rcases e with ⟨hq3,e⟩ | ⟨hq3,e⟩
    ·replace e := za e
     let P4 : List (PG Try.prog M B0 S) := P3 ++ [.tn (i_ne ((A0 ((IntKind.i64.wrap (y2 + 1))).toNat)).fOff (0#16)) hq3,.o,.o,.o,.a 0]
     rcases e with ⟨hq4,e⟩ | ⟨hq4,e⟩
     ·subst e; exact zb hU (P4 ++ [.tn (u_ne ((A0 (y2).toNat)).fSrc (0#8)) hq4,.o,.o,.o]) [0,1,2] (fun b => rfl) (by decide) rfl rfl (fun b => by kernel_rfl)
     ·replace e := za e
      rcases e with ⟨hq5,e⟩ | ⟨hq5,e⟩
      ·subst e; exact zb hU (P4 ++ [.tn (u_ne ((A0 (y2).toNat)).fSrc (0#8)) hq4,.o,.o,.a 2,.tn (i_ne ((A0 ((IntKind.i64.wrap (y2 + 1))).toNat)).fImm (0#32)) hq5,.o,.o]) [0,1,2] (fun b => rfl) (by decide) rfl rfl (fun b => by kernel_rfl)
      ·subst e; exact zb hU (P4 ++ [.tn (u_ne ((A0 (y2).toNat)).fSrc (0#8)) hq4,.o,.o,.a 2,.tn (i_ne ((A0 ((IntKind.i64.wrap (y2 + 1))).toNat)).fImm (0#32)) hq5,.o,.o]) [0,1,2] (fun b => rfl) (by decide) rfl rfl (fun b => by kernel_rfl)
    ·subst e; exact zb hU (P3 ++ [.tn (i_ne ((A0 ((IntKind.i64.wrap (y2 + 1))).toNat)).fOff (0#16)) hq3,.o,.o,.o]) [0,1,2] (fun b => rfl) (by decide) rfl rfl (fun b => by kernel_rfl)
   ·subst e; exact zb hU (P2 ++ [.tn (u_ne ((A0 ((IntKind.i64.wrap (y2 + 1))).toNat)).fSrc (0#8)) hq2,.o,.o,.o,.o,.o]) [0,1,2] (fun b => rfl) (by decide) rfl rfl (fun b => by kernel_rfl)
  ·subst e; exact zb hU (P1 ++ [.tn (u_ne ((A0 ((IntKind.i64.wrap (y2 + 1))).toNat)).fDst (0#8)) hq1,.o,.o,.o,.o,.o,.o,.o]) [0,1,2] (fun b => rfl) (by decide) rfl rfl (fun b => by kernel_rfl)
 ·subst e; exact zb hU [.o,.a 2,.tn (u_ne ((A0 ((IntKind.i64.wrap (y2 + 1))).toNat)).fOp (0#8)) hq0,.o,.o,.o,.o,.o,.o,.o,.o] [0,1,2] (fun b => rfl) (by decide) rfl rfl (fun b => by kernel_rfl)
def zqC (a0 : Option Addr) (p0 q0 n0 k0 : Nat) (A0 : Nat → Insn) (a1 : Option Addr) (p1 q1 n1 k1 : Nat) (A1 : Nat → Bool) (y2 : Int) (ls : List L1) : List Obj := [.cells #[.int .u8 (nn ((A0 (y2).toNat)).fOp),.int .u8 (nn ((A0 (y2).toNat)).fDst),.int .u8 (nn ((A0 (y2).toNat)).fSrc),.int .i16 (ii ((A0 (y2).toNat)).fOff),.int .i32 (ii ((A0 (y2).toNat)).fImm)] 25,unb,.cells #[.int .u8 (nn ((A0 ((IntKind.i64.wrap (y2 + 1))).toNat)).fOp),.int .u8 (nn ((A0 ((IntKind.i64.wrap (y2 + 1))).toNat)).fDst),.int .u8 (nn ((A0 ((IntKind.i64.wrap (y2 + 1))).toNat)).fSrc),.int .i16 (ii ((A0 ((IntKind.i64.wrap (y2 + 1))).toNat)).fOff),.int .i32 (ii ((A0 ((IntKind.i64.wrap (y2 + 1))).toNat)).fImm)] 25]
noncomputable def zr4 (a0 : Option Addr) (p0 q0 n0 k0 : Nat) (A0 : Nat → Insn) (a1 : Option Addr) (p1 q1 n1 k1 : Nat) (A1 : Nat → Bool) (y2 : Int) (ls : List L1) : List Value := List.append [.slice a0 n0 (n0 + k0),.slice a1 n1 (n1 + k1),.int .i64 (y2),((lget ls 1).u 3),((lget ls 1).u 4),((lget ls 1).u 5),.int .i64 (0),.pointer (some ⟨(lget ls 0).n,0,none⟩),.pointer (some ⟨(lget ls 2).n,0,none⟩)] (List.append (jks (lget ls 1).u 9 9) (List.append [.bool false] (List.append (jks (lget ls 1).u 19 17) (List.append [.agg #[.int .u8 (nn ((A0 (y2).toNat)).fOp),.int .u8 (nn ((A0 (y2).toNat)).fDst),.int .u8 (nn ((A0 (y2).toNat)).fSrc),.int .i16 (ii ((A0 (y2).toNat)).fOff),.int .i32 (ii ((A0 (y2).toNat)).fImm)],.bool true,.int .i64 (y2),.int .i64 ((IntKind.i64.wrap (y2 + 1))),.slice a0 n0 (n0 + k0),.int .i64 ((n0 : Int)),.bool false,.slice a0 n0 (n0 + k0),.int .i64 (y2),.int .i64 ((IntKind.i64.wrap (y2 + 1))),.pointer (some ⟨p0,q0 + ((IntKind.i64.wrap (y2 + 1))).toNat * 5,none⟩),.agg #[.int .u8 (nn ((A0 ((IntKind.i64.wrap (y2 + 1))).toNat)).fOp),.int .u8 (nn ((A0 ((IntKind.i64.wrap (y2 + 1))).toNat)).fDst),.int .u8 (nn ((A0 ((IntKind.i64.wrap (y2 + 1))).toNat)).fSrc),.int .i16 (ii ((A0 ((IntKind.i64.wrap (y2 + 1))).toNat)).fOff),.int .i32 (ii ((A0 ((IntKind.i64.wrap (y2 + 1))).toNat)).fImm)]] (jks (lget ls 1).u 48 56)))))
theorem zie (h : zcU A0 y2 = c0_0) : SpcG Try.prog M B0 S (spcJ zjT (zr4 a0 p0 q0 n0 k0 A0 a1 p1 q1 n1 k1 A1 y2) (zqC a0 p0 q0 n0 k0 A0 a1 p1 q1 n1 k1 A1 y2) 3 0 .normal (zj0 a0 p0 q0 n0 k0 A0 a1 p1 q1 n1 k1 A1 y2 (.e0 c0_0)) (zjE a0 p0 q0 n0 k0 A0 a1 p1 q1 n1 k1 A1 y2 (.e0 c0_0))) :=
 zei hU (zrG hU a0 p0 q0 n0 k0 A0 hR0 a1 p1 q1 n1 k1 A1 hR1 y2 c0_0 h) (fun _ => rfl) (fun ls h => by match ls,h with | [l0,l1,l2],_ => exact ⟨by kernel_rfl,by kernel_rfl⟩) (fun ls h => by match ls,h with | [l0,l1,l2],_ => rfl) (fun ls => rfl)
inductive zec where
 | e0 (c0_0 : Bool)
noncomputable def zed (A0 : Nat → Insn) (y2 : Int) : Bool :=
 bif zdC ((A0 (y2).toNat)) then
 (bif BitVec.slt ((A0 (y2).toNat)).fImm (1#32) then
 (true)
 else (bif BitVec.slt (28#32) ((A0 (y2).toNat)).fImm then
 (true)
 else (false)))
 else (false)
noncomputable def zjW : Code := zb6 Try.f62 [1,1,1,1,0,0]
def zse (a0 : Option Addr) (p0 q0 n0 k0 : Nat) (A0 : Nat → Insn) (a1 : Option Addr) (p1 q1 n1 k1 : Nat) (A1 : Nat → Bool) (y2 : Int) (ls : List L1) : List Value := [.slice a0 n0 (n0 + k0),.slice a1 n1 (n1 + k1),.int .i64 (y2),.int .i64 (0),.pointer (some ⟨(lget ls 0).n,0,none⟩)]
noncomputable def zrr (a0 : Option Addr) (p0 q0 n0 k0 : Nat) (A0 : Nat → Insn) (a1 : Option Addr) (p1 q1 n1 k1 : Nat) (A1 : Nat → Bool) (y2 : Int) : List L1 → List Value := mrgF [(3,3),(2,96)] (zse a0 p0 q0 n0 k0 A0 a1 p1 q1 n1 k1 A1 y2) 4
def zr6 (a0 : Option Addr) (p0 q0 n0 k0 : Nat) (A0 : Nat → Insn) (a1 : Option Addr) (p1 q1 n1 k1 : Nat) (A1 : Nat → Bool) (y2 : Int) (ls : List L1) : List Obj := [.cells #[.int .u8 (nn ((A0 (y2).toNat)).fOp),.int .u8 (nn ((A0 (y2).toNat)).fDst),.int .u8 (nn ((A0 (y2).toNat)).fSrc),.int .i16 (ii ((A0 (y2).toNat)).fOff),.int .i32 (ii ((A0 (y2).toNat)).fImm)] 25,unb,.cells #[.int .u8 (nn ((A0 ((IntKind.i64.wrap (y2 + 1))).toNat)).fOp),.int .u8 (nn ((A0 ((IntKind.i64.wrap (y2 + 1))).toNat)).fDst),.int .u8 (nn ((A0 ((IntKind.i64.wrap (y2 + 1))).toNat)).fSrc),.int .i16 (ii ((A0 ((IntKind.i64.wrap (y2 + 1))).toNat)).fOff),.int .i32 (ii ((A0 ((IntKind.i64.wrap (y2 + 1))).toNat)).fImm)] 25,unb,unb]
def zsc (a0 : Option Addr) (p0 q0 n0 k0 : Nat) (A0 : Nat → Insn) (a1 : Option Addr) (p1 q1 n1 k1 : Nat) (A1 : Nat → Bool) (y2 : Int) : zec → List L1 → List Value
 | .e0 c0_0,ls => [.slice a0 n0 (n0 + k0),.slice a1 n1 (n1 + k1),.int .i64 (y2),.int .i64 (0),.pointer (some ⟨(lget ls 0).n,0,none⟩),.bool (c0_0)]
def zsb : zec → List (Nat × Nat)
 | .e0 _ => [(3,3),(2,79),(1,16)]
noncomputable def zjO (a0 : Option Addr) (p0 q0 n0 k0 : Nat) (A0 : Nat → Insn) (a1 : Option Addr) (p1 q1 n1 k1 : Nat) (A1 : Nat → Bool) (y2 : Int) (r : zec) : List L1 → List Value := mrgF (zsb r) (zsc a0 p0 q0 n0 k0 A0 a1 p1 q1 n1 k1 A1 y2 r) 4
def zjV (a0 : Option Addr) (p0 q0 n0 k0 : Nat) (A0 : Nat → Insn) (a1 : Option Addr) (p1 q1 n1 k1 : Nat) (A1 : Nat → Bool) (y2 : Int) : zec → List L1 → List Obj
 | .e0 c0_0,ls => [.cells #[.int .u8 (nn ((A0 (y2).toNat)).fOp),.int .u8 (nn ((A0 (y2).toNat)).fDst),.int .u8 (nn ((A0 (y2).toNat)).fSrc),.int .i16 (ii ((A0 (y2).toNat)).fOff),.int .i32 (ii ((A0 (y2).toNat)).fImm)] 25,unb,.cells #[.int .u8 (nn ((A0 ((IntKind.i64.wrap (y2 + 1))).toNat)).fOp),.int .u8 (nn ((A0 ((IntKind.i64.wrap (y2 + 1))).toNat)).fDst),.int .u8 (nn ((A0 ((IntKind.i64.wrap (y2 + 1))).toNat)).fSrc),.int .i16 (ii ((A0 ((IntKind.i64.wrap (y2 + 1))).toNat)).fOff),.int .i32 (ii ((A0 ((IntKind.i64.wrap (y2 + 1))).toNat)).fImm)] 25,unb,unb]
def zrQ : zec → Ex
 | .e0 _ => .normal
theorem zrJ (e : zed A0 y2 = c0_0) : zdm Try.prog M B0 S zjW 5 (zrr a0 p0 q0 n0 k0 A0 a1 p1 q1 n1 k1 A1 y2) (zr6 a0 p0 q0 n0 k0 A0 a1 p1 q1 n1 k1 A1 y2) (zrQ (.e0 c0_0)) 4 (zjO a0 p0 q0 n0 k0 A0 a1 p1 q1 n1 k1 A1 y2 (.e0 c0_0)) (zjV a0 p0 q0 n0 k0 A0 a1 p1 q1 n1 k1 A1 y2 (.e0 c0_0)) 5 := by
 unfold zed at e
 replace e := za e
 rcases e with ⟨hq0,e⟩ | ⟨hq0,e⟩
 ·replace e := za e
  let P1 : List (PG Try.prog M B0 S) := [.a 0,.cg (zfd hU ((A0 (y2).toNat)) true hq0),.o,.o,.a 0]
  rcases e with ⟨hq1,e⟩ | ⟨hq1,e⟩
  ·subst e; exact zb hU (P1 ++ [.t (i_lt ((A0 (y2).toNat)).fImm (1#32)) hq1,.o,.o,.o]) [0,1,2,3] (fun b => rfl) (by decide) rfl rfl (fun b => by kernel_rfl)
  ·replace e := za e
   rcases e with ⟨hq2,e⟩ | ⟨hq2,e⟩
   ·subst e; exact zb hU (P1 ++ [.t (i_lt ((A0 (y2).toNat)).fImm (1#32)) hq1,.o,.o,.a 0,.t (i_gt ((A0 (y2).toNat)).fImm (28#32)) hq2,.o,.o]) [0,1,2,3] (fun b => rfl) (by decide) rfl rfl (fun b => by kernel_rfl)
   ·subst e; exact zb hU (P1 ++ [.t (i_lt ((A0 (y2).toNat)).fImm (1#32)) hq1,.o,.o,.a 0,.t (i_gt ((A0 (y2).toNat)).fImm (28#32)) hq2,.o,.o]) [0,1,2,3] (fun b => rfl) (by decide) rfl rfl (fun b => by kernel_rfl)
 ·subst e; exact zb hU [.a 0,.cg (zfd hU ((A0 (y2).toNat)) false hq0),.o,.o] [0,1,2,3] (fun b => rfl) (by decide) rfl rfl (fun b => by kernel_rfl)
def zqI (a0 : Option Addr) (p0 q0 n0 k0 : Nat) (A0 : Nat → Insn) (a1 : Option Addr) (p1 q1 n1 k1 : Nat) (A1 : Nat → Bool) (y2 : Int) (ls : List L1) : List Obj := [.cells #[.int .u8 (nn ((A0 (y2).toNat)).fOp),.int .u8 (nn ((A0 (y2).toNat)).fDst),.int .u8 (nn ((A0 (y2).toNat)).fSrc),.int .i16 (ii ((A0 (y2).toNat)).fOff),.int .i32 (ii ((A0 (y2).toNat)).fImm)] 25,unb,.cells #[.int .u8 (nn ((A0 ((IntKind.i64.wrap (y2 + 1))).toNat)).fOp),.int .u8 (nn ((A0 ((IntKind.i64.wrap (y2 + 1))).toNat)).fDst),.int .u8 (nn ((A0 ((IntKind.i64.wrap (y2 + 1))).toNat)).fSrc),.int .i16 (ii ((A0 ((IntKind.i64.wrap (y2 + 1))).toNat)).fOff),.int .i32 (ii ((A0 ((IntKind.i64.wrap (y2 + 1))).toNat)).fImm)] 25,unb]
noncomputable def zru (a0 : Option Addr) (p0 q0 n0 k0 : Nat) (A0 : Nat → Insn) (a1 : Option Addr) (p1 q1 n1 k1 : Nat) (A1 : Nat → Bool) (y2 : Int) (ls : List L1) : List Value := List.append [.slice a0 n0 (n0 + k0),.slice a1 n1 (n1 + k1),.int .i64 (y2),((lget ls 3).u 3),((lget ls 3).u 4),((lget ls 3).u 5),.int .i64 (0),.pointer (some ⟨(lget ls 0).n,0,none⟩)] (List.append (jks (lget ls 3).u 8 67) (List.append [.bool false] (jks (lget ls 3).u 76 28)))
theorem zih (h : zed A0 y2 = c0_0) : SpcG Try.prog M B0 S (spcJ zjW (zru a0 p0 q0 n0 k0 A0 a1 p1 q1 n1 k1 A1 y2) (zqI a0 p0 q0 n0 k0 A0 a1 p1 q1 n1 k1 A1 y2) 4 0 .normal (zjO a0 p0 q0 n0 k0 A0 a1 p1 q1 n1 k1 A1 y2 (.e0 c0_0)) (zjV a0 p0 q0 n0 k0 A0 a1 p1 q1 n1 k1 A1 y2 (.e0 c0_0))) :=
 zei hU (zrJ hU a0 p0 q0 n0 k0 A0 hR0 a1 p1 q1 n1 k1 A1 hR1 y2 c0_0 h) (fun _ => rfl) (fun ls h => by match ls,h with | [l0,l1,l2,l3],_ => exact ⟨by kernel_rfl,by kernel_rfl⟩) (fun ls h => by match ls,h with | [l0,l1,l2,l3],_ => rfl) (fun ls => rfl)
inductive zd5 where
 | e0 (c0_0 : Bool)
noncomputable def zdk (n1 : Nat) (A1 : Nat → Bool) (r3 : Int) : Option (Bool) :=
 bif decide (r3 < 1) then
 (some true)
 else (bif inR r3 n1 then
 (bif (A1 (r3).toNat) then
 (some true)
 else (some false))
 else (none))
noncomputable def zjA : Code := zb6 Try.f62 [1,1,1,1,1,0,1,0,1,0]
def zre (A0 : Nat → Insn) (a1 : Option Addr) (p1 q1 n1 k1 : Nat) (A1 : Nat → Bool) (y2 : Int) (r3 : Int) (ls : List L1) : List Value := [.slice a1 n1 (n1 + k1),.int .i64 (0),.int .i64 (r3)]
noncomputable def zrA (A0 : Nat → Insn) (a1 : Option Addr) (p1 q1 n1 k1 : Nat) (A1 : Nat → Bool) (y2 : Int) (r3 : Int) : List L1 → List Value := mrgF [(0,1),(1,4),(1,2),(1,94)] (zre A0 a1 p1 q1 n1 k1 A1 y2 r3) 5
def zrh (A0 : Nat → Insn) (a1 : Option Addr) (p1 q1 n1 k1 : Nat) (A1 : Nat → Bool) (y2 : Int) (r3 : Int) (ls : List L1) : List Obj := [.cells #[.int .u8 (nn ((A0 (y2).toNat)).fOp),.int .u8 (nn ((A0 (y2).toNat)).fDst),.int .u8 (nn ((A0 (y2).toNat)).fSrc),.int .i16 (ii ((A0 (y2).toNat)).fOff),.int .i32 (ii ((A0 (y2).toNat)).fImm)] 25,unb,.cells #[.int .u8 (nn ((A0 ((IntKind.i64.wrap (y2 + 1))).toNat)).fOp),.int .u8 (nn ((A0 ((IntKind.i64.wrap (y2 + 1))).toNat)).fDst),.int .u8 (nn ((A0 ((IntKind.i64.wrap (y2 + 1))).toNat)).fSrc),.int .i16 (ii ((A0 ((IntKind.i64.wrap (y2 + 1))).toNat)).fOff),.int .i32 (ii ((A0 ((IntKind.i64.wrap (y2 + 1))).toNat)).fImm)] 25,unb,unb,unb]
def zrF (A0 : Nat → Insn) (a1 : Option Addr) (p1 q1 n1 k1 : Nat) (A1 : Nat → Bool) (y2 : Int) (r3 : Int) : zd5 → List L1 → List Value
 | .e0 c0_0,ls => [.int .i64 (0),.bool (c0_0)]
def zq3 : zd5 → List (Nat × Nat)
 | .e0 _ => [(0,6),(1,96),(1,0)]
noncomputable def zj1 (A0 : Nat → Insn) (a1 : Option Addr) (p1 q1 n1 k1 : Nat) (A1 : Nat → Bool) (y2 : Int) (r3 : Int) (r : zd5) : List L1 → List Value := mrgF (zq3 r) (zrF A0 a1 p1 q1 n1 k1 A1 y2 r3 r) 5
def zjC (A0 : Nat → Insn) (a1 : Option Addr) (p1 q1 n1 k1 : Nat) (A1 : Nat → Bool) (y2 : Int) (r3 : Int) : zd5 → List L1 → List Obj
 | .e0 c0_0,ls => [.cells #[.int .u8 (nn ((A0 (y2).toNat)).fOp),.int .u8 (nn ((A0 (y2).toNat)).fDst),.int .u8 (nn ((A0 (y2).toNat)).fSrc),.int .i16 (ii ((A0 (y2).toNat)).fOff),.int .i32 (ii ((A0 (y2).toNat)).fImm)] 25,unb,.cells #[.int .u8 (nn ((A0 ((IntKind.i64.wrap (y2 + 1))).toNat)).fOp),.int .u8 (nn ((A0 ((IntKind.i64.wrap (y2 + 1))).toNat)).fDst),.int .u8 (nn ((A0 ((IntKind.i64.wrap (y2 + 1))).toNat)).fSrc),.int .i16 (ii ((A0 ((IntKind.i64.wrap (y2 + 1))).toNat)).fOff),.int .i32 (ii ((A0 ((IntKind.i64.wrap (y2 + 1))).toNat)).fImm)] 25,unb,unb,unb]
def zri : zd5 → Ex
 | .e0 _ => .normal
end
section
variable {M : Nat → Prop} {B0 : Nat} {S : World → Prop} (hU : Up M B0 S) (A0 : Nat → Insn) (a1 : Option Addr) (p1 q1 n1 k1 : Nat) (A1 : Nat → Bool) (hR1 : Ro S cB 1 a1 p1 q1 n1 A1) (y2 : Int) (r3 : Int)
include hU A0 a1 p1 q1 n1 k1 A1 hR1 y2 r3
theorem zrv (c0_0 : Bool) (e : zdk n1 A1 r3 = some c0_0) : zdm Try.prog M B0 S zjA 6 (zrA A0 a1 p1 q1 n1 k1 A1 y2 r3) (zrh A0 a1 p1 q1 n1 k1 A1 y2 r3) (zri (.e0 c0_0)) 5 (zj1 A0 a1 p1 q1 n1 k1 A1 y2 r3 (.e0 c0_0)) (zjC A0 a1 p1 q1 n1 k1 A1 y2 r3 (.e0 c0_0)) 6 := by
 unfold zdk at e
 replace e := za e
 rcases e with ⟨hq0,e⟩ | ⟨hq0,e⟩
 ·injection e with e; subst e; exact zb hU [.o,.b (zcR hq0),.o,.o] [0,1,2,3,4] (fun b => rfl) (by decide) rfl rfl (fun b => by kernel_rfl)
 ·replace e := za e
  rcases e with ⟨hq1,e⟩ | ⟨hq1,e⟩
  ·replace e := za e
   let P1 : List (PG Try.prog M B0 S) := [.o,.b (zb7 hq0),.o,.o,.o,.q (zA (kd := .i64) (T := 64) (x := r3) (sz := 1) rfl (fun w => by kernel_rfl) hR1 hq1)]
   rcases e with ⟨hq2,e⟩ | ⟨hq2,e⟩
   ·injection e with e; subst e; exact zb hU (P1 ++ [.l (zcm hR1 zbc (ze hq1) 0 [.bool true] (congrArg (fun b => [Value.bool b]) hq2)),.o]) [0,1,2,3,4] (fun b => rfl) (by decide) rfl rfl (fun b => by kernel_rfl)
   ·injection e with e; subst e; exact zb hU (P1 ++ [.l (zcm hR1 zbc (ze hq1) 0 [.bool false] (congrArg (fun b => [Value.bool b]) hq2)),.o]) [0,1,2,3,4] (fun b => rfl) (by decide) rfl rfl (fun b => by kernel_rfl)
  ·exact zd e
def zqx (A0 : Nat → Insn) (a1 : Option Addr) (p1 q1 n1 k1 : Nat) (A1 : Nat → Bool) (y2 : Int) (r3 : Int) (ls : List L1) : List Obj := [.cells #[.int .u8 (nn ((A0 (y2).toNat)).fOp),.int .u8 (nn ((A0 (y2).toNat)).fDst),.int .u8 (nn ((A0 (y2).toNat)).fSrc),.int .i16 (ii ((A0 (y2).toNat)).fOff),.int .i32 (ii ((A0 (y2).toNat)).fImm)] 25,unb,.cells #[.int .u8 (nn ((A0 ((IntKind.i64.wrap (y2 + 1))).toNat)).fOp),.int .u8 (nn ((A0 ((IntKind.i64.wrap (y2 + 1))).toNat)).fDst),.int .u8 (nn ((A0 ((IntKind.i64.wrap (y2 + 1))).toNat)).fSrc),.int .i16 (ii ((A0 ((IntKind.i64.wrap (y2 + 1))).toNat)).fOff),.int .i32 (ii ((A0 ((IntKind.i64.wrap (y2 + 1))).toNat)).fImm)] 25,unb,unb]
noncomputable def zrC (A0 : Nat → Insn) (a1 : Option Addr) (p1 q1 n1 k1 : Nat) (A1 : Nat → Bool) (y2 : Int) (r3 : Int) (a0 : Option Addr) (n0 k0 : Nat) (ls : List L1) : List Value := List.append [.slice a0 n0 (n0 + k0),.slice a1 n1 (n1 + k1),.int .i64 (y2),((lget ls 4).u 3),((lget ls 4).u 4),((lget ls 4).u 5),.int .i64 (0),.pointer (some ⟨(lget ls 0).n,0,none⟩),((lget ls 4).u 8),.int .i64 (r3)] (List.append (jks (lget ls 4).u 10 77) (List.append [.bool false,.agg #[.int .u8 (nn ((A0 (y2).toNat)).fOp),.int .u8 (nn ((A0 (y2).toNat)).fDst),.int .u8 (nn ((A0 (y2).toNat)).fSrc),.int .i16 (ii ((A0 (y2).toNat)).fOff),.int .i32 (ii ((A0 (y2).toNat)).fImm)],.bool true,.slice a0 n0 (n0 + k0),.int .i64 (y2),.pointer (some ⟨(lget ls 0).n,4,none⟩),.int .i32 (ii ((A0 (y2).toNat)).fImm),.int .i64 ((ii ((A0 (y2).toNat)).fImm)),.int .i64 (r3)] (jks (lget ls 4).u 96 8)))
theorem zh7 (a0 : Option Addr) (n0 k0 : Nat) (c0_0 : Bool) (h : zdk n1 A1 r3 = some c0_0) : SpcG Try.prog M B0 S (spcJ zjA (zrC A0 a1 p1 q1 n1 k1 A1 y2 r3 a0 n0 k0) (zqx A0 a1 p1 q1 n1 k1 A1 y2 r3) 5 0 .normal (zj1 A0 a1 p1 q1 n1 k1 A1 y2 r3 (.e0 c0_0)) (zjC A0 a1 p1 q1 n1 k1 A1 y2 r3 (.e0 c0_0))) :=
 zei hU (zrv hU A0 a1 p1 q1 n1 k1 A1 hR1 y2 r3 c0_0 h) (fun _ => rfl) (fun ls h => by match ls,h with | [l0,l1,l2,l3,l4],_ => exact ⟨by kernel_rfl,by kernel_rfl⟩) (fun ls h => by match ls,h with | [l0,l1,l2,l3,l4],_ => rfl) (fun ls => rfl)
inductive zea where
 | e0 (c0_0 : Bool)
noncomputable def zee (A0 : Nat → Insn) (y2 : Int) : Bool :=
 bif zdC ((A0 (y2).toNat)) then
 (bif BitVec.slt ((A0 (y2).toNat)).fImm (1#32) then
 (true)
 else (bif BitVec.slt (28#32) ((A0 (y2).toNat)).fImm then
 (true)
 else (false)))
 else (false)
noncomputable def zjM : Code := zb6 Try.f62 [1,1,1,1,0,0]
def zrf (a0 : Option Addr) (p0 q0 n0 k0 : Nat) (A0 : Nat → Insn) (a1 : Option Addr) (p1 q1 n1 k1 : Nat) (A1 : Nat → Bool) (y2 : Int) (ls : List L1) : List Value := [.slice a0 n0 (n0 + k0),.slice a1 n1 (n1 + k1),.int .i64 (y2),.int .i64 (0),.pointer (some ⟨(lget ls 0).n,0,none⟩)]
noncomputable def zrm (a0 : Option Addr) (p0 q0 n0 k0 : Nat) (A0 : Nat → Insn) (a1 : Option Addr) (p1 q1 n1 k1 : Nat) (A1 : Nat → Bool) (y2 : Int) : List L1 → List Value := mrgF [(3,3),(2,96)] (zrf a0 p0 q0 n0 k0 A0 a1 p1 q1 n1 k1 A1 y2) 2
def zrL (a0 : Option Addr) (p0 q0 n0 k0 : Nat) (A0 : Nat → Insn) (a1 : Option Addr) (p1 q1 n1 k1 : Nat) (A1 : Nat → Bool) (y2 : Int) (ls : List L1) : List Obj := [.cells #[.int .u8 (nn ((A0 (y2).toNat)).fOp),.int .u8 (nn ((A0 (y2).toNat)).fDst),.int .u8 (nn ((A0 (y2).toNat)).fSrc),.int .i16 (ii ((A0 (y2).toNat)).fOff),.int .i32 (ii ((A0 (y2).toNat)).fImm)] 25,unb,unb]
def zrH (a0 : Option Addr) (p0 q0 n0 k0 : Nat) (A0 : Nat → Insn) (a1 : Option Addr) (p1 q1 n1 k1 : Nat) (A1 : Nat → Bool) (y2 : Int) : zea → List L1 → List Value
 | .e0 c0_0,ls => [.slice a0 n0 (n0 + k0),.slice a1 n1 (n1 + k1),.int .i64 (y2),.int .i64 (0),.pointer (some ⟨(lget ls 0).n,0,none⟩),.bool (c0_0)]
def zrW : zea → List (Nat × Nat)
 | .e0 _ => [(3,3),(2,79),(1,16)]
noncomputable def zjP (a0 : Option Addr) (p0 q0 n0 k0 : Nat) (A0 : Nat → Insn) (a1 : Option Addr) (p1 q1 n1 k1 : Nat) (A1 : Nat → Bool) (y2 : Int) (r : zea) : List L1 → List Value := mrgF (zrW r) (zrH a0 p0 q0 n0 k0 A0 a1 p1 q1 n1 k1 A1 y2 r) 2
def zjz (a0 : Option Addr) (p0 q0 n0 k0 : Nat) (A0 : Nat → Insn) (a1 : Option Addr) (p1 q1 n1 k1 : Nat) (A1 : Nat → Bool) (y2 : Int) : zea → List L1 → List Obj
 | .e0 c0_0,ls => [.cells #[.int .u8 (nn ((A0 (y2).toNat)).fOp),.int .u8 (nn ((A0 (y2).toNat)).fDst),.int .u8 (nn ((A0 (y2).toNat)).fSrc),.int .i16 (ii ((A0 (y2).toNat)).fOff),.int .i32 (ii ((A0 (y2).toNat)).fImm)] 25,unb,unb]
def zq8 : zea → Ex
 | .e0 _ => .normal
end
section
variable {M : Nat → Prop} {B0 : Nat} {S : World → Prop} (hU : Up M B0 S) (a0 : Option Addr) (p0 q0 n0 k0 : Nat) (A0 : Nat → Insn) (hR0 : Ro S zd9 5 a0 p0 q0 n0 A0) (a1 : Option Addr) (p1 q1 n1 k1 : Nat) (A1 : Nat → Bool) (hR1 : Ro S cB 1 a1 p1 q1 n1 A1) (y2 : Int) (c0_0 : Bool)
include hU a0 p0 q0 n0 k0 A0 hR0 a1 p1 q1 n1 k1 A1 hR1 y2 c0_0
theorem zrn (e : zee A0 y2 = c0_0) : zdm Try.prog M B0 S zjM 3 (zrm a0 p0 q0 n0 k0 A0 a1 p1 q1 n1 k1 A1 y2) (zrL a0 p0 q0 n0 k0 A0 a1 p1 q1 n1 k1 A1 y2) (zq8 (.e0 c0_0)) 2 (zjP a0 p0 q0 n0 k0 A0 a1 p1 q1 n1 k1 A1 y2 (.e0 c0_0)) (zjz a0 p0 q0 n0 k0 A0 a1 p1 q1 n1 k1 A1 y2 (.e0 c0_0)) 3 := by
 unfold zee at e
 replace e := za e
 rcases e with ⟨hq0,e⟩ | ⟨hq0,e⟩
 ·replace e := za e
  let P1 : List (PG Try.prog M B0 S) := [.a 0,.cg (zfd hU ((A0 (y2).toNat)) true hq0),.o,.o,.a 0]
  rcases e with ⟨hq1,e⟩ | ⟨hq1,e⟩
  ·subst e; exact zb hU (P1 ++ [.t (i_lt ((A0 (y2).toNat)).fImm (1#32)) hq1,.o,.o,.o]) [0,1] (fun b => rfl) (by decide) rfl rfl (fun b => by kernel_rfl)
  ·replace e := za e
   rcases e with ⟨hq2,e⟩ | ⟨hq2,e⟩
   ·subst e; exact zb hU (P1 ++ [.t (i_lt ((A0 (y2).toNat)).fImm (1#32)) hq1,.o,.o,.a 0,.t (i_gt ((A0 (y2).toNat)).fImm (28#32)) hq2,.o,.o]) [0,1] (fun b => rfl) (by decide) rfl rfl (fun b => by kernel_rfl)
   ·subst e; exact zb hU (P1 ++ [.t (i_lt ((A0 (y2).toNat)).fImm (1#32)) hq1,.o,.o,.a 0,.t (i_gt ((A0 (y2).toNat)).fImm (28#32)) hq2,.o,.o]) [0,1] (fun b => rfl) (by decide) rfl rfl (fun b => by kernel_rfl)
 ·subst e; exact zb hU [.a 0,.cg (zfd hU ((A0 (y2).toNat)) false hq0),.o,.o] [0,1] (fun b => rfl) (by decide) rfl rfl (fun b => by kernel_rfl)
def zqN (a0 : Option Addr) (p0 q0 n0 k0 : Nat) (A0 : Nat → Insn) (a1 : Option Addr) (p1 q1 n1 k1 : Nat) (A1 : Nat → Bool) (y2 : Int) (ls : List L1) : List Obj := [.cells #[.int .u8 (nn ((A0 (y2).toNat)).fOp),.int .u8 (nn ((A0 (y2).toNat)).fDst),.int .u8 (nn ((A0 (y2).toNat)).fSrc),.int .i16 (ii ((A0 (y2).toNat)).fOff),.int .i32 (ii ((A0 (y2).toNat)).fImm)] 25,unb]
noncomputable def zqY (a0 : Option Addr) (p0 q0 n0 k0 : Nat) (A0 : Nat → Insn) (a1 : Option Addr) (p1 q1 n1 k1 : Nat) (A1 : Nat → Bool) (y2 : Int) (ls : List L1) : List Value := List.append [.slice a0 n0 (n0 + k0),.slice a1 n1 (n1 + k1),.int .i64 (y2),((lget ls 1).u 3),((lget ls 1).u 4),((lget ls 1).u 5),.int .i64 (0),.pointer (some ⟨(lget ls 0).n,0,none⟩)] (List.append (jks (lget ls 1).u 8 10) (List.append [.bool false] (List.append (jks (lget ls 1).u 19 17) (List.append [.agg #[.int .u8 (nn ((A0 (y2).toNat)).fOp),.int .u8 (nn ((A0 (y2).toNat)).fDst),.int .u8 (nn ((A0 (y2).toNat)).fSrc),.int .i16 (ii ((A0 (y2).toNat)).fOff),.int .i32 (ii ((A0 (y2).toNat)).fImm)],.bool false] (jks (lget ls 1).u 38 66)))))
theorem zii (h : zee A0 y2 = c0_0) : SpcG Try.prog M B0 S (spcJ zjM (zqY a0 p0 q0 n0 k0 A0 a1 p1 q1 n1 k1 A1 y2) (zqN a0 p0 q0 n0 k0 A0 a1 p1 q1 n1 k1 A1 y2) 2 0 .normal (zjP a0 p0 q0 n0 k0 A0 a1 p1 q1 n1 k1 A1 y2 (.e0 c0_0)) (zjz a0 p0 q0 n0 k0 A0 a1 p1 q1 n1 k1 A1 y2 (.e0 c0_0))) :=
 zei hU (zrn hU a0 p0 q0 n0 k0 A0 hR0 a1 p1 q1 n1 k1 A1 hR1 y2 c0_0 h) (fun _ => rfl) (fun ls h => by match ls,h with | [l0,l1],_ => exact ⟨by kernel_rfl,by kernel_rfl⟩) (fun ls h => by match ls,h with | [l0,l1],_ => rfl) (fun ls => rfl)
inductive zd7 where
 | e0 (c0_0 : Bool)
noncomputable def zd6 (n1 : Nat) (A1 : Nat → Bool) (r2 : Int) : Option (Bool) :=
 bif decide (r2 < 1) then
 (some true)
 else (bif inR r2 n1 then
 (bif (A1 (r2).toNat) then
 (some true)
 else (some false))
 else (none))
noncomputable def zjG : Code := zb6 Try.f62 [1,1,1,1,1,0,1,0,1,0]
def zrb (A0 : Nat → Insn) (a1 : Option Addr) (p1 q1 n1 k1 : Nat) (A1 : Nat → Bool) (y2 : Int) (r2 : Int) (ls : List L1) : List Value := [.slice a1 n1 (n1 + k1),.int .i64 (0),.int .i64 (r2)]
noncomputable def zr0 (A0 : Nat → Insn) (a1 : Option Addr) (p1 q1 n1 k1 : Nat) (A1 : Nat → Bool) (y2 : Int) (r2 : Int) : List L1 → List Value := mrgF [(0,1),(1,4),(1,2),(1,94)] (zrb A0 a1 p1 q1 n1 k1 A1 y2 r2) 3
def zrX (A0 : Nat → Insn) (a1 : Option Addr) (p1 q1 n1 k1 : Nat) (A1 : Nat → Bool) (y2 : Int) (r2 : Int) (ls : List L1) : List Obj := [.cells #[.int .u8 (nn ((A0 (y2).toNat)).fOp),.int .u8 (nn ((A0 (y2).toNat)).fDst),.int .u8 (nn ((A0 (y2).toNat)).fSrc),.int .i16 (ii ((A0 (y2).toNat)).fOff),.int .i32 (ii ((A0 (y2).toNat)).fImm)] 25,unb,unb,unb]
def zrZ (A0 : Nat → Insn) (a1 : Option Addr) (p1 q1 n1 k1 : Nat) (A1 : Nat → Bool) (y2 : Int) (r2 : Int) : zd7 → List L1 → List Value
 | .e0 c0_0,ls => [.int .i64 (0),.bool (c0_0)]
def zq9 : zd7 → List (Nat × Nat)
 | .e0 _ => [(0,6),(1,96),(1,0)]
noncomputable def zjB (A0 : Nat → Insn) (a1 : Option Addr) (p1 q1 n1 k1 : Nat) (A1 : Nat → Bool) (y2 : Int) (r2 : Int) (r : zd7) : List L1 → List Value := mrgF (zq9 r) (zrZ A0 a1 p1 q1 n1 k1 A1 y2 r2 r) 3
def zjK (A0 : Nat → Insn) (a1 : Option Addr) (p1 q1 n1 k1 : Nat) (A1 : Nat → Bool) (y2 : Int) (r2 : Int) : zd7 → List L1 → List Obj
 | .e0 c0_0,ls => [.cells #[.int .u8 (nn ((A0 (y2).toNat)).fOp),.int .u8 (nn ((A0 (y2).toNat)).fDst),.int .u8 (nn ((A0 (y2).toNat)).fSrc),.int .i16 (ii ((A0 (y2).toNat)).fOff),.int .i32 (ii ((A0 (y2).toNat)).fImm)] 25,unb,unb,unb]
def zrw : zd7 → Ex
 | .e0 _ => .normal
end
section
variable {M : Nat → Prop} {B0 : Nat} {S : World → Prop} (hU : Up M B0 S) (A0 : Nat → Insn) (a1 : Option Addr) (p1 q1 n1 k1 : Nat) (A1 : Nat → Bool) (hR1 : Ro S cB 1 a1 p1 q1 n1 A1) (y2 : Int) (r2 : Int)
include hU A0 a1 p1 q1 n1 k1 A1 hR1 y2 r2
theorem zq6 (c0_0 : Bool) (e : zd6 n1 A1 r2 = some c0_0) : zdm Try.prog M B0 S zjG 4 (zr0 A0 a1 p1 q1 n1 k1 A1 y2 r2) (zrX A0 a1 p1 q1 n1 k1 A1 y2 r2) (zrw (.e0 c0_0)) 3 (zjB A0 a1 p1 q1 n1 k1 A1 y2 r2 (.e0 c0_0)) (zjK A0 a1 p1 q1 n1 k1 A1 y2 r2 (.e0 c0_0)) 4 := by
 unfold zd6 at e
 replace e := za e
 rcases e with ⟨hq0,e⟩ | ⟨hq0,e⟩
 ·injection e with e; subst e; exact zb hU [.o,.b (zcR hq0),.o,.o] [0,1,2] (fun b => rfl) (by decide) rfl rfl (fun b => by kernel_rfl)
 ·replace e := za e
  rcases e with ⟨hq1,e⟩ | ⟨hq1,e⟩
  ·replace e := za e
   let P1 : List (PG Try.prog M B0 S) := [.o,.b (zb7 hq0),.o,.o,.o,.q (zA (kd := .i64) (T := 64) (x := r2) (sz := 1) rfl (fun w => by kernel_rfl) hR1 hq1)]
   rcases e with ⟨hq2,e⟩ | ⟨hq2,e⟩
   ·injection e with e; subst e; exact zb hU (P1 ++ [.l (zcm hR1 zbc (ze hq1) 0 [.bool true] (congrArg (fun b => [Value.bool b]) hq2)),.o]) [0,1,2] (fun b => rfl) (by decide) rfl rfl (fun b => by kernel_rfl)
   ·injection e with e; subst e; exact zb hU (P1 ++ [.l (zcm hR1 zbc (ze hq1) 0 [.bool false] (congrArg (fun b => [Value.bool b]) hq2)),.o]) [0,1,2] (fun b => rfl) (by decide) rfl rfl (fun b => by kernel_rfl)
  ·exact zd e
def zqH (A0 : Nat → Insn) (a1 : Option Addr) (p1 q1 n1 k1 : Nat) (A1 : Nat → Bool) (y2 : Int) (r2 : Int) (ls : List L1) : List Obj := [.cells #[.int .u8 (nn ((A0 (y2).toNat)).fOp),.int .u8 (nn ((A0 (y2).toNat)).fDst),.int .u8 (nn ((A0 (y2).toNat)).fSrc),.int .i16 (ii ((A0 (y2).toNat)).fOff),.int .i32 (ii ((A0 (y2).toNat)).fImm)] 25,unb,unb]
noncomputable def zrc (A0 : Nat → Insn) (a1 : Option Addr) (p1 q1 n1 k1 : Nat) (A1 : Nat → Bool) (y2 : Int) (r2 : Int) (a0 : Option Addr) (n0 k0 : Nat) (ls : List L1) : List Value := List.append [.slice a0 n0 (n0 + k0),.slice a1 n1 (n1 + k1),.int .i64 (y2),((lget ls 2).u 3),((lget ls 2).u 4),((lget ls 2).u 5),.int .i64 (0),.pointer (some ⟨(lget ls 0).n,0,none⟩),((lget ls 2).u 8),.int .i64 (r2)] (List.append (jks (lget ls 2).u 10 77) (List.append [.bool false,.agg #[.int .u8 (nn ((A0 (y2).toNat)).fOp),.int .u8 (nn ((A0 (y2).toNat)).fDst),.int .u8 (nn ((A0 (y2).toNat)).fSrc),.int .i16 (ii ((A0 (y2).toNat)).fOff),.int .i32 (ii ((A0 (y2).toNat)).fImm)],.bool true,.slice a0 n0 (n0 + k0),.int .i64 (y2),.pointer (some ⟨(lget ls 0).n,4,none⟩),.int .i32 (ii ((A0 (y2).toNat)).fImm),.int .i64 ((ii ((A0 (y2).toNat)).fImm)),.int .i64 (r2)] (jks (lget ls 2).u 96 8)))
theorem zij (a0 : Option Addr) (n0 k0 : Nat) (c0_0 : Bool) (h : zd6 n1 A1 r2 = some c0_0) : SpcG Try.prog M B0 S (spcJ zjG (zrc A0 a1 p1 q1 n1 k1 A1 y2 r2 a0 n0 k0) (zqH A0 a1 p1 q1 n1 k1 A1 y2 r2) 3 0 .normal (zjB A0 a1 p1 q1 n1 k1 A1 y2 r2 (.e0 c0_0)) (zjK A0 a1 p1 q1 n1 k1 A1 y2 r2 (.e0 c0_0))) :=
 zei hU (zq6 hU A0 a1 p1 q1 n1 k1 A1 hR1 y2 r2 c0_0 h) (fun _ => rfl) (fun ls h => by match ls,h with | [l0,l1,l2],_ => exact ⟨by kernel_rfl,by kernel_rfl⟩) (fun ls h => by match ls,h with | [l0,l1,l2],_ => rfl) (fun ls => rfl)
noncomputable def zfx (n0 : Nat) (A0 : Nat → Insn) (n1 : Nat) (A1 : Nat → Bool) (y2 : Int) : Option (Int) :=
 bif inR y2 n0 then
 (bif zdT ((A0 (y2).toNat)) then
 (zv (zeb A0 y2) fun r0 =>
 bif r0 then
 (some 12)
 else (bif zK ((A0 (y2).toNat)) then
 (bif (IntKind.i64.wrap (y2 + 1)) == (n0 : Int) then
 (some 13)
 else (bif inR (IntKind.i64.wrap (y2 + 1)) n0 then
 (zv (zcU A0 y2) fun r1 =>
 bif r1 then
 (some 13)
 else (zv (zed A0 y2) fun r2 =>
 bif r2 then
 (some 14)
 else (bif zca ((A0 (y2).toNat)) then
 (zv (zbm n0 A0 y2 (ii ((A0 (y2).toNat)).fImm)) fun r3 =>
 (zdk n1 A1 r3).bind fun r4 =>
 bif r4 then
 (some 14)
 else (some 0))
 else (some 0))))
 else (none)))
 else (zv (zee A0 y2) fun r1 =>
 bif r1 then
 (some 14)
 else (bif zca ((A0 (y2).toNat)) then
 (zv (zbm n0 A0 y2 (ii ((A0 (y2).toNat)).fImm)) fun r2 =>
 (zd6 n1 A1 r2).bind fun r3 =>
 bif r3 then
 (some 14)
 else (some 0))
 else (some 0)))))
 else (some 11))
 else (none)
end
section
variable {M : Nat → Prop} {B0 : Nat} {S : World → Prop} (hU : Up M B0 S)
include hU
theorem zt7 (a0 : Option Addr) (p0 q0 n0 k0 : Nat) (A0 : Nat → Insn) (hR0 : Ro S zd9 5 a0 p0 q0 n0 A0) (a1 : Option Addr) (p1 q1 n1 k1 : Nat) (A1 : Nat → Bool) (hR1 : Ro S cB 1 a1 p1 q1 n1 A1) (y2 : Int) (r : Int) (e : zfx n0 A0 n1 A1 y2 = some r) : ConG Try.prog S 62 #[.slice a0 n0 (n0 + k0),.slice a1 n1 (n1 + k1),.int .i64 (y2)] (.int .i64 (r)) := by
 unfold zfx at e
 replace e := za e
 let P1 : List (PG Try.prog M B0 S) := [.o,.o,.o]
 rcases e with ⟨hq0,e⟩ | ⟨hq0,e⟩
 ·replace e := za e
  let P2 : List (PG Try.prog M B0 S) := P1 ++ [.q (zA (kd := .i64) (T := 22) (x := y2) (sz := 5) rfl (fun w => by kernel_rfl) hR0 hq0),.l (zcm hR0 zj (ze hq0) 0 [.int .u8 (nn ((A0 (y2).toNat)).fOp),.int .u8 (nn ((A0 (y2).toNat)).fDst),.int .u8 (nn ((A0 (y2).toNat)).fSrc),.int .i16 (ii ((A0 (y2).toNat)).fOff),.int .i32 (ii ((A0 (y2).toNat)).fImm)] rfl),.o,.a 0,.a 0]
  rcases e with ⟨hq1,e⟩ | ⟨hq1,e⟩
  ·replace e := zg e
   obtain ⟨r0,e_r0,e⟩ := e
   try dsimp only at e
   replace e := za e
   let P3 : List (PG Try.prog M B0 S) := P2 ++ [.cg (zfu hU ((A0 (y2).toNat)) true hq1),.o,.o,.cp]
   rcases e with ⟨hq2,e⟩ | ⟨hq2,e⟩
   ·subst hq2
    injection e with e; subst e; exact zc hU (P := Try.prog) Try.func62 (fun xs w => by kernel_rfl) _ _ (P3 ++ [.cx (zh8 hU a0 p0 q0 n0 k0 A0 hR0 a1 p1 q1 n1 k1 A1 hR1 y2 true e_r0) [0],.o]) [] (fun b => by kernel_rfl)
   ·subst hq2
    replace e := za e
    let P4 : List (PG Try.prog M B0 S) := P3 ++ [.cx (zh8 hU a0 p0 q0 n0 k0 A0 hR0 a1 p1 q1 n1 k1 A1 hR1 y2 false e_r0) [0],.a 0]
    rcases e with ⟨hq3,e⟩ | ⟨hq3,e⟩
    ·replace e := za e
     let P5 : List (PG Try.prog M B0 S) := P4 ++ [.cg (zU hU ((A0 (y2).toNat)) true hq3),.o,.o,.o,.o]
     rcases e with ⟨hq4,e⟩ | ⟨hq4,e⟩
     ·injection e with e; subst e; exact zc hU (P := Try.prog) Try.func62 (fun xs w => by kernel_rfl) _ _ (P5 ++ [.b (zO hq4),.o]) [] (fun b => by kernel_rfl)
     ·replace e := za e
      let P6 : List (PG Try.prog M B0 S) := P5 ++ [.b (zF hq4),.o,.o,.o]
      rcases e with ⟨hq5,e⟩ | ⟨hq5,e⟩
      ·replace e := zg e
       obtain ⟨r1,e_r1,e⟩ := e
       try dsimp only at e
       replace e := za e
       let P7 : List (PG Try.prog M B0 S) := P6 ++ [.q (zA (kd := .i64) (T := 22) (x := (IntKind.i64.wrap (y2 + 1))) (sz := 5) rfl (fun w => by kernel_rfl) hR0 hq5),.l (zcm hR0 zj (ze hq5) 0 [.int .u8 (nn ((A0 ((IntKind.i64.wrap (y2 + 1))).toNat)).fOp),.int .u8 (nn ((A0 ((IntKind.i64.wrap (y2 + 1))).toNat)).fDst),.int .u8 (nn ((A0 ((IntKind.i64.wrap (y2 + 1))).toNat)).fSrc),.int .i16 (ii ((A0 ((IntKind.i64.wrap (y2 + 1))).toNat)).fOff),.int .i32 (ii ((A0 ((IntKind.i64.wrap (y2 + 1))).toNat)).fImm)] rfl),.o,.a 2]
       rcases e with ⟨hq6,e⟩ | ⟨hq6,e⟩
       ·subst hq6
        injection e with e; subst e; exact zc hU (P := Try.prog) Try.func62 (fun xs w => by kernel_rfl) _ _ (P7 ++ [.cx (zie hU a0 p0 q0 n0 k0 A0 hR0 a1 p1 q1 n1 k1 A1 hR1 y2 true e_r1) [0,1,2],.o]) [] (fun b => by kernel_rfl)
       ·subst hq6
        replace e := zg e
        obtain ⟨r2,e_r2,e⟩ := e
        try dsimp only at e
        replace e := za e
        let P8 : List (PG Try.prog M B0 S) := P7 ++ [.cx (zie hU a0 p0 q0 n0 k0 A0 hR0 a1 p1 q1 n1 k1 A1 hR1 y2 false e_r1) [0,1,2],.cp]
        rcases e with ⟨hq7,e⟩ | ⟨hq7,e⟩
        ·subst hq7
         injection e with e; subst e; exact zc hU (P := Try.prog) Try.func62 (fun xs w => by kernel_rfl) _ _ (P8 ++ [.cx (zih hU a0 p0 q0 n0 k0 A0 hR0 a1 p1 q1 n1 k1 A1 hR1 y2 true e_r2) [0,1,2,3],.o]) [] (fun b => by kernel_rfl)
        ·subst hq7
         replace e := za e
         let P9 : List (PG Try.prog M B0 S) := P8 ++ [.cx (zih hU a0 p0 q0 n0 k0 A0 hR0 a1 p1 q1 n1 k1 A1 hR1 y2 false e_r2) [0,1,2,3],.a 0]
         rcases e with ⟨hq8,e⟩ | ⟨hq8,e⟩
         ·replace e := zg e
          obtain ⟨r3,e_r3,e⟩ := e
          try dsimp only at e
          replace e := zf e
          obtain ⟨r4,e_r4,e⟩ := e
          try dsimp only at e
          replace e := za e
          let P10 : List (PG Try.prog M B0 S) := P9 ++ [.cg (zbF hU ((A0 (y2).toNat)) true hq8),.o,.o,.o,.a 0,.v .i64 (zdW (by decide) ((A0 (y2).toNat)).fImm),.cg (zdI hU a0 p0 q0 n0 k0 A0 hR0 y2 (ii ((A0 (y2).toNat)).fImm) r3 e_r3),.o]
          rcases e with ⟨hq9,e⟩ | ⟨hq9,e⟩
          ·subst hq9
           injection e with e; subst e; exact zc hU (P := Try.prog) Try.func62 (fun xs w => by kernel_rfl) _ _ (P10 ++ [.cx (zh7 hU A0 a1 p1 q1 n1 k1 A1 hR1 y2 r3 a0 n0 k0 true e_r4) [0,1,2,3,4],.o]) [] (fun b => by kernel_rfl)
          ·subst hq9
           injection e with e; subst e; exact zc hU (P := Try.prog) Try.func62 (fun xs w => by kernel_rfl) _ _ (P10 ++ [.cx (zh7 hU A0 a1 p1 q1 n1 k1 A1 hR1 y2 r3 a0 n0 k0 false e_r4) [0,1,2,3,4],.o]) [] (fun b => by kernel_rfl)
         ·injection e with e; subst e; exact zc hU (P := Try.prog) Try.func62 (fun xs w => by kernel_rfl) _ _ (P9 ++ [.cg (zbF hU ((A0 (y2).toNat)) false hq8),.o]) [] (fun b => by kernel_rfl)
      ·exact zd e
    ·replace e := zg e
     obtain ⟨r1,e_r1,e⟩ := e
     try dsimp only at e
     replace e := za e
     let P11 : List (PG Try.prog M B0 S) := P4 ++ [.cg (zU hU ((A0 (y2).toNat)) false hq3),.cp]
     rcases e with ⟨hq4,e⟩ | ⟨hq4,e⟩
     ·subst hq4
      injection e with e; subst e; exact zc hU (P := Try.prog) Try.func62 (fun xs w => by kernel_rfl) _ _ (P11 ++ [.cx (zii hU a0 p0 q0 n0 k0 A0 hR0 a1 p1 q1 n1 k1 A1 hR1 y2 true e_r1) [0,1],.o]) [] (fun b => by kernel_rfl)
     ·subst hq4
      replace e := za e
      let P12 : List (PG Try.prog M B0 S) := P11 ++ [.cx (zii hU a0 p0 q0 n0 k0 A0 hR0 a1 p1 q1 n1 k1 A1 hR1 y2 false e_r1) [0,1],.a 0]
      rcases e with ⟨hq5,e⟩ | ⟨hq5,e⟩
      ·replace e := zg e
       obtain ⟨r2,e_r2,e⟩ := e
       try dsimp only at e
       replace e := zf e
       obtain ⟨r3,e_r3,e⟩ := e
       try dsimp only at e
       replace e := za e
       let P13 : List (PG Try.prog M B0 S) := P12 ++ [.cg (zbF hU ((A0 (y2).toNat)) true hq5),.o,.o,.o,.a 0,.v .i64 (zdW (by decide) ((A0 (y2).toNat)).fImm),.cg (zdI hU a0 p0 q0 n0 k0 A0 hR0 y2 (ii ((A0 (y2).toNat)).fImm) r2 e_r2),.o]
       rcases e with ⟨hq6,e⟩ | ⟨hq6,e⟩
       ·subst hq6
        injection e with e; subst e; exact zc hU (P := Try.prog) Try.func62 (fun xs w => by kernel_rfl) _ _ (P13 ++ [.cx (zij hU A0 a1 p1 q1 n1 k1 A1 hR1 y2 r2 a0 n0 k0 true e_r3) [0,1,2],.o]) [] (fun b => by kernel_rfl)
       ·subst hq6
        injection e with e; subst e; exact zc hU (P := Try.prog) Try.func62 (fun xs w => by kernel_rfl) _ _ (P13 ++ [.cx (zij hU A0 a1 p1 q1 n1 k1 A1 hR1 y2 r2 a0 n0 k0 false e_r3) [0,1,2],.o]) [] (fun b => by kernel_rfl)
      ·injection e with e; subst e; exact zc hU (P := Try.prog) Try.func62 (fun xs w => by kernel_rfl) _ _ (P12 ++ [.cg (zbF hU ((A0 (y2).toNat)) false hq5),.o]) [] (fun b => by kernel_rfl)
  ·injection e with e; subst e; exact zc hU (P := Try.prog) Try.func62 (fun xs w => by kernel_rfl) _ _ (P2 ++ [.cg (zfu hU ((A0 (y2).toNat)) false hq1),.o,.o,.o]) [] (fun b => by kernel_rfl)
 ·exact zd e
end

end Go.Proofs.Ytliijnpblddjfaa


