/-
  Instructions: the reference.
-/
import Derived.Test.YtliijnpblddjfaaS1B
import Derived.Test.YtliijnpblddjfaaRxJ
namespace Go.Proofs.Ytliijnpblddjfaa
open Go.RowKit
set_option linter.unusedVariables false
set_option linter.unusedSimpArgs false
set_option linter.unusedSectionVars false
set_option maxRecDepth 100000
set_option maxHeartbeats 4000000
noncomputable def zY (y0 : Insn) : Int :=
 (nn (y0.fOp / 16#8))
section
variable {M : Nat → Prop} {B0 : Nat} {S : World → Prop} (hU : Up M B0 S) (y0 : Insn) (r : Int)
include hU y0 r
theorem zfL (e : zY y0 = r) : ConG Try.prog S 19 #[(zeP y0)] (.int .i64 (r)) := by
 unfold zY at e
 subst e; exact zc hU (P := Try.prog) Try.func19 (fun xs w => by kernel_rfl) _ _ [.o,.o,.o,.a 0,.ov (zCg Try.prog 5 (.tmp 4) (.const (.int .u8 (16))) y0.fOp (16#8) (by decide)),.v .i64 (zAL (by decide) (y0.fOp / 16#8)),.o] [] (fun b => by kernel_rfl)
noncomputable def zk (y0 : Insn) : Int :=
 (nn (y0.fOp % 8#8))
theorem zB (e : zk y0 = r) : ConG Try.prog S 21 #[(zeP y0)] (.int .i64 (r)) := by
 unfold zk at e
 subst e; exact zc hU (P := Try.prog) Try.func21 (fun xs w => by kernel_rfl) _ _ [.o,.o,.o,.a 0,.ov (zCh Try.prog 5 (.tmp 4) (.const (.int .u8 (8))) y0.fOp (8#8) (by decide)),.v .i64 (zAL (by decide) (y0.fOp % 8#8)),.o] [] (fun b => by kernel_rfl)
noncomputable def zK (y0 : Insn) : Bool :=
 (y0.fOp == 24#8)
end
section
variable {M : Nat → Prop} {B0 : Nat} {S : World → Prop} (hU : Up M B0 S) (y0 : Insn)
include hU y0
theorem zU (r : Bool) (e : zK y0 = r) : ConG Try.prog S 39 #[(zeP y0)] (.bool (r)) := by
 unfold zK at e
 subst e; exact zc hU (P := Try.prog) Try.func39 (fun xs w => by kernel_rfl) _ _ [.o,.o,.o,.a 0,.t (u_eq y0.fOp (24#8)) rfl,.o] [] (fun b => by kernel_rfl)
noncomputable def zeh (y0 : Insn) : Int :=
 zv (zk y0) fun r0 =>
 bif decide (r0 < 1) then
 (0)
 else (bif decide (3 < r0) then
 (0)
 else (bif (y0.fOp - (BitVec.ofInt 8 r0)) == 96#8 then
 (4)
 else (bif (y0.fOp - (BitVec.ofInt 8 r0)) == 104#8 then
 (2)
 else (bif (y0.fOp - (BitVec.ofInt 8 r0)) == 112#8 then
 (1)
 else (bif (y0.fOp - (BitVec.ofInt 8 r0)) == 120#8 then
 (8)
 else (0))))))
theorem zdS (r : Int) (e : zeh y0 = r) : ConG Try.prog S 40 #[(zeP y0)] (.int .i64 (r)) := by
 unfold zeh at e
 replace e := zg e
 obtain ⟨r0,e_r0,e⟩ := e
 try dsimp only at e
 replace e := za e
 let P1 : List (PG Try.prog M B0 S) := [.o,.o,.a 0,.cg (zB hU y0 r0 e_r0),.o,.o]
 rcases e with ⟨hq0,e⟩ | ⟨hq0,e⟩
 ·subst e; exact zc hU (P := Try.prog) Try.func40 (fun xs w => by kernel_rfl) _ _ (P1 ++ [.b (zcR hq0),.o,.o,.o]) [] (fun b => by kernel_rfl)
 ·replace e := za e
  let P2 : List (PG Try.prog M B0 S) := P1 ++ [.b (zb7 hq0),.o,.o]
  rcases e with ⟨hq1,e⟩ | ⟨hq1,e⟩
  ·subst e; exact zc hU (P := Try.prog) Try.func40 (fun xs w => by kernel_rfl) _ _ (P2 ++ [.b (zid hq1),.o,.o]) [] (fun b => by kernel_rfl)
  ·replace e := za e
   let P3 : List (PG Try.prog M B0 S) := P2 ++ [.b (zgR hq1),.o,.o,.a 0,.o,.v .u8 (zCN r0),.v .u8 (zDp y0.fOp (BitVec.ofInt 8 r0))]
   rcases e with ⟨hq2,e⟩ | ⟨hq2,e⟩
   ·subst e; exact zc hU (P := Try.prog) Try.func40 (fun xs w => by kernel_rfl) _ _ (P3 ++ [.t (u_eq (y0.fOp - (BitVec.ofInt 8 r0)) (96#8)) hq2,.o,.o]) [] (fun b => by kernel_rfl)
   ·replace e := za e
    let P4 : List (PG Try.prog M B0 S) := P3 ++ [.t (u_eq (y0.fOp - (BitVec.ofInt 8 r0)) (96#8)) hq2,.o]
    rcases e with ⟨hq3,e⟩ | ⟨hq3,e⟩
    ·subst e; exact zc hU (P := Try.prog) Try.func40 (fun xs w => by kernel_rfl) _ _ (P4 ++ [.t (u_eq (y0.fOp - (BitVec.ofInt 8 r0)) (104#8)) hq3,.o,.o]) [] (fun b => by kernel_rfl)
    ·replace e := za e
     let P5 : List (PG Try.prog M B0 S) := P4 ++ [.t (u_eq (y0.fOp - (BitVec.ofInt 8 r0)) (104#8)) hq3,.o]
     rcases e with ⟨hq4,e⟩ | ⟨hq4,e⟩
     ·subst e; exact zc hU (P := Try.prog) Try.func40 (fun xs w => by kernel_rfl) _ _ (P5 ++ [.t (u_eq (y0.fOp - (BitVec.ofInt 8 r0)) (112#8)) hq4,.o,.o]) [] (fun b => by kernel_rfl)
     ·replace e := za e
      rcases e with ⟨hq5,e⟩ | ⟨hq5,e⟩
      ·subst e; exact zc hU (P := Try.prog) Try.func40 (fun xs w => by kernel_rfl) _ _ (P5 ++ [.t (u_eq (y0.fOp - (BitVec.ofInt 8 r0)) (112#8)) hq4,.o,.t (u_eq (y0.fOp - (BitVec.ofInt 8 r0)) (120#8)) hq5,.o,.o]) [] (fun b => by kernel_rfl)
      ·subst e; exact zc hU (P := Try.prog) Try.func40 (fun xs w => by kernel_rfl) _ _ (P5 ++ [.t (u_eq (y0.fOp - (BitVec.ofInt 8 r0)) (112#8)) hq4,.o,.t (u_eq (y0.fOp - (BitVec.ofInt 8 r0)) (120#8)) hq5,.o,.o]) [] (fun b => by kernel_rfl)
noncomputable def zT (y0 : Insn) : Bool :=
 (((y0.fOp / 8#8) % 2#8) == 1#8)
theorem zm (r : Bool) (e : zT y0 = r) : ConG Try.prog S 20 #[(zeP y0)] (.bool (r)) := by
 unfold zT at e
 subst e; exact zc hU (P := Try.prog) Try.func20 (fun xs w => by kernel_rfl) _ _ [.o,.o,.o,.a 0,.ov (zCg Try.prog 5 (.tmp 4) (.const (.int .u8 (8))) y0.fOp (8#8) (by decide)),.ov (zCh Try.prog 5 (.tmp 5) (.const (.int .u8 (2))) (y0.fOp / 8#8) (2#8) (by decide)),.t (u_eq ((y0.fOp / 8#8) % 2#8) (1#8)) rfl,.o] [] (fun b => by kernel_rfl)
inductive zdv where
 | e0 (c0_0 : Bool)
noncomputable def zdu (y0 : Insn) : Bool :=
 bif y0.fOff == 0#16 then
 (bif y0.fSrc == 0#8 then
 (true)
 else (false))
 else (false)
noncomputable def ziL : Code := zb6 Try.f18 [1,1,0]
def zpS (y0 : Insn) (r0 : Int) (ls : List L1) : List Value := [.pointer (some ⟨(lget ls 0).n,0,none⟩),.bool false,.int .i64 (r0)]
noncomputable def zph (y0 : Insn) (r0 : Int) : List L1 → List Value := mrgF [(0,1),(3,235)] (zpS y0 r0) 1
def zpq (y0 : Insn) (r0 : Int) (ls : List L1) : List Obj := [.cells #[.int .u8 (nn y0.fOp),.int .u8 (nn y0.fDst),.int .u8 (nn y0.fSrc),.int .i16 (ii y0.fOff),.int .i32 (ii y0.fImm)] 25,unb]
def zpi (y0 : Insn) (r0 : Int) : zdv → List L1 → List Value
 | .e0 c0_0,ls => [.pointer (some ⟨(lget ls 0).n,0,none⟩),.bool false,.int .i64 (r0),.bool (c0_0)]
def zpa : zdv → List (Nat × Nat)
 | .e0 _ => [(0,1),(4,234)]
noncomputable def ziW (y0 : Insn) (r0 : Int) (r : zdv) : List L1 → List Value := mrgF (zpa r) (zpi y0 r0 r) 1
def ziM (y0 : Insn) (r0 : Int) : zdv → List L1 → List Obj
 | .e0 c0_0,ls => [.cells #[.int .u8 (nn y0.fOp),.int .u8 (nn y0.fDst),.int .u8 (nn y0.fSrc),.int .i16 (ii y0.fOff),.int .i32 (ii y0.fImm)] 25,unb]
def zpA : zdv → Ex
 | .e0 _ => .normal
end
section
variable {M : Nat → Prop} {B0 : Nat} {S : World → Prop} (hU : Up M B0 S) (y0 : Insn) (r0 : Int) (c0_0 : Bool)
include hU y0 r0 c0_0
theorem zpC (e : zdu y0 = c0_0) : zdm Try.prog M B0 S ziL 2 (zph y0 r0) (zpq y0 r0) (zpA (.e0 c0_0)) 1 (ziW y0 r0 (.e0 c0_0)) (ziM y0 r0 (.e0 c0_0)) 2 := by
 unfold zdu at e
 replace e := za e
 rcases e with ⟨hq0,e⟩ | ⟨hq0,e⟩
 ·replace e := za e
  rcases e with ⟨hq1,e⟩ | ⟨hq1,e⟩
  ·subst e; exact zb hU [.o,.a 0,.t (i_eq y0.fOff (0#16)) hq0,.o,.o,.a 0,.t (u_eq y0.fSrc (0#8)) hq1,.o,.o] [0] (fun b => rfl) (by decide) rfl rfl (fun b => by kernel_rfl)
  ·subst e; exact zb hU [.o,.a 0,.t (i_eq y0.fOff (0#16)) hq0,.o,.o,.a 0,.t (u_eq y0.fSrc (0#8)) hq1,.o,.o] [0] (fun b => rfl) (by decide) rfl rfl (fun b => by kernel_rfl)
 ·subst e; exact zb hU [.o,.a 0,.t (i_eq y0.fOff (0#16)) hq0,.o,.o,.o] [0] (fun b => rfl) (by decide) rfl rfl (fun b => by kernel_rfl)
def zo1 (y0 : Insn) (r0 : Int) (ls : List L1) : List Obj := [.cells #[.int .u8 (nn y0.fOp),.int .u8 (nn y0.fDst),.int .u8 (nn y0.fSrc),.int .i16 (ii y0.fOff),.int .i32 (ii y0.fImm)] 25]
noncomputable def zpQ (y0 : Insn) (r0 : Int) (ls : List L1) : List Value := List.append [(zeP y0),.pointer (some ⟨(lget ls 0).n,0,none⟩),.bool false,.int .i64 (r0),undef,.agg #[.int .u8 (nn y0.fOp),.int .u8 (nn y0.fDst),.int .u8 (nn y0.fSrc),.int .i16 (ii y0.fOff),.int .i32 (ii y0.fImm)],.int .i64 (r0)] (und 232)
theorem zmL (h : zdu y0 = c0_0) : SpcG Try.prog M B0 S (spcJ ziL (zpQ y0 r0) (zo1 y0 r0) 1 0 .normal (ziW y0 r0 (.e0 c0_0)) (ziM y0 r0 (.e0 c0_0))) :=
 zei hU (zpC hU y0 r0 c0_0 h) (fun _ => rfl) (fun ls h => by match ls,h with | [l0],_ => exact ⟨by kernel_rfl,by kernel_rfl⟩) (fun ls h => by match ls,h with | [l0],_ => rfl) (fun ls => rfl)
inductive zc4 where
 | e0 (c0_0 : Bool)
noncomputable def zc5 (y0 : Insn) : Bool :=
 bif zK y0 then
 (bif y0.fOff == 0#16 then
 (bif y0.fSrc == 0#8 then
 (true)
 else (bif y0.fSrc == 1#8 then
 (true)
 else ((y0.fSrc == 4#8))))
 else (false))
 else (false)
noncomputable def zhR : Code := zb6 Try.f18 [1,1,1,0,1,0,1,0,0]
def zne (y0 : Insn) (r0 : Int) (ls : List L1) : List Value := [.pointer (some ⟨(lget ls 0).n,0,none⟩),.bool false,.int .i64 (r0)]
noncomputable def znC (y0 : Insn) (r0 : Int) : List L1 → List Value := mrgF [(0,1),(3,235)] (zne y0 r0) 3
def zmV (y0 : Insn) (r0 : Int) (ls : List L1) : List Obj := [.cells #[.int .u8 (nn y0.fOp),.int .u8 (nn y0.fDst),.int .u8 (nn y0.fSrc),.int .i16 (ii y0.fOff),.int .i32 (ii y0.fImm)] 25,unb,unb,unb]
def zng (y0 : Insn) (r0 : Int) : zc4 → List L1 → List Value
 | .e0 c0_0,ls => [.pointer (some ⟨(lget ls 0).n,0,none⟩),.bool (c0_0),.int .i64 (r0)]
def znu : zc4 → List (Nat × Nat)
 | .e0 _ => [(0,1),(3,235)]
noncomputable def zhL (y0 : Insn) (r0 : Int) (r : zc4) : List L1 → List Value := mrgF (znu r) (zng y0 r0 r) 3
def zhW (y0 : Insn) (r0 : Int) : zc4 → List L1 → List Obj
 | .e0 c0_0,ls => [.cells #[.int .u8 (nn y0.fOp),.int .u8 (nn y0.fDst),.int .u8 (nn y0.fSrc),.int .i16 (ii y0.fOff),.int .i32 (ii y0.fImm)] 25,unb,unb,unb]
def zm6 : zc4 → Ex
 | .e0 _ => .normal
theorem znY (e : zc5 y0 = c0_0) : zdm Try.prog M B0 S zhR 4 (znC y0 r0) (zmV y0 r0) (zm6 (.e0 c0_0)) 3 (zhL y0 r0 (.e0 c0_0)) (zhW y0 r0 (.e0 c0_0)) 4 := by
 unfold zc5 at e
 replace e := za e
 rcases e with ⟨hq0,e⟩ | ⟨hq0,e⟩
 ·replace e := za e
  let P1 : List (PG Try.prog M B0 S) := [.a 0,.cg (zU hU y0 true hq0),.o,.o,.a 0]
  rcases e with ⟨hq1,e⟩ | ⟨hq1,e⟩
  ·replace e := za e
   let P2 : List (PG Try.prog M B0 S) := P1 ++ [.t (i_eq y0.fOff (0#16)) hq1,.o,.o,.o,.a 0]
   rcases e with ⟨hq2,e⟩ | ⟨hq2,e⟩
   ·subst e; exact zb hU (P2 ++ [.t (u_eq y0.fSrc (0#8)) hq2,.o,.o,.o,.o,.o,.o]) [0,1,2] (fun b => rfl) (by decide) rfl rfl (fun b => by kernel_rfl)
   ·replace e := za e
    rcases e with ⟨hq3,e⟩ | ⟨hq3,e⟩
    ·subst e; exact zb hU (P2 ++ [.t (u_eq y0.fSrc (0#8)) hq2,.o,.o,.a 0,.t (u_eq y0.fSrc (1#8)) hq3,.o,.o,.o,.o,.o]) [0,1,2] (fun b => rfl) (by decide) rfl rfl (fun b => by kernel_rfl)
    ·subst e; exact zb hU (P2 ++ [.t (u_eq y0.fSrc (0#8)) hq2,.o,.o,.a 0,.t (u_eq y0.fSrc (1#8)) hq3,.o,.o,.o,.a 0,.t (u_eq y0.fSrc (4#8)) rfl,.o,.o,.o]) [0,1,2] (fun b => rfl) (by decide) rfl rfl (fun b => by kernel_rfl)
  ·subst e; exact zb hU (P1 ++ [.t (i_eq y0.fOff (0#16)) hq1,.o,.o,.o,.o]) [0,1,2] (fun b => rfl) (by decide) rfl rfl (fun b => by kernel_rfl)
 ·subst e; exact zb hU [.a 0,.cg (zU hU y0 false hq0),.o,.o,.o,.o,.o] [0,1,2] (fun b => rfl) (by decide) rfl rfl (fun b => by kernel_rfl)
def zmA (y0 : Insn) (r0 : Int) (ls : List L1) : List Obj := [.cells #[.int .u8 (nn y0.fOp),.int .u8 (nn y0.fDst),.int .u8 (nn y0.fSrc),.int .i16 (ii y0.fOff),.int .i32 (ii y0.fImm)] 25,unb,unb]
noncomputable def zn6 (y0 : Insn) (r0 : Int) (r1 : Bool) (r2 : Int) (ls : List L1) : List Value := List.append [((lget ls 2).u 0),.pointer (some ⟨(lget ls 0).n,0,none⟩),.bool false,.int .i64 (r0),.bool (r1)] (List.append (jks (lget ls 2).u 5 11) (List.append [.int .i64 (r2),.bool true,.bool true] (jks (lget ls 2).u 19 220)))
end
section
variable {M : Nat → Prop} {B0 : Nat} {S : World → Prop} (hU : Up M B0 S) (y0 : Insn) (r0 : Int) (r1 : Bool)
include hU y0 r0 r1
theorem zj7 (r2 : Int) (c0_0 : Bool) (h : zc5 y0 = c0_0) : SpcG Try.prog M B0 S (spcJ zhR (zn6 y0 r0 r1 r2) (zmA y0 r0) 3 0 .normal (zhL y0 r0 (.e0 c0_0)) (zhW y0 r0 (.e0 c0_0))) :=
 zei hU (znY hU y0 r0 c0_0 h) (fun _ => rfl) (fun ls h => by match ls,h with | [l0,l1,l2],_ => exact ⟨by kernel_rfl,by kernel_rfl⟩) (fun ls h => by match ls,h with | [l0,l1,l2],_ => rfl) (fun ls => rfl)
inductive zct where
 | e0 (c0_0 : Bool)
noncomputable def zcq (y0 : Insn) (r1 : Bool) : Bool :=
 bif zT y0 then
 (false)
 else (bif r1 then
 ((y0.fImm == 0#32))
 else (false))
noncomputable def zgg : Code := zb6 Try.f18 [1,1,1,0,1,0,1,1,1,1,1,1,1,1,1,0,0,0,1,0,0]
def zkX (y0 : Insn) (r0 : Int) (r1 : Bool) (ls : List L1) : List Value := [.pointer (some ⟨(lget ls 0).n,0,none⟩),.bool false,.int .i64 (r0),.bool (r1)]
noncomputable def zkO (y0 : Insn) (r0 : Int) (r1 : Bool) : List L1 → List Value := mrgF [(0,1),(4,234)] (zkX y0 r0 r1) 4
def zk5 (y0 : Insn) (r0 : Int) (r1 : Bool) (ls : List L1) : List Obj := [.cells #[.int .u8 (nn y0.fOp),.int .u8 (nn y0.fDst),.int .u8 (nn y0.fSrc),.int .i16 (ii y0.fOff),.int .i32 (ii y0.fImm)] 25,unb,unb,unb,unb]
def zk8 (y0 : Insn) (r0 : Int) (r1 : Bool) : zct → List L1 → List Value
 | .e0 c0_0,ls => [.pointer (some ⟨(lget ls 0).n,0,none⟩),.bool (c0_0),.int .i64 (r0)]
def zlq : zct → List (Nat × Nat)
 | .e0 _ => [(0,1),(3,235)]
noncomputable def zgc (y0 : Insn) (r0 : Int) (r1 : Bool) (r : zct) : List L1 → List Value := mrgF (zlq r) (zk8 y0 r0 r1 r) 4
def zga (y0 : Insn) (r0 : Int) (r1 : Bool) : zct → List L1 → List Obj
 | .e0 c0_0,ls => [.cells #[.int .u8 (nn y0.fOp),.int .u8 (nn y0.fDst),.int .u8 (nn y0.fSrc),.int .i16 (ii y0.fOff),.int .i32 (ii y0.fImm)] 25,unb,unb,unb,unb]
def zls : zct → Ex
 | .e0 _ => .normal
theorem zkB (c0_0 : Bool) (e : zcq y0 r1 = c0_0) : zdm Try.prog M B0 S zgg 5 (zkO y0 r0 r1) (zk5 y0 r0 r1) (zls (.e0 c0_0)) 4 (zgc y0 r0 r1 (.e0 c0_0)) (zga y0 r0 r1 (.e0 c0_0)) 5 := by
 unfold zcq at e
 replace e := za e
 rcases e with ⟨hq0,e⟩ | ⟨hq0,e⟩
 ·subst e; exact zb hU [.a 0,.cg (zm hU y0 true hq0),.o,.o,.o,.o,.o,.o] [0,1,2,3] (fun b => rfl) (by decide) rfl rfl (fun b => by kernel_rfl)
 ·replace e := za e
  rcases e with ⟨hq1,e⟩ | ⟨hq1,e⟩
  ·subst e; exact zb hU [.a 0,.cg (zm hU y0 false hq0),.o,.o,.b hq1,.o,.o,.o,.a 0,.t (i_eq y0.fImm (0#32)) rfl,.o,.o] [0,1,2,3] (fun b => rfl) (by decide) rfl rfl (fun b => by kernel_rfl)
  ·subst e; exact zb hU [.a 0,.cg (zm hU y0 false hq0),.o,.o,.b hq1,.o,.o,.o,.o] [0,1,2,3] (fun b => rfl) (by decide) rfl rfl (fun b => by kernel_rfl)
def zks (y0 : Insn) (r0 : Int) (r1 : Bool) (ls : List L1) : List Obj := [.cells #[.int .u8 (nn y0.fOp),.int .u8 (nn y0.fDst),.int .u8 (nn y0.fSrc),.int .i16 (ii y0.fOff),.int .i32 (ii y0.fImm)] 25,unb,unb,unb]
noncomputable def zll (y0 : Insn) (r0 : Int) (r1 : Bool) (ls : List L1) : List Value := List.append [((lget ls 3).u 0),.pointer (some ⟨(lget ls 0).n,0,none⟩),.bool false,.int .i64 (r0),.bool (r1)] (List.append (jks (lget ls 3).u 5 69) (List.append [.bool true,.int .i64 (r0),.bool true] (jks (lget ls 3).u 77 162)))
theorem ziX (c0_0 : Bool) (h : zcq y0 r1 = c0_0) : SpcG Try.prog M B0 S (spcJ zgg (zll y0 r0 r1) (zks y0 r0 r1) 4 0 .normal (zgc y0 r0 r1 (.e0 c0_0)) (zga y0 r0 r1 (.e0 c0_0))) :=
 zei hU (zkB hU y0 r0 r1 c0_0 h) (fun _ => rfl) (fun ls h => by match ls,h with | [l0,l1,l2,l3],_ => exact ⟨by kernel_rfl,by kernel_rfl⟩) (fun ls h => by match ls,h with | [l0,l1,l2,l3],_ => rfl) (fun ls => rfl)
inductive zcu where
 | e0 (c0_0 : Bool)
noncomputable def zcA (y0 : Insn) (r1 : Bool) : Bool :=
 bif r1 then
 (bif y0.fImm == 16#32 then
 (zv (zk y0) fun rd0 =>
 bif rd0 == 4 then
 (true)
 else (bif zT y0 then
 (false)
 else (true)))
 else (bif y0.fImm == 32#32 then
 (zv (zk y0) fun rd0 =>
 bif rd0 == 4 then
 (true)
 else (bif zT y0 then
 (false)
 else (true)))
 else (bif y0.fImm == 64#32 then
 (zv (zk y0) fun rd0 =>
 bif rd0 == 4 then
 (true)
 else (bif zT y0 then
 (false)
 else (true)))
 else (false))))
 else (false)
noncomputable def zgp : Code := zb6 Try.f18 [1,1,1,0,1,0,1,1,1,1,1,1,1,1,1,0,0,0,1,1,1,0,0]
def zlg (y0 : Insn) (r0 : Int) (r1 : Bool) (ls : List L1) : List Value := [.pointer (some ⟨(lget ls 0).n,0,none⟩),.bool false,.int .i64 (r0),.bool (r1)]
noncomputable def zlG (y0 : Insn) (r0 : Int) (r1 : Bool) : List L1 → List Value := mrgF [(0,1),(4,234)] (zlg y0 r0 r1) 4
def zk6 (y0 : Insn) (r0 : Int) (r1 : Bool) (ls : List L1) : List Obj := [.cells #[.int .u8 (nn y0.fOp),.int .u8 (nn y0.fDst),.int .u8 (nn y0.fSrc),.int .i16 (ii y0.fOff),.int .i32 (ii y0.fImm)] 25,unb,unb,unb,unb]
def zkI (y0 : Insn) (r0 : Int) (r1 : Bool) : zcu → List L1 → List Value
 | .e0 c0_0,ls => [.pointer (some ⟨(lget ls 0).n,0,none⟩),.bool (c0_0),.int .i64 (r0)]
def zlx : zcu → List (Nat × Nat)
 | .e0 _ => [(0,1),(3,235)]
noncomputable def zgf (y0 : Insn) (r0 : Int) (r1 : Bool) (r : zcu) : List L1 → List Value := mrgF (zlx r) (zkI y0 r0 r1 r) 4
def zgi (y0 : Insn) (r0 : Int) (r1 : Bool) : zcu → List L1 → List Obj
 | .e0 c0_0,ls => [.cells #[.int .u8 (nn y0.fOp),.int .u8 (nn y0.fDst),.int .u8 (nn y0.fSrc),.int .i16 (ii y0.fOff),.int .i32 (ii y0.fImm)] 25,unb,unb,unb,unb]
def zlJ : zcu → Ex
 | .e0 _ => .normal
theorem zkF (c0_0 : Bool) (e : zcA y0 r1 = c0_0) : zdm Try.prog M B0 S zgp 5 (zlG y0 r0 r1) (zk6 y0 r0 r1) (zlJ (.e0 c0_0)) 4 (zgf y0 r0 r1 (.e0 c0_0)) (zgi y0 r0 r1 (.e0 c0_0)) 5 := by
 unfold zcA at e
 replace e := za e
 rcases e with ⟨hq0,e⟩ | ⟨hq0,e⟩
 ·replace e := za e
  let P1 : List (PG Try.prog M B0 S) := [.b hq0,.o,.o,.a 0]
  rcases e with ⟨hq1,e⟩ | ⟨hq1,e⟩
  ·replace e := zg e
   obtain ⟨rd0,e_rd0,e⟩ := e
   try dsimp only at e
   replace e := za e
   let P2 : List (PG Try.prog M B0 S) := P1 ++ [.t (i_eq y0.fImm (16#32)) hq1,.o,.o,.o,.o,.o,.o,.a 0,.cg (zB hU y0 rd0 e_rd0)]
   rcases e with ⟨hq2,e⟩ | ⟨hq2,e⟩
   ·subst e; exact zb hU (P2 ++ [.b (zO hq2),.o,.o,.o,.o]) [0,1,2,3] (fun b => rfl) (by decide) rfl rfl (fun b => by kernel_rfl)
   ·replace e := za e
    rcases e with ⟨hq3,e⟩ | ⟨hq3,e⟩
    ·subst e; exact zb hU (P2 ++ [.b (zF hq2),.o,.a 0,.cg (zm hU y0 true hq3),.o,.o,.o,.o]) [0,1,2,3] (fun b => rfl) (by decide) rfl rfl (fun b => by kernel_rfl)
    ·subst e; exact zb hU (P2 ++ [.b (zF hq2),.o,.a 0,.cg (zm hU y0 false hq3),.o,.o,.o,.o]) [0,1,2,3] (fun b => rfl) (by decide) rfl rfl (fun b => by kernel_rfl)
  ·replace e := za e
   let P3 : List (PG Try.prog M B0 S) := P1 ++ [.t (i_eq y0.fImm (16#32)) hq1,.o,.o,.a 0]
   rcases e with ⟨hq2,e⟩ | ⟨hq2,e⟩
   ·replace e := zg e
    obtain ⟨rd0,e_rd0,e⟩ := e
    try dsimp only at e
    replace e := za e
    let P4 : List (PG Try.prog M B0 S) := P3 ++ [.t (i_eq y0.fImm (32#32)) hq2,.o,.o,.o,.o,.o,.a 0,.cg (zB hU y0 rd0 e_rd0)]
    rcases e with ⟨hq3,e⟩ | ⟨hq3,e⟩
    ·subst e; exact zb hU (P4 ++ [.b (zO hq3),.o,.o,.o,.o]) [0,1,2,3] (fun b => rfl) (by decide) rfl rfl (fun b => by kernel_rfl)
    ·replace e := za e
     rcases e with ⟨hq4,e⟩ | ⟨hq4,e⟩
     ·subst e; exact zb hU (P4 ++ [.b (zF hq3),.o,.a 0,.cg (zm hU y0 true hq4),.o,.o,.o,.o]) [0,1,2,3] (fun b => rfl) (by decide) rfl rfl (fun b => by kernel_rfl)
     ·subst e; exact zb hU (P4 ++ [.b (zF hq3),.o,.a 0,.cg (zm hU y0 false hq4),.o,.o,.o,.o]) [0,1,2,3] (fun b => rfl) (by decide) rfl rfl (fun b => by kernel_rfl)
   ·replace e := za e
    let P5 : List (PG Try.prog M B0 S) := P3 ++ [.t (i_eq y0.fImm (32#32)) hq2,.o,.o,.o,.a 0]
    rcases e with ⟨hq3,e⟩ | ⟨hq3,e⟩
    ·replace e := zg e
     obtain ⟨rd0,e_rd0,e⟩ := e
     try dsimp only at e
     replace e := za e
     let P6 : List (PG Try.prog M B0 S) := P5 ++ [.t (i_eq y0.fImm (64#32)) hq3,.o,.o,.o,.a 0,.cg (zB hU y0 rd0 e_rd0)]
     rcases e with ⟨hq4,e⟩ | ⟨hq4,e⟩
     ·subst e; exact zb hU (P6 ++ [.b (zO hq4),.o,.o,.o,.o]) [0,1,2,3] (fun b => rfl) (by decide) rfl rfl (fun b => by kernel_rfl)
     ·replace e := za e
      rcases e with ⟨hq5,e⟩ | ⟨hq5,e⟩
      ·subst e; exact zb hU (P6 ++ [.b (zF hq4),.o,.a 0,.cg (zm hU y0 true hq5),.o,.o,.o,.o]) [0,1,2,3] (fun b => rfl) (by decide) rfl rfl (fun b => by kernel_rfl)
      ·subst e; exact zb hU (P6 ++ [.b (zF hq4),.o,.a 0,.cg (zm hU y0 false hq5),.o,.o,.o,.o]) [0,1,2,3] (fun b => rfl) (by decide) rfl rfl (fun b => by kernel_rfl)
    ·subst e; exact zb hU (P5 ++ [.t (i_eq y0.fImm (64#32)) hq3,.o,.o,.o,.o,.o]) [0,1,2,3] (fun b => rfl) (by decide) rfl rfl (fun b => by kernel_rfl)
 ·subst e; exact zb hU [.b hq0,.o,.o,.o,.o,.o] [0,1,2,3] (fun b => rfl) (by decide) rfl rfl (fun b => by kernel_rfl)
def zkc (y0 : Insn) (r0 : Int) (r1 : Bool) (ls : List L1) : List Obj := [.cells #[.int .u8 (nn y0.fOp),.int .u8 (nn y0.fDst),.int .u8 (nn y0.fSrc),.int .i16 (ii y0.fOff),.int .i32 (ii y0.fImm)] 25,unb,unb,unb]
noncomputable def zlE (y0 : Insn) (r0 : Int) (r1 : Bool) (ls : List L1) : List Value := List.append [((lget ls 3).u 0),.pointer (some ⟨(lget ls 0).n,0,none⟩),.bool false,.int .i64 (r0),.bool (r1)] (List.append (jks (lget ls 3).u 5 69) (List.append [.bool false,.int .i64 (r0),.bool false] (List.append (jks (lget ls 3).u 77 11) (List.append [.bool true,.int .i64 (r0),.bool true] (jks (lget ls 3).u 91 148)))))
theorem ziZ (c0_0 : Bool) (h : zcA y0 r1 = c0_0) : SpcG Try.prog M B0 S (spcJ zgp (zlE y0 r0 r1) (zkc y0 r0 r1) 4 0 .normal (zgf y0 r0 r1 (.e0 c0_0)) (zgi y0 r0 r1 (.e0 c0_0))) :=
 zei hU (zkF hU y0 r0 r1 c0_0 h) (fun _ => rfl) (fun ls h => by match ls,h with | [l0,l1,l2,l3],_ => exact ⟨by kernel_rfl,by kernel_rfl⟩) (fun ls h => by match ls,h with | [l0,l1,l2,l3],_ => rfl) (fun ls => rfl)
inductive zbH where
 | e0 
 | e1 (c1_0 : Bool)
noncomputable def zck (y0 : Insn) (r0 : Int) (r1 : Bool) : zbH :=
 bif r0 == 8 then
 (zv (zcq y0 r1) fun rc0 =>
 (.e1 rc0))
 else (bif r0 == 13 then
 (zv (zcA y0 r1) fun rc0 =>
 (.e1 rc0))
 else (bif decide (13 < r0) then
 ((.e1 false))
 else ((.e0))))
noncomputable def ze5 : Code := zb6 Try.f18 [1,1,1,0,1,0,1,1,1,1,1,1,1,1,1,0,0]
def znF (y0 : Insn) (r0 : Int) (r1 : Bool) (ls : List L1) : List Value := [.pointer (some ⟨(lget ls 0).n,0,none⟩),.bool false,.int .i64 (r0),.bool (r1)]
noncomputable def znT (y0 : Insn) (r0 : Int) (r1 : Bool) : List L1 → List Value := mrgF [(0,1),(4,234)] (znF y0 r0 r1) 3
def znK (y0 : Insn) (r0 : Int) (r1 : Bool) (ls : List L1) : List Obj := [.cells #[.int .u8 (nn y0.fOp),.int .u8 (nn y0.fDst),.int .u8 (nn y0.fSrc),.int .i16 (ii y0.fOff),.int .i32 (ii y0.fImm)] 25,unb,unb,unb]
def znI (y0 : Insn) (r0 : Int) (r1 : Bool) : zbH → List L1 → List Value
 | .e0 ,ls => [.pointer (some ⟨(lget ls 0).n,0,none⟩),.bool false,.int .i64 (r0)]
 | .e1 c1_0,ls => [.pointer (some ⟨(lget ls 0).n,0,none⟩),.bool (c1_0),.int .i64 (r0)]
def znO : zbH → List (Nat × Nat)
 | .e0  => [(0,1),(3,235)]
 | .e1 _ => [(0,1),(3,235)]
noncomputable def ze7 (y0 : Insn) (r0 : Int) (r1 : Bool) (r : zbH) : List L1 → List Value := mrgF (znO r) (znI y0 r0 r1 r) 3
def ze6 (y0 : Insn) (r0 : Int) (r1 : Bool) : zbH → List L1 → List Obj
 | .e0 ,ls => [.cells #[.int .u8 (nn y0.fOp),.int .u8 (nn y0.fDst),.int .u8 (nn y0.fSrc),.int .i16 (ii y0.fOff),.int .i32 (ii y0.fImm)] 25,unb,unb,unb]
 | .e1 c1_0,ls => [.cells #[.int .u8 (nn y0.fOp),.int .u8 (nn y0.fDst),.int .u8 (nn y0.fSrc),.int .i16 (ii y0.fOff),.int .i32 (ii y0.fImm)] 25,unb,unb,unb]
def znJ : zbH → Ex
 | .e0  => .normal
 | .e1 _ => .ret
theorem zhw (r : zbH) (e : zck y0 r0 r1 = r) : zdm Try.prog M B0 S ze5 4 (znT y0 r0 r1) (znK y0 r0 r1) (znJ r) 3 (ze7 y0 r0 r1 r) (ze6 y0 r0 r1 r) 4 := by
 unfold zck at e
 replace e := za e
 rcases e with ⟨hq0,e⟩ | ⟨hq0,e⟩
 ·replace e := zg e
  obtain ⟨rc0,e_rc0,e⟩ := e
  try dsimp only at e
  subst e; exact zb hU [.o,.b (zO hq0),.o,.cp,.cx (ziX hU y0 r0 r1 rc0 e_rc0) [0,1,2,3]] [0,1,2] (fun b => rfl) (by decide) rfl rfl (fun b => by kernel_rfl)
 ·replace e := za e
  rcases e with ⟨hq1,e⟩ | ⟨hq1,e⟩
  ·replace e := zg e
   obtain ⟨rc0,e_rc0,e⟩ := e
   try dsimp only at e
   subst e; exact zb hU [.o,.b (zF hq0),.o,.o,.b (zO hq1),.o,.cp,.cx (ziZ hU y0 r0 r1 rc0 e_rc0) [0,1,2,3]] [0,1,2] (fun b => rfl) (by decide) rfl rfl (fun b => by kernel_rfl)
  ·replace e := za e
   rcases e with ⟨hq2,e⟩ | ⟨hq2,e⟩
   ·subst e; exact zb hU [.o,.b (zF hq0),.o,.o,.b (zF hq1),.o,.o,.b (zid hq2),.o,.o] [0,1,2] (fun b => rfl) (by decide) rfl rfl (fun b => by kernel_rfl)
   ·subst e; exact zb hU [.o,.b (zF hq0),.o,.o,.b (zF hq1),.o,.o,.b (zgR hq2),.o] [0,1,2] (fun b => rfl) (by decide) rfl rfl (fun b => by kernel_rfl)
def zhh (y0 : Insn) (r0 : Int) (r1 : Bool) (ls : List L1) : List Obj := [.cells #[.int .u8 (nn y0.fOp),.int .u8 (nn y0.fDst),.int .u8 (nn y0.fSrc),.int .i16 (ii y0.fOff),.int .i32 (ii y0.fImm)] 25,unb,unb]
noncomputable def zhN (y0 : Insn) (r0 : Int) (r1 : Bool) (r2 : Int) (ls : List L1) : List Value := List.append [((lget ls 2).u 0),.pointer (some ⟨(lget ls 0).n,0,none⟩),.bool false,.int .i64 (r0),.bool (r1)] (List.append (jks (lget ls 2).u 5 11) (List.append [.int .i64 (r2),.bool false,.bool false] (List.append (jks (lget ls 2).u 19 22) (List.append [.bool false,.bool false] (List.append (jks (lget ls 2).u 43 8) (List.append [.bool false,.bool false] (List.append (jks (lget ls 2).u 53 8) (List.append [.bool false,.bool false] (List.append (jks (lget ls 2).u 63 8) (List.append [.bool true,.bool true] (jks (lget ls 2).u 73 166)))))))))))
theorem zkb (r2 : Int) (h : zck y0 r0 r1 = .e0) : SpcG Try.prog M B0 S (spcJ ze5 (zhN y0 r0 r1 r2) (zhh y0 r0 r1) 3 0 .normal (ze7 y0 r0 r1 .e0) (ze6 y0 r0 r1 .e0)) :=
 zei hU (zhw hU y0 r0 r1 _ h) (fun _ => rfl) (fun ls h => by match ls,h with | [l0,l1,l2],_ => exact ⟨by kernel_rfl,by kernel_rfl⟩) (fun ls h => by match ls,h with | [l0,l1,l2],_ => rfl) (fun ls => rfl)
theorem zkr (r2 : Int) (c1_0 : Bool) (h : zck y0 r0 r1 = (.e1 c1_0)) : SpcG Try.prog M B0 S (spcJ ze5 (zhN y0 r0 r1 r2) (zhh y0 r0 r1) 3 0 .ret (ze7 y0 r0 r1 (.e1 c1_0)) (ze6 y0 r0 r1 (.e1 c1_0))) :=
 zei hU (zhw hU y0 r0 r1 _ h) (fun _ => rfl) (fun ls h => by match ls,h with | [l0,l1,l2],_ => exact ⟨by kernel_rfl,by kernel_rfl⟩) (fun ls h => by match ls,h with | [l0,l1,l2],_ => rfl) (fun ls => rfl)
inductive zc9 where
 | e0 (c0_0 : Bool)
noncomputable def zcd (y0 : Insn) : Bool :=
 bif y0.fOff == 0#16 then
 (bif zT y0 then
 (bif y0.fImm == 0#32 then
 (true)
 else (false))
 else ((y0.fSrc == 0#8)))
 else (false)
noncomputable def zhH : Code := zb6 Try.f18 [1,1,1,0,1,0,1,1,1,1,1,1,1,1,1,0,1,0]
def znw (y0 : Insn) (r0 : Int) (ls : List L1) : List Value := [.pointer (some ⟨(lget ls 0).n,0,none⟩),.bool false,.int .i64 (r0)]
noncomputable def zm1 (y0 : Insn) (r0 : Int) : List L1 → List Value := mrgF [(0,1),(3,235)] (znw y0 r0) 4
def zmS (y0 : Insn) (r0 : Int) (ls : List L1) : List Obj := [.cells #[.int .u8 (nn y0.fOp),.int .u8 (nn y0.fDst),.int .u8 (nn y0.fSrc),.int .i16 (ii y0.fOff),.int .i32 (ii y0.fImm)] 25,unb,unb,unb,unb]
def zn2 (y0 : Insn) (r0 : Int) : zc9 → List L1 → List Value
 | .e0 c0_0,ls => [.pointer (some ⟨(lget ls 0).n,0,none⟩),.bool (c0_0),.int .i64 (r0)]
def znN : zc9 → List (Nat × Nat)
 | .e0 _ => [(0,1),(3,235)]
noncomputable def zhO (y0 : Insn) (r0 : Int) (r : zc9) : List L1 → List Value := mrgF (znN r) (zn2 y0 r0 r) 4
def zhS (y0 : Insn) (r0 : Int) : zc9 → List L1 → List Obj
 | .e0 c0_0,ls => [.cells #[.int .u8 (nn y0.fOp),.int .u8 (nn y0.fDst),.int .u8 (nn y0.fSrc),.int .i16 (ii y0.fOff),.int .i32 (ii y0.fImm)] 25,unb,unb,unb,unb]
def znr : zc9 → Ex
 | .e0 _ => .normal
end
section
variable {M : Nat → Prop} {B0 : Nat} {S : World → Prop} (hU : Up M B0 S) (y0 : Insn) (r0 : Int) (c0_0 : Bool)
include hU y0 r0 c0_0
theorem znB (e : zcd y0 = c0_0) : zdm Try.prog M B0 S zhH 5 (zm1 y0 r0) (zmS y0 r0) (znr (.e0 c0_0)) 4 (zhO y0 r0 (.e0 c0_0)) (zhS y0 r0 (.e0 c0_0)) 5 := by
 unfold zcd at e
 replace e := za e
 rcases e with ⟨hq0,e⟩ | ⟨hq0,e⟩
 ·replace e := za e
  let P1 : List (PG Try.prog M B0 S) := [.o,.a 0,.t (i_eq y0.fOff (0#16)) hq0,.o,.a 0]
  rcases e with ⟨hq1,e⟩ | ⟨hq1,e⟩
  ·replace e := za e
   rcases e with ⟨hq2,e⟩ | ⟨hq2,e⟩
   ·subst e; exact zb hU (P1 ++ [.cg (zm hU y0 true hq1),.o,.o,.a 0,.t (i_eq y0.fImm (0#32)) hq2,.o,.o,.o,.o,.o]) [0,1,2,3] (fun b => rfl) (by decide) rfl rfl (fun b => by kernel_rfl)
   ·subst e; exact zb hU (P1 ++ [.cg (zm hU y0 true hq1),.o,.o,.a 0,.t (i_eq y0.fImm (0#32)) hq2,.o,.o,.a 0,.cg (zm hU y0 true hq1),.o,.o,.o,.o,.o,.o]) [0,1,2,3] (fun b => rfl) (by decide) rfl rfl (fun b => by kernel_rfl)
  ·subst e; exact zb hU (P1 ++ [.cg (zm hU y0 false hq1),.o,.o,.o,.a 0,.cg (zm hU y0 false hq1),.o,.o,.o,.a 0,.t (u_eq y0.fSrc (0#8)) rfl,.o,.o,.o,.o]) [0,1,2,3] (fun b => rfl) (by decide) rfl rfl (fun b => by kernel_rfl)
 ·subst e; exact zb hU [.o,.a 0,.t (i_eq y0.fOff (0#16)) hq0,.o,.o,.o] [0,1,2,3] (fun b => rfl) (by decide) rfl rfl (fun b => by kernel_rfl)
def zmp (y0 : Insn) (r0 : Int) (ls : List L1) : List Obj := [.cells #[.int .u8 (nn y0.fOp),.int .u8 (nn y0.fDst),.int .u8 (nn y0.fSrc),.int .i16 (ii y0.fOff),.int .i32 (ii y0.fImm)] 25,unb,unb,unb]
noncomputable def znW (y0 : Insn) (r0 : Int) (ls : List L1) : List Value := List.append [((lget ls 3).u 0),.pointer (some ⟨(lget ls 0).n,0,none⟩),.bool false,.int .i64 (r0)] (jks (lget ls 3).u 4 235)
theorem zfV (h : zcd y0 = c0_0) : SpcG Try.prog M B0 S (spcJ zhH (znW y0 r0) (zmp y0 r0) 4 0 .normal (zhO y0 r0 (.e0 c0_0)) (zhS y0 r0 (.e0 c0_0))) :=
 zei hU (znB hU y0 r0 c0_0 h) (fun _ => rfl) (fun ls h => by match ls,h with | [l0,l1,l2,l3],_ => exact ⟨by kernel_rfl,by kernel_rfl⟩) (fun ls h => by match ls,h with | [l0,l1,l2,l3],_ => rfl) (fun ls => rfl)
inductive zcs where
 | e0 (c0_0 : Bool)
noncomputable def zcB (y0 : Insn) (r1 : Bool) : Bool :=
 bif zT y0 then
 (false)
 else (bif r1 then
 ((y0.fImm == 0#32))
 else (false))
noncomputable def zgx : Code := zb6 Try.f18 [1,1,1,0,1,0,1,1,1,1,1,1,1,1,1,0,0,0,1,0,0]
def zlk (y0 : Insn) (r0 : Int) (r1 : Bool) (ls : List L1) : List Value := [.pointer (some ⟨(lget ls 0).n,0,none⟩),.bool false,.int .i64 (r0),.bool (r1)]
noncomputable def zkV (y0 : Insn) (r0 : Int) (r1 : Bool) : List L1 → List Value := mrgF [(0,1),(4,234)] (zlk y0 r0 r1) 4
def zli (y0 : Insn) (r0 : Int) (r1 : Bool) (ls : List L1) : List Obj := [.cells #[.int .u8 (nn y0.fOp),.int .u8 (nn y0.fDst),.int .u8 (nn y0.fSrc),.int .i16 (ii y0.fOff),.int .i32 (ii y0.fImm)] 25,unb,unb,unb,unb]
def zkZ (y0 : Insn) (r0 : Int) (r1 : Bool) : zcs → List L1 → List Value
 | .e0 c0_0,ls => [.pointer (some ⟨(lget ls 0).n,0,none⟩),.bool (c0_0),.int .i64 (r0)]
def zkQ : zcs → List (Nat × Nat)
 | .e0 _ => [(0,1),(3,235)]
noncomputable def zgl (y0 : Insn) (r0 : Int) (r1 : Bool) (r : zcs) : List L1 → List Value := mrgF (zkQ r) (zkZ y0 r0 r1 r) 4
def zgd (y0 : Insn) (r0 : Int) (r1 : Bool) : zcs → List L1 → List Obj
 | .e0 c0_0,ls => [.cells #[.int .u8 (nn y0.fOp),.int .u8 (nn y0.fDst),.int .u8 (nn y0.fSrc),.int .i16 (ii y0.fOff),.int .i32 (ii y0.fImm)] 25,unb,unb,unb,unb]
def zkW : zcs → Ex
 | .e0 _ => .normal
end
section
variable {M : Nat → Prop} {B0 : Nat} {S : World → Prop} (hU : Up M B0 S) (y0 : Insn) (r0 : Int) (r1 : Bool) (c0_0 : Bool)
include hU y0 r0 r1 c0_0
theorem zkN (e : zcB y0 r1 = c0_0) : zdm Try.prog M B0 S zgx 5 (zkV y0 r0 r1) (zli y0 r0 r1) (zkW (.e0 c0_0)) 4 (zgl y0 r0 r1 (.e0 c0_0)) (zgd y0 r0 r1 (.e0 c0_0)) 5 := by
 unfold zcB at e
 replace e := za e
 rcases e with ⟨hq0,e⟩ | ⟨hq0,e⟩
 ·subst e; exact zb hU [.a 0,.cg (zm hU y0 true hq0),.o,.o,.o,.o,.o,.o] [0,1,2,3] (fun b => rfl) (by decide) rfl rfl (fun b => by kernel_rfl)
 ·replace e := za e
  rcases e with ⟨hq1,e⟩ | ⟨hq1,e⟩
  ·subst e; exact zb hU [.a 0,.cg (zm hU y0 false hq0),.o,.o,.b hq1,.o,.o,.o,.a 0,.t (i_eq y0.fImm (0#32)) rfl,.o,.o] [0,1,2,3] (fun b => rfl) (by decide) rfl rfl (fun b => by kernel_rfl)
  ·subst e; exact zb hU [.a 0,.cg (zm hU y0 false hq0),.o,.o,.b hq1,.o,.o,.o,.o] [0,1,2,3] (fun b => rfl) (by decide) rfl rfl (fun b => by kernel_rfl)
def zj4 (y0 : Insn) (r0 : Int) (r1 : Bool) (ls : List L1) : List Obj := [.cells #[.int .u8 (nn y0.fOp),.int .u8 (nn y0.fDst),.int .u8 (nn y0.fSrc),.int .i16 (ii y0.fOff),.int .i32 (ii y0.fImm)] 25,unb,unb,unb]
noncomputable def zkY (y0 : Insn) (r0 : Int) (r1 : Bool) (ls : List L1) : List Value := List.append [((lget ls 3).u 0),.pointer (some ⟨(lget ls 0).n,0,none⟩),.bool false,.int .i64 (r0),.bool (r1)] (List.append (jks (lget ls 3).u 5 69) (List.append [.bool true,.int .i64 (r0),.bool true] (jks (lget ls 3).u 77 162)))
theorem zi4 (h : zcB y0 r1 = c0_0) : SpcG Try.prog M B0 S (spcJ zgx (zkY y0 r0 r1) (zj4 y0 r0 r1) 4 0 .normal (zgl y0 r0 r1 (.e0 c0_0)) (zgd y0 r0 r1 (.e0 c0_0))) :=
 zei hU (zkN hU y0 r0 r1 c0_0 h) (fun _ => rfl) (fun ls h => by match ls,h with | [l0,l1,l2,l3],_ => exact ⟨by kernel_rfl,by kernel_rfl⟩) (fun ls h => by match ls,h with | [l0,l1,l2,l3],_ => rfl) (fun ls => rfl)
inductive zcw where
 | e0 (c0_0 : Bool)
noncomputable def zcr (y0 : Insn) (r1 : Bool) : Bool :=
 bif r1 then
 (bif y0.fImm == 16#32 then
 (zv (zk y0) fun rd0 =>
 bif rd0 == 4 then
 (true)
 else (bif zT y0 then
 (false)
 else (true)))
 else (bif y0.fImm == 32#32 then
 (zv (zk y0) fun rd0 =>
 bif rd0 == 4 then
 (true)
 else (bif zT y0 then
 (false)
 else (true)))
 else (bif y0.fImm == 64#32 then
 (zv (zk y0) fun rd0 =>
 bif rd0 == 4 then
 (true)
 else (bif zT y0 then
 (false)
 else (true)))
 else (false))))
 else (false)
noncomputable def zgq : Code := zb6 Try.f18 [1,1,1,0,1,0,1,1,1,1,1,1,1,1,1,0,0,0,1,1,1,0,0]
def zk1 (y0 : Insn) (r0 : Int) (r1 : Bool) (ls : List L1) : List Value := [.pointer (some ⟨(lget ls 0).n,0,none⟩),.bool false,.int .i64 (r0),.bool (r1)]
noncomputable def zlt (y0 : Insn) (r0 : Int) (r1 : Bool) : List L1 → List Value := mrgF [(0,1),(4,234)] (zk1 y0 r0 r1) 4
def zlD (y0 : Insn) (r0 : Int) (r1 : Bool) (ls : List L1) : List Obj := [.cells #[.int .u8 (nn y0.fOp),.int .u8 (nn y0.fDst),.int .u8 (nn y0.fSrc),.int .i16 (ii y0.fOff),.int .i32 (ii y0.fImm)] 25,unb,unb,unb,unb]
def zlm (y0 : Insn) (r0 : Int) (r1 : Bool) : zcw → List L1 → List Value
 | .e0 c0_0,ls => [.pointer (some ⟨(lget ls 0).n,0,none⟩),.bool (c0_0),.int .i64 (r0)]
def zlr : zcw → List (Nat × Nat)
 | .e0 _ => [(0,1),(3,235)]
noncomputable def zgo (y0 : Insn) (r0 : Int) (r1 : Bool) (r : zcw) : List L1 → List Value := mrgF (zlr r) (zlm y0 r0 r1 r) 4
def zgk (y0 : Insn) (r0 : Int) (r1 : Bool) : zcw → List L1 → List Obj
 | .e0 c0_0,ls => [.cells #[.int .u8 (nn y0.fOp),.int .u8 (nn y0.fDst),.int .u8 (nn y0.fSrc),.int .i16 (ii y0.fOff),.int .i32 (ii y0.fImm)] 25,unb,unb,unb,unb]
def zkC : zcw → Ex
 | .e0 _ => .normal
theorem zkL (e : zcr y0 r1 = c0_0) : zdm Try.prog M B0 S zgq 5 (zlt y0 r0 r1) (zlD y0 r0 r1) (zkC (.e0 c0_0)) 4 (zgo y0 r0 r1 (.e0 c0_0)) (zgk y0 r0 r1 (.e0 c0_0)) 5 := by
 unfold zcr at e
 replace e := za e
 rcases e with ⟨hq0,e⟩ | ⟨hq0,e⟩
 ·replace e := za e
  let P1 : List (PG Try.prog M B0 S) := [.b hq0,.o,.o,.a 0]
  rcases e with ⟨hq1,e⟩ | ⟨hq1,e⟩
  ·replace e := zg e
   obtain ⟨rd0,e_rd0,e⟩ := e
   try dsimp only at e
   replace e := za e
   let P2 : List (PG Try.prog M B0 S) := P1 ++ [.t (i_eq y0.fImm (16#32)) hq1,.o,.o,.o,.o,.o,.o,.a 0,.cg (zB hU y0 rd0 e_rd0)]
   rcases e with ⟨hq2,e⟩ | ⟨hq2,e⟩
   ·subst e; exact zb hU (P2 ++ [.b (zO hq2),.o,.o,.o,.o]) [0,1,2,3] (fun b => rfl) (by decide) rfl rfl (fun b => by kernel_rfl)
   ·replace e := za e
    rcases e with ⟨hq3,e⟩ | ⟨hq3,e⟩
    ·subst e; exact zb hU (P2 ++ [.b (zF hq2),.o,.a 0,.cg (zm hU y0 true hq3),.o,.o,.o,.o]) [0,1,2,3] (fun b => rfl) (by decide) rfl rfl (fun b => by kernel_rfl)
    ·subst e; exact zb hU (P2 ++ [.b (zF hq2),.o,.a 0,.cg (zm hU y0 false hq3),.o,.o,.o,.o]) [0,1,2,3] (fun b => rfl) (by decide) rfl rfl (fun b => by kernel_rfl)
  ·replace e := za e
   let P3 : List (PG Try.prog M B0 S) := P1 ++ [.t (i_eq y0.fImm (16#32)) hq1,.o,.o,.a 0]
   rcases e with ⟨hq2,e⟩ | ⟨hq2,e⟩
   ·replace e := zg e
    obtain ⟨rd0,e_rd0,e⟩ := e
    try dsimp only at e
    replace e := za e
    let P4 : List (PG Try.prog M B0 S) := P3 ++ [.t (i_eq y0.fImm (32#32)) hq2,.o,.o,.o,.o,.o,.a 0,.cg (zB hU y0 rd0 e_rd0)]
    rcases e with ⟨hq3,e⟩ | ⟨hq3,e⟩
    ·subst e; exact zb hU (P4 ++ [.b (zO hq3),.o,.o,.o,.o]) [0,1,2,3] (fun b => rfl) (by decide) rfl rfl (fun b => by kernel_rfl)
    ·replace e := za e
     rcases e with ⟨hq4,e⟩ | ⟨hq4,e⟩
     ·subst e; exact zb hU (P4 ++ [.b (zF hq3),.o,.a 0,.cg (zm hU y0 true hq4),.o,.o,.o,.o]) [0,1,2,3] (fun b => rfl) (by decide) rfl rfl (fun b => by kernel_rfl)
     ·subst e; exact zb hU (P4 ++ [.b (zF hq3),.o,.a 0,.cg (zm hU y0 false hq4),.o,.o,.o,.o]) [0,1,2,3] (fun b => rfl) (by decide) rfl rfl (fun b => by kernel_rfl)
   ·replace e := za e
    let P5 : List (PG Try.prog M B0 S) := P3 ++ [.t (i_eq y0.fImm (32#32)) hq2,.o,.o,.o,.a 0]
    rcases e with ⟨hq3,e⟩ | ⟨hq3,e⟩
    ·replace e := zg e
     obtain ⟨rd0,e_rd0,e⟩ := e
     try dsimp only at e
     replace e := za e
     let P6 : List (PG Try.prog M B0 S) := P5 ++ [.t (i_eq y0.fImm (64#32)) hq3,.o,.o,.o,.a 0,.cg (zB hU y0 rd0 e_rd0)]
     rcases e with ⟨hq4,e⟩ | ⟨hq4,e⟩
     ·subst e; exact zb hU (P6 ++ [.b (zO hq4),.o,.o,.o,.o]) [0,1,2,3] (fun b => rfl) (by decide) rfl rfl (fun b => by kernel_rfl)
     ·replace e := za e
      rcases e with ⟨hq5,e⟩ | ⟨hq5,e⟩
      ·subst e; exact zb hU (P6 ++ [.b (zF hq4),.o,.a 0,.cg (zm hU y0 true hq5),.o,.o,.o,.o]) [0,1,2,3] (fun b => rfl) (by decide) rfl rfl (fun b => by kernel_rfl)
      ·subst e; exact zb hU (P6 ++ [.b (zF hq4),.o,.a 0,.cg (zm hU y0 false hq5),.o,.o,.o,.o]) [0,1,2,3] (fun b => rfl) (by decide) rfl rfl (fun b => by kernel_rfl)
    ·subst e; exact zb hU (P5 ++ [.t (i_eq y0.fImm (64#32)) hq3,.o,.o,.o,.o,.o]) [0,1,2,3] (fun b => rfl) (by decide) rfl rfl (fun b => by kernel_rfl)
 ·subst e; exact zb hU [.b hq0,.o,.o,.o,.o,.o] [0,1,2,3] (fun b => rfl) (by decide) rfl rfl (fun b => by kernel_rfl)
def zkt (y0 : Insn) (r0 : Int) (r1 : Bool) (ls : List L1) : List Obj := [.cells #[.int .u8 (nn y0.fOp),.int .u8 (nn y0.fDst),.int .u8 (nn y0.fSrc),.int .i16 (ii y0.fOff),.int .i32 (ii y0.fImm)] 25,unb,unb,unb]
noncomputable def zkU (y0 : Insn) (r0 : Int) (r1 : Bool) (ls : List L1) : List Value := List.append [((lget ls 3).u 0),.pointer (some ⟨(lget ls 0).n,0,none⟩),.bool false,.int .i64 (r0),.bool (r1)] (List.append (jks (lget ls 3).u 5 69) (List.append [.bool false,.int .i64 (r0),.bool false] (List.append (jks (lget ls 3).u 77 11) (List.append [.bool true,.int .i64 (r0),.bool true] (jks (lget ls 3).u 91 148)))))
theorem zi0 (h : zcr y0 r1 = c0_0) : SpcG Try.prog M B0 S (spcJ zgq (zkU y0 r0 r1) (zkt y0 r0 r1) 4 0 .normal (zgo y0 r0 r1 (.e0 c0_0)) (zgk y0 r0 r1 (.e0 c0_0))) :=
 zei hU (zkL hU y0 r0 r1 c0_0 h) (fun _ => rfl) (fun ls h => by match ls,h with | [l0,l1,l2,l3],_ => exact ⟨by kernel_rfl,by kernel_rfl⟩) (fun ls h => by match ls,h with | [l0,l1,l2,l3],_ => rfl) (fun ls => rfl)
inductive zbL where
 | e0 
 | e1 (c1_0 : Bool)
noncomputable def zcg (y0 : Insn) (r0 : Int) (r1 : Bool) : zbL :=
 bif r0 == 8 then
 (zv (zcB y0 r1) fun rc0 =>
 (.e1 rc0))
 else (bif r0 == 13 then
 (zv (zcr y0 r1) fun rc0 =>
 (.e1 rc0))
 else (bif decide (13 < r0) then
 ((.e1 false))
 else ((.e0))))
noncomputable def ze3 : Code := zb6 Try.f18 [1,1,1,0,1,0,1,1,1,1,1,1,1,1,1,0,0]
def zmZ (y0 : Insn) (r0 : Int) (r1 : Bool) (ls : List L1) : List Value := [.pointer (some ⟨(lget ls 0).n,0,none⟩),.bool false,.int .i64 (r0),.bool (r1)]
noncomputable def znS (y0 : Insn) (r0 : Int) (r1 : Bool) : List L1 → List Value := mrgF [(0,1),(4,234)] (zmZ y0 r0 r1) 3
def zm2 (y0 : Insn) (r0 : Int) (r1 : Bool) (ls : List L1) : List Obj := [.cells #[.int .u8 (nn y0.fOp),.int .u8 (nn y0.fDst),.int .u8 (nn y0.fSrc),.int .i16 (ii y0.fOff),.int .i32 (ii y0.fImm)] 25,unb,unb,unb]
def znM (y0 : Insn) (r0 : Int) (r1 : Bool) : zbL → List L1 → List Value
 | .e0 ,ls => [.pointer (some ⟨(lget ls 0).n,0,none⟩),.bool false,.int .i64 (r0)]
 | .e1 c1_0,ls => [.pointer (some ⟨(lget ls 0).n,0,none⟩),.bool (c1_0),.int .i64 (r0)]
def znX : zbL → List (Nat × Nat)
 | .e0  => [(0,1),(3,235)]
 | .e1 _ => [(0,1),(3,235)]
noncomputable def zeY (y0 : Insn) (r0 : Int) (r1 : Bool) (r : zbL) : List L1 → List Value := mrgF (znX r) (znM y0 r0 r1 r) 3
def zfb (y0 : Insn) (r0 : Int) (r1 : Bool) : zbL → List L1 → List Obj
 | .e0 ,ls => [.cells #[.int .u8 (nn y0.fOp),.int .u8 (nn y0.fDst),.int .u8 (nn y0.fSrc),.int .i16 (ii y0.fOff),.int .i32 (ii y0.fImm)] 25,unb,unb,unb]
 | .e1 c1_0,ls => [.cells #[.int .u8 (nn y0.fOp),.int .u8 (nn y0.fDst),.int .u8 (nn y0.fSrc),.int .i16 (ii y0.fOff),.int .i32 (ii y0.fImm)] 25,unb,unb,unb]
def zmX : zbL → Ex
 | .e0  => .normal
 | .e1 _ => .ret
end
section
variable {M : Nat → Prop} {B0 : Nat} {S : World → Prop} (hU : Up M B0 S) (y0 : Insn) (r0 : Int) (r1 : Bool)
include hU y0 r0 r1
theorem zhK (r : zbL) (e : zcg y0 r0 r1 = r) : zdm Try.prog M B0 S ze3 4 (znS y0 r0 r1) (zm2 y0 r0 r1) (zmX r) 3 (zeY y0 r0 r1 r) (zfb y0 r0 r1 r) 4 := by
 unfold zcg at e
 replace e := za e
 rcases e with ⟨hq0,e⟩ | ⟨hq0,e⟩
 ·replace e := zg e
  obtain ⟨rc0,e_rc0,e⟩ := e
  try dsimp only at e
  subst e; exact zb hU [.o,.b (zO hq0),.o,.cp,.cx (zi4 hU y0 r0 r1 rc0 e_rc0) [0,1,2,3]] [0,1,2] (fun b => rfl) (by decide) rfl rfl (fun b => by kernel_rfl)
 ·replace e := za e
  rcases e with ⟨hq1,e⟩ | ⟨hq1,e⟩
  ·replace e := zg e
   obtain ⟨rc0,e_rc0,e⟩ := e
   try dsimp only at e
   subst e; exact zb hU [.o,.b (zF hq0),.o,.o,.b (zO hq1),.o,.cp,.cx (zi0 hU y0 r0 r1 rc0 e_rc0) [0,1,2,3]] [0,1,2] (fun b => rfl) (by decide) rfl rfl (fun b => by kernel_rfl)
  ·replace e := za e
   rcases e with ⟨hq2,e⟩ | ⟨hq2,e⟩
   ·subst e; exact zb hU [.o,.b (zF hq0),.o,.o,.b (zF hq1),.o,.o,.b (zid hq2),.o,.o] [0,1,2] (fun b => rfl) (by decide) rfl rfl (fun b => by kernel_rfl)
   ·subst e; exact zb hU [.o,.b (zF hq0),.o,.o,.b (zF hq1),.o,.o,.b (zgR hq2),.o] [0,1,2] (fun b => rfl) (by decide) rfl rfl (fun b => by kernel_rfl)
def zg7 (y0 : Insn) (r0 : Int) (r1 : Bool) (ls : List L1) : List Obj := [.cells #[.int .u8 (nn y0.fOp),.int .u8 (nn y0.fDst),.int .u8 (nn y0.fSrc),.int .i16 (ii y0.fOff),.int .i32 (ii y0.fImm)] 25,unb,unb]
noncomputable def zhu (y0 : Insn) (r0 : Int) (r1 : Bool) (r2 : Int) (ls : List L1) : List Value := List.append [((lget ls 2).u 0),.pointer (some ⟨(lget ls 0).n,0,none⟩),.bool false,.int .i64 (r0),.bool (r1)] (List.append (jks (lget ls 2).u 5 11) (List.append [.int .i64 (r2),.bool false,.bool false] (List.append (jks (lget ls 2).u 19 22) (List.append [.bool false,.bool false] (List.append (jks (lget ls 2).u 43 8) (List.append [.bool false,.bool false] (List.append (jks (lget ls 2).u 53 8) (List.append [.bool false,.bool false] (List.append (jks (lget ls 2).u 63 8) (List.append [.bool true,.bool false,.bool true] (jks (lget ls 2).u 74 165)))))))))))
theorem zkl (r2 : Int) (h : zcg y0 r0 r1 = .e0) : SpcG Try.prog M B0 S (spcJ ze3 (zhu y0 r0 r1 r2) (zg7 y0 r0 r1) 3 0 .normal (zeY y0 r0 r1 .e0) (zfb y0 r0 r1 .e0)) :=
 zei hU (zhK hU y0 r0 r1 _ h) (fun _ => rfl) (fun ls h => by match ls,h with | [l0,l1,l2],_ => exact ⟨by kernel_rfl,by kernel_rfl⟩) (fun ls h => by match ls,h with | [l0,l1,l2],_ => rfl) (fun ls => rfl)
theorem zj9 (r2 : Int) (c1_0 : Bool) (h : zcg y0 r0 r1 = (.e1 c1_0)) : SpcG Try.prog M B0 S (spcJ ze3 (zhu y0 r0 r1 r2) (zg7 y0 r0 r1) 3 0 .ret (zeY y0 r0 r1 (.e1 c1_0)) (zfb y0 r0 r1 (.e1 c1_0))) :=
 zei hU (zhK hU y0 r0 r1 _ h) (fun _ => rfl) (fun ls h => by match ls,h with | [l0,l1,l2],_ => exact ⟨by kernel_rfl,by kernel_rfl⟩) (fun ls h => by match ls,h with | [l0,l1,l2],_ => rfl) (fun ls => rfl)
inductive zcz where
 | e0 (c0_0 : Bool)
noncomputable def zcp (y0 : Insn) : Bool :=
 bif zT y0 then
 (false)
 else (bif y0.fDst == 0#8 then
 (bif y0.fSrc == 0#8 then
 ((y0.fImm == 0#32))
 else (false))
 else (false))
noncomputable def zgb : Code := zb6 Try.f18 [1,1,1,0,1,0,1,1,1,1,1,1,1,1,1,1,1,0,1,0,1,0,0]
def zk0 (y0 : Insn) (r0 : Int) (ls : List L1) : List Value := [.pointer (some ⟨(lget ls 0).n,0,none⟩),.bool false,.int .i64 (r0)]
noncomputable def zkG (y0 : Insn) (r0 : Int) : List L1 → List Value := mrgF [(0,1),(3,235)] (zk0 y0 r0) 4
def zle (y0 : Insn) (r0 : Int) (ls : List L1) : List Obj := [.cells #[.int .u8 (nn y0.fOp),.int .u8 (nn y0.fDst),.int .u8 (nn y0.fSrc),.int .i16 (ii y0.fOff),.int .i32 (ii y0.fImm)] 25,unb,unb,unb,unb]
def zlu (y0 : Insn) (r0 : Int) : zcz → List L1 → List Value
 | .e0 c0_0,ls => [.pointer (some ⟨(lget ls 0).n,0,none⟩),.bool (c0_0),.int .i64 (r0)]
def zlI : zcz → List (Nat × Nat)
 | .e0 _ => [(0,1),(3,235)]
noncomputable def zgw (y0 : Insn) (r0 : Int) (r : zcz) : List L1 → List Value := mrgF (zlI r) (zlu y0 r0 r) 4
def zf8 (y0 : Insn) (r0 : Int) : zcz → List L1 → List Obj
 | .e0 c0_0,ls => [.cells #[.int .u8 (nn y0.fOp),.int .u8 (nn y0.fDst),.int .u8 (nn y0.fSrc),.int .i16 (ii y0.fOff),.int .i32 (ii y0.fImm)] 25,unb,unb,unb,unb]
def zlf : zcz → Ex
 | .e0 _ => .normal
end
section
variable {M : Nat → Prop} {B0 : Nat} {S : World → Prop} (hU : Up M B0 S) (y0 : Insn) (r0 : Int)
include hU y0 r0
theorem zlw (c0_0 : Bool) (e : zcp y0 = c0_0) : zdm Try.prog M B0 S zgb 5 (zkG y0 r0) (zle y0 r0) (zlf (.e0 c0_0)) 4 (zgw y0 r0 (.e0 c0_0)) (zf8 y0 r0 (.e0 c0_0)) 5 := by
 unfold zcp at e
 replace e := za e
 rcases e with ⟨hq0,e⟩ | ⟨hq0,e⟩
 ·subst e; exact zb hU [.a 0,.cg (zm hU y0 true hq0),.o,.o,.o,.o,.o,.o,.o,.o] [0,1,2,3] (fun b => rfl) (by decide) rfl rfl (fun b => by kernel_rfl)
 ·replace e := za e
  let P1 : List (PG Try.prog M B0 S) := [.a 0,.cg (zm hU y0 false hq0),.o,.o,.o,.a 0]
  rcases e with ⟨hq1,e⟩ | ⟨hq1,e⟩
  ·replace e := za e
   rcases e with ⟨hq2,e⟩ | ⟨hq2,e⟩
   ·subst e; exact zb hU (P1 ++ [.t (u_eq y0.fDst (0#8)) hq1,.o,.o,.o,.a 0,.t (u_eq y0.fSrc (0#8)) hq2,.o,.o,.o,.a 0,.t (i_eq y0.fImm (0#32)) rfl,.o,.o]) [0,1,2,3] (fun b => rfl) (by decide) rfl rfl (fun b => by kernel_rfl)
   ·subst e; exact zb hU (P1 ++ [.t (u_eq y0.fDst (0#8)) hq1,.o,.o,.o,.a 0,.t (u_eq y0.fSrc (0#8)) hq2,.o,.o,.o,.o]) [0,1,2,3] (fun b => rfl) (by decide) rfl rfl (fun b => by kernel_rfl)
  ·subst e; exact zb hU (P1 ++ [.t (u_eq y0.fDst (0#8)) hq1,.o,.o,.o,.o,.o,.o]) [0,1,2,3] (fun b => rfl) (by decide) rfl rfl (fun b => by kernel_rfl)
def zkk (y0 : Insn) (r0 : Int) (ls : List L1) : List Obj := [.cells #[.int .u8 (nn y0.fOp),.int .u8 (nn y0.fDst),.int .u8 (nn y0.fSrc),.int .i16 (ii y0.fOff),.int .i32 (ii y0.fImm)] 25,unb,unb,unb]
noncomputable def zk9 (y0 : Insn) (r0 : Int) (r1 : Bool) (ls : List L1) : List Value := List.append [((lget ls 3).u 0),.pointer (some ⟨(lget ls 0).n,0,none⟩),.bool false,.int .i64 (r0),.bool (r1)] (List.append (jks (lget ls 3).u 5 139) (List.append [.int .i64 (r0),.bool true,.bool true] (jks (lget ls 3).u 147 92)))
theorem zi2 (r1 : Bool) (c0_0 : Bool) (h : zcp y0 = c0_0) : SpcG Try.prog M B0 S (spcJ zgb (zk9 y0 r0 r1) (zkk y0 r0) 4 0 .normal (zgw y0 r0 (.e0 c0_0)) (zf8 y0 r0 (.e0 c0_0))) :=
 zei hU (zlw hU y0 r0 c0_0 h) (fun _ => rfl) (fun ls h => by match ls,h with | [l0,l1,l2,l3],_ => exact ⟨by kernel_rfl,by kernel_rfl⟩) (fun ls h => by match ls,h with | [l0,l1,l2,l3],_ => rfl) (fun ls => rfl)
inductive zcv where
 | e0 (c0_0 : Bool)
noncomputable def zcC (y0 : Insn) : Bool :=
 bif zT y0 then
 (false)
 else (bif y0.fDst == 0#8 then
 (bif y0.fOff == 0#16 then
 ((!(BitVec.ult (1#8) y0.fSrc)))
 else (false))
 else (false))
noncomputable def zgn : Code := zb6 Try.f18 [1,1,1,0,1,0,1,1,1,1,1,1,1,1,1,1,1,0,1,0,1,1,1,0,0]
def zly (y0 : Insn) (r0 : Int) (ls : List L1) : List Value := [.pointer (some ⟨(lget ls 0).n,0,none⟩),.bool false,.int .i64 (r0)]
noncomputable def zlC (y0 : Insn) (r0 : Int) : List L1 → List Value := mrgF [(0,1),(3,235)] (zly y0 r0) 4
def zlH (y0 : Insn) (r0 : Int) (ls : List L1) : List Obj := [.cells #[.int .u8 (nn y0.fOp),.int .u8 (nn y0.fDst),.int .u8 (nn y0.fSrc),.int .i16 (ii y0.fOff),.int .i32 (ii y0.fImm)] 25,unb,unb,unb,unb]
def zk2 (y0 : Insn) (r0 : Int) : zcv → List L1 → List Value
 | .e0 c0_0,ls => [.pointer (some ⟨(lget ls 0).n,0,none⟩),.bool (c0_0),.int .i64 (r0)]
def zkA : zcv → List (Nat × Nat)
 | .e0 _ => [(0,1),(3,235)]
noncomputable def zgh (y0 : Insn) (r0 : Int) (r : zcv) : List L1 → List Value := mrgF (zkA r) (zk2 y0 r0 r) 4
def zgv (y0 : Insn) (r0 : Int) : zcv → List L1 → List Obj
 | .e0 c0_0,ls => [.cells #[.int .u8 (nn y0.fOp),.int .u8 (nn y0.fDst),.int .u8 (nn y0.fSrc),.int .i16 (ii y0.fOff),.int .i32 (ii y0.fImm)] 25,unb,unb,unb,unb]
def zkz : zcv → Ex
 | .e0 _ => .normal
theorem zlj (c0_0 : Bool) (e : zcC y0 = c0_0) : zdm Try.prog M B0 S zgn 5 (zlC y0 r0) (zlH y0 r0) (zkz (.e0 c0_0)) 4 (zgh y0 r0 (.e0 c0_0)) (zgv y0 r0 (.e0 c0_0)) 5 := by
 unfold zcC at e
 replace e := za e
 rcases e with ⟨hq0,e⟩ | ⟨hq0,e⟩
 ·subst e; exact zb hU [.a 0,.cg (zm hU y0 true hq0),.o,.o,.o,.o,.o,.o,.o,.o] [0,1,2,3] (fun b => rfl) (by decide) rfl rfl (fun b => by kernel_rfl)
 ·replace e := za e
  let P1 : List (PG Try.prog M B0 S) := [.a 0,.cg (zm hU y0 false hq0),.o,.o,.o,.a 0]
  rcases e with ⟨hq1,e⟩ | ⟨hq1,e⟩
  ·replace e := za e
   rcases e with ⟨hq2,e⟩ | ⟨hq2,e⟩
   ·subst e; exact zb hU (P1 ++ [.t (u_eq y0.fDst (0#8)) hq1,.o,.o,.o,.a 0,.t (i_eq y0.fOff (0#16)) hq2,.o,.o,.o,.a 0,.tn (u_le y0.fSrc (1#8)) rfl,.o,.o]) [0,1,2,3] (fun b => rfl) (by decide) rfl rfl (fun b => by kernel_rfl)
   ·subst e; exact zb hU (P1 ++ [.t (u_eq y0.fDst (0#8)) hq1,.o,.o,.o,.a 0,.t (i_eq y0.fOff (0#16)) hq2,.o,.o,.o,.o]) [0,1,2,3] (fun b => rfl) (by decide) rfl rfl (fun b => by kernel_rfl)
  ·subst e; exact zb hU (P1 ++ [.t (u_eq y0.fDst (0#8)) hq1,.o,.o,.o,.o,.o,.o]) [0,1,2,3] (fun b => rfl) (by decide) rfl rfl (fun b => by kernel_rfl)
def zka (y0 : Insn) (r0 : Int) (ls : List L1) : List Obj := [.cells #[.int .u8 (nn y0.fOp),.int .u8 (nn y0.fDst),.int .u8 (nn y0.fSrc),.int .i16 (ii y0.fOff),.int .i32 (ii y0.fImm)] 25,unb,unb,unb]
noncomputable def zlv (y0 : Insn) (r0 : Int) (r1 : Bool) (ls : List L1) : List Value := List.append [((lget ls 3).u 0),.pointer (some ⟨(lget ls 0).n,0,none⟩),.bool false,.int .i64 (r0),.bool (r1)] (List.append (jks (lget ls 3).u 5 139) (List.append [.int .i64 (r0),.bool false,.bool false] (List.append (jks (lget ls 3).u 147 18) (List.append [.bool true,.bool true] (jks (lget ls 3).u 167 72)))))
theorem zi5 (r1 : Bool) (c0_0 : Bool) (h : zcC y0 = c0_0) : SpcG Try.prog M B0 S (spcJ zgn (zlv y0 r0 r1) (zka y0 r0) 4 0 .normal (zgh y0 r0 (.e0 c0_0)) (zgv y0 r0 (.e0 c0_0))) :=
 zei hU (zlj hU y0 r0 c0_0 h) (fun _ => rfl) (fun ls h => by match ls,h with | [l0,l1,l2,l3],_ => exact ⟨by kernel_rfl,by kernel_rfl⟩) (fun ls h => by match ls,h with | [l0,l1,l2,l3],_ => rfl) (fun ls => rfl)
inductive zcx where
 | e0 (c0_0 : Bool)
noncomputable def zcy (y0 : Insn) (r1 : Bool) : Bool :=
 bif zT y0 then
 (false)
 else (bif y0.fDst == 0#8 then
 (bif r1 then
 ((y0.fImm == 0#32))
 else (false))
 else (false))
noncomputable def zgr : Code := zb6 Try.f18 [1,1,1,0,1,0,1,1,1,1,1,1,1,1,1,1,1,0,1,0,1,1,1,1,1,0,0]
def zkK (y0 : Insn) (r0 : Int) (r1 : Bool) (ls : List L1) : List Value := [.pointer (some ⟨(lget ls 0).n,0,none⟩),.bool false,.int .i64 (r0),.bool (r1)]
noncomputable def zlA (y0 : Insn) (r0 : Int) (r1 : Bool) : List L1 → List Value := mrgF [(0,1),(4,234)] (zkK y0 r0 r1) 4
def zkT (y0 : Insn) (r0 : Int) (r1 : Bool) (ls : List L1) : List Obj := [.cells #[.int .u8 (nn y0.fOp),.int .u8 (nn y0.fDst),.int .u8 (nn y0.fSrc),.int .i16 (ii y0.fOff),.int .i32 (ii y0.fImm)] 25,unb,unb,unb,unb]
def zln (y0 : Insn) (r0 : Int) (r1 : Bool) : zcx → List L1 → List Value
 | .e0 c0_0,ls => [.pointer (some ⟨(lget ls 0).n,0,none⟩),.bool (c0_0),.int .i64 (r0)]
def zlo : zcx → List (Nat × Nat)
 | .e0 _ => [(0,1),(3,235)]
noncomputable def zgj (y0 : Insn) (r0 : Int) (r1 : Bool) (r : zcx) : List L1 → List Value := mrgF (zlo r) (zln y0 r0 r1 r) 4
def zge (y0 : Insn) (r0 : Int) (r1 : Bool) : zcx → List L1 → List Obj
 | .e0 c0_0,ls => [.cells #[.int .u8 (nn y0.fOp),.int .u8 (nn y0.fDst),.int .u8 (nn y0.fSrc),.int .i16 (ii y0.fOff),.int .i32 (ii y0.fImm)] 25,unb,unb,unb,unb]
def zkE : zcx → Ex
 | .e0 _ => .normal
theorem zk3 (r1 : Bool) (c0_0 : Bool) (e : zcy y0 r1 = c0_0) : zdm Try.prog M B0 S zgr 5 (zlA y0 r0 r1) (zkT y0 r0 r1) (zkE (.e0 c0_0)) 4 (zgj y0 r0 r1 (.e0 c0_0)) (zge y0 r0 r1 (.e0 c0_0)) 5 := by
 unfold zcy at e
 replace e := za e
 rcases e with ⟨hq0,e⟩ | ⟨hq0,e⟩
 ·subst e; exact zb hU [.a 0,.cg (zm hU y0 true hq0),.o,.o,.o,.o,.o,.o,.o,.o] [0,1,2,3] (fun b => rfl) (by decide) rfl rfl (fun b => by kernel_rfl)
 ·replace e := za e
  let P1 : List (PG Try.prog M B0 S) := [.a 0,.cg (zm hU y0 false hq0),.o,.o,.o,.a 0]
  rcases e with ⟨hq1,e⟩ | ⟨hq1,e⟩
  ·replace e := za e
   rcases e with ⟨hq2,e⟩ | ⟨hq2,e⟩
   ·subst e; exact zb hU (P1 ++ [.t (u_eq y0.fDst (0#8)) hq1,.o,.o,.b hq2,.o,.o,.o,.a 0,.t (i_eq y0.fImm (0#32)) rfl,.o,.o]) [0,1,2,3] (fun b => rfl) (by decide) rfl rfl (fun b => by kernel_rfl)
   ·subst e; exact zb hU (P1 ++ [.t (u_eq y0.fDst (0#8)) hq1,.o,.o,.b hq2,.o,.o,.o,.o]) [0,1,2,3] (fun b => rfl) (by decide) rfl rfl (fun b => by kernel_rfl)
  ·subst e; exact zb hU (P1 ++ [.t (u_eq y0.fDst (0#8)) hq1,.o,.o,.o,.o,.o,.o]) [0,1,2,3] (fun b => rfl) (by decide) rfl rfl (fun b => by kernel_rfl)
def zki (y0 : Insn) (r0 : Int) (r1 : Bool) (ls : List L1) : List Obj := [.cells #[.int .u8 (nn y0.fOp),.int .u8 (nn y0.fDst),.int .u8 (nn y0.fSrc),.int .i16 (ii y0.fOff),.int .i32 (ii y0.fImm)] 25,unb,unb,unb]
noncomputable def zkR (y0 : Insn) (r0 : Int) (r1 : Bool) (ls : List L1) : List Value := List.append [((lget ls 3).u 0),.pointer (some ⟨(lget ls 0).n,0,none⟩),.bool false,.int .i64 (r0),.bool (r1)] (List.append (jks (lget ls 3).u 5 139) (List.append [.int .i64 (r0),.bool false,.bool false] (List.append (jks (lget ls 3).u 147 18) (List.append [.bool false,.bool false] (List.append (jks (lget ls 3).u 167 18) (List.append [.bool true,.bool true] (jks (lget ls 3).u 187 52)))))))
theorem ziY (r1 : Bool) (c0_0 : Bool) (h : zcy y0 r1 = c0_0) : SpcG Try.prog M B0 S (spcJ zgr (zkR y0 r0 r1) (zki y0 r0 r1) 4 0 .normal (zgj y0 r0 r1 (.e0 c0_0)) (zge y0 r0 r1 (.e0 c0_0))) :=
 zei hU (zk3 hU y0 r0 r1 c0_0 h) (fun _ => rfl) (fun ls h => by match ls,h with | [l0,l1,l2,l3],_ => exact ⟨by kernel_rfl,by kernel_rfl⟩) (fun ls h => by match ls,h with | [l0,l1,l2,l3],_ => rfl) (fun ls => rfl)
inductive zbJ where
 | e0 
 | e1 (c1_0 : Bool)
noncomputable def zch (y0 : Insn) (r0 : Int) (r1 : Bool) : zbJ :=
 bif r0 == 0 then
 (zv (zcp y0) fun rc0 =>
 (.e1 rc0))
 else (bif r0 == 8 then
 (zv (zcC y0) fun rc0 =>
 (.e1 rc0))
 else (bif r0 == 9 then
 (zv (zcy y0 r1) fun rc0 =>
 (.e1 rc0))
 else ((.e0))))
noncomputable def ze9 : Code := zb6 Try.f18 [1,1,1,0,1,0,1,1,1,1,1,1,1,1,1,1,1,0,1]
def znp (y0 : Insn) (r0 : Int) (r1 : Bool) (ls : List L1) : List Value := [.pointer (some ⟨(lget ls 0).n,0,none⟩),.bool false,.int .i64 (r0),.bool (r1),.int .i64 (r0)]
noncomputable def zmY (y0 : Insn) (r0 : Int) (r1 : Bool) : List L1 → List Value := mrgF [(0,1),(4,139),(1,94)] (znp y0 r0 r1) 3
def zny (y0 : Insn) (r0 : Int) (r1 : Bool) (ls : List L1) : List Obj := [.cells #[.int .u8 (nn y0.fOp),.int .u8 (nn y0.fDst),.int .u8 (nn y0.fSrc),.int .i16 (ii y0.fOff),.int .i32 (ii y0.fImm)] 25,unb,unb,unb]
def zni (y0 : Insn) (r0 : Int) (r1 : Bool) : zbJ → List L1 → List Value
 | .e0 ,ls => [.pointer (some ⟨(lget ls 0).n,0,none⟩),.bool false,.int .i64 (r0)]
 | .e1 c1_0,ls => [.pointer (some ⟨(lget ls 0).n,0,none⟩),.bool (c1_0),.int .i64 (r0)]
def zna : zbJ → List (Nat × Nat)
 | .e0  => [(0,1),(3,235)]
 | .e1 _ => [(0,1),(3,235)]
noncomputable def ze4 (y0 : Insn) (r0 : Int) (r1 : Bool) (r : zbJ) : List L1 → List Value := mrgF (zna r) (zni y0 r0 r1 r) 3
def ze2 (y0 : Insn) (r0 : Int) (r1 : Bool) : zbJ → List L1 → List Obj
 | .e0 ,ls => [.cells #[.int .u8 (nn y0.fOp),.int .u8 (nn y0.fDst),.int .u8 (nn y0.fSrc),.int .i16 (ii y0.fOff),.int .i32 (ii y0.fImm)] 25,unb,unb,unb]
 | .e1 c1_0,ls => [.cells #[.int .u8 (nn y0.fOp),.int .u8 (nn y0.fDst),.int .u8 (nn y0.fSrc),.int .i16 (ii y0.fOff),.int .i32 (ii y0.fImm)] 25,unb,unb,unb]
def znA : zbJ → Ex
 | .e0  => .normal
 | .e1 _ => .ret
theorem zhP (r1 : Bool) (r : zbJ) (e : zch y0 r0 r1 = r) : zdm Try.prog M B0 S ze9 4 (zmY y0 r0 r1) (zny y0 r0 r1) (znA r) 3 (ze4 y0 r0 r1 r) (ze2 y0 r0 r1 r) 4 := by
 unfold zch at e
 replace e := za e
 rcases e with ⟨hq0,e⟩ | ⟨hq0,e⟩
 ·replace e := zg e
  obtain ⟨rc0,e_rc0,e⟩ := e
  try dsimp only at e
  subst e; exact zb hU [.b (zO hq0),.o,.cp,.cx (zi2 hU y0 r0 r1 rc0 e_rc0) [0,1,2,3]] [0,1,2] (fun b => rfl) (by decide) rfl rfl (fun b => by kernel_rfl)
 ·replace e := za e
  rcases e with ⟨hq1,e⟩ | ⟨hq1,e⟩
  ·replace e := zg e
   obtain ⟨rc0,e_rc0,e⟩ := e
   try dsimp only at e
   subst e; exact zb hU [.b (zF hq0),.o,.b (zO hq1),.o,.cp,.cx (zi5 hU y0 r0 r1 rc0 e_rc0) [0,1,2,3]] [0,1,2] (fun b => rfl) (by decide) rfl rfl (fun b => by kernel_rfl)
  ·replace e := za e
   rcases e with ⟨hq2,e⟩ | ⟨hq2,e⟩
   ·replace e := zg e
    obtain ⟨rc0,e_rc0,e⟩ := e
    try dsimp only at e
    subst e; exact zb hU [.b (zF hq0),.o,.b (zF hq1),.o,.b (zO hq2),.o,.cp,.cx (ziY hU y0 r0 r1 rc0 e_rc0) [0,1,2,3]] [0,1,2] (fun b => rfl) (by decide) rfl rfl (fun b => by kernel_rfl)
   ·subst e; exact zb hU [.b (zF hq0),.o,.b (zF hq1),.o,.b (zF hq2),.o] [0,1,2] (fun b => rfl) (by decide) rfl rfl (fun b => by kernel_rfl)
def zhe (y0 : Insn) (r0 : Int) (r1 : Bool) (ls : List L1) : List Obj := [.cells #[.int .u8 (nn y0.fOp),.int .u8 (nn y0.fDst),.int .u8 (nn y0.fSrc),.int .i16 (ii y0.fOff),.int .i32 (ii y0.fImm)] 25,unb,unb]
noncomputable def zhv (y0 : Insn) (r0 : Int) (r1 : Bool) (r2 : Int) (ls : List L1) : List Value := List.append [((lget ls 2).u 0),.pointer (some ⟨(lget ls 0).n,0,none⟩),.bool false,.int .i64 (r0),.bool (r1)] (List.append (jks (lget ls 2).u 5 11) (List.append [.int .i64 (r2),.bool false,.bool false] (List.append (jks (lget ls 2).u 19 22) (List.append [.bool false,.bool false] (List.append (jks (lget ls 2).u 43 8) (List.append [.bool false,.bool false] (List.append (jks (lget ls 2).u 53 8) (List.append [.bool false,.bool false] (List.append (jks (lget ls 2).u 63 8) (List.append [.bool false,.bool false,.bool false] (List.append (jks (lget ls 2).u 74 68) (List.append [.bool true,.bool true,.int .i64 (r0)] (jks (lget ls 2).u 145 94)))))))))))))
theorem zkn (r1 : Bool) (r2 : Int) (h : zch y0 r0 r1 = .e0) : SpcG Try.prog M B0 S (spcJ ze9 (zhv y0 r0 r1 r2) (zhe y0 r0 r1) 3 0 .normal (ze4 y0 r0 r1 .e0) (ze2 y0 r0 r1 .e0)) :=
 zei hU (zhP hU y0 r0 r1 _ h) (fun _ => rfl) (fun ls h => by match ls,h with | [l0,l1,l2],_ => exact ⟨by kernel_rfl,by kernel_rfl⟩) (fun ls h => by match ls,h with | [l0,l1,l2],_ => rfl) (fun ls => rfl)
theorem zj8 (r1 : Bool) (r2 : Int) (c1_0 : Bool) (h : zch y0 r0 r1 = (.e1 c1_0)) : SpcG Try.prog M B0 S (spcJ ze9 (zhv y0 r0 r1 r2) (zhe y0 r0 r1) 3 0 .ret (ze4 y0 r0 r1 (.e1 c1_0)) (ze2 y0 r0 r1 (.e1 c1_0))) :=
 zei hU (zhP hU y0 r0 r1 _ h) (fun _ => rfl) (fun ls h => by match ls,h with | [l0,l1,l2],_ => exact ⟨by kernel_rfl,by kernel_rfl⟩) (fun ls h => by match ls,h with | [l0,l1,l2],_ => rfl) (fun ls => rfl)
inductive zcc where
 | e0 
 | e1 (c1_0 : Bool)
noncomputable def zc2 (y0 : Insn) (r0 : Int) (r1 : Bool) (r2 : Int) : zcc :=
 bif r2 == 0 then
 (zv (zc5 y0) fun rb0 =>
 (.e1 rb0))
 else (bif r2 == 1 then
 (zv (zeh y0) fun rb0 =>
 bif decide (0 < rb0) then
 ((.e1 (y0.fImm == 0#32)))
 else ((.e1 false)))
 else (bif r2 == 2 then
 (zv (zeh y0) fun rb0 =>
 bif decide (0 < rb0) then
 ((.e1 (y0.fSrc == 0#8)))
 else ((.e1 false)))
 else (bif r2 == 3 then
 (zv (zeh y0) fun rb0 =>
 bif decide (0 < rb0) then
 ((.e1 (y0.fImm == 0#32)))
 else ((.e1 false)))
 else (bif r2 == 4 then
 (zv (zck y0 r0 r1) fun gb0 => match gb0 with
 | .e0  => (zv (zcd y0) fun rb1 =>
 (.e1 rb1))
 | .e1 gb0_0 => ((.e1 gb0_0)))
 else (bif r2 == 7 then
 (zv (zcg y0 r0 r1) fun gb0 => match gb0 with
 | .e0  => (zv (zcd y0) fun rb1 =>
 (.e1 rb1))
 | .e1 gb0_0 => ((.e1 gb0_0)))
 else (bif r2 == 5 then
 (zv (zch y0 r0 r1) fun gb0 => match gb0 with
 | .e0  => ((.e0))
 | .e1 gb0_0 => ((.e1 gb0_0)))
 else ((.e0))))))))
noncomputable def zfS : Code := zb6 Try.f18 [1,1,1,0,1]
def zpH (y0 : Insn) (r0 : Int) (r1 : Bool) (r2 : Int) (ls : List L1) : List Value := [.pointer (some ⟨(lget ls 0).n,0,none⟩),.bool false,.int .i64 (r0),.bool (r1),.int .i64 (r2)]
noncomputable def zpg (y0 : Insn) (r0 : Int) (r1 : Bool) (r2 : Int) : List L1 → List Value := mrgF [(0,1),(4,11),(1,222)] (zpH y0 r0 r1 r2) 2
def zpN (y0 : Insn) (r0 : Int) (r1 : Bool) (r2 : Int) (ls : List L1) : List Obj := [.cells #[.int .u8 (nn y0.fOp),.int .u8 (nn y0.fDst),.int .u8 (nn y0.fSrc),.int .i16 (ii y0.fOff),.int .i32 (ii y0.fImm)] 25,unb,unb]
def zo5 (y0 : Insn) (r0 : Int) (r1 : Bool) (r2 : Int) : zcc → List L1 → List Value
 | .e0 ,ls => [.pointer (some ⟨(lget ls 0).n,0,none⟩),.bool false,.int .i64 (r0)]
 | .e1 c1_0,ls => [.pointer (some ⟨(lget ls 0).n,0,none⟩),.bool (c1_0),.int .i64 (r0)]
def zpm : zcc → List (Nat × Nat)
 | .e0  => [(0,1),(3,235)]
 | .e1 _ => [(0,1),(3,235)]
noncomputable def zfN (y0 : Insn) (r0 : Int) (r1 : Bool) (r2 : Int) (r : zcc) : List L1 → List Value := mrgF (zpm r) (zo5 y0 r0 r1 r2 r) 2
def zf3 (y0 : Insn) (r0 : Int) (r1 : Bool) (r2 : Int) : zcc → List L1 → List Obj
 | .e0 ,ls => [.cells #[.int .u8 (nn y0.fOp),.int .u8 (nn y0.fDst),.int .u8 (nn y0.fSrc),.int .i16 (ii y0.fOff),.int .i32 (ii y0.fImm)] 25,unb,unb]
 | .e1 c1_0,ls => [.cells #[.int .u8 (nn y0.fOp),.int .u8 (nn y0.fDst),.int .u8 (nn y0.fSrc),.int .i16 (ii y0.fOff),.int .i32 (ii y0.fImm)] 25,unb,unb]
def zp0 : zcc → Ex
 | .e0  => .normal
 | .e1 _ => .ret
theorem ziQ (r1 : Bool) (r2 : Int) (r : zcc) (e : zc2 y0 r0 r1 r2 = r) : zdm Try.prog M B0 S zfS 3 (zpg y0 r0 r1 r2) (zpN y0 r0 r1 r2) (zp0 r) 2 (zfN y0 r0 r1 r2 r) (zf3 y0 r0 r1 r2 r) 3 := by
 unfold zc2 at e
 replace e := za e
 rcases e with ⟨hq0,e⟩ | ⟨hq0,e⟩
 ·replace e := zg e
  obtain ⟨rb0,e_rb0,e⟩ := e
  try dsimp only at e
  subst e; exact zb hU [.b (zO hq0),.o,.cp,.cx (zj7 hU y0 r0 r1 r2 rb0 e_rb0) [0,1,2]] [0,1] (fun b => rfl) (by decide) rfl rfl (fun b => by kernel_rfl)
 ·replace e := za e
  let P1 : List (PG Try.prog M B0 S) := [.b (zF hq0),.o]
  rcases e with ⟨hq1,e⟩ | ⟨hq1,e⟩
  ·replace e := zg e
   obtain ⟨rb0,e_rb0,e⟩ := e
   try dsimp only at e
   replace e := za e
   rcases e with ⟨hq2,e⟩ | ⟨hq2,e⟩
   ·subst e; exact zb hU (P1 ++ [.b (zO hq1),.o,.a 0,.cg (zdS hU y0 rb0 e_rb0),.b (zid hq2),.o,.o,.a 0,.t (i_eq y0.fImm (0#32)) rfl,.o,.o]) [0,1] (fun b => rfl) (by decide) rfl rfl (fun b => by kernel_rfl)
   ·subst e; exact zb hU (P1 ++ [.b (zO hq1),.o,.a 0,.cg (zdS hU y0 rb0 e_rb0),.b (zgR hq2),.o,.o,.o]) [0,1] (fun b => rfl) (by decide) rfl rfl (fun b => by kernel_rfl)
  ·replace e := za e
   let P2 : List (PG Try.prog M B0 S) := P1 ++ [.b (zF hq1),.o]
   rcases e with ⟨hq2,e⟩ | ⟨hq2,e⟩
   ·replace e := zg e
    obtain ⟨rb0,e_rb0,e⟩ := e
    try dsimp only at e
    replace e := za e
    rcases e with ⟨hq3,e⟩ | ⟨hq3,e⟩
    ·subst e; exact zb hU (P2 ++ [.b (zO hq2),.o,.a 0,.cg (zdS hU y0 rb0 e_rb0),.b (zid hq3),.o,.o,.a 0,.t (u_eq y0.fSrc (0#8)) rfl,.o,.o]) [0,1] (fun b => rfl) (by decide) rfl rfl (fun b => by kernel_rfl)
    ·subst e; exact zb hU (P2 ++ [.b (zO hq2),.o,.a 0,.cg (zdS hU y0 rb0 e_rb0),.b (zgR hq3),.o,.o,.o]) [0,1] (fun b => rfl) (by decide) rfl rfl (fun b => by kernel_rfl)
   ·replace e := za e
    let P3 : List (PG Try.prog M B0 S) := P2 ++ [.b (zF hq2),.o]
    rcases e with ⟨hq3,e⟩ | ⟨hq3,e⟩
    ·replace e := zg e
     obtain ⟨rb0,e_rb0,e⟩ := e
     try dsimp only at e
     replace e := za e
     rcases e with ⟨hq4,e⟩ | ⟨hq4,e⟩
     ·subst e; exact zb hU (P3 ++ [.b (zO hq3),.o,.a 0,.cg (zdS hU y0 rb0 e_rb0),.b (zid hq4),.o,.o,.a 0,.t (i_eq y0.fImm (0#32)) rfl,.o,.o]) [0,1] (fun b => rfl) (by decide) rfl rfl (fun b => by kernel_rfl)
     ·subst e; exact zb hU (P3 ++ [.b (zO hq3),.o,.a 0,.cg (zdS hU y0 rb0 e_rb0),.b (zgR hq4),.o,.o,.o]) [0,1] (fun b => rfl) (by decide) rfl rfl (fun b => by kernel_rfl)
    ·replace e := za e
     let P4 : List (PG Try.prog M B0 S) := P3 ++ [.b (zF hq3),.o]
     rcases e with ⟨hq4,e⟩ | ⟨hq4,e⟩
     ·replace e := zg e
      obtain ⟨gb0,e_gb0,e⟩ := e
      rcases gb0 with _ | ⟨gb0_0⟩
      ·try dsimp only at e
       replace e := zg e
       obtain ⟨rb1,e_rb1,e⟩ := e
       try dsimp only at e
       subst e; exact zb hU (P4 ++ [.b (zO hq4),.o,.cp,.cp,.cx (zkb hU y0 r0 r1 r2  e_gb0) [0,1,2],.cx (zfV hU y0 r0 rb1 e_rb1) [0,1,2,3]]) [0,1] (fun b => rfl) (by decide) rfl rfl (fun b => by kernel_rfl)
      ·try dsimp only at e
       subst e; exact zb hU (P4 ++ [.b (zO hq4),.o,.cp,.cp,.cx (zkr hU y0 r0 r1 r2 gb0_0 e_gb0) [0,1,2]]) [0,1] (fun b => rfl) (by decide) rfl rfl (fun b => by kernel_rfl)
     ·replace e := za e
      rcases e with ⟨hq5,e⟩ | ⟨hq5,e⟩
      ·replace e := zg e
       obtain ⟨gb0,e_gb0,e⟩ := e
       rcases gb0 with _ | ⟨gb0_0⟩
       ·try dsimp only at e
        replace e := zg e
        obtain ⟨rb1,e_rb1,e⟩ := e
        try dsimp only at e
        subst e; exact zb hU (P4 ++ [.b (zF hq4),.o,.b (zO hq5),.o,.cp,.cx (zkl hU y0 r0 r1 r2  e_gb0) [0,1,2],.cx (zfV hU y0 r0 rb1 e_rb1) [0,1,2,3]]) [0,1] (fun b => rfl) (by decide) rfl rfl (fun b => by kernel_rfl)
       ·try dsimp only at e
        subst e; exact zb hU (P4 ++ [.b (zF hq4),.o,.b (zO hq5),.o,.cp,.cx (zj9 hU y0 r0 r1 r2 gb0_0 e_gb0) [0,1,2]]) [0,1] (fun b => rfl) (by decide) rfl rfl (fun b => by kernel_rfl)
      ·replace e := za e
       rcases e with ⟨hq6,e⟩ | ⟨hq6,e⟩
       ·replace e := zg e
        obtain ⟨gb0,e_gb0,e⟩ := e
        rcases gb0 with _ | ⟨gb0_0⟩
        ·try dsimp only at e
         subst e; exact zb hU (P4 ++ [.b (zF hq4),.o,.b (zF hq5),.o,.b (zO hq6),.o,.o,.cx (zkn hU y0 r0 r1 r2  e_gb0) [0,1,2]]) [0,1] (fun b => rfl) (by decide) rfl rfl (fun b => by kernel_rfl)
        ·try dsimp only at e
         subst e; exact zb hU (P4 ++ [.b (zF hq4),.o,.b (zF hq5),.o,.b (zO hq6),.o,.o,.cx (zj8 hU y0 r0 r1 r2 gb0_0 e_gb0) [0,1,2]]) [0,1] (fun b => rfl) (by decide) rfl rfl (fun b => by kernel_rfl)
       ·subst e; exact zb hU (P4 ++ [.b (zF hq4),.o,.b (zF hq5),.o,.b (zF hq6),.o]) [0,1] (fun b => rfl) (by decide) rfl rfl (fun b => by kernel_rfl)
def ziv (y0 : Insn) (r0 : Int) (r1 : Bool) (r2 : Int) (ls : List L1) : List Obj := [.cells #[.int .u8 (nn y0.fOp),.int .u8 (nn y0.fDst),.int .u8 (nn y0.fSrc),.int .i16 (ii y0.fOff),.int .i32 (ii y0.fImm)] 25,unb]
noncomputable def ziT (y0 : Insn) (r0 : Int) (r1 : Bool) (r2 : Int) (ls : List L1) : List Value := List.append [((lget ls 1).u 0),.pointer (some ⟨(lget ls 0).n,0,none⟩),.bool false,.int .i64 (r0),.bool (r1)] (List.append (jks (lget ls 1).u 5 10) (List.append [.agg #[.int .u8 (nn y0.fOp),.int .u8 (nn y0.fDst),.int .u8 (nn y0.fSrc),.int .i16 (ii y0.fOff),.int .i32 (ii y0.fImm)],.int .i64 (r2)] (jks (lget ls 1).u 17 222)))
theorem zmu (r1 : Bool) (r2 : Int) (h : zc2 y0 r0 r1 r2 = .e0) : SpcG Try.prog M B0 S (spcJ zfS (ziT y0 r0 r1 r2) (ziv y0 r0 r1 r2) 2 0 .normal (zfN y0 r0 r1 r2 .e0) (zf3 y0 r0 r1 r2 .e0)) :=
 zei hU (ziQ hU y0 r0 r1 r2 _ h) (fun _ => rfl) (fun ls h => by match ls,h with | [l0,l1],_ => exact ⟨by kernel_rfl,by kernel_rfl⟩) (fun ls h => by match ls,h with | [l0,l1],_ => rfl) (fun ls => rfl)
theorem zmn (r1 : Bool) (r2 : Int) (c1_0 : Bool) (h : zc2 y0 r0 r1 r2 = (.e1 c1_0)) : SpcG Try.prog M B0 S (spcJ zfS (ziT y0 r0 r1 r2) (ziv y0 r0 r1 r2) 2 0 .ret (zfN y0 r0 r1 r2 (.e1 c1_0)) (zf3 y0 r0 r1 r2 (.e1 c1_0))) :=
 zei hU (ziQ hU y0 r0 r1 r2 _ h) (fun _ => rfl) (fun ls h => by match ls,h with | [l0,l1],_ => exact ⟨by kernel_rfl,by kernel_rfl⟩) (fun ls h => by match ls,h with | [l0,l1],_ => rfl) (fun ls => rfl)
inductive zdx where
 | e0 (c0_0 : Bool)
noncomputable def zdA (y0 : Insn) (r0 : Int) : Bool :=
 zv (zk y0) fun rb0 =>
 bif rb0 == 6 then
 (bif r0 == 0 then
 (true)
 else (bif r0 == 8 then
 (true)
 else (bif r0 == 9 then
 (true)
 else (bif decide (13 < r0) then
 (true)
 else (false)))))
 else (bif decide (13 < r0) then
 (true)
 else (false))
noncomputable def ziJ : Code := zb6 Try.f18 [1,1,1,1,0,0]
def zpw (y0 : Insn) (r0 : Int) (ls : List L1) : List Value := [.pointer (some ⟨(lget ls 0).n,0,none⟩),.bool false,.int .i64 (r0)]
noncomputable def zp3 (y0 : Insn) (r0 : Int) : List L1 → List Value := mrgF [(0,1),(3,235)] (zpw y0 r0) 3
def zpn (y0 : Insn) (r0 : Int) (ls : List L1) : List Obj := [.cells #[.int .u8 (nn y0.fOp),.int .u8 (nn y0.fDst),.int .u8 (nn y0.fSrc),.int .i16 (ii y0.fOff),.int .i32 (ii y0.fImm)] 25,unb,unb,unb]
def zpG (y0 : Insn) (r0 : Int) : zdx → List L1 → List Value
 | .e0 c0_0,ls => [.pointer (some ⟨(lget ls 0).n,0,none⟩),.bool false,.bool (c0_0)]
def zo8 : zdx → List (Nat × Nat)
 | .e0 _ => [(0,1),(2,218),(1,17)]
noncomputable def ziN (y0 : Insn) (r0 : Int) (r : zdx) : List L1 → List Value := mrgF (zo8 r) (zpG y0 r0 r) 3
def ziS (y0 : Insn) (r0 : Int) : zdx → List L1 → List Obj
 | .e0 c0_0,ls => [.cells #[.int .u8 (nn y0.fOp),.int .u8 (nn y0.fDst),.int .u8 (nn y0.fSrc),.int .i16 (ii y0.fOff),.int .i32 (ii y0.fImm)] 25,unb,unb,unb]
def zo9 : zdx → Ex
 | .e0 _ => .normal
theorem zpR (c0_0 : Bool) (e : zdA y0 r0 = c0_0) : zdm Try.prog M B0 S ziJ 4 (zp3 y0 r0) (zpn y0 r0) (zo9 (.e0 c0_0)) 3 (ziN y0 r0 (.e0 c0_0)) (ziS y0 r0 (.e0 c0_0)) 4 := by
 unfold zdA at e
 replace e := zg e
 obtain ⟨rb0,e_rb0,e⟩ := e
 try dsimp only at e
 replace e := za e
 let P1 : List (PG Try.prog M B0 S) := [.a 0,.cg (zB hU y0 rb0 e_rb0)]
 rcases e with ⟨hq0,e⟩ | ⟨hq0,e⟩
 ·replace e := za e
  let P2 : List (PG Try.prog M B0 S) := P1 ++ [.b (zO hq0),.o,.o]
  rcases e with ⟨hq1,e⟩ | ⟨hq1,e⟩
  ·subst e; exact zb hU (P2 ++ [.b (zO hq1),.o,.o,.o,.o,.o,.o,.o]) [0,1,2] (fun b => rfl) (by decide) rfl rfl (fun b => by kernel_rfl)
  ·replace e := za e
   rcases e with ⟨hq2,e⟩ | ⟨hq2,e⟩
   ·subst e; exact zb hU (P2 ++ [.b (zF hq1),.o,.o,.b (zO hq2),.o,.o,.o,.o,.o,.o]) [0,1,2] (fun b => rfl) (by decide) rfl rfl (fun b => by kernel_rfl)
   ·replace e := za e
    let P3 : List (PG Try.prog M B0 S) := P2 ++ [.b (zF hq1),.o,.o,.b (zF hq2),.o,.o,.o]
    rcases e with ⟨hq3,e⟩ | ⟨hq3,e⟩
    ·subst e; exact zb hU (P3 ++ [.b (zO hq3),.o,.o,.o,.o]) [0,1,2] (fun b => rfl) (by decide) rfl rfl (fun b => by kernel_rfl)
    ·replace e := za e
     rcases e with ⟨hq4,e⟩ | ⟨hq4,e⟩
     ·subst e; exact zb hU (P3 ++ [.b (zF hq3),.o,.o,.o,.o,.b (zid hq4),.o]) [0,1,2] (fun b => rfl) (by decide) rfl rfl (fun b => by kernel_rfl)
     ·subst e; exact zb hU (P3 ++ [.b (zF hq3),.o,.o,.o,.o,.b (zgR hq4),.o]) [0,1,2] (fun b => rfl) (by decide) rfl rfl (fun b => by kernel_rfl)
 ·replace e := za e
  rcases e with ⟨hq1,e⟩ | ⟨hq1,e⟩
  ·subst e; exact zb hU (P1 ++ [.b (zF hq0),.o,.o,.o,.o,.b (zid hq1),.o]) [0,1,2] (fun b => rfl) (by decide) rfl rfl (fun b => by kernel_rfl)
  ·subst e; exact zb hU (P1 ++ [.b (zF hq0),.o,.o,.o,.o,.b (zgR hq1),.o]) [0,1,2] (fun b => rfl) (by decide) rfl rfl (fun b => by kernel_rfl)
def zo2 (y0 : Insn) (r0 : Int) (ls : List L1) : List Obj := [.cells #[.int .u8 (nn y0.fOp),.int .u8 (nn y0.fDst),.int .u8 (nn y0.fSrc),.int .i16 (ii y0.fOff),.int .i32 (ii y0.fImm)] 25,unb,unb]
noncomputable def zpp (y0 : Insn) (r0 : Int) (ls : List L1) : List Value := List.append [((lget ls 2).u 0),.pointer (some ⟨(lget ls 0).n,0,none⟩),.bool false,.int .i64 (r0)] (jks (lget ls 2).u 4 235)
theorem zhf (c0_0 : Bool) (h : zdA y0 r0 = c0_0) : SpcG Try.prog M B0 S (spcJ ziJ (zpp y0 r0) (zo2 y0 r0) 3 0 .normal (ziN y0 r0 (.e0 c0_0)) (ziS y0 r0 (.e0 c0_0))) :=
 zei hU (zpR hU y0 r0 c0_0 h) (fun _ => rfl) (fun ls h => by match ls,h with | [l0,l1,l2],_ => exact ⟨by kernel_rfl,by kernel_rfl⟩) (fun ls h => by match ls,h with | [l0,l1,l2],_ => rfl) (fun ls => rfl)
noncomputable def zdT (y0 : Insn) : Bool :=
 zv (zY y0) fun r0 =>
 zv (zdu y0) fun r1 =>
 zv (zk y0) fun r2 =>
 zv (zc2 y0 r0 r1 r2) fun g3 => match g3 with
 | .e0  => (zv (zdA y0 r0) fun r4 =>
 bif r4 then
 (false)
 else (bif zT y0 then
 (bif y0.fImm == 0#32 then
 (true)
 else (false))
 else ((y0.fSrc == 0#8))))
 | .e1 g3_0 => (g3_0)
end
section
variable {M : Nat → Prop} {B0 : Nat} {S : World → Prop} (hU : Up M B0 S)
include hU
theorem zfu (y0 : Insn) (r : Bool) (e : zdT y0 = r) : ConG Try.prog S 18 #[(zeP y0)] (.bool (r)) := by
 unfold zdT at e
 replace e := zg e
 obtain ⟨r0,e_r0,e⟩ := e
 try dsimp only at e
 replace e := zg e
 obtain ⟨r1,e_r1,e⟩ := e
 try dsimp only at e
 replace e := zg e
 obtain ⟨r2,e_r2,e⟩ := e
 try dsimp only at e
 replace e := zg e
 obtain ⟨g3,e_g3,e⟩ := e
 let P1 : List (PG Try.prog M B0 S) := [.o,.o,.a 0,.cg (zfL hU y0 r0 e_r0),.o,.cx (zmL hU y0 r0 r1 e_r1) [0],.a 0,.cg (zB hU y0 r2 e_r2)]
 rcases g3 with _ | ⟨g3_0⟩
 ·try dsimp only at e
  replace e := zg e
  obtain ⟨r4,e_r4,e⟩ := e
  try dsimp only at e
  replace e := za e
  let P2 : List (PG Try.prog M B0 S) := P1 ++ [.cx (zmu hU y0 r0 r1 r2  e_g3) [0,1]]
  rcases e with ⟨hq0,e⟩ | ⟨hq0,e⟩
  ·subst hq0
   subst e; exact zc hU (P := Try.prog) Try.func18 (fun xs w => by kernel_rfl) _ _ (P2 ++ [.cx (zhf hU y0 r0 true e_r4) [0,1,2],.o]) [] (fun b => by kernel_rfl)
  ·subst hq0
   replace e := za e
   let P3 : List (PG Try.prog M B0 S) := P2 ++ [.cx (zhf hU y0 r0 false e_r4) [0,1,2],.a 0]
   rcases e with ⟨hq1,e⟩ | ⟨hq1,e⟩
   ·replace e := za e
    rcases e with ⟨hq2,e⟩ | ⟨hq2,e⟩
    ·subst e; exact zc hU (P := Try.prog) Try.func18 (fun xs w => by kernel_rfl) _ _ (P3 ++ [.cg (zm hU y0 true hq1),.o,.o,.a 0,.t (i_eq y0.fImm (0#32)) hq2,.o,.o,.o,.o]) [] (fun b => by kernel_rfl)
    ·subst e; exact zc hU (P := Try.prog) Try.func18 (fun xs w => by kernel_rfl) _ _ (P3 ++ [.cg (zm hU y0 true hq1),.o,.o,.a 0,.t (i_eq y0.fImm (0#32)) hq2,.o,.o,.a 0,.cg (zm hU y0 true hq1),.o,.o,.o,.o,.o]) [] (fun b => by kernel_rfl)
   ·subst e; exact zc hU (P := Try.prog) Try.func18 (fun xs w => by kernel_rfl) _ _ (P3 ++ [.cg (zm hU y0 false hq1),.o,.o,.o,.a 0,.cg (zm hU y0 false hq1),.o,.o,.o,.a 0,.t (u_eq y0.fSrc (0#8)) rfl,.o,.o,.o]) [] (fun b => by kernel_rfl)
 ·try dsimp only at e
  subst e; exact zc hU (P := Try.prog) Try.func18 (fun xs w => by kernel_rfl) _ _ (P1 ++ [.cx (zmn hU y0 r0 r1 r2 g3_0 e_g3) [0,1]]) [] (fun b => by kernel_rfl)
end

end Go.Proofs.Ytliijnpblddjfaa


