/-
  What slots read and write: the document's.
-/
import Derived.Test.YtliijnpblddjfaaLTR
namespace Go.Proofs.Ytliijnpblddjfaa
open Go.RowKit
set_option linter.unusedVariables false
set_option linter.unusedSimpArgs false
set_option linter.unusedSectionVars false
set_option maxRecDepth 100000
set_option maxHeartbeats 4000000
def tb1 (j : Nat) : zZ := match j with
 | 0 => (⟨(⟨#[109,97,112,95,108,111,111,107,117,112]⟩ : ByteArray),(⟨2,3,0,0,0⟩ : zde),1,6,false,false⟩ : zZ)
 | 1 => (⟨(⟨#[109,97,112,95,117,112,100,97,116,101]⟩ : ByteArray),(⟨2,3,4,1,0⟩ : zde),0,6,false,false⟩ : zZ)
 | 2 => (⟨(⟨#[109,97,112,95,100,101,108,101,116,101]⟩ : ByteArray),(⟨2,3,0,0,0⟩ : zde),0,6,false,false⟩ : zZ)
 | 3 => (⟨(⟨#[99,108,111,99,107]⟩ : ByteArray),(⟨0,0,0,0,0⟩ : zde),0,0,false,false⟩ : zZ)
 | 4 => (⟨(⟨#[114,97,110,100,111,109]⟩ : ByteArray),(⟨0,0,0,0,0⟩ : zde),0,0,false,false⟩ : zZ)
 | 5 => (⟨(⟨#[116,97,105,108,95,99,97,108,108]⟩ : ByteArray),(⟨8,2,1,0,0⟩ : zde),0,8,false,false⟩ : zZ)
 | 6 => (⟨(⟨#[108,111,111,112]⟩ : ByteArray),(⟨1,9,17,0,0⟩ : zde),0,0,false,false⟩ : zZ)
 | 7 => (⟨(⟨#[114,105,110,103,95,111,117,116,112,117,116]⟩ : ByteArray),(⟨2,5,7,0,0⟩ : zde),0,16,false,false⟩ : zZ)
 | 8 => (⟨(⟨#[114,105,110,103,95,114,101,115,101,114,118,101]⟩ : ByteArray),(⟨2,1,0,0,0⟩ : zde),2,16,true,false⟩ : zZ)
 | 9 => (⟨(⟨#[114,105,110,103,95,115,117,98,109,105,116]⟩ : ByteArray),(⟨10,0,0,0,0⟩ : zde),0,0,false,true⟩ : zZ)
 | 10 => (⟨(⟨#[114,105,110,103,95,100,105,115,99,97,114,100]⟩ : ByteArray),(⟨10,0,0,0,0⟩ : zde),0,0,false,true⟩ : zZ)
 | 11 => (⟨(⟨#[114,105,110,103,95,113,117,101,114,121]⟩ : ByteArray),(⟨2,0,0,0,0⟩ : zde),0,16,false,false⟩ : zZ)
 | 12 => (⟨(⟨#[115,111,99,107,95,108,111,111,107,117,112]⟩ : ByteArray),(⟨8,5,7,0,0⟩ : zde),3,0,true,false⟩ : zZ)
 | 13 => (⟨(⟨#[115,111,99,107,95,114,101,108,101,97,115,101]⟩ : ByteArray),(⟨11,0,0,0,0⟩ : zde),0,0,false,true⟩ : zZ)
 | 14 => (⟨(⟨#[116,105,109,101,114,95,105,110,105,116]⟩ : ByteArray),(⟨12,2,0,0,0⟩ : zde),0,6,false,false⟩ : zZ)
 | 15 => (⟨(⟨#[116,105,109,101,114,95,99,97,108,108,98,97,99,107]⟩ : ByteArray),(⟨12,9,0,0,0⟩ : zde),0,0,false,false⟩ : zZ)
 | 16 => (⟨(⟨#[116,105,109,101,114,95,115,116,97,114,116]⟩ : ByteArray),(⟨12,1,0,0,0⟩ : zde),0,0,false,false⟩ : zZ)
 | 17 => (⟨(⟨#[116,105,109,101,114,95,99,97,110,99,101,108]⟩ : ByteArray),(⟨12,0,0,0,0⟩ : zde),0,0,false,false⟩ : zZ)
 | 18 => (⟨(⟨#[100,121,110,95,114,101,115,101,114,118,101]⟩ : ByteArray),(⟨2,1,13,0,0⟩ : zde),0,16,true,false⟩ : zZ)
 | 19 => (⟨(⟨#[100,121,110,95,115,117,98,109,105,116]⟩ : ByteArray),(⟨14,0,0,0,0⟩ : zde),0,0,false,true⟩ : zZ)
 | 20 => (⟨(⟨#[100,121,110,95,100,105,115,99,97,114,100]⟩ : ByteArray),(⟨14,0,0,0,0⟩ : zde),0,0,false,true⟩ : zZ)
 | 21 => (⟨(⟨#[100,121,110,95,109,101,109]⟩ : ByteArray),(⟨5,7,13,0,0⟩ : zde),0,0,false,false⟩ : zZ)
 | 22 => (⟨(⟨#[100,121,110,95,114,101,97,100]⟩ : ByteArray),(⟨6,7,14,1,0⟩ : zde),0,0,false,false⟩ : zZ)
 | 23 => (⟨(⟨#[100,121,110,95,119,114,105,116,101]⟩ : ByteArray),(⟨14,1,5,7,0⟩ : zde),0,0,false,false⟩ : zZ)
 | 24 => (⟨(⟨#[100,121,110,95,100,97,116,97]⟩ : ByteArray),(⟨14,1,1,0,0⟩ : zde),4,0,false,false⟩ : zZ)
 | 25 => (⟨(⟨#[105,116,101,114,95,110,101,119]⟩ : ByteArray),(⟨15,1,1,0,0⟩ : zde),0,0,true,false⟩ : zZ)
 | 26 => (⟨(⟨#[105,116,101,114,95,110,101,120,116]⟩ : ByteArray),(⟨16,0,0,0,0⟩ : zde),5,0,false,false⟩ : zZ)
 | 27 => (⟨(⟨#[105,116,101,114,95,100,114,111,112]⟩ : ByteArray),(⟨16,0,0,0,0⟩ : zde),0,0,false,true⟩ : zZ)
 | _ => (⟨(⟨#[105,116,101,114,95,100,114,111,112]⟩ : ByteArray),(⟨16,0,0,0,0⟩ : zde),0,0,false,true⟩ : zZ)
noncomputable def zl (y0 : BitVec 8) : BitVec 16 :=
 (1#16 <<< (y0).toNat)
section
variable {M : Nat → Prop} {B0 : Nat} {S : World → Prop} (hU : Up M B0 S)
include hU
theorem zq (y0 : BitVec 8) (r : BitVec 16) (e : zl y0 = r) : ConG Try.prog S 22 #[.int .u8 (nn y0)] (.int .u16 (nn r)) := by
 unfold zl at e
 subst e; exact zc hU (P := Try.prog) Try.func22 (fun xs w => by kernel_rfl) _ _ [.o,.o,.ov (zwX Try.prog 27 (.const (.int .u16 (1))) (.tmp 3) (1#16) (y0).toNat .u8 rfl),.o] [] (fun b => by kernel_rfl)
noncomputable def zes (y0 : Int) : Option ((zZ) × (Int)) :=
 bif decide (y0 < 1) then
 (some ((⟨(⟨#[]⟩ : ByteArray),(⟨0,0,0,0,0⟩ : zde),0,0,false,false⟩ : zZ),130))
 else (bif decide (28 < y0) then
 (some ((⟨(⟨#[]⟩ : ByteArray),(⟨0,0,0,0,0⟩ : zde),0,0,false,false⟩ : zZ),130))
 else (bif inR (IntKind.i64.wrap (y0 - 1)) 28 then
 (some ((⟨((tb1 ((IntKind.i64.wrap (y0 - 1))).toNat)).fName,(((tb1 ((IntKind.i64.wrap (y0 - 1))).toNat)).fArgs),((tb1 ((IntKind.i64.wrap (y0 - 1))).toNat)).fRet,((tb1 ((IntKind.i64.wrap (y0 - 1))).toNat)).fMaps,((tb1 ((IntKind.i64.wrap (y0 - 1))).toNat)).fAcquire,((tb1 ((IntKind.i64.wrap (y0 - 1))).toNat)).fRelease⟩ : zZ),0))
 else (none)))
theorem znU (y0 : Int) (r : (zZ) × (Int)) (e : zes y0 = some r) : ConG Try.prog S 24 #[.int .i64 (y0)] (vt3 r) := by
 unfold zes at e
 replace e := za e
 let P1 : List (PG Try.prog M B0 S) := (List.append (α := PG Try.prog M B0 S) [.o,.o,.o,.o,.o,.o,.o,.o,.o,.o,.o,.o,.o,.o,.o,.o,.o,.o,.o,.o,.o,.o,.o,.o,.o,.o,.o,.o,.o,.o,.o,.o,.o,.o,.o,.o,.o,.o,.o,.o,.o,.o,.o,.o,.o,.o,.o,.o,.o,.o,.o,.o,.o,.o,.o,.o,.o,.o,.o,.o] [.o,.o,.o,.o,.o,.o,.o,.o,.a 1,.o])
 rcases e with ⟨hq0,e⟩ | ⟨hq0,e⟩
 ·injection e with e; subst e; exact zc hU (P := Try.prog) Try.func24 (fun xs w => by kernel_rfl) _ _ (P1 ++ [.b (zcR hq0),.o,.o,.o,.a 0,.o]) [0,0,0,0,0,0,0,0,0,0] (fun b => by kernel_rfl)
 ·replace e := za e
  rcases e with ⟨hq1,e⟩ | ⟨hq1,e⟩
  ·injection e with e; subst e; exact zc hU (P := Try.prog) Try.func24 (fun xs w => by kernel_rfl) _ _ (P1 ++ [.b (zb7 hq0),.o,.o,.b (zid hq1),.o,.o,.a 0,.o]) [0,0,0,0,0,0,0,0,0,0] (fun b => by kernel_rfl)
  ·replace e := za e
   rcases e with ⟨hq2,e⟩ | ⟨hq2,e⟩
   ·injection e with e; subst e; exact zc hU (P := Try.prog) Try.func24 (fun xs w => by kernel_rfl) _ _ (P1 ++ [.b (zb7 hq0),.o,.o,.b (zgR hq1),.o,.o,.o,.q (zxS (kd := .i64) (T := 70) (x := (IntKind.i64.wrap (y0 - 1))) (sz := 10) (N := 28) rfl rfl (fun w => by kernel_rfl) hq2),.l (accF (i := 1) (f := zBm) (A := tb1) (k := ((IntKind.i64.wrap (y0 - 1))).toNat) 0 [.string ((tb1 ((IntKind.i64.wrap (y0 - 1))).toNat)).fName,.int .i64 ((((tb1 ((IntKind.i64.wrap (y0 - 1))).toNat)).fArgs).x0),.int .i64 ((((tb1 ((IntKind.i64.wrap (y0 - 1))).toNat)).fArgs).x1),.int .i64 ((((tb1 ((IntKind.i64.wrap (y0 - 1))).toNat)).fArgs).x2),.int .i64 ((((tb1 ((IntKind.i64.wrap (y0 - 1))).toNat)).fArgs).x3),.int .i64 ((((tb1 ((IntKind.i64.wrap (y0 - 1))).toNat)).fArgs).x4),.int .i64 (((tb1 ((IntKind.i64.wrap (y0 - 1))).toNat)).fRet),.int .i64 (((tb1 ((IntKind.i64.wrap (y0 - 1))).toNat)).fMaps),.bool (((tb1 ((IntKind.i64.wrap (y0 - 1))).toNat)).fAcquire),.bool (((tb1 ((IntKind.i64.wrap (y0 - 1))).toNat)).fRelease)] zzJ (ze hq2) rfl),.a 0,.o]) [0,0,0,0,0,0,0,0,0,0] (fun b => by kernel_rfl)
   ·exact zd e
noncomputable def zz (y0 : zZ) : Int :=
 bif y0.fArgs.x0 == 0 then
 (0)
 else (bif y0.fArgs.x1 == 0 then
 (1)
 else (bif y0.fArgs.x2 == 0 then
 (2)
 else (bif y0.fArgs.x3 == 0 then
 (3)
 else (bif y0.fArgs.x4 == 0 then
 (4)
 else (5)))))
theorem zjF (y0 : zZ) (r : Int) (e : zz y0 = r) : ConG Try.prog S 25 #[(zvj y0)] (.int .i64 (r)) := by
 unfold zz at e
 replace e := za e
 let P1 : List (PG Try.prog M B0 S) := [.o,.o,.o,.o,.o,.o,.o,.o,.o,.a 0]
 rcases e with ⟨hq0,e⟩ | ⟨hq0,e⟩
 ·subst e; exact zc hU (P := Try.prog) Try.func25 (fun xs w => by kernel_rfl) _ _ (P1 ++ [.b (zdq hq0),.o,.o,.o]) [] (fun b => by kernel_rfl)
 ·replace e := za e
  let P2 : List (PG Try.prog M B0 S) := P1 ++ [.b (zdU hq0),.o,.o,.o,.o,.o,.o,.o,.o,.o,.o,.a 0]
  rcases e with ⟨hq1,e⟩ | ⟨hq1,e⟩
  ·subst e; exact zc hU (P := Try.prog) Try.func25 (fun xs w => by kernel_rfl) _ _ (P2 ++ [.b (zdq hq1),.o,.o,.o]) [] (fun b => by kernel_rfl)
  ·replace e := za e
   let P3 : List (PG Try.prog M B0 S) := P2 ++ [.b (zdU hq1),.o,.o,.o,.o,.o,.o,.o,.o,.o,.o,.a 0]
   rcases e with ⟨hq2,e⟩ | ⟨hq2,e⟩
   ·subst e; exact zc hU (P := Try.prog) Try.func25 (fun xs w => by kernel_rfl) _ _ (P3 ++ [.b (zdq hq2),.o,.o,.o]) [] (fun b => by kernel_rfl)
   ·replace e := za e
    let P4 : List (PG Try.prog M B0 S) := P3 ++ [.b (zdU hq2),.o,.o,.o,.o,.o,.o,.o,.o,.o,.o,.a 0]
    rcases e with ⟨hq3,e⟩ | ⟨hq3,e⟩
    ·subst e; exact zc hU (P := Try.prog) Try.func25 (fun xs w => by kernel_rfl) _ _ (P4 ++ [.b (zdq hq3),.o,.o,.o]) [] (fun b => by kernel_rfl)
    ·replace e := za e
     rcases e with ⟨hq4,e⟩ | ⟨hq4,e⟩
     ·subst e; exact zc hU (P := Try.prog) Try.func25 (fun xs w => by kernel_rfl) _ _ (P4 ++ [.b (zdU hq3),.o,.o,.o,.o,.o,.o,.o,.o,.o,.o,.a 0,.b (zdq hq4),.o,.o,.o]) [] (fun b => by kernel_rfl)
     ·subst e; exact zc hU (P := Try.prog) Try.func25 (fun xs w => by kernel_rfl) _ _ (P4 ++ [.b (zdU hq3),.o,.o,.o,.o,.o,.o,.o,.o,.o,.o,.a 0,.b (zdU hq4),.o,.o,.o,.o,.o,.o,.o,.o,.o,.o]) [] (fun b => by kernel_rfl)
noncomputable def zcD (y0 : Insn) : Option ((BitVec 16) × (Bool)) :=
 bif zdT y0 then
 (bif BitVec.ult (10#8) y0.fDst then
 (some (0#16,false))
 else (bif BitVec.ult (10#8) y0.fSrc then
 (some (0#16,false))
 else (zv (zY y0) fun r0 =>
 bif zT y0 then
 (zv (zk y0) fun r1 =>
 bif r1 == 0 then
 (some (0#16,true))
 else (bif r1 == 1 then
 (zv (zl y0.fSrc) fun r2 =>
 some (r2,true))
 else (bif r1 == 2 then
 (zv (zl y0.fDst) fun r2 =>
 some (r2,true))
 else (bif r1 == 3 then
 (zv (zl y0.fDst) fun r2 =>
 zv (zl y0.fSrc) fun r3 =>
 some ((r2 ||| r3),true))
 else (bif r1 == 4 then
 (bif r0 == 11 then
 (bif r0 == 13 then
 (some (0#16,true))
 else (zv (zl y0.fSrc) fun r2 =>
 some ((0#16 ||| r2),true)))
 else (zv (zl y0.fDst) fun r2 =>
 bif r0 == 13 then
 (some (r2,true))
 else (zv (zl y0.fSrc) fun r3 =>
 some ((r2 ||| r3),true))))
 else (bif r1 == 7 then
 (bif r0 == 11 then
 (bif r0 == 13 then
 (some (0#16,true))
 else (zv (zl y0.fSrc) fun r2 =>
 some ((0#16 ||| r2),true)))
 else (zv (zl y0.fDst) fun r2 =>
 bif r0 == 13 then
 (some (r2,true))
 else (zv (zl y0.fSrc) fun r3 =>
 some ((r2 ||| r3),true))))
 else (bif zbj y0 then
 (zv (zl y0.fDst) fun r2 =>
 zv (zl y0.fSrc) fun r3 =>
 some ((r2 ||| r3),true))
 else (bif r0 == 9 then
 (some (1#16,true))
 else (bif r0 == 8 then
 (bif y0.fSrc == 1#8 then
 (some (62#16,true))
 else ((zes (ii y0.fImm)).bind fun r2 =>
 bif r2.2 == 0 then
 (zv (zz r2.1) fun r3 =>
 bif decide (0 ≤ (IntKind.i64.wrap (r3 + 1))) then
 (some (((1#16 <<< ((IntKind.i64.wrap (r3 + 1))).toNat) - 2#16),true))
 else (none))
 else (some (0#16,true))))
 else (some (0#16,true)))))))))))
 else (zv (zk y0) fun r1 =>
 bif r1 == 0 then
 (some (0#16,true))
 else (bif r1 == 1 then
 (zv (zl y0.fSrc) fun r2 =>
 some (r2,true))
 else (bif r1 == 2 then
 (zv (zl y0.fDst) fun r2 =>
 some (r2,true))
 else (bif r1 == 3 then
 (zv (zl y0.fDst) fun r2 =>
 zv (zl y0.fSrc) fun r3 =>
 some ((r2 ||| r3),true))
 else (bif r1 == 4 then
 (bif r0 == 11 then
 (some (0#16,true))
 else (zv (zl y0.fDst) fun r2 =>
 some (r2,true)))
 else (bif r1 == 7 then
 (bif r0 == 11 then
 (some (0#16,true))
 else (zv (zl y0.fDst) fun r2 =>
 some (r2,true)))
 else (bif zbj y0 then
 (zv (zl y0.fDst) fun r2 =>
 some (r2,true))
 else (bif r0 == 9 then
 (some (1#16,true))
 else (bif r0 == 8 then
 (bif y0.fSrc == 1#8 then
 (some (62#16,true))
 else ((zes (ii y0.fImm)).bind fun r2 =>
 bif r2.2 == 0 then
 (zv (zz r2.1) fun r3 =>
 bif decide (0 ≤ (IntKind.i64.wrap (r3 + 1))) then
 (some (((1#16 <<< ((IntKind.i64.wrap (r3 + 1))).toNat) - 2#16),true))
 else (none))
 else (some (0#16,true))))
 else (some (0#16,true))))))))))))))
 else (some (0#16,false))
end
section
variable {M : Nat → Prop} {B0 : Nat} {S : World → Prop} (hU : Up M B0 S) (y0 : Insn) (r : (BitVec 16) × (Bool))
include hU y0 r
theorem zg4 (e : zcD y0 = some r) : ConG Try.prog S 6 #[(zeP y0)] (vt5 r) := by
 unfold zcD at e
 replace e := za e
 let P1 : List (PG Try.prog M B0 S) := [.o,.o,.o,.a 0]
 rcases e with ⟨hq0,e⟩ | ⟨hq0,e⟩
 ·replace e := za e
  let P2 : List (PG Try.prog M B0 S) := P1 ++ [.cg (zfu hU y0 true hq0),.o,.o,.o,.a 0]
  rcases e with ⟨hq1,e⟩ | ⟨hq1,e⟩
  ·injection e with e; subst e; exact zc hU (P := Try.prog) Try.func6 (fun xs w => by kernel_rfl) _ _ (P2 ++ [.t (u_gt y0.fDst (10#8)) hq1,.o,.o,.o,.o,.o]) [] (fun b => by kernel_rfl)
  ·replace e := za e
   let P3 : List (PG Try.prog M B0 S) := P2 ++ [.t (u_gt y0.fDst (10#8)) hq1,.o,.o,.o,.a 0]
   rcases e with ⟨hq2,e⟩ | ⟨hq2,e⟩
   ·injection e with e; subst e; exact zc hU (P := Try.prog) Try.func6 (fun xs w => by kernel_rfl) _ _ (P3 ++ [.t (u_gt y0.fSrc (10#8)) hq2,.o,.o,.o]) [] (fun b => by kernel_rfl)
   ·replace e := zg e
    obtain ⟨r0,e_r0,e⟩ := e
    try dsimp only at e
    replace e := za e
    let P4 : List (PG Try.prog M B0 S) := P3 ++ [.t (u_gt y0.fSrc (10#8)) hq2,.o,.a 0,.cg (zfL hU y0 r0 e_r0),.o,.a 0]
    rcases e with ⟨hq3,e⟩ | ⟨hq3,e⟩
    ·replace e := zg e
     obtain ⟨r1,e_r1,e⟩ := e
     try dsimp only at e
     replace e := za e
     let P5 : List (PG Try.prog M B0 S) := P4 ++ [.cg (zm hU y0 true hq3),.o,.a 0,.cg (zB hU y0 r1 e_r1)]
     rcases e with ⟨hq4,e⟩ | ⟨hq4,e⟩
     ·injection e with e; subst e; exact zc hU (P := Try.prog) Try.func6 (fun xs w => by kernel_rfl) _ _ (P5 ++ [.b (zO hq4),.o,.o,.o]) [] (fun b => by kernel_rfl)
     ·replace e := za e
      let P6 : List (PG Try.prog M B0 S) := P5 ++ [.b (zF hq4),.o]
      rcases e with ⟨hq5,e⟩ | ⟨hq5,e⟩
      ·replace e := zg e
       obtain ⟨r2,e_r2,e⟩ := e
       try dsimp only at e
       injection e with e; subst e; exact zc hU (P := Try.prog) Try.func6 (fun xs w => by kernel_rfl) _ _ (P6 ++ [.b (zO hq5),.o,.o,.a 0,.cg (zq hU y0.fSrc r2 e_r2),.o,.o]) [] (fun b => by kernel_rfl)
      ·replace e := za e
       let P7 : List (PG Try.prog M B0 S) := P6 ++ [.b (zF hq5),.o]
       rcases e with ⟨hq6,e⟩ | ⟨hq6,e⟩
       ·replace e := zg e
        obtain ⟨r2,e_r2,e⟩ := e
        try dsimp only at e
        injection e with e; subst e; exact zc hU (P := Try.prog) Try.func6 (fun xs w => by kernel_rfl) _ _ (P7 ++ [.b (zO hq6),.o,.o,.a 0,.cg (zq hU y0.fDst r2 e_r2),.o,.o]) [] (fun b => by kernel_rfl)
       ·replace e := za e
        let P8 : List (PG Try.prog M B0 S) := P7 ++ [.b (zF hq6),.o]
        rcases e with ⟨hq7,e⟩ | ⟨hq7,e⟩
        ·replace e := zg e
         obtain ⟨r2,e_r2,e⟩ := e
         try dsimp only at e
         replace e := zg e
         obtain ⟨r3,e_r3,e⟩ := e
         try dsimp only at e
         injection e with e; subst e; exact zc hU (P := Try.prog) Try.func6 (fun xs w => by kernel_rfl) _ _ (P8 ++ [.b (zO hq7),.o,.r [0,1,2,3,4,5,6,7,8] [] [],.o,.a 0,.cg (zq hU y0.fDst r2 e_r2),.o,.a 0,.cg (zq hU y0.fSrc r3 e_r3),.v .u16 (zml r2 r3),.o,.o]) [] (fun b => by kernel_rfl)
        ·replace e := za e
         let P9 : List (PG Try.prog M B0 S) := P8 ++ [.b (zF hq7),.o]
         rcases e with ⟨hq8,e⟩ | ⟨hq8,e⟩
         ·replace e := za e
          rcases e with ⟨hq9,e⟩ | ⟨hq9,e⟩
          ·replace e := za e
           rcases e with ⟨hq10,e⟩ | ⟨hq10,e⟩
           ·injection e with e; subst e; exact zc hU (P := Try.prog) Try.func6 (fun xs w => by kernel_rfl) _ _ (P9 ++ [.b (zO hq8),.o,.o,.o,.b (zdq hq9),.o,.o,.o,.b (zdq hq10),.o,.o,.o,.o]) [] (fun b => by kernel_rfl)
           ·replace e := zg e
            obtain ⟨r2,e_r2,e⟩ := e
            try dsimp only at e
            injection e with e; subst e; exact zc hU (P := Try.prog) Try.func6 (fun xs w => by kernel_rfl) _ _ (P9 ++ [.b (zO hq8),.o,.o,.o,.b (zdq hq9),.o,.o,.o,.b (zdU hq10),.o,.o,.o,.a 0,.cg (zq hU y0.fSrc r2 e_r2),.v .u16 (zml (0#16) r2),.o,.o,.o,.o]) [] (fun b => by kernel_rfl)
          ·replace e := zg e
           obtain ⟨r2,e_r2,e⟩ := e
           try dsimp only at e
           replace e := za e
           let P10 : List (PG Try.prog M B0 S) := P9 ++ [.b (zO hq8),.o,.o,.o,.b (zdU hq9),.o,.a 0,.cg (zq hU y0.fDst r2 e_r2),.o,.o,.o,.o]
           rcases e with ⟨hq10,e⟩ | ⟨hq10,e⟩
           ·injection e with e; subst e; exact zc hU (P := Try.prog) Try.func6 (fun xs w => by kernel_rfl) _ _ (P10 ++ [.b (zdq hq10),.o,.o,.o,.o]) [] (fun b => by kernel_rfl)
           ·replace e := zg e
            obtain ⟨r3,e_r3,e⟩ := e
            try dsimp only at e
            injection e with e; subst e; exact zc hU (P := Try.prog) Try.func6 (fun xs w => by kernel_rfl) _ _ (P10 ++ [.b (zdU hq10),.o,.o,.o,.a 0,.cg (zq hU y0.fSrc r3 e_r3),.v .u16 (zml r2 r3),.o,.o,.o,.o]) [] (fun b => by kernel_rfl)
         ·replace e := za e
          let P11 : List (PG Try.prog M B0 S) := P9 ++ [.b (zF hq8),.o]
          rcases e with ⟨hq9,e⟩ | ⟨hq9,e⟩
          ·replace e := za e
           rcases e with ⟨hq10,e⟩ | ⟨hq10,e⟩
           ·replace e := za e
            rcases e with ⟨hq11,e⟩ | ⟨hq11,e⟩
            ·injection e with e; subst e; exact zc hU (P := Try.prog) Try.func6 (fun xs w => by kernel_rfl) _ _ (P11 ++ [.b (zO hq9),.o,.o,.o,.b (zdq hq10),.o,.o,.o,.b (zdq hq11),.o,.o,.o,.o]) [] (fun b => by kernel_rfl)
            ·replace e := zg e
             obtain ⟨r2,e_r2,e⟩ := e
             try dsimp only at e
             injection e with e; subst e; exact zc hU (P := Try.prog) Try.func6 (fun xs w => by kernel_rfl) _ _ (P11 ++ [.b (zO hq9),.o,.o,.o,.b (zdq hq10),.o,.o,.o,.b (zdU hq11),.o,.o,.o,.a 0,.cg (zq hU y0.fSrc r2 e_r2),.v .u16 (zml (0#16) r2),.o,.o,.o,.o]) [] (fun b => by kernel_rfl)
           ·replace e := zg e
            obtain ⟨r2,e_r2,e⟩ := e
            try dsimp only at e
            replace e := za e
            let P12 : List (PG Try.prog M B0 S) := P11 ++ [.b (zO hq9),.o,.o,.o,.b (zdU hq10),.o,.a 0,.cg (zq hU y0.fDst r2 e_r2),.o,.o,.o,.o]
            rcases e with ⟨hq11,e⟩ | ⟨hq11,e⟩
            ·injection e with e; subst e; exact zc hU (P := Try.prog) Try.func6 (fun xs w => by kernel_rfl) _ _ (P12 ++ [.b (zdq hq11),.o,.o,.o,.o]) [] (fun b => by kernel_rfl)
            ·replace e := zg e
             obtain ⟨r3,e_r3,e⟩ := e
             try dsimp only at e
             injection e with e; subst e; exact zc hU (P := Try.prog) Try.func6 (fun xs w => by kernel_rfl) _ _ (P12 ++ [.b (zdU hq11),.o,.o,.o,.a 0,.cg (zq hU y0.fSrc r3 e_r3),.v .u16 (zml r2 r3),.o,.o,.o,.o]) [] (fun b => by kernel_rfl)
          ·replace e := za e
           let P13 : List (PG Try.prog M B0 S) := P11 ++ [.b (zF hq9),.o,.a 0]
           rcases e with ⟨hq10,e⟩ | ⟨hq10,e⟩
           ·replace e := zg e
            obtain ⟨r2,e_r2,e⟩ := e
            try dsimp only at e
            replace e := zg e
            obtain ⟨r3,e_r3,e⟩ := e
            try dsimp only at e
            injection e with e; subst e; exact zc hU (P := Try.prog) Try.func6 (fun xs w => by kernel_rfl) _ _ (P13 ++ [.cg (zbb hU y0 true hq10),.o,.o,.a 0,.cg (zq hU y0.fDst r2 e_r2),.o,.o,.o,.o,.a 0,.cg (zq hU y0.fSrc r3 e_r3),.v .u16 (zml r2 r3),.o,.o,.o,.o]) [] (fun b => by kernel_rfl)
           ·replace e := za e
            let P14 : List (PG Try.prog M B0 S) := P13 ++ [.cg (zbb hU y0 false hq10),.o,.o]
            rcases e with ⟨hq11,e⟩ | ⟨hq11,e⟩
            ·injection e with e; subst e; exact zc hU (P := Try.prog) Try.func6 (fun xs w => by kernel_rfl) _ _ (P14 ++ [.b (zO hq11),.o,.o,.o]) [] (fun b => by kernel_rfl)
            ·replace e := za e
             rcases e with ⟨hq12,e⟩ | ⟨hq12,e⟩
             ·replace e := za e
              let P15 : List (PG Try.prog M B0 S) := P14 ++ [.b (zF hq11),.o,.o,.b (zO hq12),.o,.o,.a 0]
              rcases e with ⟨hq13,e⟩ | ⟨hq13,e⟩
              ·injection e with e; subst e; exact zc hU (P := Try.prog) Try.func6 (fun xs w => by kernel_rfl) _ _ (P15 ++ [.t (u_eq y0.fSrc (1#8)) hq13,.o,.o,.o,.o]) [] (fun b => by kernel_rfl)
              ·replace e := zf e
               obtain ⟨r2,e_r2,e⟩ := e
               try dsimp only at e
               replace e := za e
               let P16 : List (PG Try.prog M B0 S) := P15 ++ [.t (u_eq y0.fSrc (1#8)) hq13,.o,.o,.o,.b (zO hq12),.o,.o,.a 0,.v .i64 (zdW (by decide) y0.fImm),.cg (znU hU (ii y0.fImm) r2 e_r2),.o,.o,.o,.o,.a 1,.o,.o]
               rcases e with ⟨hq14,e⟩ | ⟨hq14,e⟩
               ·replace e := zg e
                obtain ⟨r3,e_r3,e⟩ := e
                try dsimp only at e
                replace e := za e
                rcases e with ⟨hq15,e⟩ | ⟨hq15,e⟩
                ·injection e with e; subst e; exact zc hU (P := Try.prog) Try.func6 (fun xs w => by kernel_rfl) _ _ (P16 ++ [.b (zdq hq14),.a 1,.cg (zjF hU r2.1 r3 e_r3),.o,.ov (zwX Try.prog 27 (.const (.int .u16 (1))) (.tmp 107) (1#16) ((IntKind.i64.wrap (r3 + 1))).toNat .i64 (zCz hq15)),.v .u16 (zBs (1#16 <<< ((IntKind.i64.wrap (r3 + 1))).toNat) (2#16)),.o,.o]) [] (fun b => by kernel_rfl)
                ·exact zd e
               ·injection e with e; subst e; exact zc hU (P := Try.prog) Try.func6 (fun xs w => by kernel_rfl) _ _ (P16 ++ [.b (zdU hq14),.o,.o]) [] (fun b => by kernel_rfl)
             ·injection e with e; subst e; exact zc hU (P := Try.prog) Try.func6 (fun xs w => by kernel_rfl) _ _ (P14 ++ [.b (zF hq11),.o,.o,.b (zF hq12),.o,.o,.o,.o,.b (zF hq12),.o,.o,.o]) [] (fun b => by kernel_rfl)
    ·replace e := zg e
     obtain ⟨r1,e_r1,e⟩ := e
     try dsimp only at e
     replace e := za e
     let P17 : List (PG Try.prog M B0 S) := P4 ++ [.cg (zm hU y0 false hq3),.o,.a 0,.cg (zB hU y0 r1 e_r1)]
     rcases e with ⟨hq4,e⟩ | ⟨hq4,e⟩
     ·injection e with e; subst e; exact zc hU (P := Try.prog) Try.func6 (fun xs w => by kernel_rfl) _ _ (P17 ++ [.b (zO hq4),.o,.o,.o]) [] (fun b => by kernel_rfl)
     ·replace e := za e
      let P18 : List (PG Try.prog M B0 S) := P17 ++ [.b (zF hq4),.o]
      rcases e with ⟨hq5,e⟩ | ⟨hq5,e⟩
      ·replace e := zg e
       obtain ⟨r2,e_r2,e⟩ := e
       try dsimp only at e
       injection e with e; subst e; exact zc hU (P := Try.prog) Try.func6 (fun xs w => by kernel_rfl) _ _ (P18 ++ [.b (zO hq5),.o,.o,.a 0,.cg (zq hU y0.fSrc r2 e_r2),.o,.o]) [] (fun b => by kernel_rfl)
      ·replace e := za e
       let P19 : List (PG Try.prog M B0 S) := P18 ++ [.b (zF hq5),.o]
       rcases e with ⟨hq6,e⟩ | ⟨hq6,e⟩
       ·replace e := zg e
        obtain ⟨r2,e_r2,e⟩ := e
        try dsimp only at e
        injection e with e; subst e; exact zc hU (P := Try.prog) Try.func6 (fun xs w => by kernel_rfl) _ _ (P19 ++ [.b (zO hq6),.o,.o,.a 0,.cg (zq hU y0.fDst r2 e_r2),.o,.o]) [] (fun b => by kernel_rfl)
       ·replace e := za e
        let P20 : List (PG Try.prog M B0 S) := P19 ++ [.b (zF hq6),.o]
        rcases e with ⟨hq7,e⟩ | ⟨hq7,e⟩
        ·replace e := zg e
         obtain ⟨r2,e_r2,e⟩ := e
         try dsimp only at e
         replace e := zg e
         obtain ⟨r3,e_r3,e⟩ := e
         try dsimp only at e
         injection e with e; subst e; exact zc hU (P := Try.prog) Try.func6 (fun xs w => by kernel_rfl) _ _ (P20 ++ [.b (zO hq7),.o,.r [0,1,2,3,4,5,6,7,8] [] [],.o,.a 0,.cg (zq hU y0.fDst r2 e_r2),.o,.a 0,.cg (zq hU y0.fSrc r3 e_r3),.v .u16 (zml r2 r3),.o,.o]) [] (fun b => by kernel_rfl)
        ·replace e := za e
         let P21 : List (PG Try.prog M B0 S) := P20 ++ [.b (zF hq7),.o]
         rcases e with ⟨hq8,e⟩ | ⟨hq8,e⟩
         ·replace e := za e
          rcases e with ⟨hq9,e⟩ | ⟨hq9,e⟩
          ·injection e with e; subst e; exact zc hU (P := Try.prog) Try.func6 (fun xs w => by kernel_rfl) _ _ (P21 ++ [.b (zO hq8),.o,.o,.o,.b (zdq hq9),.o,.o,.o,.o,.o,.o]) [] (fun b => by kernel_rfl)
          ·replace e := zg e
           obtain ⟨r2,e_r2,e⟩ := e
           try dsimp only at e
           injection e with e; subst e; exact zc hU (P := Try.prog) Try.func6 (fun xs w => by kernel_rfl) _ _ (P21 ++ [.b (zO hq8),.o,.o,.o,.b (zdU hq9),.o,.a 0,.cg (zq hU y0.fDst r2 e_r2),.o,.o,.o,.o,.o,.o,.o]) [] (fun b => by kernel_rfl)
         ·replace e := za e
          let P22 : List (PG Try.prog M B0 S) := P21 ++ [.b (zF hq8),.o]
          rcases e with ⟨hq9,e⟩ | ⟨hq9,e⟩
          ·replace e := za e
           rcases e with ⟨hq10,e⟩ | ⟨hq10,e⟩
           ·injection e with e; subst e; exact zc hU (P := Try.prog) Try.func6 (fun xs w => by kernel_rfl) _ _ (P22 ++ [.b (zO hq9),.o,.o,.o,.b (zdq hq10),.o,.o,.o,.o,.o,.o]) [] (fun b => by kernel_rfl)
           ·replace e := zg e
            obtain ⟨r2,e_r2,e⟩ := e
            try dsimp only at e
            injection e with e; subst e; exact zc hU (P := Try.prog) Try.func6 (fun xs w => by kernel_rfl) _ _ (P22 ++ [.b (zO hq9),.o,.o,.o,.b (zdU hq10),.o,.a 0,.cg (zq hU y0.fDst r2 e_r2),.o,.o,.o,.o,.o,.o,.o]) [] (fun b => by kernel_rfl)
          ·replace e := za e
           let P23 : List (PG Try.prog M B0 S) := P22 ++ [.b (zF hq9),.o,.a 0]
           rcases e with ⟨hq10,e⟩ | ⟨hq10,e⟩
           ·replace e := zg e
            obtain ⟨r2,e_r2,e⟩ := e
            try dsimp only at e
            injection e with e; subst e; exact zc hU (P := Try.prog) Try.func6 (fun xs w => by kernel_rfl) _ _ (P23 ++ [.cg (zbb hU y0 true hq10),.o,.o,.a 0,.cg (zq hU y0.fDst r2 e_r2),.o,.o,.o,.o,.o]) [] (fun b => by kernel_rfl)
           ·replace e := za e
            let P24 : List (PG Try.prog M B0 S) := P23 ++ [.cg (zbb hU y0 false hq10),.o,.o]
            rcases e with ⟨hq11,e⟩ | ⟨hq11,e⟩
            ·injection e with e; subst e; exact zc hU (P := Try.prog) Try.func6 (fun xs w => by kernel_rfl) _ _ (P24 ++ [.b (zO hq11),.o,.o,.o]) [] (fun b => by kernel_rfl)
            ·replace e := za e
             rcases e with ⟨hq12,e⟩ | ⟨hq12,e⟩
             ·replace e := za e
              let P25 : List (PG Try.prog M B0 S) := P24 ++ [.b (zF hq11),.o,.o,.b (zO hq12),.o,.o,.a 0]
              rcases e with ⟨hq13,e⟩ | ⟨hq13,e⟩
              ·injection e with e; subst e; exact zc hU (P := Try.prog) Try.func6 (fun xs w => by kernel_rfl) _ _ (P25 ++ [.t (u_eq y0.fSrc (1#8)) hq13,.o,.o,.o,.o]) [] (fun b => by kernel_rfl)
              ·replace e := zf e
               obtain ⟨r2,e_r2,e⟩ := e
               try dsimp only at e
               replace e := za e
               let P26 : List (PG Try.prog M B0 S) := P25 ++ [.t (u_eq y0.fSrc (1#8)) hq13,.o,.o,.o,.b (zO hq12),.o,.o,.a 0,.v .i64 (zdW (by decide) y0.fImm),.cg (znU hU (ii y0.fImm) r2 e_r2),.o,.o,.o,.o,.a 1,.o,.o]
               rcases e with ⟨hq14,e⟩ | ⟨hq14,e⟩
               ·replace e := zg e
                obtain ⟨r3,e_r3,e⟩ := e
                try dsimp only at e
                replace e := za e
                rcases e with ⟨hq15,e⟩ | ⟨hq15,e⟩
                ·injection e with e; subst e; exact zc hU (P := Try.prog) Try.func6 (fun xs w => by kernel_rfl) _ _ (P26 ++ [.b (zdq hq14),.a 1,.cg (zjF hU r2.1 r3 e_r3),.o,.ov (zwX Try.prog 27 (.const (.int .u16 (1))) (.tmp 107) (1#16) ((IntKind.i64.wrap (r3 + 1))).toNat .i64 (zCz hq15)),.v .u16 (zBs (1#16 <<< ((IntKind.i64.wrap (r3 + 1))).toNat) (2#16)),.o,.o]) [] (fun b => by kernel_rfl)
                ·exact zd e
               ·injection e with e; subst e; exact zc hU (P := Try.prog) Try.func6 (fun xs w => by kernel_rfl) _ _ (P26 ++ [.b (zdU hq14),.o,.o]) [] (fun b => by kernel_rfl)
             ·injection e with e; subst e; exact zc hU (P := Try.prog) Try.func6 (fun xs w => by kernel_rfl) _ _ (P24 ++ [.b (zF hq11),.o,.o,.b (zF hq12),.o,.o,.o,.o,.b (zF hq12),.o,.o,.o]) [] (fun b => by kernel_rfl)
 ·injection e with e; subst e; exact zc hU (P := Try.prog) Try.func6 (fun xs w => by kernel_rfl) _ _ (P1 ++ [.cg (zfu hU y0 false hq0),.o,.o,.o,.o,.o,.o,.o]) [] (fun b => by kernel_rfl)
noncomputable def zcY (y0 : Insn) : Option ((BitVec 16) × (Bool)) :=
 (zcD y0).bind fun r0 =>
 bif r0.2 then
 (bif zdy y0 then
 (zv (zl y0.fDst) fun r1 =>
 some (r1,true))
 else (bif zi y0 8 then
 (some (63#16,true))
 else (some (0#16,true))))
 else (some (0#16,false))
theorem zjc (e : zcY y0 = some r) : ConG Try.prog S 8 #[(zeP y0)] (vt5 r) := by
 unfold zcY at e
 replace e := zf e
 obtain ⟨r0,e_r0,e⟩ := e
 try dsimp only at e
 replace e := za e
 let P1 : List (PG Try.prog M B0 S) := [.o,.o,.o,.a 0,.cg (zg4 hU y0 r0 e_r0),.o,.o]
 rcases e with ⟨hq0,e⟩ | ⟨hq0,e⟩
 ·replace e := za e
  rcases e with ⟨hq1,e⟩ | ⟨hq1,e⟩
  ·replace e := zg e
   obtain ⟨r1,e_r1,e⟩ := e
   try dsimp only at e
   injection e with e; subst e; exact zc hU (P := Try.prog) Try.func8 (fun xs w => by kernel_rfl) _ _ (P1 ++ [.b hq0,.o,.o,.o,.o,.o,.a 0,.cg (zff hU y0 true hq1),.o,.o,.a 0,.cg (zq hU y0.fDst r1 e_r1),.o,.o]) [] (fun b => by kernel_rfl)
  ·replace e := za e
   let P2 : List (PG Try.prog M B0 S) := P1 ++ [.b hq0,.o,.o,.o,.o,.o,.a 0,.cg (zff hU y0 false hq1),.o,.a 0]
   rcases e with ⟨hq2,e⟩ | ⟨hq2,e⟩
   ·injection e with e; subst e; exact zc hU (P := Try.prog) Try.func8 (fun xs w => by kernel_rfl) _ _ (P2 ++ [.cg (zh hU y0 8 true hq2),.o,.o,.o]) [] (fun b => by kernel_rfl)
   ·injection e with e; subst e; exact zc hU (P := Try.prog) Try.func8 (fun xs w => by kernel_rfl) _ _ (P2 ++ [.cg (zh hU y0 8 false hq2),.o,.o,.o]) [] (fun b => by kernel_rfl)
 ·injection e with e; subst e; exact zc hU (P := Try.prog) Try.func8 (fun xs w => by kernel_rfl) _ _ (P1 ++ [.b hq0,.o,.o,.o,.o,.o,.o,.o]) [] (fun b => by kernel_rfl)
end

end Go.Proofs.Ytliijnpblddjfaa


