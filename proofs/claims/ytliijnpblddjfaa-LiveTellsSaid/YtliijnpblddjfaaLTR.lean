/-
  What slots read and write.
-/
import Derived.Test.YtliijnpblddjfaaS1CF
namespace Go.Proofs.Ytliijnpblddjfaa
open Go.RowKit
set_option linter.unusedVariables false
set_option linter.unusedSimpArgs false
set_option linter.unusedSectionVars false
set_option maxRecDepth 100000
set_option maxHeartbeats 4000000
structure zde where
 x0 : Int
 x1 : Int
 x2 : Int
 x3 : Int
 x4 : Int
abbrev zAy (x : zde) : List Value := [.int .i64 (x.x0),.int .i64 (x.x1),.int .i64 (x.x2),.int .i64 (x.x3),.int .i64 (x.x4)]
structure zZ where
 fName : ByteArray
 fArgs : zde
 fRet : Int
 fMaps : Int
 fAcquire : Bool
 fRelease : Bool
abbrev zBm (x : zZ) : List Value := [.string x.fName,.int .i64 (x.fArgs.x0),.int .i64 (x.fArgs.x1),.int .i64 (x.fArgs.x2),.int .i64 (x.fArgs.x3),.int .i64 (x.fArgs.x4),.int .i64 (x.fRet),.int .i64 (x.fMaps),.bool (x.fAcquire),.bool (x.fRelease)]
def zvj (x : zZ) : Value := .agg #[.string x.fName,.int .i64 (x.fArgs.x0),.int .i64 (x.fArgs.x1),.int .i64 (x.fArgs.x2),.int .i64 (x.fArgs.x3),.int .i64 (x.fArgs.x4),.int .i64 (x.fRet),.int .i64 (x.fMaps),.bool (x.fAcquire),.bool (x.fRelease)]
theorem zzJ (x : zZ) : (zBm x).length = 10 := rfl
structure zDH where
 x0 : zZ
 x1 : zZ
 x2 : zZ
 x3 : zZ
 x4 : zZ
 x5 : zZ
 x6 : zZ
 x7 : zZ
 x8 : zZ
 x9 : zZ
 x10 : zZ
 x11 : zZ
 x12 : zZ
 x13 : zZ
 x14 : zZ
 x15 : zZ
 x16 : zZ
 x17 : zZ
 x18 : zZ
 x19 : zZ
 x20 : zZ
 x21 : zZ
 x22 : zZ
 x23 : zZ
 x24 : zZ
 x25 : zZ
 x26 : zZ
 x27 : zZ
 x28 : zZ
def zDq : List Value := [.string (⟨#[]⟩ : ByteArray),.int .i64 (0),.int .i64 (0),.int .i64 (0),.int .i64 (0),.int .i64 (0),.int .i64 (0),.int .i64 (0),.bool false,.bool false,.string (⟨#[109,97,112,95,108,111,111,107,117,112]⟩ : ByteArray),.int .i64 (2),.int .i64 (3),.int .i64 (0),.int .i64 (0),.int .i64 (0),.int .i64 (1),.int .i64 (6),.bool false,.bool false,.string (⟨#[109,97,112,95,117,112,100,97,116,101]⟩ : ByteArray),.int .i64 (2),.int .i64 (3),.int .i64 (4),.int .i64 (1),.int .i64 (0),.int .i64 (0),.int .i64 (6),.bool false,.bool false,.string (⟨#[109,97,112,95,100,101,108,101,116,101]⟩ : ByteArray),.int .i64 (2),.int .i64 (3),.int .i64 (0),.int .i64 (0),.int .i64 (0),.int .i64 (0),.int .i64 (6),.bool false,.bool false,.string (⟨#[99,108,111,99,107]⟩ : ByteArray),.int .i64 (0),.int .i64 (0),.int .i64 (0),.int .i64 (0),.int .i64 (0),.int .i64 (0),.int .i64 (0),.bool false,.bool false,.string (⟨#[114,97,110,100,111,109]⟩ : ByteArray),.int .i64 (0),.int .i64 (0),.int .i64 (0),.int .i64 (0),.int .i64 (0),.int .i64 (0),.int .i64 (0),.bool false,.bool false,.string (⟨#[116,97,105,108,95,99,97,108,108]⟩ : ByteArray),.int .i64 (8),.int .i64 (2),.int .i64 (1),.int .i64 (0),.int .i64 (0),.int .i64 (0),.int .i64 (8),.bool false,.bool false,.string (⟨#[108,111,111,112]⟩ : ByteArray),.int .i64 (1),.int .i64 (9),.int .i64 (17),.int .i64 (0),.int .i64 (0),.int .i64 (0),.int .i64 (0),.bool false,.bool false,.string (⟨#[114,105,110,103,95,111,117,116,112,117,116]⟩ : ByteArray),.int .i64 (2),.int .i64 (5),.int .i64 (7),.int .i64 (0),.int .i64 (0),.int .i64 (0),.int .i64 (16),.bool false,.bool false,.string (⟨#[114,105,110,103,95,114,101,115,101,114,118,101]⟩ : ByteArray),.int .i64 (2),.int .i64 (1),.int .i64 (0),.int .i64 (0),.int .i64 (0),.int .i64 (2),.int .i64 (16),.bool true,.bool false,.string (⟨#[114,105,110,103,95,115,117,98,109,105,116]⟩ : ByteArray),.int .i64 (10),.int .i64 (0),.int .i64 (0),.int .i64 (0),.int .i64 (0),.int .i64 (0),.int .i64 (0),.bool false,.bool true,.string (⟨#[114,105,110,103,95,100,105,115,99,97,114,100]⟩ : ByteArray),.int .i64 (10),.int .i64 (0),.int .i64 (0),.int .i64 (0),.int .i64 (0),.int .i64 (0),.int .i64 (0),.bool false,.bool true,.string (⟨#[114,105,110,103,95,113,117,101,114,121]⟩ : ByteArray),.int .i64 (2),.int .i64 (0),.int .i64 (0),.int .i64 (0),.int .i64 (0),.int .i64 (0),.int .i64 (16),.bool false,.bool false,.string (⟨#[115,111,99,107,95,108,111,111,107,117,112]⟩ : ByteArray),.int .i64 (8),.int .i64 (5),.int .i64 (7),.int .i64 (0),.int .i64 (0),.int .i64 (3),.int .i64 (0),.bool true,.bool false,.string (⟨#[115,111,99,107,95,114,101,108,101,97,115,101]⟩ : ByteArray),.int .i64 (11),.int .i64 (0),.int .i64 (0),.int .i64 (0),.int .i64 (0),.int .i64 (0),.int .i64 (0),.bool false,.bool true,.string (⟨#[116,105,109,101,114,95,105,110,105,116]⟩ : ByteArray),.int .i64 (12),.int .i64 (2),.int .i64 (0),.int .i64 (0),.int .i64 (0),.int .i64 (0),.int .i64 (6),.bool false,.bool false,.string (⟨#[116,105,109,101,114,95,99,97,108,108,98,97,99,107]⟩ : ByteArray),.int .i64 (12),.int .i64 (9),.int .i64 (0),.int .i64 (0),.int .i64 (0),.int .i64 (0),.int .i64 (0),.bool false,.bool false,.string (⟨#[116,105,109,101,114,95,115,116,97,114,116]⟩ : ByteArray),.int .i64 (12),.int .i64 (1),.int .i64 (0),.int .i64 (0),.int .i64 (0),.int .i64 (0),.int .i64 (0),.bool false,.bool false,.string (⟨#[116,105,109,101,114,95,99,97,110,99,101,108]⟩ : ByteArray),.int .i64 (12),.int .i64 (0),.int .i64 (0),.int .i64 (0),.int .i64 (0),.int .i64 (0),.int .i64 (0),.bool false,.bool false,.string (⟨#[100,121,110,95,114,101,115,101,114,118,101]⟩ : ByteArray),.int .i64 (2),.int .i64 (1),.int .i64 (13),.int .i64 (0),.int .i64 (0),.int .i64 (0),.int .i64 (16),.bool true,.bool false,.string (⟨#[100,121,110,95,115,117,98,109,105,116]⟩ : ByteArray),.int .i64 (14),.int .i64 (0),.int .i64 (0),.int .i64 (0),.int .i64 (0),.int .i64 (0),.int .i64 (0),.bool false,.bool true,.string (⟨#[100,121,110,95,100,105,115,99,97,114,100]⟩ : ByteArray),.int .i64 (14),.int .i64 (0),.int .i64 (0),.int .i64 (0),.int .i64 (0),.int .i64 (0),.int .i64 (0),.bool false,.bool true,.string (⟨#[100,121,110,95,109,101,109]⟩ : ByteArray),.int .i64 (5),.int .i64 (7),.int .i64 (13),.int .i64 (0),.int .i64 (0),.int .i64 (0),.int .i64 (0),.bool false,.bool false,.string (⟨#[100,121,110,95,114,101,97,100]⟩ : ByteArray),.int .i64 (6),.int .i64 (7),.int .i64 (14),.int .i64 (1),.int .i64 (0),.int .i64 (0),.int .i64 (0),.bool false,.bool false,.string (⟨#[100,121,110,95,119,114,105,116,101]⟩ : ByteArray),.int .i64 (14),.int .i64 (1),.int .i64 (5),.int .i64 (7),.int .i64 (0),.int .i64 (0),.int .i64 (0),.bool false,.bool false,.string (⟨#[100,121,110,95,100,97,116,97]⟩ : ByteArray),.int .i64 (14),.int .i64 (1),.int .i64 (1),.int .i64 (0),.int .i64 (0),.int .i64 (4),.int .i64 (0),.bool false,.bool false,.string (⟨#[105,116,101,114,95,110,101,119]⟩ : ByteArray),.int .i64 (15),.int .i64 (1),.int .i64 (1),.int .i64 (0),.int .i64 (0),.int .i64 (0),.int .i64 (0),.bool true,.bool false,.string (⟨#[105,116,101,114,95,110,101,120,116]⟩ : ByteArray),.int .i64 (16),.int .i64 (0),.int .i64 (0),.int .i64 (0),.int .i64 (0),.int .i64 (5),.int .i64 (0),.bool false,.bool false,.string (⟨#[105,116,101,114,95,100,114,111,112]⟩ : ByteArray),.int .i64 (16),.int .i64 (0),.int .i64 (0),.int .i64 (0),.int .i64 (0),.int .i64 (0),.int .i64 (0),.bool false,.bool true]
def tb0 (j : Nat) : zZ := match j with
 | 0 => (⟨(⟨#[]⟩ : ByteArray),(⟨0,0,0,0,0⟩ : zde),0,0,false,false⟩ : zZ)
 | 1 => (⟨(⟨#[109,97,112,95,108,111,111,107,117,112]⟩ : ByteArray),(⟨2,3,0,0,0⟩ : zde),1,6,false,false⟩ : zZ)
 | 2 => (⟨(⟨#[109,97,112,95,117,112,100,97,116,101]⟩ : ByteArray),(⟨2,3,4,1,0⟩ : zde),0,6,false,false⟩ : zZ)
 | 3 => (⟨(⟨#[109,97,112,95,100,101,108,101,116,101]⟩ : ByteArray),(⟨2,3,0,0,0⟩ : zde),0,6,false,false⟩ : zZ)
 | 4 => (⟨(⟨#[99,108,111,99,107]⟩ : ByteArray),(⟨0,0,0,0,0⟩ : zde),0,0,false,false⟩ : zZ)
 | 5 => (⟨(⟨#[114,97,110,100,111,109]⟩ : ByteArray),(⟨0,0,0,0,0⟩ : zde),0,0,false,false⟩ : zZ)
 | 6 => (⟨(⟨#[116,97,105,108,95,99,97,108,108]⟩ : ByteArray),(⟨8,2,1,0,0⟩ : zde),0,8,false,false⟩ : zZ)
 | 7 => (⟨(⟨#[108,111,111,112]⟩ : ByteArray),(⟨1,9,17,0,0⟩ : zde),0,0,false,false⟩ : zZ)
 | 8 => (⟨(⟨#[114,105,110,103,95,111,117,116,112,117,116]⟩ : ByteArray),(⟨2,5,7,0,0⟩ : zde),0,16,false,false⟩ : zZ)
 | 9 => (⟨(⟨#[114,105,110,103,95,114,101,115,101,114,118,101]⟩ : ByteArray),(⟨2,1,0,0,0⟩ : zde),2,16,true,false⟩ : zZ)
 | 10 => (⟨(⟨#[114,105,110,103,95,115,117,98,109,105,116]⟩ : ByteArray),(⟨10,0,0,0,0⟩ : zde),0,0,false,true⟩ : zZ)
 | 11 => (⟨(⟨#[114,105,110,103,95,100,105,115,99,97,114,100]⟩ : ByteArray),(⟨10,0,0,0,0⟩ : zde),0,0,false,true⟩ : zZ)
 | 12 => (⟨(⟨#[114,105,110,103,95,113,117,101,114,121]⟩ : ByteArray),(⟨2,0,0,0,0⟩ : zde),0,16,false,false⟩ : zZ)
 | 13 => (⟨(⟨#[115,111,99,107,95,108,111,111,107,117,112]⟩ : ByteArray),(⟨8,5,7,0,0⟩ : zde),3,0,true,false⟩ : zZ)
 | 14 => (⟨(⟨#[115,111,99,107,95,114,101,108,101,97,115,101]⟩ : ByteArray),(⟨11,0,0,0,0⟩ : zde),0,0,false,true⟩ : zZ)
 | 15 => (⟨(⟨#[116,105,109,101,114,95,105,110,105,116]⟩ : ByteArray),(⟨12,2,0,0,0⟩ : zde),0,6,false,false⟩ : zZ)
 | 16 => (⟨(⟨#[116,105,109,101,114,95,99,97,108,108,98,97,99,107]⟩ : ByteArray),(⟨12,9,0,0,0⟩ : zde),0,0,false,false⟩ : zZ)
 | 17 => (⟨(⟨#[116,105,109,101,114,95,115,116,97,114,116]⟩ : ByteArray),(⟨12,1,0,0,0⟩ : zde),0,0,false,false⟩ : zZ)
 | 18 => (⟨(⟨#[116,105,109,101,114,95,99,97,110,99,101,108]⟩ : ByteArray),(⟨12,0,0,0,0⟩ : zde),0,0,false,false⟩ : zZ)
 | 19 => (⟨(⟨#[100,121,110,95,114,101,115,101,114,118,101]⟩ : ByteArray),(⟨2,1,13,0,0⟩ : zde),0,16,true,false⟩ : zZ)
 | 20 => (⟨(⟨#[100,121,110,95,115,117,98,109,105,116]⟩ : ByteArray),(⟨14,0,0,0,0⟩ : zde),0,0,false,true⟩ : zZ)
 | 21 => (⟨(⟨#[100,121,110,95,100,105,115,99,97,114,100]⟩ : ByteArray),(⟨14,0,0,0,0⟩ : zde),0,0,false,true⟩ : zZ)
 | 22 => (⟨(⟨#[100,121,110,95,109,101,109]⟩ : ByteArray),(⟨5,7,13,0,0⟩ : zde),0,0,false,false⟩ : zZ)
 | 23 => (⟨(⟨#[100,121,110,95,114,101,97,100]⟩ : ByteArray),(⟨6,7,14,1,0⟩ : zde),0,0,false,false⟩ : zZ)
 | 24 => (⟨(⟨#[100,121,110,95,119,114,105,116,101]⟩ : ByteArray),(⟨14,1,5,7,0⟩ : zde),0,0,false,false⟩ : zZ)
 | 25 => (⟨(⟨#[100,121,110,95,100,97,116,97]⟩ : ByteArray),(⟨14,1,1,0,0⟩ : zde),4,0,false,false⟩ : zZ)
 | 26 => (⟨(⟨#[105,116,101,114,95,110,101,119]⟩ : ByteArray),(⟨15,1,1,0,0⟩ : zde),0,0,true,false⟩ : zZ)
 | 27 => (⟨(⟨#[105,116,101,114,95,110,101,120,116]⟩ : ByteArray),(⟨16,0,0,0,0⟩ : zde),5,0,false,false⟩ : zZ)
 | 28 => (⟨(⟨#[105,116,101,114,95,100,114,111,112]⟩ : ByteArray),(⟨16,0,0,0,0⟩ : zde),0,0,false,true⟩ : zZ)
 | _ => (⟨(⟨#[105,116,101,114,95,100,114,111,112]⟩ : ByteArray),(⟨16,0,0,0,0⟩ : zde),0,0,false,true⟩ : zZ)
theorem zC4 {j : Nat} (h : j < 29) : Value.agg ((⟨zDq⟩ : Array Value).extract (j * 10) (j * 10 + 10)) = (zvj (tb0 j)) := by
 match j,h with
 | 0,_ => show _ = _; kernel_rfl
 | 1,_ => show _ = _; kernel_rfl
 | 2,_ => show _ = _; kernel_rfl
 | 3,_ => show _ = _; kernel_rfl
 | 4,_ => show _ = _; kernel_rfl
 | 5,_ => show _ = _; kernel_rfl
 | 6,_ => show _ = _; kernel_rfl
 | 7,_ => show _ = _; kernel_rfl
 | 8,_ => show _ = _; kernel_rfl
 | 9,_ => show _ = _; kernel_rfl
 | 10,_ => show _ = _; kernel_rfl
 | 11,_ => show _ = _; kernel_rfl
 | 12,_ => show _ = _; kernel_rfl
 | 13,_ => show _ = _; kernel_rfl
 | 14,_ => show _ = _; kernel_rfl
 | 15,_ => show _ = _; kernel_rfl
 | 16,_ => show _ = _; kernel_rfl
 | 17,_ => show _ = _; kernel_rfl
 | 18,_ => show _ = _; kernel_rfl
 | 19,_ => show _ = _; kernel_rfl
 | 20,_ => show _ = _; kernel_rfl
 | 21,_ => show _ = _; kernel_rfl
 | 22,_ => show _ = _; kernel_rfl
 | 23,_ => show _ = _; kernel_rfl
 | 24,_ => show _ = _; kernel_rfl
 | 25,_ => show _ = _; kernel_rfl
 | 26,_ => show _ = _; kernel_rfl
 | 27,_ => show _ = _; kernel_rfl
 | 28,_ => show _ = _; kernel_rfl
 | j + 29,h => omega
def vt3 (r : (zZ) × (Int)) : Value := .tuple #[((zvj r.1)),(.int .i64 (r.2))]
def zvN (x : zde) (j : Nat) : Int := if j = 0 then x.x0 else if j = 1 then x.x1 else if j = 2 then x.x2 else if j = 3 then x.x3 else x.x4
theorem zAd (x : zde) {j : Nat} (h : j < 5) : ((zAy x).drop (j * 1)).take 1 = [.int .i64 ((zvN x j))] := by
 match j,h with
 | 0,_ => rfl
 | 1,_ => rfl
 | 2,_ => rfl
 | 3,_ => rfl
 | 4,_ => rfl
 | j + 5,h => omega
def vt5 (r : (BitVec 16) × (Bool)) : Value := .tuple #[(.int .u16 (nn r.1)),(.bool (r.2))]
noncomputable def ziO (y0 : Insn) : Option (Bool) :=
 (zb0 1 (fun _ => y0)).bind fun r0 =>
 bif r0.2 == 11 then
 (some false)
 else (bif BitVec.ult (10#8) y0.fDst then
 (some false)
 else (some (!(BitVec.ult (10#8) y0.fSrc))))
section
variable {M : Nat → Prop} {B0 : Nat} {S : World → Prop} (hU : Up M B0 S)
include hU
theorem zmG (y0 : Insn) (r : Bool) (e : ziO y0 = some r) : ConG Try.prog S 14 #[(zeP y0)] (.bool (r)) := by
 unfold ziO at e
 replace e := zf e
 obtain ⟨r0,e_r0,e⟩ := e
 try dsimp only at e
 replace e := za e
 let P1 : List (PG Try.prog M B0 S) := [.o,.o,.a 0,.o,.xg (SpcG.own hU (f := zd9) zj 1 (fun _ => y0) 25 (fun _ => []) (fun _ => 0) _ 0 .normal (by intros; rfl) (by intros; rfl) (by intros; rfl) (fun M0 B0 S0 x0 u0 v0 z0 hU0 hs0 hr0 => ConG.sp (zfy hU0 x0 u0 v0 1 z0 (fun _ => y0) hr0 r0 e_r0))) [1],.o,.o,.o,.o,.o,.o]
 rcases e with ⟨hq0,e⟩ | ⟨hq0,e⟩
 ·injection e with e; subst e; exact zc hU (P := Try.prog) Try.func14 (fun xs w => by kernel_rfl) _ _ (P1 ++ [.b (zdq hq0),.o,.o,.o,.o,.o]) [] (fun b => by kernel_rfl)
 ·replace e := za e
  rcases e with ⟨hq1,e⟩ | ⟨hq1,e⟩
  ·injection e with e; subst e; exact zc hU (P := Try.prog) Try.func14 (fun xs w => by kernel_rfl) _ _ (P1 ++ [.b (zdU hq0),.o,.o,.a 0,.tn (u_le y0.fDst (10#8)) hq1,.o,.o,.o,.o]) [] (fun b => by kernel_rfl)
  ·injection e with e; subst e; exact zc hU (P := Try.prog) Try.func14 (fun xs w => by kernel_rfl) _ _ (P1 ++ [.b (zdU hq0),.o,.o,.a 0,.tn (u_le y0.fDst (10#8)) hq1,.o,.o,.o,.a 0,.tn (u_le y0.fSrc (10#8)) rfl,.o,.o]) [] (fun b => by kernel_rfl)
noncomputable def zc3 (y0 : BitVec 8) : BitVec 16 :=
 (1#16 <<< (y0).toNat)
theorem zdP (y0 : BitVec 8) (r : BitVec 16) (e : zc3 y0 = r) : ConG Try.prog S 15 #[.int .u8 (nn y0)] (.int .u16 (nn r)) := by
 unfold zc3 at e
 subst e; exact zc hU (P := Try.prog) Try.func15 (fun xs w => by kernel_rfl) _ _ [.o,.o,.ov (zwX Try.prog 27 (.const (.int .u16 (1))) (.tmp 3) (1#16) (y0).toNat .u8 rfl),.o] [] (fun b => by kernel_rfl)
noncomputable def zg2 (y0 : Insn) : BitVec 16 :=
 bif (y0.fOp &&& 8#8) == 0#8 then
 (0#16)
 else (zv (zc3 y0.fSrc) fun r0 =>
 r0)
end
section
variable {M : Nat → Prop} {B0 : Nat} {S : World → Prop} (hU : Up M B0 S) (y0 : Insn) (r : BitVec 16)
include hU y0 r
theorem zm8 (e : zg2 y0 = r) : ConG Try.prog S 37 #[(zeP y0)] (.int .u16 (nn r)) := by
 unfold zg2 at e
 replace e := za e
 rcases e with ⟨hq0,e⟩ | ⟨hq0,e⟩
 ·subst e; exact zc hU (P := Try.prog) Try.func37 (fun xs w => by kernel_rfl) _ _ [.o,.o,.o,.a 0,.v .u8 (zpZ y0.fOp (8#8)),.t (u_eq (y0.fOp &&& 8#8) (0#8)) hq0,.o] [] (fun b => by kernel_rfl)
 ·replace e := zg e
  obtain ⟨r0,e_r0,e⟩ := e
  try dsimp only at e
  subst e; exact zc hU (P := Try.prog) Try.func37 (fun xs w => by kernel_rfl) _ _ [.o,.o,.o,.a 0,.v .u8 (zpZ y0.fOp (8#8)),.t (u_eq (y0.fOp &&& 8#8) (0#8)) hq0,.o,.a 0,.cg (zdP hU y0.fSrc r0 e_r0),.o] [] (fun b => by kernel_rfl)
noncomputable def zhF (y0 : Insn) : BitVec 16 :=
 bif (y0.fOp >>> 4) == 11#8 then
 (zv (zg2 y0) fun r0 =>
 r0)
 else (bif (y0.fOp >>> 4) == 13#8 then
 (zv (zc3 y0.fDst) fun r0 =>
 r0)
 else (zv (zc3 y0.fDst) fun r0 =>
 zv (zg2 y0) fun r1 =>
 (r0 ||| r1)))
theorem zqS (e : zhF y0 = r) : ConG Try.prog S 16 #[(zeP y0)] (.int .u16 (nn r)) := by
 unfold zhF at e
 replace e := za e
 let P1 : List (PG Try.prog M B0 S) := [.o,.o,.o,.a 0,.ov (zwY Try.prog 5 (.tmp 4) (.const (.int .u64 (4))) y0.fOp 4 .u64 rfl)]
 rcases e with ⟨hq0,e⟩ | ⟨hq0,e⟩
 ·replace e := zg e
  obtain ⟨r0,e_r0,e⟩ := e
  try dsimp only at e
  subst e; exact zc hU (P := Try.prog) Try.func16 (fun xs w => by kernel_rfl) _ _ (P1 ++ [.t (u_eq (y0.fOp >>> 4) (11#8)) hq0,.o,.a 0,.cg (zm8 hU y0 r0 e_r0),.o]) [] (fun b => by kernel_rfl)
 ·replace e := za e
  rcases e with ⟨hq1,e⟩ | ⟨hq1,e⟩
  ·replace e := zg e
   obtain ⟨r0,e_r0,e⟩ := e
   try dsimp only at e
   subst e; exact zc hU (P := Try.prog) Try.func16 (fun xs w => by kernel_rfl) _ _ (P1 ++ [.t (u_eq (y0.fOp >>> 4) (11#8)) hq0,.o,.t (u_eq (y0.fOp >>> 4) (13#8)) hq1,.o,.o,.a 0,.cg (zdP hU y0.fDst r0 e_r0),.o]) [] (fun b => by kernel_rfl)
  ·replace e := zg e
   obtain ⟨r0,e_r0,e⟩ := e
   try dsimp only at e
   replace e := zg e
   obtain ⟨r1,e_r1,e⟩ := e
   try dsimp only at e
   subst e; exact zc hU (P := Try.prog) Try.func16 (fun xs w => by kernel_rfl) _ _ (P1 ++ [.t (u_eq (y0.fOp >>> 4) (11#8)) hq0,.o,.t (u_eq (y0.fOp >>> 4) (13#8)) hq1,.o,.r [0,1,2,3,4,5,6] [] [],.o,.a 0,.cg (zdP hU y0.fDst r0 e_r0),.a 0,.cg (zm8 hU y0 r1 e_r1),.v .u16 (zml r0 r1),.o]) [] (fun b => by kernel_rfl)
def zxk   : Spc := ⟨fun ls => .call 74 #[.string (⟨#[109,97,112,95,108,111,111,107,117,112]⟩ : ByteArray),.int .i64 (1),.slice (some ⟨(lget ls 0).n,0,none⟩) 2 2],fun ls => [.cells #[.int .i64 (2),.int .i64 (3)] 3],0,.normal,fun ls => [.agg #[.string (⟨#[109,97,112,95,108,111,111,107,117,112]⟩ : ByteArray),.int .i64 (2),.int .i64 (3),.int .i64 (0),.int .i64 (0),.int .i64 (0),.int .i64 (1),.int .i64 (0),.bool false,.bool false]],fun ls => [.cells #[.int .i64 (2),.int .i64 (3)] 3],fun ls => []⟩
end
section
variable {M : Nat → Prop} {B0 : Nat} {S : World → Prop} (hU : Up M B0 S)
include hU
theorem zxR : SpcG Try.prog M B0 S (zxk  ) :=
 zo hU (P := Try.prog) Try.func74 (fun xs w => by kernel_rfl) 1 _ _ (fun _ => rfl) _ _ _ []
  [.o,.o,.o,.o,.o,.a 2,.o,.o,.o,.l (AccOk.blks [0,0,2,2]),.a 2,.a 1]
  [1,1,1,1,1,1,1,1,1,1] (fun b => by kernel_rfl)
def zvX   : Spc := ⟨fun ls => .call 73 #[.int .i64 (6),.string (⟨#[109,97,112,95,108,111,111,107,117,112]⟩ : ByteArray),.int .i64 (1),.slice (some ⟨(lget ls 0).n,0,none⟩) 2 2],fun ls => [.cells #[.int .i64 (2),.int .i64 (3)] 3],0,.normal,fun ls => [.agg #[.string (⟨#[109,97,112,95,108,111,111,107,117,112]⟩ : ByteArray),.int .i64 (2),.int .i64 (3),.int .i64 (0),.int .i64 (0),.int .i64 (0),.int .i64 (1),.int .i64 (6),.bool false,.bool false]],fun ls => [.cells #[.int .i64 (2),.int .i64 (3)] 3],fun ls => []⟩
theorem zw2 : SpcG Try.prog M B0 S (zvX  ) :=
 zo hU (P := Try.prog) Try.func73 (fun xs w => by kernel_rfl) 1 _ _ (fun _ => rfl) _ _ _ []
  [.o,.o,.o,.o,.xg (zxR hU  ) [0],.o,.a 2,.o,.o,.a 2,.a 2,.a 1]
  [1,1,1,1,1,1,1,1,1,1] (fun b => by kernel_rfl)
def zup   : Spc := ⟨fun ls => .call 74 #[.string (⟨#[109,97,112,95,117,112,100,97,116,101]⟩ : ByteArray),.int .i64 (0),.slice (some ⟨(lget ls 0).n,0,none⟩) 4 4],fun ls => [.cells #[.int .i64 (2),.int .i64 (3),.int .i64 (4),.int .i64 (1)] 3],0,.normal,fun ls => [.agg #[.string (⟨#[109,97,112,95,117,112,100,97,116,101]⟩ : ByteArray),.int .i64 (2),.int .i64 (3),.int .i64 (4),.int .i64 (1),.int .i64 (0),.int .i64 (0),.int .i64 (0),.bool false,.bool false]],fun ls => [.cells #[.int .i64 (2),.int .i64 (3),.int .i64 (4),.int .i64 (1)] 3],fun ls => []⟩
theorem zvd : SpcG Try.prog M B0 S (zup  ) :=
 zo hU (P := Try.prog) Try.func74 (fun xs w => by kernel_rfl) 1 _ _ (fun _ => rfl) _ _ _ []
  [.o,.o,.o,.o,.o,.a 2,.o,.o,.o,.l (AccOk.blks [0,0,0,0,2,2,2,2]),.a 2,.a 1]
  [1,1,1,1,1,1,1,1,1,1] (fun b => by kernel_rfl)
def zt4   : Spc := ⟨fun ls => .call 73 #[.int .i64 (6),.string (⟨#[109,97,112,95,117,112,100,97,116,101]⟩ : ByteArray),.int .i64 (0),.slice (some ⟨(lget ls 0).n,0,none⟩) 4 4],fun ls => [.cells #[.int .i64 (2),.int .i64 (3),.int .i64 (4),.int .i64 (1)] 3],0,.normal,fun ls => [.agg #[.string (⟨#[109,97,112,95,117,112,100,97,116,101]⟩ : ByteArray),.int .i64 (2),.int .i64 (3),.int .i64 (4),.int .i64 (1),.int .i64 (0),.int .i64 (0),.int .i64 (6),.bool false,.bool false]],fun ls => [.cells #[.int .i64 (2),.int .i64 (3),.int .i64 (4),.int .i64 (1)] 3],fun ls => []⟩
theorem zua : SpcG Try.prog M B0 S (zt4  ) :=
 zo hU (P := Try.prog) Try.func73 (fun xs w => by kernel_rfl) 1 _ _ (fun _ => rfl) _ _ _ []
  [.o,.o,.o,.o,.xg (zvd hU  ) [0],.o,.a 2,.o,.o,.a 2,.a 2,.a 1]
  [1,1,1,1,1,1,1,1,1,1] (fun b => by kernel_rfl)
def zvb   : Spc := ⟨fun ls => .call 74 #[.string (⟨#[109,97,112,95,100,101,108,101,116,101]⟩ : ByteArray),.int .i64 (0),.slice (some ⟨(lget ls 0).n,0,none⟩) 2 2],fun ls => [.cells #[.int .i64 (2),.int .i64 (3)] 3],0,.normal,fun ls => [.agg #[.string (⟨#[109,97,112,95,100,101,108,101,116,101]⟩ : ByteArray),.int .i64 (2),.int .i64 (3),.int .i64 (0),.int .i64 (0),.int .i64 (0),.int .i64 (0),.int .i64 (0),.bool false,.bool false]],fun ls => [.cells #[.int .i64 (2),.int .i64 (3)] 3],fun ls => []⟩
theorem zvi : SpcG Try.prog M B0 S (zvb  ) :=
 zo hU (P := Try.prog) Try.func74 (fun xs w => by kernel_rfl) 1 _ _ (fun _ => rfl) _ _ _ []
  [.o,.o,.o,.o,.o,.a 2,.o,.o,.o,.l (AccOk.blks [0,0,2,2]),.a 2,.a 1]
  [1,1,1,1,1,1,1,1,1,1] (fun b => by kernel_rfl)
def ztH   : Spc := ⟨fun ls => .call 73 #[.int .i64 (6),.string (⟨#[109,97,112,95,100,101,108,101,116,101]⟩ : ByteArray),.int .i64 (0),.slice (some ⟨(lget ls 0).n,0,none⟩) 2 2],fun ls => [.cells #[.int .i64 (2),.int .i64 (3)] 3],0,.normal,fun ls => [.agg #[.string (⟨#[109,97,112,95,100,101,108,101,116,101]⟩ : ByteArray),.int .i64 (2),.int .i64 (3),.int .i64 (0),.int .i64 (0),.int .i64 (0),.int .i64 (0),.int .i64 (6),.bool false,.bool false]],fun ls => [.cells #[.int .i64 (2),.int .i64 (3)] 3],fun ls => []⟩
theorem zun : SpcG Try.prog M B0 S (ztH  ) :=
 zo hU (P := Try.prog) Try.func73 (fun xs w => by kernel_rfl) 1 _ _ (fun _ => rfl) _ _ _ []
  [.o,.o,.o,.o,.xg (zvi hU  ) [0],.o,.a 2,.o,.o,.a 2,.a 2,.a 1]
  [1,1,1,1,1,1,1,1,1,1] (fun b => by kernel_rfl)
theorem zvF : ConG Try.prog S 74 #[.string (⟨#[99,108,111,99,107]⟩ : ByteArray),.int .i64 (0),.slice none 0 0] (.agg #[.string (⟨#[99,108,111,99,107]⟩ : ByteArray),.int .i64 (0),.int .i64 (0),.int .i64 (0),.int .i64 (0),.int .i64 (0),.int .i64 (0),.int .i64 (0),.bool false,.bool false]) :=
 zc hU (P := Try.prog) Try.func74 (fun xs w => by kernel_rfl) [.string (⟨#[99,108,111,99,107]⟩ : ByteArray),.int .i64 (0),.slice none 0 0] (.agg #[.string (⟨#[99,108,111,99,107]⟩ : ByteArray),.int .i64 (0),.int .i64 (0),.int .i64 (0),.int .i64 (0),.int .i64 (0),.int .i64 (0),.int .i64 (0),.bool false,.bool false])
  [.o,.o,.o,.o,.o,.a 1,.o,.o,.o,.o,.a 1,.a 0]
  [0,0,0,0,0,0,0,0,0,0] (fun b => by kernel_rfl)
theorem zvE : ConG Try.prog S 74 #[.string (⟨#[114,97,110,100,111,109]⟩ : ByteArray),.int .i64 (0),.slice none 0 0] (.agg #[.string (⟨#[114,97,110,100,111,109]⟩ : ByteArray),.int .i64 (0),.int .i64 (0),.int .i64 (0),.int .i64 (0),.int .i64 (0),.int .i64 (0),.int .i64 (0),.bool false,.bool false]) :=
 zc hU (P := Try.prog) Try.func74 (fun xs w => by kernel_rfl) [.string (⟨#[114,97,110,100,111,109]⟩ : ByteArray),.int .i64 (0),.slice none 0 0] (.agg #[.string (⟨#[114,97,110,100,111,109]⟩ : ByteArray),.int .i64 (0),.int .i64 (0),.int .i64 (0),.int .i64 (0),.int .i64 (0),.int .i64 (0),.int .i64 (0),.bool false,.bool false])
  [.o,.o,.o,.o,.o,.a 1,.o,.o,.o,.o,.a 1,.a 0]
  [0,0,0,0,0,0,0,0,0,0] (fun b => by kernel_rfl)
def zuB   : Spc := ⟨fun ls => .call 74 #[.string (⟨#[116,97,105,108,95,99,97,108,108]⟩ : ByteArray),.int .i64 (0),.slice (some ⟨(lget ls 0).n,0,none⟩) 3 3],fun ls => [.cells #[.int .i64 (8),.int .i64 (2),.int .i64 (1)] 3],0,.normal,fun ls => [.agg #[.string (⟨#[116,97,105,108,95,99,97,108,108]⟩ : ByteArray),.int .i64 (8),.int .i64 (2),.int .i64 (1),.int .i64 (0),.int .i64 (0),.int .i64 (0),.int .i64 (0),.bool false,.bool false]],fun ls => [.cells #[.int .i64 (8),.int .i64 (2),.int .i64 (1)] 3],fun ls => []⟩
theorem zve : SpcG Try.prog M B0 S (zuB  ) :=
 zo hU (P := Try.prog) Try.func74 (fun xs w => by kernel_rfl) 1 _ _ (fun _ => rfl) _ _ _ []
  [.o,.o,.o,.o,.o,.a 2,.o,.o,.o,.l (AccOk.blks [0,0,0,2,2,2]),.a 2,.a 1]
  [1,1,1,1,1,1,1,1,1,1] (fun b => by kernel_rfl)
def ztC   : Spc := ⟨fun ls => .call 73 #[.int .i64 (8),.string (⟨#[116,97,105,108,95,99,97,108,108]⟩ : ByteArray),.int .i64 (0),.slice (some ⟨(lget ls 0).n,0,none⟩) 3 3],fun ls => [.cells #[.int .i64 (8),.int .i64 (2),.int .i64 (1)] 3],0,.normal,fun ls => [.agg #[.string (⟨#[116,97,105,108,95,99,97,108,108]⟩ : ByteArray),.int .i64 (8),.int .i64 (2),.int .i64 (1),.int .i64 (0),.int .i64 (0),.int .i64 (0),.int .i64 (8),.bool false,.bool false]],fun ls => [.cells #[.int .i64 (8),.int .i64 (2),.int .i64 (1)] 3],fun ls => []⟩
theorem zuk : SpcG Try.prog M B0 S (ztC  ) :=
 zo hU (P := Try.prog) Try.func73 (fun xs w => by kernel_rfl) 1 _ _ (fun _ => rfl) _ _ _ []
  [.o,.o,.o,.o,.xg (zve hU  ) [0],.o,.a 2,.o,.o,.a 2,.a 2,.a 1]
  [1,1,1,1,1,1,1,1,1,1] (fun b => by kernel_rfl)
def zuL   : Spc := ⟨fun ls => .call 74 #[.string (⟨#[108,111,111,112]⟩ : ByteArray),.int .i64 (0),.slice (some ⟨(lget ls 0).n,0,none⟩) 3 3],fun ls => [.cells #[.int .i64 (1),.int .i64 (9),.int .i64 (17)] 3],0,.normal,fun ls => [.agg #[.string (⟨#[108,111,111,112]⟩ : ByteArray),.int .i64 (1),.int .i64 (9),.int .i64 (17),.int .i64 (0),.int .i64 (0),.int .i64 (0),.int .i64 (0),.bool false,.bool false]],fun ls => [.cells #[.int .i64 (1),.int .i64 (9),.int .i64 (17)] 3],fun ls => []⟩
theorem zvz : SpcG Try.prog M B0 S (zuL  ) :=
 zo hU (P := Try.prog) Try.func74 (fun xs w => by kernel_rfl) 1 _ _ (fun _ => rfl) _ _ _ []
  [.o,.o,.o,.o,.o,.a 2,.o,.o,.o,.l (AccOk.blks [0,0,0,2,2,2]),.a 2,.a 1]
  [1,1,1,1,1,1,1,1,1,1] (fun b => by kernel_rfl)
def zuU   : Spc := ⟨fun ls => .call 74 #[.string (⟨#[114,105,110,103,95,111,117,116,112,117,116]⟩ : ByteArray),.int .i64 (0),.slice (some ⟨(lget ls 0).n,0,none⟩) 3 3],fun ls => [.cells #[.int .i64 (2),.int .i64 (5),.int .i64 (7)] 3],0,.normal,fun ls => [.agg #[.string (⟨#[114,105,110,103,95,111,117,116,112,117,116]⟩ : ByteArray),.int .i64 (2),.int .i64 (5),.int .i64 (7),.int .i64 (0),.int .i64 (0),.int .i64 (0),.int .i64 (0),.bool false,.bool false]],fun ls => [.cells #[.int .i64 (2),.int .i64 (5),.int .i64 (7)] 3],fun ls => []⟩
theorem zvp : SpcG Try.prog M B0 S (zuU  ) :=
 zo hU (P := Try.prog) Try.func74 (fun xs w => by kernel_rfl) 1 _ _ (fun _ => rfl) _ _ _ []
  [.o,.o,.o,.o,.o,.a 2,.o,.o,.o,.l (AccOk.blks [0,0,0,2,2,2]),.a 2,.a 1]
  [1,1,1,1,1,1,1,1,1,1] (fun b => by kernel_rfl)
def ztB   : Spc := ⟨fun ls => .call 73 #[.int .i64 (16),.string (⟨#[114,105,110,103,95,111,117,116,112,117,116]⟩ : ByteArray),.int .i64 (0),.slice (some ⟨(lget ls 0).n,0,none⟩) 3 3],fun ls => [.cells #[.int .i64 (2),.int .i64 (5),.int .i64 (7)] 3],0,.normal,fun ls => [.agg #[.string (⟨#[114,105,110,103,95,111,117,116,112,117,116]⟩ : ByteArray),.int .i64 (2),.int .i64 (5),.int .i64 (7),.int .i64 (0),.int .i64 (0),.int .i64 (0),.int .i64 (16),.bool false,.bool false]],fun ls => [.cells #[.int .i64 (2),.int .i64 (5),.int .i64 (7)] 3],fun ls => []⟩
theorem zut : SpcG Try.prog M B0 S (ztB  ) :=
 zo hU (P := Try.prog) Try.func73 (fun xs w => by kernel_rfl) 1 _ _ (fun _ => rfl) _ _ _ []
  [.o,.o,.o,.o,.xg (zvp hU  ) [0],.o,.a 2,.o,.o,.a 2,.a 2,.a 1]
  [1,1,1,1,1,1,1,1,1,1] (fun b => by kernel_rfl)
def zuI   : Spc := ⟨fun ls => .call 74 #[.string (⟨#[114,105,110,103,95,114,101,115,101,114,118,101]⟩ : ByteArray),.int .i64 (2),.slice (some ⟨(lget ls 0).n,0,none⟩) 2 2],fun ls => [.cells #[.int .i64 (2),.int .i64 (1)] 3],0,.normal,fun ls => [.agg #[.string (⟨#[114,105,110,103,95,114,101,115,101,114,118,101]⟩ : ByteArray),.int .i64 (2),.int .i64 (1),.int .i64 (0),.int .i64 (0),.int .i64 (0),.int .i64 (2),.int .i64 (0),.bool false,.bool false]],fun ls => [.cells #[.int .i64 (2),.int .i64 (1)] 3],fun ls => []⟩
theorem zvx : SpcG Try.prog M B0 S (zuI  ) :=
 zo hU (P := Try.prog) Try.func74 (fun xs w => by kernel_rfl) 1 _ _ (fun _ => rfl) _ _ _ []
  [.o,.o,.o,.o,.o,.a 2,.o,.o,.o,.l (AccOk.blks [0,0,2,2]),.a 2,.a 1]
  [1,1,1,1,1,1,1,1,1,1] (fun b => by kernel_rfl)
def ztK   : Spc := ⟨fun ls => .call 73 #[.int .i64 (16),.string (⟨#[114,105,110,103,95,114,101,115,101,114,118,101]⟩ : ByteArray),.int .i64 (2),.slice (some ⟨(lget ls 0).n,0,none⟩) 2 2],fun ls => [.cells #[.int .i64 (2),.int .i64 (1)] 3],0,.normal,fun ls => [.agg #[.string (⟨#[114,105,110,103,95,114,101,115,101,114,118,101]⟩ : ByteArray),.int .i64 (2),.int .i64 (1),.int .i64 (0),.int .i64 (0),.int .i64 (0),.int .i64 (2),.int .i64 (16),.bool false,.bool false]],fun ls => [.cells #[.int .i64 (2),.int .i64 (1)] 3],fun ls => []⟩
theorem zuy : SpcG Try.prog M B0 S (ztK  ) :=
 zo hU (P := Try.prog) Try.func73 (fun xs w => by kernel_rfl) 1 _ _ (fun _ => rfl) _ _ _ []
  [.o,.o,.o,.o,.xg (zvx hU  ) [0],.o,.a 2,.o,.o,.a 2,.a 2,.a 1]
  [1,1,1,1,1,1,1,1,1,1] (fun b => by kernel_rfl)
theorem zvq : ConG Try.prog S 75 #[.agg #[.string (⟨#[114,105,110,103,95,114,101,115,101,114,118,101]⟩ : ByteArray),.int .i64 (2),.int .i64 (1),.int .i64 (0),.int .i64 (0),.int .i64 (0),.int .i64 (2),.int .i64 (16),.bool false,.bool false]] (.agg #[.string (⟨#[114,105,110,103,95,114,101,115,101,114,118,101]⟩ : ByteArray),.int .i64 (2),.int .i64 (1),.int .i64 (0),.int .i64 (0),.int .i64 (0),.int .i64 (2),.int .i64 (16),.bool true,.bool false]) :=
 zc hU (P := Try.prog) Try.func75 (fun xs w => by kernel_rfl) [.agg #[.string (⟨#[114,105,110,103,95,114,101,115,101,114,118,101]⟩ : ByteArray),.int .i64 (2),.int .i64 (1),.int .i64 (0),.int .i64 (0),.int .i64 (0),.int .i64 (2),.int .i64 (16),.bool false,.bool false]] (.agg #[.string (⟨#[114,105,110,103,95,114,101,115,101,114,118,101]⟩ : ByteArray),.int .i64 (2),.int .i64 (1),.int .i64 (0),.int .i64 (0),.int .i64 (0),.int .i64 (2),.int .i64 (16),.bool true,.bool false])
  [.o,.o,.o,.a 0,.a 0,.a 1]
  [1,1,1,1,1,1,1,1,1,1] (fun b => by kernel_rfl)
def zuH   : Spc := ⟨fun ls => .call 74 #[.string (⟨#[114,105,110,103,95,115,117,98,109,105,116]⟩ : ByteArray),.int .i64 (0),.slice (some ⟨(lget ls 0).n,0,none⟩) 1 1],fun ls => [.cells #[.int .i64 (10)] 3],0,.normal,fun ls => [.agg #[.string (⟨#[114,105,110,103,95,115,117,98,109,105,116]⟩ : ByteArray),.int .i64 (10),.int .i64 (0),.int .i64 (0),.int .i64 (0),.int .i64 (0),.int .i64 (0),.int .i64 (0),.bool false,.bool false]],fun ls => [.cells #[.int .i64 (10)] 3],fun ls => []⟩
theorem zvt : SpcG Try.prog M B0 S (zuH  ) :=
 zo hU (P := Try.prog) Try.func74 (fun xs w => by kernel_rfl) 1 _ _ (fun _ => rfl) _ _ _ []
  [.o,.o,.o,.o,.o,.a 2,.o,.o,.o,.l (AccOk.blks [0,2]),.a 2,.a 1]
  [1,1,1,1,1,1,1,1,1,1] (fun b => by kernel_rfl)
theorem zvG : ConG Try.prog S 76 #[.agg #[.string (⟨#[114,105,110,103,95,115,117,98,109,105,116]⟩ : ByteArray),.int .i64 (10),.int .i64 (0),.int .i64 (0),.int .i64 (0),.int .i64 (0),.int .i64 (0),.int .i64 (0),.bool false,.bool false]] (.agg #[.string (⟨#[114,105,110,103,95,115,117,98,109,105,116]⟩ : ByteArray),.int .i64 (10),.int .i64 (0),.int .i64 (0),.int .i64 (0),.int .i64 (0),.int .i64 (0),.int .i64 (0),.bool false,.bool true]) :=
 zc hU (P := Try.prog) Try.func76 (fun xs w => by kernel_rfl) [.agg #[.string (⟨#[114,105,110,103,95,115,117,98,109,105,116]⟩ : ByteArray),.int .i64 (10),.int .i64 (0),.int .i64 (0),.int .i64 (0),.int .i64 (0),.int .i64 (0),.int .i64 (0),.bool false,.bool false]] (.agg #[.string (⟨#[114,105,110,103,95,115,117,98,109,105,116]⟩ : ByteArray),.int .i64 (10),.int .i64 (0),.int .i64 (0),.int .i64 (0),.int .i64 (0),.int .i64 (0),.int .i64 (0),.bool false,.bool true])
  [.o,.o,.o,.a 0,.a 0,.a 1]
  [1,1,1,1,1,1,1,1,1,1] (fun b => by kernel_rfl)
def zt2   : Spc := ⟨fun ls => .call 74 #[.string (⟨#[114,105,110,103,95,100,105,115,99,97,114,100]⟩ : ByteArray),.int .i64 (0),.slice (some ⟨(lget ls 0).n,0,none⟩) 1 1],fun ls => [.cells #[.int .i64 (10)] 3],0,.normal,fun ls => [.agg #[.string (⟨#[114,105,110,103,95,100,105,115,99,97,114,100]⟩ : ByteArray),.int .i64 (10),.int .i64 (0),.int .i64 (0),.int .i64 (0),.int .i64 (0),.int .i64 (0),.int .i64 (0),.bool false,.bool false]],fun ls => [.cells #[.int .i64 (10)] 3],fun ls => []⟩
theorem zuX : SpcG Try.prog M B0 S (zt2  ) :=
 zo hU (P := Try.prog) Try.func74 (fun xs w => by kernel_rfl) 1 _ _ (fun _ => rfl) _ _ _ []
  [.o,.o,.o,.o,.o,.a 2,.o,.o,.o,.l (AccOk.blks [0,2]),.a 2,.a 1]
  [1,1,1,1,1,1,1,1,1,1] (fun b => by kernel_rfl)
theorem ztf : ConG Try.prog S 76 #[.agg #[.string (⟨#[114,105,110,103,95,100,105,115,99,97,114,100]⟩ : ByteArray),.int .i64 (10),.int .i64 (0),.int .i64 (0),.int .i64 (0),.int .i64 (0),.int .i64 (0),.int .i64 (0),.bool false,.bool false]] (.agg #[.string (⟨#[114,105,110,103,95,100,105,115,99,97,114,100]⟩ : ByteArray),.int .i64 (10),.int .i64 (0),.int .i64 (0),.int .i64 (0),.int .i64 (0),.int .i64 (0),.int .i64 (0),.bool false,.bool true]) :=
 zc hU (P := Try.prog) Try.func76 (fun xs w => by kernel_rfl) [.agg #[.string (⟨#[114,105,110,103,95,100,105,115,99,97,114,100]⟩ : ByteArray),.int .i64 (10),.int .i64 (0),.int .i64 (0),.int .i64 (0),.int .i64 (0),.int .i64 (0),.int .i64 (0),.bool false,.bool false]] (.agg #[.string (⟨#[114,105,110,103,95,100,105,115,99,97,114,100]⟩ : ByteArray),.int .i64 (10),.int .i64 (0),.int .i64 (0),.int .i64 (0),.int .i64 (0),.int .i64 (0),.int .i64 (0),.bool false,.bool true])
  [.o,.o,.o,.a 0,.a 0,.a 1]
  [1,1,1,1,1,1,1,1,1,1] (fun b => by kernel_rfl)
def ztT   : Spc := ⟨fun ls => .call 74 #[.string (⟨#[114,105,110,103,95,113,117,101,114,121]⟩ : ByteArray),.int .i64 (0),.slice (some ⟨(lget ls 0).n,0,none⟩) 1 1],fun ls => [.cells #[.int .i64 (2)] 3],0,.normal,fun ls => [.agg #[.string (⟨#[114,105,110,103,95,113,117,101,114,121]⟩ : ByteArray),.int .i64 (2),.int .i64 (0),.int .i64 (0),.int .i64 (0),.int .i64 (0),.int .i64 (0),.int .i64 (0),.bool false,.bool false]],fun ls => [.cells #[.int .i64 (2)] 3],fun ls => []⟩
theorem zui : SpcG Try.prog M B0 S (ztT  ) :=
 zo hU (P := Try.prog) Try.func74 (fun xs w => by kernel_rfl) 1 _ _ (fun _ => rfl) _ _ _ []
  [.o,.o,.o,.o,.o,.a 2,.o,.o,.o,.l (AccOk.blks [0,2]),.a 2,.a 1]
  [1,1,1,1,1,1,1,1,1,1] (fun b => by kernel_rfl)
def zt0   : Spc := ⟨fun ls => .call 73 #[.int .i64 (16),.string (⟨#[114,105,110,103,95,113,117,101,114,121]⟩ : ByteArray),.int .i64 (0),.slice (some ⟨(lget ls 0).n,0,none⟩) 1 1],fun ls => [.cells #[.int .i64 (2)] 3],0,.normal,fun ls => [.agg #[.string (⟨#[114,105,110,103,95,113,117,101,114,121]⟩ : ByteArray),.int .i64 (2),.int .i64 (0),.int .i64 (0),.int .i64 (0),.int .i64 (0),.int .i64 (0),.int .i64 (16),.bool false,.bool false]],fun ls => [.cells #[.int .i64 (2)] 3],fun ls => []⟩
theorem zuf : SpcG Try.prog M B0 S (zt0  ) :=
 zo hU (P := Try.prog) Try.func73 (fun xs w => by kernel_rfl) 1 _ _ (fun _ => rfl) _ _ _ []
  [.o,.o,.o,.o,.xg (zui hU  ) [0],.o,.a 2,.o,.o,.a 2,.a 2,.a 1]
  [1,1,1,1,1,1,1,1,1,1] (fun b => by kernel_rfl)
def zt3   : Spc := ⟨fun ls => .call 74 #[.string (⟨#[115,111,99,107,95,108,111,111,107,117,112]⟩ : ByteArray),.int .i64 (3),.slice (some ⟨(lget ls 0).n,0,none⟩) 3 3],fun ls => [.cells #[.int .i64 (8),.int .i64 (5),.int .i64 (7)] 3],0,.normal,fun ls => [.agg #[.string (⟨#[115,111,99,107,95,108,111,111,107,117,112]⟩ : ByteArray),.int .i64 (8),.int .i64 (5),.int .i64 (7),.int .i64 (0),.int .i64 (0),.int .i64 (3),.int .i64 (0),.bool false,.bool false]],fun ls => [.cells #[.int .i64 (8),.int .i64 (5),.int .i64 (7)] 3],fun ls => []⟩
theorem zu4 : SpcG Try.prog M B0 S (zt3  ) :=
 zo hU (P := Try.prog) Try.func74 (fun xs w => by kernel_rfl) 1 _ _ (fun _ => rfl) _ _ _ []
  [.o,.o,.o,.o,.o,.a 2,.o,.o,.o,.l (AccOk.blks [0,0,0,2,2,2]),.a 2,.a 1]
  [1,1,1,1,1,1,1,1,1,1] (fun b => by kernel_rfl)
theorem ztr : ConG Try.prog S 75 #[.agg #[.string (⟨#[115,111,99,107,95,108,111,111,107,117,112]⟩ : ByteArray),.int .i64 (8),.int .i64 (5),.int .i64 (7),.int .i64 (0),.int .i64 (0),.int .i64 (3),.int .i64 (0),.bool false,.bool false]] (.agg #[.string (⟨#[115,111,99,107,95,108,111,111,107,117,112]⟩ : ByteArray),.int .i64 (8),.int .i64 (5),.int .i64 (7),.int .i64 (0),.int .i64 (0),.int .i64 (3),.int .i64 (0),.bool true,.bool false]) :=
 zc hU (P := Try.prog) Try.func75 (fun xs w => by kernel_rfl) [.agg #[.string (⟨#[115,111,99,107,95,108,111,111,107,117,112]⟩ : ByteArray),.int .i64 (8),.int .i64 (5),.int .i64 (7),.int .i64 (0),.int .i64 (0),.int .i64 (3),.int .i64 (0),.bool false,.bool false]] (.agg #[.string (⟨#[115,111,99,107,95,108,111,111,107,117,112]⟩ : ByteArray),.int .i64 (8),.int .i64 (5),.int .i64 (7),.int .i64 (0),.int .i64 (0),.int .i64 (3),.int .i64 (0),.bool true,.bool false])
  [.o,.o,.o,.a 0,.a 0,.a 1]
  [1,1,1,1,1,1,1,1,1,1] (fun b => by kernel_rfl)
def ztX   : Spc := ⟨fun ls => .call 74 #[.string (⟨#[115,111,99,107,95,114,101,108,101,97,115,101]⟩ : ByteArray),.int .i64 (0),.slice (some ⟨(lget ls 0).n,0,none⟩) 1 1],fun ls => [.cells #[.int .i64 (11)] 3],0,.normal,fun ls => [.agg #[.string (⟨#[115,111,99,107,95,114,101,108,101,97,115,101]⟩ : ByteArray),.int .i64 (11),.int .i64 (0),.int .i64 (0),.int .i64 (0),.int .i64 (0),.int .i64 (0),.int .i64 (0),.bool false,.bool false]],fun ls => [.cells #[.int .i64 (11)] 3],fun ls => []⟩
theorem zud : SpcG Try.prog M B0 S (ztX  ) :=
 zo hU (P := Try.prog) Try.func74 (fun xs w => by kernel_rfl) 1 _ _ (fun _ => rfl) _ _ _ []
  [.o,.o,.o,.o,.o,.a 2,.o,.o,.o,.l (AccOk.blks [0,2]),.a 2,.a 1]
  [1,1,1,1,1,1,1,1,1,1] (fun b => by kernel_rfl)
theorem ztm : ConG Try.prog S 76 #[.agg #[.string (⟨#[115,111,99,107,95,114,101,108,101,97,115,101]⟩ : ByteArray),.int .i64 (11),.int .i64 (0),.int .i64 (0),.int .i64 (0),.int .i64 (0),.int .i64 (0),.int .i64 (0),.bool false,.bool false]] (.agg #[.string (⟨#[115,111,99,107,95,114,101,108,101,97,115,101]⟩ : ByteArray),.int .i64 (11),.int .i64 (0),.int .i64 (0),.int .i64 (0),.int .i64 (0),.int .i64 (0),.int .i64 (0),.bool false,.bool true]) :=
 zc hU (P := Try.prog) Try.func76 (fun xs w => by kernel_rfl) [.agg #[.string (⟨#[115,111,99,107,95,114,101,108,101,97,115,101]⟩ : ByteArray),.int .i64 (11),.int .i64 (0),.int .i64 (0),.int .i64 (0),.int .i64 (0),.int .i64 (0),.int .i64 (0),.bool false,.bool false]] (.agg #[.string (⟨#[115,111,99,107,95,114,101,108,101,97,115,101]⟩ : ByteArray),.int .i64 (11),.int .i64 (0),.int .i64 (0),.int .i64 (0),.int .i64 (0),.int .i64 (0),.int .i64 (0),.bool false,.bool true])
  [.o,.o,.o,.a 0,.a 0,.a 1]
  [1,1,1,1,1,1,1,1,1,1] (fun b => by kernel_rfl)
def ztM   : Spc := ⟨fun ls => .call 74 #[.string (⟨#[116,105,109,101,114,95,105,110,105,116]⟩ : ByteArray),.int .i64 (0),.slice (some ⟨(lget ls 0).n,0,none⟩) 2 2],fun ls => [.cells #[.int .i64 (12),.int .i64 (2)] 3],0,.normal,fun ls => [.agg #[.string (⟨#[116,105,109,101,114,95,105,110,105,116]⟩ : ByteArray),.int .i64 (12),.int .i64 (2),.int .i64 (0),.int .i64 (0),.int .i64 (0),.int .i64 (0),.int .i64 (0),.bool false,.bool false]],fun ls => [.cells #[.int .i64 (12),.int .i64 (2)] 3],fun ls => []⟩
theorem zu9 : SpcG Try.prog M B0 S (ztM  ) :=
 zo hU (P := Try.prog) Try.func74 (fun xs w => by kernel_rfl) 1 _ _ (fun _ => rfl) _ _ _ []
  [.o,.o,.o,.o,.o,.a 2,.o,.o,.o,.l (AccOk.blks [0,0,2,2]),.a 2,.a 1]
  [1,1,1,1,1,1,1,1,1,1] (fun b => by kernel_rfl)
def ztI   : Spc := ⟨fun ls => .call 73 #[.int .i64 (6),.string (⟨#[116,105,109,101,114,95,105,110,105,116]⟩ : ByteArray),.int .i64 (0),.slice (some ⟨(lget ls 0).n,0,none⟩) 2 2],fun ls => [.cells #[.int .i64 (12),.int .i64 (2)] 3],0,.normal,fun ls => [.agg #[.string (⟨#[116,105,109,101,114,95,105,110,105,116]⟩ : ByteArray),.int .i64 (12),.int .i64 (2),.int .i64 (0),.int .i64 (0),.int .i64 (0),.int .i64 (0),.int .i64 (6),.bool false,.bool false]],fun ls => [.cells #[.int .i64 (12),.int .i64 (2)] 3],fun ls => []⟩
theorem zuj : SpcG Try.prog M B0 S (ztI  ) :=
 zo hU (P := Try.prog) Try.func73 (fun xs w => by kernel_rfl) 1 _ _ (fun _ => rfl) _ _ _ []
  [.o,.o,.o,.o,.xg (zu9 hU  ) [0],.o,.a 2,.o,.o,.a 2,.a 2,.a 1]
  [1,1,1,1,1,1,1,1,1,1] (fun b => by kernel_rfl)
def zt6   : Spc := ⟨fun ls => .call 74 #[.string (⟨#[116,105,109,101,114,95,99,97,108,108,98,97,99,107]⟩ : ByteArray),.int .i64 (0),.slice (some ⟨(lget ls 0).n,0,none⟩) 2 2],fun ls => [.cells #[.int .i64 (12),.int .i64 (9)] 3],0,.normal,fun ls => [.agg #[.string (⟨#[116,105,109,101,114,95,99,97,108,108,98,97,99,107]⟩ : ByteArray),.int .i64 (12),.int .i64 (9),.int .i64 (0),.int .i64 (0),.int .i64 (0),.int .i64 (0),.int .i64 (0),.bool false,.bool false]],fun ls => [.cells #[.int .i64 (12),.int .i64 (9)] 3],fun ls => []⟩
theorem zur : SpcG Try.prog M B0 S (zt6  ) :=
 zo hU (P := Try.prog) Try.func74 (fun xs w => by kernel_rfl) 1 _ _ (fun _ => rfl) _ _ _ []
  [.o,.o,.o,.o,.o,.a 2,.o,.o,.o,.l (AccOk.blks [0,0,2,2]),.a 2,.a 1]
  [1,1,1,1,1,1,1,1,1,1] (fun b => by kernel_rfl)
def ztF   : Spc := ⟨fun ls => .call 74 #[.string (⟨#[116,105,109,101,114,95,115,116,97,114,116]⟩ : ByteArray),.int .i64 (0),.slice (some ⟨(lget ls 0).n,0,none⟩) 2 2],fun ls => [.cells #[.int .i64 (12),.int .i64 (1)] 3],0,.normal,fun ls => [.agg #[.string (⟨#[116,105,109,101,114,95,115,116,97,114,116]⟩ : ByteArray),.int .i64 (12),.int .i64 (1),.int .i64 (0),.int .i64 (0),.int .i64 (0),.int .i64 (0),.int .i64 (0),.bool false,.bool false]],fun ls => [.cells #[.int .i64 (12),.int .i64 (1)] 3],fun ls => []⟩
theorem zuP : SpcG Try.prog M B0 S (ztF  ) :=
 zo hU (P := Try.prog) Try.func74 (fun xs w => by kernel_rfl) 1 _ _ (fun _ => rfl) _ _ _ []
  [.o,.o,.o,.o,.o,.a 2,.o,.o,.o,.l (AccOk.blks [0,0,2,2]),.a 2,.a 1]
  [1,1,1,1,1,1,1,1,1,1] (fun b => by kernel_rfl)
def ztV   : Spc := ⟨fun ls => .call 74 #[.string (⟨#[116,105,109,101,114,95,99,97,110,99,101,108]⟩ : ByteArray),.int .i64 (0),.slice (some ⟨(lget ls 0).n,0,none⟩) 1 1],fun ls => [.cells #[.int .i64 (12)] 3],0,.normal,fun ls => [.agg #[.string (⟨#[116,105,109,101,114,95,99,97,110,99,101,108]⟩ : ByteArray),.int .i64 (12),.int .i64 (0),.int .i64 (0),.int .i64 (0),.int .i64 (0),.int .i64 (0),.int .i64 (0),.bool false,.bool false]],fun ls => [.cells #[.int .i64 (12)] 3],fun ls => []⟩
theorem zuK : SpcG Try.prog M B0 S (ztV  ) :=
 zo hU (P := Try.prog) Try.func74 (fun xs w => by kernel_rfl) 1 _ _ (fun _ => rfl) _ _ _ []
  [.o,.o,.o,.o,.o,.a 2,.o,.o,.o,.l (AccOk.blks [0,2]),.a 2,.a 1]
  [1,1,1,1,1,1,1,1,1,1] (fun b => by kernel_rfl)
def ztP   : Spc := ⟨fun ls => .call 74 #[.string (⟨#[100,121,110,95,114,101,115,101,114,118,101]⟩ : ByteArray),.int .i64 (0),.slice (some ⟨(lget ls 0).n,0,none⟩) 3 3],fun ls => [.cells #[.int .i64 (2),.int .i64 (1),.int .i64 (13)] 3],0,.normal,fun ls => [.agg #[.string (⟨#[100,121,110,95,114,101,115,101,114,118,101]⟩ : ByteArray),.int .i64 (2),.int .i64 (1),.int .i64 (13),.int .i64 (0),.int .i64 (0),.int .i64 (0),.int .i64 (0),.bool false,.bool false]],fun ls => [.cells #[.int .i64 (2),.int .i64 (1),.int .i64 (13)] 3],fun ls => []⟩
theorem zuM : SpcG Try.prog M B0 S (ztP  ) :=
 zo hU (P := Try.prog) Try.func74 (fun xs w => by kernel_rfl) 1 _ _ (fun _ => rfl) _ _ _ []
  [.o,.o,.o,.o,.o,.a 2,.o,.o,.o,.l (AccOk.blks [0,0,0,2,2,2]),.a 2,.a 1]
  [1,1,1,1,1,1,1,1,1,1] (fun b => by kernel_rfl)
def ztL   : Spc := ⟨fun ls => .call 73 #[.int .i64 (16),.string (⟨#[100,121,110,95,114,101,115,101,114,118,101]⟩ : ByteArray),.int .i64 (0),.slice (some ⟨(lget ls 0).n,0,none⟩) 3 3],fun ls => [.cells #[.int .i64 (2),.int .i64 (1),.int .i64 (13)] 3],0,.normal,fun ls => [.agg #[.string (⟨#[100,121,110,95,114,101,115,101,114,118,101]⟩ : ByteArray),.int .i64 (2),.int .i64 (1),.int .i64 (13),.int .i64 (0),.int .i64 (0),.int .i64 (0),.int .i64 (16),.bool false,.bool false]],fun ls => [.cells #[.int .i64 (2),.int .i64 (1),.int .i64 (13)] 3],fun ls => []⟩
theorem zva : SpcG Try.prog M B0 S (ztL  ) :=
 zo hU (P := Try.prog) Try.func73 (fun xs w => by kernel_rfl) 1 _ _ (fun _ => rfl) _ _ _ []
  [.o,.o,.o,.o,.xg (zuM hU  ) [0],.o,.a 2,.o,.o,.a 2,.a 2,.a 1]
  [1,1,1,1,1,1,1,1,1,1] (fun b => by kernel_rfl)
theorem ztb : ConG Try.prog S 75 #[.agg #[.string (⟨#[100,121,110,95,114,101,115,101,114,118,101]⟩ : ByteArray),.int .i64 (2),.int .i64 (1),.int .i64 (13),.int .i64 (0),.int .i64 (0),.int .i64 (0),.int .i64 (16),.bool false,.bool false]] (.agg #[.string (⟨#[100,121,110,95,114,101,115,101,114,118,101]⟩ : ByteArray),.int .i64 (2),.int .i64 (1),.int .i64 (13),.int .i64 (0),.int .i64 (0),.int .i64 (0),.int .i64 (16),.bool true,.bool false]) :=
 zc hU (P := Try.prog) Try.func75 (fun xs w => by kernel_rfl) [.agg #[.string (⟨#[100,121,110,95,114,101,115,101,114,118,101]⟩ : ByteArray),.int .i64 (2),.int .i64 (1),.int .i64 (13),.int .i64 (0),.int .i64 (0),.int .i64 (0),.int .i64 (16),.bool false,.bool false]] (.agg #[.string (⟨#[100,121,110,95,114,101,115,101,114,118,101]⟩ : ByteArray),.int .i64 (2),.int .i64 (1),.int .i64 (13),.int .i64 (0),.int .i64 (0),.int .i64 (0),.int .i64 (16),.bool true,.bool false])
  [.o,.o,.o,.a 0,.a 0,.a 1]
  [1,1,1,1,1,1,1,1,1,1] (fun b => by kernel_rfl)
def ztW   : Spc := ⟨fun ls => .call 74 #[.string (⟨#[100,121,110,95,115,117,98,109,105,116]⟩ : ByteArray),.int .i64 (0),.slice (some ⟨(lget ls 0).n,0,none⟩) 1 1],fun ls => [.cells #[.int .i64 (14)] 3],0,.normal,fun ls => [.agg #[.string (⟨#[100,121,110,95,115,117,98,109,105,116]⟩ : ByteArray),.int .i64 (14),.int .i64 (0),.int .i64 (0),.int .i64 (0),.int .i64 (0),.int .i64 (0),.int .i64 (0),.bool false,.bool false]],fun ls => [.cells #[.int .i64 (14)] 3],fun ls => []⟩
theorem zuO : SpcG Try.prog M B0 S (ztW  ) :=
 zo hU (P := Try.prog) Try.func74 (fun xs w => by kernel_rfl) 1 _ _ (fun _ => rfl) _ _ _ []
  [.o,.o,.o,.o,.o,.a 2,.o,.o,.o,.l (AccOk.blks [0,2]),.a 2,.a 1]
  [1,1,1,1,1,1,1,1,1,1] (fun b => by kernel_rfl)
theorem ztp : ConG Try.prog S 76 #[.agg #[.string (⟨#[100,121,110,95,115,117,98,109,105,116]⟩ : ByteArray),.int .i64 (14),.int .i64 (0),.int .i64 (0),.int .i64 (0),.int .i64 (0),.int .i64 (0),.int .i64 (0),.bool false,.bool false]] (.agg #[.string (⟨#[100,121,110,95,115,117,98,109,105,116]⟩ : ByteArray),.int .i64 (14),.int .i64 (0),.int .i64 (0),.int .i64 (0),.int .i64 (0),.int .i64 (0),.int .i64 (0),.bool false,.bool true]) :=
 zc hU (P := Try.prog) Try.func76 (fun xs w => by kernel_rfl) [.agg #[.string (⟨#[100,121,110,95,115,117,98,109,105,116]⟩ : ByteArray),.int .i64 (14),.int .i64 (0),.int .i64 (0),.int .i64 (0),.int .i64 (0),.int .i64 (0),.int .i64 (0),.bool false,.bool false]] (.agg #[.string (⟨#[100,121,110,95,115,117,98,109,105,116]⟩ : ByteArray),.int .i64 (14),.int .i64 (0),.int .i64 (0),.int .i64 (0),.int .i64 (0),.int .i64 (0),.int .i64 (0),.bool false,.bool true])
  [.o,.o,.o,.a 0,.a 0,.a 1]
  [1,1,1,1,1,1,1,1,1,1] (fun b => by kernel_rfl)
def ztU   : Spc := ⟨fun ls => .call 74 #[.string (⟨#[100,121,110,95,100,105,115,99,97,114,100]⟩ : ByteArray),.int .i64 (0),.slice (some ⟨(lget ls 0).n,0,none⟩) 1 1],fun ls => [.cells #[.int .i64 (14)] 3],0,.normal,fun ls => [.agg #[.string (⟨#[100,121,110,95,100,105,115,99,97,114,100]⟩ : ByteArray),.int .i64 (14),.int .i64 (0),.int .i64 (0),.int .i64 (0),.int .i64 (0),.int .i64 (0),.int .i64 (0),.bool false,.bool false]],fun ls => [.cells #[.int .i64 (14)] 3],fun ls => []⟩
theorem zuw : SpcG Try.prog M B0 S (ztU  ) :=
 zo hU (P := Try.prog) Try.func74 (fun xs w => by kernel_rfl) 1 _ _ (fun _ => rfl) _ _ _ []
  [.o,.o,.o,.o,.o,.a 2,.o,.o,.o,.l (AccOk.blks [0,2]),.a 2,.a 1]
  [1,1,1,1,1,1,1,1,1,1] (fun b => by kernel_rfl)
theorem zth : ConG Try.prog S 76 #[.agg #[.string (⟨#[100,121,110,95,100,105,115,99,97,114,100]⟩ : ByteArray),.int .i64 (14),.int .i64 (0),.int .i64 (0),.int .i64 (0),.int .i64 (0),.int .i64 (0),.int .i64 (0),.bool false,.bool false]] (.agg #[.string (⟨#[100,121,110,95,100,105,115,99,97,114,100]⟩ : ByteArray),.int .i64 (14),.int .i64 (0),.int .i64 (0),.int .i64 (0),.int .i64 (0),.int .i64 (0),.int .i64 (0),.bool false,.bool true]) :=
 zc hU (P := Try.prog) Try.func76 (fun xs w => by kernel_rfl) [.agg #[.string (⟨#[100,121,110,95,100,105,115,99,97,114,100]⟩ : ByteArray),.int .i64 (14),.int .i64 (0),.int .i64 (0),.int .i64 (0),.int .i64 (0),.int .i64 (0),.int .i64 (0),.bool false,.bool false]] (.agg #[.string (⟨#[100,121,110,95,100,105,115,99,97,114,100]⟩ : ByteArray),.int .i64 (14),.int .i64 (0),.int .i64 (0),.int .i64 (0),.int .i64 (0),.int .i64 (0),.int .i64 (0),.bool false,.bool true])
  [.o,.o,.o,.a 0,.a 0,.a 1]
  [1,1,1,1,1,1,1,1,1,1] (fun b => by kernel_rfl)
def ztY   : Spc := ⟨fun ls => .call 74 #[.string (⟨#[100,121,110,95,109,101,109]⟩ : ByteArray),.int .i64 (0),.slice (some ⟨(lget ls 0).n,0,none⟩) 3 3],fun ls => [.cells #[.int .i64 (5),.int .i64 (7),.int .i64 (13)] 3],0,.normal,fun ls => [.agg #[.string (⟨#[100,121,110,95,109,101,109]⟩ : ByteArray),.int .i64 (5),.int .i64 (7),.int .i64 (13),.int .i64 (0),.int .i64 (0),.int .i64 (0),.int .i64 (0),.bool false,.bool false]],fun ls => [.cells #[.int .i64 (5),.int .i64 (7),.int .i64 (13)] 3],fun ls => []⟩
theorem zuT : SpcG Try.prog M B0 S (ztY  ) :=
 zo hU (P := Try.prog) Try.func74 (fun xs w => by kernel_rfl) 1 _ _ (fun _ => rfl) _ _ _ []
  [.o,.o,.o,.o,.o,.a 2,.o,.o,.o,.l (AccOk.blks [0,0,0,2,2,2]),.a 2,.a 1]
  [1,1,1,1,1,1,1,1,1,1] (fun b => by kernel_rfl)
def ztN   : Spc := ⟨fun ls => .call 74 #[.string (⟨#[100,121,110,95,114,101,97,100]⟩ : ByteArray),.int .i64 (0),.slice (some ⟨(lget ls 0).n,0,none⟩) 4 4],fun ls => [.cells #[.int .i64 (6),.int .i64 (7),.int .i64 (14),.int .i64 (1)] 3],0,.normal,fun ls => [.agg #[.string (⟨#[100,121,110,95,114,101,97,100]⟩ : ByteArray),.int .i64 (6),.int .i64 (7),.int .i64 (14),.int .i64 (1),.int .i64 (0),.int .i64 (0),.int .i64 (0),.bool false,.bool false]],fun ls => [.cells #[.int .i64 (6),.int .i64 (7),.int .i64 (14),.int .i64 (1)] 3],fun ls => []⟩
theorem zuS : SpcG Try.prog M B0 S (ztN  ) :=
 zo hU (P := Try.prog) Try.func74 (fun xs w => by kernel_rfl) 1 _ _ (fun _ => rfl) _ _ _ []
  [.o,.o,.o,.o,.o,.a 2,.o,.o,.o,.l (AccOk.blks [0,0,0,0,2,2,2,2]),.a 2,.a 1]
  [1,1,1,1,1,1,1,1,1,1] (fun b => by kernel_rfl)
def ztS   : Spc := ⟨fun ls => .call 74 #[.string (⟨#[100,121,110,95,119,114,105,116,101]⟩ : ByteArray),.int .i64 (0),.slice (some ⟨(lget ls 0).n,0,none⟩) 4 4],fun ls => [.cells #[.int .i64 (14),.int .i64 (1),.int .i64 (5),.int .i64 (7)] 3],0,.normal,fun ls => [.agg #[.string (⟨#[100,121,110,95,119,114,105,116,101]⟩ : ByteArray),.int .i64 (14),.int .i64 (1),.int .i64 (5),.int .i64 (7),.int .i64 (0),.int .i64 (0),.int .i64 (0),.bool false,.bool false]],fun ls => [.cells #[.int .i64 (14),.int .i64 (1),.int .i64 (5),.int .i64 (7)] 3],fun ls => []⟩
theorem zul : SpcG Try.prog M B0 S (ztS  ) :=
 zo hU (P := Try.prog) Try.func74 (fun xs w => by kernel_rfl) 1 _ _ (fun _ => rfl) _ _ _ []
  [.o,.o,.o,.o,.o,.a 2,.o,.o,.o,.l (AccOk.blks [0,0,0,0,2,2,2,2]),.a 2,.a 1]
  [1,1,1,1,1,1,1,1,1,1] (fun b => by kernel_rfl)
def ztA   : Spc := ⟨fun ls => .call 74 #[.string (⟨#[100,121,110,95,100,97,116,97]⟩ : ByteArray),.int .i64 (4),.slice (some ⟨(lget ls 0).n,0,none⟩) 3 3],fun ls => [.cells #[.int .i64 (14),.int .i64 (1),.int .i64 (1)] 3],0,.normal,fun ls => [.agg #[.string (⟨#[100,121,110,95,100,97,116,97]⟩ : ByteArray),.int .i64 (14),.int .i64 (1),.int .i64 (1),.int .i64 (0),.int .i64 (0),.int .i64 (4),.int .i64 (0),.bool false,.bool false]],fun ls => [.cells #[.int .i64 (14),.int .i64 (1),.int .i64 (1)] 3],fun ls => []⟩
theorem zuQ : SpcG Try.prog M B0 S (ztA  ) :=
 zo hU (P := Try.prog) Try.func74 (fun xs w => by kernel_rfl) 1 _ _ (fun _ => rfl) _ _ _ []
  [.o,.o,.o,.o,.o,.a 2,.o,.o,.o,.l (AccOk.blks [0,0,0,2,2,2]),.a 2,.a 1]
  [1,1,1,1,1,1,1,1,1,1] (fun b => by kernel_rfl)
def ztZ   : Spc := ⟨fun ls => .call 74 #[.string (⟨#[105,116,101,114,95,110,101,119]⟩ : ByteArray),.int .i64 (0),.slice (some ⟨(lget ls 0).n,0,none⟩) 3 3],fun ls => [.cells #[.int .i64 (15),.int .i64 (1),.int .i64 (1)] 3],0,.normal,fun ls => [.agg #[.string (⟨#[105,116,101,114,95,110,101,119]⟩ : ByteArray),.int .i64 (15),.int .i64 (1),.int .i64 (1),.int .i64 (0),.int .i64 (0),.int .i64 (0),.int .i64 (0),.bool false,.bool false]],fun ls => [.cells #[.int .i64 (15),.int .i64 (1),.int .i64 (1)] 3],fun ls => []⟩
theorem zu2 : SpcG Try.prog M B0 S (ztZ  ) :=
 zo hU (P := Try.prog) Try.func74 (fun xs w => by kernel_rfl) 1 _ _ (fun _ => rfl) _ _ _ []
  [.o,.o,.o,.o,.o,.a 2,.o,.o,.o,.l (AccOk.blks [0,0,0,2,2,2]),.a 2,.a 1]
  [1,1,1,1,1,1,1,1,1,1] (fun b => by kernel_rfl)
theorem zto : ConG Try.prog S 75 #[.agg #[.string (⟨#[105,116,101,114,95,110,101,119]⟩ : ByteArray),.int .i64 (15),.int .i64 (1),.int .i64 (1),.int .i64 (0),.int .i64 (0),.int .i64 (0),.int .i64 (0),.bool false,.bool false]] (.agg #[.string (⟨#[105,116,101,114,95,110,101,119]⟩ : ByteArray),.int .i64 (15),.int .i64 (1),.int .i64 (1),.int .i64 (0),.int .i64 (0),.int .i64 (0),.int .i64 (0),.bool true,.bool false]) :=
 zc hU (P := Try.prog) Try.func75 (fun xs w => by kernel_rfl) [.agg #[.string (⟨#[105,116,101,114,95,110,101,119]⟩ : ByteArray),.int .i64 (15),.int .i64 (1),.int .i64 (1),.int .i64 (0),.int .i64 (0),.int .i64 (0),.int .i64 (0),.bool false,.bool false]] (.agg #[.string (⟨#[105,116,101,114,95,110,101,119]⟩ : ByteArray),.int .i64 (15),.int .i64 (1),.int .i64 (1),.int .i64 (0),.int .i64 (0),.int .i64 (0),.int .i64 (0),.bool true,.bool false])
  [.o,.o,.o,.a 0,.a 0,.a 1]
  [1,1,1,1,1,1,1,1,1,1] (fun b => by kernel_rfl)
def ztO   : Spc := ⟨fun ls => .call 74 #[.string (⟨#[105,116,101,114,95,110,101,120,116]⟩ : ByteArray),.int .i64 (5),.slice (some ⟨(lget ls 0).n,0,none⟩) 1 1],fun ls => [.cells #[.int .i64 (16)] 3],0,.normal,fun ls => [.agg #[.string (⟨#[105,116,101,114,95,110,101,120,116]⟩ : ByteArray),.int .i64 (16),.int .i64 (0),.int .i64 (0),.int .i64 (0),.int .i64 (0),.int .i64 (5),.int .i64 (0),.bool false,.bool false]],fun ls => [.cells #[.int .i64 (16)] 3],fun ls => []⟩
theorem zuu : SpcG Try.prog M B0 S (ztO  ) :=
 zo hU (P := Try.prog) Try.func74 (fun xs w => by kernel_rfl) 1 _ _ (fun _ => rfl) _ _ _ []
  [.o,.o,.o,.o,.o,.a 2,.o,.o,.o,.l (AccOk.blks [0,2]),.a 2,.a 1]
  [1,1,1,1,1,1,1,1,1,1] (fun b => by kernel_rfl)
def ztJ   : Spc := ⟨fun ls => .call 74 #[.string (⟨#[105,116,101,114,95,100,114,111,112]⟩ : ByteArray),.int .i64 (0),.slice (some ⟨(lget ls 0).n,0,none⟩) 1 1],fun ls => [.cells #[.int .i64 (16)] 3],0,.normal,fun ls => [.agg #[.string (⟨#[105,116,101,114,95,100,114,111,112]⟩ : ByteArray),.int .i64 (16),.int .i64 (0),.int .i64 (0),.int .i64 (0),.int .i64 (0),.int .i64 (0),.int .i64 (0),.bool false,.bool false]],fun ls => [.cells #[.int .i64 (16)] 3],fun ls => []⟩
theorem zu0 : SpcG Try.prog M B0 S (ztJ  ) :=
 zo hU (P := Try.prog) Try.func74 (fun xs w => by kernel_rfl) 1 _ _ (fun _ => rfl) _ _ _ []
  [.o,.o,.o,.o,.o,.a 2,.o,.o,.o,.l (AccOk.blks [0,2]),.a 2,.a 1]
  [1,1,1,1,1,1,1,1,1,1] (fun b => by kernel_rfl)
theorem ztq : ConG Try.prog S 76 #[.agg #[.string (⟨#[105,116,101,114,95,100,114,111,112]⟩ : ByteArray),.int .i64 (16),.int .i64 (0),.int .i64 (0),.int .i64 (0),.int .i64 (0),.int .i64 (0),.int .i64 (0),.bool false,.bool false]] (.agg #[.string (⟨#[105,116,101,114,95,100,114,111,112]⟩ : ByteArray),.int .i64 (16),.int .i64 (0),.int .i64 (0),.int .i64 (0),.int .i64 (0),.int .i64 (0),.int .i64 (0),.bool false,.bool true]) :=
 zc hU (P := Try.prog) Try.func76 (fun xs w => by kernel_rfl) [.agg #[.string (⟨#[105,116,101,114,95,100,114,111,112]⟩ : ByteArray),.int .i64 (16),.int .i64 (0),.int .i64 (0),.int .i64 (0),.int .i64 (0),.int .i64 (0),.int .i64 (0),.bool false,.bool false]] (.agg #[.string (⟨#[105,116,101,114,95,100,114,111,112]⟩ : ByteArray),.int .i64 (16),.int .i64 (0),.int .i64 (0),.int .i64 (0),.int .i64 (0),.int .i64 (0),.int .i64 (0),.bool false,.bool true])
  [.o,.o,.o,.a 0,.a 0,.a 1]
  [1,1,1,1,1,1,1,1,1,1] (fun b => by kernel_rfl)
theorem zxJ : ConG Try.prog S 65 #[] (.agg #[.string (⟨#[]⟩ : ByteArray),.int .i64 (0),.int .i64 (0),.int .i64 (0),.int .i64 (0),.int .i64 (0),.int .i64 (0),.int .i64 (0),.bool false,.bool false,.string (⟨#[109,97,112,95,108,111,111,107,117,112]⟩ : ByteArray),.int .i64 (2),.int .i64 (3),.int .i64 (0),.int .i64 (0),.int .i64 (0),.int .i64 (1),.int .i64 (6),.bool false,.bool false,.string (⟨#[109,97,112,95,117,112,100,97,116,101]⟩ : ByteArray),.int .i64 (2),.int .i64 (3),.int .i64 (4),.int .i64 (1),.int .i64 (0),.int .i64 (0),.int .i64 (6),.bool false,.bool false,.string (⟨#[109,97,112,95,100,101,108,101,116,101]⟩ : ByteArray),.int .i64 (2),.int .i64 (3),.int .i64 (0),.int .i64 (0),.int .i64 (0),.int .i64 (0),.int .i64 (6),.bool false,.bool false,.string (⟨#[99,108,111,99,107]⟩ : ByteArray),.int .i64 (0),.int .i64 (0),.int .i64 (0),.int .i64 (0),.int .i64 (0),.int .i64 (0),.int .i64 (0),.bool false,.bool false,.string (⟨#[114,97,110,100,111,109]⟩ : ByteArray),.int .i64 (0),.int .i64 (0),.int .i64 (0),.int .i64 (0),.int .i64 (0),.int .i64 (0),.int .i64 (0),.bool false,.bool false,.string (⟨#[116,97,105,108,95,99,97,108,108]⟩ : ByteArray),.int .i64 (8),.int .i64 (2),.int .i64 (1),.int .i64 (0),.int .i64 (0),.int .i64 (0),.int .i64 (8),.bool false,.bool false,.string (⟨#[108,111,111,112]⟩ : ByteArray),.int .i64 (1),.int .i64 (9),.int .i64 (17),.int .i64 (0),.int .i64 (0),.int .i64 (0),.int .i64 (0),.bool false,.bool false,.string (⟨#[114,105,110,103,95,111,117,116,112,117,116]⟩ : ByteArray),.int .i64 (2),.int .i64 (5),.int .i64 (7),.int .i64 (0),.int .i64 (0),.int .i64 (0),.int .i64 (16),.bool false,.bool false,.string (⟨#[114,105,110,103,95,114,101,115,101,114,118,101]⟩ : ByteArray),.int .i64 (2),.int .i64 (1),.int .i64 (0),.int .i64 (0),.int .i64 (0),.int .i64 (2),.int .i64 (16),.bool true,.bool false,.string (⟨#[114,105,110,103,95,115,117,98,109,105,116]⟩ : ByteArray),.int .i64 (10),.int .i64 (0),.int .i64 (0),.int .i64 (0),.int .i64 (0),.int .i64 (0),.int .i64 (0),.bool false,.bool true,.string (⟨#[114,105,110,103,95,100,105,115,99,97,114,100]⟩ : ByteArray),.int .i64 (10),.int .i64 (0),.int .i64 (0),.int .i64 (0),.int .i64 (0),.int .i64 (0),.int .i64 (0),.bool false,.bool true,.string (⟨#[114,105,110,103,95,113,117,101,114,121]⟩ : ByteArray),.int .i64 (2),.int .i64 (0),.int .i64 (0),.int .i64 (0),.int .i64 (0),.int .i64 (0),.int .i64 (16),.bool false,.bool false,.string (⟨#[115,111,99,107,95,108,111,111,107,117,112]⟩ : ByteArray),.int .i64 (8),.int .i64 (5),.int .i64 (7),.int .i64 (0),.int .i64 (0),.int .i64 (3),.int .i64 (0),.bool true,.bool false,.string (⟨#[115,111,99,107,95,114,101,108,101,97,115,101]⟩ : ByteArray),.int .i64 (11),.int .i64 (0),.int .i64 (0),.int .i64 (0),.int .i64 (0),.int .i64 (0),.int .i64 (0),.bool false,.bool true,.string (⟨#[116,105,109,101,114,95,105,110,105,116]⟩ : ByteArray),.int .i64 (12),.int .i64 (2),.int .i64 (0),.int .i64 (0),.int .i64 (0),.int .i64 (0),.int .i64 (6),.bool false,.bool false,.string (⟨#[116,105,109,101,114,95,99,97,108,108,98,97,99,107]⟩ : ByteArray),.int .i64 (12),.int .i64 (9),.int .i64 (0),.int .i64 (0),.int .i64 (0),.int .i64 (0),.int .i64 (0),.bool false,.bool false,.string (⟨#[116,105,109,101,114,95,115,116,97,114,116]⟩ : ByteArray),.int .i64 (12),.int .i64 (1),.int .i64 (0),.int .i64 (0),.int .i64 (0),.int .i64 (0),.int .i64 (0),.bool false,.bool false,.string (⟨#[116,105,109,101,114,95,99,97,110,99,101,108]⟩ : ByteArray),.int .i64 (12),.int .i64 (0),.int .i64 (0),.int .i64 (0),.int .i64 (0),.int .i64 (0),.int .i64 (0),.bool false,.bool false,.string (⟨#[100,121,110,95,114,101,115,101,114,118,101]⟩ : ByteArray),.int .i64 (2),.int .i64 (1),.int .i64 (13),.int .i64 (0),.int .i64 (0),.int .i64 (0),.int .i64 (16),.bool true,.bool false,.string (⟨#[100,121,110,95,115,117,98,109,105,116]⟩ : ByteArray),.int .i64 (14),.int .i64 (0),.int .i64 (0),.int .i64 (0),.int .i64 (0),.int .i64 (0),.int .i64 (0),.bool false,.bool true,.string (⟨#[100,121,110,95,100,105,115,99,97,114,100]⟩ : ByteArray),.int .i64 (14),.int .i64 (0),.int .i64 (0),.int .i64 (0),.int .i64 (0),.int .i64 (0),.int .i64 (0),.bool false,.bool true,.string (⟨#[100,121,110,95,109,101,109]⟩ : ByteArray),.int .i64 (5),.int .i64 (7),.int .i64 (13),.int .i64 (0),.int .i64 (0),.int .i64 (0),.int .i64 (0),.bool false,.bool false,.string (⟨#[100,121,110,95,114,101,97,100]⟩ : ByteArray),.int .i64 (6),.int .i64 (7),.int .i64 (14),.int .i64 (1),.int .i64 (0),.int .i64 (0),.int .i64 (0),.bool false,.bool false,.string (⟨#[100,121,110,95,119,114,105,116,101]⟩ : ByteArray),.int .i64 (14),.int .i64 (1),.int .i64 (5),.int .i64 (7),.int .i64 (0),.int .i64 (0),.int .i64 (0),.bool false,.bool false,.string (⟨#[100,121,110,95,100,97,116,97]⟩ : ByteArray),.int .i64 (14),.int .i64 (1),.int .i64 (1),.int .i64 (0),.int .i64 (0),.int .i64 (4),.int .i64 (0),.bool false,.bool false,.string (⟨#[105,116,101,114,95,110,101,119]⟩ : ByteArray),.int .i64 (15),.int .i64 (1),.int .i64 (1),.int .i64 (0),.int .i64 (0),.int .i64 (0),.int .i64 (0),.bool true,.bool false,.string (⟨#[105,116,101,114,95,110,101,120,116]⟩ : ByteArray),.int .i64 (16),.int .i64 (0),.int .i64 (0),.int .i64 (0),.int .i64 (0),.int .i64 (5),.int .i64 (0),.bool false,.bool false,.string (⟨#[105,116,101,114,95,100,114,111,112]⟩ : ByteArray),.int .i64 (16),.int .i64 (0),.int .i64 (0),.int .i64 (0),.int .i64 (0),.int .i64 (0),.int .i64 (0),.bool false,.bool true]) :=
 zc hU (P := Try.prog) Try.func65 (fun xs w => by kernel_rfl) [] (.agg #[.string (⟨#[]⟩ : ByteArray),.int .i64 (0),.int .i64 (0),.int .i64 (0),.int .i64 (0),.int .i64 (0),.int .i64 (0),.int .i64 (0),.bool false,.bool false,.string (⟨#[109,97,112,95,108,111,111,107,117,112]⟩ : ByteArray),.int .i64 (2),.int .i64 (3),.int .i64 (0),.int .i64 (0),.int .i64 (0),.int .i64 (1),.int .i64 (6),.bool false,.bool false,.string (⟨#[109,97,112,95,117,112,100,97,116,101]⟩ : ByteArray),.int .i64 (2),.int .i64 (3),.int .i64 (4),.int .i64 (1),.int .i64 (0),.int .i64 (0),.int .i64 (6),.bool false,.bool false,.string (⟨#[109,97,112,95,100,101,108,101,116,101]⟩ : ByteArray),.int .i64 (2),.int .i64 (3),.int .i64 (0),.int .i64 (0),.int .i64 (0),.int .i64 (0),.int .i64 (6),.bool false,.bool false,.string (⟨#[99,108,111,99,107]⟩ : ByteArray),.int .i64 (0),.int .i64 (0),.int .i64 (0),.int .i64 (0),.int .i64 (0),.int .i64 (0),.int .i64 (0),.bool false,.bool false,.string (⟨#[114,97,110,100,111,109]⟩ : ByteArray),.int .i64 (0),.int .i64 (0),.int .i64 (0),.int .i64 (0),.int .i64 (0),.int .i64 (0),.int .i64 (0),.bool false,.bool false,.string (⟨#[116,97,105,108,95,99,97,108,108]⟩ : ByteArray),.int .i64 (8),.int .i64 (2),.int .i64 (1),.int .i64 (0),.int .i64 (0),.int .i64 (0),.int .i64 (8),.bool false,.bool false,.string (⟨#[108,111,111,112]⟩ : ByteArray),.int .i64 (1),.int .i64 (9),.int .i64 (17),.int .i64 (0),.int .i64 (0),.int .i64 (0),.int .i64 (0),.bool false,.bool false,.string (⟨#[114,105,110,103,95,111,117,116,112,117,116]⟩ : ByteArray),.int .i64 (2),.int .i64 (5),.int .i64 (7),.int .i64 (0),.int .i64 (0),.int .i64 (0),.int .i64 (16),.bool false,.bool false,.string (⟨#[114,105,110,103,95,114,101,115,101,114,118,101]⟩ : ByteArray),.int .i64 (2),.int .i64 (1),.int .i64 (0),.int .i64 (0),.int .i64 (0),.int .i64 (2),.int .i64 (16),.bool true,.bool false,.string (⟨#[114,105,110,103,95,115,117,98,109,105,116]⟩ : ByteArray),.int .i64 (10),.int .i64 (0),.int .i64 (0),.int .i64 (0),.int .i64 (0),.int .i64 (0),.int .i64 (0),.bool false,.bool true,.string (⟨#[114,105,110,103,95,100,105,115,99,97,114,100]⟩ : ByteArray),.int .i64 (10),.int .i64 (0),.int .i64 (0),.int .i64 (0),.int .i64 (0),.int .i64 (0),.int .i64 (0),.bool false,.bool true,.string (⟨#[114,105,110,103,95,113,117,101,114,121]⟩ : ByteArray),.int .i64 (2),.int .i64 (0),.int .i64 (0),.int .i64 (0),.int .i64 (0),.int .i64 (0),.int .i64 (16),.bool false,.bool false,.string (⟨#[115,111,99,107,95,108,111,111,107,117,112]⟩ : ByteArray),.int .i64 (8),.int .i64 (5),.int .i64 (7),.int .i64 (0),.int .i64 (0),.int .i64 (3),.int .i64 (0),.bool true,.bool false,.string (⟨#[115,111,99,107,95,114,101,108,101,97,115,101]⟩ : ByteArray),.int .i64 (11),.int .i64 (0),.int .i64 (0),.int .i64 (0),.int .i64 (0),.int .i64 (0),.int .i64 (0),.bool false,.bool true,.string (⟨#[116,105,109,101,114,95,105,110,105,116]⟩ : ByteArray),.int .i64 (12),.int .i64 (2),.int .i64 (0),.int .i64 (0),.int .i64 (0),.int .i64 (0),.int .i64 (6),.bool false,.bool false,.string (⟨#[116,105,109,101,114,95,99,97,108,108,98,97,99,107]⟩ : ByteArray),.int .i64 (12),.int .i64 (9),.int .i64 (0),.int .i64 (0),.int .i64 (0),.int .i64 (0),.int .i64 (0),.bool false,.bool false,.string (⟨#[116,105,109,101,114,95,115,116,97,114,116]⟩ : ByteArray),.int .i64 (12),.int .i64 (1),.int .i64 (0),.int .i64 (0),.int .i64 (0),.int .i64 (0),.int .i64 (0),.bool false,.bool false,.string (⟨#[116,105,109,101,114,95,99,97,110,99,101,108]⟩ : ByteArray),.int .i64 (12),.int .i64 (0),.int .i64 (0),.int .i64 (0),.int .i64 (0),.int .i64 (0),.int .i64 (0),.bool false,.bool false,.string (⟨#[100,121,110,95,114,101,115,101,114,118,101]⟩ : ByteArray),.int .i64 (2),.int .i64 (1),.int .i64 (13),.int .i64 (0),.int .i64 (0),.int .i64 (0),.int .i64 (16),.bool true,.bool false,.string (⟨#[100,121,110,95,115,117,98,109,105,116]⟩ : ByteArray),.int .i64 (14),.int .i64 (0),.int .i64 (0),.int .i64 (0),.int .i64 (0),.int .i64 (0),.int .i64 (0),.bool false,.bool true,.string (⟨#[100,121,110,95,100,105,115,99,97,114,100]⟩ : ByteArray),.int .i64 (14),.int .i64 (0),.int .i64 (0),.int .i64 (0),.int .i64 (0),.int .i64 (0),.int .i64 (0),.bool false,.bool true,.string (⟨#[100,121,110,95,109,101,109]⟩ : ByteArray),.int .i64 (5),.int .i64 (7),.int .i64 (13),.int .i64 (0),.int .i64 (0),.int .i64 (0),.int .i64 (0),.bool false,.bool false,.string (⟨#[100,121,110,95,114,101,97,100]⟩ : ByteArray),.int .i64 (6),.int .i64 (7),.int .i64 (14),.int .i64 (1),.int .i64 (0),.int .i64 (0),.int .i64 (0),.bool false,.bool false,.string (⟨#[100,121,110,95,119,114,105,116,101]⟩ : ByteArray),.int .i64 (14),.int .i64 (1),.int .i64 (5),.int .i64 (7),.int .i64 (0),.int .i64 (0),.int .i64 (0),.bool false,.bool false,.string (⟨#[100,121,110,95,100,97,116,97]⟩ : ByteArray),.int .i64 (14),.int .i64 (1),.int .i64 (1),.int .i64 (0),.int .i64 (0),.int .i64 (4),.int .i64 (0),.bool false,.bool false,.string (⟨#[105,116,101,114,95,110,101,119]⟩ : ByteArray),.int .i64 (15),.int .i64 (1),.int .i64 (1),.int .i64 (0),.int .i64 (0),.int .i64 (0),.int .i64 (0),.bool true,.bool false,.string (⟨#[105,116,101,114,95,110,101,120,116]⟩ : ByteArray),.int .i64 (16),.int .i64 (0),.int .i64 (0),.int .i64 (0),.int .i64 (0),.int .i64 (5),.int .i64 (0),.bool false,.bool false,.string (⟨#[105,116,101,114,95,100,114,111,112]⟩ : ByteArray),.int .i64 (16),.int .i64 (0),.int .i64 (0),.int .i64 (0),.int .i64 (0),.int .i64 (0),.int .i64 (0),.bool false,.bool true])
  [.o,.o,.xg (zw2 hU  ) [1],.o,.xg (zua hU  ) [2],.o,.xg (zun hU  ) [3],.cg (zvF hU  ),.cg (zvE hU  ),.o,.xg (zuk hU  ) [4],.o,.xg (zvz hU  ) [5],.o,.xg (zut hU  ) [6],.o,.xg (zuy hU  ) [7],.cg (zvq hU  ),.o,.xg (zvt hU  ) [8],.cg (zvG hU  ),.o,.xg (zuX hU  ) [9],.cg (ztf hU  ),.o,.xg (zuf hU  ) [10],.o,.xg (zu4 hU  ) [11],.cg (ztr hU  ),.o,.xg (zud hU  ) [12],.cg (ztm hU  ),.o,.xg (zuj hU  ) [13],.o,.xg (zur hU  ) [14],.o,.xg (zuP hU  ) [15],.o,.xg (zuK hU  ) [16],.o,.xg (zva hU  ) [17],.cg (ztb hU  ),.o,.xg (zuO hU  ) [18],.cg (ztp hU  ),.o,.xg (zuw hU  ) [19],.cg (zth hU  ),.o,.xg (zuT hU  ) [20],.o,.xg (zuS hU  ) [21],.o,.xg (zul hU  ) [22],.o,.xg (zuQ hU  ) [23],.o,.xg (zu2 hU  ) [24],.cg (zto hU  ),.o,.xg (zuu hU  ) [25],.o,.xg (zu0 hU  ) [26],.cg (ztq hU  ),.o,.a 0]
  [0,0,0,0,0,0,0,0,0,0,0,0,0,0,0,0,0,0,0,0,0,0,0,0,0,0,0,0,0,0,0,0,0,0,0,0,0,0,0,0,0,0,0,0,0,0,0,0,0,0,0,0,0,0,0,0,0,0,0,0,0,0,0,0,0,0,0,0,0,0,0,0,0,0,0,0,0,0,0,0,0,0,0,0,0,0,0,0,0,0,0,0,0,0,0,0,0,0,0,0,0,0,0,0,0,0,0,0,0,0,0,0,0,0,0,0,0,0,0,0,0,0,0,0,0,0,0,0,0,0,0,0,0,0,0,0,0,0,0,0,0,0,0,0,0,0,0,0,0,0,0,0,0,0,0,0,0,0,0,0,0,0,0,0,0,0,0,0,0,0,0,0,0,0,0,0,0,0,0,0,0,0,0,0,0,0,0,0,0,0,0,0,0,0,0,0,0,0,0,0,0,0,0,0,0,0,0,0,0,0,0,0,0,0,0,0,0,0,0,0,0,0,0,0,0,0,0,0,0,0,0,0,0,0,0,0,0,0,0,0,0,0,0,0,0,0,0,0,0,0,0,0,0,0,0,0,0,0,0,0,0,0,0,0,0,0,0,0,0,0,0,0,0,0,0,0,0,0,0,0,0,0,0,0,0,0,0,0,0,0] (fun b => by kernel_rfl)
noncomputable def zs0 (y0 : Int) : Option ((zZ) × (Int)) :=
 bif decide (y0 < 1) then
 (some ((⟨(⟨#[]⟩ : ByteArray),(⟨0,0,0,0,0⟩ : zde),0,0,false,false⟩ : zZ),130))
 else (bif decide (28 < y0) then
 (some ((⟨(⟨#[]⟩ : ByteArray),(⟨0,0,0,0,0⟩ : zde),0,0,false,false⟩ : zZ),130))
 else (bif inR y0 29 then
 (some ((⟨((tb0 (y0).toNat)).fName,(((tb0 (y0).toNat)).fArgs),((tb0 (y0).toNat)).fRet,((tb0 (y0).toNat)).fMaps,((tb0 (y0).toNat)).fAcquire,((tb0 (y0).toNat)).fRelease⟩ : zZ),0))
 else (none)))
theorem zzo (y0 : Int) (r : (zZ) × (Int)) (e : zs0 y0 = some r) : ConG Try.prog S 53 #[.int .i64 (y0)] (vt3 r) := by
 unfold zs0 at e
 replace e := za e
 rcases e with ⟨hq0,e⟩ | ⟨hq0,e⟩
 ·injection e with e; subst e; exact zc hU (P := Try.prog) Try.func53 (fun xs w => by kernel_rfl) _ _ [.o,.o,.o,.b (zcR hq0),.o,.o,.o,.a 0,.o] [0,0,0,0,0,0,0,0,0,0] (fun b => by kernel_rfl)
 ·replace e := za e
  rcases e with ⟨hq1,e⟩ | ⟨hq1,e⟩
  ·injection e with e; subst e; exact zc hU (P := Try.prog) Try.func53 (fun xs w => by kernel_rfl) _ _ [.o,.o,.o,.b (zb7 hq0),.o,.o,.b (zid hq1),.o,.o,.a 0,.o] [0,0,0,0,0,0,0,0,0,0] (fun b => by kernel_rfl)
  ·replace e := za e
   rcases e with ⟨hq2,e⟩ | ⟨hq2,e⟩
   ·injection e with e; subst e; exact zc hU (P := Try.prog) Try.func53 (fun xs w => by kernel_rfl) _ _ [.o,.o,.o,.b (zb7 hq0),.o,.o,.b (zgR hq1),.o,.cg (zxJ hU  ),.o,.ov (zCD (kd := .i64) (T := 97) (e := 49) (n := 29) (sz := 10) (cs := ⟨zDq⟩) (x := y0) (by kernel_rfl) (fun w => by kernel_rfl) (fun w => by kernel_rfl) hq2 (zC4 (ze hq2))),.a 0,.o] [0,0,0,0,0,0,0,0,0,0] (fun b => by kernel_rfl)
   ·exact zd e
inductive zeD where
 | c0 (s0_0 : BitVec 16) (s0_1 : Int)
inductive zeC where
 | e0 (c0_0 : BitVec 16)
noncomputable def zdb (r0 : (zZ) × (Int)) : zeD → Option (zeD ⊕ zeC)
 | .c0 s0_0 s0_1 =>
 bif decide (s0_1 < 5) then
 (bif inR s0_1 5 then
 (bif (zvN r0.1.fArgs (s0_1).toNat) == 0 then
 (some (.inl (.c0 s0_0 (IntKind.i64.wrap (s0_1 + 1)))))
 else (bif decide (0 ≤ (IntKind.i64.wrap (s0_1 + 1))) then
 (some (.inl (.c0 (s0_0 ||| (1#16 <<< ((IntKind.i64.wrap (s0_1 + 1))).toNat)) (IntKind.i64.wrap (s0_1 + 1)))))
 else (none)))
 else (none))
 else (some (.inr (.e0 s0_0)))
noncomputable def zqQ : Code := zb6 Try.f38 [1,1,1,0,1,0,0]
def zv6 (y0 : Int) (r0 : (zZ) × (Int)) : zeD → List L1 → List Value
 | .c0 s0_0 s0_1,ls => [.int .u16 (nn s0_0),.agg #[.int .i64 (r0.1.fArgs.x0),.int .i64 (r0.1.fArgs.x1),.int .i64 (r0.1.fArgs.x2),.int .i64 (r0.1.fArgs.x3),.int .i64 (r0.1.fArgs.x4)],.int .i64 (s0_1)]
def zwm : zeD → List (Nat × Nat)
 | .c0 _ _ => [(0,3),(1,10),(2,12)]
noncomputable def zwf (y0 : Int) (r0 : (zZ) × (Int)) (s : zeD) : List L1 → List Value := mrgF (zwm s) (zv6 y0 r0 s) 1
def zv8 (y0 : Int) (r0 : (zZ) × (Int)) : zeD → List L1 → List Obj
 | .c0 s0_0 s0_1,ls => [.cells #[.string r0.1.fName,.int .i64 (r0.1.fArgs.x0),.int .i64 (r0.1.fArgs.x1),.int .i64 (r0.1.fArgs.x2),.int .i64 (r0.1.fArgs.x3),.int .i64 (r0.1.fArgs.x4),.int .i64 (r0.1.fRet),.int .i64 (r0.1.fMaps),.bool (r0.1.fAcquire),.bool (r0.1.fRelease)] 49,unb]
def zwc (y0 : Int) (r0 : (zZ) × (Int)) : zeC → List L1 → List Value
 | .e0 c0_0,ls => [.int .u16 (nn c0_0),.agg #[.int .i64 (r0.1.fArgs.x0),.int .i64 (r0.1.fArgs.x1),.int .i64 (r0.1.fArgs.x2),.int .i64 (r0.1.fArgs.x3),.int .i64 (r0.1.fArgs.x4)]]
def zv1 : zeC → List (Nat × Nat)
 | .e0 _ => [(0,3),(1,10),(1,13)]
noncomputable def zqW (y0 : Int) (r0 : (zZ) × (Int)) (r : zeC) : List L1 → List Value := mrgF (zv1 r) (zwc y0 r0 r) 1
def zl4 (y0 : Int) (r0 : (zZ) × (Int)) : zeC → List L1 → List Obj
 | .e0 c0_0,ls => [.cells #[.string r0.1.fName,.int .i64 (r0.1.fArgs.x0),.int .i64 (r0.1.fArgs.x1),.int .i64 (r0.1.fArgs.x2),.int .i64 (r0.1.fArgs.x3),.int .i64 (r0.1.fArgs.x4),.int .i64 (r0.1.fRet),.int .i64 (r0.1.fMaps),.bool (r0.1.fAcquire),.bool (r0.1.fRelease)] 49,unb]
def zwr : zeC → Ex
 | .e0 _ => (.exit 0)
end
section
variable {M : Nat → Prop} {B0 : Nat} {S : World → Prop} (hU : Up M B0 S) (y0 : Int) (r0 : (zZ) × (Int))
include hU y0 r0
theorem zwd (s : zeD) (r : zeC) (h : lpO (zdb r0) s = some r) : zdm Try.prog M B0 S (.loop zqQ) 2 (zwf y0 r0 s) (zv8 y0 r0 s) (zwr r) 1 (zqW y0 r0 r) (zl4 y0 r0 r) 2 :=
 zb5 (fun s q e => by
  cases s with
  | c0 s0_0 s0_1 =>
   unfold zdb at e
   dsimp only at e
   replace e := za e
   rcases e with ⟨hq0,e⟩ | ⟨hq0,e⟩
   ·replace e := za e
    rcases e with ⟨hq1,e⟩ | ⟨hq1,e⟩
    ·replace e := za e
     let P1 : List (PG Try.prog M B0 S) := [.b (zcR hq0),.o,.ov (zCJ (kd := .i64) (T := 47) (e := 3) (n := 5) (cs := ⟨zAy r0.1.fArgs⟩) (x := s0_1) (v := .int .i64 ((zvN r0.1.fArgs (s0_1).toNat))) (by kernel_rfl) (fun w => by kernel_rfl) (fun w => by kernel_rfl) hq1 (zB1 (zAd r0.1.fArgs (ze hq1)))),.o,.o,.o]
     rcases e with ⟨hq2,e⟩ | ⟨hq2,e⟩
     ·cases e; exact zb hU (P1 ++ [.b (zdq hq2),.o,.o]) [0] (fun b => rfl) (by decide) rfl rfl (fun b => by kernel_rfl)
     ·replace e := za e
      rcases e with ⟨hq3,e⟩ | ⟨hq3,e⟩
      ·cases e; exact zb hU (P1 ++ [.b (zdU hq2),.o,.o,.o,.ov (zwX Try.prog 27 (.const (.int .u16 (1))) (.tmp 23) (1#16) ((IntKind.i64.wrap (s0_1 + 1))).toNat .i64 (zCz hq3)),.v .u16 (zml s0_0 (1#16 <<< ((IntKind.i64.wrap (s0_1 + 1))).toNat)),.o,.o,.o]) [0] (fun b => rfl) (by decide) rfl rfl (fun b => by kernel_rfl)
      ·exact zd e
    ·exact zd e
   ·cases e; exact ⟨zcn 0,zb hU [.b (zb7 hq0)] [0] (fun b => rfl) (by decide) rfl rfl (fun b => by kernel_rfl)⟩) s r h
noncomputable def zoz (y0 : Int) (r0 : (zZ) × (Int)) (s0_0 : BitVec 16) (s0_1 : Int) (ls : List L1) : List Value := List.append [.int .i64 (y0),undef,.int .u16 (0),.int .u16 (nn s0_0),.pointer (some ⟨(lget ls 0).n,0,none⟩),.int .i64 (r0.2),undef,undef,.tuple #[(zvj r0.1),.int .i64 (r0.2)],.int .i64 (y0),.tuple #[(zvj r0.1),.int .i64 (r0.2)],(zvj r0.1),.int .i64 (r0.2),.pointer (some ⟨(lget ls 0).n,1,none⟩),.agg #[.int .i64 (r0.1.fArgs.x0),.int .i64 (r0.1.fArgs.x1),.int .i64 (r0.1.fArgs.x2),.int .i64 (r0.1.fArgs.x3),.int .i64 (r0.1.fArgs.x4)],.int .i64 (s0_1)] (und 12)
def zmW (y0 : Int) (r0 : (zZ) × (Int)) (s0_0 : BitVec 16) (s0_1 : Int) (ls : List L1) : List Obj := [.cells #[.string r0.1.fName,.int .i64 (r0.1.fArgs.x0),.int .i64 (r0.1.fArgs.x1),.int .i64 (r0.1.fArgs.x2),.int .i64 (r0.1.fArgs.x3),.int .i64 (r0.1.fArgs.x4),.int .i64 (r0.1.fRet),.int .i64 (r0.1.fMaps),.bool (r0.1.fAcquire),.bool (r0.1.fRelease)] 49]
theorem zr5 (s0_0 : BitVec 16) (s0_1 : Int) (c0_0 : BitVec 16) (h : lpO (zdb r0) (.c0 s0_0 s0_1) = some (.e0 c0_0)) : SpcG Try.prog M B0 S ⟨fun ls => .code (.loop zqQ) (zoz y0 r0 s0_0 s0_1 ls),zmW y0 r0 s0_0 s0_1,1,(.exit 0),fun ls => zqW y0 r0 (.e0 c0_0) (ls.take 1 ++ ls.drop 1),fun ls => (zl4 y0 r0 (.e0 c0_0) (ls.take 1 ++ ls.drop 1)).take 1 ++ List.replicate 0 unb,fun ls => (zl4 y0 r0 (.e0 c0_0) (ls.take 1 ++ ls.drop 1)).drop 1⟩ :=
 zr hU 0 (k0 := 1) (zwd hU y0 r0 _ _ h) (zoz y0 r0 s0_0 s0_1) (zmW y0 r0 s0_0 s0_1) (fun _ => rfl) (fun ls h => by match ls,h with | [l0],_ => exact ⟨by kernel_rfl,by kernel_rfl⟩) (fun ls h => by match ls,h with | [l0],_ => rfl) (by decide) (by decide) (fun ls => rfl)
noncomputable def zkM (y0 : Int) : Option (BitVec 16) :=
 (zs0 y0).bind fun r0 =>
 (lpO (zdb r0) (.c0 (0#16) 0)).bind fun g1 => match g1 with
 | .e0 g1_0 =>
 some g1_0
end
section
variable {M : Nat → Prop} {B0 : Nat} {S : World → Prop} (hU : Up M B0 S)
include hU
theorem zyw (y0 : Int) (r : BitVec 16) (e : zkM y0 = some r) : ConG Try.prog S 38 #[.int .i64 (y0)] (.int .u16 (nn r)) := by
 unfold zkM at e
 replace e := zf e
 obtain ⟨r0,e_r0,e⟩ := e
 try dsimp only at e
 replace e := zf e
 obtain ⟨g1,e_g1,e⟩ := e
 obtain ⟨g1_0⟩ := g1
 try dsimp only at e
 injection e with e; subst e; exact zc hU (P := Try.prog) Try.func38 (fun xs w => by kernel_rfl) _ _ [.o,.o,.o,.cg (zzo hU y0 r0 e_r0),.o,.o,.o,.o,.a 0,.o,.o,.a 0,.o,.cp,.cx (zr5 hU y0 r0 (0#16) 0 g1_0 e_g1) [0],.o,.o] [] (fun b => by kernel_rfl)
noncomputable def zfn (y0 : Insn) : Option (BitVec 16) :=
 bif (y0.fOp >>> 4) == 0#8 then
 (some (0#16))
 else (bif (y0.fOp >>> 4) == 9#8 then
 (some (1#16))
 else (bif (y0.fOp >>> 4) == 8#8 then
 (bif y0.fSrc == 1#8 then
 (some (62#16))
 else ((zkM (ii y0.fImm)).bind fun r0 =>
 some r0))
 else (zv (zc3 y0.fDst) fun r0 =>
 zv (zg2 y0) fun r1 =>
 some (r0 ||| r1))))
theorem zo6 (y0 : Insn) (r : BitVec 16) (e : zfn y0 = some r) : ConG Try.prog S 17 #[(zeP y0)] (.int .u16 (nn r)) := by
 unfold zfn at e
 replace e := za e
 let P1 : List (PG Try.prog M B0 S) := [.o,.o,.o,.a 0,.ov (zwY Try.prog 5 (.tmp 4) (.const (.int .u64 (4))) y0.fOp 4 .u64 rfl)]
 rcases e with ⟨hq0,e⟩ | ⟨hq0,e⟩
 ·injection e with e; subst e; exact zc hU (P := Try.prog) Try.func17 (fun xs w => by kernel_rfl) _ _ (P1 ++ [.t (u_eq (y0.fOp >>> 4) (0#8)) hq0,.o,.o]) [] (fun b => by kernel_rfl)
 ·replace e := za e
  let P2 : List (PG Try.prog M B0 S) := P1 ++ [.t (u_eq (y0.fOp >>> 4) (0#8)) hq0,.o]
  rcases e with ⟨hq1,e⟩ | ⟨hq1,e⟩
  ·injection e with e; subst e; exact zc hU (P := Try.prog) Try.func17 (fun xs w => by kernel_rfl) _ _ (P2 ++ [.t (u_eq (y0.fOp >>> 4) (9#8)) hq1,.o,.o]) [] (fun b => by kernel_rfl)
  ·replace e := za e
   rcases e with ⟨hq2,e⟩ | ⟨hq2,e⟩
   ·replace e := za e
    let P3 : List (PG Try.prog M B0 S) := P2 ++ [.t (u_eq (y0.fOp >>> 4) (9#8)) hq1,.o,.t (u_eq (y0.fOp >>> 4) (8#8)) hq2,.o,.o,.a 0]
    rcases e with ⟨hq3,e⟩ | ⟨hq3,e⟩
    ·injection e with e; subst e; exact zc hU (P := Try.prog) Try.func17 (fun xs w => by kernel_rfl) _ _ (P3 ++ [.t (u_eq y0.fSrc (1#8)) hq3,.o]) [] (fun b => by kernel_rfl)
    ·replace e := zf e
     obtain ⟨r0,e_r0,e⟩ := e
     try dsimp only at e
     injection e with e; subst e; exact zc hU (P := Try.prog) Try.func17 (fun xs w => by kernel_rfl) _ _ (P3 ++ [.t (u_eq y0.fSrc (1#8)) hq3,.o,.a 0,.v .i64 (zdW (by decide) y0.fImm),.cg (zyw hU (ii y0.fImm) r0 e_r0),.o]) [] (fun b => by kernel_rfl)
   ·replace e := zg e
    obtain ⟨r0,e_r0,e⟩ := e
    try dsimp only at e
    replace e := zg e
    obtain ⟨r1,e_r1,e⟩ := e
    try dsimp only at e
    injection e with e; subst e; exact zc hU (P := Try.prog) Try.func17 (fun xs w => by kernel_rfl) _ _ (P2 ++ [.t (u_eq (y0.fOp >>> 4) (9#8)) hq1,.o,.t (u_eq (y0.fOp >>> 4) (8#8)) hq2,.o,.r [0,1,2,3,4,5,6] [] [],.o,.a 0,.cg (zdP hU y0.fDst r0 e_r0),.a 0,.cg (zm8 hU y0 r1 e_r1),.v .u16 (zml r0 r1),.o]) [] (fun b => by kernel_rfl)
noncomputable def zcS (y0 : Insn) : Option ((BitVec 16) × (Bool)) :=
 (ziO y0).bind fun r0 =>
 bif r0 then
 (bif (y0.fOp &&& 7#8) == 1#8 then
 (zv (zc3 y0.fSrc) fun r1 =>
 some (r1,true))
 else (bif (y0.fOp &&& 7#8) == 2#8 then
 (zv (zc3 y0.fDst) fun r1 =>
 some (r1,true))
 else (bif (y0.fOp &&& 7#8) == 3#8 then
 (zv (zc3 y0.fDst) fun r1 =>
 zv (zc3 y0.fSrc) fun r2 =>
 some ((r1 ||| r2),true))
 else (bif (y0.fOp &&& 7#8) == 4#8 then
 (zv (zhF y0) fun r1 =>
 some (r1,true))
 else (bif (y0.fOp &&& 7#8) == 7#8 then
 (zv (zhF y0) fun r1 =>
 some (r1,true))
 else (bif (y0.fOp &&& 7#8) == 5#8 then
 ((zfn y0).bind fun r1 =>
 some (r1,true))
 else (bif (y0.fOp &&& 7#8) == 6#8 then
 ((zfn y0).bind fun r1 =>
 some (r1,true))
 else (some (0#16,true)))))))))
 else (some (0#16,false))
end
section
variable {M : Nat → Prop} {B0 : Nat} {S : World → Prop} (hU : Up M B0 S) (y0 : Insn) (r : (BitVec 16) × (Bool))
include hU y0 r
theorem zqk (e : zcS y0 = some r) : ConG Try.prog S 5 #[(zeP y0)] (vt5 r) := by
 unfold zcS at e
 replace e := zf e
 obtain ⟨r0,e_r0,e⟩ := e
 try dsimp only at e
 replace e := za e
 let P1 : List (PG Try.prog M B0 S) := [.o,.o,.o,.a 0]
 rcases e with ⟨hq0,e⟩ | ⟨hq0,e⟩
 ·subst hq0
  replace e := za e
  let P2 : List (PG Try.prog M B0 S) := P1 ++ [.cg (zmG hU y0 true e_r0),.o,.o,.a 0,.v .u8 (zpZ y0.fOp (7#8))]
  rcases e with ⟨hq1,e⟩ | ⟨hq1,e⟩
  ·replace e := zg e
   obtain ⟨r1,e_r1,e⟩ := e
   try dsimp only at e
   injection e with e; subst e; exact zc hU (P := Try.prog) Try.func5 (fun xs w => by kernel_rfl) _ _ (P2 ++ [.t (u_eq (y0.fOp &&& 7#8) (1#8)) hq1,.o,.o,.a 0,.cg (zdP hU y0.fSrc r1 e_r1),.o,.o]) [] (fun b => by kernel_rfl)
  ·replace e := za e
   let P3 : List (PG Try.prog M B0 S) := P2 ++ [.t (u_eq (y0.fOp &&& 7#8) (1#8)) hq1,.o]
   rcases e with ⟨hq2,e⟩ | ⟨hq2,e⟩
   ·replace e := zg e
    obtain ⟨r1,e_r1,e⟩ := e
    try dsimp only at e
    injection e with e; subst e; exact zc hU (P := Try.prog) Try.func5 (fun xs w => by kernel_rfl) _ _ (P3 ++ [.t (u_eq (y0.fOp &&& 7#8) (2#8)) hq2,.o,.o,.a 0,.cg (zdP hU y0.fDst r1 e_r1),.o,.o]) [] (fun b => by kernel_rfl)
   ·replace e := za e
    let P4 : List (PG Try.prog M B0 S) := P3 ++ [.t (u_eq (y0.fOp &&& 7#8) (2#8)) hq2,.o]
    rcases e with ⟨hq3,e⟩ | ⟨hq3,e⟩
    ·replace e := zg e
     obtain ⟨r1,e_r1,e⟩ := e
     try dsimp only at e
     replace e := zg e
     obtain ⟨r2,e_r2,e⟩ := e
     try dsimp only at e
     injection e with e; subst e; exact zc hU (P := Try.prog) Try.func5 (fun xs w => by kernel_rfl) _ _ (P4 ++ [.t (u_eq (y0.fOp &&& 7#8) (3#8)) hq3,.o,.r [0,1,2,3,4,5,6,7,8] [] [],.o,.a 0,.cg (zdP hU y0.fDst r1 e_r1),.o,.a 0,.cg (zdP hU y0.fSrc r2 e_r2),.v .u16 (zml r1 r2),.o,.o]) [] (fun b => by kernel_rfl)
    ·replace e := za e
     let P5 : List (PG Try.prog M B0 S) := P4 ++ [.t (u_eq (y0.fOp &&& 7#8) (3#8)) hq3,.o]
     rcases e with ⟨hq4,e⟩ | ⟨hq4,e⟩
     ·replace e := zg e
      obtain ⟨r1,e_r1,e⟩ := e
      try dsimp only at e
      injection e with e; subst e; exact zc hU (P := Try.prog) Try.func5 (fun xs w => by kernel_rfl) _ _ (P5 ++ [.t (u_eq (y0.fOp &&& 7#8) (4#8)) hq4,.o,.a 0,.cg (zqS hU y0 r1 e_r1),.o,.o]) [] (fun b => by kernel_rfl)
     ·replace e := za e
      let P6 : List (PG Try.prog M B0 S) := P5 ++ [.t (u_eq (y0.fOp &&& 7#8) (4#8)) hq4,.o]
      rcases e with ⟨hq5,e⟩ | ⟨hq5,e⟩
      ·replace e := zg e
       obtain ⟨r1,e_r1,e⟩ := e
       try dsimp only at e
       injection e with e; subst e; exact zc hU (P := Try.prog) Try.func5 (fun xs w => by kernel_rfl) _ _ (P6 ++ [.t (u_eq (y0.fOp &&& 7#8) (7#8)) hq5,.o,.a 0,.cg (zqS hU y0 r1 e_r1),.o,.o]) [] (fun b => by kernel_rfl)
      ·replace e := za e
       rcases e with ⟨hq6,e⟩ | ⟨hq6,e⟩
       ·replace e := zf e
        obtain ⟨r1,e_r1,e⟩ := e
        try dsimp only at e
        injection e with e; subst e; exact zc hU (P := Try.prog) Try.func5 (fun xs w => by kernel_rfl) _ _ (P6 ++ [.t (u_eq (y0.fOp &&& 7#8) (7#8)) hq5,.o,.t (u_eq (y0.fOp &&& 7#8) (5#8)) hq6,.o,.a 0,.cg (zo6 hU y0 r1 e_r1),.o,.o]) [] (fun b => by kernel_rfl)
       ·replace e := za e
        rcases e with ⟨hq7,e⟩ | ⟨hq7,e⟩
        ·replace e := zf e
         obtain ⟨r1,e_r1,e⟩ := e
         try dsimp only at e
         injection e with e; subst e; exact zc hU (P := Try.prog) Try.func5 (fun xs w => by kernel_rfl) _ _ (P6 ++ [.t (u_eq (y0.fOp &&& 7#8) (7#8)) hq5,.o,.t (u_eq (y0.fOp &&& 7#8) (5#8)) hq6,.o,.t (u_eq (y0.fOp &&& 7#8) (6#8)) hq7,.o,.a 0,.cg (zo6 hU y0 r1 e_r1),.o,.o]) [] (fun b => by kernel_rfl)
        ·injection e with e; subst e; exact zc hU (P := Try.prog) Try.func5 (fun xs w => by kernel_rfl) _ _ (P6 ++ [.t (u_eq (y0.fOp &&& 7#8) (7#8)) hq5,.o,.t (u_eq (y0.fOp &&& 7#8) (5#8)) hq6,.o,.t (u_eq (y0.fOp &&& 7#8) (6#8)) hq7,.o,.o,.o]) [] (fun b => by kernel_rfl)
 ·subst hq0
  injection e with e; subst e; exact zc hU (P := Try.prog) Try.func5 (fun xs w => by kernel_rfl) _ _ (P1 ++ [.cg (zmG hU y0 false e_r0),.o,.o,.o]) [] (fun b => by kernel_rfl)
noncomputable def zcZ (y0 : Insn) : Option ((BitVec 16) × (Bool)) :=
 (ziO y0).bind fun r0 =>
 bif r0 then
 (bif (y0.fOp &&& 7#8) == 0#8 then
 (zv (zc3 y0.fDst) fun r1 =>
 some (r1,true))
 else (bif (y0.fOp &&& 7#8) == 1#8 then
 (zv (zc3 y0.fDst) fun r1 =>
 some (r1,true))
 else (bif (y0.fOp &&& 7#8) == 4#8 then
 (zv (zc3 y0.fDst) fun r1 =>
 some (r1,true))
 else (bif (y0.fOp &&& 7#8) == 7#8 then
 (zv (zc3 y0.fDst) fun r1 =>
 some (r1,true))
 else (bif (y0.fOp &&& 7#8) == 5#8 then
 (bif (y0.fOp >>> 4) == 8#8 then
 (some (63#16,true))
 else (some (0#16,true)))
 else (some (0#16,true)))))))
 else (some (0#16,false))
theorem zoY (e : zcZ y0 = some r) : ConG Try.prog S 7 #[(zeP y0)] (vt5 r) := by
 unfold zcZ at e
 replace e := zf e
 obtain ⟨r0,e_r0,e⟩ := e
 try dsimp only at e
 replace e := za e
 let P1 : List (PG Try.prog M B0 S) := [.o,.o,.o,.a 0]
 rcases e with ⟨hq0,e⟩ | ⟨hq0,e⟩
 ·subst hq0
  replace e := za e
  let P2 : List (PG Try.prog M B0 S) := P1 ++ [.cg (zmG hU y0 true e_r0),.o,.o,.a 0,.v .u8 (zpZ y0.fOp (7#8))]
  rcases e with ⟨hq1,e⟩ | ⟨hq1,e⟩
  ·replace e := zg e
   obtain ⟨r1,e_r1,e⟩ := e
   try dsimp only at e
   injection e with e; subst e; exact zc hU (P := Try.prog) Try.func7 (fun xs w => by kernel_rfl) _ _ (P2 ++ [.t (u_eq (y0.fOp &&& 7#8) (0#8)) hq1,.o,.o,.a 0,.cg (zdP hU y0.fDst r1 e_r1),.o,.o]) [] (fun b => by kernel_rfl)
  ·replace e := za e
   let P3 : List (PG Try.prog M B0 S) := P2 ++ [.t (u_eq (y0.fOp &&& 7#8) (0#8)) hq1,.o]
   rcases e with ⟨hq2,e⟩ | ⟨hq2,e⟩
   ·replace e := zg e
    obtain ⟨r1,e_r1,e⟩ := e
    try dsimp only at e
    injection e with e; subst e; exact zc hU (P := Try.prog) Try.func7 (fun xs w => by kernel_rfl) _ _ (P3 ++ [.t (u_eq (y0.fOp &&& 7#8) (1#8)) hq2,.o,.o,.a 0,.cg (zdP hU y0.fDst r1 e_r1),.o,.o]) [] (fun b => by kernel_rfl)
   ·replace e := za e
    let P4 : List (PG Try.prog M B0 S) := P3 ++ [.t (u_eq (y0.fOp &&& 7#8) (1#8)) hq2,.o]
    rcases e with ⟨hq3,e⟩ | ⟨hq3,e⟩
    ·replace e := zg e
     obtain ⟨r1,e_r1,e⟩ := e
     try dsimp only at e
     injection e with e; subst e; exact zc hU (P := Try.prog) Try.func7 (fun xs w => by kernel_rfl) _ _ (P4 ++ [.t (u_eq (y0.fOp &&& 7#8) (4#8)) hq3,.o,.o,.a 0,.cg (zdP hU y0.fDst r1 e_r1),.o,.o]) [] (fun b => by kernel_rfl)
    ·replace e := za e
     let P5 : List (PG Try.prog M B0 S) := P4 ++ [.t (u_eq (y0.fOp &&& 7#8) (4#8)) hq3,.o]
     rcases e with ⟨hq4,e⟩ | ⟨hq4,e⟩
     ·replace e := zg e
      obtain ⟨r1,e_r1,e⟩ := e
      try dsimp only at e
      injection e with e; subst e; exact zc hU (P := Try.prog) Try.func7 (fun xs w => by kernel_rfl) _ _ (P5 ++ [.t (u_eq (y0.fOp &&& 7#8) (7#8)) hq4,.o,.o,.a 0,.cg (zdP hU y0.fDst r1 e_r1),.o,.o]) [] (fun b => by kernel_rfl)
     ·replace e := za e
      rcases e with ⟨hq5,e⟩ | ⟨hq5,e⟩
      ·replace e := za e
       let P6 : List (PG Try.prog M B0 S) := P5 ++ [.t (u_eq (y0.fOp &&& 7#8) (7#8)) hq4,.o,.t (u_eq (y0.fOp &&& 7#8) (5#8)) hq5,.o,.o,.a 0,.ov (zwY Try.prog 5 (.tmp 22) (.const (.int .u64 (4))) y0.fOp 4 .u64 rfl)]
       rcases e with ⟨hq6,e⟩ | ⟨hq6,e⟩
       ·injection e with e; subst e; exact zc hU (P := Try.prog) Try.func7 (fun xs w => by kernel_rfl) _ _ (P6 ++ [.t (u_eq (y0.fOp >>> 4) (8#8)) hq6,.o,.o]) [] (fun b => by kernel_rfl)
       ·injection e with e; subst e; exact zc hU (P := Try.prog) Try.func7 (fun xs w => by kernel_rfl) _ _ (P6 ++ [.t (u_eq (y0.fOp >>> 4) (8#8)) hq6,.o,.o]) [] (fun b => by kernel_rfl)
      ·injection e with e; subst e; exact zc hU (P := Try.prog) Try.func7 (fun xs w => by kernel_rfl) _ _ (P5 ++ [.t (u_eq (y0.fOp &&& 7#8) (7#8)) hq4,.o,.t (u_eq (y0.fOp &&& 7#8) (5#8)) hq5,.o,.o,.o]) [] (fun b => by kernel_rfl)
 ·subst hq0
  injection e with e; subst e; exact zc hU (P := Try.prog) Try.func7 (fun xs w => by kernel_rfl) _ _ (P1 ++ [.cg (zmG hU y0 false e_r0),.o,.o,.o]) [] (fun b => by kernel_rfl)
end

end Go.Proofs.Ytliijnpblddjfaa


