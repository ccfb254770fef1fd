/-
  Instructions: subprograms, jumps.
-/
import Derived.Test.YtliijnpblddjfaaS1AB
namespace Go.Proofs.Ytliijnpblddjfaa
open Go.RowKit
set_option linter.unusedVariables false
set_option linter.unusedSimpArgs false
set_option linter.unusedSectionVars false
set_option maxRecDepth 100000
set_option maxHeartbeats 4000000
structure Part where
 fFrom : Int
 fTo : Int
abbrev zdf (x : Part) : List Value := [.int .i64 (x.fFrom),.int .i64 (x.fTo)]
def zBz (x : Part) : Value := .agg #[.int .i64 (x.fFrom),.int .i64 (x.fTo)]
theorem zbn (x : Part) : (zdf x).length = 2 := rfl
theorem zcO (x : Part) : ((zdf x).all fun u => u.oneCell') = true := rfl
def vt0 (r : (Int) × (Bool)) : Value := .tuple #[(.int .i64 (r.1)),(.bool (r.2))]
noncomputable def zr71 : Value := (Try.prog.info? 75).bind TypeInfo.zero |>.getD undef
theorem rt71 : RowT Try.prog 71 75 ((Try.prog.info? 75).getD default) zr71 2 16 := ⟨by kernel_rfl,by kernel_rfl,by kernel_rfl,by kernel_rfl,by kernel_rfl,by kernel_rfl,by decide⟩
def vt1 (r : (Int) × (Int)) : Value := .tuple #[(.int .i64 (r.1)),(.int .i64 (r.2))]
noncomputable def zm4 (n0 : Nat) (A0 : Nat → Insn) (y1 : Part) : Option ((Int) × (Bool)) :=
 (zfr n0 A0 (IntKind.i64.wrap (y1.fTo - 1))).bind fun r0 =>
 bif r0 then
 (bif inR (IntKind.i64.wrap ((IntKind.i64.wrap (y1.fTo - 1)) - 1)) n0 then
 (bif ((A0 ((IntKind.i64.wrap ((IntKind.i64.wrap (y1.fTo - 1)) - 1))).toNat)).fOp == 149#8 then
 (some ((IntKind.i64.wrap ((IntKind.i64.wrap (y1.fTo - 1)) - 1)),true))
 else (some ((IntKind.i64.wrap ((IntKind.i64.wrap (y1.fTo - 1)) - 1)),(((A0 ((IntKind.i64.wrap ((IntKind.i64.wrap (y1.fTo - 1)) - 1))).toNat)).fOp == 5#8))))
 else (none))
 else (bif inR (IntKind.i64.wrap (y1.fTo - 1)) n0 then
 (bif ((A0 ((IntKind.i64.wrap (y1.fTo - 1))).toNat)).fOp == 149#8 then
 (some ((IntKind.i64.wrap (y1.fTo - 1)),true))
 else (some ((IntKind.i64.wrap (y1.fTo - 1)),(((A0 ((IntKind.i64.wrap (y1.fTo - 1))).toNat)).fOp == 5#8))))
 else (none))
section
variable {M : Nat → Prop} {B0 : Nat} {S : World → Prop} (hU : Up M B0 S) (a0 : Option Addr) (p0 q0 n0 k0 : Nat) (A0 : Nat → Insn) (hR0 : Ro S zd9 5 a0 p0 q0 n0 A0) (y1 : Part)
include hU a0 p0 q0 n0 k0 A0 hR0 y1
theorem zyY (r : (Int) × (Bool)) (e : zm4 n0 A0 y1 = some r) : ConG Try.prog S 57 #[.slice a0 n0 (n0 + k0),(zBz y1)] (vt0 r) := by
 unfold zm4 at e
 replace e := zf e
 obtain ⟨r0,e_r0,e⟩ := e
 try dsimp only at e
 replace e := za e
 let P1 : List (PG Try.prog M B0 S) := [.o,.o,.o,.o,.a 0,.o,.o,.o,.o]
 rcases e with ⟨hq0,e⟩ | ⟨hq0,e⟩
 ·subst hq0
  replace e := za e
  let P2 : List (PG Try.prog M B0 S) := P1 ++ [.cg (zeO hU a0 p0 q0 n0 k0 A0 hR0 (IntKind.i64.wrap (y1.fTo - 1)) true e_r0),.o,.o,.o,.r [0,1,2,3,4,5,6,7,8,9,10,11,12,13,14,15,16] [] [],.o,.o,.o]
  rcases e with ⟨hq1,e⟩ | ⟨hq1,e⟩
  ·replace e := za e
   let P3 : List (PG Try.prog M B0 S) := P2 ++ [.q (zA (kd := .i64) (T := 22) (x := (IntKind.i64.wrap ((IntKind.i64.wrap (y1.fTo - 1)) - 1))) (sz := 5) rfl (fun w => by kernel_rfl) hR0 hq1),.o,.l (zcm hR0 zj (ze hq1) 0 [.int .u8 (nn ((A0 ((IntKind.i64.wrap ((IntKind.i64.wrap (y1.fTo - 1)) - 1))).toNat)).fOp)] rfl)]
   rcases e with ⟨hq2,e⟩ | ⟨hq2,e⟩
   ·injection e with e; subst e; exact zc hU (P := Try.prog) Try.func57 (fun xs w => by kernel_rfl) _ _ (P3 ++ [.t (u_eq ((A0 ((IntKind.i64.wrap ((IntKind.i64.wrap (y1.fTo - 1)) - 1))).toNat)).fOp (149#8)) hq2,.o,.o,.o,.o]) [] (fun b => by kernel_rfl)
   ·injection e with e; subst e; exact zc hU (P := Try.prog) Try.func57 (fun xs w => by kernel_rfl) _ _ (P3 ++ [.t (u_eq ((A0 ((IntKind.i64.wrap ((IntKind.i64.wrap (y1.fTo - 1)) - 1))).toNat)).fOp (149#8)) hq2,.o,.o,.o,.q (zA (kd := .i64) (T := 22) (x := (IntKind.i64.wrap ((IntKind.i64.wrap (y1.fTo - 1)) - 1))) (sz := 5) rfl (fun w => by kernel_rfl) hR0 hq1),.o,.l (zcm hR0 zj (ze hq1) 0 [.int .u8 (nn ((A0 ((IntKind.i64.wrap ((IntKind.i64.wrap (y1.fTo - 1)) - 1))).toNat)).fOp)] rfl),.t (u_eq ((A0 ((IntKind.i64.wrap ((IntKind.i64.wrap (y1.fTo - 1)) - 1))).toNat)).fOp (5#8)) rfl,.o,.o,.o]) [] (fun b => by kernel_rfl)
  ·exact zd e
 ·subst hq0
  replace e := za e
  let P4 : List (PG Try.prog M B0 S) := P1 ++ [.cg (zeO hU a0 p0 q0 n0 k0 A0 hR0 (IntKind.i64.wrap (y1.fTo - 1)) false e_r0),.r [0,1,2,3,4,5,6,7,8,9,10,11,12,13,14,15,16] [] [],.o,.o,.o]
  rcases e with ⟨hq1,e⟩ | ⟨hq1,e⟩
  ·replace e := za e
   let P5 : List (PG Try.prog M B0 S) := P4 ++ [.q (zA (kd := .i64) (T := 22) (x := (IntKind.i64.wrap (y1.fTo - 1))) (sz := 5) rfl (fun w => by kernel_rfl) hR0 hq1),.o,.l (zcm hR0 zj (ze hq1) 0 [.int .u8 (nn ((A0 ((IntKind.i64.wrap (y1.fTo - 1))).toNat)).fOp)] rfl)]
   rcases e with ⟨hq2,e⟩ | ⟨hq2,e⟩
   ·injection e with e; subst e; exact zc hU (P := Try.prog) Try.func57 (fun xs w => by kernel_rfl) _ _ (P5 ++ [.t (u_eq ((A0 ((IntKind.i64.wrap (y1.fTo - 1))).toNat)).fOp (149#8)) hq2,.o,.o,.o,.o]) [] (fun b => by kernel_rfl)
   ·injection e with e; subst e; exact zc hU (P := Try.prog) Try.func57 (fun xs w => by kernel_rfl) _ _ (P5 ++ [.t (u_eq ((A0 ((IntKind.i64.wrap (y1.fTo - 1))).toNat)).fOp (149#8)) hq2,.o,.o,.o,.q (zA (kd := .i64) (T := 22) (x := (IntKind.i64.wrap (y1.fTo - 1))) (sz := 5) rfl (fun w => by kernel_rfl) hR0 hq1),.o,.l (zcm hR0 zj (ze hq1) 0 [.int .u8 (nn ((A0 ((IntKind.i64.wrap (y1.fTo - 1))).toNat)).fOp)] rfl),.t (u_eq ((A0 ((IntKind.i64.wrap (y1.fTo - 1))).toNat)).fOp (5#8)) rfl,.o,.o,.o]) [] (fun b => by kernel_rfl)
  ·exact zd e
inductive zdi where
 | c0 (s0_0 : Int)
inductive zdh where
 | e0 
 | e1 (c1_0 : Int)
noncomputable def zbz (n0 : Nat) (A0 : Nat → Insn) (y1 : Part) : zdi → Option (zdi ⊕ zdh)
 | .c0 s0_0 =>
 bif decide (s0_0 < y1.fTo) then
 (bif inR s0_0 n0 then
 (bif zV ((A0 (s0_0).toNat)) then
 (bif decide ((IntKind.i64.wrap ((IntKind.i64.wrap (s0_0 + 1)) + (ii ((A0 (s0_0).toNat)).fOff))) < y1.fFrom) then
 (some (.inr (.e1 s0_0)))
 else (bif decide (y1.fTo ≤ (IntKind.i64.wrap ((IntKind.i64.wrap (s0_0 + 1)) + (ii ((A0 (s0_0).toNat)).fOff)))) then
 (some (.inr (.e1 s0_0)))
 else ((zfr n0 A0 (IntKind.i64.wrap ((IntKind.i64.wrap (s0_0 + 1)) + (ii ((A0 (s0_0).toNat)).fOff)))).bind fun rb0 =>
 bif rb0 then
 (some (.inr (.e1 s0_0)))
 else (zv (zg0 ((A0 (s0_0).toNat))) fun rb1 =>
 some (.inl (.c0 (IntKind.i64.wrap (s0_0 + rb1))))))))
 else (zv (zg0 ((A0 (s0_0).toNat))) fun rb0 =>
 some (.inl (.c0 (IntKind.i64.wrap (s0_0 + rb0))))))
 else (none))
 else (some (.inr (.e0 )))
noncomputable def zim : Code := zb6 Try.f42 [1,0,1,0,0]
def ztd (a0 : Option Addr) (p0 q0 n0 k0 : Nat) (A0 : Nat → Insn) (y1 : Part) : zdi → List L1 → List Value
 | .c0 s0_0,ls => [.slice a0 n0 (n0 + k0),.pointer (some ⟨(lget ls 0).n,0,none⟩),.int .i64 (0),.bool false,.int .i64 (s0_0)]
def ztc : zdi → List (Nat × Nat)
 | .c0 _ => [(1,2),(4,45)]
noncomputable def zti (a0 : Option Addr) (p0 q0 n0 k0 : Nat) (A0 : Nat → Insn) (y1 : Part) (s : zdi) : List L1 → List Value := mrgF (ztc s) (ztd a0 p0 q0 n0 k0 A0 y1 s) 1
def zte (a0 : Option Addr) (p0 q0 n0 k0 : Nat) (A0 : Nat → Insn) (y1 : Part) : zdi → List L1 → List Obj
 | .c0 s0_0,ls => [.cells #[.int .i64 (y1.fFrom),.int .i64 (y1.fTo)] 75,unb]
def ztg (a0 : Option Addr) (p0 q0 n0 k0 : Nat) (A0 : Nat → Insn) (y1 : Part) : zdh → List L1 → List Value
 | .e0 ,ls => [.slice a0 n0 (n0 + k0),.pointer (some ⟨(lget ls 0).n,0,none⟩),.int .i64 (0),.bool false]
 | .e1 c1_0,ls => [.slice a0 n0 (n0 + k0),.pointer (some ⟨(lget ls 0).n,0,none⟩),.int .i64 (c1_0),.bool false]
def ztk : zdh → List (Nat × Nat)
 | .e0  => [(1,2),(3,46)]
 | .e1 _ => [(1,2),(3,46)]
noncomputable def zio (a0 : Option Addr) (p0 q0 n0 k0 : Nat) (A0 : Nat → Insn) (y1 : Part) (r : zdh) : List L1 → List Value := mrgF (ztk r) (ztg a0 p0 q0 n0 k0 A0 y1 r) 1
def zeH (a0 : Option Addr) (p0 q0 n0 k0 : Nat) (A0 : Nat → Insn) (y1 : Part) : zdh → List L1 → List Obj
 | .e0 ,ls => [.cells #[.int .i64 (y1.fFrom),.int .i64 (y1.fTo)] 75,unb]
 | .e1 c1_0,ls => [.cells #[.int .i64 (y1.fFrom),.int .i64 (y1.fTo)] 75,unb]
def zs9 : zdh → Ex
 | .e0  => (.exit 0)
 | .e1 _ => .ret
theorem zmj (s : zdi) (r : zdh) (h : lpO (zbz n0 A0 y1) s = some r) : zdm Try.prog M B0 S (.loop zim) 2 (zti a0 p0 q0 n0 k0 A0 y1 s) (zte a0 p0 q0 n0 k0 A0 y1 s) (zs9 r) 1 (zio a0 p0 q0 n0 k0 A0 y1 r) (zeH a0 p0 q0 n0 k0 A0 y1 r) 2 :=
 zb5 (fun s q e => by
  cases s with
  | c0 s0_0 =>
   unfold zbz at e
   dsimp only at e
   replace e := za e
   rcases e with ⟨hq0,e⟩ | ⟨hq0,e⟩
   ·replace e := za e
    let P1 : List (PG Try.prog M B0 S) := [.o,.o,.a 0,.b (zcR hq0),.o,.o]
    rcases e with ⟨hq1,e⟩ | ⟨hq1,e⟩
    ·replace e := za e
     let P2 : List (PG Try.prog M B0 S) := P1 ++ [.q (zA (kd := .i64) (T := 22) (x := s0_0) (sz := 5) rfl (fun w => by kernel_rfl) hR0 hq1),.l (zcm hR0 zj (ze hq1) 0 [.int .u8 (nn ((A0 (s0_0).toNat)).fOp),.int .u8 (nn ((A0 (s0_0).toNat)).fDst),.int .u8 (nn ((A0 (s0_0).toNat)).fSrc),.int .i16 (ii ((A0 (s0_0).toNat)).fOff),.int .i32 (ii ((A0 (s0_0).toNat)).fImm)] rfl)]
     rcases e with ⟨hq2,e⟩ | ⟨hq2,e⟩
     ·replace e := za e
      let P3 : List (PG Try.prog M B0 S) := P2 ++ [.cg (zhV hU ((A0 (s0_0).toNat)) true hq2),.o,.o,.o,.o,.o,.q (zA (kd := .i64) (T := 22) (x := s0_0) (sz := 5) rfl (fun w => by kernel_rfl) hR0 hq1),.o,.l (zcm hR0 zj (ze hq1) 3 [.int .i16 (ii ((A0 (s0_0).toNat)).fOff)] rfl),.v .i64 (zdW (by decide) ((A0 (s0_0).toNat)).fOff),.o,.o,.o,.o,.a 0]
      rcases e with ⟨hq3,e⟩ | ⟨hq3,e⟩
      ·cases e; exact ⟨zhB,zb hU (P3 ++ [.b (zcR hq3),.o,.o,.o,.o,.o,.o,.o]) [0] (fun b => rfl) (by decide) rfl rfl (fun b => by kernel_rfl)⟩
      ·replace e := za e
       rcases e with ⟨hq4,e⟩ | ⟨hq4,e⟩
       ·cases e; exact ⟨zhB,zb hU (P3 ++ [.b (zb7 hq3),.o,.o,.o,.a 0,.b (zsk hq4),.o,.o,.o,.o,.o,.o]) [0] (fun b => rfl) (by decide) rfl rfl (fun b => by kernel_rfl)⟩
       ·replace e := zf e
        obtain ⟨rb0,e_rb0,e⟩ := e
        try dsimp only at e
        replace e := za e
        rcases e with ⟨hq5,e⟩ | ⟨hq5,e⟩
        ·subst hq5
         cases e; exact ⟨zhB,zb hU (P3 ++ [.b (zb7 hq3),.o,.o,.o,.a 0,.b (zpX hq4),.o,.o,.o,.o,.cg (zeO hU a0 p0 q0 n0 k0 A0 hR0 (IntKind.i64.wrap ((IntKind.i64.wrap (s0_0 + 1)) + (ii ((A0 (s0_0).toNat)).fOff))) true e_rb0),.o,.o,.o,.o]) [0] (fun b => rfl) (by decide) rfl rfl (fun b => by kernel_rfl)⟩
        ·subst hq5
         replace e := zg e
         obtain ⟨rb1,e_rb1,e⟩ := e
         try dsimp only at e
         cases e; exact zb hU (P3 ++ [.b (zb7 hq3),.o,.o,.o,.a 0,.b (zpX hq4),.o,.o,.o,.o,.cg (zeO hU a0 p0 q0 n0 k0 A0 hR0 (IntKind.i64.wrap ((IntKind.i64.wrap (s0_0 + 1)) + (ii ((A0 (s0_0).toNat)).fOff))) false e_rb0),.o,.o,.o,.o,.q (zA (kd := .i64) (T := 22) (x := s0_0) (sz := 5) rfl (fun w => by kernel_rfl) hR0 hq1),.l (zcm hR0 zj (ze hq1) 0 [.int .u8 (nn ((A0 (s0_0).toNat)).fOp),.int .u8 (nn ((A0 (s0_0).toNat)).fDst),.int .u8 (nn ((A0 (s0_0).toNat)).fSrc),.int .i16 (ii ((A0 (s0_0).toNat)).fOff),.int .i32 (ii ((A0 (s0_0).toNat)).fImm)] rfl),.cg (ziE hU ((A0 (s0_0).toNat)) rb1 e_rb1),.o,.o]) [0] (fun b => rfl) (by decide) rfl rfl (fun b => by kernel_rfl)
     ·replace e := zg e
      obtain ⟨rb0,e_rb0,e⟩ := e
      try dsimp only at e
      cases e; exact zb hU (P2 ++ [.cg (zhV hU ((A0 (s0_0).toNat)) false hq2),.o,.o,.o,.o,.q (zA (kd := .i64) (T := 22) (x := s0_0) (sz := 5) rfl (fun w => by kernel_rfl) hR0 hq1),.l (zcm hR0 zj (ze hq1) 0 [.int .u8 (nn ((A0 (s0_0).toNat)).fOp),.int .u8 (nn ((A0 (s0_0).toNat)).fDst),.int .u8 (nn ((A0 (s0_0).toNat)).fSrc),.int .i16 (ii ((A0 (s0_0).toNat)).fOff),.int .i32 (ii ((A0 (s0_0).toNat)).fImm)] rfl),.cg (ziE hU ((A0 (s0_0).toNat)) rb0 e_rb0),.o,.o]) [0] (fun b => rfl) (by decide) rfl rfl (fun b => by kernel_rfl)
    ·exact zd e
   ·cases e; exact ⟨zcn 0,zb hU [.o,.o,.a 0,.b (zb7 hq0)] [0] (fun b => rfl) (by decide) rfl rfl (fun b => by kernel_rfl)⟩) s r h
noncomputable def zfe (a0 : Option Addr) (p0 q0 n0 k0 : Nat) (A0 : Nat → Insn) (y1 : Part) (s0_0 : Int) (ls : List L1) : List Value := List.append [.slice a0 n0 (n0 + k0),(zBz y1),undef,.pointer (some ⟨(lget ls 0).n,0,none⟩),.int .i64 (0),.bool false,.int .i64 (s0_0),undef,.pointer (some ⟨(lget ls 0).n,0,none⟩),.int .i64 (y1.fFrom)] (und 42)
def zeN (a0 : Option Addr) (p0 q0 n0 k0 : Nat) (A0 : Nat → Insn) (y1 : Part) (s0_0 : Int) (ls : List L1) : List Obj := [.cells #[.int .i64 (y1.fFrom),.int .i64 (y1.fTo)] 75]
theorem zol (s0_0 : Int) (h : lpO (zbz n0 A0 y1) (.c0 s0_0) = some (.e0 )) : SpcG Try.prog M B0 S ⟨fun ls => .code (.loop zim) (zfe a0 p0 q0 n0 k0 A0 y1 s0_0 ls),zeN a0 p0 q0 n0 k0 A0 y1 s0_0,1,(.exit 0),fun ls => zio a0 p0 q0 n0 k0 A0 y1 (.e0 ) (ls.take 1 ++ ls.drop 1),fun ls => (zeH a0 p0 q0 n0 k0 A0 y1 (.e0 ) (ls.take 1 ++ ls.drop 1)).take 1 ++ List.replicate 0 unb,fun ls => (zeH a0 p0 q0 n0 k0 A0 y1 (.e0 ) (ls.take 1 ++ ls.drop 1)).drop 1⟩ :=
 zr hU 0 (k0 := 1) (zmj hU a0 p0 q0 n0 k0 A0 hR0 y1 _ _ h) (zfe a0 p0 q0 n0 k0 A0 y1 s0_0) (zeN a0 p0 q0 n0 k0 A0 y1 s0_0) (fun _ => rfl) (fun ls h => by match ls,h with | [l0],_ => exact ⟨by kernel_rfl,by kernel_rfl⟩) (fun ls h => by match ls,h with | [l0],_ => rfl) (by decide) (by decide) (fun ls => rfl)
theorem zou (s0_0 : Int) (c1_0 : Int) (h : lpO (zbz n0 A0 y1) (.c0 s0_0) = some (.e1 c1_0)) : SpcG Try.prog M B0 S ⟨fun ls => .code (.loop zim) (zfe a0 p0 q0 n0 k0 A0 y1 s0_0 ls),zeN a0 p0 q0 n0 k0 A0 y1 s0_0,1,.ret,fun ls => zio a0 p0 q0 n0 k0 A0 y1 (.e1 c1_0) (ls.take 1 ++ ls.drop 1),fun ls => (zeH a0 p0 q0 n0 k0 A0 y1 (.e1 c1_0) (ls.take 1 ++ ls.drop 1)).take 1 ++ List.replicate 0 unb,fun ls => (zeH a0 p0 q0 n0 k0 A0 y1 (.e1 c1_0) (ls.take 1 ++ ls.drop 1)).drop 1⟩ :=
 zr hU 0 (k0 := 1) (zmj hU a0 p0 q0 n0 k0 A0 hR0 y1 _ _ h) (zfe a0 p0 q0 n0 k0 A0 y1 s0_0) (zeN a0 p0 q0 n0 k0 A0 y1 s0_0) (fun _ => rfl) (fun ls h => by match ls,h with | [l0],_ => exact ⟨by kernel_rfl,by kernel_rfl⟩) (fun ls h => by match ls,h with | [l0],_ => rfl) (by decide) (by decide) (fun ls => rfl)
noncomputable def zfp (n0 : Nat) (A0 : Nat → Insn) (y1 : Part) : Option ((Int) × (Bool)) :=
 (lpO (zbz n0 A0 y1) (.c0 y1.fFrom)).bind fun g0 => match g0 with
 | .e0  => (some (0,true))
 | .e1 g0_0 => (some (g0_0,false))
theorem zvs (r : (Int) × (Bool)) (e : zfp n0 A0 y1 = some r) : ConG Try.prog S 42 #[.slice a0 n0 (n0 + k0),(zBz y1)] (vt0 r) := by
 unfold zfp at e
 replace e := zf e
 obtain ⟨g0,e_g0,e⟩ := e
 rcases g0 with _ | ⟨g0_0⟩
 ·try dsimp only at e
  injection e with e; subst e; exact zc hU (P := Try.prog) Try.func42 (fun xs w => by kernel_rfl) _ _ [.o,.o,.o,.o,.a 0,.o,.cp,.cx (zol hU a0 p0 q0 n0 k0 A0 hR0 y1 y1.fFrom  e_g0) [0],.o,.o] [] (fun b => by kernel_rfl)
 ·try dsimp only at e
  injection e with e; subst e; exact zc hU (P := Try.prog) Try.func42 (fun xs w => by kernel_rfl) _ _ [.o,.o,.o,.o,.a 0,.o,.cp,.cx (zou hU a0 p0 q0 n0 k0 A0 hR0 y1 y1.fFrom g0_0 e_g0) [0]] [] (fun b => by kernel_rfl)
inductive zez where
 | c0 (s0_0 : Nat → Bool) (s0_1 : Int)
inductive zew where
 | e0 (c0_0 : Nat → Bool)
noncomputable def zda (n0 : Nat) (A0 : Nat → Insn) : zez → Option (zez ⊕ zew)
 | .c0 s0_0 s0_1 =>
 bif decide (s0_1 < (n0 : Int)) then
 (bif inR s0_1 n0 then
 (bif zs ((A0 (s0_1).toNat)) then
 (bif inR (IntKind.i64.wrap ((IntKind.i64.wrap (s0_1 + 1)) + (ii ((A0 (s0_1).toNat)).fImm))) 4096 then
 (zv (updF s0_0 ((IntKind.i64.wrap ((IntKind.i64.wrap (s0_1 + 1)) + (ii ((A0 (s0_1).toNat)).fImm)))).toNat true) fun rb0 =>
 zv (zg0 ((A0 (s0_1).toNat))) fun rb1 =>
 some (.inl (.c0 rb0 (IntKind.i64.wrap (s0_1 + rb1)))))
 else (none))
 else (zv (zg0 ((A0 (s0_1).toNat))) fun rb0 =>
 some (.inl (.c0 s0_0 (IntKind.i64.wrap (s0_1 + rb0))))))
 else (none))
 else (some (.inr (.e0 s0_0)))
noncomputable def zqO : Code := zb6 Try.f56 [1,1,1,0,1,0,0]
def zwh (a0 : Option Addr) (p0 q0 n0 k0 : Nat) (A0 : Nat → Insn) : zez → List L1 → List Value
 | .c0 s0_0 s0_1,ls => [.slice a0 n0 (n0 + k0),.pointer (some ⟨(lget ls 0).n,0,none⟩),.int .i64 (s0_1)]
def zwg : zez → List (Nat × Nat)
 | .c0 _ _ => [(1,2),(2,52)]
noncomputable def zwp (a0 : Option Addr) (p0 q0 n0 k0 : Nat) (A0 : Nat → Insn) (s : zez) : List L1 → List Value := mrgF (zwg s) (zwh a0 p0 q0 n0 k0 A0 s) 1
def zwq (a0 : Option Addr) (p0 q0 n0 k0 : Nat) (A0 : Nat → Insn) : zez → List L1 → List Obj
 | .c0 s0_0 s0_1,ls => [.cells ⟨esG cB 4096 s0_0⟩ 99,unb]
def zwt (a0 : Option Addr) (p0 q0 n0 k0 : Nat) (A0 : Nat → Insn) : zew → List L1 → List Value
 | .e0 c0_0,ls => [.slice a0 n0 (n0 + k0),.pointer (some ⟨(lget ls 0).n,0,none⟩)]
def zwo : zew → List (Nat × Nat)
 | .e0 _ => [(1,2),(1,53)]
noncomputable def zqP (a0 : Option Addr) (p0 q0 n0 k0 : Nat) (A0 : Nat → Insn) (r : zew) : List L1 → List Value := mrgF (zwo r) (zwt a0 p0 q0 n0 k0 A0 r) 1
def zlR (a0 : Option Addr) (p0 q0 n0 k0 : Nat) (A0 : Nat → Insn) : zew → List L1 → List Obj
 | .e0 c0_0,ls => [.cells ⟨esG cB 4096 c0_0⟩ 99,unb]
def zwn : zew → Ex
 | .e0 _ => (.exit 0)
end
section
variable {M : Nat → Prop} {B0 : Nat} {S : World → Prop} (hU : Up M B0 S) (a0 : Option Addr) (p0 q0 n0 k0 : Nat) (A0 : Nat → Insn) (hR0 : Ro S zd9 5 a0 p0 q0 n0 A0)
include hU a0 p0 q0 n0 k0 A0 hR0
theorem zv4 (s : zez) (r : zew) (h : lpO (zda n0 A0) s = some r) : zdm Try.prog M B0 S (.loop zqO) 2 (zwp a0 p0 q0 n0 k0 A0 s) (zwq a0 p0 q0 n0 k0 A0 s) (zwn r) 1 (zqP a0 p0 q0 n0 k0 A0 r) (zlR a0 p0 q0 n0 k0 A0 r) 2 :=
 zb5 (fun s q e => by
  cases s with
  | c0 s0_0 s0_1 =>
   unfold zda at e
   dsimp only at e
   replace e := za e
   rcases e with ⟨hq0,e⟩ | ⟨hq0,e⟩
   ·replace e := za e
    rcases e with ⟨hq1,e⟩ | ⟨hq1,e⟩
    ·replace e := za e
     let P1 : List (PG Try.prog M B0 S) := [.o,.o,.o,.b (zcR hq0),.o,.o,.q (zA (kd := .i64) (T := 22) (x := s0_1) (sz := 5) rfl (fun w => by kernel_rfl) hR0 hq1),.l (zcm hR0 zj (ze hq1) 0 [.int .u8 (nn ((A0 (s0_1).toNat)).fOp),.int .u8 (nn ((A0 (s0_1).toNat)).fDst),.int .u8 (nn ((A0 (s0_1).toNat)).fSrc),.int .i16 (ii ((A0 (s0_1).toNat)).fOff),.int .i32 (ii ((A0 (s0_1).toNat)).fImm)] rfl)]
     rcases e with ⟨hq2,e⟩ | ⟨hq2,e⟩
     ·replace e := za e
      rcases e with ⟨hq3,e⟩ | ⟨hq3,e⟩
      ·replace e := zg e
       obtain ⟨rb0,e_rb0,e⟩ := e
       try dsimp only at e
       replace e := zg e
       obtain ⟨rb1,e_rb1,e⟩ := e
       try dsimp only at e
       cases e; exact zb hU (P1 ++ [.cg (zI hU ((A0 (s0_1).toNat)) true hq2),.o,.o,.o,.o,.q (zA (kd := .i64) (T := 22) (x := s0_1) (sz := 5) rfl (fun w => by kernel_rfl) hR0 hq1),.o,.l (zcm hR0 zj (ze hq1) 4 [.int .i32 (ii ((A0 (s0_1).toNat)).fImm)] rfl),.v .i64 (zdW (by decide) ((A0 (s0_1).toNat)).fImm),.o,.q (zxS (kd := .i64) (T := 99) (x := (IntKind.i64.wrap ((IntKind.i64.wrap (s0_1 + 1)) + (ii ((A0 (s0_1).toNat)).fImm)))) (sz := 1) (N := 4096) rfl rfl (fun w => by kernel_rfl) hq3),.x (zAR (T := 4) (e := 99) (f := cB) (A := s0_0) (v := true) 0 (.bool true) zbc zla rfl rfl (fun w => by kernel_rfl) (ze hq3) e_rb0) [0],.o,.o,.o,.q (zA (kd := .i64) (T := 22) (x := s0_1) (sz := 5) rfl (fun w => by kernel_rfl) hR0 hq1),.l (zcm hR0 zj (ze hq1) 0 [.int .u8 (nn ((A0 (s0_1).toNat)).fOp),.int .u8 (nn ((A0 (s0_1).toNat)).fDst),.int .u8 (nn ((A0 (s0_1).toNat)).fSrc),.int .i16 (ii ((A0 (s0_1).toNat)).fOff),.int .i32 (ii ((A0 (s0_1).toNat)).fImm)] rfl),.cg (ziE hU ((A0 (s0_1).toNat)) rb1 e_rb1),.o,.o]) [0] (fun b => rfl) (by decide) rfl rfl (fun b => by kernel_rfl)
      ·exact zd e
     ·replace e := zg e
      obtain ⟨rb0,e_rb0,e⟩ := e
      try dsimp only at e
      cases e; exact zb hU (P1 ++ [.cg (zI hU ((A0 (s0_1).toNat)) false hq2),.o,.o,.o,.q (zA (kd := .i64) (T := 22) (x := s0_1) (sz := 5) rfl (fun w => by kernel_rfl) hR0 hq1),.l (zcm hR0 zj (ze hq1) 0 [.int .u8 (nn ((A0 (s0_1).toNat)).fOp),.int .u8 (nn ((A0 (s0_1).toNat)).fDst),.int .u8 (nn ((A0 (s0_1).toNat)).fSrc),.int .i16 (ii ((A0 (s0_1).toNat)).fOff),.int .i32 (ii ((A0 (s0_1).toNat)).fImm)] rfl),.cg (ziE hU ((A0 (s0_1).toNat)) rb0 e_rb0),.o,.o]) [0] (fun b => rfl) (by decide) rfl rfl (fun b => by kernel_rfl)
    ·exact zd e
   ·cases e; exact ⟨zcn 0,zb hU [.o,.o,.o,.b (zb7 hq0)] [0] (fun b => rfl) (by decide) rfl rfl (fun b => by kernel_rfl)⟩) s r h
noncomputable def zoC (a0 : Option Addr) (p0 q0 n0 k0 : Nat) (A0 : Nat → Insn) (s0_0 : Nat → Bool) (s0_1 : Int) (ls : List L1) : List Value := List.append [.slice a0 n0 (n0 + k0),undef,.slice none 0 0,.pointer (some ⟨(lget ls 0).n,0,none⟩),.int .i64 (s0_1),undef,undef,.pointer (some ⟨(lget ls 0).n,0 + 0 * 1,none⟩)] (und 49)
def znb (a0 : Option Addr) (p0 q0 n0 k0 : Nat) (A0 : Nat → Insn) (s0_0 : Nat → Bool) (s0_1 : Int) (ls : List L1) : List Obj := [.cells ⟨esG cB 4096 s0_0⟩ 99]
theorem zjD (s0_0 : Nat → Bool) (s0_1 : Int) (c0_0 : Nat → Bool) (h : lpO (zda n0 A0) (.c0 s0_0 s0_1) = some (.e0 c0_0)) : SpcG Try.prog M B0 S ⟨fun ls => .code (.loop zqO) (zoC a0 p0 q0 n0 k0 A0 s0_0 s0_1 ls),znb a0 p0 q0 n0 k0 A0 s0_0 s0_1,1,(.exit 0),fun ls => zqP a0 p0 q0 n0 k0 A0 (.e0 c0_0) (ls.take 1 ++ ls.drop 1),fun ls => (zlR a0 p0 q0 n0 k0 A0 (.e0 c0_0) (ls.take 1 ++ ls.drop 1)).take 1 ++ List.replicate 0 unb,fun ls => (zlR a0 p0 q0 n0 k0 A0 (.e0 c0_0) (ls.take 1 ++ ls.drop 1)).drop 1⟩ :=
 zr hU 0 (k0 := 1) (zv4 hU a0 p0 q0 n0 k0 A0 hR0 _ _ h) (zoC a0 p0 q0 n0 k0 A0 s0_0 s0_1) (znb a0 p0 q0 n0 k0 A0 s0_0 s0_1) (fun _ => rfl) (fun ls h => by match ls,h with | [l0],_ => exact ⟨by kernel_rfl,by kernel_rfl⟩) (fun ls h => by match ls,h with | [l0],_ => rfl) (by decide) (by decide) (fun ls => rfl)
inductive zeG where
 | c0 
 | c1 (s0_0 : Nat) (s0_1 : Nat → Part) (s0_2 : Int)
inductive zey where
 | e0 
 | e1 (c1_0 : Nat) (c1_1 : Nat → Part)
noncomputable def zbG (n0 : Nat) (g0_0 : Nat → Bool) : zeG → Option (zeG ⊕ zey)
 | .c0  =>
 bif decide (0 < (n0 : Int)) then
 (bif (g0_0 0) then
 (some (.inl (.c1 1 (updF (fun _ => (⟨0,0⟩ : Part)) 0 (⟨0,1⟩ : Part)) 1)))
 else (none))
 else (some (.inr (.e0 )))
 | .c1 s0_0 s0_1 s0_2 =>
 bif decide (s0_2 < (n0 : Int)) then
 (bif inR s0_2 4096 then
 (bif (g0_0 (s0_2).toNat) then
 (bif decide (s0_0 ≤ 1000000) then
 (bif inR (IntKind.i64.wrap (((s0_0 + 1) : Int) - 1)) (s0_0 + 1) then
 (zv (updF (updF s0_1 s0_0 (⟨s0_2,0⟩ : Part)) ((IntKind.i64.wrap (((s0_0 + 1) : Int) - 1))).toNat (⟨(((updF s0_1 s0_0 (⟨s0_2,0⟩ : Part)) ((IntKind.i64.wrap (((s0_0 + 1) : Int) - 1))).toNat)).fFrom,(IntKind.i64.wrap (s0_2 + 1))⟩ : Part)) fun rb0 =>
 some (.inl (.c1 (s0_0 + 1) rb0 (IntKind.i64.wrap (s0_2 + 1)))))
 else (none))
 else (none))
 else (bif inR (IntKind.i64.wrap ((s0_0 : Int) - 1)) s0_0 then
 (zv (updF s0_1 ((IntKind.i64.wrap ((s0_0 : Int) - 1))).toNat (⟨((s0_1 ((IntKind.i64.wrap ((s0_0 : Int) - 1))).toNat)).fFrom,(IntKind.i64.wrap (s0_2 + 1))⟩ : Part)) fun rb0 =>
 some (.inl (.c1 s0_0 rb0 (IntKind.i64.wrap (s0_2 + 1)))))
 else (none)))
 else (none))
 else (some (.inr (.e1 s0_0 s0_1)))
noncomputable def zl5 : Code := zb6 Try.f56 [1,1,1,1,1,0,1,0,0]
def zv9 (a0 : Option Addr) (p0 q0 n0 k0 : Nat) (A0 : Nat → Insn) (g0_0 : Nat → Bool) : zeG → List L1 → List Value
 | .c0 ,ls => [.pointer (some ⟨(lget ls 0).n,0,none⟩),.slice none 0 0,.int .i64 ((n0 : Int)),.int .i64 (0)]
 | .c1 s0_0 s0_1 s0_2,ls => [.pointer (some ⟨(lget ls 0).n,0,none⟩),(rowV (lget ls 2) s0_0 2),.int .i64 ((n0 : Int)),.int .i64 (s0_2)]
def zvY : zeG → List (Nat × Nat)
 | .c0  => [(0,3),(1,1),(1,29),(2,20)]
 | .c1 _ _ _ => [(0,3),(1,1),(1,29),(2,20)]
noncomputable def zwj (a0 : Option Addr) (p0 q0 n0 k0 : Nat) (A0 : Nat → Insn) (g0_0 : Nat → Bool) (s : zeG) : List L1 → List Value := mrgF (zvY s) (zv9 a0 p0 q0 n0 k0 A0 g0_0 s) 3
def zwi (a0 : Option Addr) (p0 q0 n0 k0 : Nat) (A0 : Nat → Insn) (g0_0 : Nat → Bool) : zeG → List L1 → List Obj
 | .c0 ,ls => [.cells ⟨esG cB 4096 g0_0⟩ 99,unb,unb,unb]
 | .c1 s0_0 s0_1 s0_2,ls => [.cells ⟨esG cB 4096 g0_0⟩ 99,unb,rowO (lget ls 2) (esG zdf s0_0 s0_1) 75 s0_0 2,unb]
def zwb (a0 : Option Addr) (p0 q0 n0 k0 : Nat) (A0 : Nat → Insn) (g0_0 : Nat → Bool) : zey → List L1 → List Value
 | .e0 ,ls => [.pointer (some ⟨(lget ls 0).n,0,none⟩),.slice none 0 0,.int .i64 ((n0 : Int))]
 | .e1 c1_0 c1_1,ls => [.pointer (some ⟨(lget ls 0).n,0,none⟩),(rowV (lget ls 2) c1_0 2),.int .i64 ((n0 : Int))]
def zvW : zey → List (Nat × Nat)
 | .e0  => [(0,3),(1,1),(1,29),(1,21)]
 | .e1 _ _ => [(0,3),(1,1),(1,29),(1,21)]
noncomputable def zl7 (a0 : Option Addr) (p0 q0 n0 k0 : Nat) (A0 : Nat → Insn) (g0_0 : Nat → Bool) (r : zey) : List L1 → List Value := mrgF (zvW r) (zwb a0 p0 q0 n0 k0 A0 g0_0 r) 3
def zgL (a0 : Option Addr) (p0 q0 n0 k0 : Nat) (A0 : Nat → Insn) (g0_0 : Nat → Bool) : zey → List L1 → List Obj
 | .e0 ,ls => [.cells ⟨esG cB 4096 g0_0⟩ 99,unb,unb,unb]
 | .e1 c1_0 c1_1,ls => [.cells ⟨esG cB 4096 g0_0⟩ 99,unb,rowO (lget ls 2) (esG zdf c1_0 c1_1) 75 c1_0 2,unb]
def zv3 : zey → Ex
 | .e0  => (.exit 2)
 | .e1 _ _ => (.exit 2)
theorem zqX (g0_0 : Nat → Bool) (s : zeG) (r : zey) (h : lpO (zbG n0 g0_0) s = some r) : zdm Try.prog M B0 S (.loop zl5) 4 (zwj a0 p0 q0 n0 k0 A0 g0_0 s) (zwi a0 p0 q0 n0 k0 A0 g0_0 s) (zv3 r) 2 (zl7 a0 p0 q0 n0 k0 A0 g0_0 r) (zgL a0 p0 q0 n0 k0 A0 g0_0 r) 4 :=
 zb5 (fun s q e => by
  cases s with
  | c0  =>
   unfold zbG at e
   dsimp only at e
   replace e := za e
   rcases e with ⟨hq0,e⟩ | ⟨hq0,e⟩
   ·replace e := za e
    rcases e with ⟨hq1,e⟩ | ⟨hq1,e⟩
    ·cases e; exact zb hU [.b (zcR hq0),.o,.o,.o,.q (zxS (kd := .i64) (T := 99) (x := 0) (sz := 1) (N := 4096) rfl rfl (fun w => by kernel_rfl) (show inR 0 4096 = true from by decide)),.l (accF (i := 0) (f := cB) (A := g0_0) (k := 0) 0 [.bool true] zbc (ze (show inR 0 4096 = true from by decide)) (congrArg (fun b => [Value.bool b]) hq1)),.o,.o,.o,.o,.x (zet (ty := 71) rt71 #[false,false] (f := zdf) (c := 1) (⟨0,0⟩ : Part) (T' := 75) zbn zcO (by decide)) [4],.o,.o,.o,.o,.o,.o,.o,.q (zH (kd := .i64) (T := 71) (x := 0) (N := 1) (sz := 2) rfl (fun w => by kernel_rfl) (show inR 0 1 = true from by decide)),.o,.x (zd0 (T := 3) (e := 75) (f := zdf) (A := (fun _ => (⟨0,0⟩ : Part))) (v := (⟨0,1⟩ : Part)) 1 (.int .i64 (1)) zbn zcO rfl rfl (fun w => by kernel_rfl) (ze (show inR 0 1 = true from by decide))) [5],.o,.o] [0,1,5] (fun b => rfl) (by decide) rfl rfl (fun b => by kernel_rfl)
    ·exact zd e
   ·cases e; exact ⟨zcn 2,zb hU [.b (zb7 hq0)] [0,1,2] (fun b => rfl) (by decide) rfl rfl (fun b => by kernel_rfl)⟩
  | c1 s0_0 s0_1 s0_2 =>
   unfold zbG at e
   dsimp only at e
   replace e := za e
   rcases e with ⟨hq0,e⟩ | ⟨hq0,e⟩
   ·replace e := za e
    rcases e with ⟨hq1,e⟩ | ⟨hq1,e⟩
    ·replace e := za e
     let P1 : List (PG Try.prog M B0 S) := [.b (zcR hq0),.o,.o,.o,.q (zxS (kd := .i64) (T := 99) (x := s0_2) (sz := 1) (N := 4096) rfl rfl (fun w => by kernel_rfl) hq1)]
     rcases e with ⟨hq2,e⟩ | ⟨hq2,e⟩
     ·replace e := za e
      rcases e with ⟨hq3,e⟩ | ⟨hq3,e⟩
      ·replace e := za e
       rcases e with ⟨hq4,e⟩ | ⟨hq4,e⟩
       ·replace e := zg e
        obtain ⟨rb0,e_rb0,e⟩ := e
        try dsimp only at e
        cases e; exact zb hU (P1 ++ [.l (accF (i := 0) (f := cB) (A := g0_0) (k := (s0_2).toNat) 0 [.bool true] zbc (ze hq1) (congrArg (fun b => [Value.bool b]) hq2)),.o,.o,.o,.o,.x (zer (ty := 71) rt71 #[false,false] (f := zdf) (N := s0_0) (A := s0_1) (c := 1) [(⟨s0_2,0⟩ : Part)] (T' := 75) .row zbn zcO hq3 rfl (by decide)) [2,4],.o,.o,.o,.o,.o,.o,.o,.q (zH (kd := .i64) (T := 71) (x := (IntKind.i64.wrap (((s0_0 + 1) : Int) - 1))) (N := (s0_0 + 1)) (sz := 2) rfl (fun w => by kernel_rfl) hq4),.o,.x (zwx (T := 3) (e := 75) (f := zdf) (A := updF s0_1 s0_0 (⟨s0_2,0⟩ : Part)) (v := (⟨(((updF s0_1 s0_0 (⟨s0_2,0⟩ : Part)) ((IntKind.i64.wrap (((s0_0 + 1) : Int) - 1))).toNat)).fFrom,(IntKind.i64.wrap (s0_2 + 1))⟩ : Part)) 1 (.int .i64 ((IntKind.i64.wrap (s0_2 + 1)))) zbn zcO rfl rfl (fun w => by kernel_rfl) (ze hq4) e_rb0) [5],.o,.o]) [0,1,5] (fun b => rfl) (by decide) rfl rfl (fun b => by kernel_rfl)
       ·exact zd e
      ·exact zd e
     ·replace e := za e
      rcases e with ⟨hq3,e⟩ | ⟨hq3,e⟩
      ·replace e := zg e
       obtain ⟨rb0,e_rb0,e⟩ := e
       try dsimp only at e
       cases e; exact zb hU (P1 ++ [.l (accF (i := 0) (f := cB) (A := g0_0) (k := (s0_2).toNat) 0 [.bool false] zbc (ze hq1) (congrArg (fun b => [Value.bool b]) hq2)),.o,.o,.o,.o,.o,.o,.q (zH (kd := .i64) (T := 71) (x := (IntKind.i64.wrap ((s0_0 : Int) - 1))) (N := s0_0) (sz := 2) rfl (fun w => by kernel_rfl) hq3),.o,.x (zwx (T := 3) (e := 75) (f := zdf) (A := s0_1) (v := (⟨((s0_1 ((IntKind.i64.wrap ((s0_0 : Int) - 1))).toNat)).fFrom,(IntKind.i64.wrap (s0_2 + 1))⟩ : Part)) 1 (.int .i64 ((IntKind.i64.wrap (s0_2 + 1)))) zbn zcO rfl rfl (fun w => by kernel_rfl) (ze hq3) e_rb0) [2],.o,.o]) [0,1,2] (fun b => rfl) (by decide) rfl rfl (fun b => by kernel_rfl)
      ·exact zd e
    ·exact zd e
   ·cases e; exact ⟨zcn 2,zb hU [.b (zb7 hq0)] [0,1,2] (fun b => rfl) (by decide) rfl rfl (fun b => by kernel_rfl)⟩) s r h
noncomputable def zhk (a0 : Option Addr) (p0 q0 n0 k0 : Nat) (A0 : Nat → Insn) (g0_0 : Nat → Bool)  (ls : List L1) : List Value := List.append [.slice a0 n0 (n0 + k0),((lget ls 1).u 1),((lget ls 1).u 2),.pointer (some ⟨(lget ls 0).n,0,none⟩),((lget ls 1).u 4),.slice none 0 0] (List.append (jks (lget ls 1).u 6 28) (List.append [.slice a0 n0 (n0 + k0),.int .i64 ((n0 : Int)),.int .i64 (0)] (jks (lget ls 1).u 37 20)))
def zgE (a0 : Option Addr) (p0 q0 n0 k0 : Nat) (A0 : Nat → Insn) (g0_0 : Nat → Bool)  (ls : List L1) : List Obj := [.cells ⟨esG cB 4096 g0_0⟩ 99,unb]
theorem zrP (g0_0 : Nat → Bool) (h : lpO (zbG n0 g0_0) (.c0) = some (.e0 )) : SpcG Try.prog M B0 S ⟨fun ls => .code (.loop zl5) (zhk a0 p0 q0 n0 k0 A0 g0_0  ls),zgE a0 p0 q0 n0 k0 A0 g0_0 ,2,(.exit 2),fun ls => zl7 a0 p0 q0 n0 k0 A0 g0_0 (.e0 ) (ls.take 2 ++ ls.drop 2),fun ls => (zgL a0 p0 q0 n0 k0 A0 g0_0 (.e0 ) (ls.take 2 ++ ls.drop 2)).take 2 ++ List.replicate 0 unb,fun ls => (zgL a0 p0 q0 n0 k0 A0 g0_0 (.e0 ) (ls.take 2 ++ ls.drop 2)).drop 2⟩ :=
 zr hU 1 (k0 := 2) (zqX hU a0 p0 q0 n0 k0 A0 hR0 g0_0 _ _ h) (zhk a0 p0 q0 n0 k0 A0 g0_0 ) (zgE a0 p0 q0 n0 k0 A0 g0_0 ) (fun _ => rfl) (fun ls h => by match ls,h with | [l0,l1],_ => exact ⟨by kernel_rfl,by kernel_rfl⟩) (fun ls h => by match ls,h with | [l0,l1],_ => rfl) (by decide) (by decide) (fun ls => rfl)
theorem zq7 (g0_0 : Nat → Bool) (c1_0 : Nat) (c1_1 : Nat → Part) (h : lpO (zbG n0 g0_0) (.c0) = some (.e1 c1_0 c1_1)) : SpcG Try.prog M B0 S ⟨fun ls => .code (.loop zl5) (zhk a0 p0 q0 n0 k0 A0 g0_0  ls),zgE a0 p0 q0 n0 k0 A0 g0_0 ,2,(.exit 2),fun ls => zl7 a0 p0 q0 n0 k0 A0 g0_0 (.e1 c1_0 c1_1) (ls.take 2 ++ ls.drop 2),fun ls => (zgL a0 p0 q0 n0 k0 A0 g0_0 (.e1 c1_0 c1_1) (ls.take 2 ++ ls.drop 2)).take 2 ++ List.replicate 0 unb,fun ls => (zgL a0 p0 q0 n0 k0 A0 g0_0 (.e1 c1_0 c1_1) (ls.take 2 ++ ls.drop 2)).drop 2⟩ :=
 zr hU 1 (k0 := 2) (zqX hU a0 p0 q0 n0 k0 A0 hR0 g0_0 _ _ h) (zhk a0 p0 q0 n0 k0 A0 g0_0 ) (zgE a0 p0 q0 n0 k0 A0 g0_0 ) (fun _ => rfl) (fun ls h => by match ls,h with | [l0,l1],_ => exact ⟨by kernel_rfl,by kernel_rfl⟩) (fun ls h => by match ls,h with | [l0,l1],_ => rfl) (by decide) (by decide) (fun ls => rfl)
inductive zy8 where
 | e0 
 | e1 (c1_0 : Nat) (c1_1 : Nat → Part)
noncomputable def zhX (n0 : Nat) (A0 : Nat → Insn) : Option zy8 :=
 (lpO (zda n0 A0) (.c0 (updF (fun _ => false) 0 true) 0)).bind fun g0 => match g0 with
 | .e0 g0_0 =>
 (lpO (zbG n0 g0_0) (.c0)).bind fun g1 => match g1 with
 | .e0  => (some (.e0))
 | .e1 g1_0 g1_1 => (some (.e1 g1_0 g1_1))
def zxO (a0 : Option Addr) (p0 q0 n0 k0 : Nat) (A0 : Nat → Insn)  : Spc := ⟨fun ls => .call 56 #[.slice a0 n0 (n0 + k0)],fun ls => [],0,.normal,fun ls => [.slice none 0 0],fun ls => [],fun ls => []⟩
def zxL (a0 : Option Addr) (p0 q0 n0 k0 : Nat) (A0 : Nat → Insn) (c1_0 : Nat) (c1_1 : Nat → Part) : Spc := ⟨fun ls => .call 56 #[.slice a0 n0 (n0 + k0)],fun ls => [],1,.normal,fun ls => [(rowV (lget ls 0) c1_0 2)],fun ls => [],fun ls => [rowO (lget ls 0) (esG zdf c1_0 c1_1) 75 c1_0 2]⟩
theorem zxQ (e : zhX n0 A0 = some (.e0 )) : SpcG Try.prog M B0 S (zxO a0 p0 q0 n0 k0 A0 ) := by
 unfold zhX at e
 replace e := zf e
 obtain ⟨g0,e_g0,e⟩ := e
 obtain ⟨g0_0⟩ := g0
 try dsimp only at e
 replace e := zf e
 obtain ⟨g1,e_g1,e⟩ := e
 rcases g1 with _ | ⟨g1_0,g1_1⟩
 ·try dsimp only at e
  exact zo hU (P := Try.prog) Try.func56 (fun xs w => by kernel_rfl) 0 _ _ (fun _ => rfl) _ _ _ [] [.o,.o,.q (zxS (kd := .i64) (T := 99) (x := 0) (sz := 1) (N := 4096) rfl rfl (fun w => by kernel_rfl) (show inR 0 4096 = true from by decide)),.x (zzK (T := 4) (e := 99) (f := cB) (A := (fun _ => false)) (v := true) 0 (.bool true) zbc zla rfl rfl (fun w => by kernel_rfl) (ze (show inR 0 4096 = true from by decide))) [0],.o,.cp,.cx (zjD hU a0 p0 q0 n0 k0 A0 hR0 (updF (fun _ => false) 0 true) 0 g0_0 e_g0) [0],.o,.o,.o,.o,.cp,.cx (zrP hU a0 p0 q0 n0 k0 A0 hR0 g0_0   e_g1) [0,1],.o,.o] [] (fun b => by kernel_rfl)
 ·try dsimp only at e
  cases e
theorem zoX (c1_0 : Nat) (c1_1 : Nat → Part) (e : zhX n0 A0 = some (.e1 c1_0 c1_1)) : SpcG Try.prog M B0 S (zxL a0 p0 q0 n0 k0 A0 c1_0 c1_1) := by
 unfold zhX at e
 replace e := zf e
 obtain ⟨g0,e_g0,e⟩ := e
 obtain ⟨g0_0⟩ := g0
 try dsimp only at e
 replace e := zf e
 obtain ⟨g1,e_g1,e⟩ := e
 rcases g1 with _ | ⟨g1_0,g1_1⟩
 ·try dsimp only at e
  cases e
 ·try dsimp only at e
  injection e with e; injection e with i0 i1; subst i0 i1; exact zo hU (P := Try.prog) Try.func56 (fun xs w => by kernel_rfl) 0 _ _ (fun _ => rfl) _ _ _ [2] [.o,.o,.q (zxS (kd := .i64) (T := 99) (x := 0) (sz := 1) (N := 4096) rfl rfl (fun w => by kernel_rfl) (show inR 0 4096 = true from by decide)),.x (zzK (T := 4) (e := 99) (f := cB) (A := (fun _ => false)) (v := true) 0 (.bool true) zbc zla rfl rfl (fun w => by kernel_rfl) (ze (show inR 0 4096 = true from by decide))) [0],.o,.cp,.cx (zjD hU a0 p0 q0 n0 k0 A0 hR0 (updF (fun _ => false) 0 true) 0 g0_0 e_g0) [0],.o,.o,.o,.o,.cp,.cx (zq7 hU a0 p0 q0 n0 k0 A0 hR0 g0_0  g1_0 g1_1 e_g1) [0,1],.o,.o] [] (fun b => by kernel_rfl)
inductive zeQ where
 | c0 (s0_0 : Int)
inductive zfa where
 | e0 
 | e1 (c1_0 : Int) (c1_1 : Int)
noncomputable def zdp (n0 : Nat) (A0 : Nat → Insn) : zeQ → Option (zeQ ⊕ zfa)
 | .c0 s0_0 =>
 bif decide (s0_0 < (n0 : Int)) then
 ((zgV n0 A0 s0_0).bind fun rb0 =>
 bif rb0 == 0 then
 (bif inR s0_0 n0 then
 (zv (zg0 ((A0 (s0_0).toNat))) fun rb1 =>
 some (.inl (.c0 (IntKind.i64.wrap (s0_0 + rb1)))))
 else (none))
 else (some (.inr (.e1 s0_0 rb0))))
 else (some (.inr (.e0 )))
noncomputable def znx : Code := zb6 Try.f41 [1,1,0,1,0,0]
def zxB (a0 : Option Addr) (p0 q0 n0 k0 : Nat) (A0 : Nat → Insn) : zeQ → List L1 → List Value
 | .c0 s0_0,ls => [.slice a0 n0 (n0 + k0),.slice none 0 0,.int .i64 (0),.int .i64 (0),.int .i64 (s0_0)]
def zxC : zeQ → List (Nat × Nat)
 | .c0 _ => [(1,1),(4,54)]
noncomputable def zxs (a0 : Option Addr) (p0 q0 n0 k0 : Nat) (A0 : Nat → Insn) (s : zeQ) : List L1 → List Value := mrgF (zxC s) (zxB a0 p0 q0 n0 k0 A0 s) 0
def zwP (a0 : Option Addr) (p0 q0 n0 k0 : Nat) (A0 : Nat → Insn) : zeQ → List L1 → List Obj
 | .c0 s0_0,ls => [unb]
def zxg (a0 : Option Addr) (p0 q0 n0 k0 : Nat) (A0 : Nat → Insn) : zfa → List L1 → List Value
 | .e0 ,ls => [.slice a0 n0 (n0 + k0),.slice none 0 0,.int .i64 (0),.int .i64 (0)]
 | .e1 c1_0 c1_1,ls => [.slice a0 n0 (n0 + k0),.slice none 0 0,.int .i64 (c1_0),.int .i64 (c1_1)]
def zwI : zfa → List (Nat × Nat)
 | .e0  => [(1,1),(3,55)]
 | .e1 _ _ => [(1,1),(3,55)]
noncomputable def zm5 (a0 : Option Addr) (p0 q0 n0 k0 : Nat) (A0 : Nat → Insn) (r : zfa) : List L1 → List Value := mrgF (zwI r) (zxg a0 p0 q0 n0 k0 A0 r) 0
def zhq (a0 : Option Addr) (p0 q0 n0 k0 : Nat) (A0 : Nat → Insn) : zfa → List L1 → List Obj
 | .e0 ,ls => [unb]
 | .e1 c1_0 c1_1,ls => [unb]
def zxx : zfa → Ex
 | .e0  => (.exit 0)
 | .e1 _ _ => .ret
theorem zsq (s : zeQ) (r : zfa) (h : lpO (zdp n0 A0) s = some r) : zdm Try.prog M B0 S (.loop znx) 1 (zxs a0 p0 q0 n0 k0 A0 s) (zwP a0 p0 q0 n0 k0 A0 s) (zxx r) 0 (zm5 a0 p0 q0 n0 k0 A0 r) (zhq a0 p0 q0 n0 k0 A0 r) 1 :=
 zb5 (fun s q e => by
  cases s with
  | c0 s0_0 =>
   unfold zdp at e
   dsimp only at e
   replace e := za e
   rcases e with ⟨hq0,e⟩ | ⟨hq0,e⟩
   ·replace e := zf e
    obtain ⟨rb0,e_rb0,e⟩ := e
    try dsimp only at e
    replace e := za e
    let P1 : List (PG Try.prog M B0 S) := [.o,.o,.o,.b (zcR hq0),.o,.o,.cg (zvI hU a0 p0 q0 n0 k0 A0 hR0 s0_0 rb0 e_rb0),.o,.o]
    rcases e with ⟨hq1,e⟩ | ⟨hq1,e⟩
    ·replace e := za e
     rcases e with ⟨hq2,e⟩ | ⟨hq2,e⟩
     ·replace e := zg e
      obtain ⟨rb1,e_rb1,e⟩ := e
      try dsimp only at e
      cases e; exact zb hU (P1 ++ [.b (zdq hq1),.o,.o,.o,.q (zA (kd := .i64) (T := 22) (x := s0_0) (sz := 5) rfl (fun w => by kernel_rfl) hR0 hq2),.l (zcm hR0 zj (ze hq2) 0 [.int .u8 (nn ((A0 (s0_0).toNat)).fOp),.int .u8 (nn ((A0 (s0_0).toNat)).fDst),.int .u8 (nn ((A0 (s0_0).toNat)).fSrc),.int .i16 (ii ((A0 (s0_0).toNat)).fOff),.int .i32 (ii ((A0 (s0_0).toNat)).fImm)] rfl),.cg (ziE hU ((A0 (s0_0).toNat)) rb1 e_rb1),.o,.o]) [] (fun b => rfl) (by decide) rfl rfl (fun b => by kernel_rfl)
     ·exact zd e
    ·cases e; exact ⟨zhB,zb hU (P1 ++ [.b (zdU hq1),.o,.o,.o,.o,.o]) [] (fun b => rfl) (by decide) rfl rfl (fun b => by kernel_rfl)⟩
   ·cases e; exact ⟨zcn 0,zb hU [.o,.o,.o,.b (zb7 hq0)] [] (fun b => rfl) (by decide) rfl rfl (fun b => by kernel_rfl)⟩) s r h
noncomputable def zh2 (a0 : Option Addr) (p0 q0 n0 k0 : Nat) (A0 : Nat → Insn) (s0_0 : Int) (ls : List L1) : List Value := List.append [.slice a0 n0 (n0 + k0),undef,.slice none 0 0,.int .i64 (0),.int .i64 (0),.int .i64 (s0_0)] (List.append (und 6) (List.append [.slice a0 n0 (n0 + k0),.int .i64 ((n0 : Int)),.bool false,.bool false,.slice a0 n0 (n0 + k0),.int .i64 ((n0 : Int)),.bool false,.bool false] (und 40)))
def zhc (a0 : Option Addr) (p0 q0 n0 k0 : Nat) (A0 : Nat → Insn) (s0_0 : Int) (ls : List L1) : List Obj := []
theorem zkS (s0_0 : Int) (h : lpO (zdp n0 A0) (.c0 s0_0) = some (.e0 )) : SpcG Try.prog M B0 S ⟨fun ls => .code (.loop znx) (zh2 a0 p0 q0 n0 k0 A0 s0_0 ls),zhc a0 p0 q0 n0 k0 A0 s0_0,1,(.exit 0),fun ls => zm5 a0 p0 q0 n0 k0 A0 (.e0 ) (ls.take 0 ++ ls.drop 0),fun ls => (zhq a0 p0 q0 n0 k0 A0 (.e0 ) (ls.take 0 ++ ls.drop 0)).take 0 ++ List.replicate 0 unb,fun ls => (zhq a0 p0 q0 n0 k0 A0 (.e0 ) (ls.take 0 ++ ls.drop 0)).drop 0⟩ :=
 zr hU 0 (k0 := 0) (zsq hU a0 p0 q0 n0 k0 A0 hR0 _ _ h) (zh2 a0 p0 q0 n0 k0 A0 s0_0) (zhc a0 p0 q0 n0 k0 A0 s0_0) (fun _ => rfl) (fun ls h => by match ls,h with | [],_ => exact ⟨by kernel_rfl,by kernel_rfl⟩) (fun ls h => by match ls,h with | [],_ => rfl) (by decide) (by decide) (fun ls => rfl)
theorem zsi (s0_0 : Int) (c1_0 : Int) (c1_1 : Int) (h : lpO (zdp n0 A0) (.c0 s0_0) = some (.e1 c1_0 c1_1)) : SpcG Try.prog M B0 S ⟨fun ls => .code (.loop znx) (zh2 a0 p0 q0 n0 k0 A0 s0_0 ls),zhc a0 p0 q0 n0 k0 A0 s0_0,1,.ret,fun ls => zm5 a0 p0 q0 n0 k0 A0 (.e1 c1_0 c1_1) (ls.take 0 ++ ls.drop 0),fun ls => (zhq a0 p0 q0 n0 k0 A0 (.e1 c1_0 c1_1) (ls.take 0 ++ ls.drop 0)).take 0 ++ List.replicate 0 unb,fun ls => (zhq a0 p0 q0 n0 k0 A0 (.e1 c1_0 c1_1) (ls.take 0 ++ ls.drop 0)).drop 0⟩ :=
 zr hU 0 (k0 := 0) (zsq hU a0 p0 q0 n0 k0 A0 hR0 _ _ h) (zh2 a0 p0 q0 n0 k0 A0 s0_0) (zhc a0 p0 q0 n0 k0 A0 s0_0) (fun _ => rfl) (fun ls h => by match ls,h with | [],_ => exact ⟨by kernel_rfl,by kernel_rfl⟩) (fun ls h => by match ls,h with | [],_ => rfl) (by decide) (by decide) (fun ls => rfl)
inductive zeV where
 | c0 (s0_0 : Int)
inductive zeR where
 | e0 
 | e1 (c1_0 : Int)
noncomputable def zdn (n0 : Nat) (A0 : Nat → Insn) (g1_0 : Nat) (g1_1 : Nat → Part) : zeV → Option (zeV ⊕ zeR)
 | .c0 s0_0 =>
 bif decide (s0_0 < (g1_0 : Int)) then
 (bif inR s0_0 g1_0 then
 ((zm4 n0 A0 ((g1_1 (s0_0).toNat))).bind fun rb0 =>
 bif rb0.2 then
 (some (.inl (.c0 (IntKind.i64.wrap (s0_0 + 1)))))
 else (some (.inr (.e1 rb0.1))))
 else (none))
 else (some (.inr (.e0 )))
noncomputable def znh : Code := zb6 Try.f41 [1,1,1,1,1,0,1,0,0]
def zxA (a0 : Option Addr) (p0 q0 n0 k0 : Nat) (A0 : Nat → Insn) (g1_0 : Nat) (g1_1 : Nat → Part) : zeV → List L1 → List Value
 | .c0 s0_0,ls => [.slice a0 n0 (n0 + k0),.slice none 0 0,.int .i64 (0),.int .i64 (0),(rowV (lget ls 1) g1_0 2),(rowV (lget ls 1) g1_0 2),.int .i64 ((g1_0 : Int)),.int .i64 (s0_0)]
def zxr : zeV → List (Nat × Nat)
 | .c0 _ => [(1,1),(3,2),(1,35),(3,14)]
noncomputable def zw9 (a0 : Option Addr) (p0 q0 n0 k0 : Nat) (A0 : Nat → Insn) (g1_0 : Nat) (g1_1 : Nat → Part) (s : zeV) : List L1 → List Value := mrgF (zxr s) (zxA a0 p0 q0 n0 k0 A0 g1_0 g1_1 s) 2
def zwA (a0 : Option Addr) (p0 q0 n0 k0 : Nat) (A0 : Nat → Insn) (g1_0 : Nat) (g1_1 : Nat → Part) : zeV → List L1 → List Obj
 | .c0 s0_0,ls => [unb,rowO (lget ls 1) (esG zdf g1_0 g1_1) 75 g1_0 2,unb]
def zwE (a0 : Option Addr) (p0 q0 n0 k0 : Nat) (A0 : Nat → Insn) (g1_0 : Nat) (g1_1 : Nat → Part) : zeR → List L1 → List Value
 | .e0 ,ls => [.slice a0 n0 (n0 + k0),.slice none 0 0,.int .i64 (0),.int .i64 (0),(rowV (lget ls 1) g1_0 2),(rowV (lget ls 1) g1_0 2),.int .i64 ((g1_0 : Int))]
 | .e1 c1_0,ls => [.slice a0 n0 (n0 + k0),.slice none 0 0,.int .i64 (c1_0),.int .i64 (16),(rowV (lget ls 1) g1_0 2),(rowV (lget ls 1) g1_0 2),.int .i64 ((g1_0 : Int))]
def zxl : zeR → List (Nat × Nat)
 | .e0  => [(1,1),(3,2),(1,35),(2,15)]
 | .e1 _ => [(1,1),(3,2),(1,35),(2,15)]
noncomputable def zmU (a0 : Option Addr) (p0 q0 n0 k0 : Nat) (A0 : Nat → Insn) (g1_0 : Nat) (g1_1 : Nat → Part) (r : zeR) : List L1 → List Value := mrgF (zxl r) (zwE a0 p0 q0 n0 k0 A0 g1_0 g1_1 r) 2
def zhx (a0 : Option Addr) (p0 q0 n0 k0 : Nat) (A0 : Nat → Insn) (g1_0 : Nat) (g1_1 : Nat → Part) : zeR → List L1 → List Obj
 | .e0 ,ls => [unb,rowO (lget ls 1) (esG zdf g1_0 g1_1) 75 g1_0 2,unb]
 | .e1 c1_0,ls => [unb,rowO (lget ls 1) (esG zdf g1_0 g1_1) 75 g1_0 2,unb]
def zwU : zeR → Ex
 | .e0  => (.exit 2)
 | .e1 _ => .ret
theorem zso (g1_0 : Nat) (g1_1 : Nat → Part) (s : zeV) (r : zeR) (h : lpO (zdn n0 A0 g1_0 g1_1) s = some r) : zdm Try.prog M B0 S (.loop znh) 3 (zw9 a0 p0 q0 n0 k0 A0 g1_0 g1_1 s) (zwA a0 p0 q0 n0 k0 A0 g1_0 g1_1 s) (zwU r) 2 (zmU a0 p0 q0 n0 k0 A0 g1_0 g1_1 r) (zhx a0 p0 q0 n0 k0 A0 g1_0 g1_1 r) 3 :=
 zb5 (fun s q e => by
  cases s with
  | c0 s0_0 =>
   unfold zdn at e
   dsimp only at e
   replace e := za e
   rcases e with ⟨hq0,e⟩ | ⟨hq0,e⟩
   ·replace e := za e
    rcases e with ⟨hq1,e⟩ | ⟨hq1,e⟩
    ·replace e := zf e
     obtain ⟨rb0,e_rb0,e⟩ := e
     try dsimp only at e
     replace e := za e
     let P1 : List (PG Try.prog M B0 S) := [.b (zcR hq0),.q (zH (kd := .i64) (T := 71) (x := s0_0) (N := g1_0) (sz := 2) rfl (fun w => by kernel_rfl) hq1),.l (accG (i := 1) (f := zdf) (A := g1_1) (k := (s0_0).toNat) 0 [.int .i64 (((g1_1 (s0_0).toNat)).fFrom),.int .i64 (((g1_1 (s0_0).toNat)).fTo)] zbn (ze hq1) rfl),.o,.a 3,.o,.a 3,.cg (zyY hU a0 p0 q0 n0 k0 A0 hR0 ((g1_1 (s0_0).toNat)) rb0 e_rb0),.o,.o]
     rcases e with ⟨hq2,e⟩ | ⟨hq2,e⟩
     ·cases e; exact zb hU (P1 ++ [.b hq2,.o,.o,.o,.o,.o,.o]) [0,1] (fun b => rfl) (by decide) rfl rfl (fun b => by kernel_rfl)
     ·cases e; exact ⟨zhB,zb hU (P1 ++ [.b hq2,.o,.o,.o,.o,.o,.o,.o,.o]) [0,1] (fun b => rfl) (by decide) rfl rfl (fun b => by kernel_rfl)⟩
    ·exact zd e
   ·cases e; exact ⟨zcn 2,zb hU [.b (zb7 hq0)] [0,1] (fun b => rfl) (by decide) rfl rfl (fun b => by kernel_rfl)⟩) s r h
noncomputable def zh3 (a0 : Option Addr) (p0 q0 n0 k0 : Nat) (A0 : Nat → Insn) (g1_0 : Nat) (g1_1 : Nat → Part) (s0_0 : Int) (ls : List L1) : List Value := List.append [.slice a0 n0 (n0 + k0),((lget ls 0).u 1),.slice none 0 0,.int .i64 (0),.int .i64 (0),((lget ls 0).u 5),((lget ls 0).u 6),(rowV (lget ls 1) g1_0 2)] (List.append (jks (lget ls 0).u 8 30) (List.append [.slice a0 n0 (n0 + k0),(rowV (lget ls 1) g1_0 2),(rowV (lget ls 1) g1_0 2),.int .i64 ((g1_0 : Int)),.bool false,(rowV (lget ls 1) g1_0 2),.int .i64 ((g1_0 : Int)),.int .i64 (s0_0)] (jks (lget ls 0).u 46 14)))
def zhd (a0 : Option Addr) (p0 q0 n0 k0 : Nat) (A0 : Nat → Insn) (g1_0 : Nat) (g1_1 : Nat → Part) (s0_0 : Int) (ls : List L1) : List Obj := [unb,rowO (lget ls 1) (esG zdf g1_0 g1_1) 75 g1_0 2]
theorem zsL (g1_0 : Nat) (g1_1 : Nat → Part) (s0_0 : Int) (h : lpO (zdn n0 A0 g1_0 g1_1) (.c0 s0_0) = some (.e0 )) : SpcG Try.prog M B0 S ⟨fun ls => .code (.loop znh) (zh3 a0 p0 q0 n0 k0 A0 g1_0 g1_1 s0_0 ls),zhd a0 p0 q0 n0 k0 A0 g1_0 g1_1 s0_0,1,(.exit 2),fun ls => zmU a0 p0 q0 n0 k0 A0 g1_0 g1_1 (.e0 ) (ls.take 2 ++ ls.drop 2),fun ls => (zhx a0 p0 q0 n0 k0 A0 g1_0 g1_1 (.e0 ) (ls.take 2 ++ ls.drop 2)).take 2 ++ List.replicate 0 unb,fun ls => (zhx a0 p0 q0 n0 k0 A0 g1_0 g1_1 (.e0 ) (ls.take 2 ++ ls.drop 2)).drop 2⟩ :=
 zr hU 0 (k0 := 2) (zso hU a0 p0 q0 n0 k0 A0 hR0 g1_0 g1_1 _ _ h) (zh3 a0 p0 q0 n0 k0 A0 g1_0 g1_1 s0_0) (zhd a0 p0 q0 n0 k0 A0 g1_0 g1_1 s0_0) (fun _ => rfl) (fun ls h => by match ls,h with | [l0,l1],_ => exact ⟨by kernel_rfl,by kernel_rfl⟩) (fun ls h => by match ls,h with | [l0,l1],_ => rfl) (by decide) (by decide) (fun ls => rfl)
theorem zsG (g1_0 : Nat) (g1_1 : Nat → Part) (s0_0 : Int) (c1_0 : Int) (h : lpO (zdn n0 A0 g1_0 g1_1) (.c0 s0_0) = some (.e1 c1_0)) : SpcG Try.prog M B0 S ⟨fun ls => .code (.loop znh) (zh3 a0 p0 q0 n0 k0 A0 g1_0 g1_1 s0_0 ls),zhd a0 p0 q0 n0 k0 A0 g1_0 g1_1 s0_0,1,.ret,fun ls => zmU a0 p0 q0 n0 k0 A0 g1_0 g1_1 (.e1 c1_0) (ls.take 2 ++ ls.drop 2),fun ls => (zhx a0 p0 q0 n0 k0 A0 g1_0 g1_1 (.e1 c1_0) (ls.take 2 ++ ls.drop 2)).take 2 ++ List.replicate 0 unb,fun ls => (zhx a0 p0 q0 n0 k0 A0 g1_0 g1_1 (.e1 c1_0) (ls.take 2 ++ ls.drop 2)).drop 2⟩ :=
 zr hU 0 (k0 := 2) (zso hU a0 p0 q0 n0 k0 A0 hR0 g1_0 g1_1 _ _ h) (zh3 a0 p0 q0 n0 k0 A0 g1_0 g1_1 s0_0) (zhd a0 p0 q0 n0 k0 A0 g1_0 g1_1 s0_0) (fun _ => rfl) (fun ls h => by match ls,h with | [l0,l1],_ => exact ⟨by kernel_rfl,by kernel_rfl⟩) (fun ls h => by match ls,h with | [l0,l1],_ => rfl) (by decide) (by decide) (fun ls => rfl)
inductive zm9 where
 | e0 (c0_0 : Int) (c0_1 : Int)
 | e1 (c1_0 : Nat) (c1_1 : Nat → Part)
noncomputable def zhJ (n0 : Nat) (A0 : Nat → Insn) : Option zm9 :=
 bif (n0 : Int) == 0 then
 (some (.e0 0 10))
 else (bif decide (4096 < (n0 : Int)) then
 (some (.e0 0 10))
 else ((lpO (zdp n0 A0) (.c0 0)).bind fun g0 => match g0 with
 | .e0  => ((zhX n0 A0).bind fun g1 => match g1 with
 | .e0  => (some (.e0 0 0))
 | .e1 g1_0 g1_1 => (bif decide (64 < (g1_0 : Int)) then
 (some (.e0 0 17))
 else ((lpO (zdn n0 A0 g1_0 g1_1) (.c0 0)).bind fun g2 => match g2 with
 | .e0  => (some (.e1 g1_0 g1_1))
 | .e1 g2_0 => (some (.e0 g2_0 16)))))
 | .e1 g0_0 g0_1 => (some (.e0 g0_0 g0_1))))
def zyB (a0 : Option Addr) (p0 q0 n0 k0 : Nat) (A0 : Nat → Insn) (c0_0 : Int) (c0_1 : Int) : Spc := ⟨fun ls => .call 41 #[.slice a0 n0 (n0 + k0)],fun ls => [],0,.normal,fun ls => [.tuple #[.slice none 0 0,.int .i64 (c0_0),.int .i64 (c0_1)]],fun ls => [],fun ls => []⟩
def zyp (a0 : Option Addr) (p0 q0 n0 k0 : Nat) (A0 : Nat → Insn) (c1_0 : Nat) (c1_1 : Nat → Part) : Spc := ⟨fun ls => .call 41 #[.slice a0 n0 (n0 + k0)],fun ls => [],1,.normal,fun ls => [.tuple #[(rowV (lget ls 0) c1_0 2),.int .i64 (0),.int .i64 (0)]],fun ls => [],fun ls => [rowO (lget ls 0) (esG zdf c1_0 c1_1) 75 c1_0 2]⟩
theorem zyr (c0_0 : Int) (c0_1 : Int) (e : zhJ n0 A0 = some (.e0 c0_0 c0_1)) : SpcG Try.prog M B0 S (zyB a0 p0 q0 n0 k0 A0 c0_0 c0_1) := by
 unfold zhJ at e
 replace e := za e
 let P1 : List (PG Try.prog M B0 S) := [.o,.o,.o,.o,.o]
 rcases e with ⟨hq0,e⟩ | ⟨hq0,e⟩
 ·injection e with e; injection e with i0 i1; subst i0 i1; exact zo hU (P := Try.prog) Try.func41 (fun xs w => by kernel_rfl) 0 _ _ (fun _ => rfl) _ _ _ [] (P1 ++ [.b (zO hq0),.o,.o,.o,.o,.o]) [] (fun b => by kernel_rfl)
 ·replace e := za e
  let P2 : List (PG Try.prog M B0 S) := P1 ++ [.b (zF hq0),.o,.o,.o]
  rcases e with ⟨hq1,e⟩ | ⟨hq1,e⟩
  ·injection e with e; injection e with i0 i1; subst i0 i1; exact zo hU (P := Try.prog) Try.func41 (fun xs w => by kernel_rfl) 0 _ _ (fun _ => rfl) _ _ _ [] (P2 ++ [.b (zid hq1),.o,.o,.o,.o]) [] (fun b => by kernel_rfl)
  ·replace e := zf e
   obtain ⟨g0,e_g0,e⟩ := e
   let P3 : List (PG Try.prog M B0 S) := P2 ++ [.b (zgR hq1),.o,.o,.cp]
   rcases g0 with _ | ⟨g0_0,g0_1⟩
   ·try dsimp only at e
    replace e := zf e
    obtain ⟨g1,e_g1,e⟩ := e
    let P4 : List (PG Try.prog M B0 S) := P3 ++ [.cx (zkS hU a0 p0 q0 n0 k0 A0 hR0 0  e_g0) [],.o]
    rcases g1 with _ | ⟨g1_0,g1_1⟩
    ·try dsimp only at e
     injection e with e; injection e with i0 i1; subst i0 i1; exact zo hU (P := Try.prog) Try.func41 (fun xs w => by kernel_rfl) 0 _ _ (fun _ => rfl) _ _ _ [] (P4 ++ [.xg (zxQ hU a0 p0 q0 n0 k0 A0 hR0  e_g1) [],.o,.o,.o,.o,.o,.o,.o,.o,.o,.o,.o,.o]) [] (fun b => by kernel_rfl)
    ·try dsimp only at e
     replace e := za e
     rcases e with ⟨hq2,e⟩ | ⟨hq2,e⟩
     ·injection e with e; injection e with i0 i1; subst i0 i1; exact zo hU (P := Try.prog) Try.func41 (fun xs w => by kernel_rfl) 0 _ _ (fun _ => rfl) _ _ _ [] (P4 ++ [.xg (zoX hU a0 p0 q0 n0 k0 A0 hR0 g1_0 g1_1 e_g1) [],.o,.o,.o,.b (zid hq2),.o,.o,.o]) [] (fun b => by kernel_rfl)
     ·replace e := zf e
      obtain ⟨g2,e_g2,e⟩ := e
      rcases g2 with _ | ⟨g2_0⟩
      ·try dsimp only at e
       cases e
      ·try dsimp only at e
       injection e with e; injection e with i0 i1; subst i0 i1; exact zo hU (P := Try.prog) Try.func41 (fun xs w => by kernel_rfl) 0 _ _ (fun _ => rfl) _ _ _ [] (P4 ++ [.xg (zoX hU a0 p0 q0 n0 k0 A0 hR0 g1_0 g1_1 e_g1) [],.o,.o,.o,.b (zgR hq2),.o,.o,.o,.cp,.cx (zsG hU a0 p0 q0 n0 k0 A0 hR0 g1_0 g1_1 0 g2_0 e_g2) [0,1]]) [] (fun b => by kernel_rfl)
   ·try dsimp only at e
    injection e with e; injection e with i0 i1; subst i0 i1; exact zo hU (P := Try.prog) Try.func41 (fun xs w => by kernel_rfl) 0 _ _ (fun _ => rfl) _ _ _ [] (P3 ++ [.cx (zsi hU a0 p0 q0 n0 k0 A0 hR0 0 g0_0 g0_1 e_g0) []]) [] (fun b => by kernel_rfl)
theorem zyA (c1_0 : Nat) (c1_1 : Nat → Part) (e : zhJ n0 A0 = some (.e1 c1_0 c1_1)) : SpcG Try.prog M B0 S (zyp a0 p0 q0 n0 k0 A0 c1_0 c1_1) := by
 unfold zhJ at e
 replace e := za e
 rcases e with ⟨hq0,e⟩ | ⟨hq0,e⟩
 ·cases e
 ·replace e := za e
  rcases e with ⟨hq1,e⟩ | ⟨hq1,e⟩
  ·cases e
  ·replace e := zf e
   obtain ⟨g0,e_g0,e⟩ := e
   rcases g0 with _ | ⟨g0_0,g0_1⟩
   ·try dsimp only at e
    replace e := zf e
    obtain ⟨g1,e_g1,e⟩ := e
    rcases g1 with _ | ⟨g1_0,g1_1⟩
    ·try dsimp only at e
     cases e
    ·try dsimp only at e
     replace e := za e
     rcases e with ⟨hq2,e⟩ | ⟨hq2,e⟩
     ·cases e
     ·replace e := zf e
      obtain ⟨g2,e_g2,e⟩ := e
      rcases g2 with _ | ⟨g2_0⟩
      ·try dsimp only at e
       injection e with e; injection e with i0 i1; subst i0 i1; exact zo hU (P := Try.prog) Try.func41 (fun xs w => by kernel_rfl) 0 _ _ (fun _ => rfl) _ _ _ [1] [.o,.o,.o,.o,.o,.b (zF hq0),.o,.o,.o,.b (zgR hq1),.o,.o,.cp,.cx (zkS hU a0 p0 q0 n0 k0 A0 hR0 0  e_g0) [],.o,.xg (zoX hU a0 p0 q0 n0 k0 A0 hR0 g1_0 g1_1 e_g1) [],.o,.o,.o,.b (zgR hq2),.o,.o,.o,.cp,.cx (zsL hU a0 p0 q0 n0 k0 A0 hR0 g1_0 g1_1 0  e_g2) [0,1],.o,.o,.o,.o] [] (fun b => by kernel_rfl)
      ·try dsimp only at e
       cases e
   ·try dsimp only at e
    cases e
inductive zeA where
 | c0 (s0_0 : Int)
inductive zeF where
 | e0 
 | e1 (c1_0 : Int)
noncomputable def zbt (n0 : Nat) (A0 : Nat → Insn) (g0_0 : Nat) (g0_1 : Nat → Part) : zeA → Option (zeA ⊕ zeF)
 | .c0 s0_0 =>
 bif decide (s0_0 < (g0_0 : Int)) then
 (bif inR s0_0 g0_0 then
 ((zfp n0 A0 ((g0_1 (s0_0).toNat))).bind fun rb0 =>
 bif rb0.2 then
 (some (.inl (.c0 (IntKind.i64.wrap (s0_0 + 1)))))
 else (some (.inr (.e1 rb0.1))))
 else (none))
 else (some (.inr (.e0 )))
noncomputable def zlP : Code := zb6 Try.f28 [1,1,1,0,1,0,0]
def zv2 (a0 : Option Addr) (p0 q0 n0 k0 : Nat) (A0 : Nat → Insn) (g0_0 : Nat) (g0_1 : Nat → Part) : zeA → List L1 → List Value
 | .c0 s0_0,ls => [.slice a0 n0 (n0 + k0),.int .i64 (0),.int .i64 (0),(rowV (lget ls 0) g0_0 2),.int .i64 ((g0_0 : Int)),.int .i64 (s0_0)]
def zvZ : zeA → List (Nat × Nat)
 | .c0 _ => [(1,1),(2,17),(3,13)]
noncomputable def zv0 (a0 : Option Addr) (p0 q0 n0 k0 : Nat) (A0 : Nat → Insn) (g0_0 : Nat) (g0_1 : Nat → Part) (s : zeA) : List L1 → List Value := mrgF (zvZ s) (zv2 a0 p0 q0 n0 k0 A0 g0_0 g0_1 s) 1
def zwe (a0 : Option Addr) (p0 q0 n0 k0 : Nat) (A0 : Nat → Insn) (g0_0 : Nat) (g0_1 : Nat → Part) : zeA → List L1 → List Obj
 | .c0 s0_0,ls => [rowO (lget ls 0) (esG zdf g0_0 g0_1) 75 g0_0 2,unb]
def zwl (a0 : Option Addr) (p0 q0 n0 k0 : Nat) (A0 : Nat → Insn) (g0_0 : Nat) (g0_1 : Nat → Part) : zeF → List L1 → List Value
 | .e0 ,ls => [.slice a0 n0 (n0 + k0),.int .i64 (0),.int .i64 (0),(rowV (lget ls 0) g0_0 2),.int .i64 ((g0_0 : Int))]
 | .e1 c1_0,ls => [.slice a0 n0 (n0 + k0),.int .i64 (c1_0),.int .i64 (15),(rowV (lget ls 0) g0_0 2),.int .i64 ((g0_0 : Int))]
def zws : zeF → List (Nat × Nat)
 | .e0  => [(1,1),(2,17),(2,14)]
 | .e1 _ => [(1,1),(2,17),(2,14)]
noncomputable def zlO (a0 : Option Addr) (p0 q0 n0 k0 : Nat) (A0 : Nat → Insn) (g0_0 : Nat) (g0_1 : Nat → Part) (r : zeF) : List L1 → List Value := mrgF (zws r) (zwl a0 p0 q0 n0 k0 A0 g0_0 g0_1 r) 1
def zgX (a0 : Option Addr) (p0 q0 n0 k0 : Nat) (A0 : Nat → Insn) (g0_0 : Nat) (g0_1 : Nat → Part) : zeF → List L1 → List Obj
 | .e0 ,ls => [rowO (lget ls 0) (esG zdf g0_0 g0_1) 75 g0_0 2,unb]
 | .e1 c1_0,ls => [rowO (lget ls 0) (esG zdf g0_0 g0_1) 75 g0_0 2,unb]
def zv7 : zeF → Ex
 | .e0  => (.exit 0)
 | .e1 _ => .ret
theorem zqT (g0_0 : Nat) (g0_1 : Nat → Part) (s : zeA) (r : zeF) (h : lpO (zbt n0 A0 g0_0 g0_1) s = some r) : zdm Try.prog M B0 S (.loop zlP) 2 (zv0 a0 p0 q0 n0 k0 A0 g0_0 g0_1 s) (zwe a0 p0 q0 n0 k0 A0 g0_0 g0_1 s) (zv7 r) 1 (zlO a0 p0 q0 n0 k0 A0 g0_0 g0_1 r) (zgX a0 p0 q0 n0 k0 A0 g0_0 g0_1 r) 2 :=
 zb5 (fun s q e => by
  cases s with
  | c0 s0_0 =>
   unfold zbt at e
   dsimp only at e
   replace e := za e
   rcases e with ⟨hq0,e⟩ | ⟨hq0,e⟩
   ·replace e := za e
    rcases e with ⟨hq1,e⟩ | ⟨hq1,e⟩
    ·replace e := zf e
     obtain ⟨rb0,e_rb0,e⟩ := e
     try dsimp only at e
     replace e := za e
     let P1 : List (PG Try.prog M B0 S) := [.b (zcR hq0),.q (zH (kd := .i64) (T := 71) (x := s0_0) (N := g0_0) (sz := 2) rfl (fun w => by kernel_rfl) hq1),.l (accG (i := 0) (f := zdf) (A := g0_1) (k := (s0_0).toNat) 0 [.int .i64 (((g0_1 (s0_0).toNat)).fFrom),.int .i64 (((g0_1 (s0_0).toNat)).fTo)] zbn (ze hq1) rfl),.o,.a 2,.o,.a 2,.cg (zvs hU a0 p0 q0 n0 k0 A0 hR0 ((g0_1 (s0_0).toNat)) rb0 e_rb0),.o,.o]
     rcases e with ⟨hq2,e⟩ | ⟨hq2,e⟩
     ·cases e; exact zb hU (P1 ++ [.b hq2,.o,.o,.o,.o,.o,.o]) [0] (fun b => rfl) (by decide) rfl rfl (fun b => by kernel_rfl)
     ·cases e; exact ⟨zhB,zb hU (P1 ++ [.b hq2,.o,.o,.o,.o,.o,.o,.o]) [0] (fun b => rfl) (by decide) rfl rfl (fun b => by kernel_rfl)⟩
    ·exact zd e
   ·cases e; exact ⟨zcn 0,zb hU [.b (zb7 hq0)] [0] (fun b => rfl) (by decide) rfl rfl (fun b => by kernel_rfl)⟩) s r h
noncomputable def zg9 (a0 : Option Addr) (p0 q0 n0 k0 : Nat) (A0 : Nat → Insn) (g0_0 : Nat) (g0_1 : Nat → Part) (s0_0 : Int) (ls : List L1) : List Value := List.append [.slice a0 n0 (n0 + k0),undef,.int .i64 (0),.int .i64 (0),(rowV (lget ls 0) g0_0 2),.int .i64 (0),.int .i64 (0)] (List.append (und 4) (List.append [.tuple #[(rowV (lget ls 0) g0_0 2),.int .i64 (0),.int .i64 (0)],.slice a0 n0 (n0 + k0),.tuple #[(rowV (lget ls 0) g0_0 2),.int .i64 (0),.int .i64 (0)],(rowV (lget ls 0) g0_0 2),.int .i64 (0),.int .i64 (0),.int .i64 (0),.bool false,undef,undef,(rowV (lget ls 0) g0_0 2),.int .i64 ((g0_0 : Int)),.int .i64 (s0_0)] (und 13)))
def zgz (a0 : Option Addr) (p0 q0 n0 k0 : Nat) (A0 : Nat → Insn) (g0_0 : Nat) (g0_1 : Nat → Part) (s0_0 : Int) (ls : List L1) : List Obj := [rowO (lget ls 0) (esG zdf g0_0 g0_1) 75 g0_0 2]
theorem zr2 (g0_0 : Nat) (g0_1 : Nat → Part) (s0_0 : Int) (h : lpO (zbt n0 A0 g0_0 g0_1) (.c0 s0_0) = some (.e0 )) : SpcG Try.prog M B0 S ⟨fun ls => .code (.loop zlP) (zg9 a0 p0 q0 n0 k0 A0 g0_0 g0_1 s0_0 ls),zgz a0 p0 q0 n0 k0 A0 g0_0 g0_1 s0_0,1,(.exit 0),fun ls => zlO a0 p0 q0 n0 k0 A0 g0_0 g0_1 (.e0 ) (ls.take 1 ++ ls.drop 1),fun ls => (zgX a0 p0 q0 n0 k0 A0 g0_0 g0_1 (.e0 ) (ls.take 1 ++ ls.drop 1)).take 1 ++ List.replicate 0 unb,fun ls => (zgX a0 p0 q0 n0 k0 A0 g0_0 g0_1 (.e0 ) (ls.take 1 ++ ls.drop 1)).drop 1⟩ :=
 zr hU 0 (k0 := 1) (zqT hU a0 p0 q0 n0 k0 A0 hR0 g0_0 g0_1 _ _ h) (zg9 a0 p0 q0 n0 k0 A0 g0_0 g0_1 s0_0) (zgz a0 p0 q0 n0 k0 A0 g0_0 g0_1 s0_0) (fun _ => rfl) (fun ls h => by match ls,h with | [l0],_ => exact ⟨by kernel_rfl,by kernel_rfl⟩) (fun ls h => by match ls,h with | [l0],_ => rfl) (by decide) (by decide) (fun ls => rfl)
theorem zr9 (g0_0 : Nat) (g0_1 : Nat → Part) (s0_0 : Int) (c1_0 : Int) (h : lpO (zbt n0 A0 g0_0 g0_1) (.c0 s0_0) = some (.e1 c1_0)) : SpcG Try.prog M B0 S ⟨fun ls => .code (.loop zlP) (zg9 a0 p0 q0 n0 k0 A0 g0_0 g0_1 s0_0 ls),zgz a0 p0 q0 n0 k0 A0 g0_0 g0_1 s0_0,1,.ret,fun ls => zlO a0 p0 q0 n0 k0 A0 g0_0 g0_1 (.e1 c1_0) (ls.take 1 ++ ls.drop 1),fun ls => (zgX a0 p0 q0 n0 k0 A0 g0_0 g0_1 (.e1 c1_0) (ls.take 1 ++ ls.drop 1)).take 1 ++ List.replicate 0 unb,fun ls => (zgX a0 p0 q0 n0 k0 A0 g0_0 g0_1 (.e1 c1_0) (ls.take 1 ++ ls.drop 1)).drop 1⟩ :=
 zr hU 0 (k0 := 1) (zqT hU a0 p0 q0 n0 k0 A0 hR0 g0_0 g0_1 _ _ h) (zg9 a0 p0 q0 n0 k0 A0 g0_0 g0_1 s0_0) (zgz a0 p0 q0 n0 k0 A0 g0_0 g0_1 s0_0) (fun _ => rfl) (fun ls h => by match ls,h with | [l0],_ => exact ⟨by kernel_rfl,by kernel_rfl⟩) (fun ls h => by match ls,h with | [l0],_ => rfl) (by decide) (by decide) (fun ls => rfl)
noncomputable def zb0 (n0 : Nat) (A0 : Nat → Insn) : Option ((Int) × (Int)) :=
 (zhJ n0 A0).bind fun g0 => match g0 with
 | .e0 g0_0 g0_1 => (bif g0_1 == 0 then
 (some (0,0))
 else (some (g0_0,g0_1)))
 | .e1 g0_0 g0_1 => ((lpO (zbt n0 A0 g0_0 g0_1) (.c0 0)).bind fun g1 => match g1 with
 | .e0  => (some (0,0))
 | .e1 g1_0 => (some (g1_0,15)))
theorem zfy (r : (Int) × (Int)) (e : zb0 n0 A0 = some r) : ConG Try.prog S 28 #[.slice a0 n0 (n0 + k0)] (vt1 r) := by
 unfold zb0 at e
 replace e := zf e
 obtain ⟨g0,e_g0,e⟩ := e
 rcases g0 with ⟨g0_0,g0_1⟩ | ⟨g0_0,g0_1⟩
 ·try dsimp only at e
  replace e := za e
  let P1 : List (PG Try.prog M B0 S) := [.o,.o,.o,.xg (zyr hU a0 p0 q0 n0 k0 A0 hR0 g0_0 g0_1 e_g0) [],.o,.o,.o,.o,.o,.o,.o,.o]
  rcases e with ⟨hq0,e⟩ | ⟨hq0,e⟩
  ·injection e with e; subst e; exact zc hU (P := Try.prog) Try.func28 (fun xs w => by kernel_rfl) _ _ (P1 ++ [.b (zdq hq0),.o,.o,.o,.o,.o,.o]) [] (fun b => by kernel_rfl)
  ·injection e with e; subst e; exact zc hU (P := Try.prog) Try.func28 (fun xs w => by kernel_rfl) _ _ (P1 ++ [.b (zdU hq0),.o,.o,.o,.o]) [] (fun b => by kernel_rfl)
 ·try dsimp only at e
  replace e := zf e
  obtain ⟨g1,e_g1,e⟩ := e
  let P2 : List (PG Try.prog M B0 S) := [.o,.o,.o,.xg (zyA hU a0 p0 q0 n0 k0 A0 hR0 g0_0 g0_1 e_g0) [],.o,.o,.o,.o,.o,.o,.o,.o,.o,.o,.o,.o,.cp]
  rcases g1 with _ | ⟨g1_0⟩
  ·try dsimp only at e
   injection e with e; subst e; exact zc hU (P := Try.prog) Try.func28 (fun xs w => by kernel_rfl) _ _ (P2 ++ [.cx (zr2 hU a0 p0 q0 n0 k0 A0 hR0 g0_0 g0_1 0  e_g1) [0],.o,.o]) [] (fun b => by kernel_rfl)
  ·try dsimp only at e
   injection e with e; subst e; exact zc hU (P := Try.prog) Try.func28 (fun xs w => by kernel_rfl) _ _ (P2 ++ [.cx (zr9 hU a0 p0 q0 n0 k0 A0 hR0 g0_0 g0_1 0 g1_0 e_g1) [0]]) [] (fun b => by kernel_rfl)
noncomputable def zgT (n0 : Nat) (A0 : Nat → Insn) (y1 : Int) : Option (Bool) :=
 bif decide (0 ≤ y1) then
 (bif decide (y1 < (n0 : Int)) then
 (bif inR y1 n0 then
 (bif zw ((A0 (y1).toNat)) then
 ((zfr n0 A0 y1).bind fun r0 =>
 bif r0 then
 (some false)
 else (some true))
 else (some false))
 else (none))
 else (some false))
 else (some false)
theorem zpu (y1 : Int) (r : Bool) (e : zgT n0 A0 y1 = some r) : ConG Try.prog S 80 #[.slice a0 n0 (n0 + k0),.int .i64 (y1)] (.bool (r)) := by
 unfold zgT at e
 replace e := za e
 rcases e with ⟨hq0,e⟩ | ⟨hq0,e⟩
 ·replace e := za e
  let P1 : List (PG Try.prog M B0 S) := [.o,.o,.b (zsk hq0),.o,.o,.o,.o]
  rcases e with ⟨hq1,e⟩ | ⟨hq1,e⟩
  ·replace e := za e
   rcases e with ⟨hq2,e⟩ | ⟨hq2,e⟩
   ·replace e := za e
    let P2 : List (PG Try.prog M B0 S) := P1 ++ [.b (zcR hq1),.o,.o,.o,.o,.q (zA (kd := .i64) (T := 22) (x := y1) (sz := 5) rfl (fun w => by kernel_rfl) hR0 hq2),.l (zcm hR0 zj (ze hq2) 0 [.int .u8 (nn ((A0 (y1).toNat)).fOp),.int .u8 (nn ((A0 (y1).toNat)).fDst),.int .u8 (nn ((A0 (y1).toNat)).fSrc),.int .i16 (ii ((A0 (y1).toNat)).fOff),.int .i32 (ii ((A0 (y1).toNat)).fImm)] rfl)]
    rcases e with ⟨hq3,e⟩ | ⟨hq3,e⟩
    ·replace e := zf e
     obtain ⟨r0,e_r0,e⟩ := e
     try dsimp only at e
     replace e := za e
     rcases e with ⟨hq4,e⟩ | ⟨hq4,e⟩
     ·subst hq4
      injection e with e; subst e; exact zc hU (P := Try.prog) Try.func80 (fun xs w => by kernel_rfl) _ _ (P2 ++ [.cg (zi9 hU ((A0 (y1).toNat)) true hq3),.o,.o,.o,.o,.cg (zeO hU a0 p0 q0 n0 k0 A0 hR0 y1 true e_r0),.o,.o,.o]) [] (fun b => by kernel_rfl)
     ·subst hq4
      injection e with e; subst e; exact zc hU (P := Try.prog) Try.func80 (fun xs w => by kernel_rfl) _ _ (P2 ++ [.cg (zi9 hU ((A0 (y1).toNat)) true hq3),.o,.o,.o,.o,.cg (zeO hU a0 p0 q0 n0 k0 A0 hR0 y1 false e_r0),.o,.o,.o]) [] (fun b => by kernel_rfl)
    ·injection e with e; subst e; exact zc hU (P := Try.prog) Try.func80 (fun xs w => by kernel_rfl) _ _ (P2 ++ [.cg (zi9 hU ((A0 (y1).toNat)) false hq3),.o,.o,.o,.o]) [] (fun b => by kernel_rfl)
   ·exact zd e
  ·injection e with e; subst e; exact zc hU (P := Try.prog) Try.func80 (fun xs w => by kernel_rfl) _ _ (P1 ++ [.b (zb7 hq1),.o,.o,.o,.o,.o,.o]) [] (fun b => by kernel_rfl)
 ·injection e with e; subst e; exact zc hU (P := Try.prog) Try.func80 (fun xs w => by kernel_rfl) _ _ [.o,.o,.b (zpX hq0),.o,.o,.o,.o,.o,.o,.o] [] (fun b => by kernel_rfl)
noncomputable def zel (n0 : Nat) (A0 : Nat → Insn) (y1 : Int) : Option ((Int) × (Bool)) :=
 (zgT n0 A0 y1).bind fun r0 =>
 bif r0 then
 (bif inR y1 n0 then
 (bif zs ((A0 (y1).toNat)) then
 (bif decide ((IntKind.i64.wrap ((IntKind.i64.wrap (y1 + 1)) + (ii ((A0 (y1).toNat)).fImm))) < 0) then
 (some (0,false))
 else (bif decide ((n0 : Int) ≤ (IntKind.i64.wrap ((IntKind.i64.wrap (y1 + 1)) + (ii ((A0 (y1).toNat)).fImm)))) then
 (some (0,false))
 else (some ((IntKind.i64.wrap ((IntKind.i64.wrap (y1 + 1)) + (ii ((A0 (y1).toNat)).fImm))),true))))
 else (bif zV ((A0 (y1).toNat)) then
 (bif decide ((IntKind.i64.wrap ((IntKind.i64.wrap (y1 + 1)) + (ii ((A0 (y1).toNat)).fOff))) < 0) then
 (some (0,false))
 else (bif decide ((n0 : Int) ≤ (IntKind.i64.wrap ((IntKind.i64.wrap (y1 + 1)) + (ii ((A0 (y1).toNat)).fOff)))) then
 (some (0,false))
 else (some ((IntKind.i64.wrap ((IntKind.i64.wrap (y1 + 1)) + (ii ((A0 (y1).toNat)).fOff))),true))))
 else (some (0,false))))
 else (none))
 else (some (0,false))
theorem ztw (y1 : Int) (r : (Int) × (Bool)) (e : zel n0 A0 y1 = some r) : ConG Try.prog S 71 #[.slice a0 n0 (n0 + k0),.int .i64 (y1)] (vt0 r) := by
 unfold zel at e
 replace e := zf e
 obtain ⟨r0,e_r0,e⟩ := e
 try dsimp only at e
 replace e := za e
 let P1 : List (PG Try.prog M B0 S) := [.o,.o,.o,.o]
 rcases e with ⟨hq0,e⟩ | ⟨hq0,e⟩
 ·subst hq0
  replace e := za e
  let P2 : List (PG Try.prog M B0 S) := P1 ++ [.cg (zpu hU a0 p0 q0 n0 k0 A0 hR0 y1 true e_r0),.o,.o,.o]
  rcases e with ⟨hq1,e⟩ | ⟨hq1,e⟩
  ·replace e := za e
   let P3 : List (PG Try.prog M B0 S) := P2 ++ [.q (zA (kd := .i64) (T := 22) (x := y1) (sz := 5) rfl (fun w => by kernel_rfl) hR0 hq1),.l (zcm hR0 zj (ze hq1) 0 [.int .u8 (nn ((A0 (y1).toNat)).fOp),.int .u8 (nn ((A0 (y1).toNat)).fDst),.int .u8 (nn ((A0 (y1).toNat)).fSrc),.int .i16 (ii ((A0 (y1).toNat)).fOff),.int .i32 (ii ((A0 (y1).toNat)).fImm)] rfl),.o,.a 0,.o,.o,.o,.a 0]
   rcases e with ⟨hq2,e⟩ | ⟨hq2,e⟩
   ·replace e := za e
    let P4 : List (PG Try.prog M B0 S) := P3 ++ [.cg (zI hU ((A0 (y1).toNat)) true hq2),.o,.o,.o,.a 0,.v .i64 (zdW (by decide) ((A0 (y1).toNat)).fImm),.o,.o,.o]
    rcases e with ⟨hq3,e⟩ | ⟨hq3,e⟩
    ·injection e with e; subst e; exact zc hU (P := Try.prog) Try.func71 (fun xs w => by kernel_rfl) _ _ (P4 ++ [.b (zcR hq3),.o,.o,.o,.o]) [] (fun b => by kernel_rfl)
    ·replace e := za e
     rcases e with ⟨hq4,e⟩ | ⟨hq4,e⟩
     ·injection e with e; subst e; exact zc hU (P := Try.prog) Try.func71 (fun xs w => by kernel_rfl) _ _ (P4 ++ [.b (zb7 hq3),.o,.o,.o,.o,.b (zsk hq4),.o,.o,.o]) [] (fun b => by kernel_rfl)
     ·injection e with e; subst e; exact zc hU (P := Try.prog) Try.func71 (fun xs w => by kernel_rfl) _ _ (P4 ++ [.b (zb7 hq3),.o,.o,.o,.o,.b (zpX hq4),.o,.o,.o,.o]) [] (fun b => by kernel_rfl)
   ·replace e := za e
    let P5 : List (PG Try.prog M B0 S) := P3 ++ [.cg (zI hU ((A0 (y1).toNat)) false hq2),.o,.a 0]
    rcases e with ⟨hq3,e⟩ | ⟨hq3,e⟩
    ·replace e := za e
     let P6 : List (PG Try.prog M B0 S) := P5 ++ [.cg (zhV hU ((A0 (y1).toNat)) true hq3),.o,.o,.o,.a 0,.v .i64 (zdW (by decide) ((A0 (y1).toNat)).fOff),.o,.o,.o]
     rcases e with ⟨hq4,e⟩ | ⟨hq4,e⟩
     ·injection e with e; subst e; exact zc hU (P := Try.prog) Try.func71 (fun xs w => by kernel_rfl) _ _ (P6 ++ [.b (zcR hq4),.o,.o,.o,.o]) [] (fun b => by kernel_rfl)
     ·replace e := za e
      rcases e with ⟨hq5,e⟩ | ⟨hq5,e⟩
      ·injection e with e; subst e; exact zc hU (P := Try.prog) Try.func71 (fun xs w => by kernel_rfl) _ _ (P6 ++ [.b (zb7 hq4),.o,.o,.o,.o,.b (zsk hq5),.o,.o,.o]) [] (fun b => by kernel_rfl)
      ·injection e with e; subst e; exact zc hU (P := Try.prog) Try.func71 (fun xs w => by kernel_rfl) _ _ (P6 ++ [.b (zb7 hq4),.o,.o,.o,.o,.b (zpX hq5),.o,.o,.o,.o]) [] (fun b => by kernel_rfl)
    ·injection e with e; subst e; exact zc hU (P := Try.prog) Try.func71 (fun xs w => by kernel_rfl) _ _ (P5 ++ [.cg (zhV hU ((A0 (y1).toNat)) false hq3),.o,.o,.o]) [] (fun b => by kernel_rfl)
  ·exact zd e
 ·subst hq0
  injection e with e; subst e; exact zc hU (P := Try.prog) Try.func71 (fun xs w => by kernel_rfl) _ _ (P1 ++ [.cg (zpu hU a0 p0 q0 n0 k0 A0 hR0 y1 false e_r0),.o,.o,.o]) [] (fun b => by kernel_rfl)
end

end Go.Proofs.Ytliijnpblddjfaa


