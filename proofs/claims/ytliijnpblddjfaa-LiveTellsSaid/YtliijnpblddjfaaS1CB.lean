/-
  Instructions: the reference.
-/
import Derived.Test.YtliijnpblddjfaaS1CA
namespace Go.Proofs.Ytliijnpblddjfaa
open Go.RowKit
set_option linter.unusedVariables false
set_option linter.unusedSimpArgs false
set_option linter.unusedSectionVars false
set_option maxRecDepth 100000
set_option maxHeartbeats 4000000
noncomputable def zr64 : Value := (Try.prog.info? 4).bind TypeInfo.zero |>.getD undef
theorem rt64 : RowT Try.prog 64 4 ((Try.prog.info? 4).getD default) zr64 1 1 := ⟨by kernel_rfl,by kernel_rfl,by kernel_rfl,by kernel_rfl,by kernel_rfl,by kernel_rfl,by decide⟩
noncomputable def zi (y0 : Insn) (y1 : Int) : Bool :=
 zv (zk y0) fun r0 =>
 bif r0 == 5 then
 (zv (zY y0) fun r1 =>
 (r1 == y1))
 else (false)
section
variable {M : Nat → Prop} {B0 : Nat} {S : World → Prop} (hU : Up M B0 S) (y0 : Insn)
include hU y0
theorem zh (y1 : Int) (r : Bool) (e : zi y0 y1 = r) : ConG Try.prog S 27 #[(zeP y0),.int .i64 (y1)] (.bool (r)) := by
 unfold zi at e
 replace e := zg e
 obtain ⟨r0,e_r0,e⟩ := e
 try dsimp only at e
 replace e := za e
 rcases e with ⟨hq0,e⟩ | ⟨hq0,e⟩
 ·replace e := zg e
  obtain ⟨r1,e_r1,e⟩ := e
  try dsimp only at e
  subst e; exact zc hU (P := Try.prog) Try.func27 (fun xs w => by kernel_rfl) _ _ [.o,.o,.a 0,.cg (zB hU y0 r0 e_r0),.b (zO hq0),.o,.a 0,.cg (zfL hU y0 r1 e_r1),.o,.o,.o,.o] [] (fun b => by kernel_rfl)
 ·subst e; exact zc hU (P := Try.prog) Try.func27 (fun xs w => by kernel_rfl) _ _ [.o,.o,.a 0,.cg (zB hU y0 r0 e_r0),.b (zF hq0),.o,.o,.o] [] (fun b => by kernel_rfl)
noncomputable def zbj (y0 : Insn) : Bool :=
 zv (zk y0) fun r0 =>
 zv (zY y0) fun r1 =>
 bif r0 == 5 then
 (bif r1 == 0 then
 (false)
 else (bif r1 == 8 then
 (false)
 else ((r1 != 9))))
 else (bif r0 == 6 then
 (bif r1 == 0 then
 (false)
 else (bif r1 == 8 then
 (false)
 else ((r1 != 9))))
 else (false))
theorem zbb (r : Bool) (e : zbj y0 = r) : ConG Try.prog S 23 #[(zeP y0)] (.bool (r)) := by
 unfold zbj at e
 replace e := zg e
 obtain ⟨r0,e_r0,e⟩ := e
 try dsimp only at e
 replace e := zg e
 obtain ⟨r1,e_r1,e⟩ := e
 try dsimp only at e
 replace e := za e
 let P1 : List (PG Try.prog M B0 S) := [.o,.o,.a 0,.cg (zB hU y0 r0 e_r0),.o,.a 0,.cg (zfL hU y0 r1 e_r1),.o,.o]
 rcases e with ⟨hq0,e⟩ | ⟨hq0,e⟩
 ·replace e := za e
  rcases e with ⟨hq1,e⟩ | ⟨hq1,e⟩
  ·subst e; exact zc hU (P := Try.prog) Try.func23 (fun xs w => by kernel_rfl) _ _ (P1 ++ [.b (zO hq0),.o,.o,.o,.o,.b (zdq hq1),.o,.o,.o,.o,.o,.o]) [] (fun b => by kernel_rfl)
  ·replace e := za e
   rcases e with ⟨hq2,e⟩ | ⟨hq2,e⟩
   ·subst e; exact zc hU (P := Try.prog) Try.func23 (fun xs w => by kernel_rfl) _ _ (P1 ++ [.b (zO hq0),.o,.o,.o,.o,.b (zdU hq1),.o,.o,.o,.b (zdq hq2),.o,.o,.o,.o]) [] (fun b => by kernel_rfl)
   ·subst e; exact zc hU (P := Try.prog) Try.func23 (fun xs w => by kernel_rfl) _ _ (P1 ++ [.b (zO hq0),.o,.o,.o,.o,.b (zdU hq1),.o,.o,.o,.b (zdU hq2),.o,.o,.o,.o,.o,.o]) [] (fun b => by kernel_rfl)
 ·replace e := za e
  rcases e with ⟨hq1,e⟩ | ⟨hq1,e⟩
  ·replace e := za e
   let P2 : List (PG Try.prog M B0 S) := P1 ++ [.b (zF hq0),.o,.o,.b (zO hq1),.o,.o,.o]
   rcases e with ⟨hq2,e⟩ | ⟨hq2,e⟩
   ·subst e; exact zc hU (P := Try.prog) Try.func23 (fun xs w => by kernel_rfl) _ _ (P2 ++ [.b (zdq hq2),.o,.o,.o,.o,.o,.o]) [] (fun b => by kernel_rfl)
   ·replace e := za e
    rcases e with ⟨hq3,e⟩ | ⟨hq3,e⟩
    ·subst e; exact zc hU (P := Try.prog) Try.func23 (fun xs w => by kernel_rfl) _ _ (P2 ++ [.b (zdU hq2),.o,.o,.o,.b (zdq hq3),.o,.o,.o,.o]) [] (fun b => by kernel_rfl)
    ·subst e; exact zc hU (P := Try.prog) Try.func23 (fun xs w => by kernel_rfl) _ _ (P2 ++ [.b (zdU hq2),.o,.o,.o,.b (zdU hq3),.o,.o,.o,.o,.o,.o]) [] (fun b => by kernel_rfl)
  ·subst e; exact zc hU (P := Try.prog) Try.func23 (fun xs w => by kernel_rfl) _ _ (P1 ++ [.b (zF hq0),.o,.o,.b (zF hq1),.o,.o,.o,.o,.o,.o,.o,.o]) [] (fun b => by kernel_rfl)
noncomputable def zca (y0 : Insn) : Bool :=
 bif zi y0 8 then
 (bif y0.fSrc == 1#8 then
 (true)
 else (bif zK y0 then
 ((y0.fSrc == 4#8))
 else (false)))
 else (bif zK y0 then
 ((y0.fSrc == 4#8))
 else (false))
theorem zbF (r : Bool) (e : zca y0 = r) : ConG Try.prog S 52 #[(zeP y0)] (.bool (r)) := by
 unfold zca at e
 replace e := za e
 rcases e with ⟨hq0,e⟩ | ⟨hq0,e⟩
 ·replace e := za e
  let P1 : List (PG Try.prog M B0 S) := [.o,.o,.a 0,.cg (zh hU y0 8 true hq0),.o,.o,.a 0]
  rcases e with ⟨hq1,e⟩ | ⟨hq1,e⟩
  ·subst e; exact zc hU (P := Try.prog) Try.func52 (fun xs w => by kernel_rfl) _ _ (P1 ++ [.t (u_eq y0.fSrc (1#8)) hq1,.o,.o,.o,.o]) [] (fun b => by kernel_rfl)
  ·replace e := za e
   rcases e with ⟨hq2,e⟩ | ⟨hq2,e⟩
   ·subst e; exact zc hU (P := Try.prog) Try.func52 (fun xs w => by kernel_rfl) _ _ (P1 ++ [.t (u_eq y0.fSrc (1#8)) hq1,.o,.o,.a 0,.cg (zU hU y0 true hq2),.o,.o,.a 0,.t (u_eq y0.fSrc (4#8)) rfl,.o,.o,.o]) [] (fun b => by kernel_rfl)
   ·subst e; exact zc hU (P := Try.prog) Try.func52 (fun xs w => by kernel_rfl) _ _ (P1 ++ [.t (u_eq y0.fSrc (1#8)) hq1,.o,.o,.a 0,.cg (zU hU y0 false hq2),.o,.o,.o,.o]) [] (fun b => by kernel_rfl)
 ·replace e := za e
  rcases e with ⟨hq1,e⟩ | ⟨hq1,e⟩
  ·subst e; exact zc hU (P := Try.prog) Try.func52 (fun xs w => by kernel_rfl) _ _ [.o,.o,.a 0,.cg (zh hU y0 8 false hq0),.o,.o,.o,.a 0,.cg (zU hU y0 true hq1),.o,.o,.a 0,.t (u_eq y0.fSrc (4#8)) rfl,.o,.o,.o] [] (fun b => by kernel_rfl)
  ·subst e; exact zc hU (P := Try.prog) Try.func52 (fun xs w => by kernel_rfl) _ _ [.o,.o,.a 0,.cg (zh hU y0 8 false hq0),.o,.o,.o,.a 0,.cg (zU hU y0 false hq1),.o,.o,.o,.o] [] (fun b => by kernel_rfl)
noncomputable def zdC (y0 : Insn) : Bool :=
 bif zi y0 8 then
 ((y0.fSrc == 0#8))
 else (false)
theorem zfd (r : Bool) (e : zdC y0 = r) : ConG Try.prog S 72 #[(zeP y0)] (.bool (r)) := by
 unfold zdC at e
 replace e := za e
 rcases e with ⟨hq0,e⟩ | ⟨hq0,e⟩
 ·subst e; exact zc hU (P := Try.prog) Try.func72 (fun xs w => by kernel_rfl) _ _ [.o,.o,.a 0,.cg (zh hU y0 8 true hq0),.o,.o,.a 0,.t (u_eq y0.fSrc (0#8)) rfl,.o,.o] [] (fun b => by kernel_rfl)
 ·subst e; exact zc hU (P := Try.prog) Try.func72 (fun xs w => by kernel_rfl) _ _ [.o,.o,.a 0,.cg (zh hU y0 8 false hq0),.o,.o,.o] [] (fun b => by kernel_rfl)
noncomputable def zdy (y0 : Insn) : Bool :=
 zv (zk y0) fun r0 =>
 bif r0 == 0 then
 (true)
 else (bif r0 == 1 then
 (true)
 else (bif r0 == 4 then
 (true)
 else ((r0 == 7))))
theorem zff (r : Bool) (e : zdy y0 = r) : ConG Try.prog S 26 #[(zeP y0)] (.bool (r)) := by
 unfold zdy at e
 replace e := zg e
 obtain ⟨r0,e_r0,e⟩ := e
 try dsimp only at e
 replace e := za e
 let P1 : List (PG Try.prog M B0 S) := [.o,.o,.a 0,.cg (zB hU y0 r0 e_r0),.o,.o]
 rcases e with ⟨hq0,e⟩ | ⟨hq0,e⟩
 ·subst e; exact zc hU (P := Try.prog) Try.func26 (fun xs w => by kernel_rfl) _ _ (P1 ++ [.b (zO hq0),.o,.o,.o,.o,.o,.o,.o]) [] (fun b => by kernel_rfl)
 ·replace e := za e
  rcases e with ⟨hq1,e⟩ | ⟨hq1,e⟩
  ·subst e; exact zc hU (P := Try.prog) Try.func26 (fun xs w => by kernel_rfl) _ _ (P1 ++ [.b (zF hq0),.o,.o,.b (zO hq1),.o,.o,.o,.o,.o,.o]) [] (fun b => by kernel_rfl)
  ·replace e := za e
   rcases e with ⟨hq2,e⟩ | ⟨hq2,e⟩
   ·subst e; exact zc hU (P := Try.prog) Try.func26 (fun xs w => by kernel_rfl) _ _ (P1 ++ [.b (zF hq0),.o,.o,.b (zF hq1),.o,.o,.o,.b (zO hq2),.o,.o,.o,.o]) [] (fun b => by kernel_rfl)
   ·subst e; exact zc hU (P := Try.prog) Try.func26 (fun xs w => by kernel_rfl) _ _ (P1 ++ [.b (zF hq0),.o,.o,.b (zF hq1),.o,.o,.o,.b (zF hq2),.o,.o,.o,.o,.o,.o]) [] (fun b => by kernel_rfl)
inductive zbX where
 | c0 (s0_0 : Nat → Bool) (s0_1 : Int)
inductive zbS where
 | e0 (c0_0 : Nat → Bool)
noncomputable def zbu (n0 : Nat) (A0 : Nat → Insn) : zbX → Option (zbX ⊕ zbS)
 | .c0 s0_0 s0_1 =>
 bif decide (s0_1 < (n0 : Int)) then
 (bif inR (IntKind.i64.wrap (s0_1 - 1)) n0 then
 (bif zK ((A0 ((IntKind.i64.wrap (s0_1 - 1))).toNat)) then
 (bif inR (IntKind.i64.wrap (s0_1 - 1)) ((n0 : Int)).toNat then
 (bif (s0_0 ((IntKind.i64.wrap (s0_1 - 1))).toNat) then
 (bif inR s0_1 ((n0 : Int)).toNat then
 (some (.inl (.c0 (updF s0_0 (s0_1).toNat false) (IntKind.i64.wrap (s0_1 + 1)))))
 else (none))
 else (bif inR s0_1 ((n0 : Int)).toNat then
 (some (.inl (.c0 (updF s0_0 (s0_1).toNat true) (IntKind.i64.wrap (s0_1 + 1)))))
 else (none)))
 else (none))
 else (bif inR s0_1 ((n0 : Int)).toNat then
 (some (.inl (.c0 (updF s0_0 (s0_1).toNat false) (IntKind.i64.wrap (s0_1 + 1)))))
 else (none)))
 else (none))
 else (some (.inr (.e0 s0_0)))
noncomputable def zia : Code := zb6 Try.f31 [1,1,0,1,0,0]
def zov (a0 : Option Addr) (p0 q0 n0 k0 : Nat) (A0 : Nat → Insn) : zbX → List L1 → List Value
 | .c0 s0_0 s0_1,ls => [.slice a0 n0 (n0 + k0),.slice none 0 0,(rowV (lget ls 0) ((n0 : Int)).toNat 1),.int .i64 (s0_1)]
def zor : zbX → List (Nat × Nat)
 | .c0 _ _ => [(1,1),(3,27)]
noncomputable def zof (a0 : Option Addr) (p0 q0 n0 k0 : Nat) (A0 : Nat → Insn) (s : zbX) : List L1 → List Value := mrgF (zor s) (zov a0 p0 q0 n0 k0 A0 s) 1
def zog (a0 : Option Addr) (p0 q0 n0 k0 : Nat) (A0 : Nat → Insn) : zbX → List L1 → List Obj
 | .c0 s0_0 s0_1,ls => [rowO (lget ls 0) (esG cB ((n0 : Int)).toNat s0_0) 4 ((n0 : Int)).toNat 1,unb]
def zoi (a0 : Option Addr) (p0 q0 n0 k0 : Nat) (A0 : Nat → Insn) : zbS → List L1 → List Value
 | .e0 c0_0,ls => [.slice a0 n0 (n0 + k0),.slice none 0 0,(rowV (lget ls 0) ((n0 : Int)).toNat 1)]
def zn9 : zbS → List (Nat × Nat)
 | .e0 _ => [(1,1),(2,28)]
noncomputable def zif (a0 : Option Addr) (p0 q0 n0 k0 : Nat) (A0 : Nat → Insn) (r : zbS) : List L1 → List Value := mrgF (zn9 r) (zoi a0 p0 q0 n0 k0 A0 r) 1
def zfk (a0 : Option Addr) (p0 q0 n0 k0 : Nat) (A0 : Nat → Insn) : zbS → List L1 → List Obj
 | .e0 c0_0,ls => [rowO (lget ls 0) (esG cB ((n0 : Int)).toNat c0_0) 4 ((n0 : Int)).toNat 1,unb]
def zod : zbS → Ex
 | .e0 _ => (.exit 0)
end
section
variable {M : Nat → Prop} {B0 : Nat} {S : World → Prop} (hU : Up M B0 S) (a0 : Option Addr) (p0 q0 n0 k0 : Nat) (A0 : Nat → Insn) (hR0 : Ro S zd9 5 a0 p0 q0 n0 A0)
include hU a0 p0 q0 n0 k0 A0 hR0
theorem zop (s : zbX) (r : zbS) (h : lpO (zbu n0 A0) s = some r) : zdm Try.prog M B0 S (.loop zia) 2 (zof a0 p0 q0 n0 k0 A0 s) (zog a0 p0 q0 n0 k0 A0 s) (zod r) 1 (zif a0 p0 q0 n0 k0 A0 r) (zfk a0 p0 q0 n0 k0 A0 r) 2 :=
 zb5 (fun s q e => by
  cases s with
  | c0 s0_0 s0_1 =>
   unfold zbu at e
   dsimp only at e
   replace e := za e
   rcases e with ⟨hq0,e⟩ | ⟨hq0,e⟩
   ·replace e := za e
    let P1 : List (PG Try.prog M B0 S) := [.o,.o,.o,.b (zcR hq0),.o,.o,.o,.o,.o]
    rcases e with ⟨hq1,e⟩ | ⟨hq1,e⟩
    ·replace e := za e
     let P2 : List (PG Try.prog M B0 S) := P1 ++ [.q (zA (kd := .i64) (T := 22) (x := (IntKind.i64.wrap (s0_1 - 1))) (sz := 5) rfl (fun w => by kernel_rfl) hR0 hq1),.l (zcm hR0 zj (ze hq1) 0 [.int .u8 (nn ((A0 ((IntKind.i64.wrap (s0_1 - 1))).toNat)).fOp),.int .u8 (nn ((A0 ((IntKind.i64.wrap (s0_1 - 1))).toNat)).fDst),.int .u8 (nn ((A0 ((IntKind.i64.wrap (s0_1 - 1))).toNat)).fSrc),.int .i16 (ii ((A0 ((IntKind.i64.wrap (s0_1 - 1))).toNat)).fOff),.int .i32 (ii ((A0 ((IntKind.i64.wrap (s0_1 - 1))).toNat)).fImm)] rfl)]
     rcases e with ⟨hq2,e⟩ | ⟨hq2,e⟩
     ·replace e := za e
      let P3 : List (PG Try.prog M B0 S) := P2 ++ [.cg (zU hU ((A0 ((IntKind.i64.wrap (s0_1 - 1))).toNat)) true hq2),.o,.o,.o,.o]
      rcases e with ⟨hq3,e⟩ | ⟨hq3,e⟩
      ·replace e := za e
       let P4 : List (PG Try.prog M B0 S) := P3 ++ [.q (zH (kd := .i64) (T := 64) (x := (IntKind.i64.wrap (s0_1 - 1))) (N := ((n0 : Int)).toNat) (sz := 1) rfl (fun w => by kernel_rfl) hq3)]
       rcases e with ⟨hq4,e⟩ | ⟨hq4,e⟩
       ·replace e := za e
        rcases e with ⟨hq5,e⟩ | ⟨hq5,e⟩
        ·cases e; exact zb hU (P4 ++ [.l (accG (i := 0) (f := cB) (A := s0_0) (k := ((IntKind.i64.wrap (s0_1 - 1))).toNat) 0 [.bool true] zbc (ze hq3) (congrArg (fun b => [Value.bool b]) hq4)),.o,.o,.q (zH (kd := .i64) (T := 64) (x := s0_1) (N := ((n0 : Int)).toNat) (sz := 1) rfl (fun w => by kernel_rfl) hq5),.x (zd0 (T := 4) (e := 4) (f := cB) (A := s0_0) (v := false) 0 (.bool false) zbc zla rfl rfl (fun w => by kernel_rfl) (ze hq5)) [0],.o,.o,.o]) [0] (fun b => rfl) (by decide) rfl rfl (fun b => by kernel_rfl)
        ·exact zd e
       ·replace e := za e
        rcases e with ⟨hq5,e⟩ | ⟨hq5,e⟩
        ·cases e; exact zb hU (P4 ++ [.l (accG (i := 0) (f := cB) (A := s0_0) (k := ((IntKind.i64.wrap (s0_1 - 1))).toNat) 0 [.bool false] zbc (ze hq3) (congrArg (fun b => [Value.bool b]) hq4)),.o,.o,.q (zH (kd := .i64) (T := 64) (x := s0_1) (N := ((n0 : Int)).toNat) (sz := 1) rfl (fun w => by kernel_rfl) hq5),.x (zd0 (T := 4) (e := 4) (f := cB) (A := s0_0) (v := true) 0 (.bool true) zbc zla rfl rfl (fun w => by kernel_rfl) (ze hq5)) [0],.o,.o,.o]) [0] (fun b => rfl) (by decide) rfl rfl (fun b => by kernel_rfl)
        ·exact zd e
      ·exact zd e
     ·replace e := za e
      rcases e with ⟨hq3,e⟩ | ⟨hq3,e⟩
      ·cases e; exact zb hU (P2 ++ [.cg (zU hU ((A0 ((IntKind.i64.wrap (s0_1 - 1))).toNat)) false hq2),.o,.o,.q (zH (kd := .i64) (T := 64) (x := s0_1) (N := ((n0 : Int)).toNat) (sz := 1) rfl (fun w => by kernel_rfl) hq3),.x (zd0 (T := 4) (e := 4) (f := cB) (A := s0_0) (v := false) 0 (.bool false) zbc zla rfl rfl (fun w => by kernel_rfl) (ze hq3)) [0],.o,.o,.o]) [0] (fun b => rfl) (by decide) rfl rfl (fun b => by kernel_rfl)
      ·exact zd e
    ·exact zd e
   ·cases e; exact ⟨zcn 0,zb hU [.o,.o,.o,.b (zb7 hq0)] [0] (fun b => rfl) (by decide) rfl rfl (fun b => by kernel_rfl)⟩) s r h
noncomputable def zhj (a0 : Option Addr) (p0 q0 n0 k0 : Nat) (A0 : Nat → Insn) (s0_0 : Nat → Bool) (s0_1 : Int) (ls : List L1) : List Value := List.append [.slice a0 n0 (n0 + k0),undef,.slice none 0 0,(rowV (lget ls 0) ((n0 : Int)).toNat 1),.int .i64 (s0_1),.slice a0 n0 (n0 + k0),.int .i64 ((n0 : Int)),(rowV (lget ls 0) ((n0 : Int)).toNat 1)] (und 24)
def zgW (a0 : Option Addr) (p0 q0 n0 k0 : Nat) (A0 : Nat → Insn) (s0_0 : Nat → Bool) (s0_1 : Int) (ls : List L1) : List Obj := [rowO (lget ls 0) (esG cB ((n0 : Int)).toNat s0_0) 4 ((n0 : Int)).toNat 1]
theorem zjp (s0_0 : Nat → Bool) (s0_1 : Int) (c0_0 : Nat → Bool) (h : lpO (zbu n0 A0) (.c0 s0_0 s0_1) = some (.e0 c0_0)) : SpcG Try.prog M B0 S ⟨fun ls => .code (.loop zia) (zhj a0 p0 q0 n0 k0 A0 s0_0 s0_1 ls),zgW a0 p0 q0 n0 k0 A0 s0_0 s0_1,1,(.exit 0),fun ls => zif a0 p0 q0 n0 k0 A0 (.e0 c0_0) (ls.take 1 ++ ls.drop 1),fun ls => (zfk a0 p0 q0 n0 k0 A0 (.e0 c0_0) (ls.take 1 ++ ls.drop 1)).take 1 ++ List.replicate 0 unb,fun ls => (zfk a0 p0 q0 n0 k0 A0 (.e0 c0_0) (ls.take 1 ++ ls.drop 1)).drop 1⟩ :=
 zr hU 0 (k0 := 1) (zop hU a0 p0 q0 n0 k0 A0 hR0 _ _ h) (zhj a0 p0 q0 n0 k0 A0 s0_0 s0_1) (zgW a0 p0 q0 n0 k0 A0 s0_0 s0_1) (fun _ => rfl) (fun ls h => by match ls,h with | [l0],_ => exact ⟨by kernel_rfl,by kernel_rfl⟩) (fun ls h => by match ls,h with | [l0],_ => rfl) (by decide) (by decide) (fun ls => rfl)
inductive zrV where
 | e0 (c0_0 : Nat → Bool)
noncomputable def zb9 (n0 : Nat) (A0 : Nat → Insn) : Option zrV :=
 bif inR (n0 : Int) 1000001 then
 ((lpO (zbu n0 A0) (.c0 (fun _ => false) 1)).bind fun g0 => match g0 with
 | .e0 g0_0 =>
 some (.e0 g0_0))
 else (none)
def zpI (a0 : Option Addr) (p0 q0 n0 k0 : Nat) (A0 : Nat → Insn) (c0_0 : Nat → Bool) : Spc := ⟨fun ls => .call 31 #[.slice a0 n0 (n0 + k0)],fun ls => [],1,.normal,fun ls => [(rowV (lget ls 0) ((n0 : Int)).toNat 1)],fun ls => [],fun ls => [rowO (lget ls 0) (esG cB ((n0 : Int)).toNat c0_0) 4 ((n0 : Int)).toNat 1]⟩
theorem zc1 (c0_0 : Nat → Bool) (e : zb9 n0 A0 = some (.e0 c0_0)) : SpcG Try.prog M B0 S (zpI a0 p0 q0 n0 k0 A0 c0_0) := by
 unfold zb9 at e
 replace e := za e
 rcases e with ⟨hq0,e⟩ | ⟨hq0,e⟩
 ·replace e := zf e
  obtain ⟨g0,e_g0,e⟩ := e
  obtain ⟨g0_0⟩ := g0
  try dsimp only at e
  injection e with e; injection e with i0; subst i0; exact zo hU (P := Try.prog) Try.func31 (fun xs w => by kernel_rfl) 0 _ _ (fun _ => rfl) _ _ _ [0] [.o,.o,.o,.x (zs4 rt64 (f := cB) (x := (n0 : Int)) (a0 := false) zbc (by kernel_rfl) hq0 (by decide)) [],.o,.o,.cp,.cx (zjp hU a0 p0 q0 n0 k0 A0 hR0 (fun _ => false) 1 g0_0 e_g0) [0],.o,.o] [] (fun b => by kernel_rfl)
 ·exact zd e
noncomputable def zbm (n0 : Nat) (A0 : Nat → Insn) (y1 : Int) (y2 : Int) : Int :=
 bif decide ((IntKind.i64.wrap ((IntKind.i64.wrap (y1 + 1)) + y2)) < 0) then
 ((-1))
 else (bif decide ((n0 : Int) ≤ (IntKind.i64.wrap ((IntKind.i64.wrap (y1 + 1)) + y2))) then
 ((-1))
 else ((IntKind.i64.wrap ((IntKind.i64.wrap (y1 + 1)) + y2))))
theorem zdI (y1 : Int) (y2 : Int) (r : Int) (e : zbm n0 A0 y1 y2 = r) : ConG Try.prog S 47 #[.slice a0 n0 (n0 + k0),.int .i64 (y1),.int .i64 (y2)] (.int .i64 (r)) := by
 unfold zbm at e
 replace e := za e
 rcases e with ⟨hq0,e⟩ | ⟨hq0,e⟩
 ·subst e; exact zc hU (P := Try.prog) Try.func47 (fun xs w => by kernel_rfl) _ _ [.o,.o,.o,.o,.o,.o,.o,.b (zcR hq0),.o,.o,.o] [] (fun b => by kernel_rfl)
 ·replace e := za e
  rcases e with ⟨hq1,e⟩ | ⟨hq1,e⟩
  ·subst e; exact zc hU (P := Try.prog) Try.func47 (fun xs w => by kernel_rfl) _ _ [.o,.o,.o,.o,.o,.o,.o,.b (zb7 hq0),.o,.o,.o,.o,.b (zsk hq1),.o,.o] [] (fun b => by kernel_rfl)
  ·subst e; exact zc hU (P := Try.prog) Try.func47 (fun xs w => by kernel_rfl) _ _ [.o,.o,.o,.o,.o,.o,.o,.b (zb7 hq0),.o,.o,.o,.o,.b (zpX hq1),.o,.o,.o] [] (fun b => by kernel_rfl)
end

end Go.Proofs.Ytliijnpblddjfaa


