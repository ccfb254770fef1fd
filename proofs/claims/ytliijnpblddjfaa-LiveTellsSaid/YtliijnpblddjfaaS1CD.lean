/-
  Instructions: the reference.
-/
import Derived.Test.YtliijnpblddjfaaS1CC
namespace Go.Proofs.Ytliijnpblddjfaa
open Go.RowKit
set_option linter.unusedVariables false
set_option linter.unusedSimpArgs false
set_option linter.unusedSectionVars false
set_option maxRecDepth 100000
set_option maxHeartbeats 4000000
noncomputable def zr36 : Value := (Try.prog.info? 3).bind TypeInfo.zero |>.getD undef
theorem rt36 : RowT Try.prog 36 3 ((Try.prog.info? 3).getD default) zr36 1 8 := ⟨by kernel_rfl,by kernel_rfl,by kernel_rfl,by kernel_rfl,by kernel_rfl,by kernel_rfl,by decide⟩
inductive zb4 where
 | c0 (s0_0 : Nat → Bool) (s0_1 : Int)
inductive zbk where
 | e0 (c0_0 : Nat → Bool)
noncomputable def zE (n0 : Nat) (A0 : Nat → Insn) (g0_0 : Nat → Bool) : zb4 → Option (zb4 ⊕ zbk)
 | .c0 s0_0 s0_1 =>
 bif decide (s0_1 < (n0 : Int)) then
 (bif inR s0_1 ((n0 : Int)).toNat then
 (bif (g0_0 (s0_1).toNat) then
 (some (.inl (.c0 s0_0 (IntKind.i64.wrap (s0_1 + 1)))))
 else (bif inR s0_1 n0 then
 (bif zca ((A0 (s0_1).toNat)) then
 (zv (zbm n0 A0 s0_1 (ii ((A0 (s0_1).toNat)).fImm)) fun rb0 =>
 bif inR rb0 ((n0 : Int)).toNat then
 (some (.inl (.c0 (updF s0_0 (rb0).toNat true) (IntKind.i64.wrap (s0_1 + 1)))))
 else (none))
 else (some (.inl (.c0 s0_0 (IntKind.i64.wrap (s0_1 + 1))))))
 else (none)))
 else (none))
 else (some (.inr (.e0 s0_0)))
noncomputable def ziq : Code := zb6 Try.f63 [1,1,1,1,0,1,0,0]
def zoS (a0 : Option Addr) (p0 q0 n0 k0 : Nat) (A0 : Nat → Insn) (g0_0 : Nat → Bool) : zb4 → List L1 → List Value
 | .c0 s0_0 s0_1,ls => [.slice a0 n0 (n0 + k0),.slice none 0 0,(rowV (lget ls 0) ((n0 : Int)).toNat 1),(rowV (lget ls 1) ((n0 : Int)).toNat 1),.int .i64 (s0_1)]
def zo4 : zb4 → List (Nat × Nat)
 | .c0 _ _ => [(1,1),(4,53)]
noncomputable def zoT (a0 : Option Addr) (p0 q0 n0 k0 : Nat) (A0 : Nat → Insn) (g0_0 : Nat → Bool) (s : zb4) : List L1 → List Value := mrgF (zo4 s) (zoS a0 p0 q0 n0 k0 A0 g0_0 s) 2
def zoO (a0 : Option Addr) (p0 q0 n0 k0 : Nat) (A0 : Nat → Insn) (g0_0 : Nat → Bool) : zb4 → List L1 → List Obj
 | .c0 s0_0 s0_1,ls => [rowO (lget ls 0) (esG cB ((n0 : Int)).toNat s0_0) 4 ((n0 : Int)).toNat 1,rowO (lget ls 1) (esG cB ((n0 : Int)).toNat g0_0) 4 ((n0 : Int)).toNat 1,unb]
def zoM (a0 : Option Addr) (p0 q0 n0 k0 : Nat) (A0 : Nat → Insn) (g0_0 : Nat → Bool) : zbk → List L1 → List Value
 | .e0 c0_0,ls => [.slice a0 n0 (n0 + k0),.slice none 0 0,(rowV (lget ls 0) ((n0 : Int)).toNat 1),(rowV (lget ls 1) ((n0 : Int)).toNat 1)]
def zoV : zbk → List (Nat × Nat)
 | .e0 _ => [(1,1),(3,54)]
noncomputable def zit (a0 : Option Addr) (p0 q0 n0 k0 : Nat) (A0 : Nat → Insn) (g0_0 : Nat → Bool) (r : zbk) : List L1 → List Value := mrgF (zoV r) (zoM a0 p0 q0 n0 k0 A0 g0_0 r) 2
def zfD (a0 : Option Addr) (p0 q0 n0 k0 : Nat) (A0 : Nat → Insn) (g0_0 : Nat → Bool) : zbk → List L1 → List Obj
 | .e0 c0_0,ls => [rowO (lget ls 0) (esG cB ((n0 : Int)).toNat c0_0) 4 ((n0 : Int)).toNat 1,rowO (lget ls 1) (esG cB ((n0 : Int)).toNat g0_0) 4 ((n0 : Int)).toNat 1,unb]
def zoU : zbk → Ex
 | .e0 _ => (.exit 0)
section
variable {M : Nat → Prop} {B0 : Nat} {S : World → Prop} (hU : Up M B0 S) (a0 : Option Addr) (p0 q0 n0 k0 : Nat) (A0 : Nat → Insn) (hR0 : Ro S zd9 5 a0 p0 q0 n0 A0) (g0_0 : Nat → Bool)
include hU a0 p0 q0 n0 k0 A0 hR0 g0_0
theorem zoR (s : zb4) (r : zbk) (h : lpO (zE n0 A0 g0_0) s = some r) : zdm Try.prog M B0 S (.loop ziq) 3 (zoT a0 p0 q0 n0 k0 A0 g0_0 s) (zoO a0 p0 q0 n0 k0 A0 g0_0 s) (zoU r) 2 (zit a0 p0 q0 n0 k0 A0 g0_0 r) (zfD a0 p0 q0 n0 k0 A0 g0_0 r) 3 :=
 zb5 (fun s q e => by
  cases s with
  | c0 s0_0 s0_1 =>
   unfold zE at e
   dsimp only at e
   replace e := za e
   rcases e with ⟨hq0,e⟩ | ⟨hq0,e⟩
   ·replace e := za e
    rcases e with ⟨hq1,e⟩ | ⟨hq1,e⟩
    ·replace e := za e
     let P1 : List (PG Try.prog M B0 S) := [.o,.o,.o,.b (zcR hq0),.o,.o,.q (zH (kd := .i64) (T := 64) (x := s0_1) (N := ((n0 : Int)).toNat) (sz := 1) rfl (fun w => by kernel_rfl) hq1)]
     rcases e with ⟨hq2,e⟩ | ⟨hq2,e⟩
     ·cases e; exact zb hU (P1 ++ [.l (accG (i := 1) (f := cB) (A := g0_0) (k := (s0_1).toNat) 0 [.bool true] zbc (ze hq1) (congrArg (fun b => [Value.bool b]) hq2)),.o,.o,.o,.o,.o,.o]) [0,1] (fun b => rfl) (by decide) rfl rfl (fun b => by kernel_rfl)
     ·replace e := za e
      let P2 : List (PG Try.prog M B0 S) := P1 ++ [.l (accG (i := 1) (f := cB) (A := g0_0) (k := (s0_1).toNat) 0 [.bool false] zbc (ze hq1) (congrArg (fun b => [Value.bool b]) hq2)),.o,.o,.o,.o]
      rcases e with ⟨hq3,e⟩ | ⟨hq3,e⟩
      ·replace e := za e
       let P3 : List (PG Try.prog M B0 S) := P2 ++ [.q (zA (kd := .i64) (T := 22) (x := s0_1) (sz := 5) rfl (fun w => by kernel_rfl) hR0 hq3),.l (zcm hR0 zj (ze hq3) 0 [.int .u8 (nn ((A0 (s0_1).toNat)).fOp),.int .u8 (nn ((A0 (s0_1).toNat)).fDst),.int .u8 (nn ((A0 (s0_1).toNat)).fSrc),.int .i16 (ii ((A0 (s0_1).toNat)).fOff),.int .i32 (ii ((A0 (s0_1).toNat)).fImm)] rfl)]
       rcases e with ⟨hq4,e⟩ | ⟨hq4,e⟩
       ·replace e := zg e
        obtain ⟨rb0,e_rb0,e⟩ := e
        try dsimp only at e
        replace e := za e
        rcases e with ⟨hq5,e⟩ | ⟨hq5,e⟩
        ·cases e; exact zb hU (P3 ++ [.cg (zbF hU ((A0 (s0_1).toNat)) true hq4),.o,.o,.o,.o,.o,.o,.q (zA (kd := .i64) (T := 22) (x := s0_1) (sz := 5) rfl (fun w => by kernel_rfl) hR0 hq3),.o,.l (zcm hR0 zj (ze hq3) 4 [.int .i32 (ii ((A0 (s0_1).toNat)).fImm)] rfl),.v .i64 (zdW (by decide) ((A0 (s0_1).toNat)).fImm),.cg (zdI hU a0 p0 q0 n0 k0 A0 hR0 s0_1 (ii ((A0 (s0_1).toNat)).fImm) rb0 e_rb0),.q (zH (kd := .i64) (T := 64) (x := rb0) (N := ((n0 : Int)).toNat) (sz := 1) rfl (fun w => by kernel_rfl) hq5),.x (zd0 (T := 4) (e := 4) (f := cB) (A := s0_0) (v := true) 0 (.bool true) zbc zla rfl rfl (fun w => by kernel_rfl) (ze hq5)) [0],.o,.o,.o]) [0,1] (fun b => rfl) (by decide) rfl rfl (fun b => by kernel_rfl)
        ·exact zd e
       ·cases e; exact zb hU (P3 ++ [.cg (zbF hU ((A0 (s0_1).toNat)) false hq4),.o,.o,.o,.o]) [0,1] (fun b => rfl) (by decide) rfl rfl (fun b => by kernel_rfl)
      ·exact zd e
    ·exact zd e
   ·cases e; exact ⟨zcn 0,zb hU [.o,.o,.o,.b (zb7 hq0)] [0,1] (fun b => rfl) (by decide) rfl rfl (fun b => by kernel_rfl)⟩) s r h
noncomputable def zhU (a0 : Option Addr) (p0 q0 n0 k0 : Nat) (A0 : Nat → Insn) (g0_0 : Nat → Bool) (s0_0 : Nat → Bool) (s0_1 : Int) (ls : List L1) : List Value := List.append [.slice a0 n0 (n0 + k0),undef,.slice none 0 0,(rowV (lget ls 0) ((n0 : Int)).toNat 1),(rowV (lget ls 1) ((n0 : Int)).toNat 1),.int .i64 (s0_1),undef,undef,.slice a0 n0 (n0 + k0),.int .i64 ((n0 : Int)),(rowV (lget ls 0) ((n0 : Int)).toNat 1),.slice a0 n0 (n0 + k0),(rowV (lget ls 1) ((n0 : Int)).toNat 1),(rowV (lget ls 0) ((n0 : Int)).toNat 1),.pointer (some ⟨(lget ls 0).n,0 + 0 * 1,none⟩)] (und 44)
def zhl (a0 : Option Addr) (p0 q0 n0 k0 : Nat) (A0 : Nat → Insn) (g0_0 : Nat → Bool) (s0_0 : Nat → Bool) (s0_1 : Int) (ls : List L1) : List Obj := [rowO (lget ls 0) (esG cB ((n0 : Int)).toNat s0_0) 4 ((n0 : Int)).toNat 1,rowO (lget ls 1) (esG cB ((n0 : Int)).toNat g0_0) 4 ((n0 : Int)).toNat 1]
theorem zfT (s0_0 : Nat → Bool) (s0_1 : Int) (c0_0 : Nat → Bool) (h : lpO (zE n0 A0 g0_0) (.c0 s0_0 s0_1) = some (.e0 c0_0)) : SpcG Try.prog M B0 S ⟨fun ls => .code (.loop ziq) (zhU a0 p0 q0 n0 k0 A0 g0_0 s0_0 s0_1 ls),zhl a0 p0 q0 n0 k0 A0 g0_0 s0_0 s0_1,1,(.exit 0),fun ls => zit a0 p0 q0 n0 k0 A0 g0_0 (.e0 c0_0) (ls.take 2 ++ ls.drop 2),fun ls => (zfD a0 p0 q0 n0 k0 A0 g0_0 (.e0 c0_0) (ls.take 2 ++ ls.drop 2)).take 2 ++ List.replicate 0 unb,fun ls => (zfD a0 p0 q0 n0 k0 A0 g0_0 (.e0 c0_0) (ls.take 2 ++ ls.drop 2)).drop 2⟩ :=
 zr hU 0 (k0 := 2) (zoR hU a0 p0 q0 n0 k0 A0 hR0 g0_0 _ _ h) (zhU a0 p0 q0 n0 k0 A0 g0_0 s0_0 s0_1) (zhl a0 p0 q0 n0 k0 A0 g0_0 s0_0 s0_1) (fun _ => rfl) (fun ls h => by match ls,h with | [l0,l1],_ => exact ⟨by kernel_rfl,by kernel_rfl⟩) (fun ls h => by match ls,h with | [l0,l1],_ => rfl) (by decide) (by decide) (fun ls => rfl)
inductive zb3 where
 | c0 (s0_0 : Int)
 | c1 (s0_0 : Nat) (s0_1 : Nat → Int) (s0_2 : Int)
inductive zb2 where
 | e0 
 | e1 (c1_0 : Nat) (c1_1 : Nat → Int)
noncomputable def zD (n0 : Nat) (g1_0 : Nat → Bool) : zb3 → Option (zb3 ⊕ zb2)
 | .c0 s0_0 =>
 bif decide (s0_0 < (n0 : Int)) then
 (bif inR s0_0 ((n0 : Int)).toNat then
 (bif (g1_0 (s0_0).toNat) then
 (some (.inl (.c1 1 (fun _ => s0_0) (IntKind.i64.wrap (s0_0 + 1)))))
 else (some (.inl (.c0 (IntKind.i64.wrap (s0_0 + 1))))))
 else (none))
 else (some (.inr (.e0 )))
 | .c1 s0_0 s0_1 s0_2 =>
 bif decide (s0_2 < (n0 : Int)) then
 (bif inR s0_2 ((n0 : Int)).toNat then
 (bif (g1_0 (s0_2).toNat) then
 (bif decide (s0_0 ≤ 1000000) then
 (some (.inl (.c1 (s0_0 + 1) (updF s0_1 s0_0 s0_2) (IntKind.i64.wrap (s0_2 + 1)))))
 else (none))
 else (some (.inl (.c1 s0_0 s0_1 (IntKind.i64.wrap (s0_2 + 1))))))
 else (none))
 else (some (.inr (.e1 s0_0 s0_1)))
noncomputable def zfC : Code := zb6 Try.f63 [1,1,1,1,1,1,0,1,0,0]
def zoK (a0 : Option Addr) (p0 q0 n0 k0 : Nat) (A0 : Nat → Insn) (g0_0 : Nat → Bool) (g1_0 : Nat → Bool) : zb3 → List L1 → List Value
 | .c0 s0_0,ls => [.slice a0 n0 (n0 + k0),.slice none 0 0,(rowV (lget ls 0) ((n0 : Int)).toNat 1),.slice none 0 0,.int .i64 (s0_0),((lget ls 2).u 58)]
 | .c1 s0_0 s0_1 s0_2,ls => [.slice a0 n0 (n0 + k0),.slice none 0 0,(rowV (lget ls 0) ((n0 : Int)).toNat 1),(rowV (lget ls 3) s0_0 1),.int .i64 (s0_2),((lget ls 2).u 58)]
def zoL : zb3 → List (Nat × Nat)
 | .c0 _ => [(1,1),(2,2),(2,50),(1,0)]
 | .c1 _ _ _ => [(1,1),(2,2),(2,50),(1,0)]
noncomputable def zoN (a0 : Option Addr) (p0 q0 n0 k0 : Nat) (A0 : Nat → Insn) (g0_0 : Nat → Bool) (g1_0 : Nat → Bool) (s : zb3) : List L1 → List Value := mrgF (zoL s) (zoK a0 p0 q0 n0 k0 A0 g0_0 g1_0 s) 4
def zo3 (a0 : Option Addr) (p0 q0 n0 k0 : Nat) (A0 : Nat → Insn) (g0_0 : Nat → Bool) (g1_0 : Nat → Bool) : zb3 → List L1 → List Obj
 | .c0 s0_0,ls => [rowO (lget ls 0) (esG cB ((n0 : Int)).toNat g1_0) 4 ((n0 : Int)).toNat 1,rowO (lget ls 1) (esG cB ((n0 : Int)).toNat g0_0) 4 ((n0 : Int)).toNat 1,unb,unb,unb]
 | .c1 s0_0 s0_1 s0_2,ls => [rowO (lget ls 0) (esG cB ((n0 : Int)).toNat g1_0) 4 ((n0 : Int)).toNat 1,rowO (lget ls 1) (esG cB ((n0 : Int)).toNat g0_0) 4 ((n0 : Int)).toNat 1,unb,rowO (lget ls 3) (esG cZ s0_0 s0_1) 3 s0_0 1,unb]
def zoQ (a0 : Option Addr) (p0 q0 n0 k0 : Nat) (A0 : Nat → Insn) (g0_0 : Nat → Bool) (g1_0 : Nat → Bool) : zb2 → List L1 → List Value
 | .e0 ,ls => [.slice a0 n0 (n0 + k0),.slice none 0 0,(rowV (lget ls 0) ((n0 : Int)).toNat 1),.slice none 0 0,((lget ls 2).u 58)]
 | .e1 c1_0 c1_1,ls => [.slice a0 n0 (n0 + k0),.slice none 0 0,(rowV (lget ls 0) ((n0 : Int)).toNat 1),(rowV (lget ls 3) c1_0 1),((lget ls 2).u 58)]
def zoZ : zb2 → List (Nat × Nat)
 | .e0  => [(1,1),(2,2),(1,51),(1,0)]
 | .e1 _ _ => [(1,1),(2,2),(1,51),(1,0)]
noncomputable def zfB (a0 : Option Addr) (p0 q0 n0 k0 : Nat) (A0 : Nat → Insn) (g0_0 : Nat → Bool) (g1_0 : Nat → Bool) (r : zb2) : List L1 → List Value := mrgF (zoZ r) (zoQ a0 p0 q0 n0 k0 A0 g0_0 g1_0 r) 4
def zdo (a0 : Option Addr) (p0 q0 n0 k0 : Nat) (A0 : Nat → Insn) (g0_0 : Nat → Bool) (g1_0 : Nat → Bool) : zb2 → List L1 → List Obj
 | .e0 ,ls => [rowO (lget ls 0) (esG cB ((n0 : Int)).toNat g1_0) 4 ((n0 : Int)).toNat 1,rowO (lget ls 1) (esG cB ((n0 : Int)).toNat g0_0) 4 ((n0 : Int)).toNat 1,unb,unb,unb]
 | .e1 c1_0 c1_1,ls => [rowO (lget ls 0) (esG cB ((n0 : Int)).toNat g1_0) 4 ((n0 : Int)).toNat 1,rowO (lget ls 1) (esG cB ((n0 : Int)).toNat g0_0) 4 ((n0 : Int)).toNat 1,unb,rowO (lget ls 3) (esG cZ c1_0 c1_1) 3 c1_0 1,unb]
def zoP : zb2 → Ex
 | .e0  => (.exit 2)
 | .e1 _ _ => (.exit 2)
theorem zis (g1_0 : Nat → Bool) (s : zb3) (r : zb2) (h : lpO (zD n0 g1_0) s = some r) : zdm Try.prog M B0 S (.loop zfC) 5 (zoN a0 p0 q0 n0 k0 A0 g0_0 g1_0 s) (zo3 a0 p0 q0 n0 k0 A0 g0_0 g1_0 s) (zoP r) 3 (zfB a0 p0 q0 n0 k0 A0 g0_0 g1_0 r) (zdo a0 p0 q0 n0 k0 A0 g0_0 g1_0 r) 5 :=
 zb5 (fun s q e => by
  cases s with
  | c0 s0_0 =>
   unfold zD at e
   dsimp only at e
   replace e := za e
   rcases e with ⟨hq0,e⟩ | ⟨hq0,e⟩
   ·replace e := za e
    rcases e with ⟨hq1,e⟩ | ⟨hq1,e⟩
    ·replace e := za e
     let P1 : List (PG Try.prog M B0 S) := [.o,.o,.o,.b (zcR hq0),.o,.o,.q (zH (kd := .i64) (T := 64) (x := s0_0) (N := ((n0 : Int)).toNat) (sz := 1) rfl (fun w => by kernel_rfl) hq1)]
     rcases e with ⟨hq2,e⟩ | ⟨hq2,e⟩
     ·cases e; exact zb hU (P1 ++ [.l (accG (i := 0) (f := cB) (A := g1_0) (k := (s0_0).toNat) 0 [.bool true] zbc (ze hq1) (congrArg (fun b => [Value.bool b]) hq2)),.o,.o,.o,.x (zet (ty := 36) rt36 #[false,false] (f := cZ) (c := 1) s0_0 (T' := 3) zb1 zme (by decide)) [5],.o,.o,.o,.o]) [0,1,2,6] (fun b => rfl) (by decide) rfl rfl (fun b => by kernel_rfl)
     ·cases e; exact zb hU (P1 ++ [.l (accG (i := 0) (f := cB) (A := g1_0) (k := (s0_0).toNat) 0 [.bool false] zbc (ze hq1) (congrArg (fun b => [Value.bool b]) hq2)),.o,.o,.o]) [0,1,2,3] (fun b => rfl) (by decide) rfl rfl (fun b => by kernel_rfl)
    ·exact zd e
   ·cases e; exact ⟨zcn 2,zb hU [.o,.o,.o,.b (zb7 hq0)] [0,1,2,3] (fun b => rfl) (by decide) rfl rfl (fun b => by kernel_rfl)⟩
  | c1 s0_0 s0_1 s0_2 =>
   unfold zD at e
   dsimp only at e
   replace e := za e
   rcases e with ⟨hq0,e⟩ | ⟨hq0,e⟩
   ·replace e := za e
    rcases e with ⟨hq1,e⟩ | ⟨hq1,e⟩
    ·replace e := za e
     let P2 : List (PG Try.prog M B0 S) := [.o,.o,.o,.b (zcR hq0),.o,.o,.q (zH (kd := .i64) (T := 64) (x := s0_2) (N := ((n0 : Int)).toNat) (sz := 1) rfl (fun w => by kernel_rfl) hq1)]
     rcases e with ⟨hq2,e⟩ | ⟨hq2,e⟩
     ·replace e := za e
      rcases e with ⟨hq3,e⟩ | ⟨hq3,e⟩
      ·cases e; exact zb hU (P2 ++ [.l (accG (i := 0) (f := cB) (A := g1_0) (k := (s0_2).toNat) 0 [.bool true] zbc (ze hq1) (congrArg (fun b => [Value.bool b]) hq2)),.o,.o,.o,.x (zer (ty := 36) rt36 #[false,false] (f := cZ) (N := s0_0) (A := s0_1) (c := 1) [s0_2] (T' := 3) .row zb1 zme hq3 rfl (by decide)) [3,5],.o,.o,.o,.o]) [0,1,2,6] (fun b => rfl) (by decide) rfl rfl (fun b => by kernel_rfl)
      ·exact zd e
     ·cases e; exact zb hU (P2 ++ [.l (accG (i := 0) (f := cB) (A := g1_0) (k := (s0_2).toNat) 0 [.bool false] zbc (ze hq1) (congrArg (fun b => [Value.bool b]) hq2)),.o,.o,.o]) [0,1,2,3] (fun b => rfl) (by decide) rfl rfl (fun b => by kernel_rfl)
    ·exact zd e
   ·cases e; exact ⟨zcn 2,zb hU [.o,.o,.o,.b (zb7 hq0)] [0,1,2,3] (fun b => rfl) (by decide) rfl rfl (fun b => by kernel_rfl)⟩) s r h
noncomputable def zdF (a0 : Option Addr) (p0 q0 n0 k0 : Nat) (A0 : Nat → Insn) (g0_0 : Nat → Bool) (g1_0 : Nat → Bool) (s0_0 : Int) (ls : List L1) : List Value := List.append [.slice a0 n0 (n0 + k0),((lget ls 2).u 1),.slice none 0 0,(rowV (lget ls 0) ((n0 : Int)).toNat 1),(rowV (lget ls 1) ((n0 : Int)).toNat 1),((lget ls 2).u 5),.slice none 0 0,.int .i64 (s0_0)] (jks (lget ls 2).u 8 51)
def zdD (a0 : Option Addr) (p0 q0 n0 k0 : Nat) (A0 : Nat → Insn) (g0_0 : Nat → Bool) (g1_0 : Nat → Bool) (s0_0 : Int) (ls : List L1) : List Obj := [rowO (lget ls 0) (esG cB ((n0 : Int)).toNat g1_0) 4 ((n0 : Int)).toNat 1,rowO (lget ls 1) (esG cB ((n0 : Int)).toNat g0_0) 4 ((n0 : Int)).toNat 1,unb]
theorem zkh (g1_0 : Nat → Bool) (s0_0 : Int) (h : lpO (zD n0 g1_0) (.c0 s0_0) = some (.e0 )) : SpcG Try.prog M B0 S ⟨fun ls => .code (.loop zfC) (zdF a0 p0 q0 n0 k0 A0 g0_0 g1_0 s0_0 ls),zdD a0 p0 q0 n0 k0 A0 g0_0 g1_0 s0_0,2,(.exit 2),fun ls => zfB a0 p0 q0 n0 k0 A0 g0_0 g1_0 (.e0 ) (ls.take 3 ++ ls.drop 3),fun ls => (zdo a0 p0 q0 n0 k0 A0 g0_0 g1_0 (.e0 ) (ls.take 3 ++ ls.drop 3)).take 3 ++ List.replicate 0 unb,fun ls => (zdo a0 p0 q0 n0 k0 A0 g0_0 g1_0 (.e0 ) (ls.take 3 ++ ls.drop 3)).drop 3⟩ :=
 zr hU 1 (k0 := 3) (zis hU a0 p0 q0 n0 k0 A0 hR0 g0_0 g1_0 _ _ h) (zdF a0 p0 q0 n0 k0 A0 g0_0 g1_0 s0_0) (zdD a0 p0 q0 n0 k0 A0 g0_0 g1_0 s0_0) (fun _ => rfl) (fun ls h => by match ls,h with | [l0,l1,l2],_ => exact ⟨by kernel_rfl,by kernel_rfl⟩) (fun ls h => by match ls,h with | [l0,l1,l2],_ => rfl) (by decide) (by decide) (fun ls => rfl)
theorem zkg (g1_0 : Nat → Bool) (s0_0 : Int) (c1_0 : Nat) (c1_1 : Nat → Int) (h : lpO (zD n0 g1_0) (.c0 s0_0) = some (.e1 c1_0 c1_1)) : SpcG Try.prog M B0 S ⟨fun ls => .code (.loop zfC) (zdF a0 p0 q0 n0 k0 A0 g0_0 g1_0 s0_0 ls),zdD a0 p0 q0 n0 k0 A0 g0_0 g1_0 s0_0,2,(.exit 2),fun ls => zfB a0 p0 q0 n0 k0 A0 g0_0 g1_0 (.e1 c1_0 c1_1) (ls.take 3 ++ ls.drop 3),fun ls => (zdo a0 p0 q0 n0 k0 A0 g0_0 g1_0 (.e1 c1_0 c1_1) (ls.take 3 ++ ls.drop 3)).take 3 ++ List.replicate 0 unb,fun ls => (zdo a0 p0 q0 n0 k0 A0 g0_0 g1_0 (.e1 c1_0 c1_1) (ls.take 3 ++ ls.drop 3)).drop 3⟩ :=
 zr hU 1 (k0 := 3) (zis hU a0 p0 q0 n0 k0 A0 hR0 g0_0 g1_0 _ _ h) (zdF a0 p0 q0 n0 k0 A0 g0_0 g1_0 s0_0) (zdD a0 p0 q0 n0 k0 A0 g0_0 g1_0 s0_0) (fun _ => rfl) (fun ls h => by match ls,h with | [l0,l1,l2],_ => exact ⟨by kernel_rfl,by kernel_rfl⟩) (fun ls h => by match ls,h with | [l0,l1,l2],_ => rfl) (by decide) (by decide) (fun ls => rfl)
inductive zss where
 | e0 
 | e1 (c1_0 : Nat) (c1_1 : Nat → Int)
noncomputable def zc7 (n0 : Nat) (A0 : Nat → Insn) : Option zss :=
 bif inR (n0 : Int) 1000001 then
 ((zb9 n0 A0).bind fun g0 => match g0 with
 | .e0 g0_0 =>
 bif inR 0 ((n0 : Int)).toNat then
 ((lpO (zE n0 A0 g0_0) (.c0 (updF (fun _ => false) 0 true) 0)).bind fun g1 => match g1 with
 | .e0 g1_0 =>
 (lpO (zD n0 g1_0) (.c0 0)).bind fun g2 => match g2 with
 | .e0  => (some (.e0))
 | .e1 g2_0 g2_1 => (some (.e1 g2_0 g2_1)))
 else (none))
 else (none)
def zp7 (a0 : Option Addr) (p0 q0 n0 k0 : Nat) (A0 : Nat → Insn)  : Spc := ⟨fun ls => .call 63 #[.slice a0 n0 (n0 + k0)],fun ls => [],0,.normal,fun ls => [.slice none 0 0],fun ls => [],fun ls => []⟩
def zp8 (a0 : Option Addr) (p0 q0 n0 k0 : Nat) (A0 : Nat → Insn) (c1_0 : Nat) (c1_1 : Nat → Int) : Spc := ⟨fun ls => .call 63 #[.slice a0 n0 (n0 + k0)],fun ls => [],1,.normal,fun ls => [(rowV (lget ls 0) c1_0 1)],fun ls => [],fun ls => [rowO (lget ls 0) (esG cZ c1_0 c1_1) 3 c1_0 1]⟩
end
section
variable {M : Nat → Prop} {B0 : Nat} {S : World → Prop} (hU : Up M B0 S) (a0 : Option Addr) (p0 q0 n0 k0 : Nat) (A0 : Nat → Insn) (hR0 : Ro S zd9 5 a0 p0 q0 n0 A0)
include hU a0 p0 q0 n0 k0 A0 hR0
theorem zqm (e : zc7 n0 A0 = some (.e0 )) : SpcG Try.prog M B0 S (zp7 a0 p0 q0 n0 k0 A0 ) := by
 unfold zc7 at e
 replace e := za e
 rcases e with ⟨hq0,e⟩ | ⟨hq0,e⟩
 ·replace e := zf e
  obtain ⟨g0,e_g0,e⟩ := e
  obtain ⟨g0_0⟩ := g0
  try dsimp only at e
  replace e := za e
  rcases e with ⟨hq1,e⟩ | ⟨hq1,e⟩
  ·replace e := zf e
   obtain ⟨g1,e_g1,e⟩ := e
   obtain ⟨g1_0⟩ := g1
   try dsimp only at e
   replace e := zf e
   obtain ⟨g2,e_g2,e⟩ := e
   rcases g2 with _ | ⟨g2_0,g2_1⟩
   ·try dsimp only at e
    exact zo hU (P := Try.prog) Try.func63 (fun xs w => by kernel_rfl) 0 _ _ (fun _ => rfl) _ _ _ [] [.o,.o,.o,.x (zs4 rt64 (f := cB) (x := (n0 : Int)) (a0 := false) zbc (by kernel_rfl) hq0 (by decide)) [],.o,.o,.xg (zc1 hU a0 p0 q0 n0 k0 A0 hR0 g0_0 e_g0) [],.o,.o,.q (zH (kd := .i64) (T := 64) (x := 0) (N := ((n0 : Int)).toNat) (sz := 1) rfl (fun w => by kernel_rfl) hq1),.x (zd0 (T := 4) (e := 4) (f := cB) (A := (fun _ => false)) (v := true) 0 (.bool true) zbc zla rfl rfl (fun w => by kernel_rfl) (ze hq1)) [0],.o,.cp,.cx (zfT hU a0 p0 q0 n0 k0 A0 hR0 g0_0 (updF (fun _ => false) 0 true) 0 g1_0 e_g1) [0,1],.o,.o,.cp,.cx (zkh hU a0 p0 q0 n0 k0 A0 hR0 g0_0 g1_0 0  e_g2) [0,1,2],.o,.o] [] (fun b => by kernel_rfl)
   ·try dsimp only at e
    cases e
  ·exact zd e
 ·exact zd e
theorem zjb (c1_0 : Nat) (c1_1 : Nat → Int) (e : zc7 n0 A0 = some (.e1 c1_0 c1_1)) : SpcG Try.prog M B0 S (zp8 a0 p0 q0 n0 k0 A0 c1_0 c1_1) := by
 unfold zc7 at e
 replace e := za e
 rcases e with ⟨hq0,e⟩ | ⟨hq0,e⟩
 ·replace e := zf e
  obtain ⟨g0,e_g0,e⟩ := e
  obtain ⟨g0_0⟩ := g0
  try dsimp only at e
  replace e := za e
  rcases e with ⟨hq1,e⟩ | ⟨hq1,e⟩
  ·replace e := zf e
   obtain ⟨g1,e_g1,e⟩ := e
   obtain ⟨g1_0⟩ := g1
   try dsimp only at e
   replace e := zf e
   obtain ⟨g2,e_g2,e⟩ := e
   rcases g2 with _ | ⟨g2_0,g2_1⟩
   ·try dsimp only at e
    cases e
   ·try dsimp only at e
    injection e with e; injection e with i0 i1; subst i0 i1; exact zo hU (P := Try.prog) Try.func63 (fun xs w => by kernel_rfl) 0 _ _ (fun _ => rfl) _ _ _ [3] [.o,.o,.o,.x (zs4 rt64 (f := cB) (x := (n0 : Int)) (a0 := false) zbc (by kernel_rfl) hq0 (by decide)) [],.o,.o,.xg (zc1 hU a0 p0 q0 n0 k0 A0 hR0 g0_0 e_g0) [],.o,.o,.q (zH (kd := .i64) (T := 64) (x := 0) (N := ((n0 : Int)).toNat) (sz := 1) rfl (fun w => by kernel_rfl) hq1),.x (zd0 (T := 4) (e := 4) (f := cB) (A := (fun _ => false)) (v := true) 0 (.bool true) zbc zla rfl rfl (fun w => by kernel_rfl) (ze hq1)) [0],.o,.cp,.cx (zfT hU a0 p0 q0 n0 k0 A0 hR0 g0_0 (updF (fun _ => false) 0 true) 0 g1_0 e_g1) [0,1],.o,.o,.cp,.cx (zkg hU a0 p0 q0 n0 k0 A0 hR0 g0_0 g1_0 0 g2_0 g2_1 e_g2) [0,1,2],.o,.o] [] (fun b => by kernel_rfl)
  ·exact zd e
 ·exact zd e
end

end Go.Proofs.Ytliijnpblddjfaa


