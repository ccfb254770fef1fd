/-
  Instructions: the reference.
-/
import Derived.Test.YtliijnpblddjfaaS1CE
namespace Go.Proofs.Ytliijnpblddjfaa
open Go.RowKit
set_option linter.unusedVariables false
set_option linter.unusedSimpArgs false
set_option linter.unusedSectionVars false
set_option maxRecDepth 100000
set_option maxHeartbeats 4000000
inductive zc8 where
 | c0 (s0_0 : Int)
inductive zc6 where
 | e0 
 | e1 (c1_0 : Int)
noncomputable def zbY (n0 : Nat) (A0 : Nat → Part) (y1 : Int) : zc8 → Option (zc8 ⊕ zc6)
 | .c0 s0_0 =>
 bif decide (s0_0 < (n0 : Int)) then
 (bif inR s0_0 n0 then
 (bif decide (((A0 (s0_0).toNat)).fFrom ≤ y1) then
 (bif decide (y1 < ((A0 (s0_0).toNat)).fTo) then
 (some (.inr (.e1 s0_0)))
 else (some (.inl (.c0 (IntKind.i64.wrap (s0_0 + 1))))))
 else (some (.inl (.c0 (IntKind.i64.wrap (s0_0 + 1))))))
 else (none))
 else (some (.inr (.e0 )))
noncomputable def zhy : Code := zb6 Try.f48 [1,0,1,0,0]
def zsw (a0 : Option Addr) (p0 q0 n0 k0 : Nat) (A0 : Nat → Part) (y1 : Int) : zc8 → List L1 → List Value
 | .c0 s0_0,ls => [.slice a0 n0 (n0 + k0),.int .i64 (y1),.int .i64 (0),.int .i64 (s0_0)]
def zsm : zc8 → List (Nat × Nat)
 | .c0 _ => [(2,2),(2,23)]
noncomputable def zsr (a0 : Option Addr) (p0 q0 n0 k0 : Nat) (A0 : Nat → Part) (y1 : Int) (s : zc8) : List L1 → List Value := mrgF (zsm s) (zsw a0 p0 q0 n0 k0 A0 y1 s) 0
def zsI (a0 : Option Addr) (p0 q0 n0 k0 : Nat) (A0 : Nat → Part) (y1 : Int) : zc8 → List L1 → List Obj
 | .c0 s0_0,ls => [unb]
def zsx (a0 : Option Addr) (p0 q0 n0 k0 : Nat) (A0 : Nat → Part) (y1 : Int) : zc6 → List L1 → List Value
 | .e0 ,ls => [.slice a0 n0 (n0 + k0),.int .i64 (y1),.int .i64 (0)]
 | .e1 c1_0,ls => [.slice a0 n0 (n0 + k0),.int .i64 (y1),.int .i64 (c1_0)]
def zsg : zc6 → List (Nat × Nat)
 | .e0  => [(2,2),(1,24)]
 | .e1 _ => [(2,2),(1,24)]
noncomputable def zhA (a0 : Option Addr) (p0 q0 n0 k0 : Nat) (A0 : Nat → Part) (y1 : Int) (r : zc6) : List L1 → List Value := mrgF (zsg r) (zsx a0 p0 q0 n0 k0 A0 y1 r) 0
def zeq (a0 : Option Addr) (p0 q0 n0 k0 : Nat) (A0 : Nat → Part) (y1 : Int) : zc6 → List L1 → List Obj
 | .e0 ,ls => [unb]
 | .e1 c1_0,ls => [unb]
def zsP : zc6 → Ex
 | .e0  => (.exit 0)
 | .e1 _ => .ret
section
variable {M : Nat → Prop} {B0 : Nat} {S : World → Prop} (hU : Up M B0 S) (a0 : Option Addr) (p0 q0 n0 k0 : Nat) (A0 : Nat → Part) (hR0 : Ro S zdf 2 a0 p0 q0 n0 A0) (y1 : Int)
include hU a0 p0 q0 n0 k0 A0 hR0 y1
theorem zkD (s : zc8) (r : zc6) (h : lpO (zbY n0 A0 y1) s = some r) : zdm Try.prog M B0 S (.loop zhy) 1 (zsr a0 p0 q0 n0 k0 A0 y1 s) (zsI a0 p0 q0 n0 k0 A0 y1 s) (zsP r) 0 (zhA a0 p0 q0 n0 k0 A0 y1 r) (zeq a0 p0 q0 n0 k0 A0 y1 r) 1 :=
 zb5 (fun s q e => by
  cases s with
  | c0 s0_0 =>
   unfold zbY at e
   dsimp only at e
   replace e := za e
   rcases e with ⟨hq0,e⟩ | ⟨hq0,e⟩
   ·replace e := za e
    rcases e with ⟨hq1,e⟩ | ⟨hq1,e⟩
    ·replace e := za e
     let P1 : List (PG Try.prog M B0 S) := [.o,.o,.o,.b (zcR hq0),.o,.o,.o,.q (zA (kd := .i64) (T := 71) (x := s0_0) (sz := 2) rfl (fun w => by kernel_rfl) hR0 hq1),.o,.l (zcm hR0 zbn (ze hq1) 0 [.int .i64 (((A0 (s0_0).toNat)).fFrom)] rfl)]
     rcases e with ⟨hq2,e⟩ | ⟨hq2,e⟩
     ·replace e := za e
      let P2 : List (PG Try.prog M B0 S) := P1 ++ [.b (zsk hq2),.o,.o,.o,.o,.q (zA (kd := .i64) (T := 71) (x := s0_0) (sz := 2) rfl (fun w => by kernel_rfl) hR0 hq1),.o,.l (zcm hR0 zbn (ze hq1) 1 [.int .i64 (((A0 (s0_0).toNat)).fTo)] rfl)]
      rcases e with ⟨hq3,e⟩ | ⟨hq3,e⟩
      ·cases e; exact ⟨zhB,zb hU (P2 ++ [.b (zcR hq3),.o,.o,.o]) [] (fun b => rfl) (by decide) rfl rfl (fun b => by kernel_rfl)⟩
      ·cases e; exact zb hU (P2 ++ [.b (zb7 hq3),.o,.o,.o,.o]) [] (fun b => rfl) (by decide) rfl rfl (fun b => by kernel_rfl)
     ·cases e; exact zb hU (P1 ++ [.b (zpX hq2),.o,.o,.o,.o,.o]) [] (fun b => rfl) (by decide) rfl rfl (fun b => by kernel_rfl)
    ·exact zd e
   ·cases e; exact ⟨zcn 0,zb hU [.o,.o,.o,.b (zb7 hq0)] [] (fun b => rfl) (by decide) rfl rfl (fun b => by kernel_rfl)⟩) s r h
noncomputable def zeI (a0 : Option Addr) (p0 q0 n0 k0 : Nat) (A0 : Nat → Part) (y1 : Int) (s0_0 : Int) (ls : List L1) : List Value := List.append [.slice a0 n0 (n0 + k0),.int .i64 (y1),undef,undef,.int .i64 (0),.int .i64 (s0_0)] (und 23)
def zeu (a0 : Option Addr) (p0 q0 n0 k0 : Nat) (A0 : Nat → Part) (y1 : Int) (s0_0 : Int) (ls : List L1) : List Obj := []
theorem zmP (s0_0 : Int) (h : lpO (zbY n0 A0 y1) (.c0 s0_0) = some (.e0 )) : SpcG Try.prog M B0 S ⟨fun ls => .code (.loop zhy) (zeI a0 p0 q0 n0 k0 A0 y1 s0_0 ls),zeu a0 p0 q0 n0 k0 A0 y1 s0_0,1,(.exit 0),fun ls => zhA a0 p0 q0 n0 k0 A0 y1 (.e0 ) (ls.take 0 ++ ls.drop 0),fun ls => (zeq a0 p0 q0 n0 k0 A0 y1 (.e0 ) (ls.take 0 ++ ls.drop 0)).take 0 ++ List.replicate 0 unb,fun ls => (zeq a0 p0 q0 n0 k0 A0 y1 (.e0 ) (ls.take 0 ++ ls.drop 0)).drop 0⟩ :=
 zr hU 0 (k0 := 0) (zkD hU a0 p0 q0 n0 k0 A0 hR0 y1 _ _ h) (zeI a0 p0 q0 n0 k0 A0 y1 s0_0) (zeu a0 p0 q0 n0 k0 A0 y1 s0_0) (fun _ => rfl) (fun ls h => by match ls,h with | [],_ => exact ⟨by kernel_rfl,by kernel_rfl⟩) (fun ls h => by match ls,h with | [],_ => rfl) (by decide) (by decide) (fun ls => rfl)
theorem zn5 (s0_0 : Int) (c1_0 : Int) (h : lpO (zbY n0 A0 y1) (.c0 s0_0) = some (.e1 c1_0)) : SpcG Try.prog M B0 S ⟨fun ls => .code (.loop zhy) (zeI a0 p0 q0 n0 k0 A0 y1 s0_0 ls),zeu a0 p0 q0 n0 k0 A0 y1 s0_0,1,.ret,fun ls => zhA a0 p0 q0 n0 k0 A0 y1 (.e1 c1_0) (ls.take 0 ++ ls.drop 0),fun ls => (zeq a0 p0 q0 n0 k0 A0 y1 (.e1 c1_0) (ls.take 0 ++ ls.drop 0)).take 0 ++ List.replicate 0 unb,fun ls => (zeq a0 p0 q0 n0 k0 A0 y1 (.e1 c1_0) (ls.take 0 ++ ls.drop 0)).drop 0⟩ :=
 zr hU 0 (k0 := 0) (zkD hU a0 p0 q0 n0 k0 A0 hR0 y1 _ _ h) (zeI a0 p0 q0 n0 k0 A0 y1 s0_0) (zeu a0 p0 q0 n0 k0 A0 y1 s0_0) (fun _ => rfl) (fun ls h => by match ls,h with | [],_ => exact ⟨by kernel_rfl,by kernel_rfl⟩) (fun ls h => by match ls,h with | [],_ => rfl) (by decide) (by decide) (fun ls => rfl)
noncomputable def zcP (n0 : Nat) (A0 : Nat → Part) (y1 : Int) : Option (Int) :=
 (lpO (zbY n0 A0 y1) (.c0 0)).bind fun g0 => match g0 with
 | .e0  => (some (-1))
 | .e1 g0_0 => (some g0_0)
theorem zha (r : Int) (e : zcP n0 A0 y1 = some r) : ConG Try.prog S 48 #[.slice a0 n0 (n0 + k0),.int .i64 (y1)] (.int .i64 (r)) := by
 unfold zcP at e
 replace e := zf e
 obtain ⟨g0,e_g0,e⟩ := e
 rcases g0 with _ | ⟨g0_0⟩
 ·try dsimp only at e
  injection e with e; subst e; exact zc hU (P := Try.prog) Try.func48 (fun xs w => by kernel_rfl) _ _ [.o,.o,.cp,.cx (zmP hU a0 p0 q0 n0 k0 A0 hR0 y1 0  e_g0) [],.o] [] (fun b => by kernel_rfl)
 ·try dsimp only at e
  injection e with e; subst e; exact zc hU (P := Try.prog) Try.func48 (fun xs w => by kernel_rfl) _ _ [.o,.o,.cp,.cx (zn5 hU a0 p0 q0 n0 k0 A0 hR0 y1 0 g0_0 e_g0) []] [] (fun b => by kernel_rfl)
inductive zbP where
 | c0 (s0_0 : Int)
inductive zQ where
 | e0 
 | e1 (c1_0 : Int)
noncomputable def zba (n0 : Nat) (A0 : Nat → Insn) (g0_0 : Nat) (g0_1 : Nat → Part) (g1_0 : Nat → Bool) : zbP → Option (zbP ⊕ zQ)
 | .c0 s0_0 =>
 bif decide (s0_0 < (n0 : Int)) then
 (bif inR s0_0 ((n0 : Int)).toNat then
 (bif (g1_0 (s0_0).toNat) then
 (some (.inl (.c0 (IntKind.i64.wrap (s0_0 + 1)))))
 else (bif inR s0_0 n0 then
 (bif zi ((A0 (s0_0).toNat)) 0 then
 (zv (zbm n0 A0 s0_0 (ii ((A0 (s0_0).toNat)).fOff)) fun rb0 =>
 bif decide (rb0 < 0) then
 (some (.inr (.e1 s0_0)))
 else (bif inR rb0 ((n0 : Int)).toNat then
 (bif (g1_0 (rb0).toNat) then
 (some (.inr (.e1 s0_0)))
 else ((zcP g0_0 g0_1 rb0).bind fun rb1 =>
 (zcP g0_0 g0_1 s0_0).bind fun rb2 =>
 bif rb1 == rb2 then
 (some (.inl (.c0 (IntKind.i64.wrap (s0_0 + 1)))))
 else (some (.inr (.e1 s0_0)))))
 else (none)))
 else (bif zbj ((A0 (s0_0).toNat)) then
 (zv (zbm n0 A0 s0_0 (ii ((A0 (s0_0).toNat)).fOff)) fun rb0 =>
 bif decide (rb0 < 0) then
 (some (.inr (.e1 s0_0)))
 else (bif inR rb0 ((n0 : Int)).toNat then
 (bif (g1_0 (rb0).toNat) then
 (some (.inr (.e1 s0_0)))
 else ((zcP g0_0 g0_1 rb0).bind fun rb1 =>
 (zcP g0_0 g0_1 s0_0).bind fun rb2 =>
 bif rb1 == rb2 then
 (some (.inl (.c0 (IntKind.i64.wrap (s0_0 + 1)))))
 else (some (.inr (.e1 s0_0)))))
 else (none)))
 else (some (.inl (.c0 (IntKind.i64.wrap (s0_0 + 1)))))))
 else (none)))
 else (none))
 else (some (.inr (.e0 )))
noncomputable def zf1 : Code := zb6 Try.f30 [1,1,1,1,0,1,0,0]
def zpr (a0 : Option Addr) (p0 q0 n0 k0 : Nat) (A0 : Nat → Insn) (g0_0 : Nat) (g0_1 : Nat → Part) (g1_0 : Nat → Bool) : zbP → List L1 → List Value
 | .c0 s0_0,ls => [.slice a0 n0 (n0 + k0),.int .i64 (0),.int .i64 (0),(rowV (lget ls 0) g0_0 2),(rowV (lget ls 1) ((n0 : Int)).toNat 1),.int .i64 (s0_0)]
def zpM : zbP → List (Nat × Nat)
 | .c0 _ => [(1,1),(3,2),(2,66)]
noncomputable def zpJ (a0 : Option Addr) (p0 q0 n0 k0 : Nat) (A0 : Nat → Insn) (g0_0 : Nat) (g0_1 : Nat → Part) (g1_0 : Nat → Bool) (s : zbP) : List L1 → List Value := mrgF (zpM s) (zpr a0 p0 q0 n0 k0 A0 g0_0 g0_1 g1_0 s) 2
def zpe (a0 : Option Addr) (p0 q0 n0 k0 : Nat) (A0 : Nat → Insn) (g0_0 : Nat) (g0_1 : Nat → Part) (g1_0 : Nat → Bool) : zbP → List L1 → List Obj
 | .c0 s0_0,ls => [rowO (lget ls 0) (esG zdf g0_0 g0_1) 75 g0_0 2,rowO (lget ls 1) (esG cB ((n0 : Int)).toNat g1_0) 4 ((n0 : Int)).toNat 1,unb]
def zpE (a0 : Option Addr) (p0 q0 n0 k0 : Nat) (A0 : Nat → Insn) (g0_0 : Nat) (g0_1 : Nat → Part) (g1_0 : Nat → Bool) : zQ → List L1 → List Value
 | .e0 ,ls => [.slice a0 n0 (n0 + k0),.int .i64 (0),.int .i64 (0),(rowV (lget ls 0) g0_0 2),(rowV (lget ls 1) ((n0 : Int)).toNat 1)]
 | .e1 c1_0,ls => [.slice a0 n0 (n0 + k0),.int .i64 (c1_0),.int .i64 (15),(rowV (lget ls 0) g0_0 2),(rowV (lget ls 1) ((n0 : Int)).toNat 1)]
def zpy : zQ → List (Nat × Nat)
 | .e0  => [(1,1),(3,2),(1,67)]
 | .e1 _ => [(1,1),(3,2),(1,67)]
noncomputable def zf4 (a0 : Option Addr) (p0 q0 n0 k0 : Nat) (A0 : Nat → Insn) (g0_0 : Nat) (g0_1 : Nat → Part) (g1_0 : Nat → Bool) (r : zQ) : List L1 → List Value := mrgF (zpy r) (zpE a0 p0 q0 n0 k0 A0 g0_0 g0_1 g1_0 r) 2
def zdz (a0 : Option Addr) (p0 q0 n0 k0 : Nat) (A0 : Nat → Insn) (g0_0 : Nat) (g0_1 : Nat → Part) (g1_0 : Nat → Bool) : zQ → List L1 → List Obj
 | .e0 ,ls => [rowO (lget ls 0) (esG zdf g0_0 g0_1) 75 g0_0 2,rowO (lget ls 1) (esG cB ((n0 : Int)).toNat g1_0) 4 ((n0 : Int)).toNat 1,unb]
 | .e1 c1_0,ls => [rowO (lget ls 0) (esG zdf g0_0 g0_1) 75 g0_0 2,rowO (lget ls 1) (esG cB ((n0 : Int)).toNat g1_0) 4 ((n0 : Int)).toNat 1,unb]
def zpv : zQ → Ex
 | .e0  => (.exit 0)
 | .e1 _ => .ret
end
section
variable {M : Nat → Prop} {B0 : Nat} {S : World → Prop} (hU : Up M B0 S) (a0 : Option Addr) (p0 q0 n0 k0 : Nat) (A0 : Nat → Insn) (hR0 : Ro S zd9 5 a0 p0 q0 n0 A0) (g0_0 : Nat) (g0_1 : Nat → Part) (g1_0 : Nat → Bool)
include hU a0 p0 q0 n0 k0 A0 hR0 g0_0 g0_1 g1_0
theorem ziK (s : zbP) (r : zQ) (h : lpO (zba n0 A0 g0_0 g0_1 g1_0) s = some r) : zdm Try.prog M B0 S (.loop zf1) 3 (zpJ a0 p0 q0 n0 k0 A0 g0_0 g0_1 g1_0 s) (zpe a0 p0 q0 n0 k0 A0 g0_0 g0_1 g1_0 s) (zpv r) 2 (zf4 a0 p0 q0 n0 k0 A0 g0_0 g0_1 g1_0 r) (zdz a0 p0 q0 n0 k0 A0 g0_0 g0_1 g1_0 r) 3 :=
 zb5 (fun s q e => by
  cases s with
  | c0 s0_0 =>
   unfold zba at e
   dsimp only at e
   replace e := za e
   let P1 : List (PG Try.prog M B0 S) := [.o,.o,.o]
   rcases e with ⟨hq0,e⟩ | ⟨hq0,e⟩
   ·replace e := za e
    let P2 : List (PG Try.prog M B0 S) := P1 ++ [.b (zcR hq0),.o,.o]
    rcases e with ⟨hq1,e⟩ | ⟨hq1,e⟩
    ·replace e := za e
     let P3 : List (PG Try.prog M B0 S) := P2 ++ [.q (zH (kd := .i64) (T := 64) (x := s0_0) (N := ((n0 : Int)).toNat) (sz := 1) rfl (fun w => by kernel_rfl) hq1)]
     rcases e with ⟨hq2,e⟩ | ⟨hq2,e⟩
     ·cases e; exact zb hU (P3 ++ [.l (accG (i := 1) (f := cB) (A := g1_0) (k := (s0_0).toNat) 0 [.bool true] zbc (ze hq1) (congrArg (fun b => [Value.bool b]) hq2)),.o,.o,.o,.o,.o]) [0,1] (fun b => rfl) (by decide) rfl rfl (fun b => by kernel_rfl)
     ·replace e := za e
      let P4 : List (PG Try.prog M B0 S) := P3 ++ [.l (accG (i := 1) (f := cB) (A := g1_0) (k := (s0_0).toNat) 0 [.bool false] zbc (ze hq1) (congrArg (fun b => [Value.bool b]) hq2)),.o,.o,.o]
      rcases e with ⟨hq3,e⟩ | ⟨hq3,e⟩
      ·replace e := za e
       let P5 : List (PG Try.prog M B0 S) := P4 ++ [.q (zA (kd := .i64) (T := 22) (x := s0_0) (sz := 5) rfl (fun w => by kernel_rfl) hR0 hq3),.l (zcm hR0 zj (ze hq3) 0 [.int .u8 (nn ((A0 (s0_0).toNat)).fOp),.int .u8 (nn ((A0 (s0_0).toNat)).fDst),.int .u8 (nn ((A0 (s0_0).toNat)).fSrc),.int .i16 (ii ((A0 (s0_0).toNat)).fOff),.int .i32 (ii ((A0 (s0_0).toNat)).fImm)] rfl)]
       rcases e with ⟨hq4,e⟩ | ⟨hq4,e⟩
       ·replace e := zg e
        obtain ⟨rb0,e_rb0,e⟩ := e
        try dsimp only at e
        replace e := za e
        let P6 : List (PG Try.prog M B0 S) := P5 ++ [.cg (zh hU ((A0 (s0_0).toNat)) 0 true hq4),.o,.o,.o,.o,.o,.o,.o,.o,.q (zA (kd := .i64) (T := 22) (x := s0_0) (sz := 5) rfl (fun w => by kernel_rfl) hR0 hq3),.o,.l (zcm hR0 zj (ze hq3) 3 [.int .i16 (ii ((A0 (s0_0).toNat)).fOff)] rfl),.v .i64 (zdW (by decide) ((A0 (s0_0).toNat)).fOff),.cg (zdI hU a0 p0 q0 n0 k0 A0 hR0 s0_0 (ii ((A0 (s0_0).toNat)).fOff) rb0 e_rb0),.o,.o]
        rcases e with ⟨hq5,e⟩ | ⟨hq5,e⟩
        ·cases e; exact ⟨zhB,zb hU (P6 ++ [.b (zcR hq5),.o,.o,.o,.o,.o,.o,.o]) [0,1] (fun b => rfl) (by decide) rfl rfl (fun b => by kernel_rfl)⟩
        ·replace e := za e
         rcases e with ⟨hq6,e⟩ | ⟨hq6,e⟩
         ·replace e := za e
          let P7 : List (PG Try.prog M B0 S) := P6 ++ [.b (zb7 hq5),.o,.o,.o,.q (zH (kd := .i64) (T := 64) (x := rb0) (N := ((n0 : Int)).toNat) (sz := 1) rfl (fun w => by kernel_rfl) hq6)]
          rcases e with ⟨hq7,e⟩ | ⟨hq7,e⟩
          ·cases e; exact ⟨zhB,zb hU (P7 ++ [.l (accG (i := 1) (f := cB) (A := g1_0) (k := (rb0).toNat) 0 [.bool true] zbc (ze hq6) (congrArg (fun b => [Value.bool b]) hq7)),.o,.o,.o,.o,.o,.o]) [0,1] (fun b => rfl) (by decide) rfl rfl (fun b => by kernel_rfl)⟩
          ·replace e := zf e
           obtain ⟨rb1,e_rb1,e⟩ := e
           try dsimp only at e
           replace e := zf e
           obtain ⟨rb2,e_rb2,e⟩ := e
           try dsimp only at e
           replace e := za e
           let P8 : List (PG Try.prog M B0 S) := P7 ++ [.l (accG (i := 1) (f := cB) (A := g1_0) (k := (rb0).toNat) 0 [.bool false] zbc (ze hq6) (congrArg (fun b => [Value.bool b]) hq7)),.o,.o,.o,.o,.xg (SpcG.ownC hU zbn g0_0 g0_1 75 fun hU x u v z hr => zha hU x u v g0_0 z g0_1 hr rb0 rb1 e_rb1) [0],.o,.o,.xg (SpcG.ownC hU zbn g0_0 g0_1 75 fun hU x u v z hr => zha hU x u v g0_0 z g0_1 hr s0_0 rb2 e_rb2) [0]]
           rcases e with ⟨hq8,e⟩ | ⟨hq8,e⟩
           ·cases e; exact zb hU (P8 ++ [.b (zdq hq8),.o,.o,.o,.o]) [0,1] (fun b => rfl) (by decide) rfl rfl (fun b => by kernel_rfl)
           ·cases e; exact ⟨zhB,zb hU (P8 ++ [.b (zdU hq8),.o,.o,.o,.o]) [0,1] (fun b => rfl) (by decide) rfl rfl (fun b => by kernel_rfl)⟩
         ·exact zd e
       ·replace e := za e
        let P9 : List (PG Try.prog M B0 S) := P5 ++ [.cg (zh hU ((A0 (s0_0).toNat)) 0 false hq4),.o,.o,.o,.o,.q (zA (kd := .i64) (T := 22) (x := s0_0) (sz := 5) rfl (fun w => by kernel_rfl) hR0 hq3),.l (zcm hR0 zj (ze hq3) 0 [.int .u8 (nn ((A0 (s0_0).toNat)).fOp),.int .u8 (nn ((A0 (s0_0).toNat)).fDst),.int .u8 (nn ((A0 (s0_0).toNat)).fSrc),.int .i16 (ii ((A0 (s0_0).toNat)).fOff),.int .i32 (ii ((A0 (s0_0).toNat)).fImm)] rfl)]
        rcases e with ⟨hq5,e⟩ | ⟨hq5,e⟩
        ·replace e := zg e
         obtain ⟨rb0,e_rb0,e⟩ := e
         try dsimp only at e
         replace e := za e
         let P10 : List (PG Try.prog M B0 S) := P9 ++ [.cg (zbb hU ((A0 (s0_0).toNat)) true hq5),.o,.o,.o,.o,.o,.o,.o,.q (zA (kd := .i64) (T := 22) (x := s0_0) (sz := 5) rfl (fun w => by kernel_rfl) hR0 hq3),.o,.l (zcm hR0 zj (ze hq3) 3 [.int .i16 (ii ((A0 (s0_0).toNat)).fOff)] rfl),.v .i64 (zdW (by decide) ((A0 (s0_0).toNat)).fOff),.cg (zdI hU a0 p0 q0 n0 k0 A0 hR0 s0_0 (ii ((A0 (s0_0).toNat)).fOff) rb0 e_rb0),.o,.o]
         rcases e with ⟨hq6,e⟩ | ⟨hq6,e⟩
         ·cases e; exact ⟨zhB,zb hU (P10 ++ [.b (zcR hq6),.o,.o,.o,.o,.o,.o,.o]) [0,1] (fun b => rfl) (by decide) rfl rfl (fun b => by kernel_rfl)⟩
         ·replace e := za e
          rcases e with ⟨hq7,e⟩ | ⟨hq7,e⟩
          ·replace e := za e
           let P11 : List (PG Try.prog M B0 S) := P10 ++ [.b (zb7 hq6),.o,.o,.o,.q (zH (kd := .i64) (T := 64) (x := rb0) (N := ((n0 : Int)).toNat) (sz := 1) rfl (fun w => by kernel_rfl) hq7)]
           rcases e with ⟨hq8,e⟩ | ⟨hq8,e⟩
           ·cases e; exact ⟨zhB,zb hU (P11 ++ [.l (accG (i := 1) (f := cB) (A := g1_0) (k := (rb0).toNat) 0 [.bool true] zbc (ze hq7) (congrArg (fun b => [Value.bool b]) hq8)),.o,.o,.o,.o,.o,.o]) [0,1] (fun b => rfl) (by decide) rfl rfl (fun b => by kernel_rfl)⟩
           ·replace e := zf e
            obtain ⟨rb1,e_rb1,e⟩ := e
            try dsimp only at e
            replace e := zf e
            obtain ⟨rb2,e_rb2,e⟩ := e
            try dsimp only at e
            replace e := za e
            let P12 : List (PG Try.prog M B0 S) := P11 ++ [.l (accG (i := 1) (f := cB) (A := g1_0) (k := (rb0).toNat) 0 [.bool false] zbc (ze hq7) (congrArg (fun b => [Value.bool b]) hq8)),.o,.o,.o,.o,.xg (SpcG.ownC hU zbn g0_0 g0_1 75 fun hU x u v z hr => zha hU x u v g0_0 z g0_1 hr rb0 rb1 e_rb1) [0],.o,.o,.xg (SpcG.ownC hU zbn g0_0 g0_1 75 fun hU x u v z hr => zha hU x u v g0_0 z g0_1 hr s0_0 rb2 e_rb2) [0]]
            rcases e with ⟨hq9,e⟩ | ⟨hq9,e⟩
            ·cases e; exact zb hU (P12 ++ [.b (zdq hq9),.o,.o,.o,.o]) [0,1] (fun b => rfl) (by decide) rfl rfl (fun b => by kernel_rfl)
            ·cases e; exact ⟨zhB,zb hU (P12 ++ [.b (zdU hq9),.o,.o,.o,.o]) [0,1] (fun b => rfl) (by decide) rfl rfl (fun b => by kernel_rfl)⟩
          ·exact zd e
        ·cases e; exact zb hU (P9 ++ [.cg (zbb hU ((A0 (s0_0).toNat)) false hq5),.o,.o,.o,.o,.o,.o]) [0,1] (fun b => rfl) (by decide) rfl rfl (fun b => by kernel_rfl)
      ·exact zd e
    ·exact zd e
   ·cases e; exact ⟨zcn 0,zb hU (P1 ++ [.b (zb7 hq0)]) [0,1] (fun b => rfl) (by decide) rfl rfl (fun b => by kernel_rfl)⟩) s r h
noncomputable def zd3 (a0 : Option Addr) (p0 q0 n0 k0 : Nat) (A0 : Nat → Insn) (g0_0 : Nat) (g0_1 : Nat → Part) (g1_0 : Nat → Bool) (s0_0 : Int) (ls : List L1) : List Value := List.append [.slice a0 n0 (n0 + k0),undef,.int .i64 (0),.int .i64 (0),(rowV (lget ls 0) g0_0 2),.int .i64 (0),.int .i64 (0),(rowV (lget ls 1) ((n0 : Int)).toNat 1),.int .i64 (s0_0),undef,.tuple #[(rowV (lget ls 0) g0_0 2),.int .i64 (0),.int .i64 (0)],.slice a0 n0 (n0 + k0),.tuple #[(rowV (lget ls 0) g0_0 2),.int .i64 (0),.int .i64 (0)],(rowV (lget ls 0) g0_0 2),.int .i64 (0),.int .i64 (0),.int .i64 (0),.bool false,undef,undef,.slice a0 n0 (n0 + k0),(rowV (lget ls 1) ((n0 : Int)).toNat 1)] (und 53)
def zdK (a0 : Option Addr) (p0 q0 n0 k0 : Nat) (A0 : Nat → Insn) (g0_0 : Nat) (g0_1 : Nat → Part) (g1_0 : Nat → Bool) (s0_0 : Int) (ls : List L1) : List Obj := [rowO (lget ls 0) (esG zdf g0_0 g0_1) 75 g0_0 2,rowO (lget ls 1) (esG cB ((n0 : Int)).toNat g1_0) 4 ((n0 : Int)).toNat 1]
theorem zlF (s0_0 : Int) (h : lpO (zba n0 A0 g0_0 g0_1 g1_0) (.c0 s0_0) = some (.e0 )) : SpcG Try.prog M B0 S ⟨fun ls => .code (.loop zf1) (zd3 a0 p0 q0 n0 k0 A0 g0_0 g0_1 g1_0 s0_0 ls),zdK a0 p0 q0 n0 k0 A0 g0_0 g0_1 g1_0 s0_0,1,(.exit 0),fun ls => zf4 a0 p0 q0 n0 k0 A0 g0_0 g0_1 g1_0 (.e0 ) (ls.take 2 ++ ls.drop 2),fun ls => (zdz a0 p0 q0 n0 k0 A0 g0_0 g0_1 g1_0 (.e0 ) (ls.take 2 ++ ls.drop 2)).take 2 ++ List.replicate 0 unb,fun ls => (zdz a0 p0 q0 n0 k0 A0 g0_0 g0_1 g1_0 (.e0 ) (ls.take 2 ++ ls.drop 2)).drop 2⟩ :=
 zr hU 0 (k0 := 2) (ziK hU a0 p0 q0 n0 k0 A0 hR0 g0_0 g0_1 g1_0 _ _ h) (zd3 a0 p0 q0 n0 k0 A0 g0_0 g0_1 g1_0 s0_0) (zdK a0 p0 q0 n0 k0 A0 g0_0 g0_1 g1_0 s0_0) (fun _ => rfl) (fun ls h => by match ls,h with | [l0,l1],_ => exact ⟨by kernel_rfl,by kernel_rfl⟩) (fun ls h => by match ls,h with | [l0,l1],_ => rfl) (by decide) (by decide) (fun ls => rfl)
theorem zk7 (s0_0 : Int) (c1_0 : Int) (h : lpO (zba n0 A0 g0_0 g0_1 g1_0) (.c0 s0_0) = some (.e1 c1_0)) : SpcG Try.prog M B0 S ⟨fun ls => .code (.loop zf1) (zd3 a0 p0 q0 n0 k0 A0 g0_0 g0_1 g1_0 s0_0 ls),zdK a0 p0 q0 n0 k0 A0 g0_0 g0_1 g1_0 s0_0,1,.ret,fun ls => zf4 a0 p0 q0 n0 k0 A0 g0_0 g0_1 g1_0 (.e1 c1_0) (ls.take 2 ++ ls.drop 2),fun ls => (zdz a0 p0 q0 n0 k0 A0 g0_0 g0_1 g1_0 (.e1 c1_0) (ls.take 2 ++ ls.drop 2)).take 2 ++ List.replicate 0 unb,fun ls => (zdz a0 p0 q0 n0 k0 A0 g0_0 g0_1 g1_0 (.e1 c1_0) (ls.take 2 ++ ls.drop 2)).drop 2⟩ :=
 zr hU 0 (k0 := 2) (ziK hU a0 p0 q0 n0 k0 A0 hR0 g0_0 g0_1 g1_0 _ _ h) (zd3 a0 p0 q0 n0 k0 A0 g0_0 g0_1 g1_0 s0_0) (zdK a0 p0 q0 n0 k0 A0 g0_0 g0_1 g1_0 s0_0) (fun _ => rfl) (fun ls h => by match ls,h with | [l0,l1],_ => exact ⟨by kernel_rfl,by kernel_rfl⟩) (fun ls h => by match ls,h with | [l0,l1],_ => rfl) (by decide) (by decide) (fun ls => rfl)
noncomputable def zcQ (n0 : Nat) (A0 : Nat → Insn) : Option ((Int) × (Int)) :=
 (zds n0 A0).bind fun g0 => match g0 with
 | .e0 g0_0 g0_1 => (bif g0_1 == 0 then
 (none)
 else (some (g0_0,g0_1)))
 | .e1 g0_0 g0_1 => ((zb9 n0 A0).bind fun g1 => match g1 with
 | .e0 g1_0 =>
 (lpO (zba n0 A0 g0_0 g0_1 g1_0) (.c0 0)).bind fun g2 => match g2 with
 | .e0  => (some (0,0))
 | .e1 g2_0 => (some (g2_0,15)))
end
section
variable {M : Nat → Prop} {B0 : Nat} {S : World → Prop} (hU : Up M B0 S)
include hU
theorem zkJ (a0 : Option Addr) (p0 q0 n0 k0 : Nat) (A0 : Nat → Insn) (hR0 : Ro S zd9 5 a0 p0 q0 n0 A0) (r : (Int) × (Int)) (e : zcQ n0 A0 = some r) : ConG Try.prog S 30 #[.slice a0 n0 (n0 + k0)] (vt1 r) := by
 unfold zcQ at e
 replace e := zf e
 obtain ⟨g0,e_g0,e⟩ := e
 rcases g0 with ⟨g0_0,g0_1⟩ | ⟨g0_0,g0_1⟩
 ·try dsimp only at e
  replace e := za e
  rcases e with ⟨hq0,e⟩ | ⟨hq0,e⟩
  ·exact zd e
  ·injection e with e; subst e; exact zc hU (P := Try.prog) Try.func30 (fun xs w => by kernel_rfl) _ _ [.o,.o,.o,.xg (zsR hU a0 p0 q0 n0 k0 A0 hR0 g0_0 g0_1 e_g0) [],.o,.o,.o,.o,.o,.o,.o,.o,.b (zdU hq0),.o,.o,.o,.o] [] (fun b => by kernel_rfl)
 ·try dsimp only at e
  replace e := zf e
  obtain ⟨g1,e_g1,e⟩ := e
  obtain ⟨g1_0⟩ := g1
  try dsimp only at e
  replace e := zf e
  obtain ⟨g2,e_g2,e⟩ := e
  let P1 : List (PG Try.prog M B0 S) := [.o,.o,.o,.xg (zsX hU a0 p0 q0 n0 k0 A0 hR0 g0_0 g0_1 e_g0) [],.o,.o,.o,.o,.o,.o,.o,.o,.o,.o,.xg (zc1 hU a0 p0 q0 n0 k0 A0 hR0 g1_0 e_g1) [],.o,.o,.cp]
  rcases g2 with _ | ⟨g2_0⟩
  ·try dsimp only at e
   injection e with e; subst e; exact zc hU (P := Try.prog) Try.func30 (fun xs w => by kernel_rfl) _ _ (P1 ++ [.cx (zlF hU a0 p0 q0 n0 k0 A0 hR0 g0_0 g0_1 g1_0 0  e_g2) [0,1],.o,.o]) [] (fun b => by kernel_rfl)
  ·try dsimp only at e
   injection e with e; subst e; exact zc hU (P := Try.prog) Try.func30 (fun xs w => by kernel_rfl) _ _ (P1 ++ [.cx (zk7 hU a0 p0 q0 n0 k0 A0 hR0 g0_0 g0_1 g1_0 0 g2_0 e_g2) [0,1]]) [] (fun b => by kernel_rfl)
end

end Go.Proofs.Ytliijnpblddjfaa


