/-
  What is live: the document's.
-/
import Derived.Test.YtliijnpblddjfaaLTL
namespace Go.Proofs.Ytliijnpblddjfaa
open Go.RowKit
set_option linter.unusedVariables false
set_option linter.unusedSimpArgs false
set_option linter.unusedSectionVars false
set_option maxRecDepth 100000
set_option maxHeartbeats 4000000
inductive zbT where
 | c0 (s0_0 : BitVec 16) (s0_1 : Int)
inductive zbU where
 | e0 (c0_0 : BitVec 16)
noncomputable def zbv (n1 : Nat) (A1 : Nat → BitVec 16) (g0_0 : Nat) (g0_1 : Nat → Int) : zbT → Option (zbT ⊕ zbU)
 | .c0 s0_0 s0_1 =>
 bif decide (s0_1 < (g0_0 : Int)) then
 (bif inR s0_1 g0_0 then
 (bif inR (g0_1 (s0_1).toNat) n1 then
 (some (.inl (.c0 (s0_0 ||| (A1 ((g0_1 (s0_1).toNat)).toNat)) (IntKind.i64.wrap (s0_1 + 1)))))
 else (none))
 else (none))
 else (some (.inr (.e0 s0_0)))
noncomputable def zib : Code := zb6 Try.f32 [1,1,1,0,1,0,0]
def zon (a0 : Option Addr) (p0 q0 n0 k0 : Nat) (A0 : Nat → Insn) (a1 : Option Addr) (p1 q1 n1 k1 : Nat) (A1 : Nat → BitVec 16) (y2 : Int) (g0_0 : Nat) (g0_1 : Nat → Int) : zbT → List L1 → List Value
 | .c0 s0_0 s0_1,ls => [.slice a1 n1 (n1 + k1),.int .u16 (0),(rowV (lget ls 0) g0_0 1),.int .u16 (nn s0_0),.int .i64 (s0_1)]
def zom : zbT → List (Nat × Nat)
 | .c0 _ _ => [(0,1),(1,4),(4,19)]
noncomputable def zoc (a0 : Option Addr) (p0 q0 n0 k0 : Nat) (A0 : Nat → Insn) (a1 : Option Addr) (p1 q1 n1 k1 : Nat) (A1 : Nat → BitVec 16) (y2 : Int) (g0_0 : Nat) (g0_1 : Nat → Int) (s : zbT) : List L1 → List Value := mrgF (zom s) (zon a0 p0 q0 n0 k0 A0 a1 p1 q1 n1 k1 A1 y2 g0_0 g0_1 s) 1
def zoj (a0 : Option Addr) (p0 q0 n0 k0 : Nat) (A0 : Nat → Insn) (a1 : Option Addr) (p1 q1 n1 k1 : Nat) (A1 : Nat → BitVec 16) (y2 : Int) (g0_0 : Nat) (g0_1 : Nat → Int) : zbT → List L1 → List Obj
 | .c0 s0_0 s0_1,ls => [rowO (lget ls 0) (esG cZ g0_0 g0_1) 3 g0_0 1,unb]
def zoh (a0 : Option Addr) (p0 q0 n0 k0 : Nat) (A0 : Nat → Insn) (a1 : Option Addr) (p1 q1 n1 k1 : Nat) (A1 : Nat → BitVec 16) (y2 : Int) (g0_0 : Nat) (g0_1 : Nat → Int) : zbU → List L1 → List Value
 | .e0 c0_0,ls => [.slice a1 n1 (n1 + k1),.int .u16 (0),(rowV (lget ls 0) g0_0 1),.int .u16 (nn c0_0)]
def zow : zbU → List (Nat × Nat)
 | .e0 _ => [(0,1),(1,4),(3,20)]
noncomputable def zh6 (a0 : Option Addr) (p0 q0 n0 k0 : Nat) (A0 : Nat → Insn) (a1 : Option Addr) (p1 q1 n1 k1 : Nat) (A1 : Nat → BitVec 16) (y2 : Int) (g0_0 : Nat) (g0_1 : Nat → Int) (r : zbU) : List L1 → List Value := mrgF (zow r) (zoh a0 p0 q0 n0 k0 A0 a1 p1 q1 n1 k1 A1 y2 g0_0 g0_1 r) 1
def zfm (a0 : Option Addr) (p0 q0 n0 k0 : Nat) (A0 : Nat → Insn) (a1 : Option Addr) (p1 q1 n1 k1 : Nat) (A1 : Nat → BitVec 16) (y2 : Int) (g0_0 : Nat) (g0_1 : Nat → Int) : zbU → List L1 → List Obj
 | .e0 c0_0,ls => [rowO (lget ls 0) (esG cZ g0_0 g0_1) 3 g0_0 1,unb]
def zok : zbU → Ex
 | .e0 _ => (.exit 0)
section
variable {M : Nat → Prop} {B0 : Nat} {S : World → Prop} (hU : Up M B0 S) (a0 : Option Addr) (p0 q0 n0 k0 : Nat) (A0 : Nat → Insn) (hR0 : Ro S zd9 5 a0 p0 q0 n0 A0) (a1 : Option Addr) (p1 q1 n1 k1 : Nat) (A1 : Nat → BitVec 16) (hR1 : Ro S cu16 1 a1 p1 q1 n1 A1) (y2 : Int) (g0_0 : Nat) (g0_1 : Nat → Int)
include hU a0 p0 q0 n0 k0 A0 hR0 a1 p1 q1 n1 k1 A1 hR1 y2 g0_0 g0_1
theorem zox (s : zbT) (r : zbU) (h : lpO (zbv n1 A1 g0_0 g0_1) s = some r) : zdm Try.prog M B0 S (.loop zib) 2 (zoc a0 p0 q0 n0 k0 A0 a1 p1 q1 n1 k1 A1 y2 g0_0 g0_1 s) (zoj a0 p0 q0 n0 k0 A0 a1 p1 q1 n1 k1 A1 y2 g0_0 g0_1 s) (zok r) 1 (zh6 a0 p0 q0 n0 k0 A0 a1 p1 q1 n1 k1 A1 y2 g0_0 g0_1 r) (zfm a0 p0 q0 n0 k0 A0 a1 p1 q1 n1 k1 A1 y2 g0_0 g0_1 r) 2 :=
 zb5 (fun s q e => by
  cases s with
  | c0 s0_0 s0_1 =>
   unfold zbv at e
   dsimp only at e
   replace e := za e
   rcases e with ⟨hq0,e⟩ | ⟨hq0,e⟩
   ·replace e := za e
    rcases e with ⟨hq1,e⟩ | ⟨hq1,e⟩
    ·replace e := za e
     rcases e with ⟨hq2,e⟩ | ⟨hq2,e⟩
     ·cases e; exact zb hU [.o,.o,.o,.b (zcR hq0),.o,.o,.o,.o,.q (zH (kd := .i64) (T := 36) (x := s0_1) (N := g0_0) (sz := 1) rfl (fun w => by kernel_rfl) hq1),.l (accG (i := 0) (f := cZ) (A := g0_1) (k := (s0_1).toNat) 0 [.int .i64 ((g0_1 (s0_1).toNat))] zb1 (ze hq1) rfl),.q (zA (kd := .i64) (T := 30) (x := (g0_1 (s0_1).toNat)) (sz := 1) rfl (fun w => by kernel_rfl) hR1 hq2),.l (zcm hR1 zc0 (ze hq2) 0 [.int .u16 (nn (A1 ((g0_1 (s0_1).toNat)).toNat))] rfl),.v .u16 (zml s0_0 (A1 ((g0_1 (s0_1).toNat)).toNat)),.o,.o,.o,.o] [0] (fun b => rfl) (by decide) rfl rfl (fun b => by kernel_rfl)
     ·exact zd e
    ·exact zd e
   ·cases e; exact ⟨zcn 0,zb hU [.o,.o,.o,.b (zb7 hq0)] [0] (fun b => rfl) (by decide) rfl rfl (fun b => by kernel_rfl)⟩) s r h
noncomputable def zhn (a0 : Option Addr) (p0 q0 n0 k0 : Nat) (A0 : Nat → Insn) (a1 : Option Addr) (p1 q1 n1 k1 : Nat) (A1 : Nat → BitVec 16) (y2 : Int) (g0_0 : Nat) (g0_1 : Nat → Int) (s0_0 : BitVec 16) (s0_1 : Int) (ls : List L1) : List Value := List.append [.slice a0 n0 (n0 + k0),.slice a1 n1 (n1 + k1),.int .i64 (y2),undef,undef,undef,.int .u16 (0),(rowV (lget ls 0) g0_0 1),.int .u16 (nn s0_0),.int .i64 (s0_1),.slice a0 n0 (n0 + k0),.int .i64 (y2),(rowV (lget ls 0) g0_0 1)] (und 16)
def zgS (a0 : Option Addr) (p0 q0 n0 k0 : Nat) (A0 : Nat → Insn) (a1 : Option Addr) (p1 q1 n1 k1 : Nat) (A1 : Nat → BitVec 16) (y2 : Int) (g0_0 : Nat) (g0_1 : Nat → Int) (s0_0 : BitVec 16) (s0_1 : Int) (ls : List L1) : List Obj := [rowO (lget ls 0) (esG cZ g0_0 g0_1) 3 g0_0 1]
theorem zjy (s0_0 : BitVec 16) (s0_1 : Int) (c0_0 : BitVec 16) (h : lpO (zbv n1 A1 g0_0 g0_1) (.c0 s0_0 s0_1) = some (.e0 c0_0)) : SpcG Try.prog M B0 S ⟨fun ls => .code (.loop zib) (zhn a0 p0 q0 n0 k0 A0 a1 p1 q1 n1 k1 A1 y2 g0_0 g0_1 s0_0 s0_1 ls),zgS a0 p0 q0 n0 k0 A0 a1 p1 q1 n1 k1 A1 y2 g0_0 g0_1 s0_0 s0_1,1,(.exit 0),fun ls => zh6 a0 p0 q0 n0 k0 A0 a1 p1 q1 n1 k1 A1 y2 g0_0 g0_1 (.e0 c0_0) (ls.take 1 ++ ls.drop 1),fun ls => (zfm a0 p0 q0 n0 k0 A0 a1 p1 q1 n1 k1 A1 y2 g0_0 g0_1 (.e0 c0_0) (ls.take 1 ++ ls.drop 1)).take 1 ++ List.replicate 0 unb,fun ls => (zfm a0 p0 q0 n0 k0 A0 a1 p1 q1 n1 k1 A1 y2 g0_0 g0_1 (.e0 c0_0) (ls.take 1 ++ ls.drop 1)).drop 1⟩ :=
 zr hU 0 (k0 := 1) (zox hU a0 p0 q0 n0 k0 A0 hR0 a1 p1 q1 n1 k1 A1 hR1 y2 g0_0 g0_1 _ _ h) (zhn a0 p0 q0 n0 k0 A0 a1 p1 q1 n1 k1 A1 y2 g0_0 g0_1 s0_0 s0_1) (zgS a0 p0 q0 n0 k0 A0 a1 p1 q1 n1 k1 A1 y2 g0_0 g0_1 s0_0 s0_1) (fun _ => rfl) (fun ls h => by match ls,h with | [l0],_ => exact ⟨by kernel_rfl,by kernel_rfl⟩) (fun ls h => by match ls,h with | [l0],_ => rfl) (by decide) (by decide) (fun ls => rfl)
noncomputable def zbe (n0 : Nat) (A0 : Nat → Insn) (n1 : Nat) (A1 : Nat → BitVec 16) (y2 : Int) : Option (BitVec 16) :=
 (zco n0 A0 y2).bind fun g0 => match g0 with
 | .e0  => (some (0#16))
 | .e1 g0_0 g0_1 => ((lpO (zbv n1 A1 g0_0 g0_1) (.c0 (0#16) 0)).bind fun g1 => match g1 with
 | .e0 g1_0 =>
 some g1_0)
end
section
variable {M : Nat → Prop} {B0 : Nat} {S : World → Prop} (hU : Up M B0 S) (a0 : Option Addr) (p0 q0 n0 k0 : Nat) (A0 : Nat → Insn) (hR0 : Ro S zd9 5 a0 p0 q0 n0 A0)
include hU a0 p0 q0 n0 k0 A0 hR0
theorem zcL (a1 : Option Addr) (p1 q1 n1 k1 : Nat) (A1 : Nat → BitVec 16) (hR1 : Ro S cu16 1 a1 p1 q1 n1 A1) (y2 : Int) (r : BitVec 16) (e : zbe n0 A0 n1 A1 y2 = some r) : ConG Try.prog S 32 #[.slice a0 n0 (n0 + k0),.slice a1 n1 (n1 + k1),.int .i64 (y2)] (.int .u16 (nn r)) := by
 unfold zbe at e
 replace e := zf e
 obtain ⟨g0,e_g0,e⟩ := e
 rcases g0 with _ | ⟨g0_0,g0_1⟩
 ·try dsimp only at e
  injection e with e; subst e; exact zc hU (P := Try.prog) Try.func32 (fun xs w => by kernel_rfl) _ _ [.o,.o,.o,.xg (zqG hU a0 p0 q0 n0 k0 A0 hR0 y2  e_g0) [],.o,.o,.o,.o,.o,.o,.o,.o,.o] [] (fun b => by kernel_rfl)
 ·try dsimp only at e
  replace e := zf e
  obtain ⟨g1,e_g1,e⟩ := e
  obtain ⟨g1_0⟩ := g1
  try dsimp only at e
  injection e with e; subst e; exact zc hU (P := Try.prog) Try.func32 (fun xs w => by kernel_rfl) _ _ [.o,.o,.o,.xg (zqa hU a0 p0 q0 n0 k0 A0 hR0 y2 g0_0 g0_1 e_g0) [],.o,.o,.o,.cp,.cx (zjy hU a0 p0 q0 n0 k0 A0 hR0 a1 p1 q1 n1 k1 A1 hR1 y2 g0_0 g0_1 (0#16) 0 g1_0 e_g1) [0],.o,.o] [] (fun b => by kernel_rfl)
inductive z3 where
 | c0 (sb0_0 : Nat → BitVec 16) (sb0_1 : Bool) (sb0_2 : Int)
inductive z5 where
 | e0 (c0_0 : Nat → BitVec 16) (c0_1 : Bool) (c0_2 : Int) (c0_3 : Int)
noncomputable def zbr (n0 : Nat) (A0 : Nat → Insn) (g1_0 : Nat → Bool) : z3 → Option (z3 ⊕ z5)
 | .c0 sb0_0 sb0_1 sb0_2 =>
 bif decide (0 ≤ sb0_2) then
 (bif inR sb0_2 ((n0 : Int)).toNat then
 (bif (g1_0 (sb0_2).toNat) then
 (some (.inl (.c0 sb0_0 sb0_1 (IntKind.i64.wrap (sb0_2 - 1)))))
 else (bif inR sb0_2 n0 then
 ((zcD ((A0 (sb0_2).toNat))).bind fun rc0 =>
 (zcY ((A0 (sb0_2).toNat))).bind fun rc1 =>
 (zbe n0 A0 ((n0 : Int)).toNat sb0_0 sb0_2).bind fun rc2 =>
 bif (rc0.1 ||| (rc2 &&& ~~~rc1.1)) == (sb0_0 (sb0_2).toNat) then
 (some (.inl (.c0 sb0_0 sb0_1 (IntKind.i64.wrap (sb0_2 - 1)))))
 else (some (.inl (.c0 (updF sb0_0 (sb0_2).toNat (rc0.1 ||| (rc2 &&& ~~~rc1.1))) true (IntKind.i64.wrap (sb0_2 - 1))))))
 else (none)))
 else (none))
 else (some (.inr (.e0 sb0_0 sb0_1 sb0_2 sb0_2)))
noncomputable def zgQ : Code := zb6 Try.f10 [1,1,1,1,1,0,1,0,0,1,0,1,1,0,0]
def zlN (a0 : Option Addr) (p0 q0 n0 k0 : Nat) (A0 : Nat → Insn) (r0 : (Int) × (Int)) (g1_0 : Nat → Bool) (s0_0 : Nat → BitVec 16) (s0_1 : Bool) : z3 → List L1 → List Value
 | .c0 sb0_0 sb0_1 sb0_2,ls => [.slice a0 n0 (n0 + k0),.slice none 0 0,.int .i64 (0),(rowV (lget ls 0) ((n0 : Int)).toNat 1),(rowV (lget ls 1) ((n0 : Int)).toNat 1),.bool (sb0_1),.int .i64 (sb0_2),.bool true,.slice a0 n0 (n0 + k0),.int .i64 ((n0 : Int)),.int .i64 ((IntKind.i64.wrap ((n0 : Int) - 1))),((lget ls 2).u 74)]
def zl1 : z3 → List (Nat × Nat)
 | .c0 _ _ _ => [(1,1),(2,2),(4,18),(4,42),(1,0)]
noncomputable def zlX (a0 : Option Addr) (p0 q0 n0 k0 : Nat) (A0 : Nat → Insn) (r0 : (Int) × (Int)) (g1_0 : Nat → Bool) (s0_0 : Nat → BitVec 16) (s0_1 : Bool) (s : z3) : List L1 → List Value := mrgF (zl1 s) (zlN a0 p0 q0 n0 k0 A0 r0 g1_0 s0_0 s0_1 s) 3
def zl8 (a0 : Option Addr) (p0 q0 n0 k0 : Nat) (A0 : Nat → Insn) (r0 : (Int) × (Int)) (g1_0 : Nat → Bool) (s0_0 : Nat → BitVec 16) (s0_1 : Bool) : z3 → List L1 → List Obj
 | .c0 sb0_0 sb0_1 sb0_2,ls => [rowO (lget ls 0) (esG cB ((n0 : Int)).toNat g1_0) 4 ((n0 : Int)).toNat 1,rowO (lget ls 1) (esG cu16 ((n0 : Int)).toNat sb0_0) 27 ((n0 : Int)).toNat 1,unb,unb]
def zl9 (a0 : Option Addr) (p0 q0 n0 k0 : Nat) (A0 : Nat → Insn) (r0 : (Int) × (Int)) (g1_0 : Nat → Bool) (s0_0 : Nat → BitVec 16) (s0_1 : Bool) : z5 → List L1 → List Value
 | .e0 c0_0 c0_1 c0_2 c0_3,ls => [.slice a0 n0 (n0 + k0),.slice none 0 0,.int .i64 (0),(rowV (lget ls 0) ((n0 : Int)).toNat 1),(rowV (lget ls 1) ((n0 : Int)).toNat 1),.bool (c0_1),.int .i64 (c0_2),.bool true,.slice a0 n0 (n0 + k0),.int .i64 ((n0 : Int)),.int .i64 ((IntKind.i64.wrap ((n0 : Int) - 1))),.int .i64 (c0_3),.bool false,((lget ls 2).u 74)]
def zlV : z5 → List (Nat × Nat)
 | .e0 _ _ _ _ => [(1,1),(2,2),(4,18),(6,40),(1,0)]
noncomputable def zgP (a0 : Option Addr) (p0 q0 n0 k0 : Nat) (A0 : Nat → Insn) (r0 : (Int) × (Int)) (g1_0 : Nat → Bool) (s0_0 : Nat → BitVec 16) (s0_1 : Bool) (r : z5) : List L1 → List Value := mrgF (zlV r) (zl9 a0 p0 q0 n0 k0 A0 r0 g1_0 s0_0 s0_1 r) 3
def zeB (a0 : Option Addr) (p0 q0 n0 k0 : Nat) (A0 : Nat → Insn) (r0 : (Int) × (Int)) (g1_0 : Nat → Bool) (s0_0 : Nat → BitVec 16) (s0_1 : Bool) : z5 → List L1 → List Obj
 | .e0 c0_0 c0_1 c0_2 c0_3,ls => [rowO (lget ls 0) (esG cB ((n0 : Int)).toNat g1_0) 4 ((n0 : Int)).toNat 1,rowO (lget ls 1) (esG cu16 ((n0 : Int)).toNat c0_0) 27 ((n0 : Int)).toNat 1,unb,unb]
def zmc : z5 → Ex
 | .e0 _ _ _ _ => (.exit 2)
theorem zma (r0 : (Int) × (Int)) (g1_0 : Nat → Bool) (s0_0 : Nat → BitVec 16) (s0_1 : Bool) (s : z3) (r : z5) (h : lpO (zbr n0 A0 g1_0) s = some r) : zdm Try.prog M B0 S (.loop zgQ) 4 (zlX a0 p0 q0 n0 k0 A0 r0 g1_0 s0_0 s0_1 s) (zl8 a0 p0 q0 n0 k0 A0 r0 g1_0 s0_0 s0_1 s) (zmc r) 3 (zgP a0 p0 q0 n0 k0 A0 r0 g1_0 s0_0 s0_1 r) (zeB a0 p0 q0 n0 k0 A0 r0 g1_0 s0_0 s0_1 r) 4 :=
 zb5 (fun s q e => by
  cases s with
  | c0 sb0_0 sb0_1 sb0_2 =>
   unfold zbr at e
   dsimp only at e
   replace e := za e
   rcases e with ⟨hq0,e⟩ | ⟨hq0,e⟩
   ·replace e := za e
    rcases e with ⟨hq1,e⟩ | ⟨hq1,e⟩
    ·replace e := za e
     let P1 : List (PG Try.prog M B0 S) := [.o,.b (zsk hq0),.o,.o,.q (zH (kd := .i64) (T := 64) (x := sb0_2) (N := ((n0 : Int)).toNat) (sz := 1) rfl (fun w => by kernel_rfl) hq1)]
     rcases e with ⟨hq2,e⟩ | ⟨hq2,e⟩
     ·cases e; exact zb hU (P1 ++ [.l (accG (i := 0) (f := cB) (A := g1_0) (k := (sb0_2).toNat) 0 [.bool true] zbc (ze hq1) (congrArg (fun b => [Value.bool b]) hq2)),.o,.o,.o]) [0,1,2] (fun b => rfl) (by decide) rfl rfl (fun b => by kernel_rfl)
     ·replace e := za e
      let P2 : List (PG Try.prog M B0 S) := P1 ++ [.l (accG (i := 0) (f := cB) (A := g1_0) (k := (sb0_2).toNat) 0 [.bool false] zbc (ze hq1) (congrArg (fun b => [Value.bool b]) hq2)),.o,.o]
      rcases e with ⟨hq3,e⟩ | ⟨hq3,e⟩
      ·replace e := zf e
       obtain ⟨rc0,e_rc0,e⟩ := e
       try dsimp only at e
       replace e := zf e
       obtain ⟨rc1,e_rc1,e⟩ := e
       try dsimp only at e
       replace e := zf e
       obtain ⟨rc2,e_rc2,e⟩ := e
       try dsimp only at e
       replace e := za e
       let P3 : List (PG Try.prog M B0 S) := P2 ++ [.q (zA (kd := .i64) (T := 22) (x := sb0_2) (sz := 5) rfl (fun w => by kernel_rfl) hR0 hq3),.l (zcm hR0 zj (ze hq3) 0 [.int .u8 (nn ((A0 (sb0_2).toNat)).fOp),.int .u8 (nn ((A0 (sb0_2).toNat)).fDst),.int .u8 (nn ((A0 (sb0_2).toNat)).fSrc),.int .i16 (ii ((A0 (sb0_2).toNat)).fOff),.int .i32 (ii ((A0 (sb0_2).toNat)).fImm)] rfl),.cg (zg4 hU ((A0 (sb0_2).toNat)) rc0 e_rc0),.o,.o,.o,.o,.o,.o,.o,.q (zA (kd := .i64) (T := 22) (x := sb0_2) (sz := 5) rfl (fun w => by kernel_rfl) hR0 hq3),.l (zcm hR0 zj (ze hq3) 0 [.int .u8 (nn ((A0 (sb0_2).toNat)).fOp),.int .u8 (nn ((A0 (sb0_2).toNat)).fDst),.int .u8 (nn ((A0 (sb0_2).toNat)).fSrc),.int .i16 (ii ((A0 (sb0_2).toNat)).fOff),.int .i32 (ii ((A0 (sb0_2).toNat)).fImm)] rfl),.cg (zjc hU ((A0 (sb0_2).toNat)) rc1 e_rc1),.o,.o,.o,.o,.o,.o,.o,.o,.o,.xg (SpcG.own hU (f := cu16) zc0 ((n0 : Int)).toNat sb0_0 27 (fun l => padL l ((n0 : Int)).toNat 1) (fun l => (padL l ((n0 : Int)).toNat 1).length / 1) _ 0 .normal (by intros; rfl) (by intros; rfl) (by intros; rfl) (fun M0 B0 S0 x0 u0 v0 z0 hU0 hs0 hr0 => ConG.sp (zcL hU0 a0 p0 q0 n0 k0 A0 (Ro.mono hR0 hs0) x0 u0 v0 ((n0 : Int)).toNat z0 sb0_0 hr0 sb0_2 rc2 e_rc2))) [1],.o,.v .u16 (zA3 rc2 rc1.1),.v .u16 (zml rc0.1 (rc2 &&& ~~~rc1.1)),.o,.o,.o,.o,.q (zH (kd := .i64) (T := 30) (x := sb0_2) (N := ((n0 : Int)).toNat) (sz := 1) rfl (fun w => by kernel_rfl) hq1),.l (accG (i := 1) (f := cu16) (A := sb0_0) (k := (sb0_2).toNat) 0 [.int .u16 (nn (sb0_0 (sb0_2).toNat))] zc0 (ze hq1) rfl)]
       rcases e with ⟨hq4,e⟩ | ⟨hq4,e⟩
       ·cases e; exact zb hU (P3 ++ [.tn (u_ne (rc0.1 ||| (rc2 &&& ~~~rc1.1)) (sb0_0 (sb0_2).toNat)) hq4,.o,.o,.o]) [0,1,2] (fun b => rfl) (by decide) rfl rfl (fun b => by kernel_rfl)
       ·cases e; exact zb hU (P3 ++ [.tn (u_ne (rc0.1 ||| (rc2 &&& ~~~rc1.1)) (sb0_0 (sb0_2).toNat)) hq4,.o,.o,.o,.q (zH (kd := .i64) (T := 30) (x := sb0_2) (N := ((n0 : Int)).toNat) (sz := 1) rfl (fun w => by kernel_rfl) hq1),.x (zd0 (T := 27) (e := 27) (f := cu16) (A := sb0_0) (v := (rc0.1 ||| (rc2 &&& ~~~rc1.1))) 0 (.int .u16 (nn (rc0.1 ||| (rc2 &&& ~~~rc1.1)))) zc0 zs1 rfl rfl (fun w => by kernel_rfl) (ze hq1)) [1],.o,.o,.o,.o]) [0,1,2] (fun b => rfl) (by decide) rfl rfl (fun b => by kernel_rfl)
      ·exact zd e
    ·exact zd e
   ·cases e; exact ⟨zcn 2,zb hU [.o,.b (zpX hq0)] [0,1,2] (fun b => rfl) (by decide) rfl rfl (fun b => by kernel_rfl)⟩) s r h
noncomputable def zfY (a0 : Option Addr) (p0 q0 n0 k0 : Nat) (A0 : Nat → Insn) (r0 : (Int) × (Int)) (g1_0 : Nat → Bool) (s0_0 : Nat → BitVec 16) (s0_1 : Bool) (sb0_0 : Nat → BitVec 16) (sb0_1 : Bool) (sb0_2 : Int) (ls : List L1) : List Value := List.append [.slice a0 n0 (n0 + k0),((lget ls 2).u 1),.slice none 0 0,.int .i64 (0),((lget ls 2).u 4),((lget ls 2).u 5),(rowV (lget ls 0) ((n0 : Int)).toNat 1),(rowV (lget ls 1) ((n0 : Int)).toNat 1),.bool (sb0_1),.int .i64 (sb0_2)] (List.append (jks (lget ls 2).u 10 18) (List.append [.bool true,.slice a0 n0 (n0 + k0),.int .i64 ((n0 : Int)),.int .i64 ((IntKind.i64.wrap ((n0 : Int) - 1)))] (jks (lget ls 2).u 32 43)))
def zfE (a0 : Option Addr) (p0 q0 n0 k0 : Nat) (A0 : Nat → Insn) (r0 : (Int) × (Int)) (g1_0 : Nat → Bool) (s0_0 : Nat → BitVec 16) (s0_1 : Bool) (sb0_0 : Nat → BitVec 16) (sb0_1 : Bool) (sb0_2 : Int) (ls : List L1) : List Obj := [rowO (lget ls 0) (esG cB ((n0 : Int)).toNat g1_0) 4 ((n0 : Int)).toNat 1,rowO (lget ls 1) (esG cu16 ((n0 : Int)).toNat sb0_0) 27 ((n0 : Int)).toNat 1,unb]
theorem ziD (r0 : (Int) × (Int)) (g1_0 : Nat → Bool) (s0_0 : Nat → BitVec 16) (s0_1 : Bool) (sb0_0 : Nat → BitVec 16) (sb0_1 : Bool) (sb0_2 : Int) (c0_0 : Nat → BitVec 16) (c0_1 : Bool) (c0_2 : Int) (c0_3 : Int) (h : lpO (zbr n0 A0 g1_0) (.c0 sb0_0 sb0_1 sb0_2) = some (.e0 c0_0 c0_1 c0_2 c0_3)) : SpcG Try.prog M B0 S ⟨fun ls => .code (.loop zgQ) (zfY a0 p0 q0 n0 k0 A0 r0 g1_0 s0_0 s0_1 sb0_0 sb0_1 sb0_2 ls),zfE a0 p0 q0 n0 k0 A0 r0 g1_0 s0_0 s0_1 sb0_0 sb0_1 sb0_2,1,(.exit 2),fun ls => zgP a0 p0 q0 n0 k0 A0 r0 g1_0 s0_0 s0_1 (.e0 c0_0 c0_1 c0_2 c0_3) (ls.take 3 ++ ls.drop 3),fun ls => (zeB a0 p0 q0 n0 k0 A0 r0 g1_0 s0_0 s0_1 (.e0 c0_0 c0_1 c0_2 c0_3) (ls.take 3 ++ ls.drop 3)).take 3 ++ List.replicate 0 unb,fun ls => (zeB a0 p0 q0 n0 k0 A0 r0 g1_0 s0_0 s0_1 (.e0 c0_0 c0_1 c0_2 c0_3) (ls.take 3 ++ ls.drop 3)).drop 3⟩ :=
 zr hU 0 (k0 := 3) (zma hU a0 p0 q0 n0 k0 A0 hR0 r0 g1_0 s0_0 s0_1 _ _ h) (zfY a0 p0 q0 n0 k0 A0 r0 g1_0 s0_0 s0_1 sb0_0 sb0_1 sb0_2) (zfE a0 p0 q0 n0 k0 A0 r0 g1_0 s0_0 s0_1 sb0_0 sb0_1 sb0_2) (fun _ => rfl) (fun ls h => by match ls,h with | [l0,l1,l2],_ => exact ⟨by kernel_rfl,by kernel_rfl⟩) (fun ls h => by match ls,h with | [l0,l1,l2],_ => rfl) (by decide) (by decide) (fun ls => rfl)
inductive zci where
 | c0 (s0_0 : Nat → BitVec 16) (s0_1 : Bool)
inductive zcl where
 | e0 (c0_0 : Nat → BitVec 16)
noncomputable def zbo (n0 : Nat) (A0 : Nat → Insn) (g1_0 : Nat → Bool) : zci → Option (zci ⊕ zcl)
 | .c0 s0_0 s0_1 =>
 bif s0_1 then
 ((lpO (zbr n0 A0 g1_0) (.c0 s0_0 false (IntKind.i64.wrap ((n0 : Int) - 1)))).bind fun gb0 => match gb0 with
 | .e0 gb0_0 gb0_1 gb0_2 gb0_3 =>
 some (.inl (.c0 gb0_0 gb0_1)))
 else (some (.inr (.e0 s0_0)))
noncomputable def ziH : Code := zb6 Try.f10 [1,1,1,1,1,0,1,0,0]
def zps (a0 : Option Addr) (p0 q0 n0 k0 : Nat) (A0 : Nat → Insn) (r0 : (Int) × (Int)) (g1_0 : Nat → Bool) : zci → List L1 → List Value
 | .c0 s0_0 s0_1,ls => [.slice a0 n0 (n0 + k0),.slice none 0 0,.int .i64 (0),(rowV (lget ls 0) ((n0 : Int)).toNat 1),(rowV (lget ls 1) ((n0 : Int)).toNat 1),.bool (s0_1)]
def zpd : zci → List (Nat × Nat)
 | .c0 _ _ => [(1,1),(2,2),(3,66)]
noncomputable def zpk (a0 : Option Addr) (p0 q0 n0 k0 : Nat) (A0 : Nat → Insn) (r0 : (Int) × (Int)) (g1_0 : Nat → Bool) (s : zci) : List L1 → List Value := mrgF (zpd s) (zps a0 p0 q0 n0 k0 A0 r0 g1_0 s) 2
def zpW (a0 : Option Addr) (p0 q0 n0 k0 : Nat) (A0 : Nat → Insn) (r0 : (Int) × (Int)) (g1_0 : Nat → Bool) : zci → List L1 → List Obj
 | .c0 s0_0 s0_1,ls => [rowO (lget ls 0) (esG cB ((n0 : Int)).toNat g1_0) 4 ((n0 : Int)).toNat 1,rowO (lget ls 1) (esG cu16 ((n0 : Int)).toNat s0_0) 27 ((n0 : Int)).toNat 1,unb]
def zpj (a0 : Option Addr) (p0 q0 n0 k0 : Nat) (A0 : Nat → Insn) (r0 : (Int) × (Int)) (g1_0 : Nat → Bool) : zcl → List L1 → List Value
 | .e0 c0_0,ls => [.slice a0 n0 (n0 + k0),.slice none 0 0,.int .i64 (0),(rowV (lget ls 0) ((n0 : Int)).toNat 1),(rowV (lget ls 1) ((n0 : Int)).toNat 1)]
def zpV : zcl → List (Nat × Nat)
 | .e0 _ => [(1,1),(2,2),(2,67)]
noncomputable def ziR (a0 : Option Addr) (p0 q0 n0 k0 : Nat) (A0 : Nat → Insn) (r0 : (Int) × (Int)) (g1_0 : Nat → Bool) (r : zcl) : List L1 → List Value := mrgF (zpV r) (zpj a0 p0 q0 n0 k0 A0 r0 g1_0 r) 2
def zf2 (a0 : Option Addr) (p0 q0 n0 k0 : Nat) (A0 : Nat → Insn) (r0 : (Int) × (Int)) (g1_0 : Nat → Bool) : zcl → List L1 → List Obj
 | .e0 c0_0,ls => [rowO (lget ls 0) (esG cB ((n0 : Int)).toNat g1_0) 4 ((n0 : Int)).toNat 1,rowO (lget ls 1) (esG cu16 ((n0 : Int)).toNat c0_0) 27 ((n0 : Int)).toNat 1,unb]
def zo7 : zcl → Ex
 | .e0 _ => (.exit 0)
theorem zpz (r0 : (Int) × (Int)) (g1_0 : Nat → Bool) (s : zci) (r : zcl) (h : lpO (zbo n0 A0 g1_0) s = some r) : zdm Try.prog M B0 S (.loop ziH) 3 (zpk a0 p0 q0 n0 k0 A0 r0 g1_0 s) (zpW a0 p0 q0 n0 k0 A0 r0 g1_0 s) (zo7 r) 2 (ziR a0 p0 q0 n0 k0 A0 r0 g1_0 r) (zf2 a0 p0 q0 n0 k0 A0 r0 g1_0 r) 3 :=
 zb5 (fun s q e => by
  cases s with
  | c0 s0_0 s0_1 =>
   unfold zbo at e
   dsimp only at e
   replace e := za e
   rcases e with ⟨hq0,e⟩ | ⟨hq0,e⟩
   ·replace e := zf e
    obtain ⟨gb0,e_gb0,e⟩ := e
    obtain ⟨gb0_0,gb0_1,gb0_2,gb0_3⟩ := gb0
    try dsimp only at e
    cases e; exact zb hU [.b hq0,.o,.o,.o,.o,.o,.cp,.cx (ziD hU a0 p0 q0 n0 k0 A0 hR0 r0 g1_0 s0_0 s0_1 s0_0 false (IntKind.i64.wrap ((n0 : Int) - 1)) gb0_0 gb0_1 gb0_2 gb0_3 e_gb0) [0,1,2]] [0,1] (fun b => rfl) (by decide) rfl rfl (fun b => by kernel_rfl)
   ·cases e; exact ⟨zcn 0,zb hU [.b hq0] [0,1] (fun b => rfl) (by decide) rfl rfl (fun b => by kernel_rfl)⟩) s r h
noncomputable def zic (a0 : Option Addr) (p0 q0 n0 k0 : Nat) (A0 : Nat → Insn) (r0 : (Int) × (Int)) (g1_0 : Nat → Bool) (s0_0 : Nat → BitVec 16) (s0_1 : Bool) (ls : List L1) : List Value := List.append [.slice a0 n0 (n0 + k0),undef,.slice none 0 0,.int .i64 (0),.int .i64 (r0.1),.int .i64 (r0.2),(rowV (lget ls 0) ((n0 : Int)).toNat 1),(rowV (lget ls 1) ((n0 : Int)).toNat 1),.bool (s0_1)] (List.append (und 6) (List.append [.tuple #[.int .i64 (r0.1),.int .i64 (r0.2)],.slice a0 n0 (n0 + k0),.tuple #[.int .i64 (r0.1),.int .i64 (r0.2)],.int .i64 (r0.1),.int .i64 (r0.2),.int .i64 (r0.2),.bool false,undef,.slice a0 n0 (n0 + k0),(rowV (lget ls 0) ((n0 : Int)).toNat 1),.slice a0 n0 (n0 + k0),.int .i64 ((n0 : Int)),(rowV (lget ls 1) ((n0 : Int)).toNat 1)] (und 47)))
def zhE (a0 : Option Addr) (p0 q0 n0 k0 : Nat) (A0 : Nat → Insn) (r0 : (Int) × (Int)) (g1_0 : Nat → Bool) (s0_0 : Nat → BitVec 16) (s0_1 : Bool) (ls : List L1) : List Obj := [rowO (lget ls 0) (esG cB ((n0 : Int)).toNat g1_0) 4 ((n0 : Int)).toNat 1,rowO (lget ls 1) (esG cu16 ((n0 : Int)).toNat s0_0) 27 ((n0 : Int)).toNat 1]
theorem zlp (r0 : (Int) × (Int)) (g1_0 : Nat → Bool) (s0_0 : Nat → BitVec 16) (s0_1 : Bool) (c0_0 : Nat → BitVec 16) (h : lpO (zbo n0 A0 g1_0) (.c0 s0_0 s0_1) = some (.e0 c0_0)) : SpcG Try.prog M B0 S ⟨fun ls => .code (.loop ziH) (zic a0 p0 q0 n0 k0 A0 r0 g1_0 s0_0 s0_1 ls),zhE a0 p0 q0 n0 k0 A0 r0 g1_0 s0_0 s0_1,1,(.exit 0),fun ls => ziR a0 p0 q0 n0 k0 A0 r0 g1_0 (.e0 c0_0) (ls.take 2 ++ ls.drop 2),fun ls => (zf2 a0 p0 q0 n0 k0 A0 r0 g1_0 (.e0 c0_0) (ls.take 2 ++ ls.drop 2)).take 2 ++ List.replicate 0 unb,fun ls => (zf2 a0 p0 q0 n0 k0 A0 r0 g1_0 (.e0 c0_0) (ls.take 2 ++ ls.drop 2)).drop 2⟩ :=
 zr hU 0 (k0 := 2) (zpz hU a0 p0 q0 n0 k0 A0 hR0 r0 g1_0 _ _ h) (zic a0 p0 q0 n0 k0 A0 r0 g1_0 s0_0 s0_1) (zhE a0 p0 q0 n0 k0 A0 r0 g1_0 s0_0 s0_1) (fun _ => rfl) (fun ls h => by match ls,h with | [l0,l1],_ => exact ⟨by kernel_rfl,by kernel_rfl⟩) (fun ls h => by match ls,h with | [l0,l1],_ => rfl) (by decide) (by decide) (fun ls => rfl)
inductive ztl where
 | e0 (c0_0 : Nat → BitVec 16)
 | e1 (c1_0 : Int)
noncomputable def zbx (n0 : Nat) (A0 : Nat → Insn) : Option ztl :=
 (zcQ n0 A0).bind fun r0 =>
 bif r0.2 == 0 then
 ((zb9 n0 A0).bind fun g1 => match g1 with
 | .e0 g1_0 =>
 bif inR (n0 : Int) 1000001 then
 ((lpO (zbo n0 A0 g1_0) (.c0 (fun _ => 0#16) true)).bind fun g2 => match g2 with
 | .e0 g2_0 =>
 some (.e0 g2_0))
 else (none))
 else (some (.e1 r0.2))
def zr1 (a0 : Option Addr) (p0 q0 n0 k0 : Nat) (A0 : Nat → Insn) (c0_0 : Nat → BitVec 16) : Spc := ⟨fun ls => .call 10 #[.slice a0 n0 (n0 + k0)],fun ls => [],1,.normal,fun ls => [.tuple #[(rowV (lget ls 0) ((n0 : Int)).toNat 1),.int .i64 (0)]],fun ls => [],fun ls => [rowO (lget ls 0) (esG cu16 ((n0 : Int)).toNat c0_0) 27 ((n0 : Int)).toNat 1]⟩
def zrx (a0 : Option Addr) (p0 q0 n0 k0 : Nat) (A0 : Nat → Insn) (c1_0 : Int) : Spc := ⟨fun ls => .call 10 #[.slice a0 n0 (n0 + k0)],fun ls => [],0,.normal,fun ls => [.tuple #[.slice none 0 0,.int .i64 (c1_0)]],fun ls => [],fun ls => []⟩
theorem zg5 (c0_0 : Nat → BitVec 16) (e : zbx n0 A0 = some (.e0 c0_0)) : SpcG Try.prog M B0 S (zr1 a0 p0 q0 n0 k0 A0 c0_0) := by
 unfold zbx at e
 replace e := zf e
 obtain ⟨r0,e_r0,e⟩ := e
 try dsimp only at e
 replace e := za e
 rcases e with ⟨hq0,e⟩ | ⟨hq0,e⟩
 ·replace e := zf e
  obtain ⟨g1,e_g1,e⟩ := e
  obtain ⟨g1_0⟩ := g1
  try dsimp only at e
  replace e := za e
  rcases e with ⟨hq1,e⟩ | ⟨hq1,e⟩
  ·replace e := zf e
   obtain ⟨g2,e_g2,e⟩ := e
   obtain ⟨g2_0⟩ := g2
   try dsimp only at e
   injection e with e; injection e with i0; subst i0; exact zo hU (P := Try.prog) Try.func10 (fun xs w => by kernel_rfl) 0 _ _ (fun _ => rfl) _ _ _ [1] [.o,.o,.o,.cg (zkJ hU a0 p0 q0 n0 k0 A0 hR0 r0 e_r0),.o,.o,.o,.o,.o,.o,.b (zdq hq0),.o,.xg (zc1 hU a0 p0 q0 n0 k0 A0 hR0 g1_0 e_g1) [],.o,.o,.o,.x (zs4 rt30 (f := cu16) (x := (n0 : Int)) (a0 := 0#16) zc0 (by kernel_rfl) hq1 (by decide)) [],.o,.o,.cp,.cx (zlp hU a0 p0 q0 n0 k0 A0 hR0 r0 g1_0 (fun _ => 0#16) true g2_0 e_g2) [0,1],.o,.o,.o] [] (fun b => by kernel_rfl)
  ·exact zd e
 ·cases e
theorem zjY (c1_0 : Int) (e : zbx n0 A0 = some (.e1 c1_0)) : SpcG Try.prog M B0 S (zrx a0 p0 q0 n0 k0 A0 c1_0) := by
 unfold zbx at e
 replace e := zf e
 obtain ⟨r0,e_r0,e⟩ := e
 try dsimp only at e
 replace e := za e
 rcases e with ⟨hq0,e⟩ | ⟨hq0,e⟩
 ·replace e := zf e
  obtain ⟨g1,e_g1,e⟩ := e
  obtain ⟨g1_0⟩ := g1
  try dsimp only at e
  replace e := za e
  rcases e with ⟨hq1,e⟩ | ⟨hq1,e⟩
  ·replace e := zf e
   obtain ⟨g2,e_g2,e⟩ := e
   obtain ⟨g2_0⟩ := g2
   try dsimp only at e
   cases e
  ·exact zd e
 ·injection e with e; injection e with i0; subst i0; exact zo hU (P := Try.prog) Try.func10 (fun xs w => by kernel_rfl) 0 _ _ (fun _ => rfl) _ _ _ [] [.o,.o,.o,.cg (zkJ hU a0 p0 q0 n0 k0 A0 hR0 r0 e_r0),.o,.o,.o,.o,.o,.o,.b (zdU hq0),.o,.o,.o] [] (fun b => by kernel_rfl)
inductive zbN where
 | e0 (c0_0 : Bool) (c0_1 : Bool) (c0_2 : Bool) (c0_3 : Bool) (c0_4 : Bool)
noncomputable def zcb (n0 : Nat) (A0 : Nat → Insn) (g0_0 : Nat → BitVec 16) (g1_0 : Nat → Bool) (s0_0 : Int) (rb0 : Int) : Option (zbN) :=
 bif inR s0_0 ((n0 : Int)).toNat then
 (bif (g1_0 (s0_0).toNat) then
 (bif rb0 == 4 then
 (bif inR s0_0 n0 then
 ((zbe n0 A0 ((n0 : Int)).toNat g0_0 s0_0).bind fun rc0 =>
 zv (zl ((A0 (s0_0).toNat)).fDst) fun rc1 =>
 bif (rc0 &&& rc1) == 0#16 then
 (some (.e0 true true true true true))
 else (some (.e0 true true true true false)))
 else (none))
 else (bif rb0 == 7 then
 (bif inR s0_0 n0 then
 ((zbe n0 A0 ((n0 : Int)).toNat g0_0 s0_0).bind fun rc0 =>
 zv (zl ((A0 (s0_0).toNat)).fDst) fun rc1 =>
 bif (rc0 &&& rc1) == 0#16 then
 (some (.e0 true true true true true))
 else (some (.e0 true true true true false)))
 else (none))
 else (bif rb0 == 0 then
 (bif inR s0_0 n0 then
 ((zbe n0 A0 ((n0 : Int)).toNat g0_0 s0_0).bind fun rc0 =>
 zv (zl ((A0 (s0_0).toNat)).fDst) fun rc1 =>
 bif (rc0 &&& rc1) == 0#16 then
 (some (.e0 true true true true true))
 else (some (.e0 true true true true false)))
 else (none))
 else (some (.e0 true true false false false)))))
 else (some (.e0 false false false false false)))
 else (none)
noncomputable def zhG : Code := zb6 Try.f12 [1,1,1,1,1,0,1,0,0,1,0,0,1,0]
def zm0 (a0 : Option Addr) (p0 q0 n0 k0 : Nat) (A0 : Nat → Insn) (g0_0 : Nat → BitVec 16) (g1_0 : Nat → Bool) (s0_0 : Int) (rb0 : Int) (ls : List L1) : List Value := [.slice a0 n0 (n0 + k0),.slice none 0 0,.int .i64 (0),(rowV (lget ls 0) ((n0 : Int)).toNat 1),(rowV (lget ls 1) ((n0 : Int)).toNat 1),.slice none 0 0,.int .i64 (s0_0),.int .i64 (rb0),.int .i64 (s0_0),.slice a0 n0 (n0 + k0),.int .i64 ((n0 : Int)),.bool true,.slice a0 n0 (n0 + k0),.int .i64 (s0_0),.pointer (some ⟨p0,q0 + (s0_0).toNat * 5,none⟩),.agg #[.int .u8 (nn ((A0 (s0_0).toNat)).fOp),.int .u8 (nn ((A0 (s0_0).toNat)).fDst),.int .u8 (nn ((A0 (s0_0).toNat)).fSrc),.int .i16 (ii ((A0 (s0_0).toNat)).fOff),.int .i32 (ii ((A0 (s0_0).toNat)).fImm)],.int .i64 (rb0)]
noncomputable def zn3 (a0 : Option Addr) (p0 q0 n0 k0 : Nat) (A0 : Nat → Insn) (g0_0 : Nat → BitVec 16) (g1_0 : Nat → Bool) (s0_0 : Int) (rb0 : Int) : List L1 → List Value := mrgF [(1,1),(3,1),(4,10),(4,2),(5,35)] (zm0 a0 p0 q0 n0 k0 A0 g0_0 g1_0 s0_0 rb0) 4
def znl (a0 : Option Addr) (p0 q0 n0 k0 : Nat) (A0 : Nat → Insn) (g0_0 : Nat → BitVec 16) (g1_0 : Nat → Bool) (s0_0 : Int) (rb0 : Int) (ls : List L1) : List Obj := [rowO (lget ls 0) (esG cu16 ((n0 : Int)).toNat g0_0) 27 ((n0 : Int)).toNat 1,rowO (lget ls 1) (esG cB ((n0 : Int)).toNat g1_0) 4 ((n0 : Int)).toNat 1,unb,unb,unb]
def znd (a0 : Option Addr) (p0 q0 n0 k0 : Nat) (A0 : Nat → Insn) (g0_0 : Nat → BitVec 16) (g1_0 : Nat → Bool) (s0_0 : Int) (rb0 : Int) : zbN → List L1 → List Value
 | .e0 c0_0 c0_1 c0_2 c0_3 c0_4,ls => [.slice a0 n0 (n0 + k0),.slice none 0 0,.int .i64 (0),(rowV (lget ls 0) ((n0 : Int)).toNat 1),(rowV (lget ls 1) ((n0 : Int)).toNat 1),.slice none 0 0,.int .i64 (s0_0),.int .i64 (rb0),.int .i64 (s0_0),.slice a0 n0 (n0 + k0),.int .i64 ((n0 : Int)),.bool true,.slice a0 n0 (n0 + k0),.int .i64 (s0_0),.pointer (some ⟨p0,q0 + (s0_0).toNat * 5,none⟩),.agg #[.int .u8 (nn ((A0 (s0_0).toNat)).fOp),.int .u8 (nn ((A0 (s0_0).toNat)).fDst),.int .u8 (nn ((A0 (s0_0).toNat)).fSrc),.int .i16 (ii ((A0 (s0_0).toNat)).fOff),.int .i32 (ii ((A0 (s0_0).toNat)).fImm)],.int .i64 (rb0),(rowV (lget ls 1) ((n0 : Int)).toNat 1),.int .i64 (s0_0),.bool (c0_0),.bool (c0_1),.bool (c0_2),.bool (c0_3),.bool (c0_4)]
def znz : zbN → List (Nat × Nat)
 | .e0 _ _ _ _ _ => [(1,1),(3,1),(4,10),(4,2),(7,1),(2,10),(2,12),(1,5)]
noncomputable def zhQ (a0 : Option Addr) (p0 q0 n0 k0 : Nat) (A0 : Nat → Insn) (g0_0 : Nat → BitVec 16) (g1_0 : Nat → Bool) (s0_0 : Int) (rb0 : Int) (r : zbN) : List L1 → List Value := mrgF (znz r) (znd a0 p0 q0 n0 k0 A0 g0_0 g1_0 s0_0 rb0 r) 4
def zhz (a0 : Option Addr) (p0 q0 n0 k0 : Nat) (A0 : Nat → Insn) (g0_0 : Nat → BitVec 16) (g1_0 : Nat → Bool) (s0_0 : Int) (rb0 : Int) : zbN → List L1 → List Obj
 | .e0 c0_0 c0_1 c0_2 c0_3 c0_4,ls => [rowO (lget ls 0) (esG cu16 ((n0 : Int)).toNat g0_0) 27 ((n0 : Int)).toNat 1,rowO (lget ls 1) (esG cB ((n0 : Int)).toNat g1_0) 4 ((n0 : Int)).toNat 1,unb,unb,unb]
def znc : zbN → Ex
 | .e0 _ _ _ _ _ => .normal
theorem znG (g0_0 : Nat → BitVec 16) (g1_0 : Nat → Bool) (s0_0 : Int) (rb0 : Int) (r : zbN) (e : zcb n0 A0 g0_0 g1_0 s0_0 rb0 = some r) : zdm Try.prog M B0 S zhG 5 (zn3 a0 p0 q0 n0 k0 A0 g0_0 g1_0 s0_0 rb0) (znl a0 p0 q0 n0 k0 A0 g0_0 g1_0 s0_0 rb0) (znc r) 4 (zhQ a0 p0 q0 n0 k0 A0 g0_0 g1_0 s0_0 rb0 r) (zhz a0 p0 q0 n0 k0 A0 g0_0 g1_0 s0_0 rb0 r) 5 := by
 unfold zcb at e
 replace e := za e
 let P1 : List (PG Try.prog M B0 S) := [.r [0,1,2,3,4,5,6,7,8,9,10,11,12,13,14,15,16,17,18,19,21,22,23,24,25] [] [20,26,27,28,29],.o,.o]
 rcases e with ⟨hq0,e⟩ | ⟨hq0,e⟩
 ·replace e := za e
  let P2 : List (PG Try.prog M B0 S) := P1 ++ [.q (zH (kd := .i64) (T := 64) (x := s0_0) (N := ((n0 : Int)).toNat) (sz := 1) rfl (fun w => by kernel_rfl) hq0)]
  rcases e with ⟨hq1,e⟩ | ⟨hq1,e⟩
  ·replace e := za e
   let P3 : List (PG Try.prog M B0 S) := P2 ++ [.l (accG (i := 1) (f := cB) (A := g1_0) (k := (s0_0).toNat) 0 [.bool true] zbc (ze hq0) (congrArg (fun b => [Value.bool b]) hq1)),.o,.o]
   rcases e with ⟨hq2,e⟩ | ⟨hq2,e⟩
   ·replace e := za e
    rcases e with ⟨hq3,e⟩ | ⟨hq3,e⟩
    ·replace e := zf e
     obtain ⟨rc0,e_rc0,e⟩ := e
     try dsimp only at e
     replace e := zg e
     obtain ⟨rc1,e_rc1,e⟩ := e
     try dsimp only at e
     replace e := za e
     let P4 : List (PG Try.prog M B0 S) := P3 ++ [.b (zO hq2),.o,.o,.o,.o,.o,.o,.o,.o,.o,.o,.o,.q (zA (kd := .i64) (T := 22) (x := s0_0) (sz := 5) rfl (fun w => by kernel_rfl) hR0 hq3),.o,.l (zcm hR0 zj (ze hq3) 1 [.int .u8 (nn ((A0 (s0_0).toNat)).fDst)] rfl),.xg (SpcG.own hU (f := cu16) zc0 ((n0 : Int)).toNat g0_0 27 (fun l => padL l ((n0 : Int)).toNat 1) (fun l => (padL l ((n0 : Int)).toNat 1).length / 1) _ 0 .normal (by intros; rfl) (by intros; rfl) (by intros; rfl) (fun M0 B0 S0 x0 u0 v0 z0 hU0 hs0 hr0 => ConG.sp (zcL hU0 a0 p0 q0 n0 k0 A0 (Ro.mono hR0 hs0) x0 u0 v0 ((n0 : Int)).toNat z0 g0_0 hr0 s0_0 rc0 e_rc0))) [0],.cg (zq hU ((A0 (s0_0).toNat)).fDst rc1 e_rc1),.v .u16 (zsS rc0 rc1)]
     rcases e with ⟨hq4,e⟩ | ⟨hq4,e⟩
     ·cases e; exact zb hU (P4 ++ [.t (u_eq (rc0 &&& rc1) (0#16)) hq4,.o]) [0,1,2,3] (fun b => rfl) (by decide) rfl rfl (fun b => by kernel_rfl)
     ·cases e; exact zb hU (P4 ++ [.t (u_eq (rc0 &&& rc1) (0#16)) hq4,.o]) [0,1,2,3] (fun b => rfl) (by decide) rfl rfl (fun b => by kernel_rfl)
    ·exact zd e
   ·replace e := za e
    let P5 : List (PG Try.prog M B0 S) := P3 ++ [.b (zF hq2),.o,.o]
    rcases e with ⟨hq3,e⟩ | ⟨hq3,e⟩
    ·replace e := za e
     rcases e with ⟨hq4,e⟩ | ⟨hq4,e⟩
     ·replace e := zf e
      obtain ⟨rc0,e_rc0,e⟩ := e
      try dsimp only at e
      replace e := zg e
      obtain ⟨rc1,e_rc1,e⟩ := e
      try dsimp only at e
      replace e := za e
      let P6 : List (PG Try.prog M B0 S) := P5 ++ [.b (zO hq3),.o,.o,.o,.o,.o,.o,.o,.o,.o,.o,.q (zA (kd := .i64) (T := 22) (x := s0_0) (sz := 5) rfl (fun w => by kernel_rfl) hR0 hq4),.o,.l (zcm hR0 zj (ze hq4) 1 [.int .u8 (nn ((A0 (s0_0).toNat)).fDst)] rfl),.xg (SpcG.own hU (f := cu16) zc0 ((n0 : Int)).toNat g0_0 27 (fun l => padL l ((n0 : Int)).toNat 1) (fun l => (padL l ((n0 : Int)).toNat 1).length / 1) _ 0 .normal (by intros; rfl) (by intros; rfl) (by intros; rfl) (fun M0 B0 S0 x0 u0 v0 z0 hU0 hs0 hr0 => ConG.sp (zcL hU0 a0 p0 q0 n0 k0 A0 (Ro.mono hR0 hs0) x0 u0 v0 ((n0 : Int)).toNat z0 g0_0 hr0 s0_0 rc0 e_rc0))) [0],.cg (zq hU ((A0 (s0_0).toNat)).fDst rc1 e_rc1),.v .u16 (zsS rc0 rc1)]
      rcases e with ⟨hq5,e⟩ | ⟨hq5,e⟩
      ·cases e; exact zb hU (P6 ++ [.t (u_eq (rc0 &&& rc1) (0#16)) hq5,.o]) [0,1,2,3] (fun b => rfl) (by decide) rfl rfl (fun b => by kernel_rfl)
      ·cases e; exact zb hU (P6 ++ [.t (u_eq (rc0 &&& rc1) (0#16)) hq5,.o]) [0,1,2,3] (fun b => rfl) (by decide) rfl rfl (fun b => by kernel_rfl)
     ·exact zd e
    ·replace e := za e
     rcases e with ⟨hq4,e⟩ | ⟨hq4,e⟩
     ·replace e := za e
      rcases e with ⟨hq5,e⟩ | ⟨hq5,e⟩
      ·replace e := zf e
       obtain ⟨rc0,e_rc0,e⟩ := e
       try dsimp only at e
       replace e := zg e
       obtain ⟨rc1,e_rc1,e⟩ := e
       try dsimp only at e
       replace e := za e
       let P7 : List (PG Try.prog M B0 S) := P5 ++ [.b (zF hq3),.o,.o,.o,.b (zO hq4),.o,.o,.o,.o,.o,.o,.o,.o,.q (zA (kd := .i64) (T := 22) (x := s0_0) (sz := 5) rfl (fun w => by kernel_rfl) hR0 hq5),.o,.l (zcm hR0 zj (ze hq5) 1 [.int .u8 (nn ((A0 (s0_0).toNat)).fDst)] rfl),.xg (SpcG.own hU (f := cu16) zc0 ((n0 : Int)).toNat g0_0 27 (fun l => padL l ((n0 : Int)).toNat 1) (fun l => (padL l ((n0 : Int)).toNat 1).length / 1) _ 0 .normal (by intros; rfl) (by intros; rfl) (by intros; rfl) (fun M0 B0 S0 x0 u0 v0 z0 hU0 hs0 hr0 => ConG.sp (zcL hU0 a0 p0 q0 n0 k0 A0 (Ro.mono hR0 hs0) x0 u0 v0 ((n0 : Int)).toNat z0 g0_0 hr0 s0_0 rc0 e_rc0))) [0],.cg (zq hU ((A0 (s0_0).toNat)).fDst rc1 e_rc1),.v .u16 (zsS rc0 rc1)]
       rcases e with ⟨hq6,e⟩ | ⟨hq6,e⟩
       ·cases e; exact zb hU (P7 ++ [.t (u_eq (rc0 &&& rc1) (0#16)) hq6,.o]) [0,1,2,3] (fun b => rfl) (by decide) rfl rfl (fun b => by kernel_rfl)
       ·cases e; exact zb hU (P7 ++ [.t (u_eq (rc0 &&& rc1) (0#16)) hq6,.o]) [0,1,2,3] (fun b => rfl) (by decide) rfl rfl (fun b => by kernel_rfl)
      ·exact zd e
     ·cases e; exact zb hU (P5 ++ [.b (zF hq3),.o,.o,.o,.b (zF hq4),.o,.o,.o,.o]) [0,1,2,3] (fun b => rfl) (by decide) rfl rfl (fun b => by kernel_rfl)
  ·cases e; exact zb hU (P2 ++ [.l (accG (i := 1) (f := cB) (A := g1_0) (k := (s0_0).toNat) 0 [.bool false] zbc (ze hq0) (congrArg (fun b => [Value.bool b]) hq1)),.o,.o,.o,.o]) [0,1,2,3] (fun b => rfl) (by decide) rfl rfl (fun b => by kernel_rfl)
 ·exact zd e
def zmv (a0 : Option Addr) (p0 q0 n0 k0 : Nat) (A0 : Nat → Insn) (g0_0 : Nat → BitVec 16) (g1_0 : Nat → Bool) (s0_0 : Int) (rb0 : Int) (ls : List L1) : List Obj := [rowO (lget ls 0) (esG cu16 ((n0 : Int)).toNat g0_0) 27 ((n0 : Int)).toNat 1,rowO (lget ls 1) (esG cB ((n0 : Int)).toNat g1_0) 4 ((n0 : Int)).toNat 1,unb,unb]
noncomputable def znR (a0 : Option Addr) (p0 q0 n0 k0 : Nat) (A0 : Nat → Insn) (g0_0 : Nat → BitVec 16) (g1_0 : Nat → Bool) (s0_0 : Int) (rb0 : Int) (ls : List L1) : List Value := List.append [.slice a0 n0 (n0 + k0),((lget ls 3).u 1),.slice none 0 0,.int .i64 (0),(rowV (lget ls 0) ((n0 : Int)).toNat 1),((lget ls 3).u 5),(rowV (lget ls 1) ((n0 : Int)).toNat 1),.slice none 0 0,.int .i64 (s0_0),.int .i64 (rb0)] (List.append (jks (lget ls 3).u 10 10) (List.append [.int .i64 (s0_0),.slice a0 n0 (n0 + k0),.int .i64 ((n0 : Int)),.bool true,((lget ls 3).u 24),((lget ls 3).u 25),.slice a0 n0 (n0 + k0),.int .i64 (s0_0),.pointer (some ⟨p0,q0 + (s0_0).toNat * 5,none⟩),.agg #[.int .u8 (nn ((A0 (s0_0).toNat)).fOp),.int .u8 (nn ((A0 (s0_0).toNat)).fDst),.int .u8 (nn ((A0 (s0_0).toNat)).fSrc),.int .i16 (ii ((A0 (s0_0).toNat)).fOff),.int .i32 (ii ((A0 (s0_0).toNat)).fImm)],.int .i64 (rb0)] (jks (lget ls 3).u 31 35)))
theorem zfQ (g0_0 : Nat → BitVec 16) (g1_0 : Nat → Bool) (s0_0 : Int) (rb0 : Int) (c0_0 : Bool) (c0_1 : Bool) (c0_2 : Bool) (c0_3 : Bool) (c0_4 : Bool) (h : zcb n0 A0 g0_0 g1_0 s0_0 rb0 = some (.e0 c0_0 c0_1 c0_2 c0_3 c0_4)) : SpcG Try.prog M B0 S (spcJ zhG (znR a0 p0 q0 n0 k0 A0 g0_0 g1_0 s0_0 rb0) (zmv a0 p0 q0 n0 k0 A0 g0_0 g1_0 s0_0 rb0) 4 0 .normal (zhQ a0 p0 q0 n0 k0 A0 g0_0 g1_0 s0_0 rb0 (.e0 c0_0 c0_1 c0_2 c0_3 c0_4)) (zhz a0 p0 q0 n0 k0 A0 g0_0 g1_0 s0_0 rb0 (.e0 c0_0 c0_1 c0_2 c0_3 c0_4))) :=
 zei hU (znG hU a0 p0 q0 n0 k0 A0 hR0 g0_0 g1_0 s0_0 rb0 _ h) (fun _ => rfl) (fun ls h => by match ls,h with | [l0,l1,l2,l3],_ => exact ⟨by kernel_rfl,by kernel_rfl⟩) (fun ls h => by match ls,h with | [l0,l1,l2,l3],_ => rfl) (fun ls => rfl)
inductive zbM where
 | e0 (c0_0 : Bool) (c0_1 : Bool) (c0_2 : Bool) (c0_3 : Bool) (c0_4 : Bool)
noncomputable def zce (n0 : Nat) (A0 : Nat → Insn) (g0_0 : Nat → BitVec 16) (g1_0 : Nat → Bool) (s0_2 : Int) (rb0 : Int) : Option (zbM) :=
 bif inR s0_2 ((n0 : Int)).toNat then
 (bif (g1_0 (s0_2).toNat) then
 (bif rb0 == 4 then
 (bif inR s0_2 n0 then
 ((zbe n0 A0 ((n0 : Int)).toNat g0_0 s0_2).bind fun rc0 =>
 zv (zl ((A0 (s0_2).toNat)).fDst) fun rc1 =>
 bif (rc0 &&& rc1) == 0#16 then
 (some (.e0 true true true true true))
 else (some (.e0 true true true true false)))
 else (none))
 else (bif rb0 == 7 then
 (bif inR s0_2 n0 then
 ((zbe n0 A0 ((n0 : Int)).toNat g0_0 s0_2).bind fun rc0 =>
 zv (zl ((A0 (s0_2).toNat)).fDst) fun rc1 =>
 bif (rc0 &&& rc1) == 0#16 then
 (some (.e0 true true true true true))
 else (some (.e0 true true true true false)))
 else (none))
 else (bif rb0 == 0 then
 (bif inR s0_2 n0 then
 ((zbe n0 A0 ((n0 : Int)).toNat g0_0 s0_2).bind fun rc0 =>
 zv (zl ((A0 (s0_2).toNat)).fDst) fun rc1 =>
 bif (rc0 &&& rc1) == 0#16 then
 (some (.e0 true true true true true))
 else (some (.e0 true true true true false)))
 else (none))
 else (some (.e0 true true false false false)))))
 else (some (.e0 false false false false false)))
 else (none)
noncomputable def zhM : Code := zb6 Try.f12 [1,1,1,1,1,0,1,0,0,1,0,0,1,0]
def zno (a0 : Option Addr) (p0 q0 n0 k0 : Nat) (A0 : Nat → Insn) (g0_0 : Nat → BitVec 16) (g1_0 : Nat → Bool) (s0_0 : Nat) (s0_1 : Nat → Int) (s0_2 : Int) (rb0 : Int) (ls : List L1) : List Value := [.slice a0 n0 (n0 + k0),.slice none 0 0,.int .i64 (0),(rowV (lget ls 0) ((n0 : Int)).toNat 1),(rowV (lget ls 1) ((n0 : Int)).toNat 1),(rowV (lget ls 2) s0_0 1),.int .i64 (s0_2),.int .i64 (rb0),.int .i64 (s0_2),.slice a0 n0 (n0 + k0),.int .i64 ((n0 : Int)),.bool true,.slice a0 n0 (n0 + k0),.int .i64 (s0_2),.pointer (some ⟨p0,q0 + (s0_2).toNat * 5,none⟩),.agg #[.int .u8 (nn ((A0 (s0_2).toNat)).fOp),.int .u8 (nn ((A0 (s0_2).toNat)).fDst),.int .u8 (nn ((A0 (s0_2).toNat)).fSrc),.int .i16 (ii ((A0 (s0_2).toNat)).fOff),.int .i32 (ii ((A0 (s0_2).toNat)).fImm)],.int .i64 (rb0)]
noncomputable def znn (a0 : Option Addr) (p0 q0 n0 k0 : Nat) (A0 : Nat → Insn) (g0_0 : Nat → BitVec 16) (g1_0 : Nat → Bool) (s0_0 : Nat) (s0_1 : Nat → Int) (s0_2 : Int) (rb0 : Int) : List L1 → List Value := mrgF [(1,1),(3,1),(4,10),(4,2),(5,35)] (zno a0 p0 q0 n0 k0 A0 g0_0 g1_0 s0_0 s0_1 s0_2 rb0) 4
def znH (a0 : Option Addr) (p0 q0 n0 k0 : Nat) (A0 : Nat → Insn) (g0_0 : Nat → BitVec 16) (g1_0 : Nat → Bool) (s0_0 : Nat) (s0_1 : Nat → Int) (s0_2 : Int) (rb0 : Int) (ls : List L1) : List Obj := [rowO (lget ls 0) (esG cu16 ((n0 : Int)).toNat g0_0) 27 ((n0 : Int)).toNat 1,rowO (lget ls 1) (esG cB ((n0 : Int)).toNat g1_0) 4 ((n0 : Int)).toNat 1,rowO (lget ls 2) (esG cZ s0_0 s0_1) 3 s0_0 1,unb,unb]
def zmT (a0 : Option Addr) (p0 q0 n0 k0 : Nat) (A0 : Nat → Insn) (g0_0 : Nat → BitVec 16) (g1_0 : Nat → Bool) (s0_0 : Nat) (s0_1 : Nat → Int) (s0_2 : Int) (rb0 : Int) : zbM → List L1 → List Value
 | .e0 c0_0 c0_1 c0_2 c0_3 c0_4,ls => [.slice a0 n0 (n0 + k0),.slice none 0 0,.int .i64 (0),(rowV (lget ls 0) ((n0 : Int)).toNat 1),(rowV (lget ls 1) ((n0 : Int)).toNat 1),(rowV (lget ls 2) s0_0 1),.int .i64 (s0_2),.int .i64 (rb0),.int .i64 (s0_2),.slice a0 n0 (n0 + k0),.int .i64 ((n0 : Int)),.bool true,.slice a0 n0 (n0 + k0),.int .i64 (s0_2),.pointer (some ⟨p0,q0 + (s0_2).toNat * 5,none⟩),.agg #[.int .u8 (nn ((A0 (s0_2).toNat)).fOp),.int .u8 (nn ((A0 (s0_2).toNat)).fDst),.int .u8 (nn ((A0 (s0_2).toNat)).fSrc),.int .i16 (ii ((A0 (s0_2).toNat)).fOff),.int .i32 (ii ((A0 (s0_2).toNat)).fImm)],.int .i64 (rb0),(rowV (lget ls 1) ((n0 : Int)).toNat 1),.int .i64 (s0_2),.bool (c0_0),.bool (c0_1),.bool (c0_2),.bool (c0_3),.bool (c0_4)]
def znQ : zbM → List (Nat × Nat)
 | .e0 _ _ _ _ _ => [(1,1),(3,1),(4,10),(4,2),(7,1),(2,10),(2,12),(1,5)]
noncomputable def zhC (a0 : Option Addr) (p0 q0 n0 k0 : Nat) (A0 : Nat → Insn) (g0_0 : Nat → BitVec 16) (g1_0 : Nat → Bool) (s0_0 : Nat) (s0_1 : Nat → Int) (s0_2 : Int) (rb0 : Int) (r : zbM) : List L1 → List Value := mrgF (znQ r) (zmT a0 p0 q0 n0 k0 A0 g0_0 g1_0 s0_0 s0_1 s0_2 rb0 r) 4
def zht (a0 : Option Addr) (p0 q0 n0 k0 : Nat) (A0 : Nat → Insn) (g0_0 : Nat → BitVec 16) (g1_0 : Nat → Bool) (s0_0 : Nat) (s0_1 : Nat → Int) (s0_2 : Int) (rb0 : Int) : zbM → List L1 → List Obj
 | .e0 c0_0 c0_1 c0_2 c0_3 c0_4,ls => [rowO (lget ls 0) (esG cu16 ((n0 : Int)).toNat g0_0) 27 ((n0 : Int)).toNat 1,rowO (lget ls 1) (esG cB ((n0 : Int)).toNat g1_0) 4 ((n0 : Int)).toNat 1,rowO (lget ls 2) (esG cZ s0_0 s0_1) 3 s0_0 1,unb,unb]
def znE : zbM → Ex
 | .e0 _ _ _ _ _ => .normal
theorem zn0 (g0_0 : Nat → BitVec 16) (g1_0 : Nat → Bool) (s0_0 : Nat) (s0_1 : Nat → Int) (s0_2 : Int) (rb0 : Int) (r : zbM) (e : zce n0 A0 g0_0 g1_0 s0_2 rb0 = some r) : zdm Try.prog M B0 S zhM 5 (znn a0 p0 q0 n0 k0 A0 g0_0 g1_0 s0_0 s0_1 s0_2 rb0) (znH a0 p0 q0 n0 k0 A0 g0_0 g1_0 s0_0 s0_1 s0_2 rb0) (znE r) 4 (zhC a0 p0 q0 n0 k0 A0 g0_0 g1_0 s0_0 s0_1 s0_2 rb0 r) (zht a0 p0 q0 n0 k0 A0 g0_0 g1_0 s0_0 s0_1 s0_2 rb0 r) 5 := by
 unfold zce at e
 replace e := za e
 let P1 : List (PG Try.prog M B0 S) := [.r [0,1,2,3,4,5,6,7,8,9,10,11,12,13,14,15,16,17,18,19,21,22,23,24,25] [] [20,26,27,28,29],.o,.o]
 rcases e with ⟨hq0,e⟩ | ⟨hq0,e⟩
 ·replace e := za e
  let P2 : List (PG Try.prog M B0 S) := P1 ++ [.q (zH (kd := .i64) (T := 64) (x := s0_2) (N := ((n0 : Int)).toNat) (sz := 1) rfl (fun w => by kernel_rfl) hq0)]
  rcases e with ⟨hq1,e⟩ | ⟨hq1,e⟩
  ·replace e := za e
   let P3 : List (PG Try.prog M B0 S) := P2 ++ [.l (accG (i := 1) (f := cB) (A := g1_0) (k := (s0_2).toNat) 0 [.bool true] zbc (ze hq0) (congrArg (fun b => [Value.bool b]) hq1)),.o,.o]
   rcases e with ⟨hq2,e⟩ | ⟨hq2,e⟩
   ·replace e := za e
    rcases e with ⟨hq3,e⟩ | ⟨hq3,e⟩
    ·replace e := zf e
     obtain ⟨rc0,e_rc0,e⟩ := e
     try dsimp only at e
     replace e := zg e
     obtain ⟨rc1,e_rc1,e⟩ := e
     try dsimp only at e
     replace e := za e
     let P4 : List (PG Try.prog M B0 S) := P3 ++ [.b (zO hq2),.o,.o,.o,.o,.o,.o,.o,.o,.o,.o,.o,.q (zA (kd := .i64) (T := 22) (x := s0_2) (sz := 5) rfl (fun w => by kernel_rfl) hR0 hq3),.o,.l (zcm hR0 zj (ze hq3) 1 [.int .u8 (nn ((A0 (s0_2).toNat)).fDst)] rfl),.xg (SpcG.own hU (f := cu16) zc0 ((n0 : Int)).toNat g0_0 27 (fun l => padL l ((n0 : Int)).toNat 1) (fun l => (padL l ((n0 : Int)).toNat 1).length / 1) _ 0 .normal (by intros; rfl) (by intros; rfl) (by intros; rfl) (fun M0 B0 S0 x0 u0 v0 z0 hU0 hs0 hr0 => ConG.sp (zcL hU0 a0 p0 q0 n0 k0 A0 (Ro.mono hR0 hs0) x0 u0 v0 ((n0 : Int)).toNat z0 g0_0 hr0 s0_2 rc0 e_rc0))) [0],.cg (zq hU ((A0 (s0_2).toNat)).fDst rc1 e_rc1),.v .u16 (zsS rc0 rc1)]
     rcases e with ⟨hq4,e⟩ | ⟨hq4,e⟩
     ·cases e; exact zb hU (P4 ++ [.t (u_eq (rc0 &&& rc1) (0#16)) hq4,.o]) [0,1,2,3] (fun b => rfl) (by decide) rfl rfl (fun b => by kernel_rfl)
     ·cases e; exact zb hU (P4 ++ [.t (u_eq (rc0 &&& rc1) (0#16)) hq4,.o]) [0,1,2,3] (fun b => rfl) (by decide) rfl rfl (fun b => by kernel_rfl)
    ·exact zd e
   ·replace e := za e
    let P5 : List (PG Try.prog M B0 S) := P3 ++ [.b (zF hq2),.o,.o]
    rcases e with ⟨hq3,e⟩ | ⟨hq3,e⟩
    ·replace e := za e
     rcases e with ⟨hq4,e⟩ | ⟨hq4,e⟩
     ·replace e := zf e
      obtain ⟨rc0,e_rc0,e⟩ := e
      try dsimp only at e
      replace e := zg e
      obtain ⟨rc1,e_rc1,e⟩ := e
      try dsimp only at e
      replace e := za e
      let P6 : List (PG Try.prog M B0 S) := P5 ++ [.b (zO hq3),.o,.o,.o,.o,.o,.o,.o,.o,.o,.o,.q (zA (kd := .i64) (T := 22) (x := s0_2) (sz := 5) rfl (fun w => by kernel_rfl) hR0 hq4),.o,.l (zcm hR0 zj (ze hq4) 1 [.int .u8 (nn ((A0 (s0_2).toNat)).fDst)] rfl),.xg (SpcG.own hU (f := cu16) zc0 ((n0 : Int)).toNat g0_0 27 (fun l => padL l ((n0 : Int)).toNat 1) (fun l => (padL l ((n0 : Int)).toNat 1).length / 1) _ 0 .normal (by intros; rfl) (by intros; rfl) (by intros; rfl) (fun M0 B0 S0 x0 u0 v0 z0 hU0 hs0 hr0 => ConG.sp (zcL hU0 a0 p0 q0 n0 k0 A0 (Ro.mono hR0 hs0) x0 u0 v0 ((n0 : Int)).toNat z0 g0_0 hr0 s0_2 rc0 e_rc0))) [0],.cg (zq hU ((A0 (s0_2).toNat)).fDst rc1 e_rc1),.v .u16 (zsS rc0 rc1)]
      rcases e with ⟨hq5,e⟩ | ⟨hq5,e⟩
      ·cases e; exact zb hU (P6 ++ [.t (u_eq (rc0 &&& rc1) (0#16)) hq5,.o]) [0,1,2,3] (fun b => rfl) (by decide) rfl rfl (fun b => by kernel_rfl)
      ·cases e; exact zb hU (P6 ++ [.t (u_eq (rc0 &&& rc1) (0#16)) hq5,.o]) [0,1,2,3] (fun b => rfl) (by decide) rfl rfl (fun b => by kernel_rfl)
     ·exact zd e
    ·replace e := za e
     rcases e with ⟨hq4,e⟩ | ⟨hq4,e⟩
     ·replace e := za e
      rcases e with ⟨hq5,e⟩ | ⟨hq5,e⟩
      ·replace e := zf e
       obtain ⟨rc0,e_rc0,e⟩ := e
       try dsimp only at e
       replace e := zg e
       obtain ⟨rc1,e_rc1,e⟩ := e
       try dsimp only at e
       replace e := za e
       let P7 : List (PG Try.prog M B0 S) := P5 ++ [.b (zF hq3),.o,.o,.o,.b (zO hq4),.o,.o,.o,.o,.o,.o,.o,.o,.q (zA (kd := .i64) (T := 22) (x := s0_2) (sz := 5) rfl (fun w => by kernel_rfl) hR0 hq5),.o,.l (zcm hR0 zj (ze hq5) 1 [.int .u8 (nn ((A0 (s0_2).toNat)).fDst)] rfl),.xg (SpcG.own hU (f := cu16) zc0 ((n0 : Int)).toNat g0_0 27 (fun l => padL l ((n0 : Int)).toNat 1) (fun l => (padL l ((n0 : Int)).toNat 1).length / 1) _ 0 .normal (by intros; rfl) (by intros; rfl) (by intros; rfl) (fun M0 B0 S0 x0 u0 v0 z0 hU0 hs0 hr0 => ConG.sp (zcL hU0 a0 p0 q0 n0 k0 A0 (Ro.mono hR0 hs0) x0 u0 v0 ((n0 : Int)).toNat z0 g0_0 hr0 s0_2 rc0 e_rc0))) [0],.cg (zq hU ((A0 (s0_2).toNat)).fDst rc1 e_rc1),.v .u16 (zsS rc0 rc1)]
       rcases e with ⟨hq6,e⟩ | ⟨hq6,e⟩
       ·cases e; exact zb hU (P7 ++ [.t (u_eq (rc0 &&& rc1) (0#16)) hq6,.o]) [0,1,2,3] (fun b => rfl) (by decide) rfl rfl (fun b => by kernel_rfl)
       ·cases e; exact zb hU (P7 ++ [.t (u_eq (rc0 &&& rc1) (0#16)) hq6,.o]) [0,1,2,3] (fun b => rfl) (by decide) rfl rfl (fun b => by kernel_rfl)
      ·exact zd e
     ·cases e; exact zb hU (P5 ++ [.b (zF hq3),.o,.o,.o,.b (zF hq4),.o,.o,.o,.o]) [0,1,2,3] (fun b => rfl) (by decide) rfl rfl (fun b => by kernel_rfl)
  ·cases e; exact zb hU (P2 ++ [.l (accG (i := 1) (f := cB) (A := g1_0) (k := (s0_2).toNat) 0 [.bool false] zbc (ze hq0) (congrArg (fun b => [Value.bool b]) hq1)),.o,.o,.o,.o]) [0,1,2,3] (fun b => rfl) (by decide) rfl rfl (fun b => by kernel_rfl)
 ·exact zd e
def zms (a0 : Option Addr) (p0 q0 n0 k0 : Nat) (A0 : Nat → Insn) (g0_0 : Nat → BitVec 16) (g1_0 : Nat → Bool) (s0_0 : Nat) (s0_1 : Nat → Int) (s0_2 : Int) (rb0 : Int) (ls : List L1) : List Obj := [rowO (lget ls 0) (esG cu16 ((n0 : Int)).toNat g0_0) 27 ((n0 : Int)).toNat 1,rowO (lget ls 1) (esG cB ((n0 : Int)).toNat g1_0) 4 ((n0 : Int)).toNat 1,rowO (lget ls 2) (esG cZ s0_0 s0_1) 3 s0_0 1,unb]
noncomputable def zmR (a0 : Option Addr) (p0 q0 n0 k0 : Nat) (A0 : Nat → Insn) (g0_0 : Nat → BitVec 16) (g1_0 : Nat → Bool) (s0_0 : Nat) (s0_1 : Nat → Int) (s0_2 : Int) (rb0 : Int) (ls : List L1) : List Value := List.append [.slice a0 n0 (n0 + k0),((lget ls 3).u 1),.slice none 0 0,.int .i64 (0),(rowV (lget ls 0) ((n0 : Int)).toNat 1),((lget ls 3).u 5),(rowV (lget ls 1) ((n0 : Int)).toNat 1),(rowV (lget ls 2) s0_0 1),.int .i64 (s0_2),.int .i64 (rb0)] (List.append (jks (lget ls 3).u 10 10) (List.append [.int .i64 (s0_2),.slice a0 n0 (n0 + k0),.int .i64 ((n0 : Int)),.bool true,((lget ls 3).u 24),((lget ls 3).u 25),.slice a0 n0 (n0 + k0),.int .i64 (s0_2),.pointer (some ⟨p0,q0 + (s0_2).toNat * 5,none⟩),.agg #[.int .u8 (nn ((A0 (s0_2).toNat)).fOp),.int .u8 (nn ((A0 (s0_2).toNat)).fDst),.int .u8 (nn ((A0 (s0_2).toNat)).fSrc),.int .i16 (ii ((A0 (s0_2).toNat)).fOff),.int .i32 (ii ((A0 (s0_2).toNat)).fImm)],.int .i64 (rb0)] (jks (lget ls 3).u 31 35)))
theorem zfX (g0_0 : Nat → BitVec 16) (g1_0 : Nat → Bool) (s0_0 : Nat) (s0_1 : Nat → Int) (s0_2 : Int) (rb0 : Int) (c0_0 : Bool) (c0_1 : Bool) (c0_2 : Bool) (c0_3 : Bool) (c0_4 : Bool) (h : zce n0 A0 g0_0 g1_0 s0_2 rb0 = some (.e0 c0_0 c0_1 c0_2 c0_3 c0_4)) : SpcG Try.prog M B0 S (spcJ zhM (zmR a0 p0 q0 n0 k0 A0 g0_0 g1_0 s0_0 s0_1 s0_2 rb0) (zms a0 p0 q0 n0 k0 A0 g0_0 g1_0 s0_0 s0_1 s0_2 rb0) 4 0 .normal (zhC a0 p0 q0 n0 k0 A0 g0_0 g1_0 s0_0 s0_1 s0_2 rb0 (.e0 c0_0 c0_1 c0_2 c0_3 c0_4)) (zht a0 p0 q0 n0 k0 A0 g0_0 g1_0 s0_0 s0_1 s0_2 rb0 (.e0 c0_0 c0_1 c0_2 c0_3 c0_4))) :=
 zei hU (zn0 hU a0 p0 q0 n0 k0 A0 hR0 g0_0 g1_0 s0_0 s0_1 s0_2 rb0 _ h) (fun _ => rfl) (fun ls h => by match ls,h with | [l0,l1,l2,l3],_ => exact ⟨by kernel_rfl,by kernel_rfl⟩) (fun ls h => by match ls,h with | [l0,l1,l2,l3],_ => rfl) (fun ls => rfl)
inductive zcf where
 | c0 (s0_0 : Int)
 | c1 (s0_0 : Nat) (s0_1 : Nat → Int) (s0_2 : Int)
inductive zcj where
 | e0 
 | e1 (c1_0 : Nat) (c1_1 : Nat → Int)
noncomputable def zu (n0 : Nat) (A0 : Nat → Insn) (g0_0 : Nat → BitVec 16) (g1_0 : Nat → Bool) : zcf → Option (zcf ⊕ zcj)
 | .c0 s0_0 =>
 bif decide (s0_0 < (n0 : Int)) then
 (bif inR s0_0 n0 then
 (zv (zk ((A0 (s0_0).toNat))) fun rb0 =>
 (zcb n0 A0 g0_0 g1_0 s0_0 rb0).bind fun gb1 => match gb1 with
 | .e0 gb1_0 gb1_1 gb1_2 gb1_3 gb1_4 =>
 bif gb1_4 then
 (some (.inl (.c1 1 (fun _ => s0_0) (IntKind.i64.wrap (s0_0 + 1)))))
 else (some (.inl (.c0 (IntKind.i64.wrap (s0_0 + 1))))))
 else (none))
 else (some (.inr (.e0 )))
 | .c1 s0_0 s0_1 s0_2 =>
 bif decide (s0_2 < (n0 : Int)) then
 (bif inR s0_2 n0 then
 (zv (zk ((A0 (s0_2).toNat))) fun rb0 =>
 (zce n0 A0 g0_0 g1_0 s0_2 rb0).bind fun gb1 => match gb1 with
 | .e0 gb1_0 gb1_1 gb1_2 gb1_3 gb1_4 =>
 bif gb1_4 then
 (bif decide (s0_0 ≤ 1000000) then
 (some (.inl (.c1 (s0_0 + 1) (updF s0_1 s0_0 s0_2) (IntKind.i64.wrap (s0_2 + 1)))))
 else (none))
 else (some (.inl (.c1 s0_0 s0_1 (IntKind.i64.wrap (s0_2 + 1))))))
 else (none))
 else (some (.inr (.e1 s0_0 s0_1)))
noncomputable def zfM : Code := zb6 Try.f12 [1,1,1,1,1,0,1,0,0]
def zpY (a0 : Option Addr) (p0 q0 n0 k0 : Nat) (A0 : Nat → Insn) (g0_0 : Nat → BitVec 16) (g1_0 : Nat → Bool) : zcf → List L1 → List Value
 | .c0 s0_0,ls => [.slice a0 n0 (n0 + k0),.slice none 0 0,.int .i64 (0),(rowV (lget ls 0) ((n0 : Int)).toNat 1),(rowV (lget ls 1) ((n0 : Int)).toNat 1),.slice none 0 0,.int .i64 (s0_0)]
 | .c1 s0_0 s0_1 s0_2,ls => [.slice a0 n0 (n0 + k0),.slice none 0 0,.int .i64 (0),(rowV (lget ls 0) ((n0 : Int)).toNat 1),(rowV (lget ls 1) ((n0 : Int)).toNat 1),(rowV (lget ls 2) s0_0 1),.int .i64 (s0_2)]
def zpo : zcf → List (Nat × Nat)
 | .c0 _ => [(1,1),(3,1),(3,57)]
 | .c1 _ _ _ => [(1,1),(3,1),(3,57)]
noncomputable def zpt (a0 : Option Addr) (p0 q0 n0 k0 : Nat) (A0 : Nat → Insn) (g0_0 : Nat → BitVec 16) (g1_0 : Nat → Bool) (s : zcf) : List L1 → List Value := mrgF (zpo s) (zpY a0 p0 q0 n0 k0 A0 g0_0 g1_0 s) 3
def zpb (a0 : Option Addr) (p0 q0 n0 k0 : Nat) (A0 : Nat → Insn) (g0_0 : Nat → BitVec 16) (g1_0 : Nat → Bool) : zcf → List L1 → List Obj
 | .c0 s0_0,ls => [rowO (lget ls 0) (esG cu16 ((n0 : Int)).toNat g0_0) 27 ((n0 : Int)).toNat 1,rowO (lget ls 1) (esG cB ((n0 : Int)).toNat g1_0) 4 ((n0 : Int)).toNat 1,unb,unb]
 | .c1 s0_0 s0_1 s0_2,ls => [rowO (lget ls 0) (esG cu16 ((n0 : Int)).toNat g0_0) 27 ((n0 : Int)).toNat 1,rowO (lget ls 1) (esG cB ((n0 : Int)).toNat g1_0) 4 ((n0 : Int)).toNat 1,rowO (lget ls 2) (esG cZ s0_0 s0_1) 3 s0_0 1,unb]
def zpP (a0 : Option Addr) (p0 q0 n0 k0 : Nat) (A0 : Nat → Insn) (g0_0 : Nat → BitVec 16) (g1_0 : Nat → Bool) : zcj → List L1 → List Value
 | .e0 ,ls => [.slice a0 n0 (n0 + k0),.slice none 0 0,.int .i64 (0),(rowV (lget ls 0) ((n0 : Int)).toNat 1),(rowV (lget ls 1) ((n0 : Int)).toNat 1),.slice none 0 0]
 | .e1 c1_0 c1_1,ls => [.slice a0 n0 (n0 + k0),.slice none 0 0,.int .i64 (0),(rowV (lget ls 0) ((n0 : Int)).toNat 1),(rowV (lget ls 1) ((n0 : Int)).toNat 1),(rowV (lget ls 2) c1_0 1)]
def zpF : zcj → List (Nat × Nat)
 | .e0  => [(1,1),(3,1),(2,58)]
 | .e1 _ _ => [(1,1),(3,1),(2,58)]
noncomputable def zfO (a0 : Option Addr) (p0 q0 n0 k0 : Nat) (A0 : Nat → Insn) (g0_0 : Nat → BitVec 16) (g1_0 : Nat → Bool) (r : zcj) : List L1 → List Value := mrgF (zpF r) (zpP a0 p0 q0 n0 k0 A0 g0_0 g1_0 r) 3
def zdw (a0 : Option Addr) (p0 q0 n0 k0 : Nat) (A0 : Nat → Insn) (g0_0 : Nat → BitVec 16) (g1_0 : Nat → Bool) : zcj → List L1 → List Obj
 | .e0 ,ls => [rowO (lget ls 0) (esG cu16 ((n0 : Int)).toNat g0_0) 27 ((n0 : Int)).toNat 1,rowO (lget ls 1) (esG cB ((n0 : Int)).toNat g1_0) 4 ((n0 : Int)).toNat 1,unb,unb]
 | .e1 c1_0 c1_1,ls => [rowO (lget ls 0) (esG cu16 ((n0 : Int)).toNat g0_0) 27 ((n0 : Int)).toNat 1,rowO (lget ls 1) (esG cB ((n0 : Int)).toNat g1_0) 4 ((n0 : Int)).toNat 1,rowO (lget ls 2) (esG cZ c1_0 c1_1) 3 c1_0 1,unb]
def zpU : zcj → Ex
 | .e0  => (.exit 0)
 | .e1 _ _ => (.exit 0)
theorem ziG (g0_0 : Nat → BitVec 16) (g1_0 : Nat → Bool) (s : zcf) (r : zcj) (h : lpO (zu n0 A0 g0_0 g1_0) s = some r) : zdm Try.prog M B0 S (.loop zfM) 4 (zpt a0 p0 q0 n0 k0 A0 g0_0 g1_0 s) (zpb a0 p0 q0 n0 k0 A0 g0_0 g1_0 s) (zpU r) 2 (zfO a0 p0 q0 n0 k0 A0 g0_0 g1_0 r) (zdw a0 p0 q0 n0 k0 A0 g0_0 g1_0 r) 4 :=
 zb5 (fun s q e => by
  cases s with
  | c0 s0_0 =>
   unfold zu at e
   dsimp only at e
   replace e := za e
   rcases e with ⟨hq0,e⟩ | ⟨hq0,e⟩
   ·replace e := za e
    rcases e with ⟨hq1,e⟩ | ⟨hq1,e⟩
    ·replace e := zg e
     obtain ⟨rb0,e_rb0,e⟩ := e
     try dsimp only at e
     replace e := zf e
     obtain ⟨gb1,e_gb1,e⟩ := e
     obtain ⟨gb1_0,gb1_1,gb1_2,gb1_3,gb1_4⟩ := gb1
     try dsimp only at e
     replace e := za e
     let P1 : List (PG Try.prog M B0 S) := [.o,.o,.o,.b (zcR hq0),.o,.o,.q (zA (kd := .i64) (T := 22) (x := s0_0) (sz := 5) rfl (fun w => by kernel_rfl) hR0 hq1),.l (zcm hR0 zj (ze hq1) 0 [.int .u8 (nn ((A0 (s0_0).toNat)).fOp),.int .u8 (nn ((A0 (s0_0).toNat)).fDst),.int .u8 (nn ((A0 (s0_0).toNat)).fSrc),.int .i16 (ii ((A0 (s0_0).toNat)).fOff),.int .i32 (ii ((A0 (s0_0).toNat)).fImm)] rfl),.cg (zB hU ((A0 (s0_0).toNat)) rb0 e_rb0),.o]
     rcases e with ⟨hq2,e⟩ | ⟨hq2,e⟩
     ·subst hq2
      cases e; exact zb hU (P1 ++ [.cx (zfQ hU a0 p0 q0 n0 k0 A0 hR0 g0_0 g1_0 s0_0 rb0 gb1_0 gb1_1 gb1_2 gb1_3 true e_gb1) [0,1,2,3],.o,.o,.o,.x (zet (ty := 36) rt36 #[false,false] (f := cZ) (c := 1) s0_0 (T' := 3) zb1 zme (by decide)) [5],.o,.o,.o,.o]) [0,1,6] (fun b => rfl) (by decide) rfl rfl (fun b => by kernel_rfl)
     ·subst hq2
      cases e; exact zb hU (P1 ++ [.cx (zfQ hU a0 p0 q0 n0 k0 A0 hR0 g0_0 g1_0 s0_0 rb0 gb1_0 gb1_1 gb1_2 gb1_3 false e_gb1) [0,1,2,3],.o,.o,.o]) [0,1,2] (fun b => rfl) (by decide) rfl rfl (fun b => by kernel_rfl)
    ·exact zd e
   ·cases e; exact ⟨zcn 0,zb hU [.o,.o,.o,.b (zb7 hq0)] [0,1,2] (fun b => rfl) (by decide) rfl rfl (fun b => by kernel_rfl)⟩
  | c1 s0_0 s0_1 s0_2 =>
   unfold zu at e
   dsimp only at e
   replace e := za e
   rcases e with ⟨hq0,e⟩ | ⟨hq0,e⟩
   ·replace e := za e
    rcases e with ⟨hq1,e⟩ | ⟨hq1,e⟩
    ·replace e := zg e
     obtain ⟨rb0,e_rb0,e⟩ := e
     try dsimp only at e
     replace e := zf e
     obtain ⟨gb1,e_gb1,e⟩ := e
     obtain ⟨gb1_0,gb1_1,gb1_2,gb1_3,gb1_4⟩ := gb1
     try dsimp only at e
     replace e := za e
     let P2 : List (PG Try.prog M B0 S) := [.o,.o,.o,.b (zcR hq0),.o,.o,.q (zA (kd := .i64) (T := 22) (x := s0_2) (sz := 5) rfl (fun w => by kernel_rfl) hR0 hq1),.l (zcm hR0 zj (ze hq1) 0 [.int .u8 (nn ((A0 (s0_2).toNat)).fOp),.int .u8 (nn ((A0 (s0_2).toNat)).fDst),.int .u8 (nn ((A0 (s0_2).toNat)).fSrc),.int .i16 (ii ((A0 (s0_2).toNat)).fOff),.int .i32 (ii ((A0 (s0_2).toNat)).fImm)] rfl),.cg (zB hU ((A0 (s0_2).toNat)) rb0 e_rb0),.o]
     rcases e with ⟨hq2,e⟩ | ⟨hq2,e⟩
     ·subst hq2
      replace e := za e
      rcases e with ⟨hq3,e⟩ | ⟨hq3,e⟩
      ·cases e; exact zb hU (P2 ++ [.cx (zfX hU a0 p0 q0 n0 k0 A0 hR0 g0_0 g1_0 s0_0 s0_1 s0_2 rb0 gb1_0 gb1_1 gb1_2 gb1_3 true e_gb1) [0,1,2,3],.o,.o,.o,.x (zer (ty := 36) rt36 #[false,false] (f := cZ) (N := s0_0) (A := s0_1) (c := 1) [s0_2] (T' := 3) .row zb1 zme hq3 rfl (by decide)) [2,5],.o,.o,.o,.o]) [0,1,6] (fun b => rfl) (by decide) rfl rfl (fun b => by kernel_rfl)
      ·exact zd e
     ·subst hq2
      cases e; exact zb hU (P2 ++ [.cx (zfX hU a0 p0 q0 n0 k0 A0 hR0 g0_0 g1_0 s0_0 s0_1 s0_2 rb0 gb1_0 gb1_1 gb1_2 gb1_3 false e_gb1) [0,1,2,3],.o,.o,.o]) [0,1,2] (fun b => rfl) (by decide) rfl rfl (fun b => by kernel_rfl)
    ·exact zd e
   ·cases e; exact ⟨zcn 0,zb hU [.o,.o,.o,.b (zb7 hq0)] [0,1,2] (fun b => rfl) (by decide) rfl rfl (fun b => by kernel_rfl)⟩) s r h
noncomputable def zd2 (a0 : Option Addr) (p0 q0 n0 k0 : Nat) (A0 : Nat → Insn) (g0_0 : Nat → BitVec 16) (g1_0 : Nat → Bool) (s0_0 : Int) (ls : List L1) : List Value := List.append [.slice a0 n0 (n0 + k0),undef,.slice none 0 0,.int .i64 (0),(rowV (lget ls 0) ((n0 : Int)).toNat 1),.int .i64 (0),(rowV (lget ls 1) ((n0 : Int)).toNat 1),.slice none 0 0,.int .i64 (s0_0),undef,.tuple #[(rowV (lget ls 0) ((n0 : Int)).toNat 1),.int .i64 (0)],.slice a0 n0 (n0 + k0),.tuple #[(rowV (lget ls 0) ((n0 : Int)).toNat 1),.int .i64 (0)],(rowV (lget ls 0) ((n0 : Int)).toNat 1),.int .i64 (0),.int .i64 (0),.bool false,undef,.slice a0 n0 (n0 + k0),(rowV (lget ls 1) ((n0 : Int)).toNat 1)] (und 46)
def zdO (a0 : Option Addr) (p0 q0 n0 k0 : Nat) (A0 : Nat → Insn) (g0_0 : Nat → BitVec 16) (g1_0 : Nat → Bool) (s0_0 : Int) (ls : List L1) : List Obj := [rowO (lget ls 0) (esG cu16 ((n0 : Int)).toNat g0_0) 27 ((n0 : Int)).toNat 1,rowO (lget ls 1) (esG cB ((n0 : Int)).toNat g1_0) 4 ((n0 : Int)).toNat 1]
theorem zlB (g0_0 : Nat → BitVec 16) (g1_0 : Nat → Bool) (s0_0 : Int) (h : lpO (zu n0 A0 g0_0 g1_0) (.c0 s0_0) = some (.e0 )) : SpcG Try.prog M B0 S ⟨fun ls => .code (.loop zfM) (zd2 a0 p0 q0 n0 k0 A0 g0_0 g1_0 s0_0 ls),zdO a0 p0 q0 n0 k0 A0 g0_0 g1_0 s0_0,2,(.exit 0),fun ls => zfO a0 p0 q0 n0 k0 A0 g0_0 g1_0 (.e0 ) (ls.take 2 ++ ls.drop 2),fun ls => (zdw a0 p0 q0 n0 k0 A0 g0_0 g1_0 (.e0 ) (ls.take 2 ++ ls.drop 2)).take 2 ++ List.replicate 0 unb,fun ls => (zdw a0 p0 q0 n0 k0 A0 g0_0 g1_0 (.e0 ) (ls.take 2 ++ ls.drop 2)).drop 2⟩ :=
 zr hU 1 (k0 := 2) (ziG hU a0 p0 q0 n0 k0 A0 hR0 g0_0 g1_0 _ _ h) (zd2 a0 p0 q0 n0 k0 A0 g0_0 g1_0 s0_0) (zdO a0 p0 q0 n0 k0 A0 g0_0 g1_0 s0_0) (fun _ => rfl) (fun ls h => by match ls,h with | [l0,l1],_ => exact ⟨by kernel_rfl,by kernel_rfl⟩) (fun ls h => by match ls,h with | [l0,l1],_ => rfl) (by decide) (by decide) (fun ls => rfl)
theorem zlb (g0_0 : Nat → BitVec 16) (g1_0 : Nat → Bool) (s0_0 : Int) (c1_0 : Nat) (c1_1 : Nat → Int) (h : lpO (zu n0 A0 g0_0 g1_0) (.c0 s0_0) = some (.e1 c1_0 c1_1)) : SpcG Try.prog M B0 S ⟨fun ls => .code (.loop zfM) (zd2 a0 p0 q0 n0 k0 A0 g0_0 g1_0 s0_0 ls),zdO a0 p0 q0 n0 k0 A0 g0_0 g1_0 s0_0,2,(.exit 0),fun ls => zfO a0 p0 q0 n0 k0 A0 g0_0 g1_0 (.e1 c1_0 c1_1) (ls.take 2 ++ ls.drop 2),fun ls => (zdw a0 p0 q0 n0 k0 A0 g0_0 g1_0 (.e1 c1_0 c1_1) (ls.take 2 ++ ls.drop 2)).take 2 ++ List.replicate 0 unb,fun ls => (zdw a0 p0 q0 n0 k0 A0 g0_0 g1_0 (.e1 c1_0 c1_1) (ls.take 2 ++ ls.drop 2)).drop 2⟩ :=
 zr hU 1 (k0 := 2) (ziG hU a0 p0 q0 n0 k0 A0 hR0 g0_0 g1_0 _ _ h) (zd2 a0 p0 q0 n0 k0 A0 g0_0 g1_0 s0_0) (zdO a0 p0 q0 n0 k0 A0 g0_0 g1_0 s0_0) (fun _ => rfl) (fun ls h => by match ls,h with | [l0,l1],_ => exact ⟨by kernel_rfl,by kernel_rfl⟩) (fun ls h => by match ls,h with | [l0,l1],_ => rfl) (by decide) (by decide) (fun ls => rfl)
inductive zs8 where
 | e0 (c0_0 : Int)
 | e1 (c1_0 : Nat) (c1_1 : Nat → Int)
noncomputable def zby (n0 : Nat) (A0 : Nat → Insn) : Option zs8 :=
 (zbx n0 A0).bind fun g0 => match g0 with
 | .e0 g0_0 => ((zfq n0 A0).bind fun g1 => match g1 with
 | .e0 g1_0 =>
 (lpO (zu n0 A0 g0_0 g1_0) (.c0 0)).bind fun g2 => match g2 with
 | .e0  => (some (.e0 0))
 | .e1 g2_0 g2_1 => (some (.e1 g2_0 g2_1)))
 | .e1 g0_0 => (bif g0_0 == 0 then
 (none)
 else (some (.e0 g0_0)))
def zrs (a0 : Option Addr) (p0 q0 n0 k0 : Nat) (A0 : Nat → Insn) (c0_0 : Int) : Spc := ⟨fun ls => .call 12 #[.slice a0 n0 (n0 + k0)],fun ls => [],0,.normal,fun ls => [.tuple #[.slice none 0 0,.int .i64 (c0_0)]],fun ls => [],fun ls => []⟩
def zrd (a0 : Option Addr) (p0 q0 n0 k0 : Nat) (A0 : Nat → Insn) (c1_0 : Nat) (c1_1 : Nat → Int) : Spc := ⟨fun ls => .call 12 #[.slice a0 n0 (n0 + k0)],fun ls => [],1,.normal,fun ls => [.tuple #[(rowV (lget ls 0) c1_0 1),.int .i64 (0)]],fun ls => [],fun ls => [rowO (lget ls 0) (esG cZ c1_0 c1_1) 3 c1_0 1]⟩
theorem zjQ (c0_0 : Int) (e : zby n0 A0 = some (.e0 c0_0)) : SpcG Try.prog M B0 S (zrs a0 p0 q0 n0 k0 A0 c0_0) := by
 unfold zby at e
 replace e := zf e
 obtain ⟨g0,e_g0,e⟩ := e
 rcases g0 with ⟨g0_0⟩ | ⟨g0_0⟩
 ·try dsimp only at e
  replace e := zf e
  obtain ⟨g1,e_g1,e⟩ := e
  obtain ⟨g1_0⟩ := g1
  try dsimp only at e
  replace e := zf e
  obtain ⟨g2,e_g2,e⟩ := e
  rcases g2 with _ | ⟨g2_0,g2_1⟩
  ·try dsimp only at e
   injection e with e; injection e with i0; subst i0; exact zo hU (P := Try.prog) Try.func12 (fun xs w => by kernel_rfl) 0 _ _ (fun _ => rfl) _ _ _ [] [.o,.o,.o,.xg (zg5 hU a0 p0 q0 n0 k0 A0 hR0 g0_0 e_g0) [],.o,.o,.o,.o,.o,.o,.o,.o,.xg (zmh hU a0 p0 q0 n0 k0 A0 hR0 g1_0 e_g1) [],.o,.o,.o,.cp,.cx (zlB hU a0 p0 q0 n0 k0 A0 hR0 g0_0 g1_0 0  e_g2) [0,1],.o,.o,.o] [] (fun b => by kernel_rfl)
  ·try dsimp only at e
   cases e
 ·try dsimp only at e
  replace e := za e
  rcases e with ⟨hq0,e⟩ | ⟨hq0,e⟩
  ·exact zd e
  ·injection e with e; injection e with i0; subst i0; exact zo hU (P := Try.prog) Try.func12 (fun xs w => by kernel_rfl) 0 _ _ (fun _ => rfl) _ _ _ [] [.o,.o,.o,.xg (zjY hU a0 p0 q0 n0 k0 A0 hR0 g0_0 e_g0) [],.o,.o,.o,.o,.o,.o,.b (zdU hq0),.o,.o,.o] [] (fun b => by kernel_rfl)
theorem zsa (c1_0 : Nat) (c1_1 : Nat → Int) (e : zby n0 A0 = some (.e1 c1_0 c1_1)) : SpcG Try.prog M B0 S (zrd a0 p0 q0 n0 k0 A0 c1_0 c1_1) := by
 unfold zby at e
 replace e := zf e
 obtain ⟨g0,e_g0,e⟩ := e
 rcases g0 with ⟨g0_0⟩ | ⟨g0_0⟩
 ·try dsimp only at e
  replace e := zf e
  obtain ⟨g1,e_g1,e⟩ := e
  obtain ⟨g1_0⟩ := g1
  try dsimp only at e
  replace e := zf e
  obtain ⟨g2,e_g2,e⟩ := e
  rcases g2 with _ | ⟨g2_0,g2_1⟩
  ·try dsimp only at e
   cases e
  ·try dsimp only at e
   injection e with e; injection e with i0 i1; subst i0 i1; exact zo hU (P := Try.prog) Try.func12 (fun xs w => by kernel_rfl) 0 _ _ (fun _ => rfl) _ _ _ [2] [.o,.o,.o,.xg (zg5 hU a0 p0 q0 n0 k0 A0 hR0 g0_0 e_g0) [],.o,.o,.o,.o,.o,.o,.o,.o,.xg (zmh hU a0 p0 q0 n0 k0 A0 hR0 g1_0 e_g1) [],.o,.o,.o,.cp,.cx (zlb hU a0 p0 q0 n0 k0 A0 hR0 g0_0 g1_0 0 g2_0 g2_1 e_g2) [0,1],.o,.o,.o] [] (fun b => by kernel_rfl)
 ·try dsimp only at e
  replace e := za e
  rcases e with ⟨hq0,e⟩ | ⟨hq0,e⟩
  ·exact zd e
  ·cases e
end

end Go.Proofs.Ytliijnpblddjfaa


