/-
  Instructions: the reference.
-/
import Derived.Test.YtliijnpblddjfaaS1CD
namespace Go.Proofs.Ytliijnpblddjfaa
open Go.RowKit
set_option linter.unusedVariables false
set_option linter.unusedSimpArgs false
set_option linter.unusedSectionVars false
set_option maxRecDepth 100000
set_option maxHeartbeats 4000000
inductive zcH where
 | c0 (s0_0 : Int)
inductive zcF where
 | e0 
 | e1 (c1_0 : Int) (c1_1 : Int)
noncomputable def zW (n0 : Nat) (A0 : Nat → Insn) (g0_0 : Nat → Bool) : zcH → Option (zcH ⊕ zcF)
 | .c0 s0_0 =>
 bif decide (s0_0 < (n0 : Int)) then
 (bif inR s0_0 ((n0 : Int)).toNat then
 (bif (g0_0 (s0_0).toNat) then
 (some (.inl (.c0 (IntKind.i64.wrap (s0_0 + 1)))))
 else ((zfx n0 A0 ((n0 : Int)).toNat g0_0 s0_0).bind fun rb0 =>
 bif rb0 == 0 then
 (some (.inl (.c0 (IntKind.i64.wrap (s0_0 + 1)))))
 else (some (.inr (.e1 s0_0 rb0)))))
 else (none))
 else (some (.inr (.e0 )))
noncomputable def zgH : Code := zb6 Try.f46 [1,1,1,0,1,0,0]
def zqy (a0 : Option Addr) (p0 q0 n0 k0 : Nat) (A0 : Nat → Insn) (g0_0 : Nat → Bool) : zcH → List L1 → List Value
 | .c0 s0_0,ls => [.slice a0 n0 (n0 + k0),.slice none 0 0,.int .i64 (0),.int .i64 (0),(rowV (lget ls 0) ((n0 : Int)).toNat 1),.int .i64 (s0_0)]
def zqK : zcH → List (Nat × Nat)
 | .c0 _ => [(1,1),(5,91)]
noncomputable def zqA (a0 : Option Addr) (p0 q0 n0 k0 : Nat) (A0 : Nat → Insn) (g0_0 : Nat → Bool) (s : zcH) : List L1 → List Value := mrgF (zqK s) (zqy a0 p0 q0 n0 k0 A0 g0_0 s) 1
def zqi (a0 : Option Addr) (p0 q0 n0 k0 : Nat) (A0 : Nat → Insn) (g0_0 : Nat → Bool) : zcH → List L1 → List Obj
 | .c0 s0_0,ls => [rowO (lget ls 0) (esG cB ((n0 : Int)).toNat g0_0) 4 ((n0 : Int)).toNat 1,unb]
def zqd (a0 : Option Addr) (p0 q0 n0 k0 : Nat) (A0 : Nat → Insn) (g0_0 : Nat → Bool) : zcF → List L1 → List Value
 | .e0 ,ls => [.slice a0 n0 (n0 + k0),.slice none 0 0,.int .i64 (0),.int .i64 (0),(rowV (lget ls 0) ((n0 : Int)).toNat 1)]
 | .e1 c1_0 c1_1,ls => [.slice a0 n0 (n0 + k0),.slice none 0 0,.int .i64 (c1_0),.int .i64 (c1_1),(rowV (lget ls 0) ((n0 : Int)).toNat 1)]
def zqL : zcF → List (Nat × Nat)
 | .e0  => [(1,1),(4,92)]
 | .e1 _ _ => [(1,1),(4,92)]
noncomputable def zgC (a0 : Option Addr) (p0 q0 n0 k0 : Nat) (A0 : Nat → Insn) (g0_0 : Nat → Bool) (r : zcF) : List L1 → List Value := mrgF (zqL r) (zqd a0 p0 q0 n0 k0 A0 g0_0 r) 1
def zdM (a0 : Option Addr) (p0 q0 n0 k0 : Nat) (A0 : Nat → Insn) (g0_0 : Nat → Bool) : zcF → List L1 → List Obj
 | .e0 ,ls => [rowO (lget ls 0) (esG cB ((n0 : Int)).toNat g0_0) 4 ((n0 : Int)).toNat 1,unb]
 | .e1 c1_0 c1_1,ls => [rowO (lget ls 0) (esG cB ((n0 : Int)).toNat g0_0) 4 ((n0 : Int)).toNat 1,unb]
def zqh : zcF → Ex
 | .e0  => (.exit 0)
 | .e1 _ _ => .ret
section
variable {M : Nat → Prop} {B0 : Nat} {S : World → Prop} (hU : Up M B0 S) (a0 : Option Addr) (p0 q0 n0 k0 : Nat) (A0 : Nat → Insn) (hR0 : Ro S zd9 5 a0 p0 q0 n0 A0) (g0_0 : Nat → Bool)
include hU a0 p0 q0 n0 k0 A0 hR0 g0_0
theorem zi6 (s : zcH) (r : zcF) (h : lpO (zW n0 A0 g0_0) s = some r) : zdm Try.prog M B0 S (.loop zgH) 2 (zqA a0 p0 q0 n0 k0 A0 g0_0 s) (zqi a0 p0 q0 n0 k0 A0 g0_0 s) (zqh r) 1 (zgC a0 p0 q0 n0 k0 A0 g0_0 r) (zdM a0 p0 q0 n0 k0 A0 g0_0 r) 2 :=
 zb5 (fun s q e => by
  cases s with
  | c0 s0_0 =>
   unfold zW at e
   dsimp only at e
   replace e := za e
   rcases e with ⟨hq0,e⟩ | ⟨hq0,e⟩
   ·replace e := za e
    rcases e with ⟨hq1,e⟩ | ⟨hq1,e⟩
    ·replace e := za e
     let P1 : List (PG Try.prog M B0 S) := [.o,.o,.o,.b (zcR hq0),.o,.o,.q (zH (kd := .i64) (T := 64) (x := s0_0) (N := ((n0 : Int)).toNat) (sz := 1) rfl (fun w => by kernel_rfl) hq1)]
     rcases e with ⟨hq2,e⟩ | ⟨hq2,e⟩
     ·cases e; exact zb hU (P1 ++ [.l (accG (i := 0) (f := cB) (A := g0_0) (k := (s0_0).toNat) 0 [.bool true] zbc (ze hq1) (congrArg (fun b => [Value.bool b]) hq2)),.o,.o,.o,.o]) [0] (fun b => rfl) (by decide) rfl rfl (fun b => by kernel_rfl)
     ·replace e := zf e
      obtain ⟨rb0,e_rb0,e⟩ := e
      try dsimp only at e
      replace e := za e
      let P2 : List (PG Try.prog M B0 S) := P1 ++ [.l (accG (i := 0) (f := cB) (A := g0_0) (k := (s0_0).toNat) 0 [.bool false] zbc (ze hq1) (congrArg (fun b => [Value.bool b]) hq2)),.o,.o,.o,.o,.xg (SpcG.own hU (f := cB) zbc ((n0 : Int)).toNat g0_0 4 (fun l => padL l ((n0 : Int)).toNat 1) (fun l => (padL l ((n0 : Int)).toNat 1).length / 1) _ 0 .normal (by intros; rfl) (by intros; rfl) (by intros; rfl) (fun M0 B0 S0 x0 u0 v0 z0 hU0 hs0 hr0 => ConG.sp (zt7 hU0 a0 p0 q0 n0 k0 A0 (Ro.mono hR0 hs0) x0 u0 v0 ((n0 : Int)).toNat z0 g0_0 hr0 s0_0 rb0 e_rb0))) [0],.o,.o]
      rcases e with ⟨hq3,e⟩ | ⟨hq3,e⟩
      ·cases e; exact zb hU (P2 ++ [.b (zdq hq3),.o,.o,.o]) [0] (fun b => rfl) (by decide) rfl rfl (fun b => by kernel_rfl)
      ·cases e; exact ⟨zhB,zb hU (P2 ++ [.b (zdU hq3),.o,.o,.o,.o,.o]) [0] (fun b => rfl) (by decide) rfl rfl (fun b => by kernel_rfl)⟩
    ·exact zd e
   ·cases e; exact ⟨zcn 0,zb hU [.o,.o,.o,.b (zb7 hq0)] [0] (fun b => rfl) (by decide) rfl rfl (fun b => by kernel_rfl)⟩) s r h
noncomputable def zeo (a0 : Option Addr) (p0 q0 n0 k0 : Nat) (A0 : Nat → Insn) (g0_0 : Nat → Bool) (s0_0 : Int) (ls : List L1) : List Value := List.append [.slice a0 n0 (n0 + k0),undef,.slice none 0 0,.int .i64 (0),.int .i64 (0),(rowV (lget ls 0) ((n0 : Int)).toNat 1),.int .i64 (s0_0)] (List.append (und 6) (List.append [.slice a0 n0 (n0 + k0),.int .i64 ((n0 : Int)),.bool false,.bool false,.slice a0 n0 (n0 + k0),.int .i64 ((n0 : Int)),.bool false,.bool false,.slice a0 n0 (n0 + k0),(rowV (lget ls 0) ((n0 : Int)).toNat 1)] (und 75)))
def zd4 (a0 : Option Addr) (p0 q0 n0 k0 : Nat) (A0 : Nat → Insn) (g0_0 : Nat → Bool) (s0_0 : Int) (ls : List L1) : List Obj := [rowO (lget ls 0) (esG cB ((n0 : Int)).toNat g0_0) 4 ((n0 : Int)).toNat 1]
theorem zgK (s0_0 : Int) (h : lpO (zW n0 A0 g0_0) (.c0 s0_0) = some (.e0 )) : SpcG Try.prog M B0 S ⟨fun ls => .code (.loop zgH) (zeo a0 p0 q0 n0 k0 A0 g0_0 s0_0 ls),zd4 a0 p0 q0 n0 k0 A0 g0_0 s0_0,1,(.exit 0),fun ls => zgC a0 p0 q0 n0 k0 A0 g0_0 (.e0 ) (ls.take 1 ++ ls.drop 1),fun ls => (zdM a0 p0 q0 n0 k0 A0 g0_0 (.e0 ) (ls.take 1 ++ ls.drop 1)).take 1 ++ List.replicate 0 unb,fun ls => (zdM a0 p0 q0 n0 k0 A0 g0_0 (.e0 ) (ls.take 1 ++ ls.drop 1)).drop 1⟩ :=
 zr hU 0 (k0 := 1) (zi6 hU a0 p0 q0 n0 k0 A0 hR0 g0_0 _ _ h) (zeo a0 p0 q0 n0 k0 A0 g0_0 s0_0) (zd4 a0 p0 q0 n0 k0 A0 g0_0 s0_0) (fun _ => rfl) (fun ls h => by match ls,h with | [l0],_ => exact ⟨by kernel_rfl,by kernel_rfl⟩) (fun ls h => by match ls,h with | [l0],_ => rfl) (by decide) (by decide) (fun ls => rfl)
theorem zlU (s0_0 : Int) (c1_0 : Int) (c1_1 : Int) (h : lpO (zW n0 A0 g0_0) (.c0 s0_0) = some (.e1 c1_0 c1_1)) : SpcG Try.prog M B0 S ⟨fun ls => .code (.loop zgH) (zeo a0 p0 q0 n0 k0 A0 g0_0 s0_0 ls),zd4 a0 p0 q0 n0 k0 A0 g0_0 s0_0,1,.ret,fun ls => zgC a0 p0 q0 n0 k0 A0 g0_0 (.e1 c1_0 c1_1) (ls.take 1 ++ ls.drop 1),fun ls => (zdM a0 p0 q0 n0 k0 A0 g0_0 (.e1 c1_0 c1_1) (ls.take 1 ++ ls.drop 1)).take 1 ++ List.replicate 0 unb,fun ls => (zdM a0 p0 q0 n0 k0 A0 g0_0 (.e1 c1_0 c1_1) (ls.take 1 ++ ls.drop 1)).drop 1⟩ :=
 zr hU 0 (k0 := 1) (zi6 hU a0 p0 q0 n0 k0 A0 hR0 g0_0 _ _ h) (zeo a0 p0 q0 n0 k0 A0 g0_0 s0_0) (zd4 a0 p0 q0 n0 k0 A0 g0_0 s0_0) (fun _ => rfl) (fun ls h => by match ls,h with | [l0],_ => exact ⟨by kernel_rfl,by kernel_rfl⟩) (fun ls h => by match ls,h with | [l0],_ => rfl) (by decide) (by decide) (fun ls => rfl)
inductive zC where
 | c0 
 | c1 (s0_0 : Nat) (s0_1 : Nat → Part) (s0_2 : Int)
inductive zX where
 | e0 
 | e1 (c1_0 : Nat) (c1_1 : Nat → Part)
 | e2 (c2_0 : Int)
noncomputable def zG (n0 : Nat) (A0 : Nat → Insn) (g0_0 : Nat → Bool) (g2_0 : Nat) (g2_1 : Nat → Int) : zC → Option (zC ⊕ zX)
 | .c0  =>
 bif decide (0 < (g2_0 : Int)) then
 (bif decide (1 < (g2_0 : Int)) then
 (bif inR 1 g2_0 then
 (bif inR (IntKind.i64.wrap ((g2_1 1) - 1)) ((n0 : Int)).toNat then
 (bif (g0_0 ((IntKind.i64.wrap ((g2_1 1) - 1))).toNat) then
 (bif inR (IntKind.i64.wrap ((IntKind.i64.wrap ((g2_1 1) - 1)) - 1)) n0 then
 (bif zi ((A0 ((IntKind.i64.wrap ((IntKind.i64.wrap ((g2_1 1) - 1)) - 1))).toNat)) 9 then
 (bif inR 0 g2_0 then
 (some (.inl (.c1 1 (fun _ => (⟨(g2_1 0),(g2_1 1)⟩ : Part)) 1)))
 else (none))
 else (bif zi ((A0 ((IntKind.i64.wrap ((IntKind.i64.wrap ((g2_1 1) - 1)) - 1))).toNat)) 0 then
 (bif inR 0 g2_0 then
 (some (.inl (.c1 1 (fun _ => (⟨(g2_1 0),(g2_1 1)⟩ : Part)) 1)))
 else (none))
 else (some (.inr (.e2 (IntKind.i64.wrap ((IntKind.i64.wrap ((g2_1 1) - 1)) - 1)))))))
 else (none))
 else (bif inR (IntKind.i64.wrap ((g2_1 1) - 1)) n0 then
 (bif zi ((A0 ((IntKind.i64.wrap ((g2_1 1) - 1))).toNat)) 9 then
 (bif inR 0 g2_0 then
 (some (.inl (.c1 1 (fun _ => (⟨(g2_1 0),(g2_1 1)⟩ : Part)) 1)))
 else (none))
 else (bif zi ((A0 ((IntKind.i64.wrap ((g2_1 1) - 1))).toNat)) 0 then
 (bif inR 0 g2_0 then
 (some (.inl (.c1 1 (fun _ => (⟨(g2_1 0),(g2_1 1)⟩ : Part)) 1)))
 else (none))
 else (some (.inr (.e2 (IntKind.i64.wrap ((g2_1 1) - 1)))))))
 else (none)))
 else (none))
 else (none))
 else (bif inR (IntKind.i64.wrap ((n0 : Int) - 1)) ((n0 : Int)).toNat then
 (bif (g0_0 ((IntKind.i64.wrap ((n0 : Int) - 1))).toNat) then
 (bif inR (IntKind.i64.wrap ((IntKind.i64.wrap ((n0 : Int) - 1)) - 1)) n0 then
 (bif zi ((A0 ((IntKind.i64.wrap ((IntKind.i64.wrap ((n0 : Int) - 1)) - 1))).toNat)) 9 then
 (bif inR 0 g2_0 then
 (some (.inl (.c1 1 (fun _ => (⟨(g2_1 0),(n0 : Int)⟩ : Part)) 1)))
 else (none))
 else (bif zi ((A0 ((IntKind.i64.wrap ((IntKind.i64.wrap ((n0 : Int) - 1)) - 1))).toNat)) 0 then
 (bif inR 0 g2_0 then
 (some (.inl (.c1 1 (fun _ => (⟨(g2_1 0),(n0 : Int)⟩ : Part)) 1)))
 else (none))
 else (some (.inr (.e2 (IntKind.i64.wrap ((IntKind.i64.wrap ((n0 : Int) - 1)) - 1)))))))
 else (none))
 else (bif inR (IntKind.i64.wrap ((n0 : Int) - 1)) n0 then
 (bif zi ((A0 ((IntKind.i64.wrap ((n0 : Int) - 1))).toNat)) 9 then
 (bif inR 0 g2_0 then
 (some (.inl (.c1 1 (fun _ => (⟨(g2_1 0),(n0 : Int)⟩ : Part)) 1)))
 else (none))
 else (bif zi ((A0 ((IntKind.i64.wrap ((n0 : Int) - 1))).toNat)) 0 then
 (bif inR 0 g2_0 then
 (some (.inl (.c1 1 (fun _ => (⟨(g2_1 0),(n0 : Int)⟩ : Part)) 1)))
 else (none))
 else (some (.inr (.e2 (IntKind.i64.wrap ((n0 : Int) - 1)))))))
 else (none)))
 else (none)))
 else (some (.inr (.e0 )))
 | .c1 s0_0 s0_1 s0_2 =>
 bif decide (s0_2 < (g2_0 : Int)) then
 (bif decide ((IntKind.i64.wrap (s0_2 + 1)) < (g2_0 : Int)) then
 (bif inR (IntKind.i64.wrap (s0_2 + 1)) g2_0 then
 (bif inR (IntKind.i64.wrap ((g2_1 ((IntKind.i64.wrap (s0_2 + 1))).toNat) - 1)) ((n0 : Int)).toNat then
 (bif (g0_0 ((IntKind.i64.wrap ((g2_1 ((IntKind.i64.wrap (s0_2 + 1))).toNat) - 1))).toNat) then
 (bif inR (IntKind.i64.wrap ((IntKind.i64.wrap ((g2_1 ((IntKind.i64.wrap (s0_2 + 1))).toNat) - 1)) - 1)) n0 then
 (bif zi ((A0 ((IntKind.i64.wrap ((IntKind.i64.wrap ((g2_1 ((IntKind.i64.wrap (s0_2 + 1))).toNat) - 1)) - 1))).toNat)) 9 then
 (bif inR s0_2 g2_0 then
 (bif decide (s0_0 ≤ 1000000) then
 (zv (updF s0_1 s0_0 (⟨(g2_1 (s0_2).toNat),(g2_1 ((IntKind.i64.wrap (s0_2 + 1))).toNat)⟩ : Part)) fun rb0 =>
 some (.inl (.c1 (s0_0 + 1) rb0 (IntKind.i64.wrap (s0_2 + 1)))))
 else (none))
 else (none))
 else (bif zi ((A0 ((IntKind.i64.wrap ((IntKind.i64.wrap ((g2_1 ((IntKind.i64.wrap (s0_2 + 1))).toNat) - 1)) - 1))).toNat)) 0 then
 (bif inR s0_2 g2_0 then
 (bif decide (s0_0 ≤ 1000000) then
 (zv (updF s0_1 s0_0 (⟨(g2_1 (s0_2).toNat),(g2_1 ((IntKind.i64.wrap (s0_2 + 1))).toNat)⟩ : Part)) fun rb0 =>
 some (.inl (.c1 (s0_0 + 1) rb0 (IntKind.i64.wrap (s0_2 + 1)))))
 else (none))
 else (none))
 else (some (.inr (.e2 (IntKind.i64.wrap ((IntKind.i64.wrap ((g2_1 ((IntKind.i64.wrap (s0_2 + 1))).toNat) - 1)) - 1)))))))
 else (none))
 else (bif inR (IntKind.i64.wrap ((g2_1 ((IntKind.i64.wrap (s0_2 + 1))).toNat) - 1)) n0 then
 (bif zi ((A0 ((IntKind.i64.wrap ((g2_1 ((IntKind.i64.wrap (s0_2 + 1))).toNat) - 1))).toNat)) 9 then
 (bif inR s0_2 g2_0 then
 (bif decide (s0_0 ≤ 1000000) then
 (zv (updF s0_1 s0_0 (⟨(g2_1 (s0_2).toNat),(g2_1 ((IntKind.i64.wrap (s0_2 + 1))).toNat)⟩ : Part)) fun rb0 =>
 some (.inl (.c1 (s0_0 + 1) rb0 (IntKind.i64.wrap (s0_2 + 1)))))
 else (none))
 else (none))
 else (bif zi ((A0 ((IntKind.i64.wrap ((g2_1 ((IntKind.i64.wrap (s0_2 + 1))).toNat) - 1))).toNat)) 0 then
 (bif inR s0_2 g2_0 then
 (bif decide (s0_0 ≤ 1000000) then
 (zv (updF s0_1 s0_0 (⟨(g2_1 (s0_2).toNat),(g2_1 ((IntKind.i64.wrap (s0_2 + 1))).toNat)⟩ : Part)) fun rb0 =>
 some (.inl (.c1 (s0_0 + 1) rb0 (IntKind.i64.wrap (s0_2 + 1)))))
 else (none))
 else (none))
 else (some (.inr (.e2 (IntKind.i64.wrap ((g2_1 ((IntKind.i64.wrap (s0_2 + 1))).toNat) - 1)))))))
 else (none)))
 else (none))
 else (none))
 else (bif inR (IntKind.i64.wrap ((n0 : Int) - 1)) ((n0 : Int)).toNat then
 (bif (g0_0 ((IntKind.i64.wrap ((n0 : Int) - 1))).toNat) then
 (bif inR (IntKind.i64.wrap ((IntKind.i64.wrap ((n0 : Int) - 1)) - 1)) n0 then
 (bif zi ((A0 ((IntKind.i64.wrap ((IntKind.i64.wrap ((n0 : Int) - 1)) - 1))).toNat)) 9 then
 (bif inR s0_2 g2_0 then
 (bif decide (s0_0 ≤ 1000000) then
 (some (.inl (.c1 (s0_0 + 1) (updF s0_1 s0_0 (⟨(g2_1 (s0_2).toNat),(n0 : Int)⟩ : Part)) (IntKind.i64.wrap (s0_2 + 1)))))
 else (none))
 else (none))
 else (bif zi ((A0 ((IntKind.i64.wrap ((IntKind.i64.wrap ((n0 : Int) - 1)) - 1))).toNat)) 0 then
 (bif inR s0_2 g2_0 then
 (bif decide (s0_0 ≤ 1000000) then
 (some (.inl (.c1 (s0_0 + 1) (updF s0_1 s0_0 (⟨(g2_1 (s0_2).toNat),(n0 : Int)⟩ : Part)) (IntKind.i64.wrap (s0_2 + 1)))))
 else (none))
 else (none))
 else (some (.inr (.e2 (IntKind.i64.wrap ((IntKind.i64.wrap ((n0 : Int) - 1)) - 1)))))))
 else (none))
 else (bif inR (IntKind.i64.wrap ((n0 : Int) - 1)) n0 then
 (bif zi ((A0 ((IntKind.i64.wrap ((n0 : Int) - 1))).toNat)) 9 then
 (bif inR s0_2 g2_0 then
 (bif decide (s0_0 ≤ 1000000) then
 (some (.inl (.c1 (s0_0 + 1) (updF s0_1 s0_0 (⟨(g2_1 (s0_2).toNat),(n0 : Int)⟩ : Part)) (IntKind.i64.wrap (s0_2 + 1)))))
 else (none))
 else (none))
 else (bif zi ((A0 ((IntKind.i64.wrap ((n0 : Int) - 1))).toNat)) 0 then
 (bif inR s0_2 g2_0 then
 (bif decide (s0_0 ≤ 1000000) then
 (some (.inl (.c1 (s0_0 + 1) (updF s0_1 s0_0 (⟨(g2_1 (s0_2).toNat),(n0 : Int)⟩ : Part)) (IntKind.i64.wrap (s0_2 + 1)))))
 else (none))
 else (none))
 else (some (.inr (.e2 (IntKind.i64.wrap ((n0 : Int) - 1)))))))
 else (none)))
 else (none)))
 else (some (.inr (.e1 s0_0 s0_1)))
noncomputable def zeJ : Code := zb6 Try.f46 [1,1,1,1,1,1,1,0,1,0,0]
def zqj (a0 : Option Addr) (p0 q0 n0 k0 : Nat) (A0 : Nat → Insn) (g0_0 : Nat → Bool) (g2_0 : Nat) (g2_1 : Nat → Int) : zC → List L1 → List Value
 | .c0 ,ls => [.slice a0 n0 (n0 + k0),.slice none 0 0,.int .i64 (0),.int .i64 (0),(rowV (lget ls 0) ((n0 : Int)).toNat 1),(rowV (lget ls 2) g2_0 1),.slice none 0 0,.int .i64 (0),((lget ls 1).u 97)]
 | .c1 s0_0 s0_1 s0_2,ls => [.slice a0 n0 (n0 + k0),.slice none 0 0,.int .i64 (0),.int .i64 (0),(rowV (lget ls 0) ((n0 : Int)).toNat 1),(rowV (lget ls 2) g2_0 1),(rowV (lget ls 3) s0_0 2),.int .i64 (s0_2),((lget ls 1).u 97)]
def zqz : zC → List (Nat × Nat)
 | .c0  => [(1,1),(4,2),(3,86),(1,0)]
 | .c1 _ _ _ => [(1,1),(4,2),(3,86),(1,0)]
noncomputable def zqw (a0 : Option Addr) (p0 q0 n0 k0 : Nat) (A0 : Nat → Insn) (g0_0 : Nat → Bool) (g2_0 : Nat) (g2_1 : Nat → Int) (s : zC) : List L1 → List Value := mrgF (zqz s) (zqj a0 p0 q0 n0 k0 A0 g0_0 g2_0 g2_1 s) 4
def zqg (a0 : Option Addr) (p0 q0 n0 k0 : Nat) (A0 : Nat → Insn) (g0_0 : Nat → Bool) (g2_0 : Nat) (g2_1 : Nat → Int) : zC → List L1 → List Obj
 | .c0 ,ls => [rowO (lget ls 0) (esG cB ((n0 : Int)).toNat g0_0) 4 ((n0 : Int)).toNat 1,unb,rowO (lget ls 2) (esG cZ g2_0 g2_1) 3 g2_0 1,unb,unb]
 | .c1 s0_0 s0_1 s0_2,ls => [rowO (lget ls 0) (esG cB ((n0 : Int)).toNat g0_0) 4 ((n0 : Int)).toNat 1,unb,rowO (lget ls 2) (esG cZ g2_0 g2_1) 3 g2_0 1,rowO (lget ls 3) (esG zdf s0_0 s0_1) 75 s0_0 2,unb]
def zqF (a0 : Option Addr) (p0 q0 n0 k0 : Nat) (A0 : Nat → Insn) (g0_0 : Nat → Bool) (g2_0 : Nat) (g2_1 : Nat → Int) : zX → List L1 → List Value
 | .e0 ,ls => [.slice a0 n0 (n0 + k0),.slice none 0 0,.int .i64 (0),.int .i64 (0),(rowV (lget ls 0) ((n0 : Int)).toNat 1),(rowV (lget ls 2) g2_0 1),.slice none 0 0,((lget ls 1).u 97)]
 | .e1 c1_0 c1_1,ls => [.slice a0 n0 (n0 + k0),.slice none 0 0,.int .i64 (0),.int .i64 (0),(rowV (lget ls 0) ((n0 : Int)).toNat 1),(rowV (lget ls 2) g2_0 1),(rowV (lget ls 3) c1_0 2),((lget ls 1).u 97)]
 | .e2 c2_0,ls => [.slice a0 n0 (n0 + k0),.slice none 0 0,.int .i64 (c2_0),.int .i64 (16),(rowV (lget ls 0) ((n0 : Int)).toNat 1),(rowV (lget ls 2) g2_0 1),((lget ls 1).u 97)]
def zp4 : zX → List (Nat × Nat)
 | .e0  => [(1,1),(4,2),(2,87),(1,0)]
 | .e1 _ _ => [(1,1),(4,2),(2,87),(1,0)]
 | .e2 _ => [(1,1),(4,2),(1,88),(1,0)]
noncomputable def zeK (a0 : Option Addr) (p0 q0 n0 k0 : Nat) (A0 : Nat → Insn) (g0_0 : Nat → Bool) (g2_0 : Nat) (g2_1 : Nat → Int) (r : zX) : List L1 → List Value := mrgF (zp4 r) (zqF a0 p0 q0 n0 k0 A0 g0_0 g2_0 g2_1 r) 4
def zcI (a0 : Option Addr) (p0 q0 n0 k0 : Nat) (A0 : Nat → Insn) (g0_0 : Nat → Bool) (g2_0 : Nat) (g2_1 : Nat → Int) : zX → List L1 → List Obj
 | .e0 ,ls => [rowO (lget ls 0) (esG cB ((n0 : Int)).toNat g0_0) 4 ((n0 : Int)).toNat 1,unb,rowO (lget ls 2) (esG cZ g2_0 g2_1) 3 g2_0 1,unb,unb]
 | .e1 c1_0 c1_1,ls => [rowO (lget ls 0) (esG cB ((n0 : Int)).toNat g0_0) 4 ((n0 : Int)).toNat 1,unb,rowO (lget ls 2) (esG cZ g2_0 g2_1) 3 g2_0 1,rowO (lget ls 3) (esG zdf c1_0 c1_1) 75 c1_0 2,unb]
 | .e2 c2_0,ls => [rowO (lget ls 0) (esG cB ((n0 : Int)).toNat g0_0) 4 ((n0 : Int)).toNat 1,unb,rowO (lget ls 2) (esG cZ g2_0 g2_1) 3 g2_0 1,unb,unb]
def zqJ : zX → Ex
 | .e0  => (.exit 2)
 | .e1 _ _ => (.exit 2)
 | .e2 _ => .ret
theorem zgI (g2_0 : Nat) (g2_1 : Nat → Int) (s : zC) (r : zX) (h : lpO (zG n0 A0 g0_0 g2_0 g2_1) s = some r) : zdm Try.prog M B0 S (.loop zeJ) 5 (zqw a0 p0 q0 n0 k0 A0 g0_0 g2_0 g2_1 s) (zqg a0 p0 q0 n0 k0 A0 g0_0 g2_0 g2_1 s) (zqJ r) 3 (zeK a0 p0 q0 n0 k0 A0 g0_0 g2_0 g2_1 r) (zcI a0 p0 q0 n0 k0 A0 g0_0 g2_0 g2_1 r) 5 :=
 zb5 (fun s q e => by
  cases s with
  | c0  =>
   unfold zG at e
   dsimp only at e
   replace e := za e
   let P1 : List (PG Try.prog M B0 S) := [.o,.o,.o]
   rcases e with ⟨hq0,e⟩ | ⟨hq0,e⟩
   ·replace e := za e
    let P2 : List (PG Try.prog M B0 S) := P1 ++ [.b (zcR hq0),.o,.o,.o,.o,.o,.o,.o]
    rcases e with ⟨hq1,e⟩ | ⟨hq1,e⟩
    ·replace e := za e
     let P3 : List (PG Try.prog M B0 S) := P2 ++ [.b (zcR hq1),.o,.o,.o]
     rcases e with ⟨hq2,e⟩ | ⟨hq2,e⟩
     ·replace e := za e
      let P4 : List (PG Try.prog M B0 S) := P3 ++ [.q (zH (kd := .i64) (T := 36) (x := 1) (N := g2_0) (sz := 1) rfl (fun w => by kernel_rfl) hq2),.l (accG (i := 2) (f := cZ) (A := g2_1) (k := 1) 0 [.int .i64 ((g2_1 1))] zb1 (ze hq2) rfl),.o,.o,.o,.o,.o,.o]
      rcases e with ⟨hq3,e⟩ | ⟨hq3,e⟩
      ·replace e := za e
       let P5 : List (PG Try.prog M B0 S) := P4 ++ [.q (zH (kd := .i64) (T := 64) (x := (IntKind.i64.wrap ((g2_1 1) - 1))) (N := ((n0 : Int)).toNat) (sz := 1) rfl (fun w => by kernel_rfl) hq3)]
       rcases e with ⟨hq4,e⟩ | ⟨hq4,e⟩
       ·replace e := za e
        let P6 : List (PG Try.prog M B0 S) := P5 ++ [.l (accG (i := 0) (f := cB) (A := g0_0) (k := ((IntKind.i64.wrap ((g2_1 1) - 1))).toNat) 0 [.bool true] zbc (ze hq3) (congrArg (fun b => [Value.bool b]) hq4)),.o,.o,.o,.o,.o]
        rcases e with ⟨hq5,e⟩ | ⟨hq5,e⟩
        ·replace e := za e
         let P7 : List (PG Try.prog M B0 S) := P6 ++ [.q (zA (kd := .i64) (T := 22) (x := (IntKind.i64.wrap ((IntKind.i64.wrap ((g2_1 1) - 1)) - 1))) (sz := 5) rfl (fun w => by kernel_rfl) hR0 hq5),.l (zcm hR0 zj (ze hq5) 0 [.int .u8 (nn ((A0 ((IntKind.i64.wrap ((IntKind.i64.wrap ((g2_1 1) - 1)) - 1))).toNat)).fOp),.int .u8 (nn ((A0 ((IntKind.i64.wrap ((IntKind.i64.wrap ((g2_1 1) - 1)) - 1))).toNat)).fDst),.int .u8 (nn ((A0 ((IntKind.i64.wrap ((IntKind.i64.wrap ((g2_1 1) - 1)) - 1))).toNat)).fSrc),.int .i16 (ii ((A0 ((IntKind.i64.wrap ((IntKind.i64.wrap ((g2_1 1) - 1)) - 1))).toNat)).fOff),.int .i32 (ii ((A0 ((IntKind.i64.wrap ((IntKind.i64.wrap ((g2_1 1) - 1)) - 1))).toNat)).fImm)] rfl)]
         rcases e with ⟨hq6,e⟩ | ⟨hq6,e⟩
         ·replace e := za e
          rcases e with ⟨hq7,e⟩ | ⟨hq7,e⟩
          ·cases e; exact zb hU (P7 ++ [.cg (zh hU ((A0 ((IntKind.i64.wrap ((IntKind.i64.wrap ((g2_1 1) - 1)) - 1))).toNat)) 9 true hq6),.o,.o,.o,.o,.o,.o,.q (zH (kd := .i64) (T := 36) (x := 0) (N := g2_0) (sz := 1) rfl (fun w => by kernel_rfl) hq7),.l (accG (i := 2) (f := cZ) (A := g2_1) (k := 0) 0 [.int .i64 ((g2_1 0))] zb1 (ze hq7) rfl),.o,.o,.o,.x (zet (ty := 71) rt71 #[false,false] (f := zdf) (c := 1) (⟨(g2_1 0),(g2_1 1)⟩ : Part) (T' := 75) zbn zcO (by decide)) [5],.o,.o,.o,.o]) [0,1,2,6] (fun b => rfl) (by decide) rfl rfl (fun b => by kernel_rfl)
          ·exact zd e
         ·replace e := za e
          let P8 : List (PG Try.prog M B0 S) := P7 ++ [.cg (zh hU ((A0 ((IntKind.i64.wrap ((IntKind.i64.wrap ((g2_1 1) - 1)) - 1))).toNat)) 9 false hq6),.o,.o,.o,.o,.q (zA (kd := .i64) (T := 22) (x := (IntKind.i64.wrap ((IntKind.i64.wrap ((g2_1 1) - 1)) - 1))) (sz := 5) rfl (fun w => by kernel_rfl) hR0 hq5),.l (zcm hR0 zj (ze hq5) 0 [.int .u8 (nn ((A0 ((IntKind.i64.wrap ((IntKind.i64.wrap ((g2_1 1) - 1)) - 1))).toNat)).fOp),.int .u8 (nn ((A0 ((IntKind.i64.wrap ((IntKind.i64.wrap ((g2_1 1) - 1)) - 1))).toNat)).fDst),.int .u8 (nn ((A0 ((IntKind.i64.wrap ((IntKind.i64.wrap ((g2_1 1) - 1)) - 1))).toNat)).fSrc),.int .i16 (ii ((A0 ((IntKind.i64.wrap ((IntKind.i64.wrap ((g2_1 1) - 1)) - 1))).toNat)).fOff),.int .i32 (ii ((A0 ((IntKind.i64.wrap ((IntKind.i64.wrap ((g2_1 1) - 1)) - 1))).toNat)).fImm)] rfl)]
          rcases e with ⟨hq7,e⟩ | ⟨hq7,e⟩
          ·replace e := za e
           rcases e with ⟨hq8,e⟩ | ⟨hq8,e⟩
           ·cases e; exact zb hU (P8 ++ [.cg (zh hU ((A0 ((IntKind.i64.wrap ((IntKind.i64.wrap ((g2_1 1) - 1)) - 1))).toNat)) 0 true hq7),.o,.o,.o,.o,.o,.q (zH (kd := .i64) (T := 36) (x := 0) (N := g2_0) (sz := 1) rfl (fun w => by kernel_rfl) hq8),.l (accG (i := 2) (f := cZ) (A := g2_1) (k := 0) 0 [.int .i64 ((g2_1 0))] zb1 (ze hq8) rfl),.o,.o,.o,.x (zet (ty := 71) rt71 #[false,false] (f := zdf) (c := 1) (⟨(g2_1 0),(g2_1 1)⟩ : Part) (T' := 75) zbn zcO (by decide)) [5],.o,.o,.o,.o]) [0,1,2,6] (fun b => rfl) (by decide) rfl rfl (fun b => by kernel_rfl)
           ·exact zd e
          ·cases e; exact ⟨zhB,zb hU (P8 ++ [.cg (zh hU ((A0 ((IntKind.i64.wrap ((IntKind.i64.wrap ((g2_1 1) - 1)) - 1))).toNat)) 0 false hq7),.o,.o,.o,.o,.o,.o]) [0,1,2,3] (fun b => rfl) (by decide) rfl rfl (fun b => by kernel_rfl)⟩
        ·exact zd e
       ·replace e := za e
        let P9 : List (PG Try.prog M B0 S) := P5 ++ [.l (accG (i := 0) (f := cB) (A := g0_0) (k := ((IntKind.i64.wrap ((g2_1 1) - 1))).toNat) 0 [.bool false] zbc (ze hq3) (congrArg (fun b => [Value.bool b]) hq4)),.o,.o]
        rcases e with ⟨hq5,e⟩ | ⟨hq5,e⟩
        ·replace e := za e
         let P10 : List (PG Try.prog M B0 S) := P9 ++ [.q (zA (kd := .i64) (T := 22) (x := (IntKind.i64.wrap ((g2_1 1) - 1))) (sz := 5) rfl (fun w => by kernel_rfl) hR0 hq5),.l (zcm hR0 zj (ze hq5) 0 [.int .u8 (nn ((A0 ((IntKind.i64.wrap ((g2_1 1) - 1))).toNat)).fOp),.int .u8 (nn ((A0 ((IntKind.i64.wrap ((g2_1 1) - 1))).toNat)).fDst),.int .u8 (nn ((A0 ((IntKind.i64.wrap ((g2_1 1) - 1))).toNat)).fSrc),.int .i16 (ii ((A0 ((IntKind.i64.wrap ((g2_1 1) - 1))).toNat)).fOff),.int .i32 (ii ((A0 ((IntKind.i64.wrap ((g2_1 1) - 1))).toNat)).fImm)] rfl)]
         rcases e with ⟨hq6,e⟩ | ⟨hq6,e⟩
         ·replace e := za e
          rcases e with ⟨hq7,e⟩ | ⟨hq7,e⟩
          ·cases e; exact zb hU (P10 ++ [.cg (zh hU ((A0 ((IntKind.i64.wrap ((g2_1 1) - 1))).toNat)) 9 true hq6),.o,.o,.o,.o,.o,.o,.q (zH (kd := .i64) (T := 36) (x := 0) (N := g2_0) (sz := 1) rfl (fun w => by kernel_rfl) hq7),.l (accG (i := 2) (f := cZ) (A := g2_1) (k := 0) 0 [.int .i64 ((g2_1 0))] zb1 (ze hq7) rfl),.o,.o,.o,.x (zet (ty := 71) rt71 #[false,false] (f := zdf) (c := 1) (⟨(g2_1 0),(g2_1 1)⟩ : Part) (T' := 75) zbn zcO (by decide)) [5],.o,.o,.o,.o]) [0,1,2,6] (fun b => rfl) (by decide) rfl rfl (fun b => by kernel_rfl)
          ·exact zd e
         ·replace e := za e
          let P11 : List (PG Try.prog M B0 S) := P10 ++ [.cg (zh hU ((A0 ((IntKind.i64.wrap ((g2_1 1) - 1))).toNat)) 9 false hq6),.o,.o,.o,.o,.q (zA (kd := .i64) (T := 22) (x := (IntKind.i64.wrap ((g2_1 1) - 1))) (sz := 5) rfl (fun w => by kernel_rfl) hR0 hq5),.l (zcm hR0 zj (ze hq5) 0 [.int .u8 (nn ((A0 ((IntKind.i64.wrap ((g2_1 1) - 1))).toNat)).fOp),.int .u8 (nn ((A0 ((IntKind.i64.wrap ((g2_1 1) - 1))).toNat)).fDst),.int .u8 (nn ((A0 ((IntKind.i64.wrap ((g2_1 1) - 1))).toNat)).fSrc),.int .i16 (ii ((A0 ((IntKind.i64.wrap ((g2_1 1) - 1))).toNat)).fOff),.int .i32 (ii ((A0 ((IntKind.i64.wrap ((g2_1 1) - 1))).toNat)).fImm)] rfl)]
          rcases e with ⟨hq7,e⟩ | ⟨hq7,e⟩
          ·replace e := za e
           rcases e with ⟨hq8,e⟩ | ⟨hq8,e⟩
           ·cases e; exact zb hU (P11 ++ [.cg (zh hU ((A0 ((IntKind.i64.wrap ((g2_1 1) - 1))).toNat)) 0 true hq7),.o,.o,.o,.o,.o,.q (zH (kd := .i64) (T := 36) (x := 0) (N := g2_0) (sz := 1) rfl (fun w => by kernel_rfl) hq8),.l (accG (i := 2) (f := cZ) (A := g2_1) (k := 0) 0 [.int .i64 ((g2_1 0))] zb1 (ze hq8) rfl),.o,.o,.o,.x (zet (ty := 71) rt71 #[false,false] (f := zdf) (c := 1) (⟨(g2_1 0),(g2_1 1)⟩ : Part) (T' := 75) zbn zcO (by decide)) [5],.o,.o,.o,.o]) [0,1,2,6] (fun b => rfl) (by decide) rfl rfl (fun b => by kernel_rfl)
           ·exact zd e
          ·cases e; exact ⟨zhB,zb hU (P11 ++ [.cg (zh hU ((A0 ((IntKind.i64.wrap ((g2_1 1) - 1))).toNat)) 0 false hq7),.o,.o,.o,.o,.o,.o]) [0,1,2,3] (fun b => rfl) (by decide) rfl rfl (fun b => by kernel_rfl)⟩
        ·exact zd e
      ·exact zd e
     ·exact zd e
    ·replace e := za e
     let P12 : List (PG Try.prog M B0 S) := P2 ++ [.b (zb7 hq1),.o,.o,.o,.o,.o]
     rcases e with ⟨hq2,e⟩ | ⟨hq2,e⟩
     ·replace e := za e
      let P13 : List (PG Try.prog M B0 S) := P12 ++ [.q (zH (kd := .i64) (T := 64) (x := (IntKind.i64.wrap ((n0 : Int) - 1))) (N := ((n0 : Int)).toNat) (sz := 1) rfl (fun w => by kernel_rfl) hq2)]
      rcases e with ⟨hq3,e⟩ | ⟨hq3,e⟩
      ·replace e := za e
       let P14 : List (PG Try.prog M B0 S) := P13 ++ [.l (accG (i := 0) (f := cB) (A := g0_0) (k := ((IntKind.i64.wrap ((n0 : Int) - 1))).toNat) 0 [.bool true] zbc (ze hq2) (congrArg (fun b => [Value.bool b]) hq3)),.o,.o,.o,.o,.o]
       rcases e with ⟨hq4,e⟩ | ⟨hq4,e⟩
       ·replace e := za e
        let P15 : List (PG Try.prog M B0 S) := P14 ++ [.q (zA (kd := .i64) (T := 22) (x := (IntKind.i64.wrap ((IntKind.i64.wrap ((n0 : Int) - 1)) - 1))) (sz := 5) rfl (fun w => by kernel_rfl) hR0 hq4),.l (zcm hR0 zj (ze hq4) 0 [.int .u8 (nn ((A0 ((IntKind.i64.wrap ((IntKind.i64.wrap ((n0 : Int) - 1)) - 1))).toNat)).fOp),.int .u8 (nn ((A0 ((IntKind.i64.wrap ((IntKind.i64.wrap ((n0 : Int) - 1)) - 1))).toNat)).fDst),.int .u8 (nn ((A0 ((IntKind.i64.wrap ((IntKind.i64.wrap ((n0 : Int) - 1)) - 1))).toNat)).fSrc),.int .i16 (ii ((A0 ((IntKind.i64.wrap ((IntKind.i64.wrap ((n0 : Int) - 1)) - 1))).toNat)).fOff),.int .i32 (ii ((A0 ((IntKind.i64.wrap ((IntKind.i64.wrap ((n0 : Int) - 1)) - 1))).toNat)).fImm)] rfl)]
        rcases e with ⟨hq5,e⟩ | ⟨hq5,e⟩
        ·replace e := za e
         rcases e with ⟨hq6,e⟩ | ⟨hq6,e⟩
         ·cases e; exact zb hU (P15 ++ [.cg (zh hU ((A0 ((IntKind.i64.wrap ((IntKind.i64.wrap ((n0 : Int) - 1)) - 1))).toNat)) 9 true hq5),.o,.o,.o,.o,.o,.o,.q (zH (kd := .i64) (T := 36) (x := 0) (N := g2_0) (sz := 1) rfl (fun w => by kernel_rfl) hq6),.l (accG (i := 2) (f := cZ) (A := g2_1) (k := 0) 0 [.int .i64 ((g2_1 0))] zb1 (ze hq6) rfl),.o,.o,.o,.x (zet (ty := 71) rt71 #[false,false] (f := zdf) (c := 1) (⟨(g2_1 0),(n0 : Int)⟩ : Part) (T' := 75) zbn zcO (by decide)) [5],.o,.o,.o,.o]) [0,1,2,6] (fun b => rfl) (by decide) rfl rfl (fun b => by kernel_rfl)
         ·exact zd e
        ·replace e := za e
         let P16 : List (PG Try.prog M B0 S) := P15 ++ [.cg (zh hU ((A0 ((IntKind.i64.wrap ((IntKind.i64.wrap ((n0 : Int) - 1)) - 1))).toNat)) 9 false hq5),.o,.o,.o,.o,.q (zA (kd := .i64) (T := 22) (x := (IntKind.i64.wrap ((IntKind.i64.wrap ((n0 : Int) - 1)) - 1))) (sz := 5) rfl (fun w => by kernel_rfl) hR0 hq4),.l (zcm hR0 zj (ze hq4) 0 [.int .u8 (nn ((A0 ((IntKind.i64.wrap ((IntKind.i64.wrap ((n0 : Int) - 1)) - 1))).toNat)).fOp),.int .u8 (nn ((A0 ((IntKind.i64.wrap ((IntKind.i64.wrap ((n0 : Int) - 1)) - 1))).toNat)).fDst),.int .u8 (nn ((A0 ((IntKind.i64.wrap ((IntKind.i64.wrap ((n0 : Int) - 1)) - 1))).toNat)).fSrc),.int .i16 (ii ((A0 ((IntKind.i64.wrap ((IntKind.i64.wrap ((n0 : Int) - 1)) - 1))).toNat)).fOff),.int .i32 (ii ((A0 ((IntKind.i64.wrap ((IntKind.i64.wrap ((n0 : Int) - 1)) - 1))).toNat)).fImm)] rfl)]
         rcases e with ⟨hq6,e⟩ | ⟨hq6,e⟩
         ·replace e := za e
          rcases e with ⟨hq7,e⟩ | ⟨hq7,e⟩
          ·cases e; exact zb hU (P16 ++ [.cg (zh hU ((A0 ((IntKind.i64.wrap ((IntKind.i64.wrap ((n0 : Int) - 1)) - 1))).toNat)) 0 true hq6),.o,.o,.o,.o,.o,.q (zH (kd := .i64) (T := 36) (x := 0) (N := g2_0) (sz := 1) rfl (fun w => by kernel_rfl) hq7),.l (accG (i := 2) (f := cZ) (A := g2_1) (k := 0) 0 [.int .i64 ((g2_1 0))] zb1 (ze hq7) rfl),.o,.o,.o,.x (zet (ty := 71) rt71 #[false,false] (f := zdf) (c := 1) (⟨(g2_1 0),(n0 : Int)⟩ : Part) (T' := 75) zbn zcO (by decide)) [5],.o,.o,.o,.o]) [0,1,2,6] (fun b => rfl) (by decide) rfl rfl (fun b => by kernel_rfl)
          ·exact zd e
         ·cases e; exact ⟨zhB,zb hU (P16 ++ [.cg (zh hU ((A0 ((IntKind.i64.wrap ((IntKind.i64.wrap ((n0 : Int) - 1)) - 1))).toNat)) 0 false hq6),.o,.o,.o,.o,.o,.o]) [0,1,2,3] (fun b => rfl) (by decide) rfl rfl (fun b => by kernel_rfl)⟩
       ·exact zd e
      ·replace e := za e
       let P17 : List (PG Try.prog M B0 S) := P13 ++ [.l (accG (i := 0) (f := cB) (A := g0_0) (k := ((IntKind.i64.wrap ((n0 : Int) - 1))).toNat) 0 [.bool false] zbc (ze hq2) (congrArg (fun b => [Value.bool b]) hq3)),.o,.o]
       rcases e with ⟨hq4,e⟩ | ⟨hq4,e⟩
       ·replace e := za e
        let P18 : List (PG Try.prog M B0 S) := P17 ++ [.q (zA (kd := .i64) (T := 22) (x := (IntKind.i64.wrap ((n0 : Int) - 1))) (sz := 5) rfl (fun w => by kernel_rfl) hR0 hq4),.l (zcm hR0 zj (ze hq4) 0 [.int .u8 (nn ((A0 ((IntKind.i64.wrap ((n0 : Int) - 1))).toNat)).fOp),.int .u8 (nn ((A0 ((IntKind.i64.wrap ((n0 : Int) - 1))).toNat)).fDst),.int .u8 (nn ((A0 ((IntKind.i64.wrap ((n0 : Int) - 1))).toNat)).fSrc),.int .i16 (ii ((A0 ((IntKind.i64.wrap ((n0 : Int) - 1))).toNat)).fOff),.int .i32 (ii ((A0 ((IntKind.i64.wrap ((n0 : Int) - 1))).toNat)).fImm)] rfl)]
        rcases e with ⟨hq5,e⟩ | ⟨hq5,e⟩
        ·replace e := za e
         rcases e with ⟨hq6,e⟩ | ⟨hq6,e⟩
         ·cases e; exact zb hU (P18 ++ [.cg (zh hU ((A0 ((IntKind.i64.wrap ((n0 : Int) - 1))).toNat)) 9 true hq5),.o,.o,.o,.o,.o,.o,.q (zH (kd := .i64) (T := 36) (x := 0) (N := g2_0) (sz := 1) rfl (fun w => by kernel_rfl) hq6),.l (accG (i := 2) (f := cZ) (A := g2_1) (k := 0) 0 [.int .i64 ((g2_1 0))] zb1 (ze hq6) rfl),.o,.o,.o,.x (zet (ty := 71) rt71 #[false,false] (f := zdf) (c := 1) (⟨(g2_1 0),(n0 : Int)⟩ : Part) (T' := 75) zbn zcO (by decide)) [5],.o,.o,.o,.o]) [0,1,2,6] (fun b => rfl) (by decide) rfl rfl (fun b => by kernel_rfl)
         ·exact zd e
        ·replace e := za e
         let P19 : List (PG Try.prog M B0 S) := P18 ++ [.cg (zh hU ((A0 ((IntKind.i64.wrap ((n0 : Int) - 1))).toNat)) 9 false hq5),.o,.o,.o,.o,.q (zA (kd := .i64) (T := 22) (x := (IntKind.i64.wrap ((n0 : Int) - 1))) (sz := 5) rfl (fun w => by kernel_rfl) hR0 hq4),.l (zcm hR0 zj (ze hq4) 0 [.int .u8 (nn ((A0 ((IntKind.i64.wrap ((n0 : Int) - 1))).toNat)).fOp),.int .u8 (nn ((A0 ((IntKind.i64.wrap ((n0 : Int) - 1))).toNat)).fDst),.int .u8 (nn ((A0 ((IntKind.i64.wrap ((n0 : Int) - 1))).toNat)).fSrc),.int .i16 (ii ((A0 ((IntKind.i64.wrap ((n0 : Int) - 1))).toNat)).fOff),.int .i32 (ii ((A0 ((IntKind.i64.wrap ((n0 : Int) - 1))).toNat)).fImm)] rfl)]
         rcases e with ⟨hq6,e⟩ | ⟨hq6,e⟩
         ·replace e := za e
          rcases e with ⟨hq7,e⟩ | ⟨hq7,e⟩
          ·cases e; exact zb hU (P19 ++ [.cg (zh hU ((A0 ((IntKind.i64.wrap ((n0 : Int) - 1))).toNat)) 0 true hq6),.o,.o,.o,.o,.o,.q (zH (kd := .i64) (T := 36) (x := 0) (N := g2_0) (sz := 1) rfl (fun w => by kernel_rfl) hq7),.l (accG (i := 2) (f := cZ) (A := g2_1) (k := 0) 0 [.int .i64 ((g2_1 0))] zb1 (ze hq7) rfl),.o,.o,.o,.x (zet (ty := 71) rt71 #[false,false] (f := zdf) (c := 1) (⟨(g2_1 0),(n0 : Int)⟩ : Part) (T' := 75) zbn zcO (by decide)) [5],.o,.o,.o,.o]) [0,1,2,6] (fun b => rfl) (by decide) rfl rfl (fun b => by kernel_rfl)
          ·exact zd e
         ·cases e; exact ⟨zhB,zb hU (P19 ++ [.cg (zh hU ((A0 ((IntKind.i64.wrap ((n0 : Int) - 1))).toNat)) 0 false hq6),.o,.o,.o,.o,.o,.o]) [0,1,2,3] (fun b => rfl) (by decide) rfl rfl (fun b => by kernel_rfl)⟩
       ·exact zd e
     ·exact zd e
   ·cases e; exact ⟨zcn 2,zb hU (P1 ++ [.b (zb7 hq0)]) [0,1,2,3] (fun b => rfl) (by decide) rfl rfl (fun b => by kernel_rfl)⟩
  | c1 s0_0 s0_1 s0_2 =>
   unfold zG at e
   dsimp only at e
   replace e := za e
   let P20 : List (PG Try.prog M B0 S) := [.o,.o,.o]
   rcases e with ⟨hq0,e⟩ | ⟨hq0,e⟩
   ·replace e := za e
    let P21 : List (PG Try.prog M B0 S) := P20 ++ [.b (zcR hq0),.o,.o,.o,.o,.o,.o,.o]
    rcases e with ⟨hq1,e⟩ | ⟨hq1,e⟩
    ·replace e := za e
     let P22 : List (PG Try.prog M B0 S) := P21 ++ [.b (zcR hq1),.o,.o,.o]
     rcases e with ⟨hq2,e⟩ | ⟨hq2,e⟩
     ·replace e := za e
      let P23 : List (PG Try.prog M B0 S) := P22 ++ [.q (zH (kd := .i64) (T := 36) (x := (IntKind.i64.wrap (s0_2 + 1))) (N := g2_0) (sz := 1) rfl (fun w => by kernel_rfl) hq2),.l (accG (i := 2) (f := cZ) (A := g2_1) (k := ((IntKind.i64.wrap (s0_2 + 1))).toNat) 0 [.int .i64 ((g2_1 ((IntKind.i64.wrap (s0_2 + 1))).toNat))] zb1 (ze hq2) rfl),.o,.o,.o,.o,.o,.o]
      rcases e with ⟨hq3,e⟩ | ⟨hq3,e⟩
      ·replace e := za e
       let P24 : List (PG Try.prog M B0 S) := P23 ++ [.q (zH (kd := .i64) (T := 64) (x := (IntKind.i64.wrap ((g2_1 ((IntKind.i64.wrap (s0_2 + 1))).toNat) - 1))) (N := ((n0 : Int)).toNat) (sz := 1) rfl (fun w => by kernel_rfl) hq3)]
       rcases e with ⟨hq4,e⟩ | ⟨hq4,e⟩
       ·replace e := za e
        let P25 : List (PG Try.prog M B0 S) := P24 ++ [.l (accG (i := 0) (f := cB) (A := g0_0) (k := ((IntKind.i64.wrap ((g2_1 ((IntKind.i64.wrap (s0_2 + 1))).toNat) - 1))).toNat) 0 [.bool true] zbc (ze hq3) (congrArg (fun b => [Value.bool b]) hq4)),.o,.o,.o,.o,.o]
        rcases e with ⟨hq5,e⟩ | ⟨hq5,e⟩
        ·replace e := za e
         let P26 : List (PG Try.prog M B0 S) := P25 ++ [.q (zA (kd := .i64) (T := 22) (x := (IntKind.i64.wrap ((IntKind.i64.wrap ((g2_1 ((IntKind.i64.wrap (s0_2 + 1))).toNat) - 1)) - 1))) (sz := 5) rfl (fun w => by kernel_rfl) hR0 hq5),.l (zcm hR0 zj (ze hq5) 0 [.int .u8 (nn ((A0 ((IntKind.i64.wrap ((IntKind.i64.wrap ((g2_1 ((IntKind.i64.wrap (s0_2 + 1))).toNat) - 1)) - 1))).toNat)).fOp),.int .u8 (nn ((A0 ((IntKind.i64.wrap ((IntKind.i64.wrap ((g2_1 ((IntKind.i64.wrap (s0_2 + 1))).toNat) - 1)) - 1))).toNat)).fDst),.int .u8 (nn ((A0 ((IntKind.i64.wrap ((IntKind.i64.wrap ((g2_1 ((IntKind.i64.wrap (s0_2 + 1))).toNat) - 1)) - 1))).toNat)).fSrc),.int .i16 (ii ((A0 ((IntKind.i64.wrap ((IntKind.i64.wrap ((g2_1 ((IntKind.i64.wrap (s0_2 + 1))).toNat) - 1)) - 1))).toNat)).fOff),.int .i32 (ii ((A0 ((IntKind.i64.wrap ((IntKind.i64.wrap ((g2_1 ((IntKind.i64.wrap (s0_2 + 1))).toNat) - 1)) - 1))).toNat)).fImm)] rfl)]
         rcases e with ⟨hq6,e⟩ | ⟨hq6,e⟩
         ·replace e := za e
          rcases e with ⟨hq7,e⟩ | ⟨hq7,e⟩
          ·replace e := za e
           rcases e with ⟨hq8,e⟩ | ⟨hq8,e⟩
           ·replace e := zg e
            obtain ⟨rb0,e_rb0,e⟩ := e
            try dsimp only at e
            cases e; exact zb hU (P26 ++ [.cg (zh hU ((A0 ((IntKind.i64.wrap ((IntKind.i64.wrap ((g2_1 ((IntKind.i64.wrap (s0_2 + 1))).toNat) - 1)) - 1))).toNat)) 9 true hq6),.o,.o,.o,.o,.o,.o,.q (zH (kd := .i64) (T := 36) (x := s0_2) (N := g2_0) (sz := 1) rfl (fun w => by kernel_rfl) hq7),.l (accG (i := 2) (f := cZ) (A := g2_1) (k := (s0_2).toNat) 0 [.int .i64 ((g2_1 (s0_2).toNat))] zb1 (ze hq7) rfl),.o,.o,.o,.x (zs3 (ty := 71) rt71 #[false,false] (f := zdf) (N := s0_0) (A := s0_1) (c := 1) [(⟨(g2_1 (s0_2).toNat),(g2_1 ((IntKind.i64.wrap (s0_2 + 1))).toNat)⟩ : Part)] (T' := 75) .row zbn zcO hq8 rfl (by decide) e_rb0) [3,5],.o,.o,.o,.o]) [0,1,2,6] (fun b => rfl) (by decide) rfl rfl (fun b => by kernel_rfl)
           ·exact zd e
          ·exact zd e
         ·replace e := za e
          let P27 : List (PG Try.prog M B0 S) := P26 ++ [.cg (zh hU ((A0 ((IntKind.i64.wrap ((IntKind.i64.wrap ((g2_1 ((IntKind.i64.wrap (s0_2 + 1))).toNat) - 1)) - 1))).toNat)) 9 false hq6),.o,.o,.o,.o,.q (zA (kd := .i64) (T := 22) (x := (IntKind.i64.wrap ((IntKind.i64.wrap ((g2_1 ((IntKind.i64.wrap (s0_2 + 1))).toNat) - 1)) - 1))) (sz := 5) rfl (fun w => by kernel_rfl) hR0 hq5),.l (zcm hR0 zj (ze hq5) 0 [.int .u8 (nn ((A0 ((IntKind.i64.wrap ((IntKind.i64.wrap ((g2_1 ((IntKind.i64.wrap (s0_2 + 1))).toNat) - 1)) - 1))).toNat)).fOp),.int .u8 (nn ((A0 ((IntKind.i64.wrap ((IntKind.i64.wrap ((g2_1 ((IntKind.i64.wrap (s0_2 + 1))).toNat) - 1)) - 1))).toNat)).fDst),.int .u8 (nn ((A0 ((IntKind.i64.wrap ((IntKind.i64.wrap ((g2_1 ((IntKind.i64.wrap (s0_2 + 1))).toNat) - 1)) - 1))).toNat)).fSrc),.int .i16 (ii ((A0 ((IntKind.i64.wrap ((IntKind.i64.wrap ((g2_1 ((IntKind.i64.wrap (s0_2 + 1))).toNat) - 1)) - 1))).toNat)).fOff),.int .i32 (ii ((A0 ((IntKind.i64.wrap ((IntKind.i64.wrap ((g2_1 ((IntKind.i64.wrap (s0_2 + 1))).toNat) - 1)) - 1))).toNat)).fImm)] rfl)]
          rcases e with ⟨hq7,e⟩ | ⟨hq7,e⟩
          ·replace e := za e
           rcases e with ⟨hq8,e⟩ | ⟨hq8,e⟩
           ·replace e := za e
            rcases e with ⟨hq9,e⟩ | ⟨hq9,e⟩
            ·replace e := zg e
             obtain ⟨rb0,e_rb0,e⟩ := e
             try dsimp only at e
             cases e; exact zb hU (P27 ++ [.cg (zh hU ((A0 ((IntKind.i64.wrap ((IntKind.i64.wrap ((g2_1 ((IntKind.i64.wrap (s0_2 + 1))).toNat) - 1)) - 1))).toNat)) 0 true hq7),.o,.o,.o,.o,.o,.q (zH (kd := .i64) (T := 36) (x := s0_2) (N := g2_0) (sz := 1) rfl (fun w => by kernel_rfl) hq8),.l (accG (i := 2) (f := cZ) (A := g2_1) (k := (s0_2).toNat) 0 [.int .i64 ((g2_1 (s0_2).toNat))] zb1 (ze hq8) rfl),.o,.o,.o,.x (zs3 (ty := 71) rt71 #[false,false] (f := zdf) (N := s0_0) (A := s0_1) (c := 1) [(⟨(g2_1 (s0_2).toNat),(g2_1 ((IntKind.i64.wrap (s0_2 + 1))).toNat)⟩ : Part)] (T' := 75) .row zbn zcO hq9 rfl (by decide) e_rb0) [3,5],.o,.o,.o,.o]) [0,1,2,6] (fun b => rfl) (by decide) rfl rfl (fun b => by kernel_rfl)
            ·exact zd e
           ·exact zd e
          ·cases e; exact ⟨zhB,zb hU (P27 ++ [.cg (zh hU ((A0 ((IntKind.i64.wrap ((IntKind.i64.wrap ((g2_1 ((IntKind.i64.wrap (s0_2 + 1))).toNat) - 1)) - 1))).toNat)) 0 false hq7),.o,.o,.o,.o,.o,.o]) [0,1,2,4] (fun b => rfl) (by decide) rfl rfl (fun b => by kernel_rfl)⟩
        ·exact zd e
       ·replace e := za e
        let P28 : List (PG Try.prog M B0 S) := P24 ++ [.l (accG (i := 0) (f := cB) (A := g0_0) (k := ((IntKind.i64.wrap ((g2_1 ((IntKind.i64.wrap (s0_2 + 1))).toNat) - 1))).toNat) 0 [.bool false] zbc (ze hq3) (congrArg (fun b => [Value.bool b]) hq4)),.o,.o]
        rcases e with ⟨hq5,e⟩ | ⟨hq5,e⟩
        ·replace e := za e
         let P29 : List (PG Try.prog M B0 S) := P28 ++ [.q (zA (kd := .i64) (T := 22) (x := (IntKind.i64.wrap ((g2_1 ((IntKind.i64.wrap (s0_2 + 1))).toNat) - 1))) (sz := 5) rfl (fun w => by kernel_rfl) hR0 hq5),.l (zcm hR0 zj (ze hq5) 0 [.int .u8 (nn ((A0 ((IntKind.i64.wrap ((g2_1 ((IntKind.i64.wrap (s0_2 + 1))).toNat) - 1))).toNat)).fOp),.int .u8 (nn ((A0 ((IntKind.i64.wrap ((g2_1 ((IntKind.i64.wrap (s0_2 + 1))).toNat) - 1))).toNat)).fDst),.int .u8 (nn ((A0 ((IntKind.i64.wrap ((g2_1 ((IntKind.i64.wrap (s0_2 + 1))).toNat) - 1))).toNat)).fSrc),.int .i16 (ii ((A0 ((IntKind.i64.wrap ((g2_1 ((IntKind.i64.wrap (s0_2 + 1))).toNat) - 1))).toNat)).fOff),.int .i32 (ii ((A0 ((IntKind.i64.wrap ((g2_1 ((IntKind.i64.wrap (s0_2 + 1))).toNat) - 1))).toNat)).fImm)] rfl)]
         rcases e with ⟨hq6,e⟩ | ⟨hq6,e⟩
         ·replace e := za e
          rcases e with ⟨hq7,e⟩ | ⟨hq7,e⟩
          ·replace e := za e
           rcases e with ⟨hq8,e⟩ | ⟨hq8,e⟩
           ·replace e := zg e
            obtain ⟨rb0,e_rb0,e⟩ := e
            try dsimp only at e
            cases e; exact zb hU (P29 ++ [.cg (zh hU ((A0 ((IntKind.i64.wrap ((g2_1 ((IntKind.i64.wrap (s0_2 + 1))).toNat) - 1))).toNat)) 9 true hq6),.o,.o,.o,.o,.o,.o,.q (zH (kd := .i64) (T := 36) (x := s0_2) (N := g2_0) (sz := 1) rfl (fun w => by kernel_rfl) hq7),.l (accG (i := 2) (f := cZ) (A := g2_1) (k := (s0_2).toNat) 0 [.int .i64 ((g2_1 (s0_2).toNat))] zb1 (ze hq7) rfl),.o,.o,.o,.x (zs3 (ty := 71) rt71 #[false,false] (f := zdf) (N := s0_0) (A := s0_1) (c := 1) [(⟨(g2_1 (s0_2).toNat),(g2_1 ((IntKind.i64.wrap (s0_2 + 1))).toNat)⟩ : Part)] (T' := 75) .row zbn zcO hq8 rfl (by decide) e_rb0) [3,5],.o,.o,.o,.o]) [0,1,2,6] (fun b => rfl) (by decide) rfl rfl (fun b => by kernel_rfl)
           ·exact zd e
          ·exact zd e
         ·replace e := za e
          let P30 : List (PG Try.prog M B0 S) := P29 ++ [.cg (zh hU ((A0 ((IntKind.i64.wrap ((g2_1 ((IntKind.i64.wrap (s0_2 + 1))).toNat) - 1))).toNat)) 9 false hq6),.o,.o,.o,.o,.q (zA (kd := .i64) (T := 22) (x := (IntKind.i64.wrap ((g2_1 ((IntKind.i64.wrap (s0_2 + 1))).toNat) - 1))) (sz := 5) rfl (fun w => by kernel_rfl) hR0 hq5),.l (zcm hR0 zj (ze hq5) 0 [.int .u8 (nn ((A0 ((IntKind.i64.wrap ((g2_1 ((IntKind.i64.wrap (s0_2 + 1))).toNat) - 1))).toNat)).fOp),.int .u8 (nn ((A0 ((IntKind.i64.wrap ((g2_1 ((IntKind.i64.wrap (s0_2 + 1))).toNat) - 1))).toNat)).fDst),.int .u8 (nn ((A0 ((IntKind.i64.wrap ((g2_1 ((IntKind.i64.wrap (s0_2 + 1))).toNat) - 1))).toNat)).fSrc),.int .i16 (ii ((A0 ((IntKind.i64.wrap ((g2_1 ((IntKind.i64.wrap (s0_2 + 1))).toNat) - 1))).toNat)).fOff),.int .i32 (ii ((A0 ((IntKind.i64.wrap ((g2_1 ((IntKind.i64.wrap (s0_2 + 1))).toNat) - 1))).toNat)).fImm)] rfl)]
          rcases e with ⟨hq7,e⟩ | ⟨hq7,e⟩
          ·replace e := za e
           rcases e with ⟨hq8,e⟩ | ⟨hq8,e⟩
           ·replace e := za e
            rcases e with ⟨hq9,e⟩ | ⟨hq9,e⟩
            ·replace e := zg e
             obtain ⟨rb0,e_rb0,e⟩ := e
             try dsimp only at e
             cases e; exact zb hU (P30 ++ [.cg (zh hU ((A0 ((IntKind.i64.wrap ((g2_1 ((IntKind.i64.wrap (s0_2 + 1))).toNat) - 1))).toNat)) 0 true hq7),.o,.o,.o,.o,.o,.q (zH (kd := .i64) (T := 36) (x := s0_2) (N := g2_0) (sz := 1) rfl (fun w => by kernel_rfl) hq8),.l (accG (i := 2) (f := cZ) (A := g2_1) (k := (s0_2).toNat) 0 [.int .i64 ((g2_1 (s0_2).toNat))] zb1 (ze hq8) rfl),.o,.o,.o,.x (zs3 (ty := 71) rt71 #[false,false] (f := zdf) (N := s0_0) (A := s0_1) (c := 1) [(⟨(g2_1 (s0_2).toNat),(g2_1 ((IntKind.i64.wrap (s0_2 + 1))).toNat)⟩ : Part)] (T' := 75) .row zbn zcO hq9 rfl (by decide) e_rb0) [3,5],.o,.o,.o,.o]) [0,1,2,6] (fun b => rfl) (by decide) rfl rfl (fun b => by kernel_rfl)
            ·exact zd e
           ·exact zd e
          ·cases e; exact ⟨zhB,zb hU (P30 ++ [.cg (zh hU ((A0 ((IntKind.i64.wrap ((g2_1 ((IntKind.i64.wrap (s0_2 + 1))).toNat) - 1))).toNat)) 0 false hq7),.o,.o,.o,.o,.o,.o]) [0,1,2,4] (fun b => rfl) (by decide) rfl rfl (fun b => by kernel_rfl)⟩
        ·exact zd e
      ·exact zd e
     ·exact zd e
    ·replace e := za e
     let P31 : List (PG Try.prog M B0 S) := P21 ++ [.b (zb7 hq1),.o,.o,.o,.o,.o]
     rcases e with ⟨hq2,e⟩ | ⟨hq2,e⟩
     ·replace e := za e
      let P32 : List (PG Try.prog M B0 S) := P31 ++ [.q (zH (kd := .i64) (T := 64) (x := (IntKind.i64.wrap ((n0 : Int) - 1))) (N := ((n0 : Int)).toNat) (sz := 1) rfl (fun w => by kernel_rfl) hq2)]
      rcases e with ⟨hq3,e⟩ | ⟨hq3,e⟩
      ·replace e := za e
       let P33 : List (PG Try.prog M B0 S) := P32 ++ [.l (accG (i := 0) (f := cB) (A := g0_0) (k := ((IntKind.i64.wrap ((n0 : Int) - 1))).toNat) 0 [.bool true] zbc (ze hq2) (congrArg (fun b => [Value.bool b]) hq3)),.o,.o,.o,.o,.o]
       rcases e with ⟨hq4,e⟩ | ⟨hq4,e⟩
       ·replace e := za e
        let P34 : List (PG Try.prog M B0 S) := P33 ++ [.q (zA (kd := .i64) (T := 22) (x := (IntKind.i64.wrap ((IntKind.i64.wrap ((n0 : Int) - 1)) - 1))) (sz := 5) rfl (fun w => by kernel_rfl) hR0 hq4),.l (zcm hR0 zj (ze hq4) 0 [.int .u8 (nn ((A0 ((IntKind.i64.wrap ((IntKind.i64.wrap ((n0 : Int) - 1)) - 1))).toNat)).fOp),.int .u8 (nn ((A0 ((IntKind.i64.wrap ((IntKind.i64.wrap ((n0 : Int) - 1)) - 1))).toNat)).fDst),.int .u8 (nn ((A0 ((IntKind.i64.wrap ((IntKind.i64.wrap ((n0 : Int) - 1)) - 1))).toNat)).fSrc),.int .i16 (ii ((A0 ((IntKind.i64.wrap ((IntKind.i64.wrap ((n0 : Int) - 1)) - 1))).toNat)).fOff),.int .i32 (ii ((A0 ((IntKind.i64.wrap ((IntKind.i64.wrap ((n0 : Int) - 1)) - 1))).toNat)).fImm)] rfl)]
        rcases e with ⟨hq5,e⟩ | ⟨hq5,e⟩
        ·replace e := za e
         rcases e with ⟨hq6,e⟩ | ⟨hq6,e⟩
         ·replace e := za e
          rcases e with ⟨hq7,e⟩ | ⟨hq7,e⟩
          ·cases e; exact zb hU (P34 ++ [.cg (zh hU ((A0 ((IntKind.i64.wrap ((IntKind.i64.wrap ((n0 : Int) - 1)) - 1))).toNat)) 9 true hq5),.o,.o,.o,.o,.o,.o,.q (zH (kd := .i64) (T := 36) (x := s0_2) (N := g2_0) (sz := 1) rfl (fun w => by kernel_rfl) hq6),.l (accG (i := 2) (f := cZ) (A := g2_1) (k := (s0_2).toNat) 0 [.int .i64 ((g2_1 (s0_2).toNat))] zb1 (ze hq6) rfl),.o,.o,.o,.x (zer (ty := 71) rt71 #[false,false] (f := zdf) (N := s0_0) (A := s0_1) (c := 1) [(⟨(g2_1 (s0_2).toNat),(n0 : Int)⟩ : Part)] (T' := 75) .row zbn zcO hq7 rfl (by decide)) [3,5],.o,.o,.o,.o]) [0,1,2,6] (fun b => rfl) (by decide) rfl rfl (fun b => by kernel_rfl)
          ·exact zd e
         ·exact zd e
        ·replace e := za e
         let P35 : List (PG Try.prog M B0 S) := P34 ++ [.cg (zh hU ((A0 ((IntKind.i64.wrap ((IntKind.i64.wrap ((n0 : Int) - 1)) - 1))).toNat)) 9 false hq5),.o,.o,.o,.o,.q (zA (kd := .i64) (T := 22) (x := (IntKind.i64.wrap ((IntKind.i64.wrap ((n0 : Int) - 1)) - 1))) (sz := 5) rfl (fun w => by kernel_rfl) hR0 hq4),.l (zcm hR0 zj (ze hq4) 0 [.int .u8 (nn ((A0 ((IntKind.i64.wrap ((IntKind.i64.wrap ((n0 : Int) - 1)) - 1))).toNat)).fOp),.int .u8 (nn ((A0 ((IntKind.i64.wrap ((IntKind.i64.wrap ((n0 : Int) - 1)) - 1))).toNat)).fDst),.int .u8 (nn ((A0 ((IntKind.i64.wrap ((IntKind.i64.wrap ((n0 : Int) - 1)) - 1))).toNat)).fSrc),.int .i16 (ii ((A0 ((IntKind.i64.wrap ((IntKind.i64.wrap ((n0 : Int) - 1)) - 1))).toNat)).fOff),.int .i32 (ii ((A0 ((IntKind.i64.wrap ((IntKind.i64.wrap ((n0 : Int) - 1)) - 1))).toNat)).fImm)] rfl)]
         rcases e with ⟨hq6,e⟩ | ⟨hq6,e⟩
         ·replace e := za e
          rcases e with ⟨hq7,e⟩ | ⟨hq7,e⟩
          ·replace e := za e
           rcases e with ⟨hq8,e⟩ | ⟨hq8,e⟩
           ·cases e; exact zb hU (P35 ++ [.cg (zh hU ((A0 ((IntKind.i64.wrap ((IntKind.i64.wrap ((n0 : Int) - 1)) - 1))).toNat)) 0 true hq6),.o,.o,.o,.o,.o,.q (zH (kd := .i64) (T := 36) (x := s0_2) (N := g2_0) (sz := 1) rfl (fun w => by kernel_rfl) hq7),.l (accG (i := 2) (f := cZ) (A := g2_1) (k := (s0_2).toNat) 0 [.int .i64 ((g2_1 (s0_2).toNat))] zb1 (ze hq7) rfl),.o,.o,.o,.x (zer (ty := 71) rt71 #[false,false] (f := zdf) (N := s0_0) (A := s0_1) (c := 1) [(⟨(g2_1 (s0_2).toNat),(n0 : Int)⟩ : Part)] (T' := 75) .row zbn zcO hq8 rfl (by decide)) [3,5],.o,.o,.o,.o]) [0,1,2,6] (fun b => rfl) (by decide) rfl rfl (fun b => by kernel_rfl)
           ·exact zd e
          ·exact zd e
         ·cases e; exact ⟨zhB,zb hU (P35 ++ [.cg (zh hU ((A0 ((IntKind.i64.wrap ((IntKind.i64.wrap ((n0 : Int) - 1)) - 1))).toNat)) 0 false hq6),.o,.o,.o,.o,.o,.o]) [0,1,2,4] (fun b => rfl) (by decide) rfl rfl (fun b => by kernel_rfl)⟩
       ·exact zd e
      ·replace e := za e
       let P36 : List (PG Try.prog M B0 S) := P32 ++ [.l (accG (i := 0) (f := cB) (A := g0_0) (k := ((IntKind.i64.wrap ((n0 : Int) - 1))).toNat) 0 [.bool false] zbc (ze hq2) (congrArg (fun b => [Value.bool b]) hq3)),.o,.o]
       rcases e with ⟨hq4,e⟩ | ⟨hq4,e⟩
       ·replace e := za e
        let P37 : List (PG Try.prog M B0 S) := P36 ++ [.q (zA (kd := .i64) (T := 22) (x := (IntKind.i64.wrap ((n0 : Int) - 1))) (sz := 5) rfl (fun w => by kernel_rfl) hR0 hq4),.l (zcm hR0 zj (ze hq4) 0 [.int .u8 (nn ((A0 ((IntKind.i64.wrap ((n0 : Int) - 1))).toNat)).fOp),.int .u8 (nn ((A0 ((IntKind.i64.wrap ((n0 : Int) - 1))).toNat)).fDst),.int .u8 (nn ((A0 ((IntKind.i64.wrap ((n0 : Int) - 1))).toNat)).fSrc),.int .i16 (ii ((A0 ((IntKind.i64.wrap ((n0 : Int) - 1))).toNat)).fOff),.int .i32 (ii ((A0 ((IntKind.i64.wrap ((n0 : Int) - 1))).toNat)).fImm)] rfl)]
        rcases e with ⟨hq5,e⟩ | ⟨hq5,e⟩
        ·replace e := za e
         rcases e with ⟨hq6,e⟩ | ⟨hq6,e⟩
         ·replace e := za e
          rcases e with ⟨hq7,e⟩ | ⟨hq7,e⟩
          ·cases e; exact zb hU (P37 ++ [.cg (zh hU ((A0 ((IntKind.i64.wrap ((n0 : Int) - 1))).toNat)) 9 true hq5),.o,.o,.o,.o,.o,.o,.q (zH (kd := .i64) (T := 36) (x := s0_2) (N := g2_0) (sz := 1) rfl (fun w => by kernel_rfl) hq6),.l (accG (i := 2) (f := cZ) (A := g2_1) (k := (s0_2).toNat) 0 [.int .i64 ((g2_1 (s0_2).toNat))] zb1 (ze hq6) rfl),.o,.o,.o,.x (zer (ty := 71) rt71 #[false,false] (f := zdf) (N := s0_0) (A := s0_1) (c := 1) [(⟨(g2_1 (s0_2).toNat),(n0 : Int)⟩ : Part)] (T' := 75) .row zbn zcO hq7 rfl (by decide)) [3,5],.o,.o,.o,.o]) [0,1,2,6] (fun b => rfl) (by decide) rfl rfl (fun b => by kernel_rfl)
          ·exact zd e
         ·exact zd e
        ·replace e := za e
         let P38 : List (PG Try.prog M B0 S) := P37 ++ [.cg (zh hU ((A0 ((IntKind.i64.wrap ((n0 : Int) - 1))).toNat)) 9 false hq5),.o,.o,.o,.o,.q (zA (kd := .i64) (T := 22) (x := (IntKind.i64.wrap ((n0 : Int) - 1))) (sz := 5) rfl (fun w => by kernel_rfl) hR0 hq4),.l (zcm hR0 zj (ze hq4) 0 [.int .u8 (nn ((A0 ((IntKind.i64.wrap ((n0 : Int) - 1))).toNat)).fOp),.int .u8 (nn ((A0 ((IntKind.i64.wrap ((n0 : Int) - 1))).toNat)).fDst),.int .u8 (nn ((A0 ((IntKind.i64.wrap ((n0 : Int) - 1))).toNat)).fSrc),.int .i16 (ii ((A0 ((IntKind.i64.wrap ((n0 : Int) - 1))).toNat)).fOff),.int .i32 (ii ((A0 ((IntKind.i64.wrap ((n0 : Int) - 1))).toNat)).fImm)] rfl)]
         rcases e with ⟨hq6,e⟩ | ⟨hq6,e⟩
         ·replace e := za e
          rcases e with ⟨hq7,e⟩ | ⟨hq7,e⟩
          ·replace e := za e
           rcases e with ⟨hq8,e⟩ | ⟨hq8,e⟩
           ·cases e; exact zb hU (P38 ++ [.cg (zh hU ((A0 ((IntKind.i64.wrap ((n0 : Int) - 1))).toNat)) 0 true hq6),.o,.o,.o,.o,.o,.q (zH (kd := .i64) (T := 36) (x := s0_2) (N := g2_0) (sz := 1) rfl (fun w => by kernel_rfl) hq7),.l (accG (i := 2) (f := cZ) (A := g2_1) (k := (s0_2).toNat) 0 [.int .i64 ((g2_1 (s0_2).toNat))] zb1 (ze hq7) rfl),.o,.o,.o,.x (zer (ty := 71) rt71 #[false,false] (f := zdf) (N := s0_0) (A := s0_1) (c := 1) [(⟨(g2_1 (s0_2).toNat),(n0 : Int)⟩ : Part)] (T' := 75) .row zbn zcO hq8 rfl (by decide)) [3,5],.o,.o,.o,.o]) [0,1,2,6] (fun b => rfl) (by decide) rfl rfl (fun b => by kernel_rfl)
           ·exact zd e
          ·exact zd e
         ·cases e; exact ⟨zhB,zb hU (P38 ++ [.cg (zh hU ((A0 ((IntKind.i64.wrap ((n0 : Int) - 1))).toNat)) 0 false hq6),.o,.o,.o,.o,.o,.o]) [0,1,2,4] (fun b => rfl) (by decide) rfl rfl (fun b => by kernel_rfl)⟩
       ·exact zd e
     ·exact zd e
   ·cases e; exact ⟨zcn 2,zb hU (P20 ++ [.b (zb7 hq0)]) [0,1,2,3] (fun b => rfl) (by decide) rfl rfl (fun b => by kernel_rfl)⟩) s r h
noncomputable def zcN (a0 : Option Addr) (p0 q0 n0 k0 : Nat) (A0 : Nat → Insn) (g0_0 : Nat → Bool) (g2_0 : Nat) (g2_1 : Nat → Int)  (ls : List L1) : List Value := List.append [.slice a0 n0 (n0 + k0),((lget ls 1).u 1),.slice none 0 0,.int .i64 (0),.int .i64 (0),(rowV (lget ls 0) ((n0 : Int)).toNat 1),((lget ls 1).u 6),((lget ls 1).u 7),(rowV (lget ls 2) g2_0 1),.slice none 0 0,.int .i64 (0)] (List.append (jks (lget ls 1).u 11 31) (List.append [.slice a0 n0 (n0 + k0),(rowV (lget ls 2) g2_0 1),(rowV (lget ls 2) g2_0 1),.int .i64 ((g2_0 : Int)),.bool false] (jks (lget ls 1).u 47 51)))
def zcE (a0 : Option Addr) (p0 q0 n0 k0 : Nat) (A0 : Nat → Insn) (g0_0 : Nat → Bool) (g2_0 : Nat) (g2_1 : Nat → Int)  (ls : List L1) : List Obj := [rowO (lget ls 0) (esG cB ((n0 : Int)).toNat g0_0) 4 ((n0 : Int)).toNat 1,unb,rowO (lget ls 2) (esG cZ g2_0 g2_1) 3 g2_0 1]
theorem zmb (g2_0 : Nat) (g2_1 : Nat → Int) (h : lpO (zG n0 A0 g0_0 g2_0 g2_1) (.c0) = some (.e0 )) : SpcG Try.prog M B0 S ⟨fun ls => .code (.loop zeJ) (zcN a0 p0 q0 n0 k0 A0 g0_0 g2_0 g2_1  ls),zcE a0 p0 q0 n0 k0 A0 g0_0 g2_0 g2_1 ,2,(.exit 2),fun ls => zeK a0 p0 q0 n0 k0 A0 g0_0 g2_0 g2_1 (.e0 ) (ls.take 3 ++ ls.drop 3),fun ls => (zcI a0 p0 q0 n0 k0 A0 g0_0 g2_0 g2_1 (.e0 ) (ls.take 3 ++ ls.drop 3)).take 3 ++ List.replicate 0 unb,fun ls => (zcI a0 p0 q0 n0 k0 A0 g0_0 g2_0 g2_1 (.e0 ) (ls.take 3 ++ ls.drop 3)).drop 3⟩ :=
 zr hU 1 (k0 := 3) (zgI hU a0 p0 q0 n0 k0 A0 hR0 g0_0 g2_0 g2_1 _ _ h) (zcN a0 p0 q0 n0 k0 A0 g0_0 g2_0 g2_1 ) (zcE a0 p0 q0 n0 k0 A0 g0_0 g2_0 g2_1 ) (fun _ => rfl) (fun ls h => by match ls,h with | [l0,l1,l2],_ => exact ⟨by kernel_rfl,by kernel_rfl⟩) (fun ls h => by match ls,h with | [l0,l1,l2],_ => rfl) (by decide) (by decide) (fun ls => rfl)
theorem zlW (g2_0 : Nat) (g2_1 : Nat → Int) (c1_0 : Nat) (c1_1 : Nat → Part) (h : lpO (zG n0 A0 g0_0 g2_0 g2_1) (.c0) = some (.e1 c1_0 c1_1)) : SpcG Try.prog M B0 S ⟨fun ls => .code (.loop zeJ) (zcN a0 p0 q0 n0 k0 A0 g0_0 g2_0 g2_1  ls),zcE a0 p0 q0 n0 k0 A0 g0_0 g2_0 g2_1 ,2,(.exit 2),fun ls => zeK a0 p0 q0 n0 k0 A0 g0_0 g2_0 g2_1 (.e1 c1_0 c1_1) (ls.take 3 ++ ls.drop 3),fun ls => (zcI a0 p0 q0 n0 k0 A0 g0_0 g2_0 g2_1 (.e1 c1_0 c1_1) (ls.take 3 ++ ls.drop 3)).take 3 ++ List.replicate 0 unb,fun ls => (zcI a0 p0 q0 n0 k0 A0 g0_0 g2_0 g2_1 (.e1 c1_0 c1_1) (ls.take 3 ++ ls.drop 3)).drop 3⟩ :=
 zr hU 1 (k0 := 3) (zgI hU a0 p0 q0 n0 k0 A0 hR0 g0_0 g2_0 g2_1 _ _ h) (zcN a0 p0 q0 n0 k0 A0 g0_0 g2_0 g2_1 ) (zcE a0 p0 q0 n0 k0 A0 g0_0 g2_0 g2_1 ) (fun _ => rfl) (fun ls h => by match ls,h with | [l0,l1,l2],_ => exact ⟨by kernel_rfl,by kernel_rfl⟩) (fun ls h => by match ls,h with | [l0,l1,l2],_ => rfl) (by decide) (by decide) (fun ls => rfl)
theorem zmd (g2_0 : Nat) (g2_1 : Nat → Int) (c2_0 : Int) (h : lpO (zG n0 A0 g0_0 g2_0 g2_1) (.c0) = some (.e2 c2_0)) : SpcG Try.prog M B0 S ⟨fun ls => .code (.loop zeJ) (zcN a0 p0 q0 n0 k0 A0 g0_0 g2_0 g2_1  ls),zcE a0 p0 q0 n0 k0 A0 g0_0 g2_0 g2_1 ,2,.ret,fun ls => zeK a0 p0 q0 n0 k0 A0 g0_0 g2_0 g2_1 (.e2 c2_0) (ls.take 3 ++ ls.drop 3),fun ls => (zcI a0 p0 q0 n0 k0 A0 g0_0 g2_0 g2_1 (.e2 c2_0) (ls.take 3 ++ ls.drop 3)).take 3 ++ List.replicate 0 unb,fun ls => (zcI a0 p0 q0 n0 k0 A0 g0_0 g2_0 g2_1 (.e2 c2_0) (ls.take 3 ++ ls.drop 3)).drop 3⟩ :=
 zr hU 1 (k0 := 3) (zgI hU a0 p0 q0 n0 k0 A0 hR0 g0_0 g2_0 g2_1 _ _ h) (zcN a0 p0 q0 n0 k0 A0 g0_0 g2_0 g2_1 ) (zcE a0 p0 q0 n0 k0 A0 g0_0 g2_0 g2_1 ) (fun _ => rfl) (fun ls h => by match ls,h with | [l0,l1,l2],_ => exact ⟨by kernel_rfl,by kernel_rfl⟩) (fun ls h => by match ls,h with | [l0,l1,l2],_ => rfl) (by decide) (by decide) (fun ls => rfl)
inductive zmO where
 | e0 (c0_0 : Int) (c0_1 : Int)
 | e1 (c1_0 : Nat) (c1_1 : Nat → Part)
noncomputable def zds (n0 : Nat) (A0 : Nat → Insn) : Option zmO :=
 bif (n0 : Int) == 0 then
 (some (.e0 0 10))
 else (bif decide (4096 < (n0 : Int)) then
 (some (.e0 0 10))
 else ((zb9 n0 A0).bind fun g0 => match g0 with
 | .e0 g0_0 =>
 (lpO (zW n0 A0 g0_0) (.c0 0)).bind fun g1 => match g1 with
 | .e0  => ((zc7 n0 A0).bind fun g2 => match g2 with
 | .e0  => (some (.e0 0 0))
 | .e1 g2_0 g2_1 => (bif decide (64 < (g2_0 : Int)) then
 (some (.e0 0 17))
 else ((lpO (zG n0 A0 g0_0 g2_0 g2_1) (.c0)).bind fun g3 => match g3 with
 | .e0  => (some (.e0 0 0))
 | .e1 g3_0 g3_1 => (some (.e1 g3_0 g3_1))
 | .e2 g3_0 => (some (.e0 g3_0 16)))))
 | .e1 g1_0 g1_1 => (some (.e0 g1_0 g1_1))))
def zsM (a0 : Option Addr) (p0 q0 n0 k0 : Nat) (A0 : Nat → Insn) (c0_0 : Int) (c0_1 : Int) : Spc := ⟨fun ls => .call 46 #[.slice a0 n0 (n0 + k0)],fun ls => [],0,.normal,fun ls => [.tuple #[.slice none 0 0,.int .i64 (c0_0),.int .i64 (c0_1)]],fun ls => [],fun ls => []⟩
def zsU (a0 : Option Addr) (p0 q0 n0 k0 : Nat) (A0 : Nat → Insn) (c1_0 : Nat) (c1_1 : Nat → Part) : Spc := ⟨fun ls => .call 46 #[.slice a0 n0 (n0 + k0)],fun ls => [],1,.normal,fun ls => [.tuple #[(rowV (lget ls 0) c1_0 2),.int .i64 (0),.int .i64 (0)]],fun ls => [],fun ls => [rowO (lget ls 0) (esG zdf c1_0 c1_1) 75 c1_0 2]⟩
end
section
variable {M : Nat → Prop} {B0 : Nat} {S : World → Prop} (hU : Up M B0 S) (a0 : Option Addr) (p0 q0 n0 k0 : Nat) (A0 : Nat → Insn) (hR0 : Ro S zd9 5 a0 p0 q0 n0 A0)
include hU a0 p0 q0 n0 k0 A0 hR0
theorem zsR (c0_0 : Int) (c0_1 : Int) (e : zds n0 A0 = some (.e0 c0_0 c0_1)) : SpcG Try.prog M B0 S (zsM a0 p0 q0 n0 k0 A0 c0_0 c0_1) := by
 unfold zds at e
 replace e := za e
 let P1 : List (PG Try.prog M B0 S) := [.o,.o,.o,.o,.o]
 rcases e with ⟨hq0,e⟩ | ⟨hq0,e⟩
 ·injection e with e; injection e with i0 i1; subst i0 i1; exact zo hU (P := Try.prog) Try.func46 (fun xs w => by kernel_rfl) 0 _ _ (fun _ => rfl) _ _ _ [] (P1 ++ [.b (zO hq0),.o,.o,.o,.o,.o]) [] (fun b => by kernel_rfl)
 ·replace e := za e
  let P2 : List (PG Try.prog M B0 S) := P1 ++ [.b (zF hq0),.o,.o,.o]
  rcases e with ⟨hq1,e⟩ | ⟨hq1,e⟩
  ·injection e with e; injection e with i0 i1; subst i0 i1; exact zo hU (P := Try.prog) Try.func46 (fun xs w => by kernel_rfl) 0 _ _ (fun _ => rfl) _ _ _ [] (P2 ++ [.b (zid hq1),.o,.o,.o,.o]) [] (fun b => by kernel_rfl)
  ·replace e := zf e
   obtain ⟨g0,e_g0,e⟩ := e
   obtain ⟨g0_0⟩ := g0
   try dsimp only at e
   replace e := zf e
   obtain ⟨g1,e_g1,e⟩ := e
   let P3 : List (PG Try.prog M B0 S) := P2 ++ [.b (zgR hq1),.o,.o,.xg (zc1 hU a0 p0 q0 n0 k0 A0 hR0 g0_0 e_g0) [],.o,.o,.cp]
   rcases g1 with _ | ⟨g1_0,g1_1⟩
   ·try dsimp only at e
    replace e := zf e
    obtain ⟨g2,e_g2,e⟩ := e
    let P4 : List (PG Try.prog M B0 S) := P3 ++ [.cx (zgK hU a0 p0 q0 n0 k0 A0 hR0 g0_0 0  e_g1) [0],.o]
    rcases g2 with _ | ⟨g2_0,g2_1⟩
    ·try dsimp only at e
     injection e with e; injection e with i0 i1; subst i0 i1; exact zo hU (P := Try.prog) Try.func46 (fun xs w => by kernel_rfl) 0 _ _ (fun _ => rfl) _ _ _ [] (P4 ++ [.xg (zqm hU a0 p0 q0 n0 k0 A0 hR0  e_g2) [],.o,.o,.o,.o,.o,.o,.o,.o,.o,.o,.o,.o,.o,.o]) [] (fun b => by kernel_rfl)
    ·try dsimp only at e
     replace e := za e
     let P5 : List (PG Try.prog M B0 S) := P4 ++ [.xg (zjb hU a0 p0 q0 n0 k0 A0 hR0 g2_0 g2_1 e_g2) [],.o,.o,.o]
     rcases e with ⟨hq2,e⟩ | ⟨hq2,e⟩
     ·injection e with e; injection e with i0 i1; subst i0 i1; exact zo hU (P := Try.prog) Try.func46 (fun xs w => by kernel_rfl) 0 _ _ (fun _ => rfl) _ _ _ [] (P5 ++ [.b (zid hq2),.o,.o,.o]) [] (fun b => by kernel_rfl)
     ·replace e := zf e
      obtain ⟨g3,e_g3,e⟩ := e
      rcases g3 with _ | ⟨g3_0,g3_1⟩ | ⟨g3_0⟩
      ·try dsimp only at e
       injection e with e; injection e with i0 i1; subst i0 i1; exact zo hU (P := Try.prog) Try.func46 (fun xs w => by kernel_rfl) 0 _ _ (fun _ => rfl) _ _ _ [] (P5 ++ [.b (zgR hq2),.o,.o,.cp,.cx (zmb hU a0 p0 q0 n0 k0 A0 hR0 g0_0 g2_0 g2_1   e_g3) [0,1,2],.o,.o,.o,.o]) [] (fun b => by kernel_rfl)
      ·try dsimp only at e
       cases e
      ·try dsimp only at e
       injection e with e; injection e with i0 i1; subst i0 i1; exact zo hU (P := Try.prog) Try.func46 (fun xs w => by kernel_rfl) 0 _ _ (fun _ => rfl) _ _ _ [] (P5 ++ [.b (zgR hq2),.o,.o,.cp,.cx (zmd hU a0 p0 q0 n0 k0 A0 hR0 g0_0 g2_0 g2_1  g3_0 e_g3) [0,1,2]]) [] (fun b => by kernel_rfl)
   ·try dsimp only at e
    injection e with e; injection e with i0 i1; subst i0 i1; exact zo hU (P := Try.prog) Try.func46 (fun xs w => by kernel_rfl) 0 _ _ (fun _ => rfl) _ _ _ [] (P3 ++ [.cx (zlU hU a0 p0 q0 n0 k0 A0 hR0 g0_0 0 g1_0 g1_1 e_g1) [0]]) [] (fun b => by kernel_rfl)
theorem zsX (c1_0 : Nat) (c1_1 : Nat → Part) (e : zds n0 A0 = some (.e1 c1_0 c1_1)) : SpcG Try.prog M B0 S (zsU a0 p0 q0 n0 k0 A0 c1_0 c1_1) := by
 unfold zds at e
 replace e := za e
 rcases e with ⟨hq0,e⟩ | ⟨hq0,e⟩
 ·cases e
 ·replace e := za e
  rcases e with ⟨hq1,e⟩ | ⟨hq1,e⟩
  ·cases e
  ·replace e := zf e
   obtain ⟨g0,e_g0,e⟩ := e
   obtain ⟨g0_0⟩ := g0
   try dsimp only at e
   replace e := zf e
   obtain ⟨g1,e_g1,e⟩ := e
   rcases g1 with _ | ⟨g1_0,g1_1⟩
   ·try dsimp only at e
    replace e := zf e
    obtain ⟨g2,e_g2,e⟩ := e
    rcases g2 with _ | ⟨g2_0,g2_1⟩
    ·try dsimp only at e
     cases e
    ·try dsimp only at e
     replace e := za e
     rcases e with ⟨hq2,e⟩ | ⟨hq2,e⟩
     ·cases e
     ·replace e := zf e
      obtain ⟨g3,e_g3,e⟩ := e
      rcases g3 with _ | ⟨g3_0,g3_1⟩ | ⟨g3_0⟩
      ·try dsimp only at e
       cases e
      ·try dsimp only at e
       injection e with e; injection e with i0 i1; subst i0 i1; exact zo hU (P := Try.prog) Try.func46 (fun xs w => by kernel_rfl) 0 _ _ (fun _ => rfl) _ _ _ [3] [.o,.o,.o,.o,.o,.b (zF hq0),.o,.o,.o,.b (zgR hq1),.o,.o,.xg (zc1 hU a0 p0 q0 n0 k0 A0 hR0 g0_0 e_g0) [],.o,.o,.cp,.cx (zgK hU a0 p0 q0 n0 k0 A0 hR0 g0_0 0  e_g1) [0],.o,.xg (zjb hU a0 p0 q0 n0 k0 A0 hR0 g2_0 g2_1 e_g2) [],.o,.o,.o,.b (zgR hq2),.o,.o,.cp,.cx (zlW hU a0 p0 q0 n0 k0 A0 hR0 g0_0 g2_0 g2_1  g3_0 g3_1 e_g3) [0,1,2],.o,.o,.o,.o] [] (fun b => by kernel_rfl)
      ·try dsimp only at e
       cases e
   ·try dsimp only at e
    cases e
end

end Go.Proofs.Ytliijnpblddjfaa


