/-
  What is live.
-/
import Derived.Test.YtliijnpblddjfaaLTF
namespace Go.Proofs.Ytliijnpblddjfaa
open Go.RowKit
set_option linter.unusedVariables false
set_option linter.unusedSimpArgs false
set_option linter.unusedSectionVars false
set_option maxRecDepth 100000
set_option maxHeartbeats 4000000
noncomputable def zr30 : Value := (Try.prog.info? 27).bind TypeInfo.zero |>.getD undef
theorem rt30 : RowT Try.prog 30 27 ((Try.prog.info? 27).getD default) zr30 1 2 := ⟨by kernel_rfl,by kernel_rfl,by kernel_rfl,by kernel_rfl,by kernel_rfl,by kernel_rfl,by decide⟩
abbrev cu16 (x : BitVec 16) : List Value := [.int .u16 (nn x)]
theorem zc0 (x : BitVec 16) : (cu16 x).length = 1 := rfl
theorem zs1 (x : BitVec 16) : ((cu16 x).all fun u => u.oneCell') = true := rfl
noncomputable def zr57 : Value := (Try.prog.info? 36).bind TypeInfo.zero |>.getD undef
theorem rt57 : RowT Try.prog 57 36 ((Try.prog.info? 36).getD default) zr57 1 24 := ⟨by kernel_rfl,by kernel_rfl,by kernel_rfl,by kernel_rfl,by kernel_rfl,by kernel_rfl,by decide⟩
noncomputable def zdH (n0 : Nat) (A0 : Nat → Insn) (y1 : Int) : Option (Bool) :=
 bif decide (0 < y1) then
 (bif inR (IntKind.i64.wrap (y1 - 1)) n0 then
 (some (((A0 ((IntKind.i64.wrap (y1 - 1))).toNat)).fOp == 24#8))
 else (none))
 else (some false)
section
variable {M : Nat → Prop} {B0 : Nat} {S : World → Prop} (hU : Up M B0 S) (a0 : Option Addr) (p0 q0 n0 k0 : Nat) (A0 : Nat → Insn) (hR0 : Ro S zd9 5 a0 p0 q0 n0 A0) (y1 : Int)
include hU a0 p0 q0 n0 k0 A0 hR0 y1
theorem zf0 (r : Bool) (e : zdH n0 A0 y1 = some r) : ConG Try.prog S 60 #[.slice a0 n0 (n0 + k0),.int .i64 (y1)] (.bool (r)) := by
 unfold zdH at e
 replace e := za e
 rcases e with ⟨hq0,e⟩ | ⟨hq0,e⟩
 ·replace e := za e
  rcases e with ⟨hq1,e⟩ | ⟨hq1,e⟩
  ·injection e with e; subst e; exact zc hU (P := Try.prog) Try.func60 (fun xs w => by kernel_rfl) _ _ [.o,.o,.b (zid hq0),.o,.o,.o,.o,.q (zA (kd := .i64) (T := 86) (x := (IntKind.i64.wrap (y1 - 1))) (sz := 5) rfl (fun w => by kernel_rfl) hR0 hq1),.o,.l (zcm hR0 zj (ze hq1) 0 [.int .u8 (nn ((A0 ((IntKind.i64.wrap (y1 - 1))).toNat)).fOp)] rfl),.t (u_eq ((A0 ((IntKind.i64.wrap (y1 - 1))).toNat)).fOp (24#8)) rfl,.o,.o] [] (fun b => by kernel_rfl)
  ·exact zd e
 ·injection e with e; subst e; exact zc hU (P := Try.prog) Try.func60 (fun xs w => by kernel_rfl) _ _ [.o,.o,.b (zgR hq0),.o,.o,.o] [] (fun b => by kernel_rfl)
inductive zzu where
 | e0 (c0_0 : Int)
 | e1 (c1_0 : Nat) (c1_1 : Nat → Int)
noncomputable def zgA (n0 : Nat) (A0 : Nat → Insn) (y1 : Int) : Option zzu :=
 (zb0 n0 A0).bind fun r0 =>
 bif r0.2 == 0 then
 (bif decide (y1 < 0) then
 (some (.e0 150))
 else (bif decide ((n0 : Int) ≤ y1) then
 (some (.e0 150))
 else ((zdH n0 A0 y1).bind fun r1 =>
 bif r1 then
 (some (.e0 150))
 else ((zbs n0 A0 y1).bind fun g2 => match g2 with
 | .e0  => (some (.e0 0))
 | .e1 g2_0 g2_1 => (some (.e1 g2_0 g2_1))))))
 else (none)
def zyG (a0 : Option Addr) (p0 q0 n0 k0 : Nat) (A0 : Nat → Insn) (y1 : Int) (c0_0 : Int) : Spc := ⟨fun ls => .call 43 #[.slice a0 n0 (n0 + k0),.int .i64 (y1)],fun ls => [],0,.normal,fun ls => [.tuple #[.slice none 0 0,.int .i64 (c0_0)]],fun ls => [],fun ls => []⟩
def zyC (a0 : Option Addr) (p0 q0 n0 k0 : Nat) (A0 : Nat → Insn) (y1 : Int) (c1_0 : Nat) (c1_1 : Nat → Int) : Spc := ⟨fun ls => .call 43 #[.slice a0 n0 (n0 + k0),.int .i64 (y1)],fun ls => [],1,.normal,fun ls => [.tuple #[(rowV (lget ls 0) c1_0 1),.int .i64 (0)]],fun ls => [],fun ls => [rowO (lget ls 0) (esG cZ c1_0 c1_1) 3 c1_0 1]⟩
theorem zyh (c0_0 : Int) (e : zgA n0 A0 y1 = some (.e0 c0_0)) : SpcG Try.prog M B0 S (zyG a0 p0 q0 n0 k0 A0 y1 c0_0) := by
 unfold zgA at e
 replace e := zf e
 obtain ⟨r0,e_r0,e⟩ := e
 try dsimp only at e
 replace e := za e
 let P1 : List (PG Try.prog M B0 S) := [.o,.o,.o,.cg (zfy hU a0 p0 q0 n0 k0 A0 hR0 r0 e_r0),.o,.o,.o,.o,.o,.o]
 rcases e with ⟨hq0,e⟩ | ⟨hq0,e⟩
 ·replace e := za e
  rcases e with ⟨hq1,e⟩ | ⟨hq1,e⟩
  ·injection e with e; injection e with i0; subst i0; exact zo hU (P := Try.prog) Try.func43 (fun xs w => by kernel_rfl) 0 _ _ (fun _ => rfl) _ _ _ [] (P1 ++ [.b (zdq hq0),.o,.b (zcR hq1),.o,.o,.o,.o,.o,.o]) [] (fun b => by kernel_rfl)
  ·replace e := za e
   let P2 : List (PG Try.prog M B0 S) := P1 ++ [.b (zdq hq0),.o,.b (zb7 hq1),.o,.o,.o,.o]
   rcases e with ⟨hq2,e⟩ | ⟨hq2,e⟩
   ·injection e with e; injection e with i0; subst i0; exact zo hU (P := Try.prog) Try.func43 (fun xs w => by kernel_rfl) 0 _ _ (fun _ => rfl) _ _ _ [] (P2 ++ [.b (zsk hq2),.o,.o,.o,.o,.o]) [] (fun b => by kernel_rfl)
   ·replace e := zf e
    obtain ⟨r1,e_r1,e⟩ := e
    try dsimp only at e
    replace e := za e
    rcases e with ⟨hq3,e⟩ | ⟨hq3,e⟩
    ·subst hq3
     injection e with e; injection e with i0; subst i0; exact zo hU (P := Try.prog) Try.func43 (fun xs w => by kernel_rfl) 0 _ _ (fun _ => rfl) _ _ _ [] (P2 ++ [.b (zpX hq2),.o,.o,.o,.o,.cg (zf0 hU a0 p0 q0 n0 k0 A0 hR0 y1 true e_r1),.o,.o,.o]) [] (fun b => by kernel_rfl)
    ·subst hq3
     replace e := zf e
     obtain ⟨g2,e_g2,e⟩ := e
     rcases g2 with _ | ⟨g2_0,g2_1⟩
     ·try dsimp only at e
      injection e with e; injection e with i0; subst i0; exact zo hU (P := Try.prog) Try.func43 (fun xs w => by kernel_rfl) 0 _ _ (fun _ => rfl) _ _ _ [] (P2 ++ [.b (zpX hq2),.o,.o,.o,.o,.cg (zf0 hU a0 p0 q0 n0 k0 A0 hR0 y1 false e_r1),.o,.o,.o,.xg (zlz hU a0 p0 q0 n0 k0 A0 hR0 y1  e_g2) [],.o,.o]) [] (fun b => by kernel_rfl)
     ·try dsimp only at e
      cases e
 ·exact zd e
theorem zyx (c1_0 : Nat) (c1_1 : Nat → Int) (e : zgA n0 A0 y1 = some (.e1 c1_0 c1_1)) : SpcG Try.prog M B0 S (zyC a0 p0 q0 n0 k0 A0 y1 c1_0 c1_1) := by
 unfold zgA at e
 replace e := zf e
 obtain ⟨r0,e_r0,e⟩ := e
 try dsimp only at e
 replace e := za e
 rcases e with ⟨hq0,e⟩ | ⟨hq0,e⟩
 ·replace e := za e
  rcases e with ⟨hq1,e⟩ | ⟨hq1,e⟩
  ·cases e
  ·replace e := za e
   rcases e with ⟨hq2,e⟩ | ⟨hq2,e⟩
   ·cases e
   ·replace e := zf e
    obtain ⟨r1,e_r1,e⟩ := e
    try dsimp only at e
    replace e := za e
    rcases e with ⟨hq3,e⟩ | ⟨hq3,e⟩
    ·subst hq3
     cases e
    ·subst hq3
     replace e := zf e
     obtain ⟨g2,e_g2,e⟩ := e
     rcases g2 with _ | ⟨g2_0,g2_1⟩
     ·try dsimp only at e
      cases e
     ·try dsimp only at e
      injection e with e; injection e with i0 i1; subst i0 i1; exact zo hU (P := Try.prog) Try.func43 (fun xs w => by kernel_rfl) 0 _ _ (fun _ => rfl) _ _ _ [0] [.o,.o,.o,.cg (zfy hU a0 p0 q0 n0 k0 A0 hR0 r0 e_r0),.o,.o,.o,.o,.o,.o,.b (zdq hq0),.o,.b (zb7 hq1),.o,.o,.o,.o,.b (zpX hq2),.o,.o,.o,.o,.cg (zf0 hU a0 p0 q0 n0 k0 A0 hR0 y1 false e_r1),.o,.o,.o,.xg (zlK hU a0 p0 q0 n0 k0 A0 hR0 y1 g2_0 g2_1 e_g2) [],.o,.o] [] (fun b => by kernel_rfl)
 ·exact zd e
inductive zcX where
 | c0 (s0_0 : BitVec 16) (s0_1 : Int)
inductive zcT where
 | e0 (c0_0 : BitVec 16)
noncomputable def zb8 (y1 : Int) (w0 : Nat) (w3 : Nat → BitVec 16) (w4 : Nat → (Nat × (Nat → Int))) : zcX → Option (zcX ⊕ zcT)
 | .c0 s0_0 s0_1 =>
 bif decide (s0_1 < ((w4 (y1).toNat).1 : Int)) then
 (bif inR s0_1 (w4 (y1).toNat).1 then
 (bif inR y1 w0 then
 (bif inR ((w4 (y1).toNat).2 (s0_1).toNat) w0 then
 (some (.inl (.c0 (s0_0 ||| (w3 (((w4 (y1).toNat).2 (s0_1).toNat)).toNat)) (IntKind.i64.wrap (s0_1 + 1)))))
 else (none))
 else (none))
 else (none))
 else (some (.inr (.e0 s0_0)))
noncomputable def zjI : Code := zb6 Try.f35 [1,1,0,1,0,0]
def zrM (y1 : Int) (w0 : Nat) (w1 : Nat → BitVec 16) (w2 : Nat → BitVec 16) (w3 : Nat → BitVec 16) (w4 : Nat → (Nat × (Nat → Int))) : zcX → List L1 → List Value
 | .c0 s0_0 s0_1,ls => [.pointer (some ⟨(lget ls 0).n,0,none⟩),.int .u16 (nn s0_0),(rowV (mfl (lget ls 5) (y1).toNat) (w4 (y1).toNat).1 1),.int .i64 (((w4 (y1).toNat).1 : Int)),.int .i64 (s0_1)]
def zq2 : zcX → List (Nat × Nat)
 | .c0 _ _ => [(1,4),(1,8),(3,14)]
noncomputable def zrU (y1 : Int) (w0 : Nat) (w1 : Nat → BitVec 16) (w2 : Nat → BitVec 16) (w3 : Nat → BitVec 16) (w4 : Nat → (Nat × (Nat → Int))) (s : zcX) : List L1 → List Value := mrgF (zq2 s) (zrM y1 w0 w1 w2 w3 w4 s) 6
def zro (y1 : Int) (w0 : Nat) (w1 : Nat → BitVec 16) (w2 : Nat → BitVec 16) (w3 : Nat → BitVec 16) (w4 : Nat → (Nat × (Nat → Int))) : zcX → List L1 → List Obj
 | .c0 s0_0 s0_1,ls => [.cells #[(rowV (lget ls 1) w0 1),(rowV (lget ls 2) w0 1),(rowV (lget ls 3) w0 1),(rowV (lget ls 4) w0 1)] 59,rowO (lget ls 1) (esG cu16 w0 w1) 27 w0 1,rowO (lget ls 2) (esG cu16 w0 w2) 27 w0 1,rowO (lget ls 3) (esG cu16 w0 w3) 27 w0 1,rfR (lget ls 4) (lget ls 5) 36 1 w0 w4,rfO 3 cZ 1 w0 w4,unb]
def zra (y1 : Int) (w0 : Nat) (w1 : Nat → BitVec 16) (w2 : Nat → BitVec 16) (w3 : Nat → BitVec 16) (w4 : Nat → (Nat × (Nat → Int))) : zcT → List L1 → List Value
 | .e0 c0_0,ls => [.pointer (some ⟨(lget ls 0).n,0,none⟩),.int .u16 (nn c0_0),(rowV (mfl (lget ls 5) (y1).toNat) (w4 (y1).toNat).1 1),.int .i64 (((w4 (y1).toNat).1 : Int))]
def zq5 : zcT → List (Nat × Nat)
 | .e0 _ => [(1,4),(1,8),(2,15)]
noncomputable def zjX (y1 : Int) (w0 : Nat) (w1 : Nat → BitVec 16) (w2 : Nat → BitVec 16) (w3 : Nat → BitVec 16) (w4 : Nat → (Nat × (Nat → Int))) (r : zcT) : List L1 → List Value := mrgF (zq5 r) (zra y1 w0 w1 w2 w3 w4 r) 6
def zg3 (y1 : Int) (w0 : Nat) (w1 : Nat → BitVec 16) (w2 : Nat → BitVec 16) (w3 : Nat → BitVec 16) (w4 : Nat → (Nat × (Nat → Int))) : zcT → List L1 → List Obj
 | .e0 c0_0,ls => [.cells #[(rowV (lget ls 1) w0 1),(rowV (lget ls 2) w0 1),(rowV (lget ls 3) w0 1),(rowV (lget ls 4) w0 1)] 59,rowO (lget ls 1) (esG cu16 w0 w1) 27 w0 1,rowO (lget ls 2) (esG cu16 w0 w2) 27 w0 1,rowO (lget ls 3) (esG cu16 w0 w3) 27 w0 1,rfR (lget ls 4) (lget ls 5) 36 1 w0 w4,rfO 3 cZ 1 w0 w4,unb]
def zrt : zcT → Ex
 | .e0 _ => (.exit 0)
end
section
variable {M : Nat → Prop} {B0 : Nat} {S : World → Prop} (hU : Up M B0 S) (y1 : Int) (w0 : Nat) (w1 : Nat → BitVec 16) (w2 : Nat → BitVec 16) (w3 : Nat → BitVec 16) (w4 : Nat → (Nat × (Nat → Int)))
include hU y1 w0 w1 w2 w3 w4
theorem zqZ (s : zcX) (r : zcT) (h : lpO (zb8 y1 w0 w3 w4) s = some r) : zdm Try.prog M B0 S (.loop zjI) 7 (zrU y1 w0 w1 w2 w3 w4 s) (zro y1 w0 w1 w2 w3 w4 s) (zrt r) 6 (zjX y1 w0 w1 w2 w3 w4 r) (zg3 y1 w0 w1 w2 w3 w4 r) 7 :=
 zb5 (fun s q e => by
  cases s with
  | c0 s0_0 s0_1 =>
   unfold zb8 at e
   dsimp only at e
   replace e := za e
   rcases e with ⟨hq0,e⟩ | ⟨hq0,e⟩
   ·replace e := za e
    rcases e with ⟨hq1,e⟩ | ⟨hq1,e⟩
    ·replace e := za e
     rcases e with ⟨hq2,e⟩ | ⟨hq2,e⟩
     ·replace e := za e
      rcases e with ⟨hq3,e⟩ | ⟨hq3,e⟩
      ·cases e; exact zb hU [.b (zcR hq0),.q (zH (kd := .i64) (T := 36) (x := s0_1) (N := (w4 (y1).toNat).1) (sz := 1) rfl (fun w => by kernel_rfl) hq1),.xg (zCl (T := 3) (e := 36) (T2 := 3) (f := cZ) (sz := 1) (N := w0) (k := (y1).toNat) (D := w4) (fun w => by kernel_rfl) zb1 0 (v := .int .i64 (((w4 (y1).toNat).2 (s0_1).toNat))) (ze hq2) (ze hq1) (by decide) rfl) [4,5],.o,.o,.o,.o,.o,.a 0,.o,.q (zH (kd := .i64) (T := 30) (x := ((w4 (y1).toNat).2 (s0_1).toNat)) (N := w0) (sz := 1) rfl (fun w => by kernel_rfl) hq3),.l (accG (i := 3) (f := cu16) (A := w3) (k := (((w4 (y1).toNat).2 (s0_1).toNat)).toNat) 0 [.int .u16 (nn (w3 (((w4 (y1).toNat).2 (s0_1).toNat)).toNat))] zc0 (ze hq3) rfl),.v .u16 (zml s0_0 (w3 (((w4 (y1).toNat).2 (s0_1).toNat)).toNat)),.o,.o,.o] [0,1,2,3,4,5] (fun b => rfl) (by decide) rfl rfl (fun b => by kernel_rfl)
      ·exact zd e
     ·exact zd e
    ·exact zd e
   ·cases e; exact ⟨zcn 0,zb hU [.b (zb7 hq0)] [0,1,2,3,4,5] (fun b => rfl) (by decide) rfl rfl (fun b => by kernel_rfl)⟩) s r h
noncomputable def ziV (y1 : Int) (w0 : Nat) (w1 : Nat → BitVec 16) (w2 : Nat → BitVec 16) (w3 : Nat → BitVec 16) (w4 : Nat → (Nat × (Nat → Int))) (s0_0 : BitVec 16) (s0_1 : Int) (ls : List L1) : List Value := List.append [.pointer (some ⟨(lget ls 0).n,0,none⟩),.int .i64 (y1),undef,undef,.int .u16 (0),.int .u16 (nn s0_0),undef,undef,.pointer (some ⟨(lget ls 0).n,0,none⟩),.pointer (some ⟨(lget ls 0).n,0,none⟩),.pointer (some ⟨(lget ls 0).n,3,none⟩),(rowV (lget ls 4) w0 1),.int .i64 (y1),.pointer (some ⟨(lget ls 4).n,0 + (y1).toNat * 1,none⟩),(rowV (mfl (lget ls 5) (y1).toNat) (w4 (y1).toNat).1 1),.int .i64 (((w4 (y1).toNat).1 : Int)),.int .i64 (s0_1)] (und 14)
def zix (y1 : Int) (w0 : Nat) (w1 : Nat → BitVec 16) (w2 : Nat → BitVec 16) (w3 : Nat → BitVec 16) (w4 : Nat → (Nat × (Nat → Int))) (s0_0 : BitVec 16) (s0_1 : Int) (ls : List L1) : List Obj := [.cells #[(rowV (lget ls 1) w0 1),(rowV (lget ls 2) w0 1),(rowV (lget ls 3) w0 1),(rowV (lget ls 4) w0 1)] 59,rowO (lget ls 1) (esG cu16 w0 w1) 27 w0 1,rowO (lget ls 2) (esG cu16 w0 w2) 27 w0 1,rowO (lget ls 3) (esG cu16 w0 w3) 27 w0 1,rfR (lget ls 4) (lget ls 5) 36 1 w0 w4,rfO 3 cZ 1 w0 w4]
theorem zmy (s0_0 : BitVec 16) (s0_1 : Int) (c0_0 : BitVec 16) (h : lpO (zb8 y1 w0 w3 w4) (.c0 s0_0 s0_1) = some (.e0 c0_0)) : SpcG Try.prog M B0 S ⟨fun ls => .code (.loop zjI) (ziV y1 w0 w1 w2 w3 w4 s0_0 s0_1 ls),zix y1 w0 w1 w2 w3 w4 s0_0 s0_1,1,(.exit 0),fun ls => zjX y1 w0 w1 w2 w3 w4 (.e0 c0_0) (ls.take 6 ++ ls.drop 6),fun ls => (zg3 y1 w0 w1 w2 w3 w4 (.e0 c0_0) (ls.take 6 ++ ls.drop 6)).take 6 ++ List.replicate 0 unb,fun ls => (zg3 y1 w0 w1 w2 w3 w4 (.e0 c0_0) (ls.take 6 ++ ls.drop 6)).drop 6⟩ :=
 zr hU 0 (k0 := 6) (zqZ hU y1 w0 w1 w2 w3 w4 _ _ h) (ziV y1 w0 w1 w2 w3 w4 s0_0 s0_1) (zix y1 w0 w1 w2 w3 w4 s0_0 s0_1) (fun _ => rfl) (fun ls h => by match ls,h with | [l0,l1,l2,l3,l4,l5],_ => exact ⟨by kernel_rfl,by kernel_rfl⟩) (fun ls h => by match ls,h with | [l0,l1,l2,l3,l4,l5],_ => rfl) (by decide) (by decide) (fun ls => rfl)
inductive zu8 where
 | e0 (c0_0 : BitVec 16)
noncomputable def zdJ (y1 : Int) (w0 : Nat) (w1 : Nat → BitVec 16) (w2 : Nat → BitVec 16) (w3 : Nat → BitVec 16) (w4 : Nat → (Nat × (Nat → Int))) : Option zu8 :=
 bif inR y1 w0 then
 (bif decide (0 < (w4 (y1).toNat).1) then
 ((lpO (zb8 y1 w0 w3 w4) (.c0 (0#16) 0)).bind fun g0 => match g0 with
 | .e0 g0_0 =>
 some (.e0 g0_0))
 else (some (.e0 (0#16))))
 else (none)
def ztj (y1 : Int) (w0 : Nat) (w1 : Nat → BitVec 16) (w2 : Nat → BitVec 16) (w3 : Nat → BitVec 16) (w4 : Nat → (Nat × (Nat → Int))) (c0_0 : BitVec 16) : Spc := ⟨fun ls => .call 35 #[.pointer (some ⟨(lget ls 0).n,0,none⟩),.int .i64 (y1)],fun ls => [.cells #[(rowV (lget ls 1) w0 1),(rowV (lget ls 2) w0 1),(rowV (lget ls 3) w0 1),(rowV (lget ls 4) w0 1)] 59,rowO (lget ls 1) (esG cu16 w0 w1) 27 w0 1,rowO (lget ls 2) (esG cu16 w0 w2) 27 w0 1,rowO (lget ls 3) (esG cu16 w0 w3) 27 w0 1,rfR (lget ls 4) (lget ls 5) 36 1 w0 w4,rfO 3 cZ 1 w0 w4],0,.normal,fun ls => [.int .u16 (nn c0_0)],fun ls => [.cells #[(rowV (lget ls 1) w0 1),(rowV (lget ls 2) w0 1),(rowV (lget ls 3) w0 1),(rowV (lget ls 4) w0 1)] 59,rowO (lget ls 1) (esG cu16 w0 w1) 27 w0 1,rowO (lget ls 2) (esG cu16 w0 w2) 27 w0 1,rowO (lget ls 3) (esG cu16 w0 w3) 27 w0 1,rfR (lget ls 4) (lget ls 5) 36 1 w0 w4,rfO 3 cZ 1 w0 w4],fun ls => []⟩
theorem zin (c0_0 : BitVec 16) (e : zdJ y1 w0 w1 w2 w3 w4 = some (.e0 c0_0)) : SpcG Try.prog M B0 S (ztj y1 w0 w1 w2 w3 w4 c0_0) := by
 unfold zdJ at e
 replace e := za e
 rcases e with ⟨hq0,e⟩ | ⟨hq0,e⟩
 ·replace e := za e
  let P1 : List (PG Try.prog M B0 S) := [.o,.o,.o,.o,.o,.a 0,.o,.q (zH (kd := .i64) (T := 57) (x := y1) (N := w0) (sz := 1) rfl (fun w => by kernel_rfl) hq0)]
  rcases e with ⟨hq1,e⟩ | ⟨hq1,e⟩
  ·replace e := zf e
   obtain ⟨g0,e_g0,e⟩ := e
   obtain ⟨g0_0⟩ := g0
   try dsimp only at e
   injection e with e; injection e with i0; subst i0; exact zo hU (P := Try.prog) Try.func35 (fun xs w => by kernel_rfl) 6 _ _ (fun _ => rfl) _ _ _ [] (P1 ++ [.xg (zCL (T := 36) (e := 36) (T2 := 3) (f := cZ) (sz := 1) (N := w0) (k := (y1).toNat) (D := w4) (fun w => by kernel_rfl) (ze hq0) hq1) [4,5],.o,.o,.cp,.cx (zmy hU y1 w0 w1 w2 w3 w4 (0#16) 0 g0_0 e_g0) [0,1,2,3,4,5],.o,.o]) [] (fun b => by kernel_rfl)
  ·injection e with e; injection e with i0; subst i0; exact zo hU (P := Try.prog) Try.func35 (fun xs w => by kernel_rfl) 6 _ _ (fun _ => rfl) _ _ _ [] (P1 ++ [.xg (zBS (T := 36) (e := 36) (T2 := 3) (f := cZ) (sz := 1) (N := w0) (k := (y1).toNat) (D := w4) (fun w => by kernel_rfl) (ze hq0) hq1) [4,5],.o,.o,.o,.o,.o]) [] (fun b => by kernel_rfl)
 ·exact zd e
inductive zv5 where
 | e0 (c0_0 : Nat → BitVec 16) (c0_1 : Bool)
noncomputable def zgM (y1 : Int) (w0 : Nat) (w1 : Nat → BitVec 16) (w2 : Nat → BitVec 16) (w3 : Nat → BitVec 16) (w4 : Nat → (Nat × (Nat → Int))) : Option zv5 :=
 bif inR y1 w0 then
 ((zdJ y1 w0 w1 w2 w3 w4).bind fun g0 => match g0 with
 | .e0 g0_0 =>
 zv (updF w3 (y1).toNat ((w3 (y1).toNat) ||| ((w1 (y1).toNat) ||| (g0_0 &&& ~~~(w2 (y1).toNat))))) fun r1 =>
 some (.e0 r1 (!((r1 (y1).toNat) == (w3 (y1).toNat)))))
 else (none)
def zu6 (y1 : Int) (w0 : Nat) (w1 : Nat → BitVec 16) (w2 : Nat → BitVec 16) (w3 : Nat → BitVec 16) (w4 : Nat → (Nat × (Nat → Int))) (c0_0 : Nat → BitVec 16) (c0_1 : Bool) : Spc := ⟨fun ls => .call 45 #[.pointer (some ⟨(lget ls 0).n,0,none⟩),.int .i64 (y1)],fun ls => [.cells #[(rowV (lget ls 1) w0 1),(rowV (lget ls 2) w0 1),(rowV (lget ls 3) w0 1),(rowV (lget ls 4) w0 1)] 59,rowO (lget ls 1) (esG cu16 w0 w1) 27 w0 1,rowO (lget ls 2) (esG cu16 w0 w2) 27 w0 1,rowO (lget ls 3) (esG cu16 w0 w3) 27 w0 1,rfR (lget ls 4) (lget ls 5) 36 1 w0 w4,rfO 3 cZ 1 w0 w4],0,.normal,fun ls => [.bool (c0_1)],fun ls => [.cells #[(rowV (lget ls 1) w0 1),(rowV (lget ls 2) w0 1),(rowV (lget ls 3) w0 1),(rowV (lget ls 4) w0 1)] 59,rowO (lget ls 1) (esG cu16 w0 w1) 27 w0 1,rowO (lget ls 2) (esG cu16 w0 w2) 27 w0 1,rowO (lget ls 3) (esG cu16 w0 c0_0) 27 w0 1,rfR (lget ls 4) (lget ls 5) 36 1 w0 w4,rfO 3 cZ 1 w0 w4],fun ls => []⟩
theorem zoA (c0_0 : Nat → BitVec 16) (c0_1 : Bool) (e : zgM y1 w0 w1 w2 w3 w4 = some (.e0 c0_0 c0_1)) : SpcG Try.prog M B0 S (zu6 y1 w0 w1 w2 w3 w4 c0_0 c0_1) := by
 unfold zgM at e
 replace e := za e
 rcases e with ⟨hq0,e⟩ | ⟨hq0,e⟩
 ·replace e := zf e
  obtain ⟨g0,e_g0,e⟩ := e
  obtain ⟨g0_0⟩ := g0
  try dsimp only at e
  replace e := zg e
  obtain ⟨r1,e_r1,e⟩ := e
  try dsimp only at e
  injection e with e; injection e with i0 i1; subst i0 i1; exact zo hU (P := Try.prog) Try.func45 (fun xs w => by kernel_rfl) 6 _ _ (fun _ => rfl) _ _ _ [] [.o,.o,.o,.o,.a 0,.o,.q (zH (kd := .i64) (T := 30) (x := y1) (N := w0) (sz := 1) rfl (fun w => by kernel_rfl) hq0),.l (accG (i := 3) (f := cu16) (A := w3) (k := (y1).toNat) 0 [.int .u16 (nn (w3 (y1).toNat))] zc0 (ze hq0) rfl),.o,.r [0,1,2,3,4,5,6,7,8,9,10,11,12,13,14,15,17,18,19,20,21,22,23] [] [16,24,25,26,27,28],.o,.o,.o,.a 0,.o,.q (zH (kd := .i64) (T := 30) (x := y1) (N := w0) (sz := 1) rfl (fun w => by kernel_rfl) hq0),.l (accG (i := 3) (f := cu16) (A := w3) (k := (y1).toNat) 0 [.int .u16 (nn (w3 (y1).toNat))] zc0 (ze hq0) rfl),.o,.o,.o,.a 0,.o,.q (zH (kd := .i64) (T := 30) (x := y1) (N := w0) (sz := 1) rfl (fun w => by kernel_rfl) hq0),.l (accG (i := 1) (f := cu16) (A := w1) (k := (y1).toNat) 0 [.int .u16 (nn (w1 (y1).toNat))] zc0 (ze hq0) rfl),.o,.o,.o,.o,.o,.a 0,.o,.q (zH (kd := .i64) (T := 30) (x := y1) (N := w0) (sz := 1) rfl (fun w => by kernel_rfl) hq0),.l (accG (i := 2) (f := cu16) (A := w2) (k := (y1).toNat) 0 [.int .u16 (nn (w2 (y1).toNat))] zc0 (ze hq0) rfl),.xr (zin hU y1 w0 w1 w2 w3 w4 g0_0 e_g0) (fun _ => rfl) rfl (fun _ => rfl) [0,1,2,3,4,5],.v .u16 (zA3 g0_0 (w2 (y1).toNat)),.v .u16 (zml (w1 (y1).toNat) (g0_0 &&& ~~~(w2 (y1).toNat))),.v .u16 (zml (w3 (y1).toNat) ((w1 (y1).toNat) ||| (g0_0 &&& ~~~(w2 (y1).toNat)))),.q (zH (kd := .i64) (T := 30) (x := y1) (N := w0) (sz := 1) rfl (fun w => by kernel_rfl) hq0),.x (zwx (T := 27) (e := 27) (f := cu16) (A := w3) (v := ((w3 (y1).toNat) ||| ((w1 (y1).toNat) ||| (g0_0 &&& ~~~(w2 (y1).toNat))))) 0 (.int .u16 (nn ((w3 (y1).toNat) ||| ((w1 (y1).toNat) ||| (g0_0 &&& ~~~(w2 (y1).toNat)))))) zc0 zs1 rfl rfl (fun w => by kernel_rfl) (ze hq0) e_r1) [3],.o,.o,.o,.a 0,.o,.q (zH (kd := .i64) (T := 30) (x := y1) (N := w0) (sz := 1) rfl (fun w => by kernel_rfl) hq0),.l (accG (i := 3) (f := cu16) (A := r1) (k := (y1).toNat) 0 [.int .u16 (nn (r1 (y1).toNat))] zc0 (ze hq0) rfl),.o,.tn (u_ne (r1 (y1).toNat) (w3 (y1).toNat)) rfl,.o] [] (fun b => by kernel_rfl)
 ·exact zd e
inductive zdN where
 | c0 (s0_0 : Nat → BitVec 16) (s0_1 : Bool) (s0_2 : Int)
inductive zdj where
 | e0 (c0_0 : Nat → BitVec 16) (c0_1 : Bool)
noncomputable def zdG (w0 : Nat) (w1 : Nat → BitVec 16) (w2 : Nat → BitVec 16) (w4 : Nat → (Nat × (Nat → Int))) : zdN → Option (zdN ⊕ zdj)
 | .c0 s0_0 s0_1 s0_2 =>
 bif decide (0 ≤ s0_2) then
 ((zgM s0_2 w0 w1 w2 s0_0 w4).bind fun gb0 => match gb0 with
 | .e0 gb0_0 gb0_1 =>
 bif gb0_1 then
 (some (.inl (.c0 gb0_0 true (IntKind.i64.wrap (s0_2 - 1)))))
 else (some (.inl (.c0 gb0_0 s0_1 (IntKind.i64.wrap (s0_2 - 1))))))
 else (some (.inr (.e0 s0_0 s0_1)))
noncomputable def zoF : Code := zb6 Try.f44 [1,0,1,1,0,1,0,0]
def zuN (y0 : Int) (w0 : Nat) (w1 : Nat → BitVec 16) (w2 : Nat → BitVec 16) (w3 : Nat → BitVec 16) (w4 : Nat → (Nat × (Nat → Int))) : zdN → List L1 → List Value
 | .c0 s0_0 s0_1 s0_2,ls => [.func (.func 45) #[.pointer (some ⟨(lget ls 0).n,0,none⟩)] #[],.bool (s0_1),.int .i64 (s0_2)]
def zuE : zdN → List (Nat × Nat)
 | .c0 _ _ _ => [(0,1),(1,3),(2,11)]
noncomputable def zuh (y0 : Int) (w0 : Nat) (w1 : Nat → BitVec 16) (w2 : Nat → BitVec 16) (w3 : Nat → BitVec 16) (w4 : Nat → (Nat × (Nat → Int))) (s : zdN) : List L1 → List Value := mrgF (zuE s) (zuN y0 w0 w1 w2 w3 w4 s) 6
def zuq (y0 : Int) (w0 : Nat) (w1 : Nat → BitVec 16) (w2 : Nat → BitVec 16) (w3 : Nat → BitVec 16) (w4 : Nat → (Nat × (Nat → Int))) : zdN → List L1 → List Obj
 | .c0 s0_0 s0_1 s0_2,ls => [.cells #[(rowV (lget ls 1) w0 1),(rowV (lget ls 2) w0 1),(rowV (lget ls 3) w0 1),(rowV (lget ls 4) w0 1)] 59,rowO (lget ls 1) (esG cu16 w0 w1) 27 w0 1,rowO (lget ls 2) (esG cu16 w0 w2) 27 w0 1,rowO (lget ls 3) (esG cu16 w0 s0_0) 27 w0 1,rfR (lget ls 4) (lget ls 5) 36 1 w0 w4,rfO 3 cZ 1 w0 w4,unb]
def zu5 (y0 : Int) (w0 : Nat) (w1 : Nat → BitVec 16) (w2 : Nat → BitVec 16) (w3 : Nat → BitVec 16) (w4 : Nat → (Nat × (Nat → Int))) : zdj → List L1 → List Value
 | .e0 c0_0 c0_1,ls => [.func (.func 45) #[.pointer (some ⟨(lget ls 0).n,0,none⟩)] #[],.bool (c0_1)]
def zuz : zdj → List (Nat × Nat)
 | .e0 _ _ => [(0,1),(1,3),(1,12)]
noncomputable def zoI (y0 : Int) (w0 : Nat) (w1 : Nat → BitVec 16) (w2 : Nat → BitVec 16) (w3 : Nat → BitVec 16) (w4 : Nat → (Nat × (Nat → Int))) (r : zdj) : List L1 → List Value := mrgF (zuz r) (zu5 y0 w0 w1 w2 w3 w4 r) 6
def zjd (y0 : Int) (w0 : Nat) (w1 : Nat → BitVec 16) (w2 : Nat → BitVec 16) (w3 : Nat → BitVec 16) (w4 : Nat → (Nat × (Nat → Int))) : zdj → List L1 → List Obj
 | .e0 c0_0 c0_1,ls => [.cells #[(rowV (lget ls 1) w0 1),(rowV (lget ls 2) w0 1),(rowV (lget ls 3) w0 1),(rowV (lget ls 4) w0 1)] 59,rowO (lget ls 1) (esG cu16 w0 w1) 27 w0 1,rowO (lget ls 2) (esG cu16 w0 w2) 27 w0 1,rowO (lget ls 3) (esG cu16 w0 c0_0) 27 w0 1,rfR (lget ls 4) (lget ls 5) 36 1 w0 w4,rfO 3 cZ 1 w0 w4,unb]
def zug : zdj → Ex
 | .e0 _ _ => (.exit 0)
end
section
variable {M : Nat → Prop} {B0 : Nat} {S : World → Prop} (hU : Up M B0 S) (y0 : Int) (w0 : Nat) (w1 : Nat → BitVec 16) (w2 : Nat → BitVec 16) (w3 : Nat → BitVec 16) (w4 : Nat → (Nat × (Nat → Int)))
include hU y0 w0 w1 w2 w3 w4
theorem zuF (s : zdN) (r : zdj) (h : lpO (zdG w0 w1 w2 w4) s = some r) : zdm Try.prog M B0 S (.loop zoF) 7 (zuh y0 w0 w1 w2 w3 w4 s) (zuq y0 w0 w1 w2 w3 w4 s) (zug r) 6 (zoI y0 w0 w1 w2 w3 w4 r) (zjd y0 w0 w1 w2 w3 w4 r) 7 :=
 zb5 (fun s q e => by
  cases s with
  | c0 s0_0 s0_1 s0_2 =>
   unfold zdG at e
   dsimp only at e
   replace e := za e
   rcases e with ⟨hq0,e⟩ | ⟨hq0,e⟩
   ·replace e := zf e
    obtain ⟨gb0,e_gb0,e⟩ := e
    obtain ⟨gb0_0,gb0_1⟩ := gb0
    try dsimp only at e
    replace e := za e
    rcases e with ⟨hq1,e⟩ | ⟨hq1,e⟩
    ·subst hq1
     cases e; exact zb hU [.o,.b (zsk hq0),.o,.o,.xg (zoA hU s0_2 w0 w1 w2 s0_0 w4 gb0_0 true e_gb0) [0,1,2,3,4,5],.o,.o,.o,.o,.o] [0,1,2,3,4,5] (fun b => rfl) (by decide) rfl rfl (fun b => by kernel_rfl)
    ·subst hq1
     cases e; exact zb hU [.o,.b (zsk hq0),.o,.o,.xg (zoA hU s0_2 w0 w1 w2 s0_0 w4 gb0_0 false e_gb0) [0,1,2,3,4,5],.o,.o,.o,.o] [0,1,2,3,4,5] (fun b => rfl) (by decide) rfl rfl (fun b => by kernel_rfl)
   ·cases e; exact ⟨zcn 0,zb hU [.o,.b (zpX hq0)] [0,1,2,3,4,5] (fun b => rfl) (by decide) rfl rfl (fun b => by kernel_rfl)⟩) s r h
noncomputable def zmm (y0 : Int) (w0 : Nat) (w1 : Nat → BitVec 16) (w2 : Nat → BitVec 16) (w3 : Nat → BitVec 16) (w4 : Nat → (Nat × (Nat → Int))) (s0_0 : Nat → BitVec 16) (s0_1 : Bool) (s0_2 : Int) (ls : List L1) : List Value := List.append [.int .i64 (y0),.func (.func 45) #[.pointer (some ⟨(lget ls 0).n,0,none⟩)] #[],undef,undef,.bool false,.bool (s0_1),.int .i64 (s0_2),.int .i64 (y0),.int .i64 ((IntKind.i64.wrap (y0 - 1)))] (und 9)
def zkP (y0 : Int) (w0 : Nat) (w1 : Nat → BitVec 16) (w2 : Nat → BitVec 16) (w3 : Nat → BitVec 16) (w4 : Nat → (Nat × (Nat → Int))) (s0_0 : Nat → BitVec 16) (s0_1 : Bool) (s0_2 : Int) (ls : List L1) : List Obj := [.cells #[(rowV (lget ls 1) w0 1),(rowV (lget ls 2) w0 1),(rowV (lget ls 3) w0 1),(rowV (lget ls 4) w0 1)] 59,rowO (lget ls 1) (esG cu16 w0 w1) 27 w0 1,rowO (lget ls 2) (esG cu16 w0 w2) 27 w0 1,rowO (lget ls 3) (esG cu16 w0 s0_0) 27 w0 1,rfR (lget ls 4) (lget ls 5) 36 1 w0 w4,rfO 3 cZ 1 w0 w4]
theorem zpL (s0_0 : Nat → BitVec 16) (s0_1 : Bool) (s0_2 : Int) (c0_0 : Nat → BitVec 16) (c0_1 : Bool) (h : lpO (zdG w0 w1 w2 w4) (.c0 s0_0 s0_1 s0_2) = some (.e0 c0_0 c0_1)) : SpcG Try.prog M B0 S ⟨fun ls => .code (.loop zoF) (zmm y0 w0 w1 w2 w3 w4 s0_0 s0_1 s0_2 ls),zkP y0 w0 w1 w2 w3 w4 s0_0 s0_1 s0_2,1,(.exit 0),fun ls => zoI y0 w0 w1 w2 w3 w4 (.e0 c0_0 c0_1) (ls.take 6 ++ ls.drop 6),fun ls => (zjd y0 w0 w1 w2 w3 w4 (.e0 c0_0 c0_1) (ls.take 6 ++ ls.drop 6)).take 6 ++ List.replicate 0 unb,fun ls => (zjd y0 w0 w1 w2 w3 w4 (.e0 c0_0 c0_1) (ls.take 6 ++ ls.drop 6)).drop 6⟩ :=
 zr hU 0 (k0 := 6) (zuF hU y0 w0 w1 w2 w3 w4 _ _ h) (zmm y0 w0 w1 w2 w3 w4 s0_0 s0_1 s0_2) (zkP y0 w0 w1 w2 w3 w4 s0_0 s0_1 s0_2) (fun _ => rfl) (fun ls h => by match ls,h with | [l0,l1,l2,l3,l4,l5],_ => exact ⟨by kernel_rfl,by kernel_rfl⟩) (fun ls h => by match ls,h with | [l0,l1,l2,l3,l4,l5],_ => rfl) (by decide) (by decide) (fun ls => rfl)
inductive zxM where
 | e0 (c0_0 : Nat → BitVec 16) (c0_1 : Bool)
noncomputable def zkx (y0 : Int) (w0 : Nat) (w1 : Nat → BitVec 16) (w2 : Nat → BitVec 16) (w3 : Nat → BitVec 16) (w4 : Nat → (Nat × (Nat → Int))) : Option zxM :=
 (lpO (zdG w0 w1 w2 w4) (.c0 w3 false (IntKind.i64.wrap (y0 - 1)))).bind fun g0 => match g0 with
 | .e0 g0_0 g0_1 =>
 some (.e0 g0_0 g0_1)
def zwa (y0 : Int) (w0 : Nat) (w1 : Nat → BitVec 16) (w2 : Nat → BitVec 16) (w3 : Nat → BitVec 16) (w4 : Nat → (Nat × (Nat → Int))) (c0_0 : Nat → BitVec 16) (c0_1 : Bool) : Spc := ⟨fun ls => .call 44 #[.int .i64 (y0),.func (.func 45) #[.pointer (some ⟨(lget ls 0).n,0,none⟩)] #[]],fun ls => [.cells #[(rowV (lget ls 1) w0 1),(rowV (lget ls 2) w0 1),(rowV (lget ls 3) w0 1),(rowV (lget ls 4) w0 1)] 59,rowO (lget ls 1) (esG cu16 w0 w1) 27 w0 1,rowO (lget ls 2) (esG cu16 w0 w2) 27 w0 1,rowO (lget ls 3) (esG cu16 w0 w3) 27 w0 1,rfR (lget ls 4) (lget ls 5) 36 1 w0 w4,rfO 3 cZ 1 w0 w4],0,.normal,fun ls => [.bool (c0_1)],fun ls => [.cells #[(rowV (lget ls 1) w0 1),(rowV (lget ls 2) w0 1),(rowV (lget ls 3) w0 1),(rowV (lget ls 4) w0 1)] 59,rowO (lget ls 1) (esG cu16 w0 w1) 27 w0 1,rowO (lget ls 2) (esG cu16 w0 w2) 27 w0 1,rowO (lget ls 3) (esG cu16 w0 c0_0) 27 w0 1,rfR (lget ls 4) (lget ls 5) 36 1 w0 w4,rfO 3 cZ 1 w0 w4],fun ls => []⟩
theorem zqU (c0_0 : Nat → BitVec 16) (c0_1 : Bool) (e : zkx y0 w0 w1 w2 w3 w4 = some (.e0 c0_0 c0_1)) : SpcG Try.prog M B0 S (zwa y0 w0 w1 w2 w3 w4 c0_0 c0_1) := by
 unfold zkx at e
 replace e := zf e
 obtain ⟨g0,e_g0,e⟩ := e
 obtain ⟨g0_0,g0_1⟩ := g0
 try dsimp only at e
 injection e with e; injection e with i0 i1; subst i0 i1; exact zo hU (P := Try.prog) Try.func44 (fun xs w => by kernel_rfl) 6 _ _ (fun _ => rfl) _ _ _ [] [.o,.o,.o,.o,.o,.cp,.cx (zpL hU y0 w0 w1 w2 w3 w4 w3 false (IntKind.i64.wrap (y0 - 1)) g0_0 g0_1 e_g0) [0,1,2,3,4,5],.o,.o] [] (fun b => by kernel_rfl)
inductive zeS where
 | c0 (s0_0 : Nat → BitVec 16) (s0_1 : Nat → BitVec 16) (s0_2 : Nat → (Nat × (Nat → Int))) (s0_3 : Int)
inductive ze0 where
 | e0 (c0_0 : Nat → BitVec 16) (c0_1 : Nat → BitVec 16) (c0_2 : Nat → BitVec 16) (c0_3 : Nat → (Nat × (Nat → Int)))
noncomputable def zdl (n0 : Nat) (A0 : Nat → Insn) : zeS → Option (zeS ⊕ ze0)
 | .c0 s0_0 s0_1 s0_2 s0_3 =>
 bif decide (s0_3 < (n0 : Int)) then
 (bif inR s0_3 n0 then
 ((zgA n0 A0 s0_3).bind fun gb0 => match gb0 with
 | .e0 gb0_0 => (bif gb0_0 == 0 then
 ((zcS ((A0 (s0_3).toNat))).bind fun rb1 =>
 (zcZ ((A0 (s0_3).toNat))).bind fun rb2 =>
 some (.inl (.c0 (updF s0_0 (s0_3).toNat rb1.1) (updF s0_1 (s0_3).toNat rb2.1) (updF s0_2 (s0_3).toNat (0,fun _ => 0)) (IntKind.i64.wrap (s0_3 + 1)))))
 else (some (.inl (.c0 s0_0 s0_1 s0_2 (IntKind.i64.wrap (s0_3 + 1))))))
 | .e1 gb0_0 gb0_1 => (bif decide (0 < gb0_0) then
 (bif decide (gb0_0 ≤ 1000000) then
 ((zcS ((A0 (s0_3).toNat))).bind fun rb1 =>
 (zcZ ((A0 (s0_3).toNat))).bind fun rb2 =>
 some (.inl (.c0 (updF s0_0 (s0_3).toNat rb1.1) (updF s0_1 (s0_3).toNat rb2.1) (updF s0_2 (s0_3).toNat (gb0_0,gb0_1)) (IntKind.i64.wrap (s0_3 + 1)))))
 else (none))
 else (none)))
 else (none))
 else (some (.inr (.e0 s0_0 s0_1 (fun _ => 0#16) s0_2)))
noncomputable def zsJ : Code := zb6 Try.f29 [1,1,0,1,0,0]
def zwW (a0 : Option Addr) (p0 q0 n0 k0 : Nat) (A0 : Nat → Insn) : zeS → List L1 → List Value
 | .c0 s0_0 s0_1 s0_2 s0_3,ls => [.slice a0 n0 (n0 + k0),.pointer (some ⟨(lget ls 4).n,0,none⟩),.slice a0 n0 (n0 + k0),.int .i64 ((n0 : Int)),.int .i64 (s0_3)]
def zxp : zeS → List (Nat × Nat)
 | .c0 _ _ _ _ => [(1,2),(1,18),(3,48)]
noncomputable def zxh (a0 : Option Addr) (p0 q0 n0 k0 : Nat) (A0 : Nat → Insn) (s : zeS) : List L1 → List Value := mrgF (zxp s) (zwW a0 p0 q0 n0 k0 A0 s) 6
def zxE (a0 : Option Addr) (p0 q0 n0 k0 : Nat) (A0 : Nat → Insn) : zeS → List L1 → List Obj
 | .c0 s0_0 s0_1 s0_2 s0_3,ls => [rowO (lget ls 0) (esG cu16 n0 s0_0) 27 n0 1,rowO (lget ls 1) (esG cu16 n0 s0_1) 27 n0 1,rowO (lget ls 2) (esG cu16 n0 (fun _ => 0#16)) 27 n0 1,rfR (lget ls 3) (lget ls 5) 36 1 n0 s0_2,.cells #[(rowV (lget ls 0) n0 1),(rowV (lget ls 1) n0 1),(rowV (lget ls 2) n0 1),(rowV (lget ls 3) n0 1)] 59,rfO 3 cZ 1 n0 s0_2,unb]
def zwG (a0 : Option Addr) (p0 q0 n0 k0 : Nat) (A0 : Nat → Insn) : ze0 → List L1 → List Value
 | .e0 c0_0 c0_1 c0_2 c0_3,ls => [.slice a0 n0 (n0 + k0),.pointer (some ⟨(lget ls 4).n,0,none⟩),.slice a0 n0 (n0 + k0),.int .i64 ((n0 : Int))]
def zwK : ze0 → List (Nat × Nat)
 | .e0 _ _ _ _ => [(1,2),(1,18),(2,49)]
noncomputable def zst (a0 : Option Addr) (p0 q0 n0 k0 : Nat) (A0 : Nat → Insn) (r : ze0) : List L1 → List Value := mrgF (zwK r) (zwG a0 p0 q0 n0 k0 A0 r) 6
def zm3 (a0 : Option Addr) (p0 q0 n0 k0 : Nat) (A0 : Nat → Insn) : ze0 → List L1 → List Obj
 | .e0 c0_0 c0_1 c0_2 c0_3,ls => [rowO (lget ls 0) (esG cu16 n0 c0_0) 27 n0 1,rowO (lget ls 1) (esG cu16 n0 c0_1) 27 n0 1,rowO (lget ls 2) (esG cu16 n0 c0_2) 27 n0 1,rfR (lget ls 3) (lget ls 5) 36 1 n0 c0_3,.cells #[(rowV (lget ls 0) n0 1),(rowV (lget ls 1) n0 1),(rowV (lget ls 2) n0 1),(rowV (lget ls 3) n0 1)] 59,rfO 3 cZ 1 n0 c0_3,unb]
def zxc : ze0 → Ex
 | .e0 _ _ _ _ => (.exit 0)
end
section
variable {M : Nat → Prop} {B0 : Nat} {S : World → Prop} (hU : Up M B0 S) (a0 : Option Addr) (p0 q0 n0 k0 : Nat) (A0 : Nat → Insn) (hR0 : Ro S zd9 5 a0 p0 q0 n0 A0)
include hU a0 p0 q0 n0 k0 A0 hR0
theorem zxz (s : zeS) (r : ze0) (h : lpO (zdl n0 A0) s = some r) : zdm Try.prog M B0 S (.loop zsJ) 7 (zxh a0 p0 q0 n0 k0 A0 s) (zxE a0 p0 q0 n0 k0 A0 s) (zxc r) 5 (zst a0 p0 q0 n0 k0 A0 r) (zm3 a0 p0 q0 n0 k0 A0 r) 7 :=
 zb5 (fun s q e => by
  cases s with
  | c0 s0_0 s0_1 s0_2 s0_3 =>
   unfold zdl at e
   dsimp only at e
   replace e := za e
   rcases e with ⟨hq0,e⟩ | ⟨hq0,e⟩
   ·replace e := za e
    rcases e with ⟨hq1,e⟩ | ⟨hq1,e⟩
    ·replace e := zf e
     obtain ⟨gb0,e_gb0,e⟩ := e
     let P1 : List (PG Try.prog M B0 S) := [.b (zcR hq0),.o,.q (zA (kd := .i64) (T := 22) (x := s0_3) (sz := 5) rfl (fun w => by kernel_rfl) hR0 hq1),.l (zcm hR0 zj (ze hq1) 0 [.int .u8 (nn ((A0 (s0_3).toNat)).fOp),.int .u8 (nn ((A0 (s0_3).toNat)).fDst),.int .u8 (nn ((A0 (s0_3).toNat)).fSrc),.int .i16 (ii ((A0 (s0_3).toNat)).fOff),.int .i32 (ii ((A0 (s0_3).toNat)).fImm)] rfl),.o,.o,.a 7,.o,.o]
     rcases gb0 with ⟨gb0_0⟩ | ⟨gb0_0,gb0_1⟩
     ·try dsimp only at e
      replace e := za e
      let P2 : List (PG Try.prog M B0 S) := P1 ++ [.xg (zyh hU a0 p0 q0 n0 k0 A0 hR0 s0_3 gb0_0 e_gb0) [],.o,.o,.o,.o,.o,.o]
      rcases e with ⟨hq2,e⟩ | ⟨hq2,e⟩
      ·replace e := zf e
       obtain ⟨rb1,e_rb1,e⟩ := e
       try dsimp only at e
       replace e := zf e
       obtain ⟨rb2,e_rb2,e⟩ := e
       try dsimp only at e
       cases e; exact zb hU (P2 ++ [.b (zdq hq2),.o,.o,.o,.a 4,.o,.o,.q (zH (kd := .i64) (T := 57) (x := s0_3) (N := n0) (sz := 1) rfl (fun w => by kernel_rfl) hq1),.xg (zAv (T := 36) (e := 36) (T2 := 3) (f := cZ) (sz := 1) (N := n0) (k := (s0_3).toNat) (D := s0_2) (g := fun _ => 0) (fun w => by kernel_rfl) (ze hq1)) [3,5],.r [0,1,2,3,4,5,6,7,8,9,10] [] [11],.o,.o,.o,.a 4,.o,.a 7,.cg (zqk hU ((A0 (s0_3).toNat)) rb1 e_rb1),.o,.o,.o,.q (zH (kd := .i64) (T := 30) (x := s0_3) (N := n0) (sz := 1) rfl (fun w => by kernel_rfl) hq1),.x (zd0 (T := 27) (e := 27) (f := cu16) (A := s0_0) (v := rb1.1) 0 (.int .u16 (nn rb1.1)) zc0 zs1 rfl rfl (fun w => by kernel_rfl) (ze hq1)) [0],.r [0,1,2,3,4,5,6,7,8,9,10] [] [11],.o,.o,.o,.a 4,.o,.a 7,.cg (zoY hU ((A0 (s0_3).toNat)) rb2 e_rb2),.o,.o,.o,.q (zH (kd := .i64) (T := 30) (x := s0_3) (N := n0) (sz := 1) rfl (fun w => by kernel_rfl) hq1),.x (zd0 (T := 27) (e := 27) (f := cu16) (A := s0_1) (v := rb2.1) 0 (.int .u16 (nn rb2.1)) zc0 zs1 rfl rfl (fun w => by kernel_rfl) (ze hq1)) [1],.o,.o]) [0,1,2,3,4,5] (fun b => rfl) (by decide) rfl rfl (fun b => by kernel_rfl)
      ·cases e; exact zb hU (P2 ++ [.b (zdU hq2),.o,.o]) [0,1,2,3,4,5] (fun b => rfl) (by decide) rfl rfl (fun b => by kernel_rfl)
     ·try dsimp only at e
      replace e := za e
      rcases e with ⟨hq2,e⟩ | ⟨hq2,e⟩
      ·replace e := za e
       rcases e with ⟨hq3,e⟩ | ⟨hq3,e⟩
       ·replace e := zf e
        obtain ⟨rb1,e_rb1,e⟩ := e
        try dsimp only at e
        replace e := zf e
        obtain ⟨rb2,e_rb2,e⟩ := e
        try dsimp only at e
        cases e; exact zb hU (P1 ++ [.xg (zyx hU a0 p0 q0 n0 k0 A0 hR0 s0_3 gb0_0 gb0_1 e_gb0) [],.o,.o,.o,.o,.o,.o,.o,.o,.o,.o,.a 4,.o,.o,.q (zH (kd := .i64) (T := 57) (x := s0_3) (N := n0) (sz := 1) rfl (fun w => by kernel_rfl) hq1),.xg (zAB (T := 36) (e := 36) (T2 := 3) .row (f := cZ) (sz := 1) (N := n0) (k := (s0_3).toNat) (D := s0_2) (m := gb0_0) (B := gb0_1) (fun w => by kernel_rfl) (ze hq1) hq2 hq3) [3,5,8],.r [0,1,2,3,4,5,6,7,8,9,10] [] [11],.o,.o,.o,.a 4,.o,.a 7,.cg (zqk hU ((A0 (s0_3).toNat)) rb1 e_rb1),.o,.o,.o,.q (zH (kd := .i64) (T := 30) (x := s0_3) (N := n0) (sz := 1) rfl (fun w => by kernel_rfl) hq1),.x (zd0 (T := 27) (e := 27) (f := cu16) (A := s0_0) (v := rb1.1) 0 (.int .u16 (nn rb1.1)) zc0 zs1 rfl rfl (fun w => by kernel_rfl) (ze hq1)) [0],.r [0,1,2,3,4,5,6,7,8,9,10] [] [11],.o,.o,.o,.a 4,.o,.a 7,.cg (zoY hU ((A0 (s0_3).toNat)) rb2 e_rb2),.o,.o,.o,.q (zH (kd := .i64) (T := 30) (x := s0_3) (N := n0) (sz := 1) rfl (fun w => by kernel_rfl) hq1),.x (zd0 (T := 27) (e := 27) (f := cu16) (A := s0_1) (v := rb2.1) 0 (.int .u16 (nn rb2.1)) zc0 zs1 rfl rfl (fun w => by kernel_rfl) (ze hq1)) [1],.o,.o]) [0,1,2,3,4,9] (fun b => rfl) (by decide) rfl rfl (fun b => by kernel_rfl)
       ·exact zd e
      ·exact zd e
    ·exact zd e
   ·cases e; exact ⟨zcn 0,zb hU [.b (zb7 hq0)] [0,1,2,3,4,5] (fun b => rfl) (by decide) rfl rfl (fun b => by kernel_rfl)⟩) s r h
noncomputable def zpK (a0 : Option Addr) (p0 q0 n0 k0 : Nat) (A0 : Nat → Insn) (s0_0 : Nat → BitVec 16) (s0_1 : Nat → BitVec 16) (s0_2 : Nat → (Nat × (Nat → Int))) (s0_3 : Int) (ls : List L1) : List Value := List.append [.slice a0 n0 (n0 + k0),undef,.pointer none,.pointer (some ⟨(lget ls 4).n,0,none⟩)] (List.append (und 4) (List.append [.slice a0 n0 (n0 + k0),.int .i64 ((n0 : Int)),(rowV (lget ls 0) n0 1),.slice a0 n0 (n0 + k0),.int .i64 ((n0 : Int)),(rowV (lget ls 1) n0 1),.slice a0 n0 (n0 + k0),.int .i64 ((n0 : Int)),(rowV (lget ls 2) n0 1),.slice a0 n0 (n0 + k0),.int .i64 ((n0 : Int)),(rowV (lget ls 3) n0 1),.agg #[(rowV (lget ls 0) n0 1),(rowV (lget ls 1) n0 1),(rowV (lget ls 2) n0 1),(rowV (lget ls 3) n0 1)],.pointer (some ⟨(lget ls 4).n,0,none⟩),.slice a0 n0 (n0 + k0),.int .i64 ((n0 : Int)),.int .i64 (s0_3)] (und 48)))
def zoG (a0 : Option Addr) (p0 q0 n0 k0 : Nat) (A0 : Nat → Insn) (s0_0 : Nat → BitVec 16) (s0_1 : Nat → BitVec 16) (s0_2 : Nat → (Nat × (Nat → Int))) (s0_3 : Int) (ls : List L1) : List Obj := [rowO (lget ls 0) (esG cu16 n0 s0_0) 27 n0 1,rowO (lget ls 1) (esG cu16 n0 s0_1) 27 n0 1,rowO (lget ls 2) (esG cu16 n0 (fun _ => 0#16)) 27 n0 1,rfR (lget ls 3) (lget ls 5) 36 1 n0 s0_2,.cells #[(rowV (lget ls 0) n0 1),(rowV (lget ls 1) n0 1),(rowV (lget ls 2) n0 1),(rowV (lget ls 3) n0 1)] 59,rfO 3 cZ 1 n0 s0_2]
theorem zsu (s0_0 : Nat → BitVec 16) (s0_1 : Nat → BitVec 16) (s0_2 : Nat → (Nat × (Nat → Int))) (s0_3 : Int) (c0_0 : Nat → BitVec 16) (c0_1 : Nat → BitVec 16) (c0_2 : Nat → BitVec 16) (c0_3 : Nat → (Nat × (Nat → Int))) (h : lpO (zdl n0 A0) (.c0 s0_0 s0_1 s0_2 s0_3) = some (.e0 c0_0 c0_1 c0_2 c0_3)) : SpcG Try.prog M B0 S ⟨fun ls => .code (.loop zsJ) (zpK a0 p0 q0 n0 k0 A0 s0_0 s0_1 s0_2 s0_3 ls),zoG a0 p0 q0 n0 k0 A0 s0_0 s0_1 s0_2 s0_3,2,(.exit 0),fun ls => zst a0 p0 q0 n0 k0 A0 (.e0 c0_0 c0_1 c0_2 c0_3) (ls.take 5 ++ ls.drop 6),fun ls => (zm3 a0 p0 q0 n0 k0 A0 (.e0 c0_0 c0_1 c0_2 c0_3) (ls.take 5 ++ ls.drop 6)).take 5 ++ List.replicate 1 unb,fun ls => (zm3 a0 p0 q0 n0 k0 A0 (.e0 c0_0 c0_1 c0_2 c0_3) (ls.take 5 ++ ls.drop 6)).drop 5⟩ :=
 zr hU 0 (k0 := 6) (zxz hU a0 p0 q0 n0 k0 A0 hR0 _ _ h) (zpK a0 p0 q0 n0 k0 A0 s0_0 s0_1 s0_2 s0_3) (zoG a0 p0 q0 n0 k0 A0 s0_0 s0_1 s0_2 s0_3) (fun _ => rfl) (fun ls h => by match ls,h with | [l0,l1,l2,l3,l4,l5],_ => exact ⟨by kernel_rfl,by kernel_rfl⟩) (fun ls h => by match ls,h with | [l0,l1,l2,l3,l4,l5],_ => rfl) (by decide) (by decide) (fun ls => rfl)
inductive zfc where
 | c0 (s0_0 : Nat → BitVec 16)
inductive zeX where
 | e0 (c0_0 : Nat → BitVec 16)
noncomputable def zeU (n0 : Nat) (g0_0 : Nat → BitVec 16) (g0_1 : Nat → BitVec 16) (g0_3 : Nat → (Nat × (Nat → Int))) : zfc → Option (zfc ⊕ zeX)
 | .c0 s0_0 =>
 (zkx (n0 : Int) n0 g0_0 g0_1 s0_0 g0_3).bind fun gb0 => match gb0 with
 | .e0 gb0_0 gb0_1 =>
 bif gb0_1 then
 (some (.inl (.c0 gb0_0)))
 else (some (.inr (.e0 gb0_0)))
noncomputable def zsE : Code := zb6 Try.f29 [1,1,1,0,0,0]
def zxb (a0 : Option Addr) (p0 q0 n0 k0 : Nat) (A0 : Nat → Insn) (g0_0 : Nat → BitVec 16) (g0_1 : Nat → BitVec 16) (g0_2 : Nat → BitVec 16) (g0_3 : Nat → (Nat × (Nat → Int))) : zfc → List L1 → List Value
 | .c0 s0_0,ls => [.slice a0 n0 (n0 + k0),.pointer (some ⟨(lget ls 4).n,0,none⟩)]
def zxG : zfc → List (Nat × Nat)
 | .c0 _ => [(1,2),(1,69)]
noncomputable def zxu (a0 : Option Addr) (p0 q0 n0 k0 : Nat) (A0 : Nat → Insn) (g0_0 : Nat → BitVec 16) (g0_1 : Nat → BitVec 16) (g0_2 : Nat → BitVec 16) (g0_3 : Nat → (Nat × (Nat → Int))) (s : zfc) : List L1 → List Value := mrgF (zxG s) (zxb a0 p0 q0 n0 k0 A0 g0_0 g0_1 g0_2 g0_3 s) 8
def zw5 (a0 : Option Addr) (p0 q0 n0 k0 : Nat) (A0 : Nat → Insn) (g0_0 : Nat → BitVec 16) (g0_1 : Nat → BitVec 16) (g0_2 : Nat → BitVec 16) (g0_3 : Nat → (Nat × (Nat → Int))) : zfc → List L1 → List Obj
 | .c0 s0_0,ls => [rowO (lget ls 0) (esG cu16 n0 g0_0) 27 n0 1,rowO (lget ls 1) (esG cu16 n0 g0_1) 27 n0 1,rowO (lget ls 2) (esG cu16 n0 s0_0) 27 n0 1,rfR (lget ls 3) (lget ls 6) 36 1 n0 g0_3,.cells #[(rowV (lget ls 0) n0 1),(rowV (lget ls 1) n0 1),(rowV (lget ls 2) n0 1),(rowV (lget ls 3) n0 1)] 59,unb,rfO 3 cZ 1 n0 g0_3,unb,unb]
def zxF (a0 : Option Addr) (p0 q0 n0 k0 : Nat) (A0 : Nat → Insn) (g0_0 : Nat → BitVec 16) (g0_1 : Nat → BitVec 16) (g0_2 : Nat → BitVec 16) (g0_3 : Nat → (Nat × (Nat → Int))) : zeX → List L1 → List Value
 | .e0 c0_0,ls => [.slice a0 n0 (n0 + k0),.pointer (some ⟨(lget ls 4).n,0,none⟩)]
def zw6 : zeX → List (Nat × Nat)
 | .e0 _ => [(1,2),(1,69)]
noncomputable def zsv (a0 : Option Addr) (p0 q0 n0 k0 : Nat) (A0 : Nat → Insn) (g0_0 : Nat → BitVec 16) (g0_1 : Nat → BitVec 16) (g0_2 : Nat → BitVec 16) (g0_3 : Nat → (Nat × (Nat → Int))) (r : zeX) : List L1 → List Value := mrgF (zw6 r) (zxF a0 p0 q0 n0 k0 A0 g0_0 g0_1 g0_2 g0_3 r) 8
def znL (a0 : Option Addr) (p0 q0 n0 k0 : Nat) (A0 : Nat → Insn) (g0_0 : Nat → BitVec 16) (g0_1 : Nat → BitVec 16) (g0_2 : Nat → BitVec 16) (g0_3 : Nat → (Nat × (Nat → Int))) : zeX → List L1 → List Obj
 | .e0 c0_0,ls => [rowO (lget ls 0) (esG cu16 n0 g0_0) 27 n0 1,rowO (lget ls 1) (esG cu16 n0 g0_1) 27 n0 1,rowO (lget ls 2) (esG cu16 n0 c0_0) 27 n0 1,rfR (lget ls 3) (lget ls 6) 36 1 n0 g0_3,.cells #[(rowV (lget ls 0) n0 1),(rowV (lget ls 1) n0 1),(rowV (lget ls 2) n0 1),(rowV (lget ls 3) n0 1)] 59,unb,rfO 3 cZ 1 n0 g0_3,unb,unb]
def zxn : zeX → Ex
 | .e0 _ => (.exit 2)
theorem zwO (g0_0 : Nat → BitVec 16) (g0_1 : Nat → BitVec 16) (g0_2 : Nat → BitVec 16) (g0_3 : Nat → (Nat × (Nat → Int))) (s : zfc) (r : zeX) (h : lpO (zeU n0 g0_0 g0_1 g0_3) s = some r) : zdm Try.prog M B0 S (.loop zsE) 9 (zxu a0 p0 q0 n0 k0 A0 g0_0 g0_1 g0_2 g0_3 s) (zw5 a0 p0 q0 n0 k0 A0 g0_0 g0_1 g0_2 g0_3 s) (zxn r) 8 (zsv a0 p0 q0 n0 k0 A0 g0_0 g0_1 g0_2 g0_3 r) (znL a0 p0 q0 n0 k0 A0 g0_0 g0_1 g0_2 g0_3 r) 9 :=
 zb5 (fun s q e => by
  cases s with
  | c0 s0_0 =>
   unfold zeU at e
   dsimp only at e
   replace e := zf e
   obtain ⟨gb0,e_gb0,e⟩ := e
   obtain ⟨gb0_0,gb0_1⟩ := gb0
   try dsimp only at e
   replace e := za e
   rcases e with ⟨hq0,e⟩ | ⟨hq0,e⟩
   ·subst hq0
    cases e; exact zb hU [.o,.o,.o,.o,.xg (zqU hU (n0 : Int) n0 g0_0 g0_1 s0_0 g0_3 gb0_0 true e_gb0) [4,0,1,2,3,6]] [0,1,2,3,4,5,6,7] (fun b => rfl) (by decide) rfl rfl (fun b => by kernel_rfl)
   ·subst hq0
    cases e; exact ⟨zcn 2,zb hU [.o,.o,.o,.o,.xg (zqU hU (n0 : Int) n0 g0_0 g0_1 s0_0 g0_3 gb0_0 false e_gb0) [4,0,1,2,3,6]] [0,1,2,3,4,5,6,7] (fun b => rfl) (by decide) rfl rfl (fun b => by kernel_rfl)⟩) s r h
noncomputable def zpO (a0 : Option Addr) (p0 q0 n0 k0 : Nat) (A0 : Nat → Insn) (g0_0 : Nat → BitVec 16) (g0_1 : Nat → BitVec 16) (g0_2 : Nat → BitVec 16) (g0_3 : Nat → (Nat × (Nat → Int))) (s0_0 : Nat → BitVec 16) (ls : List L1) : List Value := List.append [.slice a0 n0 (n0 + k0),((lget ls 7).u 1),((lget ls 7).u 2),.pointer (some ⟨(lget ls 4).n,0,none⟩)] (List.append (jks (lget ls 7).u 4 18) (List.append [.slice a0 n0 (n0 + k0),.int .i64 ((n0 : Int))] (jks (lget ls 7).u 24 49)))
def zoB (a0 : Option Addr) (p0 q0 n0 k0 : Nat) (A0 : Nat → Insn) (g0_0 : Nat → BitVec 16) (g0_1 : Nat → BitVec 16) (g0_2 : Nat → BitVec 16) (g0_3 : Nat → (Nat × (Nat → Int))) (s0_0 : Nat → BitVec 16) (ls : List L1) : List Obj := [rowO (lget ls 0) (esG cu16 n0 g0_0) 27 n0 1,rowO (lget ls 1) (esG cu16 n0 g0_1) 27 n0 1,rowO (lget ls 2) (esG cu16 n0 s0_0) 27 n0 1,rfR (lget ls 3) (lget ls 6) 36 1 n0 g0_3,.cells #[(rowV (lget ls 0) n0 1),(rowV (lget ls 1) n0 1),(rowV (lget ls 2) n0 1),(rowV (lget ls 3) n0 1)] 59,unb,rfO 3 cZ 1 n0 g0_3,unb]
theorem zsz (g0_0 : Nat → BitVec 16) (g0_1 : Nat → BitVec 16) (g0_2 : Nat → BitVec 16) (g0_3 : Nat → (Nat × (Nat → Int))) (s0_0 : Nat → BitVec 16) (c0_0 : Nat → BitVec 16) (h : lpO (zeU n0 g0_0 g0_1 g0_3) (.c0 s0_0) = some (.e0 c0_0)) : SpcG Try.prog M B0 S ⟨fun ls => .code (.loop zsE) (zpO a0 p0 q0 n0 k0 A0 g0_0 g0_1 g0_2 g0_3 s0_0 ls),zoB a0 p0 q0 n0 k0 A0 g0_0 g0_1 g0_2 g0_3 s0_0,1,(.exit 2),fun ls => zsv a0 p0 q0 n0 k0 A0 g0_0 g0_1 g0_2 g0_3 (.e0 c0_0) (ls.take 8 ++ ls.drop 8),fun ls => (znL a0 p0 q0 n0 k0 A0 g0_0 g0_1 g0_2 g0_3 (.e0 c0_0) (ls.take 8 ++ ls.drop 8)).take 8 ++ List.replicate 0 unb,fun ls => (znL a0 p0 q0 n0 k0 A0 g0_0 g0_1 g0_2 g0_3 (.e0 c0_0) (ls.take 8 ++ ls.drop 8)).drop 8⟩ :=
 zr hU 0 (k0 := 8) (zwO hU a0 p0 q0 n0 k0 A0 hR0 g0_0 g0_1 g0_2 g0_3 _ _ h) (zpO a0 p0 q0 n0 k0 A0 g0_0 g0_1 g0_2 g0_3 s0_0) (zoB a0 p0 q0 n0 k0 A0 g0_0 g0_1 g0_2 g0_3 s0_0) (fun _ => rfl) (fun ls h => by match ls,h with | [l0,l1,l2,l3,l4,l5,l6,l7],_ => exact ⟨by kernel_rfl,by kernel_rfl⟩) (fun ls h => by match ls,h with | [l0,l1,l2,l3,l4,l5,l6,l7],_ => rfl) (by decide) (by decide) (fun ls => rfl)
inductive zzq where
 | e0 (c0_0 : Nat → BitVec 16) (c0_1 : Nat → BitVec 16) (c0_2 : Nat → BitVec 16) (c0_3 : Nat → (Nat × (Nat → Int)))
noncomputable def ziC (n0 : Nat) (A0 : Nat → Insn) : Option zzq :=
 bif decide (n0 ≤ 1000000) then
 ((lpO (zdl n0 A0) (.c0 (fun _ => 0#16) (fun _ => 0#16) (fun _ => (0,fun _ => 0)) 0)).bind fun g0 => match g0 with
 | .e0 g0_0 g0_1 g0_2 g0_3 =>
 (lpO (zeU n0 g0_0 g0_1 g0_3) (.c0 g0_2)).bind fun g1 => match g1 with
 | .e0 g1_0 =>
 some (.e0 g0_0 g0_1 g1_0 g0_3))
 else (none)
def zyk (a0 : Option Addr) (p0 q0 n0 k0 : Nat) (A0 : Nat → Insn) (c0_0 : Nat → BitVec 16) (c0_1 : Nat → BitVec 16) (c0_2 : Nat → BitVec 16) (c0_3 : Nat → (Nat × (Nat → Int))) : Spc := ⟨fun ls => .call 29 #[.slice a0 n0 (n0 + k0)],fun ls => [],6,.normal,fun ls => [.pointer (some ⟨(lget ls 0).n,0,none⟩)],fun ls => [],fun ls => [.cells #[(rowV (lget ls 1) n0 1),(rowV (lget ls 2) n0 1),(rowV (lget ls 3) n0 1),(rowV (lget ls 4) n0 1)] 59,rowO (lget ls 1) (esG cu16 n0 c0_0) 27 n0 1,rowO (lget ls 2) (esG cu16 n0 c0_1) 27 n0 1,rowO (lget ls 3) (esG cu16 n0 c0_2) 27 n0 1,rfR (lget ls 4) (lget ls 5) 36 1 n0 c0_3,rfO 3 cZ 1 n0 c0_3]⟩
theorem zqn (c0_0 : Nat → BitVec 16) (c0_1 : Nat → BitVec 16) (c0_2 : Nat → BitVec 16) (c0_3 : Nat → (Nat × (Nat → Int))) (e : ziC n0 A0 = some (.e0 c0_0 c0_1 c0_2 c0_3)) : SpcG Try.prog M B0 S (zyk a0 p0 q0 n0 k0 A0 c0_0 c0_1 c0_2 c0_3) := by
 unfold ziC at e
 replace e := za e
 rcases e with ⟨hq0,e⟩ | ⟨hq0,e⟩
 ·replace e := zf e
  obtain ⟨g0,e_g0,e⟩ := e
  obtain ⟨g0_0,g0_1,g0_2,g0_3⟩ := g0
  try dsimp only at e
  replace e := zf e
  obtain ⟨g1,e_g1,e⟩ := e
  obtain ⟨g1_0⟩ := g1
  try dsimp only at e
  injection e with e; injection e with i0 i1 i2 i3; subst i0 i1 i2 i3; exact zo hU (P := Try.prog) Try.func29 (fun xs w => by kernel_rfl) 0 _ _ (fun _ => rfl) _ _ _ [4,0,1,2,3,6] [.o,.rm [0,1,3,4,6,7,9,10] [2,5,8,11] [12,13,14] [(2,⟨_,zwv rt30 (f := cu16) (a0 := 0#16) zc0 (by kernel_rfl) hq0 (by decide)⟩),(5,⟨_,zwv rt30 (f := cu16) (a0 := 0#16) zc0 (by kernel_rfl) hq0 (by decide)⟩),(8,⟨_,zwv rt30 (f := cu16) (a0 := 0#16) zc0 (by kernel_rfl) hq0 (by decide)⟩),(11,⟨_,zCx rt57 (sz := 1) (g0 := fun _ => 0) (by kernel_rfl) hq0 (by decide)⟩)],.o,.o,.o,.o,.o,.o,.o,.o,.o,.o,.xg (zCQ (e := 36) (T2 := 3) (X := fun ls => .pointer (some ⟨(lget ls 1).n,0,none⟩)) (R := fun ls => [.cells #[(rowV (lget ls 2) n0 1),(rowV (lget ls 3) n0 1),(rowV (lget ls 4) n0 1),(rowV (lget ls 0) n0 1)] 59,rowO (lget ls 2) (esG cu16 n0 (fun _ => 0#16)) 27 n0 1,rowO (lget ls 3) (esG cu16 n0 (fun _ => 0#16)) 27 n0 1,rowO (lget ls 4) (esG cu16 n0 (fun _ => 0#16)) 27 n0 1]) (n := 5) (f := cZ) (sz := 1) (N := n0) (g0 := fun _ => 0) (by decide) (fun _ => rfl) (fun ls m h => match ls,h with | [a0,a1,a2,a3,a4],_ => ⟨rfl,rfl⟩)) [3,4,0,1,2],.o,.o,.o,.cp,.cx (zsu hU a0 p0 q0 n0 k0 A0 hR0 (fun _ => 0#16) (fun _ => 0#16) (fun _ => (0,fun _ => 0)) 0 g0_0 g0_1 g0_2 g0_3 e_g0) [0,1,2,3,4,5],.cp,.cx (zsz hU a0 p0 q0 n0 k0 A0 hR0 g0_0 g0_1 g0_2 g0_3 g0_2 g1_0 e_g1) [0,1,2,3,4,5,6,7],.o,.o] [] (fun b => by kernel_rfl)
 ·exact zd e
inductive zzI where
 | e0 (c0_0 : Nat → BitVec 16)
 | e1 (c1_0 : Int)
noncomputable def zdQ (n0 : Nat) (A0 : Nat → Insn) : Option zzI :=
 (zb0 n0 A0).bind fun r0 =>
 bif r0.2 == 0 then
 ((ziC n0 A0).bind fun g1 => match g1 with
 | .e0 g1_0 g1_1 g1_2 g1_3 =>
 some (.e0 g1_2))
 else (some (.e1 r0.2))
def zyn (a0 : Option Addr) (p0 q0 n0 k0 : Nat) (A0 : Nat → Insn) (c0_0 : Nat → BitVec 16) : Spc := ⟨fun ls => .call 9 #[.slice a0 n0 (n0 + k0)],fun ls => [],1,.normal,fun ls => [.tuple #[(rowV (lget ls 0) n0 1),.int .i64 (0)]],fun ls => [],fun ls => [rowO (lget ls 0) (esG cu16 n0 c0_0) 27 n0 1]⟩
def zyf (a0 : Option Addr) (p0 q0 n0 k0 : Nat) (A0 : Nat → Insn) (c1_0 : Int) : Spc := ⟨fun ls => .call 9 #[.slice a0 n0 (n0 + k0)],fun ls => [],0,.normal,fun ls => [.tuple #[.slice none 0 0,.int .i64 (c1_0)]],fun ls => [],fun ls => []⟩
theorem zql (c0_0 : Nat → BitVec 16) (e : zdQ n0 A0 = some (.e0 c0_0)) : SpcG Try.prog M B0 S (zyn a0 p0 q0 n0 k0 A0 c0_0) := by
 unfold zdQ at e
 replace e := zf e
 obtain ⟨r0,e_r0,e⟩ := e
 try dsimp only at e
 replace e := za e
 rcases e with ⟨hq0,e⟩ | ⟨hq0,e⟩
 ·replace e := zf e
  obtain ⟨g1,e_g1,e⟩ := e
  obtain ⟨g1_0,g1_1,g1_2,g1_3⟩ := g1
  try dsimp only at e
  injection e with e; injection e with i0; subst i0; exact zo hU (P := Try.prog) Try.func9 (fun xs w => by kernel_rfl) 0 _ _ (fun _ => rfl) _ _ _ [3] [.o,.o,.o,.cg (zfy hU a0 p0 q0 n0 k0 A0 hR0 r0 e_r0),.o,.o,.o,.o,.o,.o,.b (zdq hq0),.o,.xg (zqn hU a0 p0 q0 n0 k0 A0 hR0 g1_0 g1_1 g1_2 g1_3 e_g1) [],.o,.o,.a 0,.o,.o] [] (fun b => by kernel_rfl)
 ·cases e
theorem zqb (c1_0 : Int) (e : zdQ n0 A0 = some (.e1 c1_0)) : SpcG Try.prog M B0 S (zyf a0 p0 q0 n0 k0 A0 c1_0) := by
 unfold zdQ at e
 replace e := zf e
 obtain ⟨r0,e_r0,e⟩ := e
 try dsimp only at e
 replace e := za e
 rcases e with ⟨hq0,e⟩ | ⟨hq0,e⟩
 ·replace e := zf e
  obtain ⟨g1,e_g1,e⟩ := e
  obtain ⟨g1_0,g1_1,g1_2,g1_3⟩ := g1
  try dsimp only at e
  cases e
 ·injection e with e; injection e with i0; subst i0; exact zo hU (P := Try.prog) Try.func9 (fun xs w => by kernel_rfl) 0 _ _ (fun _ => rfl) _ _ _ [] [.o,.o,.o,.cg (zfy hU a0 p0 q0 n0 k0 A0 hR0 r0 e_r0),.o,.o,.o,.o,.o,.o,.b (zdU hq0),.o,.o,.o] [] (fun b => by kernel_rfl)
noncomputable def zeE (y0 : Insn) : Bool :=
 bif (y0.fOp &&& 7#8) == 0#8 then
 (true)
 else (bif (y0.fOp &&& 7#8) == 4#8 then
 (true)
 else (bif (y0.fOp &&& 7#8) == 7#8 then
 (true)
 else (false)))
end
section
variable {M : Nat → Prop} {B0 : Nat} {S : World → Prop} (hU : Up M B0 S)
include hU
theorem zoH (y0 : Insn) (r : Bool) (e : zeE y0 = r) : ConG Try.prog S 34 #[(zeP y0)] (.bool (r)) := by
 unfold zeE at e
 replace e := za e
 let P1 : List (PG Try.prog M B0 S) := [.o,.o,.o,.a 0,.v .u8 (zpZ y0.fOp (7#8))]
 rcases e with ⟨hq0,e⟩ | ⟨hq0,e⟩
 ·subst e; exact zc hU (P := Try.prog) Try.func34 (fun xs w => by kernel_rfl) _ _ (P1 ++ [.t (u_eq (y0.fOp &&& 7#8) (0#8)) hq0,.o,.o]) [] (fun b => by kernel_rfl)
 ·replace e := za e
  rcases e with ⟨hq1,e⟩ | ⟨hq1,e⟩
  ·subst e; exact zc hU (P := Try.prog) Try.func34 (fun xs w => by kernel_rfl) _ _ (P1 ++ [.t (u_eq (y0.fOp &&& 7#8) (0#8)) hq0,.o,.t (u_eq (y0.fOp &&& 7#8) (4#8)) hq1,.o,.o]) [] (fun b => by kernel_rfl)
  ·replace e := za e
   rcases e with ⟨hq2,e⟩ | ⟨hq2,e⟩
   ·subst e; exact zc hU (P := Try.prog) Try.func34 (fun xs w => by kernel_rfl) _ _ (P1 ++ [.t (u_eq (y0.fOp &&& 7#8) (0#8)) hq0,.o,.t (u_eq (y0.fOp &&& 7#8) (4#8)) hq1,.o,.t (u_eq (y0.fOp &&& 7#8) (7#8)) hq2,.o,.o]) [] (fun b => by kernel_rfl)
   ·subst e; exact zc hU (P := Try.prog) Try.func34 (fun xs w => by kernel_rfl) _ _ (P1 ++ [.t (u_eq (y0.fOp &&& 7#8) (0#8)) hq0,.o,.t (u_eq (y0.fOp &&& 7#8) (4#8)) hq1,.o,.t (u_eq (y0.fOp &&& 7#8) (7#8)) hq2,.o,.o]) [] (fun b => by kernel_rfl)
inductive zeZ where
 | c0 (s0_0 : Int)
 | c1 (s0_0 : Nat) (s0_1 : Nat → Int) (s0_2 : Int)
inductive zeT where
 | e0 
 | e1 (c1_0 : Nat) (c1_1 : Nat → Int)
noncomputable def zR (n0 : Nat) (A0 : Nat → Insn) (g1_0 : Nat → Bool) (g2_0 : Nat → BitVec 16) (g2_1 : Nat → BitVec 16) (g2_2 : Nat → BitVec 16) (g2_3 : Nat → (Nat × (Nat → Int))) : zeZ → Option (zeZ ⊕ zeT)
 | .c0 s0_0 =>
 bif decide (s0_0 < (n0 : Int)) then
 (bif inR s0_0 n0 then
 (bif inR s0_0 ((n0 : Int)).toNat then
 (bif (g1_0 (s0_0).toNat) then
 (bif zeE ((A0 (s0_0).toNat)) then
 ((zdJ s0_0 n0 g2_0 g2_1 g2_2 g2_3).bind fun gb0 => match gb0 with
 | .e0 gb0_0 =>
 zv (zc3 ((A0 (s0_0).toNat)).fDst) fun rb1 =>
 bif (gb0_0 &&& rb1) == 0#16 then
 (some (.inl (.c1 1 (fun _ => s0_0) (IntKind.i64.wrap (s0_0 + 1)))))
 else (some (.inl (.c0 (IntKind.i64.wrap (s0_0 + 1))))))
 else (some (.inl (.c0 (IntKind.i64.wrap (s0_0 + 1))))))
 else (some (.inl (.c0 (IntKind.i64.wrap (s0_0 + 1))))))
 else (none))
 else (none))
 else (some (.inr (.e0 )))
 | .c1 s0_0 s0_1 s0_2 =>
 bif decide (s0_2 < (n0 : Int)) then
 (bif inR s0_2 n0 then
 (bif inR s0_2 ((n0 : Int)).toNat then
 (bif (g1_0 (s0_2).toNat) then
 (bif zeE ((A0 (s0_2).toNat)) then
 ((zdJ s0_2 n0 g2_0 g2_1 g2_2 g2_3).bind fun gb0 => match gb0 with
 | .e0 gb0_0 =>
 zv (zc3 ((A0 (s0_2).toNat)).fDst) fun rb1 =>
 bif (gb0_0 &&& rb1) == 0#16 then
 (bif decide (s0_0 ≤ 1000000) then
 (some (.inl (.c1 (s0_0 + 1) (updF s0_1 s0_0 s0_2) (IntKind.i64.wrap (s0_2 + 1)))))
 else (none))
 else (some (.inl (.c1 s0_0 s0_1 (IntKind.i64.wrap (s0_2 + 1))))))
 else (some (.inl (.c1 s0_0 s0_1 (IntKind.i64.wrap (s0_2 + 1))))))
 else (some (.inl (.c1 s0_0 s0_1 (IntKind.i64.wrap (s0_2 + 1))))))
 else (none))
 else (none))
 else (some (.inr (.e1 s0_0 s0_1)))
noncomputable def zn4 : Code := zb6 Try.f11 [1,1,1,1,1,0,1,0,0]
def zwT (a0 : Option Addr) (p0 q0 n0 k0 : Nat) (A0 : Nat → Insn) (r0 : (Int) × (Int)) (g1_0 : Nat → Bool) (g2_0 : Nat → BitVec 16) (g2_1 : Nat → BitVec 16) (g2_2 : Nat → BitVec 16) (g2_3 : Nat → (Nat × (Nat → Int))) : zeZ → List L1 → List Value
 | .c0 s0_0,ls => [(rowV (lget ls 0) ((n0 : Int)).toNat 1),.pointer (some ⟨(lget ls 1).n,0,none⟩),.slice none 0 0,.slice a0 n0 (n0 + k0),.int .i64 ((n0 : Int)),.int .i64 (s0_0)]
 | .c1 s0_0 s0_1 s0_2,ls => [(rowV (lget ls 0) ((n0 : Int)).toNat 1),.pointer (some ⟨(lget ls 1).n,0,none⟩),(rowV (lget ls 7) s0_0 1),.slice a0 n0 (n0 + k0),.int .i64 ((n0 : Int)),.int .i64 (s0_2)]
def zw1 : zeZ → List (Nat × Nat)
 | .c0 _ => [(0,6),(1,1),(2,17),(3,28)]
 | .c1 _ _ _ => [(0,6),(1,1),(2,17),(3,28)]
noncomputable def zwZ (a0 : Option Addr) (p0 q0 n0 k0 : Nat) (A0 : Nat → Insn) (r0 : (Int) × (Int)) (g1_0 : Nat → Bool) (g2_0 : Nat → BitVec 16) (g2_1 : Nat → BitVec 16) (g2_2 : Nat → BitVec 16) (g2_3 : Nat → (Nat × (Nat → Int))) (s : zeZ) : List L1 → List Value := mrgF (zw1 s) (zwT a0 p0 q0 n0 k0 A0 r0 g1_0 g2_0 g2_1 g2_2 g2_3 s) 8
def zxq (a0 : Option Addr) (p0 q0 n0 k0 : Nat) (A0 : Nat → Insn) (r0 : (Int) × (Int)) (g1_0 : Nat → Bool) (g2_0 : Nat → BitVec 16) (g2_1 : Nat → BitVec 16) (g2_2 : Nat → BitVec 16) (g2_3 : Nat → (Nat × (Nat → Int))) : zeZ → List L1 → List Obj
 | .c0 s0_0,ls => [rowO (lget ls 0) (esG cB ((n0 : Int)).toNat g1_0) 4 ((n0 : Int)).toNat 1,.cells #[(rowV (lget ls 2) n0 1),(rowV (lget ls 3) n0 1),(rowV (lget ls 4) n0 1),(rowV (lget ls 5) n0 1)] 59,rowO (lget ls 2) (esG cu16 n0 g2_0) 27 n0 1,rowO (lget ls 3) (esG cu16 n0 g2_1) 27 n0 1,rowO (lget ls 4) (esG cu16 n0 g2_2) 27 n0 1,rfR (lget ls 5) (lget ls 6) 36 1 n0 g2_3,rfO 3 cZ 1 n0 g2_3,unb,unb]
 | .c1 s0_0 s0_1 s0_2,ls => [rowO (lget ls 0) (esG cB ((n0 : Int)).toNat g1_0) 4 ((n0 : Int)).toNat 1,.cells #[(rowV (lget ls 2) n0 1),(rowV (lget ls 3) n0 1),(rowV (lget ls 4) n0 1),(rowV (lget ls 5) n0 1)] 59,rowO (lget ls 2) (esG cu16 n0 g2_0) 27 n0 1,rowO (lget ls 3) (esG cu16 n0 g2_1) 27 n0 1,rowO (lget ls 4) (esG cu16 n0 g2_2) 27 n0 1,rfR (lget ls 5) (lget ls 6) 36 1 n0 g2_3,rfO 3 cZ 1 n0 g2_3,rowO (lget ls 7) (esG cZ s0_0 s0_1) 3 s0_0 1,unb]
def zwy (a0 : Option Addr) (p0 q0 n0 k0 : Nat) (A0 : Nat → Insn) (r0 : (Int) × (Int)) (g1_0 : Nat → Bool) (g2_0 : Nat → BitVec 16) (g2_1 : Nat → BitVec 16) (g2_2 : Nat → BitVec 16) (g2_3 : Nat → (Nat × (Nat → Int))) : zeT → List L1 → List Value
 | .e0 ,ls => [(rowV (lget ls 0) ((n0 : Int)).toNat 1),.pointer (some ⟨(lget ls 1).n,0,none⟩),.slice none 0 0,.slice a0 n0 (n0 + k0),.int .i64 ((n0 : Int))]
 | .e1 c1_0 c1_1,ls => [(rowV (lget ls 0) ((n0 : Int)).toNat 1),.pointer (some ⟨(lget ls 1).n,0,none⟩),(rowV (lget ls 7) c1_0 1),.slice a0 n0 (n0 + k0),.int .i64 ((n0 : Int))]
def zxd : zeT → List (Nat × Nat)
 | .e0  => [(0,6),(1,1),(2,17),(2,29)]
 | .e1 _ _ => [(0,6),(1,1),(2,17),(2,29)]
noncomputable def znk (a0 : Option Addr) (p0 q0 n0 k0 : Nat) (A0 : Nat → Insn) (r0 : (Int) × (Int)) (g1_0 : Nat → Bool) (g2_0 : Nat → BitVec 16) (g2_1 : Nat → BitVec 16) (g2_2 : Nat → BitVec 16) (g2_3 : Nat → (Nat × (Nat → Int))) (r : zeT) : List L1 → List Value := mrgF (zxd r) (zwy a0 p0 q0 n0 k0 A0 r0 g1_0 g2_0 g2_1 g2_2 g2_3 r) 8
def zhI (a0 : Option Addr) (p0 q0 n0 k0 : Nat) (A0 : Nat → Insn) (r0 : (Int) × (Int)) (g1_0 : Nat → Bool) (g2_0 : Nat → BitVec 16) (g2_1 : Nat → BitVec 16) (g2_2 : Nat → BitVec 16) (g2_3 : Nat → (Nat × (Nat → Int))) : zeT → List L1 → List Obj
 | .e0 ,ls => [rowO (lget ls 0) (esG cB ((n0 : Int)).toNat g1_0) 4 ((n0 : Int)).toNat 1,.cells #[(rowV (lget ls 2) n0 1),(rowV (lget ls 3) n0 1),(rowV (lget ls 4) n0 1),(rowV (lget ls 5) n0 1)] 59,rowO (lget ls 2) (esG cu16 n0 g2_0) 27 n0 1,rowO (lget ls 3) (esG cu16 n0 g2_1) 27 n0 1,rowO (lget ls 4) (esG cu16 n0 g2_2) 27 n0 1,rfR (lget ls 5) (lget ls 6) 36 1 n0 g2_3,rfO 3 cZ 1 n0 g2_3,unb,unb]
 | .e1 c1_0 c1_1,ls => [rowO (lget ls 0) (esG cB ((n0 : Int)).toNat g1_0) 4 ((n0 : Int)).toNat 1,.cells #[(rowV (lget ls 2) n0 1),(rowV (lget ls 3) n0 1),(rowV (lget ls 4) n0 1),(rowV (lget ls 5) n0 1)] 59,rowO (lget ls 2) (esG cu16 n0 g2_0) 27 n0 1,rowO (lget ls 3) (esG cu16 n0 g2_1) 27 n0 1,rowO (lget ls 4) (esG cu16 n0 g2_2) 27 n0 1,rfR (lget ls 5) (lget ls 6) 36 1 n0 g2_3,rfO 3 cZ 1 n0 g2_3,rowO (lget ls 7) (esG cZ c1_0 c1_1) 3 c1_0 1,unb]
def zwS : zeT → Ex
 | .e0  => (.exit 0)
 | .e1 _ _ => (.exit 0)
end
section
variable {M : Nat → Prop} {B0 : Nat} {S : World → Prop} (hU : Up M B0 S) (a0 : Option Addr) (p0 q0 n0 k0 : Nat) (A0 : Nat → Insn) (hR0 : Ro S zd9 5 a0 p0 q0 n0 A0) (r0 : (Int) × (Int)) (g1_0 : Nat → Bool) (g2_0 : Nat → BitVec 16) (g2_1 : Nat → BitVec 16) (g2_2 : Nat → BitVec 16) (g2_3 : Nat → (Nat × (Nat → Int)))
include hU a0 p0 q0 n0 k0 A0 hR0 r0 g1_0 g2_0 g2_1 g2_2 g2_3
theorem zsT (s : zeZ) (r : zeT) (h : lpO (zR n0 A0 g1_0 g2_0 g2_1 g2_2 g2_3) s = some r) : zdm Try.prog M B0 S (.loop zn4) 9 (zwZ a0 p0 q0 n0 k0 A0 r0 g1_0 g2_0 g2_1 g2_2 g2_3 s) (zxq a0 p0 q0 n0 k0 A0 r0 g1_0 g2_0 g2_1 g2_2 g2_3 s) (zwS r) 7 (znk a0 p0 q0 n0 k0 A0 r0 g1_0 g2_0 g2_1 g2_2 g2_3 r) (zhI a0 p0 q0 n0 k0 A0 r0 g1_0 g2_0 g2_1 g2_2 g2_3 r) 9 :=
 zb5 (fun s q e => by
  cases s with
  | c0 s0_0 =>
   unfold zR at e
   dsimp only at e
   replace e := za e
   rcases e with ⟨hq0,e⟩ | ⟨hq0,e⟩
   ·replace e := za e
    rcases e with ⟨hq1,e⟩ | ⟨hq1,e⟩
    ·replace e := za e
     let P1 : List (PG Try.prog M B0 S) := [.b (zcR hq0),.o,.q (zA (kd := .i64) (T := 22) (x := s0_0) (sz := 5) rfl (fun w => by kernel_rfl) hR0 hq1),.l (zcm hR0 zj (ze hq1) 0 [.int .u8 (nn ((A0 (s0_0).toNat)).fOp),.int .u8 (nn ((A0 (s0_0).toNat)).fDst),.int .u8 (nn ((A0 (s0_0).toNat)).fSrc),.int .i16 (ii ((A0 (s0_0).toNat)).fOff),.int .i32 (ii ((A0 (s0_0).toNat)).fImm)] rfl),.o,.o,.a 9,.r [0,1,2,3,4,5,6,7,8,9,10,12,13] [] [11,14,15,16,17],.o,.o]
     rcases e with ⟨hq2,e⟩ | ⟨hq2,e⟩
     ·replace e := za e
      let P2 : List (PG Try.prog M B0 S) := P1 ++ [.q (zH (kd := .i64) (T := 64) (x := s0_0) (N := ((n0 : Int)).toNat) (sz := 1) rfl (fun w => by kernel_rfl) hq2)]
      rcases e with ⟨hq3,e⟩ | ⟨hq3,e⟩
      ·replace e := za e
       let P3 : List (PG Try.prog M B0 S) := P2 ++ [.l (accG (i := 0) (f := cB) (A := g1_0) (k := (s0_0).toNat) 0 [.bool true] zbc (ze hq2) (congrArg (fun b => [Value.bool b]) hq3)),.o,.a 9]
       rcases e with ⟨hq4,e⟩ | ⟨hq4,e⟩
       ·replace e := zf e
        obtain ⟨gb0,e_gb0,e⟩ := e
        obtain ⟨gb0_0⟩ := gb0
        try dsimp only at e
        replace e := zg e
        obtain ⟨rb1,e_rb1,e⟩ := e
        try dsimp only at e
        replace e := za e
        let P4 : List (PG Try.prog M B0 S) := P3 ++ [.cg (zoH hU ((A0 (s0_0).toNat)) true hq4),.o,.o,.o,.o,.o,.a 9,.xr (zin hU s0_0 n0 g2_0 g2_1 g2_2 g2_3 gb0_0 e_gb0) (fun _ => rfl) rfl (fun _ => rfl) [1,2,3,4,5,6],.cg (zdP hU ((A0 (s0_0).toNat)).fDst rb1 e_rb1),.v .u16 (zsS gb0_0 rb1)]
        rcases e with ⟨hq5,e⟩ | ⟨hq5,e⟩
        ·cases e; exact zb hU (P4 ++ [.t (u_eq (gb0_0 &&& rb1) (0#16)) hq5,.o,.o,.o,.o,.x (zet (ty := 36) rt36 #[false,false] (f := cZ) (c := 1) s0_0 (T' := 3) zb1 zme (by decide)) [10],.o,.o,.o]) [0,1,2,3,4,5,6,11] (fun b => rfl) (by decide) rfl rfl (fun b => by kernel_rfl)
        ·cases e; exact zb hU (P4 ++ [.t (u_eq (gb0_0 &&& rb1) (0#16)) hq5,.o,.o,.o]) [0,1,2,3,4,5,6,7] (fun b => rfl) (by decide) rfl rfl (fun b => by kernel_rfl)
       ·cases e; exact zb hU (P3 ++ [.cg (zoH hU ((A0 (s0_0).toNat)) false hq4),.o,.o,.o,.o,.o]) [0,1,2,3,4,5,6,7] (fun b => rfl) (by decide) rfl rfl (fun b => by kernel_rfl)
      ·cases e; exact zb hU (P2 ++ [.l (accG (i := 0) (f := cB) (A := g1_0) (k := (s0_0).toNat) 0 [.bool false] zbc (ze hq2) (congrArg (fun b => [Value.bool b]) hq3)),.o,.o,.o,.o,.o,.o]) [0,1,2,3,4,5,6,7] (fun b => rfl) (by decide) rfl rfl (fun b => by kernel_rfl)
     ·exact zd e
    ·exact zd e
   ·cases e; exact ⟨zcn 0,zb hU [.b (zb7 hq0)] [0,1,2,3,4,5,6,7] (fun b => rfl) (by decide) rfl rfl (fun b => by kernel_rfl)⟩
  | c1 s0_0 s0_1 s0_2 =>
   unfold zR at e
   dsimp only at e
   replace e := za e
   rcases e with ⟨hq0,e⟩ | ⟨hq0,e⟩
   ·replace e := za e
    rcases e with ⟨hq1,e⟩ | ⟨hq1,e⟩
    ·replace e := za e
     let P5 : List (PG Try.prog M B0 S) := [.b (zcR hq0),.o,.q (zA (kd := .i64) (T := 22) (x := s0_2) (sz := 5) rfl (fun w => by kernel_rfl) hR0 hq1),.l (zcm hR0 zj (ze hq1) 0 [.int .u8 (nn ((A0 (s0_2).toNat)).fOp),.int .u8 (nn ((A0 (s0_2).toNat)).fDst),.int .u8 (nn ((A0 (s0_2).toNat)).fSrc),.int .i16 (ii ((A0 (s0_2).toNat)).fOff),.int .i32 (ii ((A0 (s0_2).toNat)).fImm)] rfl),.o,.o,.a 9,.r [0,1,2,3,4,5,6,7,8,9,10,12,13] [] [11,14,15,16,17],.o,.o]
     rcases e with ⟨hq2,e⟩ | ⟨hq2,e⟩
     ·replace e := za e
      let P6 : List (PG Try.prog M B0 S) := P5 ++ [.q (zH (kd := .i64) (T := 64) (x := s0_2) (N := ((n0 : Int)).toNat) (sz := 1) rfl (fun w => by kernel_rfl) hq2)]
      rcases e with ⟨hq3,e⟩ | ⟨hq3,e⟩
      ·replace e := za e
       let P7 : List (PG Try.prog M B0 S) := P6 ++ [.l (accG (i := 0) (f := cB) (A := g1_0) (k := (s0_2).toNat) 0 [.bool true] zbc (ze hq2) (congrArg (fun b => [Value.bool b]) hq3)),.o,.a 9]
       rcases e with ⟨hq4,e⟩ | ⟨hq4,e⟩
       ·replace e := zf e
        obtain ⟨gb0,e_gb0,e⟩ := e
        obtain ⟨gb0_0⟩ := gb0
        try dsimp only at e
        replace e := zg e
        obtain ⟨rb1,e_rb1,e⟩ := e
        try dsimp only at e
        replace e := za e
        let P8 : List (PG Try.prog M B0 S) := P7 ++ [.cg (zoH hU ((A0 (s0_2).toNat)) true hq4),.o,.o,.o,.o,.o,.a 9,.xr (zin hU s0_2 n0 g2_0 g2_1 g2_2 g2_3 gb0_0 e_gb0) (fun _ => rfl) rfl (fun _ => rfl) [1,2,3,4,5,6],.cg (zdP hU ((A0 (s0_2).toNat)).fDst rb1 e_rb1),.v .u16 (zsS gb0_0 rb1)]
        rcases e with ⟨hq5,e⟩ | ⟨hq5,e⟩
        ·replace e := za e
         rcases e with ⟨hq6,e⟩ | ⟨hq6,e⟩
         ·cases e; exact zb hU (P8 ++ [.t (u_eq (gb0_0 &&& rb1) (0#16)) hq5,.o,.o,.o,.o,.x (zer (ty := 36) rt36 #[false,false] (f := cZ) (N := s0_0) (A := s0_1) (c := 1) [s0_2] (T' := 3) .row zb1 zme hq6 rfl (by decide)) [7,10],.o,.o,.o]) [0,1,2,3,4,5,6,11] (fun b => rfl) (by decide) rfl rfl (fun b => by kernel_rfl)
         ·exact zd e
        ·cases e; exact zb hU (P8 ++ [.t (u_eq (gb0_0 &&& rb1) (0#16)) hq5,.o,.o,.o]) [0,1,2,3,4,5,6,7] (fun b => rfl) (by decide) rfl rfl (fun b => by kernel_rfl)
       ·cases e; exact zb hU (P7 ++ [.cg (zoH hU ((A0 (s0_2).toNat)) false hq4),.o,.o,.o,.o,.o]) [0,1,2,3,4,5,6,7] (fun b => rfl) (by decide) rfl rfl (fun b => by kernel_rfl)
      ·cases e; exact zb hU (P6 ++ [.l (accG (i := 0) (f := cB) (A := g1_0) (k := (s0_2).toNat) 0 [.bool false] zbc (ze hq2) (congrArg (fun b => [Value.bool b]) hq3)),.o,.o,.o,.o,.o,.o]) [0,1,2,3,4,5,6,7] (fun b => rfl) (by decide) rfl rfl (fun b => by kernel_rfl)
     ·exact zd e
    ·exact zd e
   ·cases e; exact ⟨zcn 0,zb hU [.b (zb7 hq0)] [0,1,2,3,4,5,6,7] (fun b => rfl) (by decide) rfl rfl (fun b => by kernel_rfl)⟩) s r h
noncomputable def zhZ (a0 : Option Addr) (p0 q0 n0 k0 : Nat) (A0 : Nat → Insn) (r0 : (Int) × (Int)) (g1_0 : Nat → Bool) (g2_0 : Nat → BitVec 16) (g2_1 : Nat → BitVec 16) (g2_2 : Nat → BitVec 16) (g2_3 : Nat → (Nat × (Nat → Int))) (s0_0 : Int) (ls : List L1) : List Value := List.append [.slice a0 n0 (n0 + k0),undef,.slice none 0 0,.int .i64 (0),.int .i64 (r0.1),.int .i64 (r0.2),(rowV (lget ls 0) ((n0 : Int)).toNat 1),.int .i64 (0),.pointer (some ⟨(lget ls 1).n,0,none⟩),.slice none 0 0,undef,undef,.tuple #[.int .i64 (r0.1),.int .i64 (r0.2)],.slice a0 n0 (n0 + k0),.tuple #[.int .i64 (r0.1),.int .i64 (r0.2)],.int .i64 (r0.1),.int .i64 (r0.2),.int .i64 (r0.2),.bool false,undef,.tuple #[(rowV (lget ls 0) ((n0 : Int)).toNat 1),.int .i64 (0)],.slice a0 n0 (n0 + k0),.tuple #[(rowV (lget ls 0) ((n0 : Int)).toNat 1),.int .i64 (0)],(rowV (lget ls 0) ((n0 : Int)).toNat 1),.int .i64 (0),.slice a0 n0 (n0 + k0),.pointer (some ⟨(lget ls 1).n,0,none⟩),.slice a0 n0 (n0 + k0),.int .i64 ((n0 : Int)),.int .i64 (s0_0)] (und 28)
def zhp (a0 : Option Addr) (p0 q0 n0 k0 : Nat) (A0 : Nat → Insn) (r0 : (Int) × (Int)) (g1_0 : Nat → Bool) (g2_0 : Nat → BitVec 16) (g2_1 : Nat → BitVec 16) (g2_2 : Nat → BitVec 16) (g2_3 : Nat → (Nat × (Nat → Int))) (s0_0 : Int) (ls : List L1) : List Obj := [rowO (lget ls 0) (esG cB ((n0 : Int)).toNat g1_0) 4 ((n0 : Int)).toNat 1,.cells #[(rowV (lget ls 2) n0 1),(rowV (lget ls 3) n0 1),(rowV (lget ls 4) n0 1),(rowV (lget ls 5) n0 1)] 59,rowO (lget ls 2) (esG cu16 n0 g2_0) 27 n0 1,rowO (lget ls 3) (esG cu16 n0 g2_1) 27 n0 1,rowO (lget ls 4) (esG cu16 n0 g2_2) 27 n0 1,rfR (lget ls 5) (lget ls 6) 36 1 n0 g2_3,rfO 3 cZ 1 n0 g2_3]
theorem zsV (s0_0 : Int) (h : lpO (zR n0 A0 g1_0 g2_0 g2_1 g2_2 g2_3) (.c0 s0_0) = some (.e0 )) : SpcG Try.prog M B0 S ⟨fun ls => .code (.loop zn4) (zhZ a0 p0 q0 n0 k0 A0 r0 g1_0 g2_0 g2_1 g2_2 g2_3 s0_0 ls),zhp a0 p0 q0 n0 k0 A0 r0 g1_0 g2_0 g2_1 g2_2 g2_3 s0_0,2,(.exit 0),fun ls => znk a0 p0 q0 n0 k0 A0 r0 g1_0 g2_0 g2_1 g2_2 g2_3 (.e0 ) (ls.take 7 ++ ls.drop 7),fun ls => (zhI a0 p0 q0 n0 k0 A0 r0 g1_0 g2_0 g2_1 g2_2 g2_3 (.e0 ) (ls.take 7 ++ ls.drop 7)).take 7 ++ List.replicate 0 unb,fun ls => (zhI a0 p0 q0 n0 k0 A0 r0 g1_0 g2_0 g2_1 g2_2 g2_3 (.e0 ) (ls.take 7 ++ ls.drop 7)).drop 7⟩ :=
 zr hU 1 (k0 := 7) (zsT hU a0 p0 q0 n0 k0 A0 hR0 r0 g1_0 g2_0 g2_1 g2_2 g2_3 _ _ h) (zhZ a0 p0 q0 n0 k0 A0 r0 g1_0 g2_0 g2_1 g2_2 g2_3 s0_0) (zhp a0 p0 q0 n0 k0 A0 r0 g1_0 g2_0 g2_1 g2_2 g2_3 s0_0) (fun _ => rfl) (fun ls h => by match ls,h with | [l0,l1,l2,l3,l4,l5,l6],_ => exact ⟨by kernel_rfl,by kernel_rfl⟩) (fun ls h => by match ls,h with | [l0,l1,l2,l3,l4,l5,l6],_ => rfl) (by decide) (by decide) (fun ls => rfl)
theorem zsB (s0_0 : Int) (c1_0 : Nat) (c1_1 : Nat → Int) (h : lpO (zR n0 A0 g1_0 g2_0 g2_1 g2_2 g2_3) (.c0 s0_0) = some (.e1 c1_0 c1_1)) : SpcG Try.prog M B0 S ⟨fun ls => .code (.loop zn4) (zhZ a0 p0 q0 n0 k0 A0 r0 g1_0 g2_0 g2_1 g2_2 g2_3 s0_0 ls),zhp a0 p0 q0 n0 k0 A0 r0 g1_0 g2_0 g2_1 g2_2 g2_3 s0_0,2,(.exit 0),fun ls => znk a0 p0 q0 n0 k0 A0 r0 g1_0 g2_0 g2_1 g2_2 g2_3 (.e1 c1_0 c1_1) (ls.take 7 ++ ls.drop 7),fun ls => (zhI a0 p0 q0 n0 k0 A0 r0 g1_0 g2_0 g2_1 g2_2 g2_3 (.e1 c1_0 c1_1) (ls.take 7 ++ ls.drop 7)).take 7 ++ List.replicate 0 unb,fun ls => (zhI a0 p0 q0 n0 k0 A0 r0 g1_0 g2_0 g2_1 g2_2 g2_3 (.e1 c1_0 c1_1) (ls.take 7 ++ ls.drop 7)).drop 7⟩ :=
 zr hU 1 (k0 := 7) (zsT hU a0 p0 q0 n0 k0 A0 hR0 r0 g1_0 g2_0 g2_1 g2_2 g2_3 _ _ h) (zhZ a0 p0 q0 n0 k0 A0 r0 g1_0 g2_0 g2_1 g2_2 g2_3 s0_0) (zhp a0 p0 q0 n0 k0 A0 r0 g1_0 g2_0 g2_1 g2_2 g2_3 s0_0) (fun _ => rfl) (fun ls h => by match ls,h with | [l0,l1,l2,l3,l4,l5,l6],_ => exact ⟨by kernel_rfl,by kernel_rfl⟩) (fun ls h => by match ls,h with | [l0,l1,l2,l3,l4,l5,l6],_ => rfl) (by decide) (by decide) (fun ls => rfl)
inductive zzv where
 | e0 (c0_0 : Int)
 | e1 (c1_0 : Nat) (c1_1 : Nat → Int)
noncomputable def zdE (n0 : Nat) (A0 : Nat → Insn) : Option zzv :=
 (zb0 n0 A0).bind fun r0 =>
 bif r0.2 == 0 then
 ((zg1 n0 A0).bind fun g1 => match g1 with
 | .e0 g1_0 =>
 (ziC n0 A0).bind fun g2 => match g2 with
 | .e0 g2_0 g2_1 g2_2 g2_3 =>
 (lpO (zR n0 A0 g1_0 g2_0 g2_1 g2_2 g2_3) (.c0 0)).bind fun g3 => match g3 with
 | .e0  => (some (.e0 0))
 | .e1 g3_0 g3_1 => (some (.e1 g3_0 g3_1)))
 else (some (.e0 r0.2))
def zyL (a0 : Option Addr) (p0 q0 n0 k0 : Nat) (A0 : Nat → Insn) (c0_0 : Int) : Spc := ⟨fun ls => .call 11 #[.slice a0 n0 (n0 + k0)],fun ls => [],0,.normal,fun ls => [.tuple #[.slice none 0 0,.int .i64 (c0_0)]],fun ls => [],fun ls => []⟩
def zyD (a0 : Option Addr) (p0 q0 n0 k0 : Nat) (A0 : Nat → Insn) (c1_0 : Nat) (c1_1 : Nat → Int) : Spc := ⟨fun ls => .call 11 #[.slice a0 n0 (n0 + k0)],fun ls => [],1,.normal,fun ls => [.tuple #[(rowV (lget ls 0) c1_0 1),.int .i64 (0)]],fun ls => [],fun ls => [rowO (lget ls 0) (esG cZ c1_0 c1_1) 3 c1_0 1]⟩
end
section
variable {M : Nat → Prop} {B0 : Nat} {S : World → Prop} (hU : Up M B0 S) (a0 : Option Addr) (p0 q0 n0 k0 : Nat) (A0 : Nat → Insn) (hR0 : Ro S zd9 5 a0 p0 q0 n0 A0)
include hU a0 p0 q0 n0 k0 A0 hR0
theorem zqM (c0_0 : Int) (e : zdE n0 A0 = some (.e0 c0_0)) : SpcG Try.prog M B0 S (zyL a0 p0 q0 n0 k0 A0 c0_0) := by
 unfold zdE at e
 replace e := zf e
 obtain ⟨r0,e_r0,e⟩ := e
 try dsimp only at e
 replace e := za e
 let P1 : List (PG Try.prog M B0 S) := [.o,.o,.o,.cg (zfy hU a0 p0 q0 n0 k0 A0 hR0 r0 e_r0),.o,.o,.o,.o,.o,.o]
 rcases e with ⟨hq0,e⟩ | ⟨hq0,e⟩
 ·replace e := zf e
  obtain ⟨g1,e_g1,e⟩ := e
  obtain ⟨g1_0⟩ := g1
  try dsimp only at e
  replace e := zf e
  obtain ⟨g2,e_g2,e⟩ := e
  obtain ⟨g2_0,g2_1,g2_2,g2_3⟩ := g2
  try dsimp only at e
  replace e := zf e
  obtain ⟨g3,e_g3,e⟩ := e
  rcases g3 with _ | ⟨g3_0,g3_1⟩
  ·try dsimp only at e
   injection e with e; injection e with i0; subst i0; exact zo hU (P := Try.prog) Try.func11 (fun xs w => by kernel_rfl) 0 _ _ (fun _ => rfl) _ _ _ [] (P1 ++ [.b (zdq hq0),.o,.xg (zqV hU a0 p0 q0 n0 k0 A0 hR0 g1_0 e_g1) [],.o,.o,.o,.o,.o,.o,.xg (zqn hU a0 p0 q0 n0 k0 A0 hR0 g2_0 g2_1 g2_2 g2_3 e_g2) [],.o,.o,.o,.o,.o,.cp,.cx (zsV hU a0 p0 q0 n0 k0 A0 hR0 r0 g1_0 g2_0 g2_1 g2_2 g2_3 0  e_g3) [0,1,2,3,4,5,6],.o,.o,.o]) [] (fun b => by kernel_rfl)
  ·try dsimp only at e
   cases e
 ·injection e with e; injection e with i0; subst i0; exact zo hU (P := Try.prog) Try.func11 (fun xs w => by kernel_rfl) 0 _ _ (fun _ => rfl) _ _ _ [] (P1 ++ [.b (zdU hq0),.o,.o,.o]) [] (fun b => by kernel_rfl)
theorem zvc (c1_0 : Nat) (c1_1 : Nat → Int) (e : zdE n0 A0 = some (.e1 c1_0 c1_1)) : SpcG Try.prog M B0 S (zyD a0 p0 q0 n0 k0 A0 c1_0 c1_1) := by
 unfold zdE at e
 replace e := zf e
 obtain ⟨r0,e_r0,e⟩ := e
 try dsimp only at e
 replace e := za e
 rcases e with ⟨hq0,e⟩ | ⟨hq0,e⟩
 ·replace e := zf e
  obtain ⟨g1,e_g1,e⟩ := e
  obtain ⟨g1_0⟩ := g1
  try dsimp only at e
  replace e := zf e
  obtain ⟨g2,e_g2,e⟩ := e
  obtain ⟨g2_0,g2_1,g2_2,g2_3⟩ := g2
  try dsimp only at e
  replace e := zf e
  obtain ⟨g3,e_g3,e⟩ := e
  rcases g3 with _ | ⟨g3_0,g3_1⟩
  ·try dsimp only at e
   cases e
  ·try dsimp only at e
   injection e with e; injection e with i0 i1; subst i0 i1; exact zo hU (P := Try.prog) Try.func11 (fun xs w => by kernel_rfl) 0 _ _ (fun _ => rfl) _ _ _ [7] [.o,.o,.o,.cg (zfy hU a0 p0 q0 n0 k0 A0 hR0 r0 e_r0),.o,.o,.o,.o,.o,.o,.b (zdq hq0),.o,.xg (zqV hU a0 p0 q0 n0 k0 A0 hR0 g1_0 e_g1) [],.o,.o,.o,.o,.o,.o,.xg (zqn hU a0 p0 q0 n0 k0 A0 hR0 g2_0 g2_1 g2_2 g2_3 e_g2) [],.o,.o,.o,.o,.o,.cp,.cx (zsB hU a0 p0 q0 n0 k0 A0 hR0 r0 g1_0 g2_0 g2_1 g2_2 g2_3 0 g3_0 g3_1 e_g3) [0,1,2,3,4,5,6],.o,.o,.o] [] (fun b => by kernel_rfl)
 ·cases e
end

end Go.Proofs.Ytliijnpblddjfaa


