/-
  Instructions: what the program says of one slot, on.
-/
import Derived.Test.YtliijnpblddjfaaS1A
namespace Go.Proofs.Ytliijnpblddjfaa
open Go.RowKit
set_option linter.unusedVariables false
set_option linter.unusedSimpArgs false
set_option linter.unusedSectionVars false
set_option maxRecDepth 100000
set_option maxHeartbeats 4000000
noncomputable def zs (y0 : Insn) : Bool :=
 bif y0.fOp == 24#8 then
 ((y0.fSrc == 4#8))
 else (bif y0.fOp == 133#8 then
 ((y0.fSrc == 1#8))
 else (false))
section
variable {M : Nat → Prop} {B0 : Nat} {S : World → Prop} (hU : Up M B0 S) (y0 : Insn) (r : Bool)
include hU y0 r
theorem zI (e : zs y0 = r) : ConG Try.prog S 69 #[(zeP y0)] (.bool (r)) := by
 unfold zs at e
 replace e := za e
 rcases e with ⟨hq0,e⟩ | ⟨hq0,e⟩
 ·subst e; exact zc hU (P := Try.prog) Try.func69 (fun xs w => by kernel_rfl) _ _ [.o,.o,.o,.a 0,.t (u_eq y0.fOp (24#8)) hq0,.o,.o,.a 0,.t (u_eq y0.fSrc (4#8)) rfl,.o] [] (fun b => by kernel_rfl)
 ·replace e := za e
  rcases e with ⟨hq1,e⟩ | ⟨hq1,e⟩
  ·subst e; exact zc hU (P := Try.prog) Try.func69 (fun xs w => by kernel_rfl) _ _ [.o,.o,.o,.a 0,.t (u_eq y0.fOp (24#8)) hq0,.o,.t (u_eq y0.fOp (133#8)) hq1,.o,.o,.a 0,.t (u_eq y0.fSrc (1#8)) rfl,.o] [] (fun b => by kernel_rfl)
  ·subst e; exact zc hU (P := Try.prog) Try.func69 (fun xs w => by kernel_rfl) _ _ [.o,.o,.o,.a 0,.t (u_eq y0.fOp (24#8)) hq0,.o,.t (u_eq y0.fOp (133#8)) hq1,.o,.o] [] (fun b => by kernel_rfl)
noncomputable def zV (y0 : Insn) : Bool :=
 bif (y0.fOp &&& 7#8) == 5#8 then
 (bif y0.fOp == 133#8 then
 (false)
 else ((!(y0.fOp == 149#8))))
 else (bif (y0.fOp &&& 7#8) == 6#8 then
 (true)
 else (false))
theorem zhV (e : zV y0 = r) : ConG Try.prog S 58 #[(zeP y0)] (.bool (r)) := by
 unfold zV at e
 replace e := za e
 let P1 : List (PG Try.prog M B0 S) := [.o,.o,.o,.a 0,.v .u8 (zpZ y0.fOp (7#8))]
 rcases e with ⟨hq0,e⟩ | ⟨hq0,e⟩
 ·replace e := za e
  rcases e with ⟨hq1,e⟩ | ⟨hq1,e⟩
  ·subst e; exact zc hU (P := Try.prog) Try.func58 (fun xs w => by kernel_rfl) _ _ (P1 ++ [.t (u_eq (y0.fOp &&& 7#8) (5#8)) hq0,.o,.o,.a 0,.tn (u_ne y0.fOp (133#8)) hq1,.o,.o,.o]) [] (fun b => by kernel_rfl)
  ·subst e; exact zc hU (P := Try.prog) Try.func58 (fun xs w => by kernel_rfl) _ _ (P1 ++ [.t (u_eq (y0.fOp &&& 7#8) (5#8)) hq0,.o,.o,.a 0,.tn (u_ne y0.fOp (133#8)) hq1,.o,.o,.a 0,.tn (u_ne y0.fOp (149#8)) rfl,.o,.o]) [] (fun b => by kernel_rfl)
 ·replace e := za e
  rcases e with ⟨hq1,e⟩ | ⟨hq1,e⟩
  ·subst e; exact zc hU (P := Try.prog) Try.func58 (fun xs w => by kernel_rfl) _ _ (P1 ++ [.t (u_eq (y0.fOp &&& 7#8) (5#8)) hq0,.o,.t (u_eq (y0.fOp &&& 7#8) (6#8)) hq1,.o,.o]) [] (fun b => by kernel_rfl)
  ·subst e; exact zc hU (P := Try.prog) Try.func58 (fun xs w => by kernel_rfl) _ _ (P1 ++ [.t (u_eq (y0.fOp &&& 7#8) (5#8)) hq0,.o,.t (u_eq (y0.fOp &&& 7#8) (6#8)) hq1,.o,.o]) [] (fun b => by kernel_rfl)
noncomputable def zdc (y0 : Insn) : Bool :=
 bif (y0.fOp &&& 7#8) == 0#8 then
 (true)
 else (bif (y0.fOp &&& 7#8) == 1#8 then
 (true)
 else (bif (y0.fOp &&& 7#8) == 4#8 then
 (true)
 else (bif (y0.fOp &&& 7#8) == 7#8 then
 (true)
 else (false))))
theorem ztt (e : zdc y0 = r) : ConG Try.prog S 67 #[(zeP y0)] (.bool (r)) := by
 unfold zdc at e
 replace e := za e
 let P1 : List (PG Try.prog M B0 S) := [.o,.o,.o,.a 0,.v .u8 (zpZ y0.fOp (7#8))]
 rcases e with ⟨hq0,e⟩ | ⟨hq0,e⟩
 ·subst e; exact zc hU (P := Try.prog) Try.func67 (fun xs w => by kernel_rfl) _ _ (P1 ++ [.t (u_eq (y0.fOp &&& 7#8) (0#8)) hq0,.o,.o]) [] (fun b => by kernel_rfl)
 ·replace e := za e
  let P2 : List (PG Try.prog M B0 S) := P1 ++ [.t (u_eq (y0.fOp &&& 7#8) (0#8)) hq0,.o]
  rcases e with ⟨hq1,e⟩ | ⟨hq1,e⟩
  ·subst e; exact zc hU (P := Try.prog) Try.func67 (fun xs w => by kernel_rfl) _ _ (P2 ++ [.t (u_eq (y0.fOp &&& 7#8) (1#8)) hq1,.o,.o]) [] (fun b => by kernel_rfl)
  ·replace e := za e
   rcases e with ⟨hq2,e⟩ | ⟨hq2,e⟩
   ·subst e; exact zc hU (P := Try.prog) Try.func67 (fun xs w => by kernel_rfl) _ _ (P2 ++ [.t (u_eq (y0.fOp &&& 7#8) (1#8)) hq1,.o,.t (u_eq (y0.fOp &&& 7#8) (4#8)) hq2,.o,.o]) [] (fun b => by kernel_rfl)
   ·replace e := za e
    rcases e with ⟨hq3,e⟩ | ⟨hq3,e⟩
    ·subst e; exact zc hU (P := Try.prog) Try.func67 (fun xs w => by kernel_rfl) _ _ (P2 ++ [.t (u_eq (y0.fOp &&& 7#8) (1#8)) hq1,.o,.t (u_eq (y0.fOp &&& 7#8) (4#8)) hq2,.o,.t (u_eq (y0.fOp &&& 7#8) (7#8)) hq3,.o,.o]) [] (fun b => by kernel_rfl)
    ·subst e; exact zc hU (P := Try.prog) Try.func67 (fun xs w => by kernel_rfl) _ _ (P2 ++ [.t (u_eq (y0.fOp &&& 7#8) (1#8)) hq1,.o,.t (u_eq (y0.fOp &&& 7#8) (4#8)) hq2,.o,.t (u_eq (y0.fOp &&& 7#8) (7#8)) hq3,.o,.o]) [] (fun b => by kernel_rfl)
inductive zej where
 | c0 (s0_0 : Int)
inductive zek where
 | e0 (c0_0 : Int)
noncomputable def zdB (n0 : Nat) (A0 : Nat → Insn) : zej → Option (zej ⊕ zek)
 | .c0 s0_0 =>
 bif decide (0 < s0_0) then
 (bif inR (IntKind.i64.wrap (s0_0 - 1)) n0 then
 (bif ((A0 ((IntKind.i64.wrap (s0_0 - 1))).toNat)).fOp == 24#8 then
 (some (.inl (.c0 (IntKind.i64.wrap (s0_0 - 1)))))
 else (some (.inr (.e0 s0_0))))
 else (none))
 else (some (.inr (.e0 s0_0)))
noncomputable def zp2 : Code := zb6 Try.f59 [1,1,0,0,0]
def zvy (a0 : Option Addr) (p0 q0 n0 k0 : Nat) (A0 : Nat → Insn) (y1 : Int) : zej → List L1 → List Value
 | .c0 s0_0,ls => [.slice a0 n0 (n0 + k0),.int .i64 (y1),.int .i64 (s0_0)]
def zvD : zej → List (Nat × Nat)
 | .c0 _ => [(2,3),(1,19)]
noncomputable def zvJ (a0 : Option Addr) (p0 q0 n0 k0 : Nat) (A0 : Nat → Insn) (y1 : Int) (s : zej) : List L1 → List Value := mrgF (zvD s) (zvy a0 p0 q0 n0 k0 A0 y1 s) 0
def zvL (a0 : Option Addr) (p0 q0 n0 k0 : Nat) (A0 : Nat → Insn) (y1 : Int) : zej → List L1 → List Obj
 | .c0 s0_0,ls => [unb]
def zvk (a0 : Option Addr) (p0 q0 n0 k0 : Nat) (A0 : Nat → Insn) (y1 : Int) : zek → List L1 → List Value
 | .e0 c0_0,ls => [.slice a0 n0 (n0 + k0),.int .i64 (y1),.int .i64 (c0_0)]
def zvn : zek → List (Nat × Nat)
 | .e0 _ => [(2,3),(1,19)]
noncomputable def zp1 (a0 : Option Addr) (p0 q0 n0 k0 : Nat) (A0 : Nat → Insn) (y1 : Int) (r : zek) : List L1 → List Value := mrgF (zvn r) (zvk a0 p0 q0 n0 k0 A0 y1 r) 0
def zj5 (a0 : Option Addr) (p0 q0 n0 k0 : Nat) (A0 : Nat → Insn) (y1 : Int) : zek → List L1 → List Obj
 | .e0 c0_0,ls => [unb]
def zvo : zek → Ex
 | .e0 _ => (.exit 0)
end
section
variable {M : Nat → Prop} {B0 : Nat} {S : World → Prop} (hU : Up M B0 S) (a0 : Option Addr) (p0 q0 n0 k0 : Nat) (A0 : Nat → Insn) (hR0 : Ro S zd9 5 a0 p0 q0 n0 A0) (y1 : Int)
include hU a0 p0 q0 n0 k0 A0 hR0 y1
theorem zvl (s : zej) (r : zek) (h : lpO (zdB n0 A0) s = some r) : zdm Try.prog M B0 S (.loop zp2) 1 (zvJ a0 p0 q0 n0 k0 A0 y1 s) (zvL a0 p0 q0 n0 k0 A0 y1 s) (zvo r) 0 (zp1 a0 p0 q0 n0 k0 A0 y1 r) (zj5 a0 p0 q0 n0 k0 A0 y1 r) 1 :=
 zb5 (fun s q e => by
  cases s with
  | c0 s0_0 =>
   unfold zdB at e
   dsimp only at e
   replace e := za e
   rcases e with ⟨hq0,e⟩ | ⟨hq0,e⟩
   ·replace e := za e
    rcases e with ⟨hq1,e⟩ | ⟨hq1,e⟩
    ·replace e := za e
     let P1 : List (PG Try.prog M B0 S) := [.o,.b (zid hq0),.o,.o,.o,.o,.q (zA (kd := .i64) (T := 22) (x := (IntKind.i64.wrap (s0_0 - 1))) (sz := 5) rfl (fun w => by kernel_rfl) hR0 hq1),.o,.l (zcm hR0 zj (ze hq1) 0 [.int .u8 (nn ((A0 ((IntKind.i64.wrap (s0_0 - 1))).toNat)).fOp)] rfl)]
     rcases e with ⟨hq2,e⟩ | ⟨hq2,e⟩
     ·cases e; exact zb hU (P1 ++ [.t (u_eq ((A0 ((IntKind.i64.wrap (s0_0 - 1))).toNat)).fOp (24#8)) hq2,.o,.o,.o,.o]) [] (fun b => rfl) (by decide) rfl rfl (fun b => by kernel_rfl)
     ·cases e; exact ⟨zcn 0,zb hU (P1 ++ [.t (u_eq ((A0 ((IntKind.i64.wrap (s0_0 - 1))).toNat)).fOp (24#8)) hq2,.o]) [] (fun b => rfl) (by decide) rfl rfl (fun b => by kernel_rfl)⟩
    ·exact zd e
   ·cases e; exact ⟨zcn 0,zb hU [.o,.b (zgR hq0),.o,.o] [] (fun b => rfl) (by decide) rfl rfl (fun b => by kernel_rfl)⟩) s r h
noncomputable def znv (a0 : Option Addr) (p0 q0 n0 k0 : Nat) (A0 : Nat → Insn) (y1 : Int) (s0_0 : Int) (ls : List L1) : List Value := List.append [.slice a0 n0 (n0 + k0),.int .i64 (y1),undef,undef,.bool false,.int .i64 (s0_0),.int .i64 (y1)] (und 18)
def zmg (a0 : Option Addr) (p0 q0 n0 k0 : Nat) (A0 : Nat → Insn) (y1 : Int) (s0_0 : Int) (ls : List L1) : List Obj := []
theorem zqE (s0_0 : Int) (c0_0 : Int) (h : lpO (zdB n0 A0) (.c0 s0_0) = some (.e0 c0_0)) : SpcG Try.prog M B0 S ⟨fun ls => .code (.loop zp2) (znv a0 p0 q0 n0 k0 A0 y1 s0_0 ls),zmg a0 p0 q0 n0 k0 A0 y1 s0_0,1,(.exit 0),fun ls => zp1 a0 p0 q0 n0 k0 A0 y1 (.e0 c0_0) (ls.take 0 ++ ls.drop 0),fun ls => (zj5 a0 p0 q0 n0 k0 A0 y1 (.e0 c0_0) (ls.take 0 ++ ls.drop 0)).take 0 ++ List.replicate 0 unb,fun ls => (zj5 a0 p0 q0 n0 k0 A0 y1 (.e0 c0_0) (ls.take 0 ++ ls.drop 0)).drop 0⟩ :=
 zr hU 0 (k0 := 0) (zvl hU a0 p0 q0 n0 k0 A0 hR0 y1 _ _ h) (znv a0 p0 q0 n0 k0 A0 y1 s0_0) (zmg a0 p0 q0 n0 k0 A0 y1 s0_0) (fun _ => rfl) (fun ls h => by match ls,h with | [],_ => exact ⟨by kernel_rfl,by kernel_rfl⟩) (fun ls h => by match ls,h with | [],_ => rfl) (by decide) (by decide) (fun ls => rfl)
noncomputable def zfr (n0 : Nat) (A0 : Nat → Insn) (y1 : Int) : Option (Bool) :=
 (lpO (zdB n0 A0) (.c0 y1)).bind fun g0 => match g0 with
 | .e0 g0_0 =>
 some ((zrem (IntKind.i64.wrap (y1 - g0_0)) 2) == 1)
theorem zeO (r : Bool) (e : zfr n0 A0 y1 = some r) : ConG Try.prog S 59 #[.slice a0 n0 (n0 + k0),.int .i64 (y1)] (.bool (r)) := by
 unfold zfr at e
 replace e := zf e
 obtain ⟨g0,e_g0,e⟩ := e
 obtain ⟨g0_0⟩ := g0
 try dsimp only at e
 injection e with e; subst e; exact zc hU (P := Try.prog) Try.func59 (fun xs w => by kernel_rfl) _ _ [.o,.o,.o,.cp,.cx (zqE hU a0 p0 q0 n0 k0 A0 hR0 y1 y1 g0_0 e_g0) [],.o,.o,.o,.ov (zDE Try.prog 3 (.tmp 22) (.const (.int .i64 (2))) (IntKind.i64.wrap (y1 - g0_0)) 2 (by decide)),.o,.o] [] (fun b => by kernel_rfl)
noncomputable def zfo (n0 : Nat) (A0 : Nat → Insn) (y1 : Int) : Option (Bool) :=
 bif decide ((n0 : Int) ≤ (IntKind.i64.wrap (y1 + 1))) then
 (some false)
 else (bif inR y1 n0 then
 (bif ((A0 (y1).toNat)).fSrc == 0#8 then
 (bif inR (IntKind.i64.wrap (y1 + 1)) n0 then
 (some ((((A0 ((IntKind.i64.wrap (y1 + 1))).toNat)).fOp == 0#8) && ((((A0 ((IntKind.i64.wrap (y1 + 1))).toNat)).fDst == 0#8) && ((((A0 ((IntKind.i64.wrap (y1 + 1))).toNat)).fSrc == 0#8) && ((((A0 ((IntKind.i64.wrap (y1 + 1))).toNat)).fOff == 0#16) && (((A0 ((IntKind.i64.wrap (y1 + 1))).toNat)).fImm == ((A0 ((IntKind.i64.wrap (y1 + 1))).toNat)).fImm))))))
 else (none))
 else (bif inR (IntKind.i64.wrap (y1 + 1)) n0 then
 (some ((((A0 ((IntKind.i64.wrap (y1 + 1))).toNat)).fOp == 0#8) && ((((A0 ((IntKind.i64.wrap (y1 + 1))).toNat)).fDst == 0#8) && ((((A0 ((IntKind.i64.wrap (y1 + 1))).toNat)).fSrc == 0#8) && ((((A0 ((IntKind.i64.wrap (y1 + 1))).toNat)).fOff == 0#16) && (((A0 ((IntKind.i64.wrap (y1 + 1))).toNat)).fImm == 0#32))))))
 else (none)))
 else (none))
theorem zh1 (r : Bool) (e : zfo n0 A0 y1 = some r) : ConG Try.prog S 68 #[.slice a0 n0 (n0 + k0),.int .i64 (y1)] (.bool (r)) := by
 unfold zfo at e
 replace e := za e
 rcases e with ⟨hq0,e⟩ | ⟨hq0,e⟩
 ·injection e with e; subst e; exact zc hU (P := Try.prog) Try.func68 (fun xs w => by kernel_rfl) _ _ [.o,.o,.o,.o,.o,.b (zsk hq0),.o] [] (fun b => by kernel_rfl)
 ·replace e := za e
  rcases e with ⟨hq1,e⟩ | ⟨hq1,e⟩
  ·replace e := za e
   let P1 : List (PG Try.prog M B0 S) := [.o,.o,.o,.o,.o,.b (zpX hq0),.o,.o,.a 0,.o,.o,.q (zA (kd := .i64) (T := 22) (x := y1) (sz := 5) rfl (fun w => by kernel_rfl) hR0 hq1),.o,.l (zcm hR0 zj (ze hq1) 2 [.int .u8 (nn ((A0 (y1).toNat)).fSrc)] rfl)]
   rcases e with ⟨hq2,e⟩ | ⟨hq2,e⟩
   ·replace e := za e
    rcases e with ⟨hq3,e⟩ | ⟨hq3,e⟩
    ·injection e with e; subst e; exact zc hU (P := Try.prog) Try.func68 (fun xs w => by kernel_rfl) _ _ (P1 ++ [.t (u_eq ((A0 (y1).toNat)).fSrc (0#8)) hq2,.o,.o,.o,.q (zA (kd := .i64) (T := 22) (x := (IntKind.i64.wrap (y1 + 1))) (sz := 5) rfl (fun w => by kernel_rfl) hR0 hq3),.o,.l (zcm hR0 zj (ze hq3) 4 [.int .i32 (ii ((A0 ((IntKind.i64.wrap (y1 + 1))).toNat)).fImm)] rfl),.o,.a 0,.r [0,1,2,3,4,5,6,7] [] [],.o,.o,.o,.q (zA (kd := .i64) (T := 22) (x := (IntKind.i64.wrap (y1 + 1))) (sz := 5) rfl (fun w => by kernel_rfl) hR0 hq3),.l (zcm hR0 zj (ze hq3) 0 [.int .u8 (nn ((A0 ((IntKind.i64.wrap (y1 + 1))).toNat)).fOp),.int .u8 (nn ((A0 ((IntKind.i64.wrap (y1 + 1))).toNat)).fDst),.int .u8 (nn ((A0 ((IntKind.i64.wrap (y1 + 1))).toNat)).fSrc),.int .i16 (ii ((A0 ((IntKind.i64.wrap (y1 + 1))).toNat)).fOff),.int .i32 (ii ((A0 ((IntKind.i64.wrap (y1 + 1))).toNat)).fImm)] rfl),.a 0,.ov (fun w => (zuY 25 #[.int .u8 (nn ((A0 ((IntKind.i64.wrap (y1 + 1))).toNat)).fOp),.int .u8 (nn ((A0 ((IntKind.i64.wrap (y1 + 1))).toNat)).fDst),.int .u8 (nn ((A0 ((IntKind.i64.wrap (y1 + 1))).toNat)).fSrc),.int .i16 (ii ((A0 ((IntKind.i64.wrap (y1 + 1))).toNat)).fOff),.int .i32 (ii ((A0 ((IntKind.i64.wrap (y1 + 1))).toNat)).fImm)] #[.int .u8 (0),.int .u8 (0),.int .u8 (0),.int .i16 (0),.int .i32 (ii ((A0 ((IntKind.i64.wrap (y1 + 1))).toNat)).fImm)] _ (by kernel_rfl) (fun w => zBD 9998 ((A0 ((IntKind.i64.wrap (y1 + 1))).toNat)).fOp (0#8) ((A0 ((IntKind.i64.wrap (y1 + 1))).toNat)).fDst (0#8) ((A0 ((IntKind.i64.wrap (y1 + 1))).toNat)).fSrc (0#8) ((A0 ((IntKind.i64.wrap (y1 + 1))).toNat)).fOff (0#16) ((A0 ((IntKind.i64.wrap (y1 + 1))).toNat)).fImm ((A0 ((IntKind.i64.wrap (y1 + 1))).toNat)).fImm w) (.tmp 29) (.tmp 30) w).1),.o]) [] (fun b => by kernel_rfl)
    ·exact zd e
   ·replace e := za e
    rcases e with ⟨hq3,e⟩ | ⟨hq3,e⟩
    ·injection e with e; subst e; exact zc hU (P := Try.prog) Try.func68 (fun xs w => by kernel_rfl) _ _ (P1 ++ [.t (u_eq ((A0 (y1).toNat)).fSrc (0#8)) hq2,.r [0,1,2,3,4,5,6,7] [] [],.o,.o,.o,.q (zA (kd := .i64) (T := 22) (x := (IntKind.i64.wrap (y1 + 1))) (sz := 5) rfl (fun w => by kernel_rfl) hR0 hq3),.l (zcm hR0 zj (ze hq3) 0 [.int .u8 (nn ((A0 ((IntKind.i64.wrap (y1 + 1))).toNat)).fOp),.int .u8 (nn ((A0 ((IntKind.i64.wrap (y1 + 1))).toNat)).fDst),.int .u8 (nn ((A0 ((IntKind.i64.wrap (y1 + 1))).toNat)).fSrc),.int .i16 (ii ((A0 ((IntKind.i64.wrap (y1 + 1))).toNat)).fOff),.int .i32 (ii ((A0 ((IntKind.i64.wrap (y1 + 1))).toNat)).fImm)] rfl),.a 0,.ov (fun w => (zuY 25 #[.int .u8 (nn ((A0 ((IntKind.i64.wrap (y1 + 1))).toNat)).fOp),.int .u8 (nn ((A0 ((IntKind.i64.wrap (y1 + 1))).toNat)).fDst),.int .u8 (nn ((A0 ((IntKind.i64.wrap (y1 + 1))).toNat)).fSrc),.int .i16 (ii ((A0 ((IntKind.i64.wrap (y1 + 1))).toNat)).fOff),.int .i32 (ii ((A0 ((IntKind.i64.wrap (y1 + 1))).toNat)).fImm)] #[.int .u8 (0),.int .u8 (0),.int .u8 (0),.int .i16 (0),.int .i32 (0)] _ (by kernel_rfl) (fun w => zBD 9998 ((A0 ((IntKind.i64.wrap (y1 + 1))).toNat)).fOp (0#8) ((A0 ((IntKind.i64.wrap (y1 + 1))).toNat)).fDst (0#8) ((A0 ((IntKind.i64.wrap (y1 + 1))).toNat)).fSrc (0#8) ((A0 ((IntKind.i64.wrap (y1 + 1))).toNat)).fOff (0#16) ((A0 ((IntKind.i64.wrap (y1 + 1))).toNat)).fImm (0#32) w) (.tmp 29) (.tmp 30) w).1),.o]) [] (fun b => by kernel_rfl)
    ·exact zd e
  ·exact zd e
noncomputable def zbw (n0 : Nat) (A0 : Nat → Insn) (y1 : Int) : Option (Bool) :=
 bif decide (0 < y1) then
 (bif decide (y1 < (n0 : Int)) then
 ((zfr n0 A0 y1).bind fun r0 =>
 bif r0 then
 (some false)
 else (some true))
 else (some false))
 else (some false)
theorem zy (r : Bool) (e : zbw n0 A0 y1 = some r) : ConG Try.prog S 70 #[.slice a0 n0 (n0 + k0),.int .i64 (y1)] (.bool (r)) := by
 unfold zbw at e
 replace e := za e
 rcases e with ⟨hq0,e⟩ | ⟨hq0,e⟩
 ·replace e := za e
  rcases e with ⟨hq1,e⟩ | ⟨hq1,e⟩
  ·replace e := zf e
   obtain ⟨r0,e_r0,e⟩ := e
   try dsimp only at e
   replace e := za e
   rcases e with ⟨hq2,e⟩ | ⟨hq2,e⟩
   ·subst hq2
    injection e with e; subst e; exact zc hU (P := Try.prog) Try.func70 (fun xs w => by kernel_rfl) _ _ [.o,.o,.b (zid hq0),.o,.o,.o,.o,.b (zcR hq1),.o,.o,.o,.o,.cg (zeO hU a0 p0 q0 n0 k0 A0 hR0 y1 true e_r0),.o,.o,.o] [] (fun b => by kernel_rfl)
   ·subst hq2
    injection e with e; subst e; exact zc hU (P := Try.prog) Try.func70 (fun xs w => by kernel_rfl) _ _ [.o,.o,.b (zid hq0),.o,.o,.o,.o,.b (zcR hq1),.o,.o,.o,.o,.cg (zeO hU a0 p0 q0 n0 k0 A0 hR0 y1 false e_r0),.o,.o,.o] [] (fun b => by kernel_rfl)
  ·injection e with e; subst e; exact zc hU (P := Try.prog) Try.func70 (fun xs w => by kernel_rfl) _ _ [.o,.o,.b (zid hq0),.o,.o,.o,.o,.b (zb7 hq1),.o,.o,.o,.o] [] (fun b => by kernel_rfl)
 ·injection e with e; subst e; exact zc hU (P := Try.prog) Try.func70 (fun xs w => by kernel_rfl) _ _ [.o,.o,.b (zgR hq0),.o,.o,.o,.o,.o] [] (fun b => by kernel_rfl)
noncomputable def zgV (n0 : Nat) (A0 : Nat → Insn) (y1 : Int) : Option (Int) :=
 bif inR y1 n0 then
 (bif zw ((A0 (y1).toNat)) then
 (bif BitVec.ult (10#8) ((A0 (y1).toNat)).fDst then
 (some 12)
 else (bif BitVec.ult (10#8) ((A0 (y1).toNat)).fSrc then
 (some 12)
 else (bif ((A0 (y1).toNat)).fDst == 10#8 then
 (bif zdc ((A0 (y1).toNat)) then
 (some 12)
 else (bif ((A0 (y1).toNat)).fOp == 24#8 then
 ((zfo n0 A0 y1).bind fun r0 =>
 bif r0 then
 (bif ((A0 (y1).toNat)).fOp == 133#8 then
 (bif ((A0 (y1).toNat)).fSrc == 0#8 then
 (bif BitVec.slt ((A0 (y1).toNat)).fImm (1#32) then
 (some 14)
 else (bif BitVec.slt (28#32) ((A0 (y1).toNat)).fImm then
 (some 14)
 else (bif zs ((A0 (y1).toNat)) then
 ((zbw n0 A0 (IntKind.i64.wrap ((IntKind.i64.wrap (y1 + 1)) + (ii ((A0 (y1).toNat)).fImm)))).bind fun r1 =>
 bif r1 then
 (some 0)
 else (some 14))
 else (some 0))))
 else (bif zs ((A0 (y1).toNat)) then
 ((zbw n0 A0 (IntKind.i64.wrap ((IntKind.i64.wrap (y1 + 1)) + (ii ((A0 (y1).toNat)).fImm)))).bind fun r1 =>
 bif r1 then
 (some 0)
 else (some 14))
 else (some 0)))
 else (bif zs ((A0 (y1).toNat)) then
 ((zbw n0 A0 (IntKind.i64.wrap ((IntKind.i64.wrap (y1 + 1)) + (ii ((A0 (y1).toNat)).fImm)))).bind fun r1 =>
 bif r1 then
 (some 0)
 else (some 14))
 else (some 0)))
 else (some 13))
 else (bif ((A0 (y1).toNat)).fOp == 133#8 then
 (bif ((A0 (y1).toNat)).fSrc == 0#8 then
 (bif BitVec.slt ((A0 (y1).toNat)).fImm (1#32) then
 (some 14)
 else (bif BitVec.slt (28#32) ((A0 (y1).toNat)).fImm then
 (some 14)
 else (bif zs ((A0 (y1).toNat)) then
 ((zbw n0 A0 (IntKind.i64.wrap ((IntKind.i64.wrap (y1 + 1)) + (ii ((A0 (y1).toNat)).fImm)))).bind fun r0 =>
 bif r0 then
 (some 0)
 else (some 14))
 else (some 0))))
 else (bif zs ((A0 (y1).toNat)) then
 ((zbw n0 A0 (IntKind.i64.wrap ((IntKind.i64.wrap (y1 + 1)) + (ii ((A0 (y1).toNat)).fImm)))).bind fun r0 =>
 bif r0 then
 (some 0)
 else (some 14))
 else (some 0)))
 else (bif zs ((A0 (y1).toNat)) then
 ((zbw n0 A0 (IntKind.i64.wrap ((IntKind.i64.wrap (y1 + 1)) + (ii ((A0 (y1).toNat)).fImm)))).bind fun r0 =>
 bif r0 then
 (some 0)
 else (some 14))
 else (some 0)))))
 else (bif ((A0 (y1).toNat)).fOp == 24#8 then
 ((zfo n0 A0 y1).bind fun r0 =>
 bif r0 then
 (bif ((A0 (y1).toNat)).fOp == 133#8 then
 (bif ((A0 (y1).toNat)).fSrc == 0#8 then
 (bif BitVec.slt ((A0 (y1).toNat)).fImm (1#32) then
 (some 14)
 else (bif BitVec.slt (28#32) ((A0 (y1).toNat)).fImm then
 (some 14)
 else (bif zs ((A0 (y1).toNat)) then
 ((zbw n0 A0 (IntKind.i64.wrap ((IntKind.i64.wrap (y1 + 1)) + (ii ((A0 (y1).toNat)).fImm)))).bind fun r1 =>
 bif r1 then
 (some 0)
 else (some 14))
 else (some 0))))
 else (bif zs ((A0 (y1).toNat)) then
 ((zbw n0 A0 (IntKind.i64.wrap ((IntKind.i64.wrap (y1 + 1)) + (ii ((A0 (y1).toNat)).fImm)))).bind fun r1 =>
 bif r1 then
 (some 0)
 else (some 14))
 else (some 0)))
 else (bif zs ((A0 (y1).toNat)) then
 ((zbw n0 A0 (IntKind.i64.wrap ((IntKind.i64.wrap (y1 + 1)) + (ii ((A0 (y1).toNat)).fImm)))).bind fun r1 =>
 bif r1 then
 (some 0)
 else (some 14))
 else (some 0)))
 else (some 13))
 else (bif ((A0 (y1).toNat)).fOp == 133#8 then
 (bif ((A0 (y1).toNat)).fSrc == 0#8 then
 (bif BitVec.slt ((A0 (y1).toNat)).fImm (1#32) then
 (some 14)
 else (bif BitVec.slt (28#32) ((A0 (y1).toNat)).fImm then
 (some 14)
 else (bif zs ((A0 (y1).toNat)) then
 ((zbw n0 A0 (IntKind.i64.wrap ((IntKind.i64.wrap (y1 + 1)) + (ii ((A0 (y1).toNat)).fImm)))).bind fun r0 =>
 bif r0 then
 (some 0)
 else (some 14))
 else (some 0))))
 else (bif zs ((A0 (y1).toNat)) then
 ((zbw n0 A0 (IntKind.i64.wrap ((IntKind.i64.wrap (y1 + 1)) + (ii ((A0 (y1).toNat)).fImm)))).bind fun r0 =>
 bif r0 then
 (some 0)
 else (some 14))
 else (some 0)))
 else (bif zs ((A0 (y1).toNat)) then
 ((zbw n0 A0 (IntKind.i64.wrap ((IntKind.i64.wrap (y1 + 1)) + (ii ((A0 (y1).toNat)).fImm)))).bind fun r0 =>
 bif r0 then
 (some 0)
 else (some 14))
 else (some 0)))))))
 else (some 11))
 else (none)
theorem zvI (r : Int) (e : zgV n0 A0 y1 = some r) : ConG Try.prog S 55 #[.slice a0 n0 (n0 + k0),.int .i64 (y1)] (.int .i64 (r)) := by
 unfold zgV at e
 replace e := za e
 let P1 : List (PG Try.prog M B0 S) := [.o,.o,.o]
 rcases e with ⟨hq0,e⟩ | ⟨hq0,e⟩
 ·replace e := za e
  let P2 : List (PG Try.prog M B0 S) := P1 ++ [.q (zA (kd := .i64) (T := 22) (x := y1) (sz := 5) rfl (fun w => by kernel_rfl) hR0 hq0),.l (zcm hR0 zj (ze hq0) 0 [.int .u8 (nn ((A0 (y1).toNat)).fOp),.int .u8 (nn ((A0 (y1).toNat)).fDst),.int .u8 (nn ((A0 (y1).toNat)).fSrc),.int .i16 (ii ((A0 (y1).toNat)).fOff),.int .i32 (ii ((A0 (y1).toNat)).fImm)] rfl),.o,.a 0,.a 0]
  rcases e with ⟨hq1,e⟩ | ⟨hq1,e⟩
  ·replace e := za e
   let P3 : List (PG Try.prog M B0 S) := P2 ++ [.cg (zi9 hU ((A0 (y1).toNat)) true hq1),.o,.o,.o,.a 0]
   rcases e with ⟨hq2,e⟩ | ⟨hq2,e⟩
   ·injection e with e; subst e; exact zc hU (P := Try.prog) Try.func55 (fun xs w => by kernel_rfl) _ _ (P3 ++ [.t (u_gt ((A0 (y1).toNat)).fDst (10#8)) hq2,.o,.o,.o,.o,.o,.o]) [] (fun b => by kernel_rfl)
   ·replace e := za e
    let P4 : List (PG Try.prog M B0 S) := P3 ++ [.t (u_gt ((A0 (y1).toNat)).fDst (10#8)) hq2,.o,.o,.a 0]
    rcases e with ⟨hq3,e⟩ | ⟨hq3,e⟩
    ·injection e with e; subst e; exact zc hU (P := Try.prog) Try.func55 (fun xs w => by kernel_rfl) _ _ (P4 ++ [.t (u_gt ((A0 (y1).toNat)).fSrc (10#8)) hq3,.o,.o,.o,.o,.o]) [] (fun b => by kernel_rfl)
    ·replace e := za e
     let P5 : List (PG Try.prog M B0 S) := P4 ++ [.t (u_gt ((A0 (y1).toNat)).fSrc (10#8)) hq3,.o,.o,.o,.a 0]
     rcases e with ⟨hq4,e⟩ | ⟨hq4,e⟩
     ·replace e := za e
      let P6 : List (PG Try.prog M B0 S) := P5 ++ [.t (u_eq ((A0 (y1).toNat)).fDst (10#8)) hq4,.o,.a 0]
      rcases e with ⟨hq5,e⟩ | ⟨hq5,e⟩
      ·injection e with e; subst e; exact zc hU (P := Try.prog) Try.func55 (fun xs w => by kernel_rfl) _ _ (P6 ++ [.cg (ztt hU ((A0 (y1).toNat)) true hq5),.o,.o,.o,.o]) [] (fun b => by kernel_rfl)
      ·replace e := za e
       let P7 : List (PG Try.prog M B0 S) := P6 ++ [.cg (ztt hU ((A0 (y1).toNat)) false hq5),.o,.o,.o,.o,.a 0]
       rcases e with ⟨hq6,e⟩ | ⟨hq6,e⟩
       ·replace e := zf e
        obtain ⟨r0,e_r0,e⟩ := e
        try dsimp only at e
        replace e := za e
        let P8 : List (PG Try.prog M B0 S) := P7 ++ [.t (u_eq ((A0 (y1).toNat)).fOp (24#8)) hq6,.o,.o,.o]
        rcases e with ⟨hq7,e⟩ | ⟨hq7,e⟩
        ·subst hq7
         replace e := za e
         let P9 : List (PG Try.prog M B0 S) := P8 ++ [.cg (zh1 hU a0 p0 q0 n0 k0 A0 hR0 y1 true e_r0),.o,.o,.o,.o,.a 0]
         rcases e with ⟨hq8,e⟩ | ⟨hq8,e⟩
         ·replace e := za e
          let P10 : List (PG Try.prog M B0 S) := P9 ++ [.t (u_eq ((A0 (y1).toNat)).fOp (133#8)) hq8,.o,.o,.a 0]
          rcases e with ⟨hq9,e⟩ | ⟨hq9,e⟩
          ·replace e := za e
           let P11 : List (PG Try.prog M B0 S) := P10 ++ [.t (u_eq ((A0 (y1).toNat)).fSrc (0#8)) hq9,.o,.o,.o,.a 0]
           rcases e with ⟨hq10,e⟩ | ⟨hq10,e⟩
           ·injection e with e; subst e; exact zc hU (P := Try.prog) Try.func55 (fun xs w => by kernel_rfl) _ _ (P11 ++ [.t (i_lt ((A0 (y1).toNat)).fImm (1#32)) hq10,.o,.o,.o,.o,.o]) [] (fun b => by kernel_rfl)
           ·replace e := za e
            let P12 : List (PG Try.prog M B0 S) := P11 ++ [.t (i_lt ((A0 (y1).toNat)).fImm (1#32)) hq10,.o,.o,.a 0]
            rcases e with ⟨hq11,e⟩ | ⟨hq11,e⟩
            ·injection e with e; subst e; exact zc hU (P := Try.prog) Try.func55 (fun xs w => by kernel_rfl) _ _ (P12 ++ [.t (i_gt ((A0 (y1).toNat)).fImm (28#32)) hq11,.o,.o,.o,.o]) [] (fun b => by kernel_rfl)
            ·replace e := za e
             let P13 : List (PG Try.prog M B0 S) := P12 ++ [.t (i_gt ((A0 (y1).toNat)).fImm (28#32)) hq11,.o,.o,.o,.a 0]
             rcases e with ⟨hq12,e⟩ | ⟨hq12,e⟩
             ·replace e := zf e
              obtain ⟨r1,e_r1,e⟩ := e
              try dsimp only at e
              replace e := za e
              let P14 : List (PG Try.prog M B0 S) := P13 ++ [.cg (zI hU ((A0 (y1).toNat)) true hq12),.o,.o,.o,.o,.o,.a 0,.v .i64 (zdW (by decide) ((A0 (y1).toNat)).fImm),.o]
              rcases e with ⟨hq13,e⟩ | ⟨hq13,e⟩
              ·subst hq13
               injection e with e; subst e; exact zc hU (P := Try.prog) Try.func55 (fun xs w => by kernel_rfl) _ _ (P14 ++ [.cg (zy hU a0 p0 q0 n0 k0 A0 hR0 (IntKind.i64.wrap ((IntKind.i64.wrap (y1 + 1)) + (ii ((A0 (y1).toNat)).fImm))) true e_r1),.o,.o,.o,.o]) [] (fun b => by kernel_rfl)
              ·subst hq13
               injection e with e; subst e; exact zc hU (P := Try.prog) Try.func55 (fun xs w => by kernel_rfl) _ _ (P14 ++ [.cg (zy hU a0 p0 q0 n0 k0 A0 hR0 (IntKind.i64.wrap ((IntKind.i64.wrap (y1 + 1)) + (ii ((A0 (y1).toNat)).fImm))) false e_r1),.o,.o,.o,.o]) [] (fun b => by kernel_rfl)
             ·injection e with e; subst e; exact zc hU (P := Try.prog) Try.func55 (fun xs w => by kernel_rfl) _ _ (P13 ++ [.cg (zI hU ((A0 (y1).toNat)) false hq12),.o,.o,.o,.o]) [] (fun b => by kernel_rfl)
          ·replace e := za e
           let P15 : List (PG Try.prog M B0 S) := P10 ++ [.t (u_eq ((A0 (y1).toNat)).fSrc (0#8)) hq9,.o,.o,.o,.o,.a 0]
           rcases e with ⟨hq10,e⟩ | ⟨hq10,e⟩
           ·replace e := zf e
            obtain ⟨r1,e_r1,e⟩ := e
            try dsimp only at e
            replace e := za e
            let P16 : List (PG Try.prog M B0 S) := P15 ++ [.cg (zI hU ((A0 (y1).toNat)) true hq10),.o,.o,.o,.o,.o,.a 0,.v .i64 (zdW (by decide) ((A0 (y1).toNat)).fImm),.o]
            rcases e with ⟨hq11,e⟩ | ⟨hq11,e⟩
            ·subst hq11
             injection e with e; subst e; exact zc hU (P := Try.prog) Try.func55 (fun xs w => by kernel_rfl) _ _ (P16 ++ [.cg (zy hU a0 p0 q0 n0 k0 A0 hR0 (IntKind.i64.wrap ((IntKind.i64.wrap (y1 + 1)) + (ii ((A0 (y1).toNat)).fImm))) true e_r1),.o,.o,.o,.o]) [] (fun b => by kernel_rfl)
            ·subst hq11
             injection e with e; subst e; exact zc hU (P := Try.prog) Try.func55 (fun xs w => by kernel_rfl) _ _ (P16 ++ [.cg (zy hU a0 p0 q0 n0 k0 A0 hR0 (IntKind.i64.wrap ((IntKind.i64.wrap (y1 + 1)) + (ii ((A0 (y1).toNat)).fImm))) false e_r1),.o,.o,.o,.o]) [] (fun b => by kernel_rfl)
           ·injection e with e; subst e; exact zc hU (P := Try.prog) Try.func55 (fun xs w => by kernel_rfl) _ _ (P15 ++ [.cg (zI hU ((A0 (y1).toNat)) false hq10),.o,.o,.o,.o]) [] (fun b => by kernel_rfl)
         ·replace e := za e
          let P17 : List (PG Try.prog M B0 S) := P9 ++ [.t (u_eq ((A0 (y1).toNat)).fOp (133#8)) hq8,.o,.o,.o,.o,.o,.a 0]
          rcases e with ⟨hq9,e⟩ | ⟨hq9,e⟩
          ·replace e := zf e
           obtain ⟨r1,e_r1,e⟩ := e
           try dsimp only at e
           replace e := za e
           let P18 : List (PG Try.prog M B0 S) := P17 ++ [.cg (zI hU ((A0 (y1).toNat)) true hq9),.o,.o,.o,.o,.o,.a 0,.v .i64 (zdW (by decide) ((A0 (y1).toNat)).fImm),.o]
           rcases e with ⟨hq10,e⟩ | ⟨hq10,e⟩
           ·subst hq10
            injection e with e; subst e; exact zc hU (P := Try.prog) Try.func55 (fun xs w => by kernel_rfl) _ _ (P18 ++ [.cg (zy hU a0 p0 q0 n0 k0 A0 hR0 (IntKind.i64.wrap ((IntKind.i64.wrap (y1 + 1)) + (ii ((A0 (y1).toNat)).fImm))) true e_r1),.o,.o,.o,.o]) [] (fun b => by kernel_rfl)
           ·subst hq10
            injection e with e; subst e; exact zc hU (P := Try.prog) Try.func55 (fun xs w => by kernel_rfl) _ _ (P18 ++ [.cg (zy hU a0 p0 q0 n0 k0 A0 hR0 (IntKind.i64.wrap ((IntKind.i64.wrap (y1 + 1)) + (ii ((A0 (y1).toNat)).fImm))) false e_r1),.o,.o,.o,.o]) [] (fun b => by kernel_rfl)
          ·injection e with e; subst e; exact zc hU (P := Try.prog) Try.func55 (fun xs w => by kernel_rfl) _ _ (P17 ++ [.cg (zI hU ((A0 (y1).toNat)) false hq9),.o,.o,.o,.o]) [] (fun b => by kernel_rfl)
        ·subst hq7
         injection e with e; subst e; exact zc hU (P := Try.prog) Try.func55 (fun xs w => by kernel_rfl) _ _ (P8 ++ [.cg (zh1 hU a0 p0 q0 n0 k0 A0 hR0 y1 false e_r0),.o,.o,.o,.o]) [] (fun b => by kernel_rfl)
       ·replace e := za e
        let P19 : List (PG Try.prog M B0 S) := P7 ++ [.t (u_eq ((A0 (y1).toNat)).fOp (24#8)) hq6,.o,.o,.o,.o,.a 0]
        rcases e with ⟨hq7,e⟩ | ⟨hq7,e⟩
        ·replace e := za e
         let P20 : List (PG Try.prog M B0 S) := P19 ++ [.t (u_eq ((A0 (y1).toNat)).fOp (133#8)) hq7,.o,.o,.a 0]
         rcases e with ⟨hq8,e⟩ | ⟨hq8,e⟩
         ·replace e := za e
          let P21 : List (PG Try.prog M B0 S) := P20 ++ [.t (u_eq ((A0 (y1).toNat)).fSrc (0#8)) hq8,.o,.o,.o,.a 0]
          rcases e with ⟨hq9,e⟩ | ⟨hq9,e⟩
          ·injection e with e; subst e; exact zc hU (P := Try.prog) Try.func55 (fun xs w => by kernel_rfl) _ _ (P21 ++ [.t (i_lt ((A0 (y1).toNat)).fImm (1#32)) hq9,.o,.o,.o,.o,.o]) [] (fun b => by kernel_rfl)
          ·replace e := za e
           let P22 : List (PG Try.prog M B0 S) := P21 ++ [.t (i_lt ((A0 (y1).toNat)).fImm (1#32)) hq9,.o,.o,.a 0]
           rcases e with ⟨hq10,e⟩ | ⟨hq10,e⟩
           ·injection e with e; subst e; exact zc hU (P := Try.prog) Try.func55 (fun xs w => by kernel_rfl) _ _ (P22 ++ [.t (i_gt ((A0 (y1).toNat)).fImm (28#32)) hq10,.o,.o,.o,.o]) [] (fun b => by kernel_rfl)
           ·replace e := za e
            let P23 : List (PG Try.prog M B0 S) := P22 ++ [.t (i_gt ((A0 (y1).toNat)).fImm (28#32)) hq10,.o,.o,.o,.a 0]
            rcases e with ⟨hq11,e⟩ | ⟨hq11,e⟩
            ·replace e := zf e
             obtain ⟨r0,e_r0,e⟩ := e
             try dsimp only at e
             replace e := za e
             let P24 : List (PG Try.prog M B0 S) := P23 ++ [.cg (zI hU ((A0 (y1).toNat)) true hq11),.o,.o,.o,.o,.o,.a 0,.v .i64 (zdW (by decide) ((A0 (y1).toNat)).fImm),.o]
             rcases e with ⟨hq12,e⟩ | ⟨hq12,e⟩
             ·subst hq12
              injection e with e; subst e; exact zc hU (P := Try.prog) Try.func55 (fun xs w => by kernel_rfl) _ _ (P24 ++ [.cg (zy hU a0 p0 q0 n0 k0 A0 hR0 (IntKind.i64.wrap ((IntKind.i64.wrap (y1 + 1)) + (ii ((A0 (y1).toNat)).fImm))) true e_r0),.o,.o,.o,.o]) [] (fun b => by kernel_rfl)
             ·subst hq12
              injection e with e; subst e; exact zc hU (P := Try.prog) Try.func55 (fun xs w => by kernel_rfl) _ _ (P24 ++ [.cg (zy hU a0 p0 q0 n0 k0 A0 hR0 (IntKind.i64.wrap ((IntKind.i64.wrap (y1 + 1)) + (ii ((A0 (y1).toNat)).fImm))) false e_r0),.o,.o,.o,.o]) [] (fun b => by kernel_rfl)
            ·injection e with e; subst e; exact zc hU (P := Try.prog) Try.func55 (fun xs w => by kernel_rfl) _ _ (P23 ++ [.cg (zI hU ((A0 (y1).toNat)) false hq11),.o,.o,.o,.o]) [] (fun b => by kernel_rfl)
         ·replace e := za e
          let P25 : List (PG Try.prog M B0 S) := P20 ++ [.t (u_eq ((A0 (y1).toNat)).fSrc (0#8)) hq8,.o,.o,.o,.o,.a 0]
          rcases e with ⟨hq9,e⟩ | ⟨hq9,e⟩
          ·replace e := zf e
           obtain ⟨r0,e_r0,e⟩ := e
           try dsimp only at e
           replace e := za e
           let P26 : List (PG Try.prog M B0 S) := P25 ++ [.cg (zI hU ((A0 (y1).toNat)) true hq9),.o,.o,.o,.o,.o,.a 0,.v .i64 (zdW (by decide) ((A0 (y1).toNat)).fImm),.o]
           rcases e with ⟨hq10,e⟩ | ⟨hq10,e⟩
           ·subst hq10
            injection e with e; subst e; exact zc hU (P := Try.prog) Try.func55 (fun xs w => by kernel_rfl) _ _ (P26 ++ [.cg (zy hU a0 p0 q0 n0 k0 A0 hR0 (IntKind.i64.wrap ((IntKind.i64.wrap (y1 + 1)) + (ii ((A0 (y1).toNat)).fImm))) true e_r0),.o,.o,.o,.o]) [] (fun b => by kernel_rfl)
           ·subst hq10
            injection e with e; subst e; exact zc hU (P := Try.prog) Try.func55 (fun xs w => by kernel_rfl) _ _ (P26 ++ [.cg (zy hU a0 p0 q0 n0 k0 A0 hR0 (IntKind.i64.wrap ((IntKind.i64.wrap (y1 + 1)) + (ii ((A0 (y1).toNat)).fImm))) false e_r0),.o,.o,.o,.o]) [] (fun b => by kernel_rfl)
          ·injection e with e; subst e; exact zc hU (P := Try.prog) Try.func55 (fun xs w => by kernel_rfl) _ _ (P25 ++ [.cg (zI hU ((A0 (y1).toNat)) false hq9),.o,.o,.o,.o]) [] (fun b => by kernel_rfl)
        ·replace e := za e
         let P27 : List (PG Try.prog M B0 S) := P19 ++ [.t (u_eq ((A0 (y1).toNat)).fOp (133#8)) hq7,.o,.o,.o,.o,.o,.a 0]
         rcases e with ⟨hq8,e⟩ | ⟨hq8,e⟩
         ·replace e := zf e
          obtain ⟨r0,e_r0,e⟩ := e
          try dsimp only at e
          replace e := za e
          let P28 : List (PG Try.prog M B0 S) := P27 ++ [.cg (zI hU ((A0 (y1).toNat)) true hq8),.o,.o,.o,.o,.o,.a 0,.v .i64 (zdW (by decide) ((A0 (y1).toNat)).fImm),.o]
          rcases e with ⟨hq9,e⟩ | ⟨hq9,e⟩
          ·subst hq9
           injection e with e; subst e; exact zc hU (P := Try.prog) Try.func55 (fun xs w => by kernel_rfl) _ _ (P28 ++ [.cg (zy hU a0 p0 q0 n0 k0 A0 hR0 (IntKind.i64.wrap ((IntKind.i64.wrap (y1 + 1)) + (ii ((A0 (y1).toNat)).fImm))) true e_r0),.o,.o,.o,.o]) [] (fun b => by kernel_rfl)
          ·subst hq9
           injection e with e; subst e; exact zc hU (P := Try.prog) Try.func55 (fun xs w => by kernel_rfl) _ _ (P28 ++ [.cg (zy hU a0 p0 q0 n0 k0 A0 hR0 (IntKind.i64.wrap ((IntKind.i64.wrap (y1 + 1)) + (ii ((A0 (y1).toNat)).fImm))) false e_r0),.o,.o,.o,.o]) [] (fun b => by kernel_rfl)
         ·injection e with e; subst e; exact zc hU (P := Try.prog) Try.func55 (fun xs w => by kernel_rfl) _ _ (P27 ++ [.cg (zI hU ((A0 (y1).toNat)) false hq8),.o,.o,.o,.o]) [] (fun b => by kernel_rfl)
     ·replace e := za e
      let P29 : List (PG Try.prog M B0 S) := P5 ++ [.t (u_eq ((A0 (y1).toNat)).fDst (10#8)) hq4,.o,.o,.o,.o,.o,.a 0]
      rcases e with ⟨hq5,e⟩ | ⟨hq5,e⟩
      ·replace e := zf e
       obtain ⟨r0,e_r0,e⟩ := e
       try dsimp only at e
       replace e := za e
       let P30 : List (PG Try.prog M B0 S) := P29 ++ [.t (u_eq ((A0 (y1).toNat)).fOp (24#8)) hq5,.o,.o,.o]
       rcases e with ⟨hq6,e⟩ | ⟨hq6,e⟩
       ·subst hq6
        replace e := za e
        let P31 : List (PG Try.prog M B0 S) := P30 ++ [.cg (zh1 hU a0 p0 q0 n0 k0 A0 hR0 y1 true e_r0),.o,.o,.o,.o,.a 0]
        rcases e with ⟨hq7,e⟩ | ⟨hq7,e⟩
        ·replace e := za e
         let P32 : List (PG Try.prog M B0 S) := P31 ++ [.t (u_eq ((A0 (y1).toNat)).fOp (133#8)) hq7,.o,.o,.a 0]
         rcases e with ⟨hq8,e⟩ | ⟨hq8,e⟩
         ·replace e := za e
          let P33 : List (PG Try.prog M B0 S) := P32 ++ [.t (u_eq ((A0 (y1).toNat)).fSrc (0#8)) hq8,.o,.o,.o,.a 0]
          rcases e with ⟨hq9,e⟩ | ⟨hq9,e⟩
          ·injection e with e; subst e; exact zc hU (P := Try.prog) Try.func55 (fun xs w => by kernel_rfl) _ _ (P33 ++ [.t (i_lt ((A0 (y1).toNat)).fImm (1#32)) hq9,.o,.o,.o,.o,.o]) [] (fun b => by kernel_rfl)
          ·replace e := za e
           let P34 : List (PG Try.prog M B0 S) := P33 ++ [.t (i_lt ((A0 (y1).toNat)).fImm (1#32)) hq9,.o,.o,.a 0]
           rcases e with ⟨hq10,e⟩ | ⟨hq10,e⟩
           ·injection e with e; subst e; exact zc hU (P := Try.prog) Try.func55 (fun xs w => by kernel_rfl) _ _ (P34 ++ [.t (i_gt ((A0 (y1).toNat)).fImm (28#32)) hq10,.o,.o,.o,.o]) [] (fun b => by kernel_rfl)
           ·replace e := za e
            let P35 : List (PG Try.prog M B0 S) := P34 ++ [.t (i_gt ((A0 (y1).toNat)).fImm (28#32)) hq10,.o,.o,.o,.a 0]
            rcases e with ⟨hq11,e⟩ | ⟨hq11,e⟩
            ·replace e := zf e
             obtain ⟨r1,e_r1,e⟩ := e
             try dsimp only at e
             replace e := za e
             let P36 : List (PG Try.prog M B0 S) := P35 ++ [.cg (zI hU ((A0 (y1).toNat)) true hq11),.o,.o,.o,.o,.o,.a 0,.v .i64 (zdW (by decide) ((A0 (y1).toNat)).fImm),.o]
             rcases e with ⟨hq12,e⟩ | ⟨hq12,e⟩
             ·subst hq12
              injection e with e; subst e; exact zc hU (P := Try.prog) Try.func55 (fun xs w => by kernel_rfl) _ _ (P36 ++ [.cg (zy hU a0 p0 q0 n0 k0 A0 hR0 (IntKind.i64.wrap ((IntKind.i64.wrap (y1 + 1)) + (ii ((A0 (y1).toNat)).fImm))) true e_r1),.o,.o,.o,.o]) [] (fun b => by kernel_rfl)
             ·subst hq12
              injection e with e; subst e; exact zc hU (P := Try.prog) Try.func55 (fun xs w => by kernel_rfl) _ _ (P36 ++ [.cg (zy hU a0 p0 q0 n0 k0 A0 hR0 (IntKind.i64.wrap ((IntKind.i64.wrap (y1 + 1)) + (ii ((A0 (y1).toNat)).fImm))) false e_r1),.o,.o,.o,.o]) [] (fun b => by kernel_rfl)
            ·injection e with e; subst e; exact zc hU (P := Try.prog) Try.func55 (fun xs w => by kernel_rfl) _ _ (P35 ++ [.cg (zI hU ((A0 (y1).toNat)) false hq11),.o,.o,.o,.o]) [] (fun b => by kernel_rfl)
         ·replace e := za e
          let P37 : List (PG Try.prog M B0 S) := P32 ++ [.t (u_eq ((A0 (y1).toNat)).fSrc (0#8)) hq8,.o,.o,.o,.o,.a 0]
          rcases e with ⟨hq9,e⟩ | ⟨hq9,e⟩
          ·replace e := zf e
           obtain ⟨r1,e_r1,e⟩ := e
           try dsimp only at e
           replace e := za e
           let P38 : List (PG Try.prog M B0 S) := P37 ++ [.cg (zI hU ((A0 (y1).toNat)) true hq9),.o,.o,.o,.o,.o,.a 0,.v .i64 (zdW (by decide) ((A0 (y1).toNat)).fImm),.o]
           rcases e with ⟨hq10,e⟩ | ⟨hq10,e⟩
           ·subst hq10
            injection e with e; subst e; exact zc hU (P := Try.prog) Try.func55 (fun xs w => by kernel_rfl) _ _ (P38 ++ [.cg (zy hU a0 p0 q0 n0 k0 A0 hR0 (IntKind.i64.wrap ((IntKind.i64.wrap (y1 + 1)) + (ii ((A0 (y1).toNat)).fImm))) true e_r1),.o,.o,.o,.o]) [] (fun b => by kernel_rfl)
           ·subst hq10
            injection e with e; subst e; exact zc hU (P := Try.prog) Try.func55 (fun xs w => by kernel_rfl) _ _ (P38 ++ [.cg (zy hU a0 p0 q0 n0 k0 A0 hR0 (IntKind.i64.wrap ((IntKind.i64.wrap (y1 + 1)) + (ii ((A0 (y1).toNat)).fImm))) false e_r1),.o,.o,.o,.o]) [] (fun b => by kernel_rfl)
          ·injection e with e; subst e; exact zc hU (P := Try.prog) Try.func55 (fun xs w => by kernel_rfl) _ _ (P37 ++ [.cg (zI hU ((A0 (y1).toNat)) false hq9),.o,.o,.o,.o]) [] (fun b => by kernel_rfl)
        ·replace e := za e
         let P39 : List (PG Try.prog M B0 S) := P31 ++ [.t (u_eq ((A0 (y1).toNat)).fOp (133#8)) hq7,.o,.o,.o,.o,.o,.a 0]
         rcases e with ⟨hq8,e⟩ | ⟨hq8,e⟩
         ·replace e := zf e
          obtain ⟨r1,e_r1,e⟩ := e
          try dsimp only at e
          replace e := za e
          let P40 : List (PG Try.prog M B0 S) := P39 ++ [.cg (zI hU ((A0 (y1).toNat)) true hq8),.o,.o,.o,.o,.o,.a 0,.v .i64 (zdW (by decide) ((A0 (y1).toNat)).fImm),.o]
          rcases e with ⟨hq9,e⟩ | ⟨hq9,e⟩
          ·subst hq9
           injection e with e; subst e; exact zc hU (P := Try.prog) Try.func55 (fun xs w => by kernel_rfl) _ _ (P40 ++ [.cg (zy hU a0 p0 q0 n0 k0 A0 hR0 (IntKind.i64.wrap ((IntKind.i64.wrap (y1 + 1)) + (ii ((A0 (y1).toNat)).fImm))) true e_r1),.o,.o,.o,.o]) [] (fun b => by kernel_rfl)
          ·subst hq9
           injection e with e; subst e; exact zc hU (P := Try.prog) Try.func55 (fun xs w => by kernel_rfl) _ _ (P40 ++ [.cg (zy hU a0 p0 q0 n0 k0 A0 hR0 (IntKind.i64.wrap ((IntKind.i64.wrap (y1 + 1)) + (ii ((A0 (y1).toNat)).fImm))) false e_r1),.o,.o,.o,.o]) [] (fun b => by kernel_rfl)
         ·injection e with e; subst e; exact zc hU (P := Try.prog) Try.func55 (fun xs w => by kernel_rfl) _ _ (P39 ++ [.cg (zI hU ((A0 (y1).toNat)) false hq8),.o,.o,.o,.o]) [] (fun b => by kernel_rfl)
       ·subst hq6
        injection e with e; subst e; exact zc hU (P := Try.prog) Try.func55 (fun xs w => by kernel_rfl) _ _ (P30 ++ [.cg (zh1 hU a0 p0 q0 n0 k0 A0 hR0 y1 false e_r0),.o,.o,.o,.o]) [] (fun b => by kernel_rfl)
      ·replace e := za e
       let P41 : List (PG Try.prog M B0 S) := P29 ++ [.t (u_eq ((A0 (y1).toNat)).fOp (24#8)) hq5,.o,.o,.o,.o,.a 0]
       rcases e with ⟨hq6,e⟩ | ⟨hq6,e⟩
       ·replace e := za e
        let P42 : List (PG Try.prog M B0 S) := P41 ++ [.t (u_eq ((A0 (y1).toNat)).fOp (133#8)) hq6,.o,.o,.a 0]
        rcases e with ⟨hq7,e⟩ | ⟨hq7,e⟩
        ·replace e := za e
         let P43 : List (PG Try.prog M B0 S) := P42 ++ [.t (u_eq ((A0 (y1).toNat)).fSrc (0#8)) hq7,.o,.o,.o,.a 0]
         rcases e with ⟨hq8,e⟩ | ⟨hq8,e⟩
         ·injection e with e; subst e; exact zc hU (P := Try.prog) Try.func55 (fun xs w => by kernel_rfl) _ _ (P43 ++ [.t (i_lt ((A0 (y1).toNat)).fImm (1#32)) hq8,.o,.o,.o,.o,.o]) [] (fun b => by kernel_rfl)
         ·replace e := za e
          let P44 : List (PG Try.prog M B0 S) := P43 ++ [.t (i_lt ((A0 (y1).toNat)).fImm (1#32)) hq8,.o,.o,.a 0]
          rcases e with ⟨hq9,e⟩ | ⟨hq9,e⟩
          ·injection e with e; subst e; exact zc hU (P := Try.prog) Try.func55 (fun xs w => by kernel_rfl) _ _ (P44 ++ [.t (i_gt ((A0 (y1).toNat)).fImm (28#32)) hq9,.o,.o,.o,.o]) [] (fun b => by kernel_rfl)
          ·replace e := za e
           let P45 : List (PG Try.prog M B0 S) := P44 ++ [.t (i_gt ((A0 (y1).toNat)).fImm (28#32)) hq9,.o,.o,.o,.a 0]
           rcases e with ⟨hq10,e⟩ | ⟨hq10,e⟩
           ·replace e := zf e
            obtain ⟨r0,e_r0,e⟩ := e
            try dsimp only at e
            replace e := za e
            let P46 : List (PG Try.prog M B0 S) := P45 ++ [.cg (zI hU ((A0 (y1).toNat)) true hq10),.o,.o,.o,.o,.o,.a 0,.v .i64 (zdW (by decide) ((A0 (y1).toNat)).fImm),.o]
            rcases e with ⟨hq11,e⟩ | ⟨hq11,e⟩
            ·subst hq11
             injection e with e; subst e; exact zc hU (P := Try.prog) Try.func55 (fun xs w => by kernel_rfl) _ _ (P46 ++ [.cg (zy hU a0 p0 q0 n0 k0 A0 hR0 (IntKind.i64.wrap ((IntKind.i64.wrap (y1 + 1)) + (ii ((A0 (y1).toNat)).fImm))) true e_r0),.o,.o,.o,.o]) [] (fun b => by kernel_rfl)
            ·subst hq11
             injection e with e; subst e; exact zc hU (P := Try.prog) Try.func55 (fun xs w => by kernel_rfl) _ _ (P46 ++ [.cg (zy hU a0 p0 q0 n0 k0 A0 hR0 (IntKind.i64.wrap ((IntKind.i64.wrap (y1 + 1)) + (ii ((A0 (y1).toNat)).fImm))) false e_r0),.o,.o,.o,.o]) [] (fun b => by kernel_rfl)
           ·injection e with e; subst e; exact zc hU (P := Try.prog) Try.func55 (fun xs w => by kernel_rfl) _ _ (P45 ++ [.cg (zI hU ((A0 (y1).toNat)) false hq10),.o,.o,.o,.o]) [] (fun b => by kernel_rfl)
        ·replace e := za e
         let P47 : List (PG Try.prog M B0 S) := P42 ++ [.t (u_eq ((A0 (y1).toNat)).fSrc (0#8)) hq7,.o,.o,.o,.o,.a 0]
         rcases e with ⟨hq8,e⟩ | ⟨hq8,e⟩
         ·replace e := zf e
          obtain ⟨r0,e_r0,e⟩ := e
          try dsimp only at e
          replace e := za e
          let P48 : List (PG Try.prog M B0 S) := P47 ++ [.cg (zI hU ((A0 (y1).toNat)) true hq8),.o,.o,.o,.o,.o,.a 0,.v .i64 (zdW (by decide) ((A0 (y1).toNat)).fImm),.o]
          rcases e with ⟨hq9,e⟩ | ⟨hq9,e⟩
          ·subst hq9
           injection e with e; subst e; exact zc hU (P := Try.prog) Try.func55 (fun xs w => by kernel_rfl) _ _ (P48 ++ [.cg (zy hU a0 p0 q0 n0 k0 A0 hR0 (IntKind.i64.wrap ((IntKind.i64.wrap (y1 + 1)) + (ii ((A0 (y1).toNat)).fImm))) true e_r0),.o,.o,.o,.o]) [] (fun b => by kernel_rfl)
          ·subst hq9
           injection e with e; subst e; exact zc hU (P := Try.prog) Try.func55 (fun xs w => by kernel_rfl) _ _ (P48 ++ [.cg (zy hU a0 p0 q0 n0 k0 A0 hR0 (IntKind.i64.wrap ((IntKind.i64.wrap (y1 + 1)) + (ii ((A0 (y1).toNat)).fImm))) false e_r0),.o,.o,.o,.o]) [] (fun b => by kernel_rfl)
         ·injection e with e; subst e; exact zc hU (P := Try.prog) Try.func55 (fun xs w => by kernel_rfl) _ _ (P47 ++ [.cg (zI hU ((A0 (y1).toNat)) false hq8),.o,.o,.o,.o]) [] (fun b => by kernel_rfl)
       ·replace e := za e
        let P49 : List (PG Try.prog M B0 S) := P41 ++ [.t (u_eq ((A0 (y1).toNat)).fOp (133#8)) hq6,.o,.o,.o,.o,.o,.a 0]
        rcases e with ⟨hq7,e⟩ | ⟨hq7,e⟩
        ·replace e := zf e
         obtain ⟨r0,e_r0,e⟩ := e
         try dsimp only at e
         replace e := za e
         let P50 : List (PG Try.prog M B0 S) := P49 ++ [.cg (zI hU ((A0 (y1).toNat)) true hq7),.o,.o,.o,.o,.o,.a 0,.v .i64 (zdW (by decide) ((A0 (y1).toNat)).fImm),.o]
         rcases e with ⟨hq8,e⟩ | ⟨hq8,e⟩
         ·subst hq8
          injection e with e; subst e; exact zc hU (P := Try.prog) Try.func55 (fun xs w => by kernel_rfl) _ _ (P50 ++ [.cg (zy hU a0 p0 q0 n0 k0 A0 hR0 (IntKind.i64.wrap ((IntKind.i64.wrap (y1 + 1)) + (ii ((A0 (y1).toNat)).fImm))) true e_r0),.o,.o,.o,.o]) [] (fun b => by kernel_rfl)
         ·subst hq8
          injection e with e; subst e; exact zc hU (P := Try.prog) Try.func55 (fun xs w => by kernel_rfl) _ _ (P50 ++ [.cg (zy hU a0 p0 q0 n0 k0 A0 hR0 (IntKind.i64.wrap ((IntKind.i64.wrap (y1 + 1)) + (ii ((A0 (y1).toNat)).fImm))) false e_r0),.o,.o,.o,.o]) [] (fun b => by kernel_rfl)
        ·injection e with e; subst e; exact zc hU (P := Try.prog) Try.func55 (fun xs w => by kernel_rfl) _ _ (P49 ++ [.cg (zI hU ((A0 (y1).toNat)) false hq7),.o,.o,.o,.o]) [] (fun b => by kernel_rfl)
  ·injection e with e; subst e; exact zc hU (P := Try.prog) Try.func55 (fun xs w => by kernel_rfl) _ _ (P2 ++ [.cg (zi9 hU ((A0 (y1).toNat)) false hq1),.o,.o,.o]) [] (fun b => by kernel_rfl)
 ·exact zd e
end

end Go.Proofs.Ytliijnpblddjfaa


