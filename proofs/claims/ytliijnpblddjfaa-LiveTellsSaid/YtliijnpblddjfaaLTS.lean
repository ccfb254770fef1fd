/-
  The law on live registers, by the program's text.
-/
import Derived.Test.YtliijnpblddjfaaLTM
namespace Go.Proofs.Ytliijnpblddjfaa
open Go.RowKit
set_option linter.unusedVariables false
set_option linter.unusedSimpArgs false
set_option linter.unusedSectionVars false
set_option maxRecDepth 100000
set_option maxHeartbeats 4000000
noncomputable def zep  : Option (Bool) :=
 (zdE 3 (fun k => if k = 0 then (⟨183#8,1#8,0#8,0#16,1#32⟩ : Insn) else if k = 1 then (⟨183#8,0#8,0#8,0#16,2#32⟩ : Insn) else (⟨149#8,0#8,0#8,0#16,0#32⟩ : Insn))).bind fun g0 => match g0 with
 | .e0 g0_0 => ((zdQ 3 (fun k => if k = 0 then (⟨183#8,1#8,0#8,0#16,1#32⟩ : Insn) else if k = 1 then (⟨183#8,0#8,0#8,0#16,2#32⟩ : Insn) else (⟨149#8,0#8,0#8,0#16,0#32⟩ : Insn))).bind fun g1 => match g1 with
 | .e0 g1_0 => (bif g0_0 == 0 then
 (some false)
 else (some false))
 | .e1 g1_0 => (bif g0_0 == 0 then
 (bif g1_0 == 0 then
 (some false)
 else (some false))
 else (some false)))
 | .e1 g0_0 g0_1 => ((zdQ 3 (fun k => if k = 0 then (⟨183#8,1#8,0#8,0#16,1#32⟩ : Insn) else if k = 1 then (⟨183#8,0#8,0#8,0#16,2#32⟩ : Insn) else (⟨149#8,0#8,0#8,0#16,0#32⟩ : Insn))).bind fun g1 => match g1 with
 | .e0 g1_0 => (bif (g0_0 : Int) == 1 then
 (bif inR 0 g0_0 then
 (bif (g0_1 0) == 0 then
 (bif (g1_0 0) == 0#16 then
 (some ((g1_0 2) == 1#16))
 else (some false))
 else (some false))
 else (none))
 else (some false))
 | .e1 g1_0 => (bif g1_0 == 0 then
 (bif (g0_0 : Int) == 1 then
 (bif inR 0 g0_0 then
 (bif (g0_1 0) == 0 then
 (some false)
 else (some false))
 else (none))
 else (some false))
 else (some false)))
section
variable {M : Nat → Prop} {B0 : Nat} {S : World → Prop} (hU : Up M B0 S)
include hU
theorem zjN (r : Bool) (e : zep  = some r) : ConG Try.prog S 4 #[] (.bool (r)) := by
 unfold zep at e
 replace e := zf e
 obtain ⟨g0,e_g0,e⟩ := e
 let P1 : List (PG Try.prog M B0 S) := [.o,.o,.o,.o,.o,.o,.o]
 rcases g0 with ⟨g0_0⟩ | ⟨g0_0,g0_1⟩
 ·try dsimp only at e
  replace e := zf e
  obtain ⟨g1,e_g1,e⟩ := e
  let P2 : List (PG Try.prog M B0 S) := P1 ++ [.xg (SpcG.own hU (f := zd9) zj 3 (fun k => if k = 0 then (⟨183#8,1#8,0#8,0#16,1#32⟩ : Insn) else if k = 1 then (⟨183#8,0#8,0#8,0#16,2#32⟩ : Insn) else (⟨149#8,0#8,0#8,0#16,0#32⟩ : Insn)) 25 (fun _ => []) (fun _ => 0) _ 0 .normal (by intros; rfl) (by intros; rfl) (by intros; rfl) (fun M0 B0 S0 x0 u0 v0 z0 hU0 hs0 hr0 => zqM hU0 x0 u0 v0 3 z0 (fun k => if k = 0 then (⟨183#8,1#8,0#8,0#16,1#32⟩ : Insn) else if k = 1 then (⟨183#8,0#8,0#8,0#16,2#32⟩ : Insn) else (⟨149#8,0#8,0#8,0#16,0#32⟩ : Insn)) hr0 g0_0 e_g0)) [0],.o,.o,.o,.o,.o,.o]
  rcases g1 with ⟨g1_0⟩ | ⟨g1_0⟩
  ·try dsimp only at e
   replace e := za e
   let P3 : List (PG Try.prog M B0 S) := P2 ++ [.xg (SpcG.own hU (f := zd9) zj 3 (fun k => if k = 0 then (⟨183#8,1#8,0#8,0#16,1#32⟩ : Insn) else if k = 1 then (⟨183#8,0#8,0#8,0#16,2#32⟩ : Insn) else (⟨149#8,0#8,0#8,0#16,0#32⟩ : Insn)) 25 (fun _ => []) (fun _ => 0) _ 1 .normal (by intros; rfl) (by intros; rfl) (by intros; rfl) (fun M0 B0 S0 x0 u0 v0 z0 hU0 hs0 hr0 => zql hU0 x0 u0 v0 3 z0 (fun k => if k = 0 then (⟨183#8,1#8,0#8,0#16,1#32⟩ : Insn) else if k = 1 then (⟨183#8,0#8,0#8,0#16,2#32⟩ : Insn) else (⟨149#8,0#8,0#8,0#16,0#32⟩ : Insn)) hr0 g1_0 e_g1)) [0],.o,.o,.o,.o,.o,.o]
   rcases e with ⟨hq0,e⟩ | ⟨hq0,e⟩
   ·injection e with e; subst e; exact zc hU (P := Try.prog) Try.func4 (fun xs w => by kernel_rfl) _ _ (P3 ++ [.b (zO hq0),.o,.o,.o,.o,.o,.o,.o,.o,.o,.o,.o,.o,.o,.o,.o,.o,.o,.o]) [] (fun b => by kernel_rfl)
   ·injection e with e; subst e; exact zc hU (P := Try.prog) Try.func4 (fun xs w => by kernel_rfl) _ _ (P3 ++ [.b (zF hq0),.o,.o,.o,.o,.o,.o,.o,.o,.o,.o,.o,.o,.o]) [] (fun b => by kernel_rfl)
  ·try dsimp only at e
   replace e := za e
   let P4 : List (PG Try.prog M B0 S) := P2 ++ [.xg (SpcG.own hU (f := zd9) zj 3 (fun k => if k = 0 then (⟨183#8,1#8,0#8,0#16,1#32⟩ : Insn) else if k = 1 then (⟨183#8,0#8,0#8,0#16,2#32⟩ : Insn) else (⟨149#8,0#8,0#8,0#16,0#32⟩ : Insn)) 25 (fun _ => []) (fun _ => 0) _ 0 .normal (by intros; rfl) (by intros; rfl) (by intros; rfl) (fun M0 B0 S0 x0 u0 v0 z0 hU0 hs0 hr0 => zqb hU0 x0 u0 v0 3 z0 (fun k => if k = 0 then (⟨183#8,1#8,0#8,0#16,1#32⟩ : Insn) else if k = 1 then (⟨183#8,0#8,0#8,0#16,2#32⟩ : Insn) else (⟨149#8,0#8,0#8,0#16,0#32⟩ : Insn)) hr0 g1_0 e_g1)) [0],.o,.o,.o,.o,.o,.o]
   rcases e with ⟨hq0,e⟩ | ⟨hq0,e⟩
   ·replace e := za e
    rcases e with ⟨hq1,e⟩ | ⟨hq1,e⟩
    ·injection e with e; subst e; exact zc hU (P := Try.prog) Try.func4 (fun xs w => by kernel_rfl) _ _ (P4 ++ [.b (zO hq0),.o,.o,.b (zO hq1),.o,.o,.o,.o,.o,.o,.o,.o,.o,.o,.o,.o,.o,.o,.o]) [] (fun b => by kernel_rfl)
    ·injection e with e; subst e; exact zc hU (P := Try.prog) Try.func4 (fun xs w => by kernel_rfl) _ _ (P4 ++ [.b (zO hq0),.o,.o,.b (zF hq1),.o,.o,.o,.o,.o,.o,.o,.o,.o,.o,.o,.o]) [] (fun b => by kernel_rfl)
   ·injection e with e; subst e; exact zc hU (P := Try.prog) Try.func4 (fun xs w => by kernel_rfl) _ _ (P4 ++ [.b (zF hq0),.o,.o,.o,.o,.o,.o,.o,.o,.o,.o,.o,.o,.o]) [] (fun b => by kernel_rfl)
 ·try dsimp only at e
  replace e := zf e
  obtain ⟨g1,e_g1,e⟩ := e
  let P5 : List (PG Try.prog M B0 S) := P1 ++ [.xg (SpcG.own hU (f := zd9) zj 3 (fun k => if k = 0 then (⟨183#8,1#8,0#8,0#16,1#32⟩ : Insn) else if k = 1 then (⟨183#8,0#8,0#8,0#16,2#32⟩ : Insn) else (⟨149#8,0#8,0#8,0#16,0#32⟩ : Insn)) 25 (fun _ => []) (fun _ => 0) _ 1 .normal (by intros; rfl) (by intros; rfl) (by intros; rfl) (fun M0 B0 S0 x0 u0 v0 z0 hU0 hs0 hr0 => zvc hU0 x0 u0 v0 3 z0 (fun k => if k = 0 then (⟨183#8,1#8,0#8,0#16,1#32⟩ : Insn) else if k = 1 then (⟨183#8,0#8,0#8,0#16,2#32⟩ : Insn) else (⟨149#8,0#8,0#8,0#16,0#32⟩ : Insn)) hr0 g0_0 g0_1 e_g0)) [0],.o,.o,.o,.o,.o,.o]
  rcases g1 with ⟨g1_0⟩ | ⟨g1_0⟩
  ·try dsimp only at e
   replace e := za e
   let P6 : List (PG Try.prog M B0 S) := P5 ++ [.xg (SpcG.own hU (f := zd9) zj 3 (fun k => if k = 0 then (⟨183#8,1#8,0#8,0#16,1#32⟩ : Insn) else if k = 1 then (⟨183#8,0#8,0#8,0#16,2#32⟩ : Insn) else (⟨149#8,0#8,0#8,0#16,0#32⟩ : Insn)) 25 (fun _ => []) (fun _ => 0) _ 1 .normal (by intros; rfl) (by intros; rfl) (by intros; rfl) (fun M0 B0 S0 x0 u0 v0 z0 hU0 hs0 hr0 => zql hU0 x0 u0 v0 3 z0 (fun k => if k = 0 then (⟨183#8,1#8,0#8,0#16,1#32⟩ : Insn) else if k = 1 then (⟨183#8,0#8,0#8,0#16,2#32⟩ : Insn) else (⟨149#8,0#8,0#8,0#16,0#32⟩ : Insn)) hr0 g1_0 e_g1)) [0],.o,.o,.o,.o,.o,.o,.o,.o,.o,.o,.o,.o,.o,.o]
   rcases e with ⟨hq0,e⟩ | ⟨hq0,e⟩
   ·replace e := za e
    rcases e with ⟨hq1,e⟩ | ⟨hq1,e⟩
    ·replace e := za e
     let P7 : List (PG Try.prog M B0 S) := P6 ++ [.b (zO hq0),.o,.o,.o,.q (zH (kd := .i64) (T := 36) (x := 0) (N := g0_0) (sz := 1) rfl (fun w => by kernel_rfl) hq1),.l (accG (i := 1) (f := cZ) (A := g0_1) (k := 0) 0 [.int .i64 ((g0_1 0))] zb1 (ze hq1) rfl)]
     rcases e with ⟨hq2,e⟩ | ⟨hq2,e⟩
     ·replace e := za e
      let P8 : List (PG Try.prog M B0 S) := P7 ++ [.b (zO hq2),.o,.o,.o,.o,.o,.o,.o,.o,.q (zH (kd := .i64) (T := 30) (x := 0) (N := 3) (sz := 1) rfl (fun w => by kernel_rfl) (show inR 0 3 = true from by decide)),.l (accG (i := 2) (f := cu16) (A := g1_0) (k := 0) 0 [.int .u16 (nn (g1_0 0))] zc0 (ze (show inR 0 3 = true from by decide)) rfl)]
      rcases e with ⟨hq3,e⟩ | ⟨hq3,e⟩
      ·injection e with e; subst e; exact zc hU (P := Try.prog) Try.func4 (fun xs w => by kernel_rfl) _ _ (P8 ++ [.t (u_eq (g1_0 0) (0#16)) hq3,.o,.o,.o,.q (zH (kd := .i64) (T := 30) (x := 2) (N := 3) (sz := 1) rfl (fun w => by kernel_rfl) (show inR 2 3 = true from by decide)),.l (accG (i := 2) (f := cu16) (A := g1_0) (k := 2) 0 [.int .u16 (nn (g1_0 2))] zc0 (ze (show inR 2 3 = true from by decide)) rfl),.t (u_eq (g1_0 2) (1#16)) rfl,.o,.o]) [] (fun b => by kernel_rfl)
      ·injection e with e; subst e; exact zc hU (P := Try.prog) Try.func4 (fun xs w => by kernel_rfl) _ _ (P8 ++ [.t (u_eq (g1_0 0) (0#16)) hq3,.o,.o,.o,.o]) [] (fun b => by kernel_rfl)
     ·injection e with e; subst e; exact zc hU (P := Try.prog) Try.func4 (fun xs w => by kernel_rfl) _ _ (P7 ++ [.b (zF hq2),.o,.o,.o,.o,.o,.o,.o,.o]) [] (fun b => by kernel_rfl)
    ·exact zd e
   ·injection e with e; subst e; exact zc hU (P := Try.prog) Try.func4 (fun xs w => by kernel_rfl) _ _ (P6 ++ [.b (zF hq0),.o,.o,.o,.o,.o,.o,.o,.o,.o,.o]) [] (fun b => by kernel_rfl)
  ·try dsimp only at e
   replace e := za e
   let P9 : List (PG Try.prog M B0 S) := P5 ++ [.xg (SpcG.own hU (f := zd9) zj 3 (fun k => if k = 0 then (⟨183#8,1#8,0#8,0#16,1#32⟩ : Insn) else if k = 1 then (⟨183#8,0#8,0#8,0#16,2#32⟩ : Insn) else (⟨149#8,0#8,0#8,0#16,0#32⟩ : Insn)) 25 (fun _ => []) (fun _ => 0) _ 0 .normal (by intros; rfl) (by intros; rfl) (by intros; rfl) (fun M0 B0 S0 x0 u0 v0 z0 hU0 hs0 hr0 => zqb hU0 x0 u0 v0 3 z0 (fun k => if k = 0 then (⟨183#8,1#8,0#8,0#16,1#32⟩ : Insn) else if k = 1 then (⟨183#8,0#8,0#8,0#16,2#32⟩ : Insn) else (⟨149#8,0#8,0#8,0#16,0#32⟩ : Insn)) hr0 g1_0 e_g1)) [0],.o,.o,.o,.o,.o,.o,.o,.o,.o]
   rcases e with ⟨hq0,e⟩ | ⟨hq0,e⟩
   ·replace e := za e
    rcases e with ⟨hq1,e⟩ | ⟨hq1,e⟩
    ·replace e := za e
     rcases e with ⟨hq2,e⟩ | ⟨hq2,e⟩
     ·replace e := za e
      let P10 : List (PG Try.prog M B0 S) := P9 ++ [.b (zO hq0),.o,.o,.o,.o,.b (zO hq1),.o,.o,.o,.q (zH (kd := .i64) (T := 36) (x := 0) (N := g0_0) (sz := 1) rfl (fun w => by kernel_rfl) hq2),.l (accG (i := 1) (f := cZ) (A := g0_1) (k := 0) 0 [.int .i64 ((g0_1 0))] zb1 (ze hq2) rfl)]
      rcases e with ⟨hq3,e⟩ | ⟨hq3,e⟩
      ·injection e with e; subst e; exact zc hU (P := Try.prog) Try.func4 (fun xs w => by kernel_rfl) _ _ (P10 ++ [.b (zO hq3),.o,.o,.o,.o,.o,.o,.o,.o,.o,.o,.o]) [] (fun b => by kernel_rfl)
      ·injection e with e; subst e; exact zc hU (P := Try.prog) Try.func4 (fun xs w => by kernel_rfl) _ _ (P10 ++ [.b (zF hq3),.o,.o,.o,.o,.o,.o,.o,.o]) [] (fun b => by kernel_rfl)
     ·exact zd e
    ·injection e with e; subst e; exact zc hU (P := Try.prog) Try.func4 (fun xs w => by kernel_rfl) _ _ (P9 ++ [.b (zO hq0),.o,.o,.o,.o,.b (zF hq1),.o,.o,.o,.o,.o,.o,.o,.o,.o,.o]) [] (fun b => by kernel_rfl)
   ·injection e with e; subst e; exact zc hU (P := Try.prog) Try.func4 (fun xs w => by kernel_rfl) _ _ (P9 ++ [.b (zF hq0),.o,.o,.o,.o,.o,.o,.o,.o,.o,.o,.o,.o]) [] (fun b => by kernel_rfl)
inductive zcJ where
 | c0 (s0_0 : Int)
inductive zcK where
 | e0 
 | e1 
noncomputable def zbZ (n0 : Nat) (A0 : Nat → Int) (n1 : Nat) (A1 : Nat → Int) : zcJ → Option (zcJ ⊕ zcK)
 | .c0 s0_0 =>
 bif decide (s0_0 < (n0 : Int)) then
 (bif inR s0_0 n0 then
 (bif inR s0_0 n1 then
 (bif (A0 (s0_0).toNat) == (A1 (s0_0).toNat) then
 (some (.inl (.c0 (IntKind.i64.wrap (s0_0 + 1)))))
 else (some (.inr (.e1 ))))
 else (none))
 else (none))
 else (some (.inr (.e0 )))
noncomputable def zgF : Code := zb6 Try.f13 [1,1,0,1,0,0]
def zqp (a0 : Option Addr) (p0 q0 n0 k0 : Nat) (A0 : Nat → Int) (a1 : Option Addr) (p1 q1 n1 k1 : Nat) (A1 : Nat → Int) : zcJ → List L1 → List Value
 | .c0 s0_0,ls => [.slice a0 n0 (n0 + k0),.slice a1 n1 (n1 + k1),.bool false,.int .i64 (s0_0)]
def zqD : zcJ → List (Nat × Nat)
 | .c0 _ => [(2,2),(2,20)]
noncomputable def zqr (a0 : Option Addr) (p0 q0 n0 k0 : Nat) (A0 : Nat → Int) (a1 : Option Addr) (p1 q1 n1 k1 : Nat) (A1 : Nat → Int) (s : zcJ) : List L1 → List Value := mrgF (zqD s) (zqp a0 p0 q0 n0 k0 A0 a1 p1 q1 n1 k1 A1 s) 0
def zqo (a0 : Option Addr) (p0 q0 n0 k0 : Nat) (A0 : Nat → Int) (a1 : Option Addr) (p1 q1 n1 k1 : Nat) (A1 : Nat → Int) : zcJ → List L1 → List Obj
 | .c0 s0_0,ls => [unb]
def zqu (a0 : Option Addr) (p0 q0 n0 k0 : Nat) (A0 : Nat → Int) (a1 : Option Addr) (p1 q1 n1 k1 : Nat) (A1 : Nat → Int) : zcK → List L1 → List Value
 | .e0 ,ls => [.slice a0 n0 (n0 + k0),.slice a1 n1 (n1 + k1),.bool false]
 | .e1 ,ls => [.slice a0 n0 (n0 + k0),.slice a1 n1 (n1 + k1),.bool false]
def zqf : zcK → List (Nat × Nat)
 | .e0  => [(2,2),(1,21)]
 | .e1  => [(2,2),(1,21)]
noncomputable def zgB (a0 : Option Addr) (p0 q0 n0 k0 : Nat) (A0 : Nat → Int) (a1 : Option Addr) (p1 q1 n1 k1 : Nat) (A1 : Nat → Int) (r : zcK) : List L1 → List Value := mrgF (zqf r) (zqu a0 p0 q0 n0 k0 A0 a1 p1 q1 n1 k1 A1 r) 0
def zdL (a0 : Option Addr) (p0 q0 n0 k0 : Nat) (A0 : Nat → Int) (a1 : Option Addr) (p1 q1 n1 k1 : Nat) (A1 : Nat → Int) : zcK → List L1 → List Obj
 | .e0 ,ls => [unb]
 | .e1 ,ls => [unb]
def zp6 : zcK → Ex
 | .e0  => (.exit 0)
 | .e1  => .ret
end
section
variable {M : Nat → Prop} {B0 : Nat} {S : World → Prop} (hU : Up M B0 S) (a0 : Option Addr) (p0 q0 n0 k0 : Nat) (A0 : Nat → Int) (hR0 : Ro S cZ 1 a0 p0 q0 n0 A0) (a1 : Option Addr) (p1 q1 n1 k1 : Nat) (A1 : Nat → Int) (hR1 : Ro S cZ 1 a1 p1 q1 n1 A1)
include hU a0 p0 q0 n0 k0 A0 hR0 a1 p1 q1 n1 k1 A1 hR1
theorem zi8 (s : zcJ) (r : zcK) (h : lpO (zbZ n0 A0 n1 A1) s = some r) : zdm Try.prog M B0 S (.loop zgF) 1 (zqr a0 p0 q0 n0 k0 A0 a1 p1 q1 n1 k1 A1 s) (zqo a0 p0 q0 n0 k0 A0 a1 p1 q1 n1 k1 A1 s) (zp6 r) 0 (zgB a0 p0 q0 n0 k0 A0 a1 p1 q1 n1 k1 A1 r) (zdL a0 p0 q0 n0 k0 A0 a1 p1 q1 n1 k1 A1 r) 1 :=
 zb5 (fun s q e => by
  cases s with
  | c0 s0_0 =>
   unfold zbZ at e
   dsimp only at e
   replace e := za e
   rcases e with ⟨hq0,e⟩ | ⟨hq0,e⟩
   ·replace e := za e
    rcases e with ⟨hq1,e⟩ | ⟨hq1,e⟩
    ·replace e := za e
     let P1 : List (PG Try.prog M B0 S) := [.o,.o,.o,.b (zcR hq0),.r [0,1,2,3,4,5,6,7,8] [] [],.o,.o,.q (zA (kd := .i64) (T := 36) (x := s0_0) (sz := 1) rfl (fun w => by kernel_rfl) hR0 hq1),.l (zcm hR0 zb1 (ze hq1) 0 [.int .i64 ((A0 (s0_0).toNat))] rfl),.o,.o]
     rcases e with ⟨hq2,e⟩ | ⟨hq2,e⟩
     ·replace e := za e
      let P2 : List (PG Try.prog M B0 S) := P1 ++ [.q (zA (kd := .i64) (T := 36) (x := s0_0) (sz := 1) rfl (fun w => by kernel_rfl) hR1 hq2),.l (zcm hR1 zb1 (ze hq2) 0 [.int .i64 ((A1 (s0_0).toNat))] rfl)]
      rcases e with ⟨hq3,e⟩ | ⟨hq3,e⟩
      ·cases e; exact zb hU (P2 ++ [.b (zdq hq3),.o,.o,.o]) [] (fun b => rfl) (by decide) rfl rfl (fun b => by kernel_rfl)
      ·cases e; exact ⟨zhB,zb hU (P2 ++ [.b (zdU hq3),.o]) [] (fun b => rfl) (by decide) rfl rfl (fun b => by kernel_rfl)⟩
     ·exact zd e
    ·exact zd e
   ·cases e; exact ⟨zcn 0,zb hU [.o,.o,.o,.b (zb7 hq0)] [] (fun b => rfl) (by decide) rfl rfl (fun b => by kernel_rfl)⟩) s r h
noncomputable def zen (a0 : Option Addr) (p0 q0 n0 k0 : Nat) (A0 : Nat → Int) (a1 : Option Addr) (p1 q1 n1 k1 : Nat) (A1 : Nat → Int) (s0_0 : Int) (ls : List L1) : List Value := List.append [.slice a0 n0 (n0 + k0),.slice a1 n1 (n1 + k1),undef,undef,.bool false,.int .i64 (s0_0),.slice a0 n0 (n0 + k0),.int .i64 ((n0 : Int)),.slice a1 n1 (n1 + k1),.int .i64 ((n1 : Int)),.bool false] (und 15)
def zd1 (a0 : Option Addr) (p0 q0 n0 k0 : Nat) (A0 : Nat → Int) (a1 : Option Addr) (p1 q1 n1 k1 : Nat) (A1 : Nat → Int) (s0_0 : Int) (ls : List L1) : List Obj := []
theorem zlT (s0_0 : Int) (h : lpO (zbZ n0 A0 n1 A1) (.c0 s0_0) = some (.e0 )) : SpcG Try.prog M B0 S ⟨fun ls => .code (.loop zgF) (zen a0 p0 q0 n0 k0 A0 a1 p1 q1 n1 k1 A1 s0_0 ls),zd1 a0 p0 q0 n0 k0 A0 a1 p1 q1 n1 k1 A1 s0_0,1,(.exit 0),fun ls => zgB a0 p0 q0 n0 k0 A0 a1 p1 q1 n1 k1 A1 (.e0 ) (ls.take 0 ++ ls.drop 0),fun ls => (zdL a0 p0 q0 n0 k0 A0 a1 p1 q1 n1 k1 A1 (.e0 ) (ls.take 0 ++ ls.drop 0)).take 0 ++ List.replicate 0 unb,fun ls => (zdL a0 p0 q0 n0 k0 A0 a1 p1 q1 n1 k1 A1 (.e0 ) (ls.take 0 ++ ls.drop 0)).drop 0⟩ :=
 zr hU 0 (k0 := 0) (zi8 hU a0 p0 q0 n0 k0 A0 hR0 a1 p1 q1 n1 k1 A1 hR1 _ _ h) (zen a0 p0 q0 n0 k0 A0 a1 p1 q1 n1 k1 A1 s0_0) (zd1 a0 p0 q0 n0 k0 A0 a1 p1 q1 n1 k1 A1 s0_0) (fun _ => rfl) (fun ls h => by match ls,h with | [],_ => exact ⟨by kernel_rfl,by kernel_rfl⟩) (fun ls h => by match ls,h with | [],_ => rfl) (by decide) (by decide) (fun ls => rfl)
theorem zlM (s0_0 : Int) (h : lpO (zbZ n0 A0 n1 A1) (.c0 s0_0) = some (.e1 )) : SpcG Try.prog M B0 S ⟨fun ls => .code (.loop zgF) (zen a0 p0 q0 n0 k0 A0 a1 p1 q1 n1 k1 A1 s0_0 ls),zd1 a0 p0 q0 n0 k0 A0 a1 p1 q1 n1 k1 A1 s0_0,1,.ret,fun ls => zgB a0 p0 q0 n0 k0 A0 a1 p1 q1 n1 k1 A1 (.e1 ) (ls.take 0 ++ ls.drop 0),fun ls => (zdL a0 p0 q0 n0 k0 A0 a1 p1 q1 n1 k1 A1 (.e1 ) (ls.take 0 ++ ls.drop 0)).take 0 ++ List.replicate 0 unb,fun ls => (zdL a0 p0 q0 n0 k0 A0 a1 p1 q1 n1 k1 A1 (.e1 ) (ls.take 0 ++ ls.drop 0)).drop 0⟩ :=
 zr hU 0 (k0 := 0) (zi8 hU a0 p0 q0 n0 k0 A0 hR0 a1 p1 q1 n1 k1 A1 hR1 _ _ h) (zen a0 p0 q0 n0 k0 A0 a1 p1 q1 n1 k1 A1 s0_0) (zd1 a0 p0 q0 n0 k0 A0 a1 p1 q1 n1 k1 A1 s0_0) (fun _ => rfl) (fun ls h => by match ls,h with | [],_ => exact ⟨by kernel_rfl,by kernel_rfl⟩) (fun ls h => by match ls,h with | [],_ => rfl) (by decide) (by decide) (fun ls => rfl)
noncomputable def zdr (n0 : Nat) (A0 : Nat → Int) (n1 : Nat) (A1 : Nat → Int) : Option (Bool) :=
 bif (n0 : Int) == (n1 : Int) then
 ((lpO (zbZ n0 A0 n1 A1) (.c0 0)).bind fun g0 => match g0 with
 | .e0  => (some true)
 | .e1  => (some false))
 else (some false)
theorem zil (r : Bool) (e : zdr n0 A0 n1 A1 = some r) : ConG Try.prog S 13 #[.slice a0 n0 (n0 + k0),.slice a1 n1 (n1 + k1)] (.bool (r)) := by
 unfold zdr at e
 replace e := za e
 rcases e with ⟨hq0,e⟩ | ⟨hq0,e⟩
 ·replace e := zf e
  obtain ⟨g0,e_g0,e⟩ := e
  rcases g0 with _ | _
  ·try dsimp only at e
   injection e with e; subst e; exact zc hU (P := Try.prog) Try.func13 (fun xs w => by kernel_rfl) _ _ [.o,.o,.o,.o,.o,.b (zdq hq0),.o,.cp,.cx (zlT hU a0 p0 q0 n0 k0 A0 hR0 a1 p1 q1 n1 k1 A1 hR1 0  e_g0) [],.o] [] (fun b => by kernel_rfl)
  ·try dsimp only at e
   injection e with e; subst e; exact zc hU (P := Try.prog) Try.func13 (fun xs w => by kernel_rfl) _ _ [.o,.o,.o,.o,.o,.b (zdq hq0),.o,.cp,.cx (zlM hU a0 p0 q0 n0 k0 A0 hR0 a1 p1 q1 n1 k1 A1 hR1 0  e_g0) []] [] (fun b => by kernel_rfl)
 ·injection e with e; subst e; exact zc hU (P := Try.prog) Try.func13 (fun xs w => by kernel_rfl) _ _ [.o,.o,.o,.o,.o,.b (zdU hq0),.o] [] (fun b => by kernel_rfl)
inductive zbp where
 | c0 (s0_0 : Int)
inductive zbq where
 | e0 
noncomputable def z4 (n0 : Nat) (g5_0 : Nat → BitVec 16) (g6_0 : Nat → BitVec 16) : zbp → Option (zbp ⊕ zbq)
 | .c0 s0_0 =>
 bif decide (s0_0 < (n0 : Int)) then
 (bif inR s0_0 n0 then
 (bif inR s0_0 ((n0 : Int)).toNat then
 (bif (g5_0 (s0_0).toNat) == (g6_0 (s0_0).toNat) then
 (some (.inl (.c0 (IntKind.i64.wrap (s0_0 + 1)))))
 else (none))
 else (none))
 else (none))
 else (some (.inr (.e0 )))
noncomputable def zgY : Code := zb6 Try.f3 [1,1,1,1,1,1,1,1,1,1,1,0,1,0,0]
def zl0 (a0 : Option Addr) (p0 q0 n0 k0 : Nat) (A0 : Nat → Insn) (y1 : Insn) (r1 : (BitVec 16) × (Bool)) (r2 : (BitVec 16) × (Bool)) (r3 : (BitVec 16) × (Bool)) (r4 : (BitVec 16) × (Bool)) (g5_0 : Nat → BitVec 16) (g6_0 : Nat → BitVec 16) : zbp → List L1 → List Value
 | .c0 s0_0,ls => [.slice a0 n0 (n0 + k0),.bool false,(rowV (lget ls 1) n0 1),(rowV (lget ls 2) ((n0 : Int)).toNat 1),.int .i64 (s0_0)]
def zlQ : zbp → List (Nat × Nat)
 | .c0 _ => [(1,3),(1,8),(1,1),(1,1),(1,98)]
noncomputable def zlZ (a0 : Option Addr) (p0 q0 n0 k0 : Nat) (A0 : Nat → Insn) (y1 : Insn) (r1 : (BitVec 16) × (Bool)) (r2 : (BitVec 16) × (Bool)) (r3 : (BitVec 16) × (Bool)) (r4 : (BitVec 16) × (Bool)) (g5_0 : Nat → BitVec 16) (g6_0 : Nat → BitVec 16) (s : zbp) : List L1 → List Value := mrgF (zlQ s) (zl0 a0 p0 q0 n0 k0 A0 y1 r1 r2 r3 r4 g5_0 g6_0 s) 3
def zlS (a0 : Option Addr) (p0 q0 n0 k0 : Nat) (A0 : Nat → Insn) (y1 : Insn) (r1 : (BitVec 16) × (Bool)) (r2 : (BitVec 16) × (Bool)) (r3 : (BitVec 16) × (Bool)) (r4 : (BitVec 16) × (Bool)) (g5_0 : Nat → BitVec 16) (g6_0 : Nat → BitVec 16) : zbp → List L1 → List Obj
 | .c0 s0_0,ls => [.cells #[.int .u8 (nn y1.fOp),.int .u8 (nn y1.fDst),.int .u8 (nn y1.fSrc),.int .i16 (ii y1.fOff),.int .i32 (ii y1.fImm)] 25,rowO (lget ls 1) (esG cu16 n0 g5_0) 27 n0 1,rowO (lget ls 2) (esG cu16 ((n0 : Int)).toNat g6_0) 27 ((n0 : Int)).toNat 1,unb]
def zl2 (a0 : Option Addr) (p0 q0 n0 k0 : Nat) (A0 : Nat → Insn) (y1 : Insn) (r1 : (BitVec 16) × (Bool)) (r2 : (BitVec 16) × (Bool)) (r3 : (BitVec 16) × (Bool)) (r4 : (BitVec 16) × (Bool)) (g5_0 : Nat → BitVec 16) (g6_0 : Nat → BitVec 16) : zbq → List L1 → List Value
 | .e0 ,ls => [.slice a0 n0 (n0 + k0),.bool false,(rowV (lget ls 1) n0 1),(rowV (lget ls 2) ((n0 : Int)).toNat 1)]
def zl3 : zbq → List (Nat × Nat)
 | .e0  => [(1,3),(1,8),(1,1),(1,100)]
noncomputable def zgN (a0 : Option Addr) (p0 q0 n0 k0 : Nat) (A0 : Nat → Insn) (y1 : Insn) (r1 : (BitVec 16) × (Bool)) (r2 : (BitVec 16) × (Bool)) (r3 : (BitVec 16) × (Bool)) (r4 : (BitVec 16) × (Bool)) (g5_0 : Nat → BitVec 16) (g6_0 : Nat → BitVec 16) (r : zbq) : List L1 → List Value := mrgF (zl3 r) (zl2 a0 p0 q0 n0 k0 A0 y1 r1 r2 r3 r4 g5_0 g6_0 r) 3
def zex (a0 : Option Addr) (p0 q0 n0 k0 : Nat) (A0 : Nat → Insn) (y1 : Insn) (r1 : (BitVec 16) × (Bool)) (r2 : (BitVec 16) × (Bool)) (r3 : (BitVec 16) × (Bool)) (r4 : (BitVec 16) × (Bool)) (g5_0 : Nat → BitVec 16) (g6_0 : Nat → BitVec 16) : zbq → List L1 → List Obj
 | .e0 ,ls => [.cells #[.int .u8 (nn y1.fOp),.int .u8 (nn y1.fDst),.int .u8 (nn y1.fSrc),.int .i16 (ii y1.fOff),.int .i32 (ii y1.fImm)] 25,rowO (lget ls 1) (esG cu16 n0 g5_0) 27 n0 1,rowO (lget ls 2) (esG cu16 ((n0 : Int)).toNat g6_0) 27 ((n0 : Int)).toNat 1,unb]
def zlY : zbq → Ex
 | .e0  => (.exit 0)
end
section
variable {M : Nat → Prop} {B0 : Nat} {S : World → Prop} (hU : Up M B0 S) (a0 : Option Addr) (p0 q0 n0 k0 : Nat) (A0 : Nat → Insn) (hR0 : Ro S zd9 5 a0 p0 q0 n0 A0) (y1 : Insn) (r1 : (BitVec 16) × (Bool)) (r2 : (BitVec 16) × (Bool)) (r3 : (BitVec 16) × (Bool)) (r4 : (BitVec 16) × (Bool)) (g5_0 : Nat → BitVec 16) (g6_0 : Nat → BitVec 16)
include hU a0 p0 q0 n0 k0 A0 hR0 y1 r1 r2 r3 r4 g5_0 g6_0
theorem zlL (s : zbp) (r : zbq) (h : lpO (z4 n0 g5_0 g6_0) s = some r) : zdm Try.prog M B0 S (.loop zgY) 4 (zlZ a0 p0 q0 n0 k0 A0 y1 r1 r2 r3 r4 g5_0 g6_0 s) (zlS a0 p0 q0 n0 k0 A0 y1 r1 r2 r3 r4 g5_0 g6_0 s) (zlY r) 3 (zgN a0 p0 q0 n0 k0 A0 y1 r1 r2 r3 r4 g5_0 g6_0 r) (zex a0 p0 q0 n0 k0 A0 y1 r1 r2 r3 r4 g5_0 g6_0 r) 4 :=
 zb5 (fun s q e => by
  cases s with
  | c0 s0_0 =>
   unfold z4 at e
   dsimp only at e
   replace e := za e
   rcases e with ⟨hq0,e⟩ | ⟨hq0,e⟩
   ·replace e := za e
    rcases e with ⟨hq1,e⟩ | ⟨hq1,e⟩
    ·replace e := za e
     rcases e with ⟨hq2,e⟩ | ⟨hq2,e⟩
     ·replace e := za e
      rcases e with ⟨hq3,e⟩ | ⟨hq3,e⟩
      ·cases e; exact zb hU [.o,.o,.o,.b (zcR hq0),.r [0,1,2,3,4,5,6,7,8] [] [],.o,.o,.q (zH (kd := .i64) (T := 30) (x := s0_0) (N := n0) (sz := 1) rfl (fun w => by kernel_rfl) hq1),.l (accG (i := 1) (f := cu16) (A := g5_0) (k := (s0_0).toNat) 0 [.int .u16 (nn (g5_0 (s0_0).toNat))] zc0 (ze hq1) rfl),.o,.o,.q (zH (kd := .i64) (T := 30) (x := s0_0) (N := ((n0 : Int)).toNat) (sz := 1) rfl (fun w => by kernel_rfl) hq2),.l (accG (i := 2) (f := cu16) (A := g6_0) (k := (s0_0).toNat) 0 [.int .u16 (nn (g6_0 (s0_0).toNat))] zc0 (ze hq2) rfl),.tn (u_ne (g5_0 (s0_0).toNat) (g6_0 (s0_0).toNat)) hq3,.o,.o,.o] [0,1,2] (fun b => rfl) (by decide) rfl rfl (fun b => by kernel_rfl)
      ·exact zd e
     ·exact zd e
    ·exact zd e
   ·cases e; exact ⟨zcn 0,zb hU [.o,.o,.o,.b (zb7 hq0)] [0,1,2] (fun b => rfl) (by decide) rfl rfl (fun b => by kernel_rfl)⟩) s r h
noncomputable def zf6 (a0 : Option Addr) (p0 q0 n0 k0 : Nat) (A0 : Nat → Insn) (y1 : Insn) (r1 : (BitVec 16) × (Bool)) (r2 : (BitVec 16) × (Bool)) (r3 : (BitVec 16) × (Bool)) (r4 : (BitVec 16) × (Bool)) (g5_0 : Nat → BitVec 16) (g6_0 : Nat → BitVec 16) (s0_0 : Int) (ls : List L1) : List Value := List.append [.slice a0 n0 (n0 + k0),(zeP y1),undef,.pointer (some ⟨(lget ls 0).n,0,none⟩),.bool false,.int .u16 (nn r1.1),.bool ((r1.2)),.int .u16 (nn r2.1),.bool ((r2.2)),.int .u16 (nn r3.1),.bool ((r3.2)),.int .u16 (nn r4.1),.bool ((r4.2)),(rowV (lget ls 1) n0 1),.int .i64 (0),(rowV (lget ls 2) ((n0 : Int)).toNat 1),.int .i64 (0),.int .i64 (s0_0),undef,undef,.bool true,.bool false,.slice a0 n0 (n0 + k0),.int .i64 ((n0 : Int)),.bool false,.tuple #[.int .u16 (nn r1.1),.bool (r1.2)],.agg #[.int .u8 (nn y1.fOp),.int .u8 (nn y1.fDst),.int .u8 (nn y1.fSrc),.int .i16 (ii y1.fOff),.int .i32 (ii y1.fImm)],.tuple #[.int .u16 (nn r1.1),.bool (r1.2)],.int .u16 (nn r1.1),.bool ((r1.2)),.tuple #[.int .u16 (nn r2.1),.bool (r2.2)],.agg #[.int .u8 (nn y1.fOp),.int .u8 (nn y1.fDst),.int .u8 (nn y1.fSrc),.int .i16 (ii y1.fOff),.int .i32 (ii y1.fImm)],.tuple #[.int .u16 (nn r2.1),.bool (r2.2)],.int .u16 (nn r2.1),.bool ((r2.2)),.tuple #[.int .u16 (nn r3.1),.bool (r3.2)],.agg #[.int .u8 (nn y1.fOp),.int .u8 (nn y1.fDst),.int .u8 (nn y1.fSrc),.int .i16 (ii y1.fOff),.int .i32 (ii y1.fImm)],.tuple #[.int .u16 (nn r3.1),.bool (r3.2)],.int .u16 (nn r3.1),.bool ((r3.2)),.tuple #[.int .u16 (nn r4.1),.bool (r4.2)],.agg #[.int .u8 (nn y1.fOp),.int .u8 (nn y1.fDst),.int .u8 (nn y1.fSrc),.int .i16 (ii y1.fOff),.int .i32 (ii y1.fImm)],.tuple #[.int .u16 (nn r4.1),.bool (r4.2)],.int .u16 (nn r4.1),.bool ((r4.2)),.int .u16 (nn r1.1),.int .u16 (nn r2.1),.bool false,.bool false,.bool ((r1.2)),.bool ((r2.2)),.bool false,.bool false,.bool false,.int .u16 (nn r3.1),.int .u16 (nn r4.1),.bool false,.bool false,.bool false,.bool ((r3.2)),.bool ((r4.2)),.bool false,.bool false,.tuple #[(rowV (lget ls 1) n0 1),.int .i64 (0)],.slice a0 n0 (n0 + k0),.tuple #[(rowV (lget ls 1) n0 1),.int .i64 (0)],(rowV (lget ls 1) n0 1),.int .i64 (0),.tuple #[(rowV (lget ls 2) ((n0 : Int)).toNat 1),.int .i64 (0)],.slice a0 n0 (n0 + k0),.tuple #[(rowV (lget ls 2) ((n0 : Int)).toNat 1),.int .i64 (0)],(rowV (lget ls 2) ((n0 : Int)).toNat 1),.int .i64 (0),.int .i64 (0),.int .i64 (0),.bool false,.bool false,(rowV (lget ls 1) n0 1),.int .i64 ((n0 : Int)),(rowV (lget ls 2) ((n0 : Int)).toNat 1),.int .i64 ((((n0 : Int)).toNat : Int)),.bool false,.bool false] (und 33)
def zfJ (a0 : Option Addr) (p0 q0 n0 k0 : Nat) (A0 : Nat → Insn) (y1 : Insn) (r1 : (BitVec 16) × (Bool)) (r2 : (BitVec 16) × (Bool)) (r3 : (BitVec 16) × (Bool)) (r4 : (BitVec 16) × (Bool)) (g5_0 : Nat → BitVec 16) (g6_0 : Nat → BitVec 16) (s0_0 : Int) (ls : List L1) : List Obj := [.cells #[.int .u8 (nn y1.fOp),.int .u8 (nn y1.fDst),.int .u8 (nn y1.fSrc),.int .i16 (ii y1.fOff),.int .i32 (ii y1.fImm)] 25,rowO (lget ls 1) (esG cu16 n0 g5_0) 27 n0 1,rowO (lget ls 2) (esG cu16 ((n0 : Int)).toNat g6_0) 27 ((n0 : Int)).toNat 1]
theorem ziF (s0_0 : Int) (h : lpO (z4 n0 g5_0 g6_0) (.c0 s0_0) = some (.e0 )) : SpcG Try.prog M B0 S ⟨fun ls => .code (.loop zgY) (zf6 a0 p0 q0 n0 k0 A0 y1 r1 r2 r3 r4 g5_0 g6_0 s0_0 ls),zfJ a0 p0 q0 n0 k0 A0 y1 r1 r2 r3 r4 g5_0 g6_0 s0_0,1,(.exit 0),fun ls => zgN a0 p0 q0 n0 k0 A0 y1 r1 r2 r3 r4 g5_0 g6_0 (.e0 ) (ls.take 3 ++ ls.drop 3),fun ls => (zex a0 p0 q0 n0 k0 A0 y1 r1 r2 r3 r4 g5_0 g6_0 (.e0 ) (ls.take 3 ++ ls.drop 3)).take 3 ++ List.replicate 0 unb,fun ls => (zex a0 p0 q0 n0 k0 A0 y1 r1 r2 r3 r4 g5_0 g6_0 (.e0 ) (ls.take 3 ++ ls.drop 3)).drop 3⟩ :=
 zr hU 0 (k0 := 3) (zlL hU a0 p0 q0 n0 k0 A0 hR0 y1 r1 r2 r3 r4 g5_0 g6_0 _ _ h) (zf6 a0 p0 q0 n0 k0 A0 y1 r1 r2 r3 r4 g5_0 g6_0 s0_0) (zfJ a0 p0 q0 n0 k0 A0 y1 r1 r2 r3 r4 g5_0 g6_0 s0_0) (fun _ => rfl) (fun ls h => by match ls,h with | [l0,l1,l2],_ => exact ⟨by kernel_rfl,by kernel_rfl⟩) (fun ls h => by match ls,h with | [l0,l1,l2],_ => rfl) (by decide) (by decide) (fun ls => rfl)
noncomputable def zem (n0 : Nat) (A0 : Nat → Insn) (y1 : Insn) : Option (Bool) :=
 (zep).bind fun r0 =>
 bif r0 then
 (bif decide (120 < (n0 : Int)) then
 (some true)
 else ((zcS y1).bind fun r1 =>
 (zcD y1).bind fun r2 =>
 (zcZ y1).bind fun r3 =>
 (zcY y1).bind fun r4 =>
 bif r1.1 == r2.1 then
 (bif (r1.2) != (r2.2) then
 (some false)
 else (bif r3.1 == r4.1 then
 (bif (r3.2) != (r4.2) then
 (some false)
 else ((zdQ n0 A0).bind fun g5 => match g5 with
 | .e0 g5_0 => ((zbx n0 A0).bind fun g6 => match g6 with
 | .e0 g6_0 => (bif (n0 : Int) == (((n0 : Int)).toNat : Int) then
 ((lpO (z4 n0 g5_0 g6_0) (.c0 0)).bind fun g7 => match g7 with
 | .e0 =>
 (zdE n0 A0).bind fun g8 => match g8 with
 | .e0 g8_0 => ((zby n0 A0).bind fun g9 => match g9 with
 | .e0 g9_0 => (bif g8_0 == g9_0 then
 ((zdr 0 (fun _ => 0) 0 (fun _ => 0)).bind fun r10 =>
 some r10)
 else (none))
 | .e1 g9_0 g9_1 => (none))
 | .e1 g8_0 g8_1 => ((zby n0 A0).bind fun g9 => match g9 with
 | .e0 g9_0 => (none)
 | .e1 g9_0 g9_1 => ((zdr g8_0 g8_1 g9_0 g9_1).bind fun r10 =>
 some r10)))
 else (none))
 | .e1 g6_0 => (none))
 | .e1 g5_0 => ((zbx n0 A0).bind fun g6 => match g6 with
 | .e0 g6_0 => (none)
 | .e1 g6_0 => (bif g5_0 == g6_0 then
 ((zdE n0 A0).bind fun g7 => match g7 with
 | .e0 g7_0 => ((zby n0 A0).bind fun g8 => match g8 with
 | .e0 g8_0 => (bif g7_0 == g8_0 then
 ((zdr 0 (fun _ => 0) 0 (fun _ => 0)).bind fun r9 =>
 some r9)
 else (none))
 | .e1 g8_0 g8_1 => (none))
 | .e1 g7_0 g7_1 => (none))
 else (none)))))
 else (none)))
 else (none)))
 else (some false)
end
section
variable {M : Nat → Prop} {B0 : Nat} {S : World → Prop} (hU : Up M B0 S)
include hU
theorem zot (a0 : Option Addr) (p0 q0 n0 k0 : Nat) (A0 : Nat → Insn) (hR0 : Ro S zd9 5 a0 p0 q0 n0 A0) (y1 : Insn) (r : Bool) (e : zem n0 A0 y1 = some r) : ConG Try.prog S 3 #[.slice a0 n0 (n0 + k0),(zeP y1)] (.bool (r)) := by
 unfold zem at e
 replace e := zf e
 obtain ⟨r0,e_r0,e⟩ := e
 try dsimp only at e
 replace e := za e
 rcases e with ⟨hq0,e⟩ | ⟨hq0,e⟩
 ·subst hq0
  replace e := za e
  let P1 : List (PG Try.prog M B0 S) := [.o,.o,.cg (zjN hU  true e_r0),.o,.o,.o]
  rcases e with ⟨hq1,e⟩ | ⟨hq1,e⟩
  ·injection e with e; subst e; exact zc hU (P := Try.prog) Try.func3 (fun xs w => by kernel_rfl) _ _ (P1 ++ [.b (zid hq1),.o]) [] (fun b => by kernel_rfl)
  ·replace e := zf e
   obtain ⟨r1,e_r1,e⟩ := e
   try dsimp only at e
   replace e := zf e
   obtain ⟨r2,e_r2,e⟩ := e
   try dsimp only at e
   replace e := zf e
   obtain ⟨r3,e_r3,e⟩ := e
   try dsimp only at e
   replace e := zf e
   obtain ⟨r4,e_r4,e⟩ := e
   try dsimp only at e
   replace e := za e
   let P2 : List (PG Try.prog M B0 S) := P1 ++ [.b (zgR hq1),.a 0,.cg (zqk hU y1 r1 e_r1),.o,.o,.o,.o,.o,.a 0,.cg (zg4 hU y1 r2 e_r2),.o,.o,.o,.o,.o,.a 0,.cg (zoY hU y1 r3 e_r3),.o,.o,.o,.o,.o,.a 0,.cg (zjc hU y1 r4 e_r4),.o,.o,.o,.o,.o,.o,.o]
   rcases e with ⟨hq2,e⟩ | ⟨hq2,e⟩
   ·replace e := za e
    let P3 : List (PG Try.prog M B0 S) := P2 ++ [.tn (u_ne r1.1 r2.1) hq2,.o,.o,.o]
    rcases e with ⟨hq3,e⟩ | ⟨hq3,e⟩
    ·injection e with e; subst e; exact zc hU (P := Try.prog) Try.func3 (fun xs w => by kernel_rfl) _ _ (P3 ++ [.b hq3,.o,.o,.o,.o,.o,.o]) [] (fun b => by kernel_rfl)
    ·replace e := za e
     rcases e with ⟨hq4,e⟩ | ⟨hq4,e⟩
     ·replace e := za e
      let P4 : List (PG Try.prog M B0 S) := P3 ++ [.b hq3,.o,.o,.o,.o,.tn (u_ne r3.1 r4.1) hq4,.o,.o,.o,.o]
      rcases e with ⟨hq5,e⟩ | ⟨hq5,e⟩
      ·injection e with e; subst e; exact zc hU (P := Try.prog) Try.func3 (fun xs w => by kernel_rfl) _ _ (P4 ++ [.b hq5,.o,.o]) [] (fun b => by kernel_rfl)
      ·replace e := zf e
       obtain ⟨g5,e_g5,e⟩ := e
       rcases g5 with ⟨g5_0⟩ | ⟨g5_0⟩
       ·try dsimp only at e
        replace e := zf e
        obtain ⟨g6,e_g6,e⟩ := e
        let P5 : List (PG Try.prog M B0 S) := P4 ++ [.b hq5,.o,.o,.xg (zql hU a0 p0 q0 n0 k0 A0 hR0 g5_0 e_g5) [],.o,.o,.o,.o,.o,.o]
        rcases g6 with ⟨g6_0⟩ | ⟨g6_0⟩
        ·try dsimp only at e
         replace e := za e
         let P6 : List (PG Try.prog M B0 S) := P5 ++ [.xg (zg5 hU a0 p0 q0 n0 k0 A0 hR0 g6_0 e_g6) [],.o,.o,.o,.o,.o,.o,.o,.o,.o,.o,.o,.o,.o]
         rcases e with ⟨hq6,e⟩ | ⟨hq6,e⟩
         ·replace e := zf e
          obtain ⟨g7,e_g7,e⟩ := e
          cases g7
          try dsimp only at e
          replace e := zf e
          obtain ⟨g8,e_g8,e⟩ := e
          let P7 : List (PG Try.prog M B0 S) := P6 ++ [.b (zdq hq6),.o,.o,.cp,.cx (ziF hU a0 p0 q0 n0 k0 A0 hR0 y1 r1 r2 r3 r4 g5_0 g6_0 0  e_g7) [0,1,2],.o]
          rcases g8 with ⟨g8_0⟩ | ⟨g8_0,g8_1⟩
          ·try dsimp only at e
           replace e := zf e
           obtain ⟨g9,e_g9,e⟩ := e
           rcases g9 with ⟨g9_0⟩ | ⟨g9_0,g9_1⟩
           ·try dsimp only at e
            replace e := za e
            rcases e with ⟨hq7,e⟩ | ⟨hq7,e⟩
            ·replace e := zf e
             obtain ⟨r10,e_r10,e⟩ := e
             try dsimp only at e
             injection e with e; subst e; exact zc hU (P := Try.prog) Try.func3 (fun xs w => by kernel_rfl) _ _ (P7 ++ [.xg (zqM hU a0 p0 q0 n0 k0 A0 hR0 g8_0 e_g8) [],.o,.o,.o,.o,.o,.o,.xg (zjQ hU a0 p0 q0 n0 k0 A0 hR0 g9_0 e_g9) [],.o,.o,.o,.o,.o,.o,.o,.b (zO hq7),.o,.o,.o,.cg (zil hU none 0 0 0 0 (fun _ => 0) Ro.nil none 0 0 0 0 (fun _ => 0) Ro.nil r10 e_r10),.o,.o]) [] (fun b => by kernel_rfl)
            ·exact zd e
           ·try dsimp only at e
            exact zd e
          ·try dsimp only at e
           replace e := zf e
           obtain ⟨g9,e_g9,e⟩ := e
           rcases g9 with ⟨g9_0⟩ | ⟨g9_0,g9_1⟩
           ·try dsimp only at e
            exact zd e
           ·try dsimp only at e
            replace e := zf e
            obtain ⟨r10,e_r10,e⟩ := e
            try dsimp only at e
            injection e with e; subst e; exact zc hU (P := Try.prog) Try.func3 (fun xs w => by kernel_rfl) _ _ (P7 ++ [.xg (zvc hU a0 p0 q0 n0 k0 A0 hR0 g8_0 g8_1 e_g8) [],.o,.o,.o,.o,.o,.o,.xg (zsa hU a0 p0 q0 n0 k0 A0 hR0 g9_0 g9_1 e_g9) [],.o,.o,.o,.o,.o,.o,.o,.o,.o,.o,.o,.xg (SpcG.own hU (f := cZ) zb1 g8_0 g8_1 3 (fun l => padL l g8_0 1) (fun l => (padL l g8_0 1).length / 1) _ 0 .normal (by intros; rfl) (by intros; rfl) (by intros; rfl) (fun M0 B0 S0 x0 u0 v0 z0 hU0 hs0 hr0 => SpcG.own hU0 (f := cZ) zb1 g9_0 g9_1 3 (fun l => padL l g9_0 1) (fun l => (padL l g9_0 1).length / 1) _ 0 .normal (by intros; rfl) (by intros; rfl) (by intros; rfl) (fun M1 B1 S1 x1 u1 v1 z1 hU1 hs1 hr1 => ConG.sp (zil hU1 x0 u0 v0 g8_0 z0 g8_1 (Ro.mono hr0 hs1) x1 u1 v1 g9_0 z1 g9_1 hr1 r10 e_r10)))) [4,5],.o,.o]) [] (fun b => by kernel_rfl)
         ·exact zd e
        ·try dsimp only at e
         exact zd e
       ·try dsimp only at e
        replace e := zf e
        obtain ⟨g6,e_g6,e⟩ := e
        rcases g6 with ⟨g6_0⟩ | ⟨g6_0⟩
        ·try dsimp only at e
         exact zd e
        ·try dsimp only at e
         replace e := za e
         rcases e with ⟨hq6,e⟩ | ⟨hq6,e⟩
         ·replace e := zf e
          obtain ⟨g7,e_g7,e⟩ := e
          rcases g7 with ⟨g7_0⟩ | ⟨g7_0,g7_1⟩
          ·try dsimp only at e
           replace e := zf e
           obtain ⟨g8,e_g8,e⟩ := e
           rcases g8 with ⟨g8_0⟩ | ⟨g8_0,g8_1⟩
           ·try dsimp only at e
            replace e := za e
            rcases e with ⟨hq7,e⟩ | ⟨hq7,e⟩
            ·replace e := zf e
             obtain ⟨r9,e_r9,e⟩ := e
             try dsimp only at e
             injection e with e; subst e; exact zc hU (P := Try.prog) Try.func3 (fun xs w => by kernel_rfl) _ _ (P4 ++ [.b hq5,.o,.o,.xg (zqb hU a0 p0 q0 n0 k0 A0 hR0 g5_0 e_g5) [],.o,.o,.o,.o,.o,.o,.xg (zjY hU a0 p0 q0 n0 k0 A0 hR0 g6_0 e_g6) [],.o,.o,.o,.o,.o,.o,.o,.b (zdq hq6),.o,.o,.o,.o,.o,.o,.o,.o,.o,.o,.o,.o,.o,.xg (zqM hU a0 p0 q0 n0 k0 A0 hR0 g7_0 e_g7) [],.o,.o,.o,.o,.o,.o,.xg (zjQ hU a0 p0 q0 n0 k0 A0 hR0 g8_0 e_g8) [],.o,.o,.o,.o,.o,.o,.o,.b (zO hq7),.o,.o,.o,.cg (zil hU none 0 0 0 0 (fun _ => 0) Ro.nil none 0 0 0 0 (fun _ => 0) Ro.nil r9 e_r9),.o,.o]) [] (fun b => by kernel_rfl)
            ·exact zd e
           ·try dsimp only at e
            exact zd e
          ·try dsimp only at e
           exact zd e
         ·exact zd e
     ·exact zd e
   ·exact zd e
 ·subst hq0
  injection e with e; subst e; exact zc hU (P := Try.prog) Try.func3 (fun xs w => by kernel_rfl) _ _ [.o,.o,.cg (zjN hU  false e_r0),.o,.o] [] (fun b => by kernel_rfl)
end

end Go.Proofs.Ytliijnpblddjfaa


