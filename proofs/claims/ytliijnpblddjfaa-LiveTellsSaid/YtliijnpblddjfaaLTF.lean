/-
  What is reached.
-/
import Derived.Test.YtliijnpblddjfaaLTQ
namespace Go.Proofs.Ytliijnpblddjfaa
open Go.RowKit
set_option linter.unusedVariables false
set_option linter.unusedSimpArgs false
set_option linter.unusedSectionVars false
set_option maxRecDepth 100000
set_option maxHeartbeats 4000000
inductive ztn where
 | e0 
 | e1 (c1_0 : Nat) (c1_1 : Nat → Int)
noncomputable def zbQ (n0 : Nat) (A0 : Nat → Insn) (y1 : Int) : Option ztn :=
 bif inR y1 n0 then
 (bif zi ((A0 (y1).toNat)) 9 then
 (some (.e0))
 else (bif zi ((A0 (y1).toNat)) 0 then
 (some (.e1 1 (fun _ => (IntKind.i64.wrap ((IntKind.i64.wrap (y1 + 1)) + (ii ((A0 (y1).toNat)).fOff))))))
 else (bif zbj ((A0 (y1).toNat)) then
 (bif ((A0 (y1).toNat)).fOff == 0#16 then
 (some (.e1 1 (fun _ => (IntKind.i64.wrap (y1 + 1)))))
 else (some (.e1 2 (updF (fun _ => (IntKind.i64.wrap (y1 + 1))) 1 (IntKind.i64.wrap ((IntKind.i64.wrap (y1 + 1)) + (ii ((A0 (y1).toNat)).fOff)))))))
 else (bif zK ((A0 (y1).toNat)) then
 (some (.e1 1 (fun _ => (IntKind.i64.wrap (y1 + 2)))))
 else (some (.e1 1 (fun _ => (IntKind.i64.wrap (y1 + 1)))))))))
 else (none)
def zrq (a0 : Option Addr) (p0 q0 n0 k0 : Nat) (A0 : Nat → Insn) (y1 : Int)  : Spc := ⟨fun ls => .call 51 #[.slice a0 n0 (n0 + k0),.int .i64 (y1)],fun ls => [],0,.normal,fun ls => [.slice none 0 0],fun ls => [],fun ls => []⟩
def zrD (a0 : Option Addr) (p0 q0 n0 k0 : Nat) (A0 : Nat → Insn) (y1 : Int) (c1_0 : Nat) (c1_1 : Nat → Int) : Spc := ⟨fun ls => .call 51 #[.slice a0 n0 (n0 + k0),.int .i64 (y1)],fun ls => [],1,.normal,fun ls => [(rowV (lget ls 0) c1_0 1)],fun ls => [],fun ls => [rowO (lget ls 0) (esG cZ c1_0 c1_1) 3 c1_0 1]⟩
section
variable {M : Nat → Prop} {B0 : Nat} {S : World → Prop} (hU : Up M B0 S) (a0 : Option Addr) (p0 q0 n0 k0 : Nat) (A0 : Nat → Insn) (hR0 : Ro S zd9 5 a0 p0 q0 n0 A0) (y1 : Int)
include hU a0 p0 q0 n0 k0 A0 hR0 y1
theorem zj2 (e : zbQ n0 A0 y1 = some (.e0 )) : SpcG Try.prog M B0 S (zrq a0 p0 q0 n0 k0 A0 y1 ) := by
 unfold zbQ at e
 replace e := za e
 rcases e with ⟨hq0,e⟩ | ⟨hq0,e⟩
 ·replace e := za e
  rcases e with ⟨hq1,e⟩ | ⟨hq1,e⟩
  ·exact zo hU (P := Try.prog) Try.func51 (fun xs w => by kernel_rfl) 0 _ _ (fun _ => rfl) _ _ _ [] [.o,.o,.o,.q (zA (kd := .i64) (T := 22) (x := y1) (sz := 5) rfl (fun w => by kernel_rfl) hR0 hq0),.l (zcm hR0 zj (ze hq0) 0 [.int .u8 (nn ((A0 (y1).toNat)).fOp),.int .u8 (nn ((A0 (y1).toNat)).fDst),.int .u8 (nn ((A0 (y1).toNat)).fSrc),.int .i16 (ii ((A0 (y1).toNat)).fOff),.int .i32 (ii ((A0 (y1).toNat)).fImm)] rfl),.o,.a 0,.a 0,.cg (zh hU ((A0 (y1).toNat)) 9 true hq1),.o,.o] [] (fun b => by kernel_rfl)
  ·replace e := za e
   rcases e with ⟨hq2,e⟩ | ⟨hq2,e⟩
   ·cases e
   ·replace e := za e
    rcases e with ⟨hq3,e⟩ | ⟨hq3,e⟩
    ·replace e := za e
     rcases e with ⟨hq4,e⟩ | ⟨hq4,e⟩
     ·cases e
     ·cases e
    ·replace e := za e
     rcases e with ⟨hq4,e⟩ | ⟨hq4,e⟩
     ·cases e
     ·cases e
 ·exact zd e
theorem zjS (c1_0 : Nat) (c1_1 : Nat → Int) (e : zbQ n0 A0 y1 = some (.e1 c1_0 c1_1)) : SpcG Try.prog M B0 S (zrD a0 p0 q0 n0 k0 A0 y1 c1_0 c1_1) := by
 unfold zbQ at e
 replace e := za e
 rcases e with ⟨hq0,e⟩ | ⟨hq0,e⟩
 ·replace e := za e
  let P1 : List (PG Try.prog M B0 S) := [.o,.o,.o,.q (zA (kd := .i64) (T := 22) (x := y1) (sz := 5) rfl (fun w => by kernel_rfl) hR0 hq0),.l (zcm hR0 zj (ze hq0) 0 [.int .u8 (nn ((A0 (y1).toNat)).fOp),.int .u8 (nn ((A0 (y1).toNat)).fDst),.int .u8 (nn ((A0 (y1).toNat)).fSrc),.int .i16 (ii ((A0 (y1).toNat)).fOff),.int .i32 (ii ((A0 (y1).toNat)).fImm)] rfl),.o,.a 0,.a 0]
  rcases e with ⟨hq1,e⟩ | ⟨hq1,e⟩
  ·cases e
  ·replace e := za e
   let P2 : List (PG Try.prog M B0 S) := P1 ++ [.cg (zh hU ((A0 (y1).toNat)) 9 false hq1),.o,.a 0]
   rcases e with ⟨hq2,e⟩ | ⟨hq2,e⟩
   ·injection e with e; injection e with i0 i1; subst i0 i1; exact zo hU (P := Try.prog) Try.func51 (fun xs w => by kernel_rfl) 0 _ _ (fun _ => rfl) _ _ _ [2] (P2 ++ [.cg (zh hU ((A0 (y1).toNat)) 0 true hq2),.o,.o,.o,.o,.a 0,.v .i64 (zdW (by decide) ((A0 (y1).toNat)).fOff),.o,.o,.x (zhr (es := esG cZ 1 (fun _ => (IntKind.i64.wrap ((IntKind.i64.wrap (y1 + 1)) + (ii ((A0 (y1).toNat)).fOff))))) (e := 3) (n := 1) (sz := 1)) [1]]) [] (fun b => by kernel_rfl)
   ·replace e := za e
    let P3 : List (PG Try.prog M B0 S) := P2 ++ [.cg (zh hU ((A0 (y1).toNat)) 0 false hq2),.o,.a 0]
    rcases e with ⟨hq3,e⟩ | ⟨hq3,e⟩
    ·replace e := za e
     rcases e with ⟨hq4,e⟩ | ⟨hq4,e⟩
     ·injection e with e; injection e with i0 i1; subst i0 i1; exact zo hU (P := Try.prog) Try.func51 (fun xs w => by kernel_rfl) 0 _ _ (fun _ => rfl) _ _ _ [2] (P3 ++ [.cg (zbb hU ((A0 (y1).toNat)) true hq3),.o,.o,.a 0,.t (i_eq ((A0 (y1).toNat)).fOff (0#16)) hq4,.o,.o,.o,.x (zhr (es := esG cZ 1 (fun _ => (IntKind.i64.wrap (y1 + 1)))) (e := 3) (n := 1) (sz := 1)) [1]]) [] (fun b => by kernel_rfl)
     ·injection e with e; injection e with i0 i1; subst i0 i1; exact zo hU (P := Try.prog) Try.func51 (fun xs w => by kernel_rfl) 0 _ _ (fun _ => rfl) _ _ _ [2] (P3 ++ [.cg (zbb hU ((A0 (y1).toNat)) true hq3),.o,.o,.a 0,.t (i_eq ((A0 (y1).toNat)).fOff (0#16)) hq4,.o,.o,.o,.o,.o,.a 0,.v .i64 (zdW (by decide) ((A0 (y1).toNat)).fOff),.o,.o,.x (zhr (es := esG cZ 2 (updF (fun _ => (IntKind.i64.wrap (y1 + 1))) 1 (IntKind.i64.wrap ((IntKind.i64.wrap (y1 + 1)) + (ii ((A0 (y1).toNat)).fOff))))) (e := 3) (n := 2) (sz := 1)) [1]]) [] (fun b => by kernel_rfl)
    ·replace e := za e
     rcases e with ⟨hq4,e⟩ | ⟨hq4,e⟩
     ·injection e with e; injection e with i0 i1; subst i0 i1; exact zo hU (P := Try.prog) Try.func51 (fun xs w => by kernel_rfl) 0 _ _ (fun _ => rfl) _ _ _ [2] (P3 ++ [.cg (zbb hU ((A0 (y1).toNat)) false hq3),.o,.a 0,.cg (zU hU ((A0 (y1).toNat)) true hq4),.o,.o,.o,.o,.x (zhr (es := esG cZ 1 (fun _ => (IntKind.i64.wrap (y1 + 2)))) (e := 3) (n := 1) (sz := 1)) [1]]) [] (fun b => by kernel_rfl)
     ·injection e with e; injection e with i0 i1; subst i0 i1; exact zo hU (P := Try.prog) Try.func51 (fun xs w => by kernel_rfl) 0 _ _ (fun _ => rfl) _ _ _ [2] (P3 ++ [.cg (zbb hU ((A0 (y1).toNat)) false hq3),.o,.a 0,.cg (zU hU ((A0 (y1).toNat)) false hq4),.o,.o,.o,.o,.x (zhr (es := esG cZ 1 (fun _ => (IntKind.i64.wrap (y1 + 1)))) (e := 3) (n := 1) (sz := 1)) [1]]) [] (fun b => by kernel_rfl)
 ·exact zd e
inductive zsK where
 | e0 
 | e1 (c1_0 : Nat) (c1_1 : Nat → Int)
noncomputable def zco (n0 : Nat) (A0 : Nat → Insn) (y1 : Int) : Option zsK :=
 (zbQ n0 A0 y1).bind fun g0 => match g0 with
 | .e0  => (some (.e0))
 | .e1 g0_0 g0_1 => (some (.e1 g0_0 g0_1))
def zp5 (a0 : Option Addr) (p0 q0 n0 k0 : Nat) (A0 : Nat → Insn) (y1 : Int)  : Spc := ⟨fun ls => .call 49 #[.slice a0 n0 (n0 + k0),.int .i64 (y1)],fun ls => [],0,.normal,fun ls => [.slice none 0 0],fun ls => [],fun ls => []⟩
def zqq (a0 : Option Addr) (p0 q0 n0 k0 : Nat) (A0 : Nat → Insn) (y1 : Int) (c1_0 : Nat) (c1_1 : Nat → Int) : Spc := ⟨fun ls => .call 49 #[.slice a0 n0 (n0 + k0),.int .i64 (y1)],fun ls => [],1,.normal,fun ls => [(rowV (lget ls 0) c1_0 1)],fun ls => [],fun ls => [rowO (lget ls 0) (esG cZ c1_0 c1_1) 3 c1_0 1]⟩
theorem zqG (e : zco n0 A0 y1 = some (.e0 )) : SpcG Try.prog M B0 S (zp5 a0 p0 q0 n0 k0 A0 y1 ) := by
 unfold zco at e
 replace e := zf e
 obtain ⟨g0,e_g0,e⟩ := e
 rcases g0 with _ | ⟨g0_0,g0_1⟩
 ·try dsimp only at e
  exact zo hU (P := Try.prog) Try.func49 (fun xs w => by kernel_rfl) 0 _ _ (fun _ => rfl) _ _ _ [] [.o,.o,.o,.xg (zj2 hU a0 p0 q0 n0 k0 A0 hR0 y1  e_g0) [],.o] [] (fun b => by kernel_rfl)
 ·try dsimp only at e
  cases e
theorem zqa (c1_0 : Nat) (c1_1 : Nat → Int) (e : zco n0 A0 y1 = some (.e1 c1_0 c1_1)) : SpcG Try.prog M B0 S (zqq a0 p0 q0 n0 k0 A0 y1 c1_0 c1_1) := by
 unfold zco at e
 replace e := zf e
 obtain ⟨g0,e_g0,e⟩ := e
 rcases g0 with _ | ⟨g0_0,g0_1⟩
 ·try dsimp only at e
  cases e
 ·try dsimp only at e
  injection e with e; injection e with i0 i1; subst i0 i1; exact zo hU (P := Try.prog) Try.func49 (fun xs w => by kernel_rfl) 0 _ _ (fun _ => rfl) _ _ _ [0] [.o,.o,.o,.xg (zjS hU a0 p0 q0 n0 k0 A0 hR0 y1 g0_0 g0_1 e_g0) [],.o] [] (fun b => by kernel_rfl)
inductive zbK where
 | c0 (sb0_0 : Nat → Bool) (sb0_1 : Nat) (sb0_2 : Nat → Int) (sb0_3 : Int)
inductive zbI where
 | e0 (c0_0 : Nat → Bool) (c0_1 : Nat → Int) (c0_2 : Nat) (c0_3 : Nat → Int)
noncomputable def zbl (n0 : Nat) (rb1 : Int) : zbK → Option (zbK ⊕ zbI)
 | .c0 sb0_0 sb0_1 sb0_2 sb0_3 =>
 bif decide (sb0_3 < 1) then
 (bif inR sb0_3 1 then
 (bif inR ((fun _ => rb1) (sb0_3).toNat) ((n0 : Int)).toNat then
 (bif (sb0_0 (((fun _ => rb1) (sb0_3).toNat)).toNat) then
 (some (.inl (.c0 sb0_0 sb0_1 sb0_2 (IntKind.i64.wrap (sb0_3 + 1)))))
 else (bif decide (sb0_1 ≤ 1000000) then
 (some (.inl (.c0 (updF sb0_0 (((fun _ => rb1) (sb0_3).toNat)).toNat true) (sb0_1 + 1) (updF sb0_2 sb0_1 ((fun _ => rb1) (sb0_3).toNat)) (IntKind.i64.wrap (sb0_3 + 1)))))
 else (none)))
 else (none))
 else (none))
 else (some (.inr (.e0 sb0_0 (fun _ => rb1) sb0_1 sb0_2)))
noncomputable def zhD : Code := zb6 Try.f36 [1,1,1,1,0,0,0,1,0,1,1,1,1,1,0,0]
def znZ (a0 : Option Addr) (p0 q0 n0 k0 : Nat) (A0 : Nat → Insn) (s0_0 : Nat → Bool) (s0_1 : Nat) (s0_2 : Nat → Int) (rb1 : Int) : zbK → List L1 → List Value
 | .c0 sb0_0 sb0_1 sb0_2 sb0_3,ls => [.slice a0 n0 (n0 + k0),(rowV (lget ls 0) ((n0 : Int)).toNat 1),(rowV (lget ls 6) sb0_1 1),(rowV (lget ls 5) 1 1),.int .i64 (sb0_3)]
def znm : zbK → List (Nat × Nat)
 | .c0 _ _ _ _ => [(1,2),(2,1),(2,68)]
noncomputable def zm7 (a0 : Option Addr) (p0 q0 n0 k0 : Nat) (A0 : Nat → Insn) (s0_0 : Nat → Bool) (s0_1 : Nat) (s0_2 : Nat → Int) (rb1 : Int) (s : zbK) : List L1 → List Value := mrgF (znm s) (znZ a0 p0 q0 n0 k0 A0 s0_0 s0_1 s0_2 rb1 s) 7
def zmQ (a0 : Option Addr) (p0 q0 n0 k0 : Nat) (A0 : Nat → Insn) (s0_0 : Nat → Bool) (s0_1 : Nat) (s0_2 : Nat → Int) (rb1 : Int) : zbK → List L1 → List Obj
 | .c0 sb0_0 sb0_1 sb0_2 sb0_3,ls => [rowO (lget ls 0) (esG cB ((n0 : Int)).toNat sb0_0) 4 ((n0 : Int)).toNat 1,unb,unb,unb,.cells #[.int .i64 (rb1)] 3,rowO (lget ls 5) (esG cZ 1 (fun _ => rb1)) 3 1 1,rowO (lget ls 6) (esG cZ sb0_1 sb0_2) 3 sb0_1 1,unb]
def zn1 (a0 : Option Addr) (p0 q0 n0 k0 : Nat) (A0 : Nat → Insn) (s0_0 : Nat → Bool) (s0_1 : Nat) (s0_2 : Nat → Int) (rb1 : Int) : zbI → List L1 → List Value
 | .e0 c0_0 c0_1 c0_2 c0_3,ls => [.slice a0 n0 (n0 + k0),(rowV (lget ls 0) ((n0 : Int)).toNat 1),(rowV (lget ls 6) c0_2 1),(rowV (lget ls 5) 1 1)]
def znf : zbI → List (Nat × Nat)
 | .e0 _ _ _ _ => [(1,2),(2,1),(1,69)]
noncomputable def zhY (a0 : Option Addr) (p0 q0 n0 k0 : Nat) (A0 : Nat → Insn) (s0_0 : Nat → Bool) (s0_1 : Nat) (s0_2 : Nat → Int) (rb1 : Int) (r : zbI) : List L1 → List Value := mrgF (znf r) (zn1 a0 p0 q0 n0 k0 A0 s0_0 s0_1 s0_2 rb1 r) 7
def ze1 (a0 : Option Addr) (p0 q0 n0 k0 : Nat) (A0 : Nat → Insn) (s0_0 : Nat → Bool) (s0_1 : Nat) (s0_2 : Nat → Int) (rb1 : Int) : zbI → List L1 → List Obj
 | .e0 c0_0 c0_1 c0_2 c0_3,ls => [rowO (lget ls 0) (esG cB ((n0 : Int)).toNat c0_0) 4 ((n0 : Int)).toNat 1,unb,unb,unb,.cells #[.int .i64 (rb1)] 3,rowO (lget ls 5) (esG cZ 1 c0_1) 3 1 1,rowO (lget ls 6) (esG cZ c0_2 c0_3) 3 c0_2 1,unb]
def zns : zbI → Ex
 | .e0 _ _ _ _ => (.exit 2)
end
section
variable {M : Nat → Prop} {B0 : Nat} {S : World → Prop} (hU : Up M B0 S) (a0 : Option Addr) (p0 q0 n0 k0 : Nat) (A0 : Nat → Insn) (hR0 : Ro S zd9 5 a0 p0 q0 n0 A0) (s0_0 : Nat → Bool) (s0_1 : Nat) (s0_2 : Nat → Int) (rb1 : Int)
include hU a0 p0 q0 n0 k0 A0 hR0 s0_0 s0_1 s0_2 rb1
theorem znj (s : zbK) (r : zbI) (h : lpO (zbl n0 rb1) s = some r) : zdm Try.prog M B0 S (.loop zhD) 8 (zm7 a0 p0 q0 n0 k0 A0 s0_0 s0_1 s0_2 rb1 s) (zmQ a0 p0 q0 n0 k0 A0 s0_0 s0_1 s0_2 rb1 s) (zns r) 6 (zhY a0 p0 q0 n0 k0 A0 s0_0 s0_1 s0_2 rb1 r) (ze1 a0 p0 q0 n0 k0 A0 s0_0 s0_1 s0_2 rb1 r) 8 :=
 zb5 (fun s q e => by
  cases s with
  | c0 sb0_0 sb0_1 sb0_2 sb0_3 =>
   unfold zbl at e
   dsimp only at e
   replace e := za e
   rcases e with ⟨hq0,e⟩ | ⟨hq0,e⟩
   ·replace e := za e
    rcases e with ⟨hq1,e⟩ | ⟨hq1,e⟩
    ·replace e := za e
     let P1 : List (PG Try.prog M B0 S) := [.o,.o,.o,.b (zcR hq0),.o,.o,.o,.q (zH (kd := .i64) (T := 36) (x := sb0_3) (N := 1) (sz := 1) rfl (fun w => by kernel_rfl) hq1),.l (accG (i := 5) (f := cZ) (A := (fun _ => rb1)) (k := (sb0_3).toNat) 0 [.int .i64 (((fun _ => rb1) (sb0_3).toNat))] zb1 (ze hq1) rfl)]
     rcases e with ⟨hq2,e⟩ | ⟨hq2,e⟩
     ·replace e := za e
      let P2 : List (PG Try.prog M B0 S) := P1 ++ [.q (zH (kd := .i64) (T := 64) (x := ((fun _ => rb1) (sb0_3).toNat)) (N := ((n0 : Int)).toNat) (sz := 1) rfl (fun w => by kernel_rfl) hq2)]
      rcases e with ⟨hq3,e⟩ | ⟨hq3,e⟩
      ·cases e; exact zb hU (P2 ++ [.l (accG (i := 0) (f := cB) (A := sb0_0) (k := (((fun _ => rb1) (sb0_3).toNat)).toNat) 0 [.bool true] zbc (ze hq2) (congrArg (fun b => [Value.bool b]) hq3)),.o,.o,.o,.o]) [0,1,2,3,4,5,6] (fun b => rfl) (by decide) rfl rfl (fun b => by kernel_rfl)
      ·replace e := za e
       rcases e with ⟨hq4,e⟩ | ⟨hq4,e⟩
       ·cases e; exact zb hU (P2 ++ [.l (accG (i := 0) (f := cB) (A := sb0_0) (k := (((fun _ => rb1) (sb0_3).toNat)).toNat) 0 [.bool false] zbc (ze hq2) (congrArg (fun b => [Value.bool b]) hq3)),.o,.o,.o,.o,.q (zH (kd := .i64) (T := 36) (x := sb0_3) (N := 1) (sz := 1) rfl (fun w => by kernel_rfl) hq1),.l (accG (i := 5) (f := cZ) (A := (fun _ => rb1)) (k := (sb0_3).toNat) 0 [.int .i64 (((fun _ => rb1) (sb0_3).toNat))] zb1 (ze hq1) rfl),.q (zH (kd := .i64) (T := 64) (x := ((fun _ => rb1) (sb0_3).toNat)) (N := ((n0 : Int)).toNat) (sz := 1) rfl (fun w => by kernel_rfl) hq2),.x (zd0 (T := 4) (e := 4) (f := cB) (A := sb0_0) (v := true) 0 (.bool true) zbc zla rfl rfl (fun w => by kernel_rfl) (ze hq2)) [0],.o,.o,.o,.q (zH (kd := .i64) (T := 36) (x := sb0_3) (N := 1) (sz := 1) rfl (fun w => by kernel_rfl) hq1),.l (accG (i := 5) (f := cZ) (A := (fun _ => rb1)) (k := (sb0_3).toNat) 0 [.int .i64 (((fun _ => rb1) (sb0_3).toNat))] zb1 (ze hq1) rfl),.o,.x (zer (ty := 36) rt36 #[false,false] (f := cZ) (N := sb0_1) (A := sb0_2) (c := 1) [((fun _ => rb1) (sb0_3).toNat)] (T' := 3) .row zb1 zme hq4 rfl (by decide)) [6,8],.o,.o,.o,.o]) [0,1,2,3,4,5,9] (fun b => rfl) (by decide) rfl rfl (fun b => by kernel_rfl)
       ·exact zd e
     ·exact zd e
    ·exact zd e
   ·cases e; exact ⟨zcn 2,zb hU [.o,.o,.o,.b (zb7 hq0)] [0,1,2,3,4,5,6] (fun b => rfl) (by decide) rfl rfl (fun b => by kernel_rfl)⟩) s r h
noncomputable def zgZ (a0 : Option Addr) (p0 q0 n0 k0 : Nat) (A0 : Nat → Insn) (s0_0 : Nat → Bool) (s0_1 : Nat) (s0_2 : Nat → Int) (rb1 : Int) (sb0_0 : Nat → Bool) (sb0_1 : Nat) (sb0_2 : Nat → Int) (sb0_3 : Int) (ls : List L1) : List Value := List.append [.slice a0 n0 (n0 + k0),((lget ls 3).u 1),((lget ls 3).u 2),(rowV (lget ls 0) ((n0 : Int)).toNat 1),(rowV (lget ls 6) sb0_1 1),.int .i64 ((s0_2 ((IntKind.i64.wrap ((s0_1 : Int) - 1))).toNat)),(rowV (lget ls 5) 1 1),.int .i64 (sb0_3)] (List.append (jks (lget ls 3).u 8 6) (List.append [(rowV (lget ls 2) s0_1 1),.int .i64 ((s0_1 : Int)),.bool true,(rowV (lget ls 2) s0_1 1),(rowV (lget ls 2) s0_1 1),.int .i64 ((s0_1 : Int)),.int .i64 ((IntKind.i64.wrap ((s0_1 : Int) - 1))),.pointer (some ⟨(lget ls 2).n,0 + ((IntKind.i64.wrap ((s0_1 : Int) - 1))).toNat * 1,none⟩),.int .i64 ((s0_2 ((IntKind.i64.wrap ((s0_1 : Int) - 1))).toNat)),(rowV (lget ls 2) s0_1 1),(rowV (lget ls 2) s0_1 1),.int .i64 ((s0_1 : Int)),.int .i64 ((IntKind.i64.wrap ((s0_1 : Int) - 1))),(rowV (lget ls 6) ((IntKind.i64.wrap ((s0_1 : Int) - 1))).toNat 1),.slice a0 n0 (n0 + k0),.int .i64 ((s0_2 ((IntKind.i64.wrap ((s0_1 : Int) - 1))).toNat)),.slice none 0 0,.slice a0 n0 (n0 + k0),.int .i64 ((s0_2 ((IntKind.i64.wrap ((s0_1 : Int) - 1))).toNat)),.pointer (some ⟨p0,q0 + ((s0_2 ((IntKind.i64.wrap ((s0_1 : Int) - 1))).toNat)).toNat * 5,none⟩),.agg #[.int .u8 (nn ((A0 ((s0_2 ((IntKind.i64.wrap ((s0_1 : Int) - 1))).toNat)).toNat)).fOp),.int .u8 (nn ((A0 ((s0_2 ((IntKind.i64.wrap ((s0_1 : Int) - 1))).toNat)).toNat)).fDst),.int .u8 (nn ((A0 ((s0_2 ((IntKind.i64.wrap ((s0_1 : Int) - 1))).toNat)).toNat)).fSrc),.int .i16 (ii ((A0 ((s0_2 ((IntKind.i64.wrap ((s0_1 : Int) - 1))).toNat)).toNat)).fOff),.int .i32 (ii ((A0 ((s0_2 ((IntKind.i64.wrap ((s0_1 : Int) - 1))).toNat)).toNat)).fImm)],.bool true,.slice none 0 0,.slice a0 n0 (n0 + k0),.int .i64 ((s0_2 ((IntKind.i64.wrap ((s0_1 : Int) - 1))).toNat)),.slice a0 n0 (n0 + k0),.int .i64 ((s0_2 ((IntKind.i64.wrap ((s0_1 : Int) - 1))).toNat)),.pointer (some ⟨p0,q0 + ((s0_2 ((IntKind.i64.wrap ((s0_1 : Int) - 1))).toNat)).toNat * 5,none⟩),.pointer (some ⟨p0,q0 + ((s0_2 ((IntKind.i64.wrap ((s0_1 : Int) - 1))).toNat)).toNat * 5 + 4,none⟩),.int .i32 (ii ((A0 ((s0_2 ((IntKind.i64.wrap ((s0_1 : Int) - 1))).toNat)).toNat)).fImm),.int .i64 ((ii ((A0 ((s0_2 ((IntKind.i64.wrap ((s0_1 : Int) - 1))).toNat)).toNat)).fImm)),.int .i64 (rb1),.slice (some ⟨(lget ls 4).n,0,none⟩) 1 1,(rowV (lget ls 5) 1 1)] (jks (lget ls 3).u 48 28)))
def zgs (a0 : Option Addr) (p0 q0 n0 k0 : Nat) (A0 : Nat → Insn) (s0_0 : Nat → Bool) (s0_1 : Nat) (s0_2 : Nat → Int) (rb1 : Int) (sb0_0 : Nat → Bool) (sb0_1 : Nat) (sb0_2 : Nat → Int) (sb0_3 : Int) (ls : List L1) : List Obj := [rowO (lget ls 0) (esG cB ((n0 : Int)).toNat sb0_0) 4 ((n0 : Int)).toNat 1,unb,unb,unb,.cells #[.int .i64 (rb1)] 3,rowO (lget ls 5) (esG cZ 1 (fun _ => rb1)) 3 1 1,rowO (lget ls 6) (esG cZ sb0_1 sb0_2) 3 sb0_1 1]
theorem zi7 (sb0_0 : Nat → Bool) (sb0_1 : Nat) (sb0_2 : Nat → Int) (sb0_3 : Int) (c0_0 : Nat → Bool) (c0_1 : Nat → Int) (c0_2 : Nat) (c0_3 : Nat → Int) (h : lpO (zbl n0 rb1) (.c0 sb0_0 sb0_1 sb0_2 sb0_3) = some (.e0 c0_0 c0_1 c0_2 c0_3)) : SpcG Try.prog M B0 S ⟨fun ls => .code (.loop zhD) (zgZ a0 p0 q0 n0 k0 A0 s0_0 s0_1 s0_2 rb1 sb0_0 sb0_1 sb0_2 sb0_3 ls),zgs a0 p0 q0 n0 k0 A0 s0_0 s0_1 s0_2 rb1 sb0_0 sb0_1 sb0_2 sb0_3,2,(.exit 2),fun ls => zhY a0 p0 q0 n0 k0 A0 s0_0 s0_1 s0_2 rb1 (.e0 c0_0 c0_1 c0_2 c0_3) (ls.take 6 ++ ls.drop 7),fun ls => (ze1 a0 p0 q0 n0 k0 A0 s0_0 s0_1 s0_2 rb1 (.e0 c0_0 c0_1 c0_2 c0_3) (ls.take 6 ++ ls.drop 7)).take 6 ++ List.replicate 1 unb,fun ls => (ze1 a0 p0 q0 n0 k0 A0 s0_0 s0_1 s0_2 rb1 (.e0 c0_0 c0_1 c0_2 c0_3) (ls.take 6 ++ ls.drop 7)).drop 6⟩ :=
 zr hU 0 (k0 := 7) (znj hU a0 p0 q0 n0 k0 A0 hR0 s0_0 s0_1 s0_2 rb1 _ _ h) (zgZ a0 p0 q0 n0 k0 A0 s0_0 s0_1 s0_2 rb1 sb0_0 sb0_1 sb0_2 sb0_3) (zgs a0 p0 q0 n0 k0 A0 s0_0 s0_1 s0_2 rb1 sb0_0 sb0_1 sb0_2 sb0_3) (fun _ => rfl) (fun ls h => by match ls,h with | [l0,l1,l2,l3,l4,l5,l6],_ => exact ⟨by kernel_rfl,by kernel_rfl⟩) (fun ls h => by match ls,h with | [l0,l1,l2,l3,l4,l5,l6],_ => rfl) (by decide) (by decide) (fun ls => rfl)
inductive zbD where
 | c0 (sb0_0 : Nat → Bool) (sb0_1 : Nat) (sb0_2 : Nat → Int) (sb0_3 : Int)
inductive zbC where
 | e0 (c0_0 : Nat → Bool) (c0_1 : Nat → Int) (c0_2 : Nat) (c0_3 : Nat → Int)
noncomputable def zbg (n0 gb0_0 : Nat) (gb0_1 : Nat → Int) (rb1 : Int) : zbD → Option (zbD ⊕ zbC)
 | .c0 sb0_0 sb0_1 sb0_2 sb0_3 =>
 bif decide (sb0_3 < ((gb0_0 + 1) : Int)) then
 (bif inR sb0_3 (gb0_0 + 1) then
 (bif inR ((updF gb0_1 gb0_0 rb1) (sb0_3).toNat) ((n0 : Int)).toNat then
 (bif (sb0_0 (((updF gb0_1 gb0_0 rb1) (sb0_3).toNat)).toNat) then
 (some (.inl (.c0 sb0_0 sb0_1 sb0_2 (IntKind.i64.wrap (sb0_3 + 1)))))
 else (bif decide (sb0_1 ≤ 1000000) then
 (some (.inl (.c0 (updF sb0_0 (((updF gb0_1 gb0_0 rb1) (sb0_3).toNat)).toNat true) (sb0_1 + 1) (updF sb0_2 sb0_1 ((updF gb0_1 gb0_0 rb1) (sb0_3).toNat)) (IntKind.i64.wrap (sb0_3 + 1)))))
 else (none)))
 else (none))
 else (none))
 else (some (.inr (.e0 sb0_0 (updF gb0_1 gb0_0 rb1) sb0_1 sb0_2)))
noncomputable def zhb : Code := zb6 Try.f36 [1,1,1,1,0,0,0,1,0,1,1,1,1,1,0,0]
def zmo (a0 : Option Addr) (p0 q0 n0 k0 : Nat) (A0 : Nat → Insn) (s0_0 : Nat → Bool) (s0_1 : Nat) (s0_2 : Nat → Int) (gb0_0 : Nat) (gb0_1 : Nat → Int) (rb1 : Int) : zbD → List L1 → List Value
 | .c0 sb0_0 sb0_1 sb0_2 sb0_3,ls => [.slice a0 n0 (n0 + k0),(rowV (lget ls 0) ((n0 : Int)).toNat 1),(rowV (lget ls 7) sb0_1 1),(rowV (lget ls 6) (gb0_0 + 1) 1),.int .i64 (sb0_3)]
def zmt : zbD → List (Nat × Nat)
 | .c0 _ _ _ _ => [(1,2),(2,1),(2,68)]
noncomputable def zmD (a0 : Option Addr) (p0 q0 n0 k0 : Nat) (A0 : Nat → Insn) (s0_0 : Nat → Bool) (s0_1 : Nat) (s0_2 : Nat → Int) (gb0_0 : Nat) (gb0_1 : Nat → Int) (rb1 : Int) (s : zbD) : List L1 → List Value := mrgF (zmt s) (zmo a0 p0 q0 n0 k0 A0 s0_0 s0_1 s0_2 gb0_0 gb0_1 rb1 s) 8
def zmq (a0 : Option Addr) (p0 q0 n0 k0 : Nat) (A0 : Nat → Insn) (s0_0 : Nat → Bool) (s0_1 : Nat) (s0_2 : Nat → Int) (gb0_0 : Nat) (gb0_1 : Nat → Int) (rb1 : Int) : zbD → List L1 → List Obj
 | .c0 sb0_0 sb0_1 sb0_2 sb0_3,ls => [rowO (lget ls 0) (esG cB ((n0 : Int)).toNat sb0_0) 4 ((n0 : Int)).toNat 1,unb,unb,unb,unb,.cells #[.int .i64 (rb1)] 3,rowO (lget ls 6) (esG cZ (gb0_0 + 1) (updF gb0_1 gb0_0 rb1)) 3 (gb0_0 + 1) 1,rowO (lget ls 7) (esG cZ sb0_1 sb0_2) 3 sb0_1 1,unb]
def zmE (a0 : Option Addr) (p0 q0 n0 k0 : Nat) (A0 : Nat → Insn) (s0_0 : Nat → Bool) (s0_1 : Nat) (s0_2 : Nat → Int) (gb0_0 : Nat) (gb0_1 : Nat → Int) (rb1 : Int) : zbC → List L1 → List Value
 | .e0 c0_0 c0_1 c0_2 c0_3,ls => [.slice a0 n0 (n0 + k0),(rowV (lget ls 0) ((n0 : Int)).toNat 1),(rowV (lget ls 7) c0_2 1),(rowV (lget ls 6) (gb0_0 + 1) 1)]
def zmH : zbC → List (Nat × Nat)
 | .e0 _ _ _ _ => [(1,2),(2,1),(1,69)]
noncomputable def zhg (a0 : Option Addr) (p0 q0 n0 k0 : Nat) (A0 : Nat → Insn) (s0_0 : Nat → Bool) (s0_1 : Nat) (s0_2 : Nat → Int) (gb0_0 : Nat) (gb0_1 : Nat → Int) (rb1 : Int) (r : zbC) : List L1 → List Value := mrgF (zmH r) (zmE a0 p0 q0 n0 k0 A0 s0_0 s0_1 s0_2 gb0_0 gb0_1 rb1 r) 8
def zeM (a0 : Option Addr) (p0 q0 n0 k0 : Nat) (A0 : Nat → Insn) (s0_0 : Nat → Bool) (s0_1 : Nat) (s0_2 : Nat → Int) (gb0_0 : Nat) (gb0_1 : Nat → Int) (rb1 : Int) : zbC → List L1 → List Obj
 | .e0 c0_0 c0_1 c0_2 c0_3,ls => [rowO (lget ls 0) (esG cB ((n0 : Int)).toNat c0_0) 4 ((n0 : Int)).toNat 1,unb,unb,unb,unb,.cells #[.int .i64 (rb1)] 3,rowO (lget ls 6) (esG cZ (gb0_0 + 1) c0_1) 3 (gb0_0 + 1) 1,rowO (lget ls 7) (esG cZ c0_2 c0_3) 3 c0_2 1,unb]
def zmw : zbC → Ex
 | .e0 _ _ _ _ => (.exit 2)
end
section
variable {M : Nat → Prop} {B0 : Nat} {S : World → Prop} (hU : Up M B0 S) (a0 : Option Addr) (p0 q0 n0 k0 : Nat) (A0 : Nat → Insn) (hR0 : Ro S zd9 5 a0 p0 q0 n0 A0) (s0_0 : Nat → Bool) (s0_1 : Nat) (s0_2 : Nat → Int) (gb0_0 : Nat) (gb0_1 : Nat → Int) (rb1 : Int)
include hU a0 p0 q0 n0 k0 A0 hR0 s0_0 s0_1 s0_2 gb0_0 gb0_1 rb1
theorem zmz (s : zbD) (r : zbC) (h : lpO (zbg n0 gb0_0 gb0_1 rb1) s = some r) : zdm Try.prog M B0 S (.loop zhb) 9 (zmD a0 p0 q0 n0 k0 A0 s0_0 s0_1 s0_2 gb0_0 gb0_1 rb1 s) (zmq a0 p0 q0 n0 k0 A0 s0_0 s0_1 s0_2 gb0_0 gb0_1 rb1 s) (zmw r) 7 (zhg a0 p0 q0 n0 k0 A0 s0_0 s0_1 s0_2 gb0_0 gb0_1 rb1 r) (zeM a0 p0 q0 n0 k0 A0 s0_0 s0_1 s0_2 gb0_0 gb0_1 rb1 r) 9 :=
 zb5 (fun s q e => by
  cases s with
  | c0 sb0_0 sb0_1 sb0_2 sb0_3 =>
   unfold zbg at e
   dsimp only at e
   replace e := za e
   rcases e with ⟨hq0,e⟩ | ⟨hq0,e⟩
   ·replace e := za e
    rcases e with ⟨hq1,e⟩ | ⟨hq1,e⟩
    ·replace e := za e
     let P1 : List (PG Try.prog M B0 S) := [.o,.o,.o,.b (zcR hq0),.o,.o,.o,.q (zH (kd := .i64) (T := 36) (x := sb0_3) (N := (gb0_0 + 1)) (sz := 1) rfl (fun w => by kernel_rfl) hq1),.l (accG (i := 6) (f := cZ) (A := updF gb0_1 gb0_0 rb1) (k := (sb0_3).toNat) 0 [.int .i64 (((updF gb0_1 gb0_0 rb1) (sb0_3).toNat))] zb1 (ze hq1) rfl)]
     rcases e with ⟨hq2,e⟩ | ⟨hq2,e⟩
     ·replace e := za e
      let P2 : List (PG Try.prog M B0 S) := P1 ++ [.q (zH (kd := .i64) (T := 64) (x := ((updF gb0_1 gb0_0 rb1) (sb0_3).toNat)) (N := ((n0 : Int)).toNat) (sz := 1) rfl (fun w => by kernel_rfl) hq2)]
      rcases e with ⟨hq3,e⟩ | ⟨hq3,e⟩
      ·cases e; exact zb hU (P2 ++ [.l (accG (i := 0) (f := cB) (A := sb0_0) (k := (((updF gb0_1 gb0_0 rb1) (sb0_3).toNat)).toNat) 0 [.bool true] zbc (ze hq2) (congrArg (fun b => [Value.bool b]) hq3)),.o,.o,.o,.o]) [0,1,2,3,4,5,6,7] (fun b => rfl) (by decide) rfl rfl (fun b => by kernel_rfl)
      ·replace e := za e
       rcases e with ⟨hq4,e⟩ | ⟨hq4,e⟩
       ·cases e; exact zb hU (P2 ++ [.l (accG (i := 0) (f := cB) (A := sb0_0) (k := (((updF gb0_1 gb0_0 rb1) (sb0_3).toNat)).toNat) 0 [.bool false] zbc (ze hq2) (congrArg (fun b => [Value.bool b]) hq3)),.o,.o,.o,.o,.q (zH (kd := .i64) (T := 36) (x := sb0_3) (N := (gb0_0 + 1)) (sz := 1) rfl (fun w => by kernel_rfl) hq1),.l (accG (i := 6) (f := cZ) (A := updF gb0_1 gb0_0 rb1) (k := (sb0_3).toNat) 0 [.int .i64 (((updF gb0_1 gb0_0 rb1) (sb0_3).toNat))] zb1 (ze hq1) rfl),.q (zH (kd := .i64) (T := 64) (x := ((updF gb0_1 gb0_0 rb1) (sb0_3).toNat)) (N := ((n0 : Int)).toNat) (sz := 1) rfl (fun w => by kernel_rfl) hq2),.x (zd0 (T := 4) (e := 4) (f := cB) (A := sb0_0) (v := true) 0 (.bool true) zbc zla rfl rfl (fun w => by kernel_rfl) (ze hq2)) [0],.o,.o,.o,.q (zH (kd := .i64) (T := 36) (x := sb0_3) (N := (gb0_0 + 1)) (sz := 1) rfl (fun w => by kernel_rfl) hq1),.l (accG (i := 6) (f := cZ) (A := updF gb0_1 gb0_0 rb1) (k := (sb0_3).toNat) 0 [.int .i64 (((updF gb0_1 gb0_0 rb1) (sb0_3).toNat))] zb1 (ze hq1) rfl),.o,.x (zer (ty := 36) rt36 #[false,false] (f := cZ) (N := sb0_1) (A := sb0_2) (c := 1) [((updF gb0_1 gb0_0 rb1) (sb0_3).toNat)] (T' := 3) .row zb1 zme hq4 rfl (by decide)) [7,9],.o,.o,.o,.o]) [0,1,2,3,4,5,6,10] (fun b => rfl) (by decide) rfl rfl (fun b => by kernel_rfl)
       ·exact zd e
     ·exact zd e
    ·exact zd e
   ·cases e; exact ⟨zcn 2,zb hU [.o,.o,.o,.b (zb7 hq0)] [0,1,2,3,4,5,6,7] (fun b => rfl) (by decide) rfl rfl (fun b => by kernel_rfl)⟩) s r h
noncomputable def zgu (a0 : Option Addr) (p0 q0 n0 k0 : Nat) (A0 : Nat → Insn) (s0_0 : Nat → Bool) (s0_1 : Nat) (s0_2 : Nat → Int) (gb0_0 : Nat) (gb0_1 : Nat → Int) (rb1 : Int) (sb0_0 : Nat → Bool) (sb0_1 : Nat) (sb0_2 : Nat → Int) (sb0_3 : Int) (ls : List L1) : List Value := List.append [.slice a0 n0 (n0 + k0),((lget ls 3).u 1),((lget ls 3).u 2),(rowV (lget ls 0) ((n0 : Int)).toNat 1),(rowV (lget ls 7) sb0_1 1),.int .i64 ((s0_2 ((IntKind.i64.wrap ((s0_1 : Int) - 1))).toNat)),(rowV (lget ls 6) (gb0_0 + 1) 1),.int .i64 (sb0_3)] (List.append (jks (lget ls 3).u 8 6) (List.append [(rowV (lget ls 2) s0_1 1),.int .i64 ((s0_1 : Int)),.bool true,(rowV (lget ls 2) s0_1 1),(rowV (lget ls 2) s0_1 1),.int .i64 ((s0_1 : Int)),.int .i64 ((IntKind.i64.wrap ((s0_1 : Int) - 1))),.pointer (some ⟨(lget ls 2).n,0 + ((IntKind.i64.wrap ((s0_1 : Int) - 1))).toNat * 1,none⟩),.int .i64 ((s0_2 ((IntKind.i64.wrap ((s0_1 : Int) - 1))).toNat)),(rowV (lget ls 2) s0_1 1),(rowV (lget ls 2) s0_1 1),.int .i64 ((s0_1 : Int)),.int .i64 ((IntKind.i64.wrap ((s0_1 : Int) - 1))),(rowV (lget ls 7) ((IntKind.i64.wrap ((s0_1 : Int) - 1))).toNat 1),.slice a0 n0 (n0 + k0),.int .i64 ((s0_2 ((IntKind.i64.wrap ((s0_1 : Int) - 1))).toNat)),(rowV (lget ls 4) gb0_0 1),.slice a0 n0 (n0 + k0),.int .i64 ((s0_2 ((IntKind.i64.wrap ((s0_1 : Int) - 1))).toNat)),.pointer (some ⟨p0,q0 + ((s0_2 ((IntKind.i64.wrap ((s0_1 : Int) - 1))).toNat)).toNat * 5,none⟩),.agg #[.int .u8 (nn ((A0 ((s0_2 ((IntKind.i64.wrap ((s0_1 : Int) - 1))).toNat)).toNat)).fOp),.int .u8 (nn ((A0 ((s0_2 ((IntKind.i64.wrap ((s0_1 : Int) - 1))).toNat)).toNat)).fDst),.int .u8 (nn ((A0 ((s0_2 ((IntKind.i64.wrap ((s0_1 : Int) - 1))).toNat)).toNat)).fSrc),.int .i16 (ii ((A0 ((s0_2 ((IntKind.i64.wrap ((s0_1 : Int) - 1))).toNat)).toNat)).fOff),.int .i32 (ii ((A0 ((s0_2 ((IntKind.i64.wrap ((s0_1 : Int) - 1))).toNat)).toNat)).fImm)],.bool true,(rowV (lget ls 4) gb0_0 1),.slice a0 n0 (n0 + k0),.int .i64 ((s0_2 ((IntKind.i64.wrap ((s0_1 : Int) - 1))).toNat)),.slice a0 n0 (n0 + k0),.int .i64 ((s0_2 ((IntKind.i64.wrap ((s0_1 : Int) - 1))).toNat)),.pointer (some ⟨p0,q0 + ((s0_2 ((IntKind.i64.wrap ((s0_1 : Int) - 1))).toNat)).toNat * 5,none⟩),.pointer (some ⟨p0,q0 + ((s0_2 ((IntKind.i64.wrap ((s0_1 : Int) - 1))).toNat)).toNat * 5 + 4,none⟩),.int .i32 (ii ((A0 ((s0_2 ((IntKind.i64.wrap ((s0_1 : Int) - 1))).toNat)).toNat)).fImm),.int .i64 ((ii ((A0 ((s0_2 ((IntKind.i64.wrap ((s0_1 : Int) - 1))).toNat)).toNat)).fImm)),.int .i64 (rb1),.slice (some ⟨(lget ls 5).n,0,none⟩) 1 1,(rowV (lget ls 6) (gb0_0 + 1) 1)] (jks (lget ls 3).u 48 28)))
def zfZ (a0 : Option Addr) (p0 q0 n0 k0 : Nat) (A0 : Nat → Insn) (s0_0 : Nat → Bool) (s0_1 : Nat) (s0_2 : Nat → Int) (gb0_0 : Nat) (gb0_1 : Nat → Int) (rb1 : Int) (sb0_0 : Nat → Bool) (sb0_1 : Nat) (sb0_2 : Nat → Int) (sb0_3 : Int) (ls : List L1) : List Obj := [rowO (lget ls 0) (esG cB ((n0 : Int)).toNat sb0_0) 4 ((n0 : Int)).toNat 1,unb,unb,unb,unb,.cells #[.int .i64 (rb1)] 3,rowO (lget ls 6) (esG cZ (gb0_0 + 1) (updF gb0_1 gb0_0 rb1)) 3 (gb0_0 + 1) 1,rowO (lget ls 7) (esG cZ sb0_1 sb0_2) 3 sb0_1 1]
theorem zi3 (sb0_0 : Nat → Bool) (sb0_1 : Nat) (sb0_2 : Nat → Int) (sb0_3 : Int) (c0_0 : Nat → Bool) (c0_1 : Nat → Int) (c0_2 : Nat) (c0_3 : Nat → Int) (h : lpO (zbg n0 gb0_0 gb0_1 rb1) (.c0 sb0_0 sb0_1 sb0_2 sb0_3) = some (.e0 c0_0 c0_1 c0_2 c0_3)) : SpcG Try.prog M B0 S ⟨fun ls => .code (.loop zhb) (zgu a0 p0 q0 n0 k0 A0 s0_0 s0_1 s0_2 gb0_0 gb0_1 rb1 sb0_0 sb0_1 sb0_2 sb0_3 ls),zfZ a0 p0 q0 n0 k0 A0 s0_0 s0_1 s0_2 gb0_0 gb0_1 rb1 sb0_0 sb0_1 sb0_2 sb0_3,2,(.exit 2),fun ls => zhg a0 p0 q0 n0 k0 A0 s0_0 s0_1 s0_2 gb0_0 gb0_1 rb1 (.e0 c0_0 c0_1 c0_2 c0_3) (ls.take 7 ++ ls.drop 8),fun ls => (zeM a0 p0 q0 n0 k0 A0 s0_0 s0_1 s0_2 gb0_0 gb0_1 rb1 (.e0 c0_0 c0_1 c0_2 c0_3) (ls.take 7 ++ ls.drop 8)).take 7 ++ List.replicate 1 unb,fun ls => (zeM a0 p0 q0 n0 k0 A0 s0_0 s0_1 s0_2 gb0_0 gb0_1 rb1 (.e0 c0_0 c0_1 c0_2 c0_3) (ls.take 7 ++ ls.drop 8)).drop 7⟩ :=
 zr hU 0 (k0 := 8) (zmz hU a0 p0 q0 n0 k0 A0 hR0 s0_0 s0_1 s0_2 gb0_0 gb0_1 rb1 _ _ h) (zgu a0 p0 q0 n0 k0 A0 s0_0 s0_1 s0_2 gb0_0 gb0_1 rb1 sb0_0 sb0_1 sb0_2 sb0_3) (zfZ a0 p0 q0 n0 k0 A0 s0_0 s0_1 s0_2 gb0_0 gb0_1 rb1 sb0_0 sb0_1 sb0_2 sb0_3) (fun _ => rfl) (fun ls h => by match ls,h with | [l0,l1,l2,l3,l4,l5,l6,l7],_ => exact ⟨by kernel_rfl,by kernel_rfl⟩) (fun ls h => by match ls,h with | [l0,l1,l2,l3,l4,l5,l6,l7],_ => rfl) (by decide) (by decide) (fun ls => rfl)
inductive zbE where
 | c0 (sb0_0 : Nat → Bool) (sb0_1 : Nat) (sb0_2 : Nat → Int) (sb0_3 : Int)
inductive zbB where
 | e0 (c0_0 : Nat → Bool) (c0_1 : Nat) (c0_2 : Nat → Int)
noncomputable def zbf (n0 gb0_0 : Nat) (gb0_1 : Nat → Int) : zbE → Option (zbE ⊕ zbB)
 | .c0 sb0_0 sb0_1 sb0_2 sb0_3 =>
 bif decide (sb0_3 < (gb0_0 : Int)) then
 (bif inR sb0_3 gb0_0 then
 (bif inR (gb0_1 (sb0_3).toNat) ((n0 : Int)).toNat then
 (bif (sb0_0 ((gb0_1 (sb0_3).toNat)).toNat) then
 (some (.inl (.c0 sb0_0 sb0_1 sb0_2 (IntKind.i64.wrap (sb0_3 + 1)))))
 else (bif decide (sb0_1 ≤ 1000000) then
 (some (.inl (.c0 (updF sb0_0 ((gb0_1 (sb0_3).toNat)).toNat true) (sb0_1 + 1) (updF sb0_2 sb0_1 (gb0_1 (sb0_3).toNat)) (IntKind.i64.wrap (sb0_3 + 1)))))
 else (none)))
 else (none))
 else (none))
 else (some (.inr (.e0 sb0_0 sb0_1 sb0_2)))
noncomputable def zho : Code := zb6 Try.f36 [1,1,1,1,0,0,0,1,0,1,1,1,1,1,0,0]
def zmr (a0 : Option Addr) (p0 q0 n0 k0 : Nat) (A0 : Nat → Insn) (s0_0 : Nat → Bool) (s0_1 : Nat) (s0_2 : Nat → Int) (gb0_0 : Nat) (gb0_1 : Nat → Int) : zbE → List L1 → List Value
 | .c0 sb0_0 sb0_1 sb0_2 sb0_3,ls => [.slice a0 n0 (n0 + k0),(rowV (lget ls 0) ((n0 : Int)).toNat 1),(rowV (lget ls 5) sb0_1 1),(rowV (lget ls 4) gb0_0 1),.int .i64 (sb0_3)]
def zmx : zbE → List (Nat × Nat)
 | .c0 _ _ _ _ => [(1,2),(2,1),(2,68)]
noncomputable def zmC (a0 : Option Addr) (p0 q0 n0 k0 : Nat) (A0 : Nat → Insn) (s0_0 : Nat → Bool) (s0_1 : Nat) (s0_2 : Nat → Int) (gb0_0 : Nat) (gb0_1 : Nat → Int) (s : zbE) : List L1 → List Value := mrgF (zmx s) (zmr a0 p0 q0 n0 k0 A0 s0_0 s0_1 s0_2 gb0_0 gb0_1 s) 6
def zmI (a0 : Option Addr) (p0 q0 n0 k0 : Nat) (A0 : Nat → Insn) (s0_0 : Nat → Bool) (s0_1 : Nat) (s0_2 : Nat → Int) (gb0_0 : Nat) (gb0_1 : Nat → Int) : zbE → List L1 → List Obj
 | .c0 sb0_0 sb0_1 sb0_2 sb0_3,ls => [rowO (lget ls 0) (esG cB ((n0 : Int)).toNat sb0_0) 4 ((n0 : Int)).toNat 1,unb,unb,unb,rowO (lget ls 4) (esG cZ gb0_0 gb0_1) 3 gb0_0 1,rowO (lget ls 5) (esG cZ sb0_1 sb0_2) 3 sb0_1 1,unb]
def zmF (a0 : Option Addr) (p0 q0 n0 k0 : Nat) (A0 : Nat → Insn) (s0_0 : Nat → Bool) (s0_1 : Nat) (s0_2 : Nat → Int) (gb0_0 : Nat) (gb0_1 : Nat → Int) : zbB → List L1 → List Value
 | .e0 c0_0 c0_1 c0_2,ls => [.slice a0 n0 (n0 + k0),(rowV (lget ls 0) ((n0 : Int)).toNat 1),(rowV (lget ls 5) c0_1 1),(rowV (lget ls 4) gb0_0 1)]
def zmB : zbB → List (Nat × Nat)
 | .e0 _ _ _ => [(1,2),(2,1),(1,69)]
noncomputable def zhi (a0 : Option Addr) (p0 q0 n0 k0 : Nat) (A0 : Nat → Insn) (s0_0 : Nat → Bool) (s0_1 : Nat) (s0_2 : Nat → Int) (gb0_0 : Nat) (gb0_1 : Nat → Int) (r : zbB) : List L1 → List Value := mrgF (zmB r) (zmF a0 p0 q0 n0 k0 A0 s0_0 s0_1 s0_2 gb0_0 gb0_1 r) 6
def zeL (a0 : Option Addr) (p0 q0 n0 k0 : Nat) (A0 : Nat → Insn) (s0_0 : Nat → Bool) (s0_1 : Nat) (s0_2 : Nat → Int) (gb0_0 : Nat) (gb0_1 : Nat → Int) : zbB → List L1 → List Obj
 | .e0 c0_0 c0_1 c0_2,ls => [rowO (lget ls 0) (esG cB ((n0 : Int)).toNat c0_0) 4 ((n0 : Int)).toNat 1,unb,unb,unb,rowO (lget ls 4) (esG cZ gb0_0 gb0_1) 3 gb0_0 1,rowO (lget ls 5) (esG cZ c0_1 c0_2) 3 c0_1 1,unb]
def zmM : zbB → Ex
 | .e0 _ _ _ => (.exit 2)
end
section
variable {M : Nat → Prop} {B0 : Nat} {S : World → Prop} (hU : Up M B0 S) (a0 : Option Addr) (p0 q0 n0 k0 : Nat) (A0 : Nat → Insn) (hR0 : Ro S zd9 5 a0 p0 q0 n0 A0) (s0_0 : Nat → Bool) (s0_1 : Nat) (s0_2 : Nat → Int) (gb0_0 : Nat) (gb0_1 : Nat → Int)
include hU a0 p0 q0 n0 k0 A0 hR0 s0_0 s0_1 s0_2 gb0_0 gb0_1
theorem zmK (s : zbE) (r : zbB) (h : lpO (zbf n0 gb0_0 gb0_1) s = some r) : zdm Try.prog M B0 S (.loop zho) 7 (zmC a0 p0 q0 n0 k0 A0 s0_0 s0_1 s0_2 gb0_0 gb0_1 s) (zmI a0 p0 q0 n0 k0 A0 s0_0 s0_1 s0_2 gb0_0 gb0_1 s) (zmM r) 5 (zhi a0 p0 q0 n0 k0 A0 s0_0 s0_1 s0_2 gb0_0 gb0_1 r) (zeL a0 p0 q0 n0 k0 A0 s0_0 s0_1 s0_2 gb0_0 gb0_1 r) 7 :=
 zb5 (fun s q e => by
  cases s with
  | c0 sb0_0 sb0_1 sb0_2 sb0_3 =>
   unfold zbf at e
   dsimp only at e
   replace e := za e
   rcases e with ⟨hq0,e⟩ | ⟨hq0,e⟩
   ·replace e := za e
    rcases e with ⟨hq1,e⟩ | ⟨hq1,e⟩
    ·replace e := za e
     let P1 : List (PG Try.prog M B0 S) := [.o,.o,.o,.b (zcR hq0),.o,.o,.o,.q (zH (kd := .i64) (T := 36) (x := sb0_3) (N := gb0_0) (sz := 1) rfl (fun w => by kernel_rfl) hq1),.l (accG (i := 4) (f := cZ) (A := gb0_1) (k := (sb0_3).toNat) 0 [.int .i64 ((gb0_1 (sb0_3).toNat))] zb1 (ze hq1) rfl)]
     rcases e with ⟨hq2,e⟩ | ⟨hq2,e⟩
     ·replace e := za e
      let P2 : List (PG Try.prog M B0 S) := P1 ++ [.q (zH (kd := .i64) (T := 64) (x := (gb0_1 (sb0_3).toNat)) (N := ((n0 : Int)).toNat) (sz := 1) rfl (fun w => by kernel_rfl) hq2)]
      rcases e with ⟨hq3,e⟩ | ⟨hq3,e⟩
      ·cases e; exact zb hU (P2 ++ [.l (accG (i := 0) (f := cB) (A := sb0_0) (k := ((gb0_1 (sb0_3).toNat)).toNat) 0 [.bool true] zbc (ze hq2) (congrArg (fun b => [Value.bool b]) hq3)),.o,.o,.o,.o]) [0,1,2,3,4,5] (fun b => rfl) (by decide) rfl rfl (fun b => by kernel_rfl)
      ·replace e := za e
       rcases e with ⟨hq4,e⟩ | ⟨hq4,e⟩
       ·cases e; exact zb hU (P2 ++ [.l (accG (i := 0) (f := cB) (A := sb0_0) (k := ((gb0_1 (sb0_3).toNat)).toNat) 0 [.bool false] zbc (ze hq2) (congrArg (fun b => [Value.bool b]) hq3)),.o,.o,.o,.o,.q (zH (kd := .i64) (T := 36) (x := sb0_3) (N := gb0_0) (sz := 1) rfl (fun w => by kernel_rfl) hq1),.l (accG (i := 4) (f := cZ) (A := gb0_1) (k := (sb0_3).toNat) 0 [.int .i64 ((gb0_1 (sb0_3).toNat))] zb1 (ze hq1) rfl),.q (zH (kd := .i64) (T := 64) (x := (gb0_1 (sb0_3).toNat)) (N := ((n0 : Int)).toNat) (sz := 1) rfl (fun w => by kernel_rfl) hq2),.x (zd0 (T := 4) (e := 4) (f := cB) (A := sb0_0) (v := true) 0 (.bool true) zbc zla rfl rfl (fun w => by kernel_rfl) (ze hq2)) [0],.o,.o,.o,.q (zH (kd := .i64) (T := 36) (x := sb0_3) (N := gb0_0) (sz := 1) rfl (fun w => by kernel_rfl) hq1),.l (accG (i := 4) (f := cZ) (A := gb0_1) (k := (sb0_3).toNat) 0 [.int .i64 ((gb0_1 (sb0_3).toNat))] zb1 (ze hq1) rfl),.o,.x (zer (ty := 36) rt36 #[false,false] (f := cZ) (N := sb0_1) (A := sb0_2) (c := 1) [(gb0_1 (sb0_3).toNat)] (T' := 3) .row zb1 zme hq4 rfl (by decide)) [5,7],.o,.o,.o,.o]) [0,1,2,3,4,8] (fun b => rfl) (by decide) rfl rfl (fun b => by kernel_rfl)
       ·exact zd e
     ·exact zd e
    ·exact zd e
   ·cases e; exact ⟨zcn 2,zb hU [.o,.o,.o,.b (zb7 hq0)] [0,1,2,3,4,5] (fun b => rfl) (by decide) rfl rfl (fun b => by kernel_rfl)⟩) s r h
noncomputable def zf9 (a0 : Option Addr) (p0 q0 n0 k0 : Nat) (A0 : Nat → Insn) (s0_0 : Nat → Bool) (s0_1 : Nat) (s0_2 : Nat → Int) (gb0_0 : Nat) (gb0_1 : Nat → Int) (sb0_0 : Nat → Bool) (sb0_1 : Nat) (sb0_2 : Nat → Int) (sb0_3 : Int) (ls : List L1) : List Value := List.append [.slice a0 n0 (n0 + k0),((lget ls 3).u 1),((lget ls 3).u 2),(rowV (lget ls 0) ((n0 : Int)).toNat 1),(rowV (lget ls 5) sb0_1 1),.int .i64 ((s0_2 ((IntKind.i64.wrap ((s0_1 : Int) - 1))).toNat)),(rowV (lget ls 4) gb0_0 1),.int .i64 (sb0_3)] (List.append (jks (lget ls 3).u 8 6) (List.append [(rowV (lget ls 2) s0_1 1),.int .i64 ((s0_1 : Int)),.bool true,(rowV (lget ls 2) s0_1 1),(rowV (lget ls 2) s0_1 1),.int .i64 ((s0_1 : Int)),.int .i64 ((IntKind.i64.wrap ((s0_1 : Int) - 1))),.pointer (some ⟨(lget ls 2).n,0 + ((IntKind.i64.wrap ((s0_1 : Int) - 1))).toNat * 1,none⟩),.int .i64 ((s0_2 ((IntKind.i64.wrap ((s0_1 : Int) - 1))).toNat)),(rowV (lget ls 2) s0_1 1),(rowV (lget ls 2) s0_1 1),.int .i64 ((s0_1 : Int)),.int .i64 ((IntKind.i64.wrap ((s0_1 : Int) - 1))),(rowV (lget ls 5) ((IntKind.i64.wrap ((s0_1 : Int) - 1))).toNat 1),.slice a0 n0 (n0 + k0),.int .i64 ((s0_2 ((IntKind.i64.wrap ((s0_1 : Int) - 1))).toNat)),(rowV (lget ls 4) gb0_0 1),.slice a0 n0 (n0 + k0),.int .i64 ((s0_2 ((IntKind.i64.wrap ((s0_1 : Int) - 1))).toNat)),.pointer (some ⟨p0,q0 + ((s0_2 ((IntKind.i64.wrap ((s0_1 : Int) - 1))).toNat)).toNat * 5,none⟩),.agg #[.int .u8 (nn ((A0 ((s0_2 ((IntKind.i64.wrap ((s0_1 : Int) - 1))).toNat)).toNat)).fOp),.int .u8 (nn ((A0 ((s0_2 ((IntKind.i64.wrap ((s0_1 : Int) - 1))).toNat)).toNat)).fDst),.int .u8 (nn ((A0 ((s0_2 ((IntKind.i64.wrap ((s0_1 : Int) - 1))).toNat)).toNat)).fSrc),.int .i16 (ii ((A0 ((s0_2 ((IntKind.i64.wrap ((s0_1 : Int) - 1))).toNat)).toNat)).fOff),.int .i32 (ii ((A0 ((s0_2 ((IntKind.i64.wrap ((s0_1 : Int) - 1))).toNat)).toNat)).fImm)],.bool false] (jks (lget ls 3).u 36 40)))
def zfP (a0 : Option Addr) (p0 q0 n0 k0 : Nat) (A0 : Nat → Insn) (s0_0 : Nat → Bool) (s0_1 : Nat) (s0_2 : Nat → Int) (gb0_0 : Nat) (gb0_1 : Nat → Int) (sb0_0 : Nat → Bool) (sb0_1 : Nat) (sb0_2 : Nat → Int) (sb0_3 : Int) (ls : List L1) : List Obj := [rowO (lget ls 0) (esG cB ((n0 : Int)).toNat sb0_0) 4 ((n0 : Int)).toNat 1,unb,unb,unb,rowO (lget ls 4) (esG cZ gb0_0 gb0_1) 3 gb0_0 1,rowO (lget ls 5) (esG cZ sb0_1 sb0_2) 3 sb0_1 1]
theorem zi1 (sb0_0 : Nat → Bool) (sb0_1 : Nat) (sb0_2 : Nat → Int) (sb0_3 : Int) (c0_0 : Nat → Bool) (c0_1 : Nat) (c0_2 : Nat → Int) (h : lpO (zbf n0 gb0_0 gb0_1) (.c0 sb0_0 sb0_1 sb0_2 sb0_3) = some (.e0 c0_0 c0_1 c0_2)) : SpcG Try.prog M B0 S ⟨fun ls => .code (.loop zho) (zf9 a0 p0 q0 n0 k0 A0 s0_0 s0_1 s0_2 gb0_0 gb0_1 sb0_0 sb0_1 sb0_2 sb0_3 ls),zfP a0 p0 q0 n0 k0 A0 s0_0 s0_1 s0_2 gb0_0 gb0_1 sb0_0 sb0_1 sb0_2 sb0_3,2,(.exit 2),fun ls => zhi a0 p0 q0 n0 k0 A0 s0_0 s0_1 s0_2 gb0_0 gb0_1 (.e0 c0_0 c0_1 c0_2) (ls.take 5 ++ ls.drop 6),fun ls => (zeL a0 p0 q0 n0 k0 A0 s0_0 s0_1 s0_2 gb0_0 gb0_1 (.e0 c0_0 c0_1 c0_2) (ls.take 5 ++ ls.drop 6)).take 5 ++ List.replicate 1 unb,fun ls => (zeL a0 p0 q0 n0 k0 A0 s0_0 s0_1 s0_2 gb0_0 gb0_1 (.e0 c0_0 c0_1 c0_2) (ls.take 5 ++ ls.drop 6)).drop 5⟩ :=
 zr hU 0 (k0 := 6) (zmK hU a0 p0 q0 n0 k0 A0 hR0 s0_0 s0_1 s0_2 gb0_0 gb0_1 _ _ h) (zf9 a0 p0 q0 n0 k0 A0 s0_0 s0_1 s0_2 gb0_0 gb0_1 sb0_0 sb0_1 sb0_2 sb0_3) (zfP a0 p0 q0 n0 k0 A0 s0_0 s0_1 s0_2 gb0_0 gb0_1 sb0_0 sb0_1 sb0_2 sb0_3) (fun _ => rfl) (fun ls h => by match ls,h with | [l0,l1,l2,l3,l4,l5],_ => exact ⟨by kernel_rfl,by kernel_rfl⟩) (fun ls h => by match ls,h with | [l0,l1,l2,l3,l4,l5],_ => rfl) (by decide) (by decide) (fun ls => rfl)
inductive zcW where
 | c0 (s0_0 : Nat → Bool) (s0_1 : Nat) (s0_2 : Nat → Int)
inductive zcV where
 | e0 (c0_0 : Nat → Bool)
noncomputable def zbO (n0 : Nat) (A0 : Nat → Insn) : zcW → Option (zcW ⊕ zcV)
 | .c0 s0_0 s0_1 s0_2 =>
 bif decide (0 < (s0_1 : Int)) then
 (bif inR (IntKind.i64.wrap ((s0_1 : Int) - 1)) s0_1 then
 (bif inR (IntKind.i64.wrap ((s0_1 : Int) - 1)) (s0_1 + 1) then
 (bif decide (s0_1 ≤ 1000000) then
 ((zbQ n0 A0 (s0_2 ((IntKind.i64.wrap ((s0_1 : Int) - 1))).toNat)).bind fun gb0 => match gb0 with
 | .e0  => (bif inR (s0_2 ((IntKind.i64.wrap ((s0_1 : Int) - 1))).toNat) n0 then
 (bif zca ((A0 ((s0_2 ((IntKind.i64.wrap ((s0_1 : Int) - 1))).toNat)).toNat)) then
 (zv (zbm n0 A0 (s0_2 ((IntKind.i64.wrap ((s0_1 : Int) - 1))).toNat) (ii ((A0 ((s0_2 ((IntKind.i64.wrap ((s0_1 : Int) - 1))).toNat)).toNat)).fImm)) fun rb1 =>
 (lpO (zbl n0 rb1) (.c0 s0_0 ((IntKind.i64.wrap ((s0_1 : Int) - 1))).toNat s0_2 0)).bind fun gb2 => match gb2 with
 | .e0 gb2_0 gb2_1 gb2_2 gb2_3 =>
 some (.inl (.c0 gb2_0 gb2_2 gb2_3)))
 else (some (.inl (.c0 s0_0 ((IntKind.i64.wrap ((s0_1 : Int) - 1))).toNat s0_2))))
 else (none))
 | .e1 gb0_0 gb0_1 => (bif inR (s0_2 ((IntKind.i64.wrap ((s0_1 : Int) - 1))).toNat) n0 then
 (bif zca ((A0 ((s0_2 ((IntKind.i64.wrap ((s0_1 : Int) - 1))).toNat)).toNat)) then
 (zv (zbm n0 A0 (s0_2 ((IntKind.i64.wrap ((s0_1 : Int) - 1))).toNat) (ii ((A0 ((s0_2 ((IntKind.i64.wrap ((s0_1 : Int) - 1))).toNat)).toNat)).fImm)) fun rb1 =>
 bif decide (gb0_0 ≤ 1000000) then
 ((lpO (zbg n0 gb0_0 gb0_1 rb1) (.c0 s0_0 ((IntKind.i64.wrap ((s0_1 : Int) - 1))).toNat s0_2 0)).bind fun gb2 => match gb2 with
 | .e0 gb2_0 gb2_1 gb2_2 gb2_3 =>
 some (.inl (.c0 gb2_0 gb2_2 gb2_3)))
 else (none))
 else ((lpO (zbf n0 gb0_0 gb0_1) (.c0 s0_0 ((IntKind.i64.wrap ((s0_1 : Int) - 1))).toNat s0_2 0)).bind fun gb1 => match gb1 with
 | .e0 gb1_0 gb1_1 gb1_2 =>
 some (.inl (.c0 gb1_0 gb1_1 gb1_2))))
 else (none)))
 else (none))
 else (none))
 else (none))
 else (some (.inr (.e0 s0_0)))
noncomputable def zjR : Code := zb6 Try.f36 [1,1,1,1,0,0,0]
def zrR (a0 : Option Addr) (p0 q0 n0 k0 : Nat) (A0 : Nat → Insn) : zcW → List L1 → List Value
 | .c0 s0_0 s0_1 s0_2,ls => [.slice a0 n0 (n0 + k0),(rowV (lget ls 0) ((n0 : Int)).toNat 1),(rowV (lget ls 2) s0_1 1)]
def zrl : zcW → List (Nat × Nat)
 | .c0 _ _ _ => [(1,2),(2,71)]
noncomputable def zrk (a0 : Option Addr) (p0 q0 n0 k0 : Nat) (A0 : Nat → Insn) (s : zcW) : List L1 → List Value := mrgF (zrl s) (zrR a0 p0 q0 n0 k0 A0 s) 3
def zrB (a0 : Option Addr) (p0 q0 n0 k0 : Nat) (A0 : Nat → Insn) : zcW → List L1 → List Obj
 | .c0 s0_0 s0_1 s0_2,ls => [rowO (lget ls 0) (esG cB ((n0 : Int)).toNat s0_0) 4 ((n0 : Int)).toNat 1,unb,rowO (lget ls 2) (esG cZ s0_1 s0_2) 3 s0_1 1,unb]
def zq4 (a0 : Option Addr) (p0 q0 n0 k0 : Nat) (A0 : Nat → Insn) : zcV → List L1 → List Value
 | .e0 c0_0,ls => [.slice a0 n0 (n0 + k0),(rowV (lget ls 0) ((n0 : Int)).toNat 1)]
def zrz : zcV → List (Nat × Nat)
 | .e0 _ => [(1,2),(1,72)]
noncomputable def zjJ (a0 : Option Addr) (p0 q0 n0 k0 : Nat) (A0 : Nat → Insn) (r : zcV) : List L1 → List Value := mrgF (zrz r) (zq4 a0 p0 q0 n0 k0 A0 r) 3
def zg6 (a0 : Option Addr) (p0 q0 n0 k0 : Nat) (A0 : Nat → Insn) : zcV → List L1 → List Obj
 | .e0 c0_0,ls => [rowO (lget ls 0) (esG cB ((n0 : Int)).toNat c0_0) 4 ((n0 : Int)).toNat 1,unb,unb,unb]
def zrS : zcV → Ex
 | .e0 _ => (.exit 0)
end
section
variable {M : Nat → Prop} {B0 : Nat} {S : World → Prop} (hU : Up M B0 S) (a0 : Option Addr) (p0 q0 n0 k0 : Nat) (A0 : Nat → Insn) (hR0 : Ro S zd9 5 a0 p0 q0 n0 A0)
include hU a0 p0 q0 n0 k0 A0 hR0
theorem zr3 (s : zcW) (r : zcV) (h : lpO (zbO n0 A0) s = some r) : zdm Try.prog M B0 S (.loop zjR) 4 (zrk a0 p0 q0 n0 k0 A0 s) (zrB a0 p0 q0 n0 k0 A0 s) (zrS r) 2 (zjJ a0 p0 q0 n0 k0 A0 r) (zg6 a0 p0 q0 n0 k0 A0 r) 4 :=
 zb5 (fun s q e => by
  cases s with
  | c0 s0_0 s0_1 s0_2 =>
   unfold zbO at e
   dsimp only at e
   replace e := za e
   rcases e with ⟨hq0,e⟩ | ⟨hq0,e⟩
   ·replace e := za e
    let P1 : List (PG Try.prog M B0 S) := [.o,.o,.b (zid hq0),.o,.o,.o,.o]
    rcases e with ⟨hq1,e⟩ | ⟨hq1,e⟩
    ·replace e := za e
     let P2 : List (PG Try.prog M B0 S) := P1 ++ [.q (zH (kd := .i64) (T := 36) (x := (IntKind.i64.wrap ((s0_1 : Int) - 1))) (N := s0_1) (sz := 1) rfl (fun w => by kernel_rfl) hq1),.l (accG (i := 2) (f := cZ) (A := s0_2) (k := ((IntKind.i64.wrap ((s0_1 : Int) - 1))).toNat) 0 [.int .i64 ((s0_2 ((IntKind.i64.wrap ((s0_1 : Int) - 1))).toNat))] zb1 (ze hq1) rfl),.o,.o,.o,.o,.o]
     rcases e with ⟨hq2,e⟩ | ⟨hq2,e⟩
     ·replace e := za e
      rcases e with ⟨hq3,e⟩ | ⟨hq3,e⟩
      ·replace e := zf e
       obtain ⟨gb0,e_gb0,e⟩ := e
       let P3 : List (PG Try.prog M B0 S) := P2 ++ [.x (zz1 rt36 (f := cZ) (N := s0_1) (A := s0_2) (x := (IntKind.i64.wrap ((s0_1 : Int) - 1))) zb1 (fun w => by kernel_rfl) hq2 hq3) [2],.o,.o,.o]
       rcases gb0 with _ | ⟨gb0_0,gb0_1⟩
       ·try dsimp only at e
        replace e := za e
        let P4 : List (PG Try.prog M B0 S) := P3 ++ [.xg (zj2 hU a0 p0 q0 n0 k0 A0 hR0 (s0_2 ((IntKind.i64.wrap ((s0_1 : Int) - 1))).toNat)  e_gb0) [],.o,.o,.o]
        rcases e with ⟨hq4,e⟩ | ⟨hq4,e⟩
        ·replace e := za e
         let P5 : List (PG Try.prog M B0 S) := P4 ++ [.q (zA (kd := .i64) (T := 22) (x := (s0_2 ((IntKind.i64.wrap ((s0_1 : Int) - 1))).toNat)) (sz := 5) rfl (fun w => by kernel_rfl) hR0 hq4),.l (zcm hR0 zj (ze hq4) 0 [.int .u8 (nn ((A0 ((s0_2 ((IntKind.i64.wrap ((s0_1 : Int) - 1))).toNat)).toNat)).fOp),.int .u8 (nn ((A0 ((s0_2 ((IntKind.i64.wrap ((s0_1 : Int) - 1))).toNat)).toNat)).fDst),.int .u8 (nn ((A0 ((s0_2 ((IntKind.i64.wrap ((s0_1 : Int) - 1))).toNat)).toNat)).fSrc),.int .i16 (ii ((A0 ((s0_2 ((IntKind.i64.wrap ((s0_1 : Int) - 1))).toNat)).toNat)).fOff),.int .i32 (ii ((A0 ((s0_2 ((IntKind.i64.wrap ((s0_1 : Int) - 1))).toNat)).toNat)).fImm)] rfl)]
         rcases e with ⟨hq5,e⟩ | ⟨hq5,e⟩
         ·replace e := zg e
          obtain ⟨rb1,e_rb1,e⟩ := e
          try dsimp only at e
          replace e := zf e
          obtain ⟨gb2,e_gb2,e⟩ := e
          obtain ⟨gb2_0,gb2_1,gb2_2,gb2_3⟩ := gb2
          try dsimp only at e
          cases e; exact zb hU (P5 ++ [.cg (zbF hU ((A0 ((s0_2 ((IntKind.i64.wrap ((s0_1 : Int) - 1))).toNat)).toNat)) true hq5),.o,.o,.o,.o,.o,.q (zA (kd := .i64) (T := 22) (x := (s0_2 ((IntKind.i64.wrap ((s0_1 : Int) - 1))).toNat)) (sz := 5) rfl (fun w => by kernel_rfl) hR0 hq4),.o,.l (zcm hR0 zj (ze hq4) 4 [.int .i32 (ii ((A0 ((s0_2 ((IntKind.i64.wrap ((s0_1 : Int) - 1))).toNat)).toNat)).fImm)] rfl),.v .i64 (zdW (by decide) ((A0 ((s0_2 ((IntKind.i64.wrap ((s0_1 : Int) - 1))).toNat)).toNat)).fImm),.cg (zdI hU a0 p0 q0 n0 k0 A0 hR0 (s0_2 ((IntKind.i64.wrap ((s0_1 : Int) - 1))).toNat) (ii ((A0 ((s0_2 ((IntKind.i64.wrap ((s0_1 : Int) - 1))).toNat)).toNat)).fImm) rb1 e_rb1),.o,.x (zet (ty := 36) rt36 #[false,false] (f := cZ) (c := 1) rb1 (T' := 3) zb1 zme (by decide)) [5],.o,.o,.cp,.cx (zi7 hU a0 p0 q0 n0 k0 A0 hR0 s0_0 s0_1 s0_2 rb1 s0_0 ((IntKind.i64.wrap ((s0_1 : Int) - 1))).toNat s0_2 0 gb2_0 gb2_1 gb2_2 gb2_3 e_gb2) [0,1,2,3,5,6,4]]) [0,1,7] (fun b => rfl) (by decide) rfl rfl (fun b => by kernel_rfl)
         ·cases e; exact zb hU (P5 ++ [.cg (zbF hU ((A0 ((s0_2 ((IntKind.i64.wrap ((s0_1 : Int) - 1))).toNat)).toNat)) false hq5),.o,.o,.o,.o,.o]) [0,1,4] (fun b => rfl) (by decide) rfl rfl (fun b => by kernel_rfl)
        ·exact zd e
       ·try dsimp only at e
        replace e := za e
        let P6 : List (PG Try.prog M B0 S) := P3 ++ [.xg (zjS hU a0 p0 q0 n0 k0 A0 hR0 (s0_2 ((IntKind.i64.wrap ((s0_1 : Int) - 1))).toNat) gb0_0 gb0_1 e_gb0) [],.o,.o,.o]
        rcases e with ⟨hq4,e⟩ | ⟨hq4,e⟩
        ·replace e := za e
         let P7 : List (PG Try.prog M B0 S) := P6 ++ [.q (zA (kd := .i64) (T := 22) (x := (s0_2 ((IntKind.i64.wrap ((s0_1 : Int) - 1))).toNat)) (sz := 5) rfl (fun w => by kernel_rfl) hR0 hq4),.l (zcm hR0 zj (ze hq4) 0 [.int .u8 (nn ((A0 ((s0_2 ((IntKind.i64.wrap ((s0_1 : Int) - 1))).toNat)).toNat)).fOp),.int .u8 (nn ((A0 ((s0_2 ((IntKind.i64.wrap ((s0_1 : Int) - 1))).toNat)).toNat)).fDst),.int .u8 (nn ((A0 ((s0_2 ((IntKind.i64.wrap ((s0_1 : Int) - 1))).toNat)).toNat)).fSrc),.int .i16 (ii ((A0 ((s0_2 ((IntKind.i64.wrap ((s0_1 : Int) - 1))).toNat)).toNat)).fOff),.int .i32 (ii ((A0 ((s0_2 ((IntKind.i64.wrap ((s0_1 : Int) - 1))).toNat)).toNat)).fImm)] rfl)]
         rcases e with ⟨hq5,e⟩ | ⟨hq5,e⟩
         ·replace e := zg e
          obtain ⟨rb1,e_rb1,e⟩ := e
          try dsimp only at e
          replace e := za e
          rcases e with ⟨hq6,e⟩ | ⟨hq6,e⟩
          ·replace e := zf e
           obtain ⟨gb2,e_gb2,e⟩ := e
           obtain ⟨gb2_0,gb2_1,gb2_2,gb2_3⟩ := gb2
           try dsimp only at e
           cases e; exact zb hU (P7 ++ [.cg (zbF hU ((A0 ((s0_2 ((IntKind.i64.wrap ((s0_1 : Int) - 1))).toNat)).toNat)) true hq5),.o,.o,.o,.o,.o,.q (zA (kd := .i64) (T := 22) (x := (s0_2 ((IntKind.i64.wrap ((s0_1 : Int) - 1))).toNat)) (sz := 5) rfl (fun w => by kernel_rfl) hR0 hq4),.o,.l (zcm hR0 zj (ze hq4) 4 [.int .i32 (ii ((A0 ((s0_2 ((IntKind.i64.wrap ((s0_1 : Int) - 1))).toNat)).toNat)).fImm)] rfl),.v .i64 (zdW (by decide) ((A0 ((s0_2 ((IntKind.i64.wrap ((s0_1 : Int) - 1))).toNat)).toNat)).fImm),.cg (zdI hU a0 p0 q0 n0 k0 A0 hR0 (s0_2 ((IntKind.i64.wrap ((s0_1 : Int) - 1))).toNat) (ii ((A0 ((s0_2 ((IntKind.i64.wrap ((s0_1 : Int) - 1))).toNat)).toNat)).fImm) rb1 e_rb1),.o,.x (zer (ty := 36) rt36 #[false,false] (f := cZ) (N := gb0_0) (A := gb0_1) (c := 1) [rb1] (T' := 3) .row zb1 zme hq6 rfl (by decide)) [5,6],.o,.o,.cp,.cx (zi3 hU a0 p0 q0 n0 k0 A0 hR0 s0_0 s0_1 s0_2 gb0_0 gb0_1 rb1 s0_0 ((IntKind.i64.wrap ((s0_1 : Int) - 1))).toNat s0_2 0 gb2_0 gb2_1 gb2_2 gb2_3 e_gb2) [0,1,2,3,5,6,7,4]]) [0,1,8] (fun b => rfl) (by decide) rfl rfl (fun b => by kernel_rfl)
          ·exact zd e
         ·replace e := zf e
          obtain ⟨gb1,e_gb1,e⟩ := e
          obtain ⟨gb1_0,gb1_1,gb1_2⟩ := gb1
          try dsimp only at e
          cases e; exact zb hU (P7 ++ [.cg (zbF hU ((A0 ((s0_2 ((IntKind.i64.wrap ((s0_1 : Int) - 1))).toNat)).toNat)) false hq5),.o,.cp,.cx (zi1 hU a0 p0 q0 n0 k0 A0 hR0 s0_0 s0_1 s0_2 gb0_0 gb0_1 s0_0 ((IntKind.i64.wrap ((s0_1 : Int) - 1))).toNat s0_2 0 gb1_0 gb1_1 gb1_2 e_gb1) [0,1,2,3,5,4]]) [0,1,6] (fun b => rfl) (by decide) rfl rfl (fun b => by kernel_rfl)
        ·exact zd e
      ·exact zd e
     ·exact zd e
    ·exact zd e
   ·cases e; exact ⟨zcn 0,zb hU [.o,.o,.b (zgR hq0)] [0,1,3] (fun b => rfl) (by decide) rfl rfl (fun b => by kernel_rfl)⟩) s r h
noncomputable def ziI (a0 : Option Addr) (p0 q0 n0 k0 : Nat) (A0 : Nat → Insn) (s0_0 : Nat → Bool) (s0_1 : Nat) (s0_2 : Nat → Int) (ls : List L1) : List Value := List.append [.slice a0 n0 (n0 + k0),undef,.slice none 0 0,(rowV (lget ls 0) ((n0 : Int)).toNat 1),(rowV (lget ls 2) s0_1 1),undef,undef,undef,.slice a0 n0 (n0 + k0),.int .i64 ((n0 : Int)),(rowV (lget ls 0) ((n0 : Int)).toNat 1),(rowV (lget ls 0) ((n0 : Int)).toNat 1),.pointer (some ⟨(lget ls 0).n,0 + 0 * 1,none⟩),.slice (some ⟨(lget ls 1).n,0,none⟩) 1 1] (und 62)
def zir (a0 : Option Addr) (p0 q0 n0 k0 : Nat) (A0 : Nat → Insn) (s0_0 : Nat → Bool) (s0_1 : Nat) (s0_2 : Nat → Int) (ls : List L1) : List Obj := [rowO (lget ls 0) (esG cB ((n0 : Int)).toNat s0_0) 4 ((n0 : Int)).toNat 1,unb,rowO (lget ls 2) (esG cZ s0_1 s0_2) 3 s0_1 1]
theorem zmJ (s0_0 : Nat → Bool) (s0_1 : Nat) (s0_2 : Nat → Int) (c0_0 : Nat → Bool) (h : lpO (zbO n0 A0) (.c0 s0_0 s0_1 s0_2) = some (.e0 c0_0)) : SpcG Try.prog M B0 S ⟨fun ls => .code (.loop zjR) (ziI a0 p0 q0 n0 k0 A0 s0_0 s0_1 s0_2 ls),zir a0 p0 q0 n0 k0 A0 s0_0 s0_1 s0_2,2,(.exit 0),fun ls => zjJ a0 p0 q0 n0 k0 A0 (.e0 c0_0) (ls.take 2 ++ ls.drop 3),fun ls => (zg6 a0 p0 q0 n0 k0 A0 (.e0 c0_0) (ls.take 2 ++ ls.drop 3)).take 2 ++ List.replicate 1 unb,fun ls => (zg6 a0 p0 q0 n0 k0 A0 (.e0 c0_0) (ls.take 2 ++ ls.drop 3)).drop 2⟩ :=
 zr hU 0 (k0 := 3) (zr3 hU a0 p0 q0 n0 k0 A0 hR0 _ _ h) (ziI a0 p0 q0 n0 k0 A0 s0_0 s0_1 s0_2) (zir a0 p0 q0 n0 k0 A0 s0_0 s0_1 s0_2) (fun _ => rfl) (fun ls h => by match ls,h with | [l0,l1,l2],_ => exact ⟨by kernel_rfl,by kernel_rfl⟩) (fun ls h => by match ls,h with | [l0,l1,l2],_ => rfl) (by decide) (by decide) (fun ls => rfl)
inductive zu3 where
 | e0 (c0_0 : Nat → Bool)
noncomputable def zfq (n0 : Nat) (A0 : Nat → Insn) : Option zu3 :=
 bif inR (n0 : Int) 1000001 then
 (bif inR 0 ((n0 : Int)).toNat then
 ((lpO (zbO n0 A0) (.c0 (updF (fun _ => false) 0 true) 1 (fun _ => 0))).bind fun g0 => match g0 with
 | .e0 g0_0 =>
 some (.e0 g0_0))
 else (none))
 else (none)
def zta (a0 : Option Addr) (p0 q0 n0 k0 : Nat) (A0 : Nat → Insn) (c0_0 : Nat → Bool) : Spc := ⟨fun ls => .call 36 #[.slice a0 n0 (n0 + k0)],fun ls => [],1,.normal,fun ls => [(rowV (lget ls 0) ((n0 : Int)).toNat 1)],fun ls => [],fun ls => [rowO (lget ls 0) (esG cB ((n0 : Int)).toNat c0_0) 4 ((n0 : Int)).toNat 1]⟩
theorem zmh (c0_0 : Nat → Bool) (e : zfq n0 A0 = some (.e0 c0_0)) : SpcG Try.prog M B0 S (zta a0 p0 q0 n0 k0 A0 c0_0) := by
 unfold zfq at e
 replace e := za e
 rcases e with ⟨hq0,e⟩ | ⟨hq0,e⟩
 ·replace e := za e
  rcases e with ⟨hq1,e⟩ | ⟨hq1,e⟩
  ·replace e := zf e
   obtain ⟨g0,e_g0,e⟩ := e
   obtain ⟨g0_0⟩ := g0
   try dsimp only at e
   injection e with e; injection e with i0; subst i0; exact zo hU (P := Try.prog) Try.func36 (fun xs w => by kernel_rfl) 0 _ _ (fun _ => rfl) _ _ _ [0] [.o,.o,.o,.x (zs4 rt64 (f := cB) (x := (n0 : Int)) (a0 := false) zbc (by kernel_rfl) hq0 (by decide)) [],.o,.o,.q (zH (kd := .i64) (T := 64) (x := 0) (N := ((n0 : Int)).toNat) (sz := 1) rfl (fun w => by kernel_rfl) hq1),.x (zd0 (T := 4) (e := 4) (f := cB) (A := (fun _ => false)) (v := true) 0 (.bool true) zbc zla rfl rfl (fun w => by kernel_rfl) (ze hq1)) [0],.o,.x (zhr (es := esG cZ 1 (fun _ => 0)) (e := 3) (n := 1) (sz := 1)) [1],.cp,.cx (zmJ hU a0 p0 q0 n0 k0 A0 hR0 (updF (fun _ => false) 0 true) 1 (fun _ => 0) g0_0 e_g0) [0,1,2],.o,.o] [] (fun b => by kernel_rfl)
  ·exact zd e
 ·exact zd e
inductive zt5 where
 | e0 
 | e1 (c1_0 : Nat) (c1_1 : Nat → Int)
noncomputable def zbs (n0 : Nat) (A0 : Nat → Insn) (y1 : Int) : Option zt5 :=
 bif inR y1 n0 then
 (zv (zg0 ((A0 (y1).toNat))) fun r0 =>
 bif ((A0 (y1).toNat)).fOp == 149#8 then
 (some (.e0))
 else (bif zV ((A0 (y1).toNat)) then
 ((zel n0 A0 y1).bind fun r1 =>
 bif ((A0 (y1).toNat)).fOp == 5#8 then
 (some (.e1 1 (fun _ => r1.1)))
 else (bif r1.1 == (IntKind.i64.wrap (y1 + r0)) then
 (some (.e1 1 (fun _ => r1.1)))
 else (some (.e1 2 (updF (fun _ => (IntKind.i64.wrap (y1 + r0))) 1 r1.1)))))
 else (some (.e1 1 (fun _ => (IntKind.i64.wrap (y1 + r0)))))))
 else (none)
def zsA (a0 : Option Addr) (p0 q0 n0 k0 : Nat) (A0 : Nat → Insn) (y1 : Int)  : Spc := ⟨fun ls => .call 61 #[.slice a0 n0 (n0 + k0),.int .i64 (y1)],fun ls => [],0,.normal,fun ls => [.slice none 0 0],fun ls => [],fun ls => []⟩
def zsp (a0 : Option Addr) (p0 q0 n0 k0 : Nat) (A0 : Nat → Insn) (y1 : Int) (c1_0 : Nat) (c1_1 : Nat → Int) : Spc := ⟨fun ls => .call 61 #[.slice a0 n0 (n0 + k0),.int .i64 (y1)],fun ls => [],1,.normal,fun ls => [(rowV (lget ls 0) c1_0 1)],fun ls => [],fun ls => [rowO (lget ls 0) (esG cZ c1_0 c1_1) 3 c1_0 1]⟩
theorem zlz (y1 : Int) (e : zbs n0 A0 y1 = some (.e0 )) : SpcG Try.prog M B0 S (zsA a0 p0 q0 n0 k0 A0 y1 ) := by
 unfold zbs at e
 replace e := za e
 rcases e with ⟨hq0,e⟩ | ⟨hq0,e⟩
 ·replace e := zg e
  obtain ⟨r0,e_r0,e⟩ := e
  try dsimp only at e
  replace e := za e
  rcases e with ⟨hq1,e⟩ | ⟨hq1,e⟩
  ·exact zo hU (P := Try.prog) Try.func61 (fun xs w => by kernel_rfl) 0 _ _ (fun _ => rfl) _ _ _ [] [.o,.o,.o,.o,.q (zA (kd := .i64) (T := 86) (x := y1) (sz := 5) rfl (fun w => by kernel_rfl) hR0 hq0),.l (zcm hR0 zj (ze hq0) 0 [.int .u8 (nn ((A0 (y1).toNat)).fOp),.int .u8 (nn ((A0 (y1).toNat)).fDst),.int .u8 (nn ((A0 (y1).toNat)).fSrc),.int .i16 (ii ((A0 (y1).toNat)).fOff),.int .i32 (ii ((A0 (y1).toNat)).fImm)] rfl),.cg (ziE hU ((A0 (y1).toNat)) r0 e_r0),.o,.o,.o,.o,.q (zA (kd := .i64) (T := 86) (x := y1) (sz := 5) rfl (fun w => by kernel_rfl) hR0 hq0),.o,.l (zcm hR0 zj (ze hq0) 0 [.int .u8 (nn ((A0 (y1).toNat)).fOp)] rfl),.t (u_eq ((A0 (y1).toNat)).fOp (149#8)) hq1,.o] [] (fun b => by kernel_rfl)
  ·replace e := za e
   rcases e with ⟨hq2,e⟩ | ⟨hq2,e⟩
   ·replace e := zf e
    obtain ⟨r1,e_r1,e⟩ := e
    try dsimp only at e
    replace e := za e
    rcases e with ⟨hq3,e⟩ | ⟨hq3,e⟩
    ·cases e
    ·replace e := za e
     rcases e with ⟨hq4,e⟩ | ⟨hq4,e⟩
     ·cases e
     ·cases e
   ·cases e
 ·exact zd e
theorem zlK (y1 : Int) (c1_0 : Nat) (c1_1 : Nat → Int) (e : zbs n0 A0 y1 = some (.e1 c1_0 c1_1)) : SpcG Try.prog M B0 S (zsp a0 p0 q0 n0 k0 A0 y1 c1_0 c1_1) := by
 unfold zbs at e
 replace e := za e
 rcases e with ⟨hq0,e⟩ | ⟨hq0,e⟩
 ·replace e := zg e
  obtain ⟨r0,e_r0,e⟩ := e
  try dsimp only at e
  replace e := za e
  let P1 : List (PG Try.prog M B0 S) := [.o,.o,.o,.o,.q (zA (kd := .i64) (T := 86) (x := y1) (sz := 5) rfl (fun w => by kernel_rfl) hR0 hq0),.l (zcm hR0 zj (ze hq0) 0 [.int .u8 (nn ((A0 (y1).toNat)).fOp),.int .u8 (nn ((A0 (y1).toNat)).fDst),.int .u8 (nn ((A0 (y1).toNat)).fSrc),.int .i16 (ii ((A0 (y1).toNat)).fOff),.int .i32 (ii ((A0 (y1).toNat)).fImm)] rfl),.cg (ziE hU ((A0 (y1).toNat)) r0 e_r0),.o,.o,.o,.o,.q (zA (kd := .i64) (T := 86) (x := y1) (sz := 5) rfl (fun w => by kernel_rfl) hR0 hq0),.o,.l (zcm hR0 zj (ze hq0) 0 [.int .u8 (nn ((A0 (y1).toNat)).fOp)] rfl)]
  rcases e with ⟨hq1,e⟩ | ⟨hq1,e⟩
  ·cases e
  ·replace e := za e
   let P2 : List (PG Try.prog M B0 S) := P1 ++ [.t (u_eq ((A0 (y1).toNat)).fOp (149#8)) hq1,.o,.o,.q (zA (kd := .i64) (T := 86) (x := y1) (sz := 5) rfl (fun w => by kernel_rfl) hR0 hq0),.l (zcm hR0 zj (ze hq0) 0 [.int .u8 (nn ((A0 (y1).toNat)).fOp),.int .u8 (nn ((A0 (y1).toNat)).fDst),.int .u8 (nn ((A0 (y1).toNat)).fSrc),.int .i16 (ii ((A0 (y1).toNat)).fOff),.int .i32 (ii ((A0 (y1).toNat)).fImm)] rfl)]
   rcases e with ⟨hq2,e⟩ | ⟨hq2,e⟩
   ·replace e := zf e
    obtain ⟨r1,e_r1,e⟩ := e
    try dsimp only at e
    replace e := za e
    let P3 : List (PG Try.prog M B0 S) := P2 ++ [.cg (zhV hU ((A0 (y1).toNat)) true hq2),.o,.o,.o,.cg (ztw hU a0 p0 q0 n0 k0 A0 hR0 y1 r1 e_r1),.o,.o,.o,.o,.o,.o,.o,.q (zA (kd := .i64) (T := 86) (x := y1) (sz := 5) rfl (fun w => by kernel_rfl) hR0 hq0),.o,.l (zcm hR0 zj (ze hq0) 0 [.int .u8 (nn ((A0 (y1).toNat)).fOp)] rfl)]
    rcases e with ⟨hq3,e⟩ | ⟨hq3,e⟩
    ·injection e with e; injection e with i0 i1; subst i0 i1; exact zo hU (P := Try.prog) Try.func61 (fun xs w => by kernel_rfl) 0 _ _ (fun _ => rfl) _ _ _ [1] (P3 ++ [.t (u_eq ((A0 (y1).toNat)).fOp (5#8)) hq3,.o,.o,.o,.o,.x (zhr (es := esG cZ 1 (fun _ => r1.1)) (e := 3) (n := 1) (sz := 1)) [0]]) [] (fun b => by kernel_rfl)
    ·replace e := za e
     rcases e with ⟨hq4,e⟩ | ⟨hq4,e⟩
     ·injection e with e; injection e with i0 i1; subst i0 i1; exact zo hU (P := Try.prog) Try.func61 (fun xs w => by kernel_rfl) 0 _ _ (fun _ => rfl) _ _ _ [1] (P3 ++ [.t (u_eq ((A0 (y1).toNat)).fOp (5#8)) hq3,.o,.o,.o,.b (zO hq4),.o,.o,.o,.x (zhr (es := esG cZ 1 (fun _ => r1.1)) (e := 3) (n := 1) (sz := 1)) [0]]) [] (fun b => by kernel_rfl)
     ·injection e with e; injection e with i0 i1; subst i0 i1; exact zo hU (P := Try.prog) Try.func61 (fun xs w => by kernel_rfl) 0 _ _ (fun _ => rfl) _ _ _ [1] (P3 ++ [.t (u_eq ((A0 (y1).toNat)).fOp (5#8)) hq3,.o,.o,.o,.b (zF hq4),.o,.o,.o,.o,.x (zhr (es := esG cZ 2 (updF (fun _ => (IntKind.i64.wrap (y1 + r0))) 1 r1.1)) (e := 3) (n := 2) (sz := 1)) [0]]) [] (fun b => by kernel_rfl)
   ·injection e with e; injection e with i0 i1; subst i0 i1; exact zo hU (P := Try.prog) Try.func61 (fun xs w => by kernel_rfl) 0 _ _ (fun _ => rfl) _ _ _ [1] (P2 ++ [.cg (zhV hU ((A0 (y1).toNat)) false hq2),.o,.o,.o,.x (zhr (es := esG cZ 1 (fun _ => (IntKind.i64.wrap (y1 + r0)))) (e := 3) (n := 1) (sz := 1)) [0]]) [] (fun b => by kernel_rfl)
 ·exact zd e
noncomputable def zdg (n0 : Nat) (A0 : Nat → Insn) (y1 : Int) : Option ((Int) × (Bool)) :=
 bif inR y1 n0 then
 (bif zV ((A0 (y1).toNat)) then
 (some (0,false))
 else ((zel n0 A0 y1).bind fun r0 =>
 some (r0.1,(r0.2))))
 else (none)
theorem zkH (y1 : Int) (r : (Int) × (Bool)) (e : zdg n0 A0 y1 = some r) : ConG Try.prog S 64 #[.slice a0 n0 (n0 + k0),.int .i64 (y1)] (vt0 r) := by
 unfold zdg at e
 replace e := za e
 rcases e with ⟨hq0,e⟩ | ⟨hq0,e⟩
 ·replace e := za e
  let P1 : List (PG Try.prog M B0 S) := [.o,.o,.o,.o,.q (zA (kd := .i64) (T := 86) (x := y1) (sz := 5) rfl (fun w => by kernel_rfl) hR0 hq0),.l (zcm hR0 zj (ze hq0) 0 [.int .u8 (nn ((A0 (y1).toNat)).fOp),.int .u8 (nn ((A0 (y1).toNat)).fDst),.int .u8 (nn ((A0 (y1).toNat)).fSrc),.int .i16 (ii ((A0 (y1).toNat)).fOff),.int .i32 (ii ((A0 (y1).toNat)).fImm)] rfl)]
  rcases e with ⟨hq1,e⟩ | ⟨hq1,e⟩
  ·injection e with e; subst e; exact zc hU (P := Try.prog) Try.func64 (fun xs w => by kernel_rfl) _ _ (P1 ++ [.cg (zhV hU ((A0 (y1).toNat)) true hq1),.o,.o]) [] (fun b => by kernel_rfl)
  ·replace e := zf e
   obtain ⟨r0,e_r0,e⟩ := e
   try dsimp only at e
   injection e with e; subst e; exact zc hU (P := Try.prog) Try.func64 (fun xs w => by kernel_rfl) _ _ (P1 ++ [.cg (zhV hU ((A0 (y1).toNat)) false hq1),.o,.o,.cg (ztw hU a0 p0 q0 n0 k0 A0 hR0 y1 r0 e_r0),.o,.o,.o,.o]) [] (fun b => by kernel_rfl)
 ·exact zd e
inductive zbi where
 | c0 (sb0_0 : Nat → Bool) (sb0_1 : Nat) (sb0_2 : Nat → Int) (sb0_3 : Int)
inductive zbh where
 | e0 (c0_0 : Nat → Bool) (c0_1 : Nat → Int) (c0_2 : Nat) (c0_3 : Nat → Int)
noncomputable def zS (n0 : Nat) (rb1 : (Int) × (Bool)) : zbi → Option (zbi ⊕ zbh)
 | .c0 sb0_0 sb0_1 sb0_2 sb0_3 =>
 bif decide (sb0_3 < 1) then
 (bif inR sb0_3 1 then
 (bif inR ((fun _ => rb1.1) (sb0_3).toNat) ((n0 : Int)).toNat then
 (bif (sb0_0 (((fun _ => rb1.1) (sb0_3).toNat)).toNat) then
 (some (.inl (.c0 sb0_0 sb0_1 sb0_2 (IntKind.i64.wrap (sb0_3 + 1)))))
 else (bif decide (sb0_1 ≤ 1000000) then
 (some (.inl (.c0 (updF sb0_0 (((fun _ => rb1.1) (sb0_3).toNat)).toNat true) (sb0_1 + 1) (updF sb0_2 sb0_1 ((fun _ => rb1.1) (sb0_3).toNat)) (IntKind.i64.wrap (sb0_3 + 1)))))
 else (none)))
 else (none))
 else (none))
 else (some (.inr (.e0 sb0_0 (fun _ => rb1.1) sb0_1 sb0_2)))
noncomputable def zfR : Code := zb6 Try.f50 [1,1,1,1,0,0,0,1,0,1,1,1,1,1,0,0]
def zko (a0 : Option Addr) (p0 q0 n0 k0 : Nat) (A0 : Nat → Insn) (s0_0 : Nat → Bool) (s0_1 : Nat) (s0_2 : Nat → Int) (rb1 : (Int) × (Bool)) : zbi → List L1 → List Value
 | .c0 sb0_0 sb0_1 sb0_2 sb0_3,ls => [.slice a0 n0 (n0 + k0),(rowV (lget ls 0) ((n0 : Int)).toNat 1),(rowV (lget ls 6) sb0_1 1),(rowV (lget ls 5) 1 1),.int .i64 (1),.int .i64 (sb0_3)]
def zkj : zbi → List (Nat × Nat)
 | .c0 _ _ _ _ => [(1,2),(2,40),(3,17)]
noncomputable def zkm (a0 : Option Addr) (p0 q0 n0 k0 : Nat) (A0 : Nat → Insn) (s0_0 : Nat → Bool) (s0_1 : Nat) (s0_2 : Nat → Int) (rb1 : (Int) × (Bool)) (s : zbi) : List L1 → List Value := mrgF (zkj s) (zko a0 p0 q0 n0 k0 A0 s0_0 s0_1 s0_2 rb1 s) 7
def zkd (a0 : Option Addr) (p0 q0 n0 k0 : Nat) (A0 : Nat → Insn) (s0_0 : Nat → Bool) (s0_1 : Nat) (s0_2 : Nat → Int) (rb1 : (Int) × (Bool)) : zbi → List L1 → List Obj
 | .c0 sb0_0 sb0_1 sb0_2 sb0_3,ls => [rowO (lget ls 0) (esG cB ((n0 : Int)).toNat sb0_0) 4 ((n0 : Int)).toNat 1,unb,unb,unb,.cells #[.int .i64 (rb1.1)] 3,rowO (lget ls 5) (esG cZ 1 (fun _ => rb1.1)) 3 1 1,rowO (lget ls 6) (esG cZ sb0_1 sb0_2) 3 sb0_1 1,unb]
def zkv (a0 : Option Addr) (p0 q0 n0 k0 : Nat) (A0 : Nat → Insn) (s0_0 : Nat → Bool) (s0_1 : Nat) (s0_2 : Nat → Int) (rb1 : (Int) × (Bool)) : zbh → List L1 → List Value
 | .e0 c0_0 c0_1 c0_2 c0_3,ls => [.slice a0 n0 (n0 + k0),(rowV (lget ls 0) ((n0 : Int)).toNat 1),(rowV (lget ls 6) c0_2 1),(rowV (lget ls 5) 1 1),.int .i64 (1)]
def zj6 : zbh → List (Nat × Nat)
 | .e0 _ _ _ _ => [(1,2),(2,40),(2,18)]
noncomputable def zfU (a0 : Option Addr) (p0 q0 n0 k0 : Nat) (A0 : Nat → Insn) (s0_0 : Nat → Bool) (s0_1 : Nat) (s0_2 : Nat → Int) (rb1 : (Int) × (Bool)) (r : zbh) : List L1 → List Value := mrgF (zj6 r) (zkv a0 p0 q0 n0 k0 A0 s0_0 s0_1 s0_2 rb1 r) 7
def zeg (a0 : Option Addr) (p0 q0 n0 k0 : Nat) (A0 : Nat → Insn) (s0_0 : Nat → Bool) (s0_1 : Nat) (s0_2 : Nat → Int) (rb1 : (Int) × (Bool)) : zbh → List L1 → List Obj
 | .e0 c0_0 c0_1 c0_2 c0_3,ls => [rowO (lget ls 0) (esG cB ((n0 : Int)).toNat c0_0) 4 ((n0 : Int)).toNat 1,unb,unb,unb,.cells #[.int .i64 (rb1.1)] 3,rowO (lget ls 5) (esG cZ 1 c0_1) 3 1 1,rowO (lget ls 6) (esG cZ c0_2 c0_3) 3 c0_2 1,unb]
def zkq : zbh → Ex
 | .e0 _ _ _ _ => (.exit 2)
theorem zke (s0_0 : Nat → Bool) (s0_1 : Nat) (s0_2 : Nat → Int) (rb1 : (Int) × (Bool)) (s : zbi) (r : zbh) (h : lpO (zS n0 rb1) s = some r) : zdm Try.prog M B0 S (.loop zfR) 8 (zkm a0 p0 q0 n0 k0 A0 s0_0 s0_1 s0_2 rb1 s) (zkd a0 p0 q0 n0 k0 A0 s0_0 s0_1 s0_2 rb1 s) (zkq r) 6 (zfU a0 p0 q0 n0 k0 A0 s0_0 s0_1 s0_2 rb1 r) (zeg a0 p0 q0 n0 k0 A0 s0_0 s0_1 s0_2 rb1 r) 8 :=
 zb5 (fun s q e => by
  cases s with
  | c0 sb0_0 sb0_1 sb0_2 sb0_3 =>
   unfold zS at e
   dsimp only at e
   replace e := za e
   rcases e with ⟨hq0,e⟩ | ⟨hq0,e⟩
   ·replace e := za e
    rcases e with ⟨hq1,e⟩ | ⟨hq1,e⟩
    ·replace e := za e
     let P1 : List (PG Try.prog M B0 S) := [.b (zcR hq0),.q (zH (kd := .i64) (T := 36) (x := sb0_3) (N := 1) (sz := 1) rfl (fun w => by kernel_rfl) hq1),.l (accG (i := 5) (f := cZ) (A := (fun _ => rb1.1)) (k := (sb0_3).toNat) 0 [.int .i64 (((fun _ => rb1.1) (sb0_3).toNat))] zb1 (ze hq1) rfl),.o,.o,.o]
     rcases e with ⟨hq2,e⟩ | ⟨hq2,e⟩
     ·replace e := za e
      let P2 : List (PG Try.prog M B0 S) := P1 ++ [.q (zH (kd := .i64) (T := 64) (x := ((fun _ => rb1.1) (sb0_3).toNat)) (N := ((n0 : Int)).toNat) (sz := 1) rfl (fun w => by kernel_rfl) hq2)]
      rcases e with ⟨hq3,e⟩ | ⟨hq3,e⟩
      ·cases e; exact zb hU (P2 ++ [.l (accG (i := 0) (f := cB) (A := sb0_0) (k := (((fun _ => rb1.1) (sb0_3).toNat)).toNat) 0 [.bool true] zbc (ze hq2) (congrArg (fun b => [Value.bool b]) hq3)),.o,.o,.o]) [0,1,2,3,4,5,6] (fun b => rfl) (by decide) rfl rfl (fun b => by kernel_rfl)
      ·replace e := za e
       rcases e with ⟨hq4,e⟩ | ⟨hq4,e⟩
       ·cases e; exact zb hU (P2 ++ [.l (accG (i := 0) (f := cB) (A := sb0_0) (k := (((fun _ => rb1.1) (sb0_3).toNat)).toNat) 0 [.bool false] zbc (ze hq2) (congrArg (fun b => [Value.bool b]) hq3)),.o,.o,.o,.q (zH (kd := .i64) (T := 64) (x := ((fun _ => rb1.1) (sb0_3).toNat)) (N := ((n0 : Int)).toNat) (sz := 1) rfl (fun w => by kernel_rfl) hq2),.x (zd0 (T := 4) (e := 4) (f := cB) (A := sb0_0) (v := true) 0 (.bool true) zbc zla rfl rfl (fun w => by kernel_rfl) (ze hq2)) [0],.o,.o,.o,.x (zer (ty := 36) rt36 #[false,false] (f := cZ) (N := sb0_1) (A := sb0_2) (c := 1) [((fun _ => rb1.1) (sb0_3).toNat)] (T' := 3) .row zb1 zme hq4 rfl (by decide)) [6,8],.o,.o,.o]) [0,1,2,3,4,5,9] (fun b => rfl) (by decide) rfl rfl (fun b => by kernel_rfl)
       ·exact zd e
     ·exact zd e
    ·exact zd e
   ·cases e; exact ⟨zcn 2,zb hU [.b (zb7 hq0)] [0,1,2,3,4,5,6] (fun b => rfl) (by decide) rfl rfl (fun b => by kernel_rfl)⟩) s r h
noncomputable def zft (a0 : Option Addr) (p0 q0 n0 k0 : Nat) (A0 : Nat → Insn) (s0_0 : Nat → Bool) (s0_1 : Nat) (s0_2 : Nat → Int) (rb1 : (Int) × (Bool)) (sb0_0 : Nat → Bool) (sb0_1 : Nat) (sb0_2 : Nat → Int) (sb0_3 : Int) (ls : List L1) : List Value := List.append [.slice a0 n0 (n0 + k0),((lget ls 3).u 1),((lget ls 3).u 2),(rowV (lget ls 0) ((n0 : Int)).toNat 1),(rowV (lget ls 6) sb0_1 1),.int .i64 ((s0_2 ((IntKind.i64.wrap ((s0_1 : Int) - 1))).toNat)),(rowV (lget ls 5) 1 1),.int .i64 (rb1.1),.bool true] (List.append (jks (lget ls 3).u 9 8) (List.append [(rowV (lget ls 2) s0_1 1),.int .i64 ((s0_1 : Int)),.bool true,(rowV (lget ls 2) s0_1 1),(rowV (lget ls 2) s0_1 1),.int .i64 ((s0_1 : Int)),.int .i64 ((IntKind.i64.wrap ((s0_1 : Int) - 1))),.pointer (some ⟨(lget ls 2).n,0 + ((IntKind.i64.wrap ((s0_1 : Int) - 1))).toNat * 1,none⟩),.int .i64 ((s0_2 ((IntKind.i64.wrap ((s0_1 : Int) - 1))).toNat)),(rowV (lget ls 2) s0_1 1),(rowV (lget ls 2) s0_1 1),.int .i64 ((s0_1 : Int)),.int .i64 ((IntKind.i64.wrap ((s0_1 : Int) - 1))),(rowV (lget ls 6) ((IntKind.i64.wrap ((s0_1 : Int) - 1))).toNat 1),.slice a0 n0 (n0 + k0),.int .i64 ((s0_2 ((IntKind.i64.wrap ((s0_1 : Int) - 1))).toNat)),.slice none 0 0,.tuple #[.int .i64 (rb1.1),.bool (rb1.2)],.slice a0 n0 (n0 + k0),.int .i64 ((s0_2 ((IntKind.i64.wrap ((s0_1 : Int) - 1))).toNat)),.tuple #[.int .i64 (rb1.1),.bool (rb1.2)],.int .i64 (rb1.1),.bool true,.bool true,.slice none 0 0,.int .i64 (rb1.1),.slice (some ⟨(lget ls 4).n,0,none⟩) 1 1,(rowV (lget ls 5) 1 1),(rowV (lget ls 5) 1 1),.int .i64 (1),.int .i64 (sb0_3)] (jks (lget ls 3).u 48 17)))
def zfj (a0 : Option Addr) (p0 q0 n0 k0 : Nat) (A0 : Nat → Insn) (s0_0 : Nat → Bool) (s0_1 : Nat) (s0_2 : Nat → Int) (rb1 : (Int) × (Bool)) (sb0_0 : Nat → Bool) (sb0_1 : Nat) (sb0_2 : Nat → Int) (sb0_3 : Int) (ls : List L1) : List Obj := [rowO (lget ls 0) (esG cB ((n0 : Int)).toNat sb0_0) 4 ((n0 : Int)).toNat 1,unb,unb,unb,.cells #[.int .i64 (rb1.1)] 3,rowO (lget ls 5) (esG cZ 1 (fun _ => rb1.1)) 3 1 1,rowO (lget ls 6) (esG cZ sb0_1 sb0_2) 3 sb0_1 1]
theorem zik (s0_0 : Nat → Bool) (s0_1 : Nat) (s0_2 : Nat → Int) (rb1 : (Int) × (Bool)) (sb0_0 : Nat → Bool) (sb0_1 : Nat) (sb0_2 : Nat → Int) (sb0_3 : Int) (c0_0 : Nat → Bool) (c0_1 : Nat → Int) (c0_2 : Nat) (c0_3 : Nat → Int) (h : lpO (zS n0 rb1) (.c0 sb0_0 sb0_1 sb0_2 sb0_3) = some (.e0 c0_0 c0_1 c0_2 c0_3)) : SpcG Try.prog M B0 S ⟨fun ls => .code (.loop zfR) (zft a0 p0 q0 n0 k0 A0 s0_0 s0_1 s0_2 rb1 sb0_0 sb0_1 sb0_2 sb0_3 ls),zfj a0 p0 q0 n0 k0 A0 s0_0 s0_1 s0_2 rb1 sb0_0 sb0_1 sb0_2 sb0_3,2,(.exit 2),fun ls => zfU a0 p0 q0 n0 k0 A0 s0_0 s0_1 s0_2 rb1 (.e0 c0_0 c0_1 c0_2 c0_3) (ls.take 6 ++ ls.drop 7),fun ls => (zeg a0 p0 q0 n0 k0 A0 s0_0 s0_1 s0_2 rb1 (.e0 c0_0 c0_1 c0_2 c0_3) (ls.take 6 ++ ls.drop 7)).take 6 ++ List.replicate 1 unb,fun ls => (zeg a0 p0 q0 n0 k0 A0 s0_0 s0_1 s0_2 rb1 (.e0 c0_0 c0_1 c0_2 c0_3) (ls.take 6 ++ ls.drop 7)).drop 6⟩ :=
 zr hU 0 (k0 := 7) (zke hU a0 p0 q0 n0 k0 A0 hR0 s0_0 s0_1 s0_2 rb1 _ _ h) (zft a0 p0 q0 n0 k0 A0 s0_0 s0_1 s0_2 rb1 sb0_0 sb0_1 sb0_2 sb0_3) (zfj a0 p0 q0 n0 k0 A0 s0_0 s0_1 s0_2 rb1 sb0_0 sb0_1 sb0_2 sb0_3) (fun _ => rfl) (fun ls h => by match ls,h with | [l0,l1,l2,l3,l4,l5,l6],_ => exact ⟨by kernel_rfl,by kernel_rfl⟩) (fun ls h => by match ls,h with | [l0,l1,l2,l3,l4,l5,l6],_ => rfl) (by decide) (by decide) (fun ls => rfl)
inductive z6 where
 | c0 (sb0_0 : Nat → Bool) (sb0_1 : Nat) (sb0_2 : Nat → Int) (sb0_3 : Int)
inductive z8 where
 | e0 (c0_0 : Nat → Bool) (c0_1 : Nat → Int) (c0_2 : Nat) (c0_3 : Nat → Int)
noncomputable def zN (n0 gb0_0 : Nat) (gb0_1 : Nat → Int) (rb1 : (Int) × (Bool)) : z6 → Option (z6 ⊕ z8)
 | .c0 sb0_0 sb0_1 sb0_2 sb0_3 =>
 bif decide (sb0_3 < ((gb0_0 + 1) : Int)) then
 (bif inR sb0_3 (gb0_0 + 1) then
 (bif inR ((updF gb0_1 gb0_0 rb1.1) (sb0_3).toNat) ((n0 : Int)).toNat then
 (bif (sb0_0 (((updF gb0_1 gb0_0 rb1.1) (sb0_3).toNat)).toNat) then
 (some (.inl (.c0 sb0_0 sb0_1 sb0_2 (IntKind.i64.wrap (sb0_3 + 1)))))
 else (bif decide (sb0_1 ≤ 1000000) then
 (some (.inl (.c0 (updF sb0_0 (((updF gb0_1 gb0_0 rb1.1) (sb0_3).toNat)).toNat true) (sb0_1 + 1) (updF sb0_2 sb0_1 ((updF gb0_1 gb0_0 rb1.1) (sb0_3).toNat)) (IntKind.i64.wrap (sb0_3 + 1)))))
 else (none)))
 else (none))
 else (none))
 else (some (.inr (.e0 sb0_0 (updF gb0_1 gb0_0 rb1.1) sb0_1 sb0_2)))
noncomputable def zfF : Code := zb6 Try.f50 [1,1,1,1,0,0,0,1,0,1,1,1,1,1,0,0]
def zjg (a0 : Option Addr) (p0 q0 n0 k0 : Nat) (A0 : Nat → Insn) (s0_0 : Nat → Bool) (s0_1 : Nat) (s0_2 : Nat → Int) (gb0_0 : Nat) (gb0_1 : Nat → Int) (rb1 : (Int) × (Bool)) : z6 → List L1 → List Value
 | .c0 sb0_0 sb0_1 sb0_2 sb0_3,ls => [.slice a0 n0 (n0 + k0),(rowV (lget ls 0) ((n0 : Int)).toNat 1),(rowV (lget ls 7) sb0_1 1),(rowV (lget ls 6) (gb0_0 + 1) 1),.int .i64 (((gb0_0 + 1) : Int)),.int .i64 (sb0_3)]
def zji : z6 → List (Nat × Nat)
 | .c0 _ _ _ _ => [(1,2),(2,40),(3,17)]
noncomputable def zjx (a0 : Option Addr) (p0 q0 n0 k0 : Nat) (A0 : Nat → Insn) (s0_0 : Nat → Bool) (s0_1 : Nat) (s0_2 : Nat → Int) (gb0_0 : Nat) (gb0_1 : Nat → Int) (rb1 : (Int) × (Bool)) (s : z6) : List L1 → List Value := mrgF (zji s) (zjg a0 p0 q0 n0 k0 A0 s0_0 s0_1 s0_2 gb0_0 gb0_1 rb1 s) 8
def zjw (a0 : Option Addr) (p0 q0 n0 k0 : Nat) (A0 : Nat → Insn) (s0_0 : Nat → Bool) (s0_1 : Nat) (s0_2 : Nat → Int) (gb0_0 : Nat) (gb0_1 : Nat → Int) (rb1 : (Int) × (Bool)) : z6 → List L1 → List Obj
 | .c0 sb0_0 sb0_1 sb0_2 sb0_3,ls => [rowO (lget ls 0) (esG cB ((n0 : Int)).toNat sb0_0) 4 ((n0 : Int)).toNat 1,unb,unb,unb,unb,.cells #[.int .i64 (rb1.1)] 3,rowO (lget ls 6) (esG cZ (gb0_0 + 1) (updF gb0_1 gb0_0 rb1.1)) 3 (gb0_0 + 1) 1,rowO (lget ls 7) (esG cZ sb0_1 sb0_2) 3 sb0_1 1,unb]
def zjv (a0 : Option Addr) (p0 q0 n0 k0 : Nat) (A0 : Nat → Insn) (s0_0 : Nat → Bool) (s0_1 : Nat) (s0_2 : Nat → Int) (gb0_0 : Nat) (gb0_1 : Nat → Int) (rb1 : (Int) × (Bool)) : z8 → List L1 → List Value
 | .e0 c0_0 c0_1 c0_2 c0_3,ls => [.slice a0 n0 (n0 + k0),(rowV (lget ls 0) ((n0 : Int)).toNat 1),(rowV (lget ls 7) c0_2 1),(rowV (lget ls 6) (gb0_0 + 1) 1),.int .i64 (((gb0_0 + 1) : Int))]
def zjm : z8 → List (Nat × Nat)
 | .e0 _ _ _ _ => [(1,2),(2,40),(2,18)]
noncomputable def zfH (a0 : Option Addr) (p0 q0 n0 k0 : Nat) (A0 : Nat → Insn) (s0_0 : Nat → Bool) (s0_1 : Nat) (s0_2 : Nat → Int) (gb0_0 : Nat) (gb0_1 : Nat → Int) (rb1 : (Int) × (Bool)) (r : z8) : List L1 → List Value := mrgF (zjm r) (zjv a0 p0 q0 n0 k0 A0 s0_0 s0_1 s0_2 gb0_0 gb0_1 rb1 r) 8
def zdX (a0 : Option Addr) (p0 q0 n0 k0 : Nat) (A0 : Nat → Insn) (s0_0 : Nat → Bool) (s0_1 : Nat) (s0_2 : Nat → Int) (gb0_0 : Nat) (gb0_1 : Nat → Int) (rb1 : (Int) × (Bool)) : z8 → List L1 → List Obj
 | .e0 c0_0 c0_1 c0_2 c0_3,ls => [rowO (lget ls 0) (esG cB ((n0 : Int)).toNat c0_0) 4 ((n0 : Int)).toNat 1,unb,unb,unb,unb,.cells #[.int .i64 (rb1.1)] 3,rowO (lget ls 6) (esG cZ (gb0_0 + 1) c0_1) 3 (gb0_0 + 1) 1,rowO (lget ls 7) (esG cZ c0_2 c0_3) 3 c0_2 1,unb]
def zju : z8 → Ex
 | .e0 _ _ _ _ => (.exit 2)
theorem zjk (s0_0 : Nat → Bool) (s0_1 : Nat) (s0_2 : Nat → Int) (gb0_0 : Nat) (gb0_1 : Nat → Int) (rb1 : (Int) × (Bool)) (s : z6) (r : z8) (h : lpO (zN n0 gb0_0 gb0_1 rb1) s = some r) : zdm Try.prog M B0 S (.loop zfF) 9 (zjx a0 p0 q0 n0 k0 A0 s0_0 s0_1 s0_2 gb0_0 gb0_1 rb1 s) (zjw a0 p0 q0 n0 k0 A0 s0_0 s0_1 s0_2 gb0_0 gb0_1 rb1 s) (zju r) 7 (zfH a0 p0 q0 n0 k0 A0 s0_0 s0_1 s0_2 gb0_0 gb0_1 rb1 r) (zdX a0 p0 q0 n0 k0 A0 s0_0 s0_1 s0_2 gb0_0 gb0_1 rb1 r) 9 :=
 zb5 (fun s q e => by
  cases s with
  | c0 sb0_0 sb0_1 sb0_2 sb0_3 =>
   unfold zN at e
   dsimp only at e
   replace e := za e
   rcases e with ⟨hq0,e⟩ | ⟨hq0,e⟩
   ·replace e := za e
    rcases e with ⟨hq1,e⟩ | ⟨hq1,e⟩
    ·replace e := za e
     let P1 : List (PG Try.prog M B0 S) := [.b (zcR hq0),.q (zH (kd := .i64) (T := 36) (x := sb0_3) (N := (gb0_0 + 1)) (sz := 1) rfl (fun w => by kernel_rfl) hq1),.l (accG (i := 6) (f := cZ) (A := updF gb0_1 gb0_0 rb1.1) (k := (sb0_3).toNat) 0 [.int .i64 (((updF gb0_1 gb0_0 rb1.1) (sb0_3).toNat))] zb1 (ze hq1) rfl),.o,.o,.o]
     rcases e with ⟨hq2,e⟩ | ⟨hq2,e⟩
     ·replace e := za e
      let P2 : List (PG Try.prog M B0 S) := P1 ++ [.q (zH (kd := .i64) (T := 64) (x := ((updF gb0_1 gb0_0 rb1.1) (sb0_3).toNat)) (N := ((n0 : Int)).toNat) (sz := 1) rfl (fun w => by kernel_rfl) hq2)]
      rcases e with ⟨hq3,e⟩ | ⟨hq3,e⟩
      ·cases e; exact zb hU (P2 ++ [.l (accG (i := 0) (f := cB) (A := sb0_0) (k := (((updF gb0_1 gb0_0 rb1.1) (sb0_3).toNat)).toNat) 0 [.bool true] zbc (ze hq2) (congrArg (fun b => [Value.bool b]) hq3)),.o,.o,.o]) [0,1,2,3,4,5,6,7] (fun b => rfl) (by decide) rfl rfl (fun b => by kernel_rfl)
      ·replace e := za e
       rcases e with ⟨hq4,e⟩ | ⟨hq4,e⟩
       ·cases e; exact zb hU (P2 ++ [.l (accG (i := 0) (f := cB) (A := sb0_0) (k := (((updF gb0_1 gb0_0 rb1.1) (sb0_3).toNat)).toNat) 0 [.bool false] zbc (ze hq2) (congrArg (fun b => [Value.bool b]) hq3)),.o,.o,.o,.q (zH (kd := .i64) (T := 64) (x := ((updF gb0_1 gb0_0 rb1.1) (sb0_3).toNat)) (N := ((n0 : Int)).toNat) (sz := 1) rfl (fun w => by kernel_rfl) hq2),.x (zd0 (T := 4) (e := 4) (f := cB) (A := sb0_0) (v := true) 0 (.bool true) zbc zla rfl rfl (fun w => by kernel_rfl) (ze hq2)) [0],.o,.o,.o,.x (zer (ty := 36) rt36 #[false,false] (f := cZ) (N := sb0_1) (A := sb0_2) (c := 1) [((updF gb0_1 gb0_0 rb1.1) (sb0_3).toNat)] (T' := 3) .row zb1 zme hq4 rfl (by decide)) [7,9],.o,.o,.o]) [0,1,2,3,4,5,6,10] (fun b => rfl) (by decide) rfl rfl (fun b => by kernel_rfl)
       ·exact zd e
     ·exact zd e
    ·exact zd e
   ·cases e; exact ⟨zcn 2,zb hU [.b (zb7 hq0)] [0,1,2,3,4,5,6,7] (fun b => rfl) (by decide) rfl rfl (fun b => by kernel_rfl)⟩) s r h
noncomputable def zfi (a0 : Option Addr) (p0 q0 n0 k0 : Nat) (A0 : Nat → Insn) (s0_0 : Nat → Bool) (s0_1 : Nat) (s0_2 : Nat → Int) (gb0_0 : Nat) (gb0_1 : Nat → Int) (rb1 : (Int) × (Bool)) (sb0_0 : Nat → Bool) (sb0_1 : Nat) (sb0_2 : Nat → Int) (sb0_3 : Int) (ls : List L1) : List Value := List.append [.slice a0 n0 (n0 + k0),((lget ls 3).u 1),((lget ls 3).u 2),(rowV (lget ls 0) ((n0 : Int)).toNat 1),(rowV (lget ls 7) sb0_1 1),.int .i64 ((s0_2 ((IntKind.i64.wrap ((s0_1 : Int) - 1))).toNat)),(rowV (lget ls 6) (gb0_0 + 1) 1),.int .i64 (rb1.1),.bool true] (List.append (jks (lget ls 3).u 9 8) (List.append [(rowV (lget ls 2) s0_1 1),.int .i64 ((s0_1 : Int)),.bool true,(rowV (lget ls 2) s0_1 1),(rowV (lget ls 2) s0_1 1),.int .i64 ((s0_1 : Int)),.int .i64 ((IntKind.i64.wrap ((s0_1 : Int) - 1))),.pointer (some ⟨(lget ls 2).n,0 + ((IntKind.i64.wrap ((s0_1 : Int) - 1))).toNat * 1,none⟩),.int .i64 ((s0_2 ((IntKind.i64.wrap ((s0_1 : Int) - 1))).toNat)),(rowV (lget ls 2) s0_1 1),(rowV (lget ls 2) s0_1 1),.int .i64 ((s0_1 : Int)),.int .i64 ((IntKind.i64.wrap ((s0_1 : Int) - 1))),(rowV (lget ls 7) ((IntKind.i64.wrap ((s0_1 : Int) - 1))).toNat 1),.slice a0 n0 (n0 + k0),.int .i64 ((s0_2 ((IntKind.i64.wrap ((s0_1 : Int) - 1))).toNat)),(rowV (lget ls 4) gb0_0 1),.tuple #[.int .i64 (rb1.1),.bool (rb1.2)],.slice a0 n0 (n0 + k0),.int .i64 ((s0_2 ((IntKind.i64.wrap ((s0_1 : Int) - 1))).toNat)),.tuple #[.int .i64 (rb1.1),.bool (rb1.2)],.int .i64 (rb1.1),.bool true,.bool true,(rowV (lget ls 4) gb0_0 1),.int .i64 (rb1.1),.slice (some ⟨(lget ls 5).n,0,none⟩) 1 1,(rowV (lget ls 6) (gb0_0 + 1) 1),(rowV (lget ls 6) (gb0_0 + 1) 1),.int .i64 (((gb0_0 + 1) : Int)),.int .i64 (sb0_3)] (jks (lget ls 3).u 48 17)))
def ze8 (a0 : Option Addr) (p0 q0 n0 k0 : Nat) (A0 : Nat → Insn) (s0_0 : Nat → Bool) (s0_1 : Nat) (s0_2 : Nat → Int) (gb0_0 : Nat) (gb0_1 : Nat → Int) (rb1 : (Int) × (Bool)) (sb0_0 : Nat → Bool) (sb0_1 : Nat) (sb0_2 : Nat → Int) (sb0_3 : Int) (ls : List L1) : List Obj := [rowO (lget ls 0) (esG cB ((n0 : Int)).toNat sb0_0) 4 ((n0 : Int)).toNat 1,unb,unb,unb,unb,.cells #[.int .i64 (rb1.1)] 3,rowO (lget ls 6) (esG cZ (gb0_0 + 1) (updF gb0_1 gb0_0 rb1.1)) 3 (gb0_0 + 1) 1,rowO (lget ls 7) (esG cZ sb0_1 sb0_2) 3 sb0_1 1]
theorem zh5 (s0_0 : Nat → Bool) (s0_1 : Nat) (s0_2 : Nat → Int) (gb0_0 : Nat) (gb0_1 : Nat → Int) (rb1 : (Int) × (Bool)) (sb0_0 : Nat → Bool) (sb0_1 : Nat) (sb0_2 : Nat → Int) (sb0_3 : Int) (c0_0 : Nat → Bool) (c0_1 : Nat → Int) (c0_2 : Nat) (c0_3 : Nat → Int) (h : lpO (zN n0 gb0_0 gb0_1 rb1) (.c0 sb0_0 sb0_1 sb0_2 sb0_3) = some (.e0 c0_0 c0_1 c0_2 c0_3)) : SpcG Try.prog M B0 S ⟨fun ls => .code (.loop zfF) (zfi a0 p0 q0 n0 k0 A0 s0_0 s0_1 s0_2 gb0_0 gb0_1 rb1 sb0_0 sb0_1 sb0_2 sb0_3 ls),ze8 a0 p0 q0 n0 k0 A0 s0_0 s0_1 s0_2 gb0_0 gb0_1 rb1 sb0_0 sb0_1 sb0_2 sb0_3,2,(.exit 2),fun ls => zfH a0 p0 q0 n0 k0 A0 s0_0 s0_1 s0_2 gb0_0 gb0_1 rb1 (.e0 c0_0 c0_1 c0_2 c0_3) (ls.take 7 ++ ls.drop 8),fun ls => (zdX a0 p0 q0 n0 k0 A0 s0_0 s0_1 s0_2 gb0_0 gb0_1 rb1 (.e0 c0_0 c0_1 c0_2 c0_3) (ls.take 7 ++ ls.drop 8)).take 7 ++ List.replicate 1 unb,fun ls => (zdX a0 p0 q0 n0 k0 A0 s0_0 s0_1 s0_2 gb0_0 gb0_1 rb1 (.e0 c0_0 c0_1 c0_2 c0_3) (ls.take 7 ++ ls.drop 8)).drop 7⟩ :=
 zr hU 0 (k0 := 8) (zjk hU a0 p0 q0 n0 k0 A0 hR0 s0_0 s0_1 s0_2 gb0_0 gb0_1 rb1 _ _ h) (zfi a0 p0 q0 n0 k0 A0 s0_0 s0_1 s0_2 gb0_0 gb0_1 rb1 sb0_0 sb0_1 sb0_2 sb0_3) (ze8 a0 p0 q0 n0 k0 A0 s0_0 s0_1 s0_2 gb0_0 gb0_1 rb1 sb0_0 sb0_1 sb0_2 sb0_3) (fun _ => rfl) (fun ls h => by match ls,h with | [l0,l1,l2,l3,l4,l5,l6,l7],_ => exact ⟨by kernel_rfl,by kernel_rfl⟩) (fun ls h => by match ls,h with | [l0,l1,l2,l3,l4,l5,l6,l7],_ => rfl) (by decide) (by decide) (fun ls => rfl)
inductive z7 where
 | c0 (sb0_0 : Nat → Bool) (sb0_1 : Nat) (sb0_2 : Nat → Int) (sb0_3 : Int)
inductive z9 where
 | e0 (c0_0 : Nat → Bool) (c0_1 : Nat) (c0_2 : Nat → Int)
noncomputable def zM (n0 gb0_0 : Nat) (gb0_1 : Nat → Int) : z7 → Option (z7 ⊕ z9)
 | .c0 sb0_0 sb0_1 sb0_2 sb0_3 =>
 bif decide (sb0_3 < (gb0_0 : Int)) then
 (bif inR sb0_3 gb0_0 then
 (bif inR (gb0_1 (sb0_3).toNat) ((n0 : Int)).toNat then
 (bif (sb0_0 ((gb0_1 (sb0_3).toNat)).toNat) then
 (some (.inl (.c0 sb0_0 sb0_1 sb0_2 (IntKind.i64.wrap (sb0_3 + 1)))))
 else (bif decide (sb0_1 ≤ 1000000) then
 (some (.inl (.c0 (updF sb0_0 ((gb0_1 (sb0_3).toNat)).toNat true) (sb0_1 + 1) (updF sb0_2 sb0_1 (gb0_1 (sb0_3).toNat)) (IntKind.i64.wrap (sb0_3 + 1)))))
 else (none)))
 else (none))
 else (none))
 else (some (.inr (.e0 sb0_0 sb0_1 sb0_2)))
noncomputable def zfI : Code := zb6 Try.f50 [1,1,1,1,0,0,0,1,0,1,1,1,1,1,0,0]
def zjs (a0 : Option Addr) (p0 q0 n0 k0 : Nat) (A0 : Nat → Insn) (s0_0 : Nat → Bool) (s0_1 : Nat) (s0_2 : Nat → Int) (gb0_0 : Nat) (gb0_1 : Nat → Int) (rb1 : (Int) × (Bool)) : z7 → List L1 → List Value
 | .c0 sb0_0 sb0_1 sb0_2 sb0_3,ls => [.slice a0 n0 (n0 + k0),(rowV (lget ls 0) ((n0 : Int)).toNat 1),(rowV (lget ls 5) sb0_1 1),(rowV (lget ls 4) gb0_0 1),.int .i64 ((gb0_0 : Int)),.int .i64 (sb0_3)]
def zjq : z7 → List (Nat × Nat)
 | .c0 _ _ _ _ => [(1,2),(2,40),(3,17)]
noncomputable def zjj (a0 : Option Addr) (p0 q0 n0 k0 : Nat) (A0 : Nat → Insn) (s0_0 : Nat → Bool) (s0_1 : Nat) (s0_2 : Nat → Int) (gb0_0 : Nat) (gb0_1 : Nat → Int) (rb1 : (Int) × (Bool)) (s : z7) : List L1 → List Value := mrgF (zjq s) (zjs a0 p0 q0 n0 k0 A0 s0_0 s0_1 s0_2 gb0_0 gb0_1 rb1 s) 6
def zjh (a0 : Option Addr) (p0 q0 n0 k0 : Nat) (A0 : Nat → Insn) (s0_0 : Nat → Bool) (s0_1 : Nat) (s0_2 : Nat → Int) (gb0_0 : Nat) (gb0_1 : Nat → Int) (rb1 : (Int) × (Bool)) : z7 → List L1 → List Obj
 | .c0 sb0_0 sb0_1 sb0_2 sb0_3,ls => [rowO (lget ls 0) (esG cB ((n0 : Int)).toNat sb0_0) 4 ((n0 : Int)).toNat 1,unb,unb,unb,rowO (lget ls 4) (esG cZ gb0_0 gb0_1) 3 gb0_0 1,rowO (lget ls 5) (esG cZ sb0_1 sb0_2) 3 sb0_1 1,unb]
def zjo (a0 : Option Addr) (p0 q0 n0 k0 : Nat) (A0 : Nat → Insn) (s0_0 : Nat → Bool) (s0_1 : Nat) (s0_2 : Nat → Int) (gb0_0 : Nat) (gb0_1 : Nat → Int) (rb1 : (Int) × (Bool)) : z9 → List L1 → List Value
 | .e0 c0_0 c0_1 c0_2,ls => [.slice a0 n0 (n0 + k0),(rowV (lget ls 0) ((n0 : Int)).toNat 1),(rowV (lget ls 5) c0_1 1),(rowV (lget ls 4) gb0_0 1),.int .i64 ((gb0_0 : Int))]
def zjl : z9 → List (Nat × Nat)
 | .e0 _ _ _ => [(1,2),(2,40),(2,18)]
noncomputable def zfK (a0 : Option Addr) (p0 q0 n0 k0 : Nat) (A0 : Nat → Insn) (s0_0 : Nat → Bool) (s0_1 : Nat) (s0_2 : Nat → Int) (gb0_0 : Nat) (gb0_1 : Nat → Int) (rb1 : (Int) × (Bool)) (r : z9) : List L1 → List Value := mrgF (zjl r) (zjo a0 p0 q0 n0 k0 A0 s0_0 s0_1 s0_2 gb0_0 gb0_1 rb1 r) 6
def zdZ (a0 : Option Addr) (p0 q0 n0 k0 : Nat) (A0 : Nat → Insn) (s0_0 : Nat → Bool) (s0_1 : Nat) (s0_2 : Nat → Int) (gb0_0 : Nat) (gb0_1 : Nat → Int) (rb1 : (Int) × (Bool)) : z9 → List L1 → List Obj
 | .e0 c0_0 c0_1 c0_2,ls => [rowO (lget ls 0) (esG cB ((n0 : Int)).toNat c0_0) 4 ((n0 : Int)).toNat 1,unb,unb,unb,rowO (lget ls 4) (esG cZ gb0_0 gb0_1) 3 gb0_0 1,rowO (lget ls 5) (esG cZ c0_1 c0_2) 3 c0_1 1,unb]
def zjn : z9 → Ex
 | .e0 _ _ _ => (.exit 2)
theorem zjf (s0_0 : Nat → Bool) (s0_1 : Nat) (s0_2 : Nat → Int) (gb0_0 : Nat) (gb0_1 : Nat → Int) (rb1 : (Int) × (Bool)) (s : z7) (r : z9) (h : lpO (zM n0 gb0_0 gb0_1) s = some r) : zdm Try.prog M B0 S (.loop zfI) 7 (zjj a0 p0 q0 n0 k0 A0 s0_0 s0_1 s0_2 gb0_0 gb0_1 rb1 s) (zjh a0 p0 q0 n0 k0 A0 s0_0 s0_1 s0_2 gb0_0 gb0_1 rb1 s) (zjn r) 5 (zfK a0 p0 q0 n0 k0 A0 s0_0 s0_1 s0_2 gb0_0 gb0_1 rb1 r) (zdZ a0 p0 q0 n0 k0 A0 s0_0 s0_1 s0_2 gb0_0 gb0_1 rb1 r) 7 :=
 zb5 (fun s q e => by
  cases s with
  | c0 sb0_0 sb0_1 sb0_2 sb0_3 =>
   unfold zM at e
   dsimp only at e
   replace e := za e
   rcases e with ⟨hq0,e⟩ | ⟨hq0,e⟩
   ·replace e := za e
    rcases e with ⟨hq1,e⟩ | ⟨hq1,e⟩
    ·replace e := za e
     let P1 : List (PG Try.prog M B0 S) := [.b (zcR hq0),.q (zH (kd := .i64) (T := 36) (x := sb0_3) (N := gb0_0) (sz := 1) rfl (fun w => by kernel_rfl) hq1),.l (accG (i := 4) (f := cZ) (A := gb0_1) (k := (sb0_3).toNat) 0 [.int .i64 ((gb0_1 (sb0_3).toNat))] zb1 (ze hq1) rfl),.o,.o,.o]
     rcases e with ⟨hq2,e⟩ | ⟨hq2,e⟩
     ·replace e := za e
      let P2 : List (PG Try.prog M B0 S) := P1 ++ [.q (zH (kd := .i64) (T := 64) (x := (gb0_1 (sb0_3).toNat)) (N := ((n0 : Int)).toNat) (sz := 1) rfl (fun w => by kernel_rfl) hq2)]
      rcases e with ⟨hq3,e⟩ | ⟨hq3,e⟩
      ·cases e; exact zb hU (P2 ++ [.l (accG (i := 0) (f := cB) (A := sb0_0) (k := ((gb0_1 (sb0_3).toNat)).toNat) 0 [.bool true] zbc (ze hq2) (congrArg (fun b => [Value.bool b]) hq3)),.o,.o,.o]) [0,1,2,3,4,5] (fun b => rfl) (by decide) rfl rfl (fun b => by kernel_rfl)
      ·replace e := za e
       rcases e with ⟨hq4,e⟩ | ⟨hq4,e⟩
       ·cases e; exact zb hU (P2 ++ [.l (accG (i := 0) (f := cB) (A := sb0_0) (k := ((gb0_1 (sb0_3).toNat)).toNat) 0 [.bool false] zbc (ze hq2) (congrArg (fun b => [Value.bool b]) hq3)),.o,.o,.o,.q (zH (kd := .i64) (T := 64) (x := (gb0_1 (sb0_3).toNat)) (N := ((n0 : Int)).toNat) (sz := 1) rfl (fun w => by kernel_rfl) hq2),.x (zd0 (T := 4) (e := 4) (f := cB) (A := sb0_0) (v := true) 0 (.bool true) zbc zla rfl rfl (fun w => by kernel_rfl) (ze hq2)) [0],.o,.o,.o,.x (zer (ty := 36) rt36 #[false,false] (f := cZ) (N := sb0_1) (A := sb0_2) (c := 1) [(gb0_1 (sb0_3).toNat)] (T' := 3) .row zb1 zme hq4 rfl (by decide)) [5,7],.o,.o,.o]) [0,1,2,3,4,8] (fun b => rfl) (by decide) rfl rfl (fun b => by kernel_rfl)
       ·exact zd e
     ·exact zd e
    ·exact zd e
   ·cases e; exact ⟨zcn 2,zb hU [.b (zb7 hq0)] [0,1,2,3,4,5] (fun b => rfl) (by decide) rfl rfl (fun b => by kernel_rfl)⟩) s r h
noncomputable def zfh (a0 : Option Addr) (p0 q0 n0 k0 : Nat) (A0 : Nat → Insn) (s0_0 : Nat → Bool) (s0_1 : Nat) (s0_2 : Nat → Int) (gb0_0 : Nat) (gb0_1 : Nat → Int) (rb1 : (Int) × (Bool)) (sb0_0 : Nat → Bool) (sb0_1 : Nat) (sb0_2 : Nat → Int) (sb0_3 : Int) (ls : List L1) : List Value := List.append [.slice a0 n0 (n0 + k0),((lget ls 3).u 1),((lget ls 3).u 2),(rowV (lget ls 0) ((n0 : Int)).toNat 1),(rowV (lget ls 5) sb0_1 1),.int .i64 ((s0_2 ((IntKind.i64.wrap ((s0_1 : Int) - 1))).toNat)),(rowV (lget ls 4) gb0_0 1),.int .i64 (rb1.1),.bool false] (List.append (jks (lget ls 3).u 9 8) (List.append [(rowV (lget ls 2) s0_1 1),.int .i64 ((s0_1 : Int)),.bool true,(rowV (lget ls 2) s0_1 1),(rowV (lget ls 2) s0_1 1),.int .i64 ((s0_1 : Int)),.int .i64 ((IntKind.i64.wrap ((s0_1 : Int) - 1))),.pointer (some ⟨(lget ls 2).n,0 + ((IntKind.i64.wrap ((s0_1 : Int) - 1))).toNat * 1,none⟩),.int .i64 ((s0_2 ((IntKind.i64.wrap ((s0_1 : Int) - 1))).toNat)),(rowV (lget ls 2) s0_1 1),(rowV (lget ls 2) s0_1 1),.int .i64 ((s0_1 : Int)),.int .i64 ((IntKind.i64.wrap ((s0_1 : Int) - 1))),(rowV (lget ls 5) ((IntKind.i64.wrap ((s0_1 : Int) - 1))).toNat 1),.slice a0 n0 (n0 + k0),.int .i64 ((s0_2 ((IntKind.i64.wrap ((s0_1 : Int) - 1))).toNat)),(rowV (lget ls 4) gb0_0 1),.tuple #[.int .i64 (rb1.1),.bool (rb1.2)],.slice a0 n0 (n0 + k0),.int .i64 ((s0_2 ((IntKind.i64.wrap ((s0_1 : Int) - 1))).toNat)),.tuple #[.int .i64 (rb1.1),.bool (rb1.2)],.int .i64 (rb1.1),.bool false,.bool false] (List.append (jks (lget ls 3).u 41 4) (List.append [(rowV (lget ls 4) gb0_0 1),.int .i64 ((gb0_0 : Int)),.int .i64 (sb0_3)] (jks (lget ls 3).u 48 17)))))
def zeW (a0 : Option Addr) (p0 q0 n0 k0 : Nat) (A0 : Nat → Insn) (s0_0 : Nat → Bool) (s0_1 : Nat) (s0_2 : Nat → Int) (gb0_0 : Nat) (gb0_1 : Nat → Int) (rb1 : (Int) × (Bool)) (sb0_0 : Nat → Bool) (sb0_1 : Nat) (sb0_2 : Nat → Int) (sb0_3 : Int) (ls : List L1) : List Obj := [rowO (lget ls 0) (esG cB ((n0 : Int)).toNat sb0_0) 4 ((n0 : Int)).toNat 1,unb,unb,unb,rowO (lget ls 4) (esG cZ gb0_0 gb0_1) 3 gb0_0 1,rowO (lget ls 5) (esG cZ sb0_1 sb0_2) 3 sb0_1 1]
theorem zh4 (s0_0 : Nat → Bool) (s0_1 : Nat) (s0_2 : Nat → Int) (gb0_0 : Nat) (gb0_1 : Nat → Int) (rb1 : (Int) × (Bool)) (sb0_0 : Nat → Bool) (sb0_1 : Nat) (sb0_2 : Nat → Int) (sb0_3 : Int) (c0_0 : Nat → Bool) (c0_1 : Nat) (c0_2 : Nat → Int) (h : lpO (zM n0 gb0_0 gb0_1) (.c0 sb0_0 sb0_1 sb0_2 sb0_3) = some (.e0 c0_0 c0_1 c0_2)) : SpcG Try.prog M B0 S ⟨fun ls => .code (.loop zfI) (zfh a0 p0 q0 n0 k0 A0 s0_0 s0_1 s0_2 gb0_0 gb0_1 rb1 sb0_0 sb0_1 sb0_2 sb0_3 ls),zeW a0 p0 q0 n0 k0 A0 s0_0 s0_1 s0_2 gb0_0 gb0_1 rb1 sb0_0 sb0_1 sb0_2 sb0_3,2,(.exit 2),fun ls => zfK a0 p0 q0 n0 k0 A0 s0_0 s0_1 s0_2 gb0_0 gb0_1 rb1 (.e0 c0_0 c0_1 c0_2) (ls.take 5 ++ ls.drop 6),fun ls => (zdZ a0 p0 q0 n0 k0 A0 s0_0 s0_1 s0_2 gb0_0 gb0_1 rb1 (.e0 c0_0 c0_1 c0_2) (ls.take 5 ++ ls.drop 6)).take 5 ++ List.replicate 1 unb,fun ls => (zdZ a0 p0 q0 n0 k0 A0 s0_0 s0_1 s0_2 gb0_0 gb0_1 rb1 (.e0 c0_0 c0_1 c0_2) (ls.take 5 ++ ls.drop 6)).drop 5⟩ :=
 zr hU 0 (k0 := 6) (zjf hU a0 p0 q0 n0 k0 A0 hR0 s0_0 s0_1 s0_2 gb0_0 gb0_1 rb1 _ _ h) (zfh a0 p0 q0 n0 k0 A0 s0_0 s0_1 s0_2 gb0_0 gb0_1 rb1 sb0_0 sb0_1 sb0_2 sb0_3) (zeW a0 p0 q0 n0 k0 A0 s0_0 s0_1 s0_2 gb0_0 gb0_1 rb1 sb0_0 sb0_1 sb0_2 sb0_3) (fun _ => rfl) (fun ls h => by match ls,h with | [l0,l1,l2,l3,l4,l5],_ => exact ⟨by kernel_rfl,by kernel_rfl⟩) (fun ls h => by match ls,h with | [l0,l1,l2,l3,l4,l5],_ => rfl) (by decide) (by decide) (fun ls => rfl)
inductive zbV where
 | c0 (s0_0 : Nat → Bool) (s0_1 : Nat) (s0_2 : Nat → Int)
inductive zbR where
 | e0 (c0_0 : Nat → Bool)
noncomputable def zbd (n0 : Nat) (A0 : Nat → Insn) : zbV → Option (zbV ⊕ zbR)
 | .c0 s0_0 s0_1 s0_2 =>
 bif decide (0 < (s0_1 : Int)) then
 (bif inR (IntKind.i64.wrap ((s0_1 : Int) - 1)) s0_1 then
 (bif inR (IntKind.i64.wrap ((s0_1 : Int) - 1)) (s0_1 + 1) then
 (bif decide (s0_1 ≤ 1000000) then
 ((zbs n0 A0 (s0_2 ((IntKind.i64.wrap ((s0_1 : Int) - 1))).toNat)).bind fun gb0 => match gb0 with
 | .e0  => ((zdg n0 A0 (s0_2 ((IntKind.i64.wrap ((s0_1 : Int) - 1))).toNat)).bind fun rb1 =>
 bif rb1.2 then
 ((lpO (zS n0 rb1) (.c0 s0_0 ((IntKind.i64.wrap ((s0_1 : Int) - 1))).toNat s0_2 0)).bind fun gb2 => match gb2 with
 | .e0 gb2_0 gb2_1 gb2_2 gb2_3 =>
 some (.inl (.c0 gb2_0 gb2_2 gb2_3)))
 else (some (.inl (.c0 s0_0 ((IntKind.i64.wrap ((s0_1 : Int) - 1))).toNat s0_2))))
 | .e1 gb0_0 gb0_1 => ((zdg n0 A0 (s0_2 ((IntKind.i64.wrap ((s0_1 : Int) - 1))).toNat)).bind fun rb1 =>
 bif rb1.2 then
 (bif decide (gb0_0 ≤ 1000000) then
 ((lpO (zN n0 gb0_0 gb0_1 rb1) (.c0 s0_0 ((IntKind.i64.wrap ((s0_1 : Int) - 1))).toNat s0_2 0)).bind fun gb2 => match gb2 with
 | .e0 gb2_0 gb2_1 gb2_2 gb2_3 =>
 some (.inl (.c0 gb2_0 gb2_2 gb2_3)))
 else (none))
 else ((lpO (zM n0 gb0_0 gb0_1) (.c0 s0_0 ((IntKind.i64.wrap ((s0_1 : Int) - 1))).toNat s0_2 0)).bind fun gb2 => match gb2 with
 | .e0 gb2_0 gb2_1 gb2_2 =>
 some (.inl (.c0 gb2_0 gb2_1 gb2_2)))))
 else (none))
 else (none))
 else (none))
 else (some (.inr (.e0 s0_0)))
noncomputable def zig : Code := zb6 Try.f50 [1,1,1,1,0,0,0]
def zos (a0 : Option Addr) (p0 q0 n0 k0 : Nat) (A0 : Nat → Insn) : zbV → List L1 → List Value
 | .c0 s0_0 s0_1 s0_2,ls => [.slice a0 n0 (n0 + k0),(rowV (lget ls 0) ((n0 : Int)).toNat 1),(rowV (lget ls 2) s0_1 1)]
def zoy : zbV → List (Nat × Nat)
 | .c0 _ _ _ => [(1,2),(2,60)]
noncomputable def zoa (a0 : Option Addr) (p0 q0 n0 k0 : Nat) (A0 : Nat → Insn) (s : zbV) : List L1 → List Value := mrgF (zoy s) (zos a0 p0 q0 n0 k0 A0 s) 3
def zob (a0 : Option Addr) (p0 q0 n0 k0 : Nat) (A0 : Nat → Insn) : zbV → List L1 → List Obj
 | .c0 s0_0 s0_1 s0_2,ls => [rowO (lget ls 0) (esG cB ((n0 : Int)).toNat s0_0) 4 ((n0 : Int)).toNat 1,unb,rowO (lget ls 2) (esG cZ s0_1 s0_2) 3 s0_1 1,unb]
def zoq (a0 : Option Addr) (p0 q0 n0 k0 : Nat) (A0 : Nat → Insn) : zbR → List L1 → List Value
 | .e0 c0_0,ls => [.slice a0 n0 (n0 + k0),(rowV (lget ls 0) ((n0 : Int)).toNat 1)]
def zn8 : zbR → List (Nat × Nat)
 | .e0 _ => [(1,2),(1,61)]
noncomputable def zh9 (a0 : Option Addr) (p0 q0 n0 k0 : Nat) (A0 : Nat → Insn) (r : zbR) : List L1 → List Value := mrgF (zn8 r) (zoq a0 p0 q0 n0 k0 A0 r) 3
def zfl (a0 : Option Addr) (p0 q0 n0 k0 : Nat) (A0 : Nat → Insn) : zbR → List L1 → List Obj
 | .e0 c0_0,ls => [rowO (lget ls 0) (esG cB ((n0 : Int)).toNat c0_0) 4 ((n0 : Int)).toNat 1,unb,unb,unb]
def zoe : zbR → Ex
 | .e0 _ => (.exit 0)
theorem zoo (s : zbV) (r : zbR) (h : lpO (zbd n0 A0) s = some r) : zdm Try.prog M B0 S (.loop zig) 4 (zoa a0 p0 q0 n0 k0 A0 s) (zob a0 p0 q0 n0 k0 A0 s) (zoe r) 2 (zh9 a0 p0 q0 n0 k0 A0 r) (zfl a0 p0 q0 n0 k0 A0 r) 4 :=
 zb5 (fun s q e => by
  cases s with
  | c0 s0_0 s0_1 s0_2 =>
   unfold zbd at e
   dsimp only at e
   replace e := za e
   rcases e with ⟨hq0,e⟩ | ⟨hq0,e⟩
   ·replace e := za e
    let P1 : List (PG Try.prog M B0 S) := [.o,.o,.b (zid hq0),.o,.o,.o,.o]
    rcases e with ⟨hq1,e⟩ | ⟨hq1,e⟩
    ·replace e := za e
     let P2 : List (PG Try.prog M B0 S) := P1 ++ [.q (zH (kd := .i64) (T := 36) (x := (IntKind.i64.wrap ((s0_1 : Int) - 1))) (N := s0_1) (sz := 1) rfl (fun w => by kernel_rfl) hq1),.l (accG (i := 2) (f := cZ) (A := s0_2) (k := ((IntKind.i64.wrap ((s0_1 : Int) - 1))).toNat) 0 [.int .i64 ((s0_2 ((IntKind.i64.wrap ((s0_1 : Int) - 1))).toNat))] zb1 (ze hq1) rfl),.o,.o,.o,.o,.o]
     rcases e with ⟨hq2,e⟩ | ⟨hq2,e⟩
     ·replace e := za e
      rcases e with ⟨hq3,e⟩ | ⟨hq3,e⟩
      ·replace e := zf e
       obtain ⟨gb0,e_gb0,e⟩ := e
       let P3 : List (PG Try.prog M B0 S) := P2 ++ [.x (zz1 rt36 (f := cZ) (N := s0_1) (A := s0_2) (x := (IntKind.i64.wrap ((s0_1 : Int) - 1))) zb1 (fun w => by kernel_rfl) hq2 hq3) [2],.o,.o,.o]
       rcases gb0 with _ | ⟨gb0_0,gb0_1⟩
       ·try dsimp only at e
        replace e := zf e
        obtain ⟨rb1,e_rb1,e⟩ := e
        try dsimp only at e
        replace e := za e
        let P4 : List (PG Try.prog M B0 S) := P3 ++ [.xg (zlz hU a0 p0 q0 n0 k0 A0 hR0 (s0_2 ((IntKind.i64.wrap ((s0_1 : Int) - 1))).toNat)  e_gb0) [],.o,.o,.o,.cg (zkH hU a0 p0 q0 n0 k0 A0 hR0 (s0_2 ((IntKind.i64.wrap ((s0_1 : Int) - 1))).toNat) rb1 e_rb1),.o,.o]
        rcases e with ⟨hq4,e⟩ | ⟨hq4,e⟩
        ·replace e := zf e
         obtain ⟨gb2,e_gb2,e⟩ := e
         obtain ⟨gb2_0,gb2_1,gb2_2,gb2_3⟩ := gb2
         try dsimp only at e
         cases e; exact zb hU (P4 ++ [.b hq4,.o,.o,.o,.o,.o,.o,.x (zet (ty := 36) rt36 #[false,false] (f := cZ) (c := 1) rb1.1 (T' := 3) zb1 zme (by decide)) [5],.o,.o,.o,.o,.cp,.cx (zik hU a0 p0 q0 n0 k0 A0 hR0 s0_0 s0_1 s0_2 rb1 s0_0 ((IntKind.i64.wrap ((s0_1 : Int) - 1))).toNat s0_2 0 gb2_0 gb2_1 gb2_2 gb2_3 e_gb2) [0,1,2,3,5,6,4]]) [0,1,7] (fun b => rfl) (by decide) rfl rfl (fun b => by kernel_rfl)
        ·cases e; exact zb hU (P4 ++ [.b hq4,.o,.o,.o,.o,.o,.o,.o]) [0,1,4] (fun b => rfl) (by decide) rfl rfl (fun b => by kernel_rfl)
       ·try dsimp only at e
        replace e := zf e
        obtain ⟨rb1,e_rb1,e⟩ := e
        try dsimp only at e
        replace e := za e
        let P5 : List (PG Try.prog M B0 S) := P3 ++ [.xg (zlK hU a0 p0 q0 n0 k0 A0 hR0 (s0_2 ((IntKind.i64.wrap ((s0_1 : Int) - 1))).toNat) gb0_0 gb0_1 e_gb0) [],.o,.o,.o,.cg (zkH hU a0 p0 q0 n0 k0 A0 hR0 (s0_2 ((IntKind.i64.wrap ((s0_1 : Int) - 1))).toNat) rb1 e_rb1),.o,.o]
        rcases e with ⟨hq4,e⟩ | ⟨hq4,e⟩
        ·replace e := za e
         rcases e with ⟨hq5,e⟩ | ⟨hq5,e⟩
         ·replace e := zf e
          obtain ⟨gb2,e_gb2,e⟩ := e
          obtain ⟨gb2_0,gb2_1,gb2_2,gb2_3⟩ := gb2
          try dsimp only at e
          cases e; exact zb hU (P5 ++ [.b hq4,.o,.o,.o,.o,.o,.o,.x (zer (ty := 36) rt36 #[false,false] (f := cZ) (N := gb0_0) (A := gb0_1) (c := 1) [rb1.1] (T' := 3) .row zb1 zme hq5 rfl (by decide)) [5,6],.o,.o,.o,.o,.cp,.cx (zh5 hU a0 p0 q0 n0 k0 A0 hR0 s0_0 s0_1 s0_2 gb0_0 gb0_1 rb1 s0_0 ((IntKind.i64.wrap ((s0_1 : Int) - 1))).toNat s0_2 0 gb2_0 gb2_1 gb2_2 gb2_3 e_gb2) [0,1,2,3,5,6,7,4]]) [0,1,8] (fun b => rfl) (by decide) rfl rfl (fun b => by kernel_rfl)
         ·exact zd e
        ·replace e := zf e
         obtain ⟨gb2,e_gb2,e⟩ := e
         obtain ⟨gb2_0,gb2_1,gb2_2⟩ := gb2
         try dsimp only at e
         cases e; exact zb hU (P5 ++ [.b hq4,.o,.o,.o,.o,.o,.o,.cp,.cx (zh4 hU a0 p0 q0 n0 k0 A0 hR0 s0_0 s0_1 s0_2 gb0_0 gb0_1 rb1 s0_0 ((IntKind.i64.wrap ((s0_1 : Int) - 1))).toNat s0_2 0 gb2_0 gb2_1 gb2_2 e_gb2) [0,1,2,3,5,4]]) [0,1,6] (fun b => rfl) (by decide) rfl rfl (fun b => by kernel_rfl)
      ·exact zd e
     ·exact zd e
    ·exact zd e
   ·cases e; exact ⟨zcn 0,zb hU [.o,.o,.b (zgR hq0)] [0,1,3] (fun b => rfl) (by decide) rfl rfl (fun b => by kernel_rfl)⟩) s r h
noncomputable def zg8 (a0 : Option Addr) (p0 q0 n0 k0 : Nat) (A0 : Nat → Insn) (s0_0 : Nat → Bool) (s0_1 : Nat) (s0_2 : Nat → Int) (ls : List L1) : List Value := List.append [.slice a0 n0 (n0 + k0),undef,.slice none 0 0,(rowV (lget ls 0) ((n0 : Int)).toNat 1),(rowV (lget ls 2) s0_1 1)] (List.append (und 6) (List.append [.slice a0 n0 (n0 + k0),.int .i64 ((n0 : Int)),(rowV (lget ls 0) ((n0 : Int)).toNat 1),(rowV (lget ls 0) ((n0 : Int)).toNat 1),.pointer (some ⟨(lget ls 0).n,0 + 0 * 1,none⟩),.slice (some ⟨(lget ls 1).n,0,none⟩) 1 1] (und 48)))
def zgU (a0 : Option Addr) (p0 q0 n0 k0 : Nat) (A0 : Nat → Insn) (s0_0 : Nat → Bool) (s0_1 : Nat) (s0_2 : Nat → Int) (ls : List L1) : List Obj := [rowO (lget ls 0) (esG cB ((n0 : Int)).toNat s0_0) 4 ((n0 : Int)).toNat 1,unb,rowO (lget ls 2) (esG cZ s0_1 s0_2) 3 s0_1 1]
theorem zjt (s0_0 : Nat → Bool) (s0_1 : Nat) (s0_2 : Nat → Int) (c0_0 : Nat → Bool) (h : lpO (zbd n0 A0) (.c0 s0_0 s0_1 s0_2) = some (.e0 c0_0)) : SpcG Try.prog M B0 S ⟨fun ls => .code (.loop zig) (zg8 a0 p0 q0 n0 k0 A0 s0_0 s0_1 s0_2 ls),zgU a0 p0 q0 n0 k0 A0 s0_0 s0_1 s0_2,2,(.exit 0),fun ls => zh9 a0 p0 q0 n0 k0 A0 (.e0 c0_0) (ls.take 2 ++ ls.drop 3),fun ls => (zfl a0 p0 q0 n0 k0 A0 (.e0 c0_0) (ls.take 2 ++ ls.drop 3)).take 2 ++ List.replicate 1 unb,fun ls => (zfl a0 p0 q0 n0 k0 A0 (.e0 c0_0) (ls.take 2 ++ ls.drop 3)).drop 2⟩ :=
 zr hU 0 (k0 := 3) (zoo hU a0 p0 q0 n0 k0 A0 hR0 _ _ h) (zg8 a0 p0 q0 n0 k0 A0 s0_0 s0_1 s0_2) (zgU a0 p0 q0 n0 k0 A0 s0_0 s0_1 s0_2) (fun _ => rfl) (fun ls h => by match ls,h with | [l0,l1,l2],_ => exact ⟨by kernel_rfl,by kernel_rfl⟩) (fun ls h => by match ls,h with | [l0,l1,l2],_ => rfl) (by decide) (by decide) (fun ls => rfl)
inductive zq1 where
 | e0 (c0_0 : Nat → Bool)
noncomputable def zfg (n0 : Nat) (A0 : Nat → Insn) : Option zq1 :=
 bif inR (n0 : Int) 1000001 then
 (bif inR 0 ((n0 : Int)).toNat then
 ((lpO (zbd n0 A0) (.c0 (updF (fun _ => false) 0 true) 1 (fun _ => 0))).bind fun g0 => match g0 with
 | .e0 g0_0 =>
 some (.e0 g0_0))
 else (none))
 else (none)
def zpT (a0 : Option Addr) (p0 q0 n0 k0 : Nat) (A0 : Nat → Insn) (c0_0 : Nat → Bool) : Spc := ⟨fun ls => .call 50 #[.slice a0 n0 (n0 + k0)],fun ls => [],1,.normal,fun ls => [(rowV (lget ls 0) ((n0 : Int)).toNat 1)],fun ls => [],fun ls => [rowO (lget ls 0) (esG cB ((n0 : Int)).toNat c0_0) 4 ((n0 : Int)).toNat 1]⟩
theorem zpl (c0_0 : Nat → Bool) (e : zfg n0 A0 = some (.e0 c0_0)) : SpcG Try.prog M B0 S (zpT a0 p0 q0 n0 k0 A0 c0_0) := by
 unfold zfg at e
 replace e := za e
 rcases e with ⟨hq0,e⟩ | ⟨hq0,e⟩
 ·replace e := za e
  rcases e with ⟨hq1,e⟩ | ⟨hq1,e⟩
  ·replace e := zf e
   obtain ⟨g0,e_g0,e⟩ := e
   obtain ⟨g0_0⟩ := g0
   try dsimp only at e
   injection e with e; injection e with i0; subst i0; exact zo hU (P := Try.prog) Try.func50 (fun xs w => by kernel_rfl) 0 _ _ (fun _ => rfl) _ _ _ [0] [.o,.o,.o,.x (zs4 rt64 (f := cB) (x := (n0 : Int)) (a0 := false) zbc (by kernel_rfl) hq0 (by decide)) [],.o,.o,.q (zH (kd := .i64) (T := 64) (x := 0) (N := ((n0 : Int)).toNat) (sz := 1) rfl (fun w => by kernel_rfl) hq1),.x (zd0 (T := 4) (e := 4) (f := cB) (A := (fun _ => false)) (v := true) 0 (.bool true) zbc zla rfl rfl (fun w => by kernel_rfl) (ze hq1)) [0],.o,.x (zhr (es := esG cZ 1 (fun _ => 0)) (e := 3) (n := 1) (sz := 1)) [1],.cp,.cx (zjt hU a0 p0 q0 n0 k0 A0 hR0 (updF (fun _ => false) 0 true) 1 (fun _ => 0) g0_0 e_g0) [0,1,2],.o,.o] [] (fun b => by kernel_rfl)
  ·exact zd e
 ·exact zd e
inductive zxN where
 | e0 (c0_0 : Nat → Bool)
noncomputable def zg1 (n0 : Nat) (A0 : Nat → Insn) : Option zxN :=
 (zb0 n0 A0).bind fun r0 =>
 bif r0.2 == 0 then
 ((zfg n0 A0).bind fun g1 => match g1 with
 | .e0 g1_0 =>
 some (.e0 g1_0))
 else (none)
def zwk (a0 : Option Addr) (p0 q0 n0 k0 : Nat) (A0 : Nat → Insn) (c0_0 : Nat → Bool) : Spc := ⟨fun ls => .call 33 #[.slice a0 n0 (n0 + k0)],fun ls => [],1,.normal,fun ls => [.tuple #[(rowV (lget ls 0) ((n0 : Int)).toNat 1),.int .i64 (0)]],fun ls => [],fun ls => [rowO (lget ls 0) (esG cB ((n0 : Int)).toNat c0_0) 4 ((n0 : Int)).toNat 1]⟩
theorem zqV (c0_0 : Nat → Bool) (e : zg1 n0 A0 = some (.e0 c0_0)) : SpcG Try.prog M B0 S (zwk a0 p0 q0 n0 k0 A0 c0_0) := by
 unfold zg1 at e
 replace e := zf e
 obtain ⟨r0,e_r0,e⟩ := e
 try dsimp only at e
 replace e := za e
 rcases e with ⟨hq0,e⟩ | ⟨hq0,e⟩
 ·replace e := zf e
  obtain ⟨g1,e_g1,e⟩ := e
  obtain ⟨g1_0⟩ := g1
  try dsimp only at e
  injection e with e; injection e with i0; subst i0; exact zo hU (P := Try.prog) Try.func33 (fun xs w => by kernel_rfl) 0 _ _ (fun _ => rfl) _ _ _ [0] [.o,.o,.o,.cg (zfy hU a0 p0 q0 n0 k0 A0 hR0 r0 e_r0),.o,.o,.o,.o,.o,.o,.b (zdq hq0),.o,.xg (zpl hU a0 p0 q0 n0 k0 A0 hR0 g1_0 e_g1) [],.o,.o] [] (fun b => by kernel_rfl)
 ·exact zd e
end

end Go.Proofs.Ytliijnpblddjfaa


