/-
  Instructions: the reference.
-/
import Derived.Test.YtnoflelhkgdebaaS1CB
namespace Go.Proofs.Ytnoflelhkgdebaa
open Go.RowKit
set_option linter.unusedVariables false
set_option linter.unusedSimpArgs false
set_option linter.unusedSectionVars false
set_option maxRecDepth 100000
set_option maxHeartbeats 4000000
inductive Ex_barbicanref1_one_J0 where
  | e0 (c0_0 : Bool)
noncomputable def jp_barbicanref1_one_J0 (A0 : Nat → Insn) (y2 : Int) : Bool :=
  bif BitVec.ult (10#8) ((A0 (y2).toNat)).fDst then
    (true)
  else (bif BitVec.ult (10#8) ((A0 (y2).toNat)).fSrc then
    (true)
  else (bif ((A0 (y2).toNat)).fDst == 10#8 then
    (bif m_barbicanref1_Writes ((A0 (y2).toNat)) then
      (true)
    else (false))
  else (false)))
noncomputable def bd_barbicanref1_one_J0 : Code := codeOf Try.f23 [1, 1, 0, 0, 1, 1, 0]
def fl_barbicanref1_one_J0 (a0 : Option Addr) (p0 : Nat) (q0 : Nat) (n0 : Nat) (k0 : Nat) (A0 : Nat → Insn) (a1 : Option Addr) (p1 : Nat) (q1 : Nat) (n1 : Nat) (k1 : Nat) (A1 : Nat → Bool) (y2 : Int) (ls : List L1) : List Value := [.slice a0 n0 (n0 + k0), .slice a1 n1 (n1 + k1), .int .i64 (y2), .int .i64 (0), .pointer (some ⟨(lget ls 0).n, 0, none⟩)]
noncomputable def fr_barbicanref1_one_J0 (a0 : Option Addr) (p0 : Nat) (q0 : Nat) (n0 : Nat) (k0 : Nat) (A0 : Nat → Insn) (a1 : Option Addr) (p1 : Nat) (q1 : Nat) (n1 : Nat) (k1 : Nat) (A1 : Nat → Bool) (y2 : Int) : List L1 → List Value := mrgF [(3, 3), (2, 96)] (fl_barbicanref1_one_J0 a0 p0 q0 n0 k0 A0 a1 p1 q1 n1 k1 A1 y2) 1
def Hs_barbicanref1_one_J0 (a0 : Option Addr) (p0 : Nat) (q0 : Nat) (n0 : Nat) (k0 : Nat) (A0 : Nat → Insn) (a1 : Option Addr) (p1 : Nat) (q1 : Nat) (n1 : Nat) (k1 : Nat) (A1 : Nat → Bool) (y2 : Int) (ls : List L1) : List Obj := [.cells #[.int .u8 (nn ((A0 (y2).toNat)).fOp), .int .u8 (nn ((A0 (y2).toNat)).fDst), .int .u8 (nn ((A0 (y2).toNat)).fSrc), .int .i16 (ii ((A0 (y2).toNat)).fOff), .int .i32 (ii ((A0 (y2).toNat)).fImm)] 37, unb]
def vl_barbicanref1_one_J0 (a0 : Option Addr) (p0 : Nat) (q0 : Nat) (n0 : Nat) (k0 : Nat) (A0 : Nat → Insn) (a1 : Option Addr) (p1 : Nat) (q1 : Nat) (n1 : Nat) (k1 : Nat) (A1 : Nat → Bool) (y2 : Int) : Ex_barbicanref1_one_J0 → List L1 → List Value
  | .e0 c0_0, ls => [.slice a0 n0 (n0 + k0), .slice a1 n1 (n1 + k1), .int .i64 (y2), .int .i64 (0), .pointer (some ⟨(lget ls 0).n, 0, none⟩), .bool (c0_0)]
def mk_barbicanref1_one_J0 : Ex_barbicanref1_one_J0 → List (Nat × Nat)
  | .e0 _ => [(3, 3), (2, 10), (1, 85)]
noncomputable def vf_barbicanref1_one_J0 (a0 : Option Addr) (p0 : Nat) (q0 : Nat) (n0 : Nat) (k0 : Nat) (A0 : Nat → Insn) (a1 : Option Addr) (p1 : Nat) (q1 : Nat) (n1 : Nat) (k1 : Nat) (A1 : Nat → Bool) (y2 : Int) (r : Ex_barbicanref1_one_J0) : List L1 → List Value := mrgF (mk_barbicanref1_one_J0 r) (vl_barbicanref1_one_J0 a0 p0 q0 n0 k0 A0 a1 p1 q1 n1 k1 A1 y2 r) 1
def Hf_barbicanref1_one_J0 (a0 : Option Addr) (p0 : Nat) (q0 : Nat) (n0 : Nat) (k0 : Nat) (A0 : Nat → Insn) (a1 : Option Addr) (p1 : Nat) (q1 : Nat) (n1 : Nat) (k1 : Nat) (A1 : Nat → Bool) (y2 : Int) : Ex_barbicanref1_one_J0 → List L1 → List Obj
  | .e0 c0_0, ls => [.cells #[.int .u8 (nn ((A0 (y2).toNat)).fOp), .int .u8 (nn ((A0 (y2).toNat)).fDst), .int .u8 (nn ((A0 (y2).toNat)).fSrc), .int .i16 (ii ((A0 (y2).toNat)).fOff), .int .i32 (ii ((A0 (y2).toNat)).fImm)] 37, unb]
def ex_barbicanref1_one_J0 : Ex_barbicanref1_one_J0 → Ex
  | .e0 _ => .normal
section
variable {M : Nat → Prop} {B0 : Nat} {S : World → Prop} (hU : Up M B0 S) (a0 : Option Addr) (p0 : Nat) (q0 : Nat) (n0 : Nat) (k0 : Nat) (A0 : Nat → Insn) (hR0 : Ro S c_Insn 5 a0 p0 q0 n0 A0) (a1 : Option Addr) (p1 : Nat) (q1 : Nat) (n1 : Nat) (k1 : Nat) (A1 : Nat → Bool) (hR1 : Ro S cB 1 a1 p1 q1 n1 A1) (y2 : Int) (c0_0 : Bool)
include hU a0 p0 q0 n0 k0 A0 hR0 a1 p1 q1 n1 k1 A1 hR1 y2 c0_0
theorem go_barbicanref1_one_J0 (e : jp_barbicanref1_one_J0 A0 y2 = c0_0) : GoesG Try.prog M B0 S bd_barbicanref1_one_J0 2 (fr_barbicanref1_one_J0 a0 p0 q0 n0 k0 A0 a1 p1 q1 n1 k1 A1 y2) (Hs_barbicanref1_one_J0 a0 p0 q0 n0 k0 A0 a1 p1 q1 n1 k1 A1 y2) (ex_barbicanref1_one_J0 (.e0 c0_0)) 1 (vf_barbicanref1_one_J0 a0 p0 q0 n0 k0 A0 a1 p1 q1 n1 k1 A1 y2 (.e0 c0_0)) (Hf_barbicanref1_one_J0 a0 p0 q0 n0 k0 A0 a1 p1 q1 n1 k1 A1 y2 (.e0 c0_0)) 2 := by
  unfold jp_barbicanref1_one_J0 at e
  replace e := cond_eq_or e
  rcases e with ⟨hq0, e⟩ | ⟨hq0, e⟩
  · subst e; exact goes_runM hU [.o, .a 0, .t (u_gt ((A0 (y2).toNat)).fDst (10#8)) hq0, .o, .o, .o, .o, .o] [0] (fun b => rfl) (by decide) rfl rfl (fun b => by kernel_rfl)
  · replace e := cond_eq_or e
    let P1 : List (PG Try.prog M B0 S) := [.o, .a 0, .t (u_gt ((A0 (y2).toNat)).fDst (10#8)) hq0, .o, .o, .a 0]
    rcases e with ⟨hq1, e⟩ | ⟨hq1, e⟩
    · subst e; exact goes_runM hU (P1 ++ [.t (u_gt ((A0 (y2).toNat)).fSrc (10#8)) hq1, .o, .o, .o, .o]) [0] (fun b => rfl) (by decide) rfl rfl (fun b => by kernel_rfl)
    · replace e := cond_eq_or e
      let P2 : List (PG Try.prog M B0 S) := P1 ++ [.t (u_gt ((A0 (y2).toNat)).fSrc (10#8)) hq1, .o, .o, .o, .a 0]
      rcases e with ⟨hq2, e⟩ | ⟨hq2, e⟩
      · replace e := cond_eq_or e
        rcases e with ⟨hq3, e⟩ | ⟨hq3, e⟩
        · subst e; exact goes_runM hU (P2 ++ [.t (u_eq ((A0 (y2).toNat)).fDst (10#8)) hq2, .o, .a 0, .cg (ok_barbicanref1_Writes hU ((A0 (y2).toNat)) true hq3), .o, .o, .o]) [0] (fun b => rfl) (by decide) rfl rfl (fun b => by kernel_rfl)
        · subst e; exact goes_runM hU (P2 ++ [.t (u_eq ((A0 (y2).toNat)).fDst (10#8)) hq2, .o, .a 0, .cg (ok_barbicanref1_Writes hU ((A0 (y2).toNat)) false hq3), .o, .o, .o]) [0] (fun b => rfl) (by decide) rfl rfl (fun b => by kernel_rfl)
      · subst e; exact goes_runM hU (P2 ++ [.t (u_eq ((A0 (y2).toNat)).fDst (10#8)) hq2, .o, .o, .o, .o]) [0] (fun b => rfl) (by decide) rfl rfl (fun b => by kernel_rfl)
def pre_barbicanref1_one_J0 (a0 : Option Addr) (p0 : Nat) (q0 : Nat) (n0 : Nat) (k0 : Nat) (A0 : Nat → Insn) (a1 : Option Addr) (p1 : Nat) (q1 : Nat) (n1 : Nat) (k1 : Nat) (A1 : Nat → Bool) (y2 : Int) (ls : List L1) : List Obj := [.cells #[.int .u8 (nn ((A0 (y2).toNat)).fOp), .int .u8 (nn ((A0 (y2).toNat)).fDst), .int .u8 (nn ((A0 (y2).toNat)).fSrc), .int .i16 (ii ((A0 (y2).toNat)).fOff), .int .i32 (ii ((A0 (y2).toNat)).fImm)] 37]
noncomputable def t0_barbicanref1_one_J0 (a0 : Option Addr) (p0 : Nat) (q0 : Nat) (n0 : Nat) (k0 : Nat) (A0 : Nat → Insn) (a1 : Option Addr) (p1 : Nat) (q1 : Nat) (n1 : Nat) (k1 : Nat) (A1 : Nat → Bool) (y2 : Int) (ls : List L1) : List Value := List.append [.slice a0 n0 (n0 + k0), .slice a1 n1 (n1 + k1), .int .i64 (y2), undef, undef, undef, .int .i64 (0), .pointer (some ⟨(lget ls 0).n, 0, none⟩), undef, undef, .slice a0 n0 (n0 + k0), .int .i64 (y2), .pointer (some ⟨p0, q0 + (y2).toNat * 5, none⟩), .agg #[.int .u8 (nn ((A0 (y2).toNat)).fOp), .int .u8 (nn ((A0 (y2).toNat)).fDst), .int .u8 (nn ((A0 (y2).toNat)).fSrc), .int .i16 (ii ((A0 (y2).toNat)).fOff), .int .i32 (ii ((A0 (y2).toNat)).fImm)], .bool false, .agg #[.int .u8 (nn ((A0 (y2).toNat)).fOp), .int .u8 (nn ((A0 (y2).toNat)).fDst), .int .u8 (nn ((A0 (y2).toNat)).fSrc), .int .i16 (ii ((A0 (y2).toNat)).fOff), .int .i32 (ii ((A0 (y2).toNat)).fImm)], .bool true, .bool false] (und 86)
theorem sp0_barbicanref1_one_J0_ok (h : jp_barbicanref1_one_J0 A0 y2 = c0_0) : SpcG Try.prog M B0 S (spcJ bd_barbicanref1_one_J0 (t0_barbicanref1_one_J0 a0 p0 q0 n0 k0 A0 a1 p1 q1 n1 k1 A1 y2) (pre_barbicanref1_one_J0 a0 p0 q0 n0 k0 A0 a1 p1 q1 n1 k1 A1 y2) 1 0 .normal (vf_barbicanref1_one_J0 a0 p0 q0 n0 k0 A0 a1 p1 q1 n1 k1 A1 y2 (.e0 c0_0)) (Hf_barbicanref1_one_J0 a0 p0 q0 n0 k0 A0 a1 p1 q1 n1 k1 A1 y2 (.e0 c0_0))) :=
  spcJ_ok hU (go_barbicanref1_one_J0 hU a0 p0 q0 n0 k0 A0 hR0 a1 p1 q1 n1 k1 A1 hR1 y2 c0_0 h) (fun _ => rfl) (fun ls h => by match ls, h with | [l0], _ => exact ⟨by kernel_rfl, by kernel_rfl⟩) (fun ls h => by match ls, h with | [l0], _ => rfl) (fun ls => rfl)
inductive Ex_barbicanref1_one_J1 where
  | e0 (c0_0 : Bool)
noncomputable def jp_barbicanref1_one_J1 (A0 : Nat → Insn) (y2 : Int) : Bool :=
  bif ((A0 ((IntKind.i64.wrap (y2 + 1))).toNat)).fOp == 0#8 then
    (bif ((A0 ((IntKind.i64.wrap (y2 + 1))).toNat)).fDst == 0#8 then
      (bif ((A0 ((IntKind.i64.wrap (y2 + 1))).toNat)).fSrc == 0#8 then
        (bif ((A0 ((IntKind.i64.wrap (y2 + 1))).toNat)).fOff == 0#16 then
          (bif ((A0 (y2).toNat)).fSrc == 0#8 then
            (false)
          else (bif ((A0 ((IntKind.i64.wrap (y2 + 1))).toNat)).fImm == 0#32 then
            (false)
          else (true)))
        else (true))
      else (true))
    else (true))
  else (true)
noncomputable def bd_barbicanref1_one_J1 : Code := codeOf Try.f23 [1, 1, 1, 0, 1, 0, 1, 1, 0]
def fl_barbicanref1_one_J1 (a0 : Option Addr) (p0 : Nat) (q0 : Nat) (n0 : Nat) (k0 : Nat) (A0 : Nat → Insn) (a1 : Option Addr) (p1 : Nat) (q1 : Nat) (n1 : Nat) (k1 : Nat) (A1 : Nat → Bool) (y2 : Int) (ls : List L1) : List Value := [.slice a0 n0 (n0 + k0), .slice a1 n1 (n1 + k1), .int .i64 (y2), .int .i64 (0), .pointer (some ⟨(lget ls 0).n, 0, none⟩), .pointer (some ⟨(lget ls 2).n, 0, none⟩)]
noncomputable def fr_barbicanref1_one_J1 (a0 : Option Addr) (p0 : Nat) (q0 : Nat) (n0 : Nat) (k0 : Nat) (A0 : Nat → Insn) (a1 : Option Addr) (p1 : Nat) (q1 : Nat) (n1 : Nat) (k1 : Nat) (A1 : Nat → Bool) (y2 : Int) : List L1 → List Value := mrgF [(3, 3), (3, 95)] (fl_barbicanref1_one_J1 a0 p0 q0 n0 k0 A0 a1 p1 q1 n1 k1 A1 y2) 3
def Hs_barbicanref1_one_J1 (a0 : Option Addr) (p0 : Nat) (q0 : Nat) (n0 : Nat) (k0 : Nat) (A0 : Nat → Insn) (a1 : Option Addr) (p1 : Nat) (q1 : Nat) (n1 : Nat) (k1 : Nat) (A1 : Nat → Bool) (y2 : Int) (ls : List L1) : List Obj := [.cells #[.int .u8 (nn ((A0 (y2).toNat)).fOp), .int .u8 (nn ((A0 (y2).toNat)).fDst), .int .u8 (nn ((A0 (y2).toNat)).fSrc), .int .i16 (ii ((A0 (y2).toNat)).fOff), .int .i32 (ii ((A0 (y2).toNat)).fImm)] 37, unb, .cells #[.int .u8 (nn ((A0 ((IntKind.i64.wrap (y2 + 1))).toNat)).fOp), .int .u8 (nn ((A0 ((IntKind.i64.wrap (y2 + 1))).toNat)).fDst), .int .u8 (nn ((A0 ((IntKind.i64.wrap (y2 + 1))).toNat)).fSrc), .int .i16 (ii ((A0 ((IntKind.i64.wrap (y2 + 1))).toNat)).fOff), .int .i32 (ii ((A0 ((IntKind.i64.wrap (y2 + 1))).toNat)).fImm)] 37, unb]
def vl_barbicanref1_one_J1 (a0 : Option Addr) (p0 : Nat) (q0 : Nat) (n0 : Nat) (k0 : Nat) (A0 : Nat → Insn) (a1 : Option Addr) (p1 : Nat) (q1 : Nat) (n1 : Nat) (k1 : Nat) (A1 : Nat → Bool) (y2 : Int) : Ex_barbicanref1_one_J1 → List L1 → List Value
  | .e0 c0_0, ls => [.slice a0 n0 (n0 + k0), .slice a1 n1 (n1 + k1), .int .i64 (y2), .int .i64 (0), .pointer (some ⟨(lget ls 0).n, 0, none⟩), .bool (c0_0)]
def mk_barbicanref1_one_J1 : Ex_barbicanref1_one_J1 → List (Nat × Nat)
  | .e0 _ => [(3, 3), (2, 67), (1, 28)]
noncomputable def vf_barbicanref1_one_J1 (a0 : Option Addr) (p0 : Nat) (q0 : Nat) (n0 : Nat) (k0 : Nat) (A0 : Nat → Insn) (a1 : Option Addr) (p1 : Nat) (q1 : Nat) (n1 : Nat) (k1 : Nat) (A1 : Nat → Bool) (y2 : Int) (r : Ex_barbicanref1_one_J1) : List L1 → List Value := mrgF (mk_barbicanref1_one_J1 r) (vl_barbicanref1_one_J1 a0 p0 q0 n0 k0 A0 a1 p1 q1 n1 k1 A1 y2 r) 3
def Hf_barbicanref1_one_J1 (a0 : Option Addr) (p0 : Nat) (q0 : Nat) (n0 : Nat) (k0 : Nat) (A0 : Nat → Insn) (a1 : Option Addr) (p1 : Nat) (q1 : Nat) (n1 : Nat) (k1 : Nat) (A1 : Nat → Bool) (y2 : Int) : Ex_barbicanref1_one_J1 → List L1 → List Obj
  | .e0 c0_0, ls => [.cells #[.int .u8 (nn ((A0 (y2).toNat)).fOp), .int .u8 (nn ((A0 (y2).toNat)).fDst), .int .u8 (nn ((A0 (y2).toNat)).fSrc), .int .i16 (ii ((A0 (y2).toNat)).fOff), .int .i32 (ii ((A0 (y2).toNat)).fImm)] 37, unb, .cells #[.int .u8 (nn ((A0 ((IntKind.i64.wrap (y2 + 1))).toNat)).fOp), .int .u8 (nn ((A0 ((IntKind.i64.wrap (y2 + 1))).toNat)).fDst), .int .u8 (nn ((A0 ((IntKind.i64.wrap (y2 + 1))).toNat)).fSrc), .int .i16 (ii ((A0 ((IntKind.i64.wrap (y2 + 1))).toNat)).fOff), .int .i32 (ii ((A0 ((IntKind.i64.wrap (y2 + 1))).toNat)).fImm)] 37, unb]
def ex_barbicanref1_one_J1 : Ex_barbicanref1_one_J1 → Ex
  | .e0 _ => .normal
theorem go_barbicanref1_one_J1 (e : jp_barbicanref1_one_J1 A0 y2 = c0_0) : GoesG Try.prog M B0 S bd_barbicanref1_one_J1 4 (fr_barbicanref1_one_J1 a0 p0 q0 n0 k0 A0 a1 p1 q1 n1 k1 A1 y2) (Hs_barbicanref1_one_J1 a0 p0 q0 n0 k0 A0 a1 p1 q1 n1 k1 A1 y2) (ex_barbicanref1_one_J1 (.e0 c0_0)) 3 (vf_barbicanref1_one_J1 a0 p0 q0 n0 k0 A0 a1 p1 q1 n1 k1 A1 y2 (.e0 c0_0)) (Hf_barbicanref1_one_J1 a0 p0 q0 n0 k0 A0 a1 p1 q1 n1 k1 A1 y2 (.e0 c0_0)) 4 := by
  unfold jp_barbicanref1_one_J1 at e
  replace e := cond_eq_or e
  rcases e with ⟨hq0, e⟩ | ⟨hq0, e⟩
  · replace e := cond_eq_or e
    let P1 : List (PG Try.prog M B0 S) := [.o, .a 2, .tn (u_ne ((A0 ((IntKind.i64.wrap (y2 + 1))).toNat)).fOp (0#8)) hq0, .o, .o, .a 2]
    rcases e with ⟨hq1, e⟩ | ⟨hq1, e⟩
    · replace e := cond_eq_or e
      let P2 : List (PG Try.prog M B0 S) := P1 ++ [.tn (u_ne ((A0 ((IntKind.i64.wrap (y2 + 1))).toNat)).fDst (0#8)) hq1, .o, .o, .o, .a 2]
      rcases e with ⟨hq2, e⟩ | ⟨hq2, e⟩
      · replace e := cond_eq_or e
        let P3 : List (PG Try.prog M B0 S) := P2 ++ [.tn (u_ne ((A0 ((IntKind.i64.wrap (y2 + 1))).toNat)).fSrc (0#8)) hq2, .o, .o, .o, .a 2]
        rcases e with ⟨hq3, e⟩ | ⟨hq3, e⟩
        · replace e := cond_eq_or e
          let P4 : List (PG Try.prog M B0 S) := P3 ++ [.tn (i_ne ((A0 ((IntKind.i64.wrap (y2 + 1))).toNat)).fOff (0#16)) hq3, .o, .o, .o, .a 0]
          rcases e with ⟨hq4, e⟩ | ⟨hq4, e⟩
          · subst e; exact goes_runM hU (P4 ++ [.tn (u_ne ((A0 (y2).toNat)).fSrc (0#8)) hq4, .o, .o, .o]) [0, 1, 2] (fun b => rfl) (by decide) rfl rfl (fun b => by kernel_rfl)
          · replace e := cond_eq_or e
            rcases e with ⟨hq5, e⟩ | ⟨hq5, e⟩
            · subst e; exact goes_runM hU (P4 ++ [.tn (u_ne ((A0 (y2).toNat)).fSrc (0#8)) hq4, .o, .o, .a 2, .tn (i_ne ((A0 ((IntKind.i64.wrap (y2 + 1))).toNat)).fImm (0#32)) hq5, .o, .o]) [0, 1, 2] (fun b => rfl) (by decide) rfl rfl (fun b => by kernel_rfl)
            · subst e; exact goes_runM hU (P4 ++ [.tn (u_ne ((A0 (y2).toNat)).fSrc (0#8)) hq4, .o, .o, .a 2, .tn (i_ne ((A0 ((IntKind.i64.wrap (y2 + 1))).toNat)).fImm (0#32)) hq5, .o, .o]) [0, 1, 2] (fun b => rfl) (by decide) rfl rfl (fun b => by kernel_rfl)
        · subst e; exact goes_runM hU (P3 ++ [.tn (i_ne ((A0 ((IntKind.i64.wrap (y2 + 1))).toNat)).fOff (0#16)) hq3, .o, .o, .o]) [0, 1, 2] (fun b => rfl) (by decide) rfl rfl (fun b => by kernel_rfl)
      · subst e; exact goes_runM hU (P2 ++ [.tn (u_ne ((A0 ((IntKind.i64.wrap (y2 + 1))).toNat)).fSrc (0#8)) hq2, .o, .o, .o, .o, .o]) [0, 1, 2] (fun b => rfl) (by decide) rfl rfl (fun b => by kernel_rfl)
    · subst e; exact goes_runM hU (P1 ++ [.tn (u_ne ((A0 ((IntKind.i64.wrap (y2 + 1))).toNat)).fDst (0#8)) hq1, .o, .o, .o, .o, .o, .o, .o]) [0, 1, 2] (fun b => rfl) (by decide) rfl rfl (fun b => by kernel_rfl)
  · subst e; exact goes_runM hU [.o, .a 2, .tn (u_ne ((A0 ((IntKind.i64.wrap (y2 + 1))).toNat)).fOp (0#8)) hq0, .o, .o, .o, .o, .o, .o, .o, .o] [0, 1, 2] (fun b => rfl) (by decide) rfl rfl (fun b => by kernel_rfl)
def pre_barbicanref1_one_J1 (a0 : Option Addr) (p0 : Nat) (q0 : Nat) (n0 : Nat) (k0 : Nat) (A0 : Nat → Insn) (a1 : Option Addr) (p1 : Nat) (q1 : Nat) (n1 : Nat) (k1 : Nat) (A1 : Nat → Bool) (y2 : Int) (ls : List L1) : List Obj := [.cells #[.int .u8 (nn ((A0 (y2).toNat)).fOp), .int .u8 (nn ((A0 (y2).toNat)).fDst), .int .u8 (nn ((A0 (y2).toNat)).fSrc), .int .i16 (ii ((A0 (y2).toNat)).fOff), .int .i32 (ii ((A0 (y2).toNat)).fImm)] 37, unb, .cells #[.int .u8 (nn ((A0 ((IntKind.i64.wrap (y2 + 1))).toNat)).fOp), .int .u8 (nn ((A0 ((IntKind.i64.wrap (y2 + 1))).toNat)).fDst), .int .u8 (nn ((A0 ((IntKind.i64.wrap (y2 + 1))).toNat)).fSrc), .int .i16 (ii ((A0 ((IntKind.i64.wrap (y2 + 1))).toNat)).fOff), .int .i32 (ii ((A0 ((IntKind.i64.wrap (y2 + 1))).toNat)).fImm)] 37]
noncomputable def t0_barbicanref1_one_J1 (a0 : Option Addr) (p0 : Nat) (q0 : Nat) (n0 : Nat) (k0 : Nat) (A0 : Nat → Insn) (a1 : Option Addr) (p1 : Nat) (q1 : Nat) (n1 : Nat) (k1 : Nat) (A1 : Nat → Bool) (y2 : Int) (ls : List L1) : List Value := List.append [.slice a0 n0 (n0 + k0), .slice a1 n1 (n1 + k1), .int .i64 (y2), ((lget ls 1).u 3), ((lget ls 1).u 4), ((lget ls 1).u 5), .int .i64 (0), .pointer (some ⟨(lget ls 0).n, 0, none⟩), .pointer (some ⟨(lget ls 2).n, 0, none⟩)] (List.append (jks (lget ls 1).u 9 9) (List.append [.bool false] (List.append (jks (lget ls 1).u 19 17) (List.append [.agg #[.int .u8 (nn ((A0 (y2).toNat)).fOp), .int .u8 (nn ((A0 (y2).toNat)).fDst), .int .u8 (nn ((A0 (y2).toNat)).fSrc), .int .i16 (ii ((A0 (y2).toNat)).fOff), .int .i32 (ii ((A0 (y2).toNat)).fImm)], .bool true, .int .i64 (y2), .int .i64 ((IntKind.i64.wrap (y2 + 1))), .slice a0 n0 (n0 + k0), .int .i64 ((n0 : Int)), .bool false, .slice a0 n0 (n0 + k0), .int .i64 (y2), .int .i64 ((IntKind.i64.wrap (y2 + 1))), .pointer (some ⟨p0, q0 + ((IntKind.i64.wrap (y2 + 1))).toNat * 5, none⟩), .agg #[.int .u8 (nn ((A0 ((IntKind.i64.wrap (y2 + 1))).toNat)).fOp), .int .u8 (nn ((A0 ((IntKind.i64.wrap (y2 + 1))).toNat)).fDst), .int .u8 (nn ((A0 ((IntKind.i64.wrap (y2 + 1))).toNat)).fSrc), .int .i16 (ii ((A0 ((IntKind.i64.wrap (y2 + 1))).toNat)).fOff), .int .i32 (ii ((A0 ((IntKind.i64.wrap (y2 + 1))).toNat)).fImm)]] (jks (lget ls 1).u 48 56)))))
theorem sp0_barbicanref1_one_J1_ok (h : jp_barbicanref1_one_J1 A0 y2 = c0_0) : SpcG Try.prog M B0 S (spcJ bd_barbicanref1_one_J1 (t0_barbicanref1_one_J1 a0 p0 q0 n0 k0 A0 a1 p1 q1 n1 k1 A1 y2) (pre_barbicanref1_one_J1 a0 p0 q0 n0 k0 A0 a1 p1 q1 n1 k1 A1 y2) 3 0 .normal (vf_barbicanref1_one_J1 a0 p0 q0 n0 k0 A0 a1 p1 q1 n1 k1 A1 y2 (.e0 c0_0)) (Hf_barbicanref1_one_J1 a0 p0 q0 n0 k0 A0 a1 p1 q1 n1 k1 A1 y2 (.e0 c0_0))) :=
  spcJ_ok hU (go_barbicanref1_one_J1 hU a0 p0 q0 n0 k0 A0 hR0 a1 p1 q1 n1 k1 A1 hR1 y2 c0_0 h) (fun _ => rfl) (fun ls h => by match ls, h with | [l0, l1, l2], _ => exact ⟨by kernel_rfl, by kernel_rfl⟩) (fun ls h => by match ls, h with | [l0, l1, l2], _ => rfl) (fun ls => rfl)
inductive Ex_barbicanref1_one_J2 where
  | e0 (c0_0 : Bool)
noncomputable def jp_barbicanref1_one_J2 (A0 : Nat → Insn) (y2 : Int) : Bool :=
  bif m_barbicanref1_Helper ((A0 (y2).toNat)) then
    (bif BitVec.slt ((A0 (y2).toNat)).fImm (1#32) then
      (true)
    else (bif BitVec.slt (28#32) ((A0 (y2).toNat)).fImm then
      (true)
    else (false)))
  else (false)
noncomputable def bd_barbicanref1_one_J2 : Code := codeOf Try.f23 [1, 1, 1, 1, 0, 0]
def fl_barbicanref1_one_J2 (a0 : Option Addr) (p0 : Nat) (q0 : Nat) (n0 : Nat) (k0 : Nat) (A0 : Nat → Insn) (a1 : Option Addr) (p1 : Nat) (q1 : Nat) (n1 : Nat) (k1 : Nat) (A1 : Nat → Bool) (y2 : Int) (ls : List L1) : List Value := [.slice a0 n0 (n0 + k0), .slice a1 n1 (n1 + k1), .int .i64 (y2), .int .i64 (0), .pointer (some ⟨(lget ls 0).n, 0, none⟩)]
noncomputable def fr_barbicanref1_one_J2 (a0 : Option Addr) (p0 : Nat) (q0 : Nat) (n0 : Nat) (k0 : Nat) (A0 : Nat → Insn) (a1 : Option Addr) (p1 : Nat) (q1 : Nat) (n1 : Nat) (k1 : Nat) (A1 : Nat → Bool) (y2 : Int) : List L1 → List Value := mrgF [(3, 3), (2, 96)] (fl_barbicanref1_one_J2 a0 p0 q0 n0 k0 A0 a1 p1 q1 n1 k1 A1 y2) 4
def Hs_barbicanref1_one_J2 (a0 : Option Addr) (p0 : Nat) (q0 : Nat) (n0 : Nat) (k0 : Nat) (A0 : Nat → Insn) (a1 : Option Addr) (p1 : Nat) (q1 : Nat) (n1 : Nat) (k1 : Nat) (A1 : Nat → Bool) (y2 : Int) (ls : List L1) : List Obj := [.cells #[.int .u8 (nn ((A0 (y2).toNat)).fOp), .int .u8 (nn ((A0 (y2).toNat)).fDst), .int .u8 (nn ((A0 (y2).toNat)).fSrc), .int .i16 (ii ((A0 (y2).toNat)).fOff), .int .i32 (ii ((A0 (y2).toNat)).fImm)] 37, unb, .cells #[.int .u8 (nn ((A0 ((IntKind.i64.wrap (y2 + 1))).toNat)).fOp), .int .u8 (nn ((A0 ((IntKind.i64.wrap (y2 + 1))).toNat)).fDst), .int .u8 (nn ((A0 ((IntKind.i64.wrap (y2 + 1))).toNat)).fSrc), .int .i16 (ii ((A0 ((IntKind.i64.wrap (y2 + 1))).toNat)).fOff), .int .i32 (ii ((A0 ((IntKind.i64.wrap (y2 + 1))).toNat)).fImm)] 37, unb, unb]
def vl_barbicanref1_one_J2 (a0 : Option Addr) (p0 : Nat) (q0 : Nat) (n0 : Nat) (k0 : Nat) (A0 : Nat → Insn) (a1 : Option Addr) (p1 : Nat) (q1 : Nat) (n1 : Nat) (k1 : Nat) (A1 : Nat → Bool) (y2 : Int) : Ex_barbicanref1_one_J2 → List L1 → List Value
  | .e0 c0_0, ls => [.slice a0 n0 (n0 + k0), .slice a1 n1 (n1 + k1), .int .i64 (y2), .int .i64 (0), .pointer (some ⟨(lget ls 0).n, 0, none⟩), .bool (c0_0)]
def mk_barbicanref1_one_J2 : Ex_barbicanref1_one_J2 → List (Nat × Nat)
  | .e0 _ => [(3, 3), (2, 79), (1, 16)]
noncomputable def vf_barbicanref1_one_J2 (a0 : Option Addr) (p0 : Nat) (q0 : Nat) (n0 : Nat) (k0 : Nat) (A0 : Nat → Insn) (a1 : Option Addr) (p1 : Nat) (q1 : Nat) (n1 : Nat) (k1 : Nat) (A1 : Nat → Bool) (y2 : Int) (r : Ex_barbicanref1_one_J2) : List L1 → List Value := mrgF (mk_barbicanref1_one_J2 r) (vl_barbicanref1_one_J2 a0 p0 q0 n0 k0 A0 a1 p1 q1 n1 k1 A1 y2 r) 4
def Hf_barbicanref1_one_J2 (a0 : Option Addr) (p0 : Nat) (q0 : Nat) (n0 : Nat) (k0 : Nat) (A0 : Nat → Insn) (a1 : Option Addr) (p1 : Nat) (q1 : Nat) (n1 : Nat) (k1 : Nat) (A1 : Nat → Bool) (y2 : Int) : Ex_barbicanref1_one_J2 → List L1 → List Obj
  | .e0 c0_0, ls => [.cells #[.int .u8 (nn ((A0 (y2).toNat)).fOp), .int .u8 (nn ((A0 (y2).toNat)).fDst), .int .u8 (nn ((A0 (y2).toNat)).fSrc), .int .i16 (ii ((A0 (y2).toNat)).fOff), .int .i32 (ii ((A0 (y2).toNat)).fImm)] 37, unb, .cells #[.int .u8 (nn ((A0 ((IntKind.i64.wrap (y2 + 1))).toNat)).fOp), .int .u8 (nn ((A0 ((IntKind.i64.wrap (y2 + 1))).toNat)).fDst), .int .u8 (nn ((A0 ((IntKind.i64.wrap (y2 + 1))).toNat)).fSrc), .int .i16 (ii ((A0 ((IntKind.i64.wrap (y2 + 1))).toNat)).fOff), .int .i32 (ii ((A0 ((IntKind.i64.wrap (y2 + 1))).toNat)).fImm)] 37, unb, unb]
def ex_barbicanref1_one_J2 : Ex_barbicanref1_one_J2 → Ex
  | .e0 _ => .normal
theorem go_barbicanref1_one_J2 (e : jp_barbicanref1_one_J2 A0 y2 = c0_0) : GoesG Try.prog M B0 S bd_barbicanref1_one_J2 5 (fr_barbicanref1_one_J2 a0 p0 q0 n0 k0 A0 a1 p1 q1 n1 k1 A1 y2) (Hs_barbicanref1_one_J2 a0 p0 q0 n0 k0 A0 a1 p1 q1 n1 k1 A1 y2) (ex_barbicanref1_one_J2 (.e0 c0_0)) 4 (vf_barbicanref1_one_J2 a0 p0 q0 n0 k0 A0 a1 p1 q1 n1 k1 A1 y2 (.e0 c0_0)) (Hf_barbicanref1_one_J2 a0 p0 q0 n0 k0 A0 a1 p1 q1 n1 k1 A1 y2 (.e0 c0_0)) 5 := by
  unfold jp_barbicanref1_one_J2 at e
  replace e := cond_eq_or e
  rcases e with ⟨hq0, e⟩ | ⟨hq0, e⟩
  · replace e := cond_eq_or e
    let P1 : List (PG Try.prog M B0 S) := [.a 0, .cg (ok_barbicanref1_Helper hU ((A0 (y2).toNat)) true hq0), .o, .o, .a 0]
    rcases e with ⟨hq1, e⟩ | ⟨hq1, e⟩
    · subst e; exact goes_runM hU (P1 ++ [.t (i_lt ((A0 (y2).toNat)).fImm (1#32)) hq1, .o, .o, .o]) [0, 1, 2, 3] (fun b => rfl) (by decide) rfl rfl (fun b => by kernel_rfl)
    · replace e := cond_eq_or e
      rcases e with ⟨hq2, e⟩ | ⟨hq2, e⟩
      · subst e; exact goes_runM hU (P1 ++ [.t (i_lt ((A0 (y2).toNat)).fImm (1#32)) hq1, .o, .o, .a 0, .t (i_gt ((A0 (y2).toNat)).fImm (28#32)) hq2, .o, .o]) [0, 1, 2, 3] (fun b => rfl) (by decide) rfl rfl (fun b => by kernel_rfl)
      · subst e; exact goes_runM hU (P1 ++ [.t (i_lt ((A0 (y2).toNat)).fImm (1#32)) hq1, .o, .o, .a 0, .t (i_gt ((A0 (y2).toNat)).fImm (28#32)) hq2, .o, .o]) [0, 1, 2, 3] (fun b => rfl) (by decide) rfl rfl (fun b => by kernel_rfl)
  · subst e; exact goes_runM hU [.a 0, .cg (ok_barbicanref1_Helper hU ((A0 (y2).toNat)) false hq0), .o, .o] [0, 1, 2, 3] (fun b => rfl) (by decide) rfl rfl (fun b => by kernel_rfl)
def pre_barbicanref1_one_J2 (a0 : Option Addr) (p0 : Nat) (q0 : Nat) (n0 : Nat) (k0 : Nat) (A0 : Nat → Insn) (a1 : Option Addr) (p1 : Nat) (q1 : Nat) (n1 : Nat) (k1 : Nat) (A1 : Nat → Bool) (y2 : Int) (ls : List L1) : List Obj := [.cells #[.int .u8 (nn ((A0 (y2).toNat)).fOp), .int .u8 (nn ((A0 (y2).toNat)).fDst), .int .u8 (nn ((A0 (y2).toNat)).fSrc), .int .i16 (ii ((A0 (y2).toNat)).fOff), .int .i32 (ii ((A0 (y2).toNat)).fImm)] 37, unb, .cells #[.int .u8 (nn ((A0 ((IntKind.i64.wrap (y2 + 1))).toNat)).fOp), .int .u8 (nn ((A0 ((IntKind.i64.wrap (y2 + 1))).toNat)).fDst), .int .u8 (nn ((A0 ((IntKind.i64.wrap (y2 + 1))).toNat)).fSrc), .int .i16 (ii ((A0 ((IntKind.i64.wrap (y2 + 1))).toNat)).fOff), .int .i32 (ii ((A0 ((IntKind.i64.wrap (y2 + 1))).toNat)).fImm)] 37, unb]
noncomputable def t0_barbicanref1_one_J2 (a0 : Option Addr) (p0 : Nat) (q0 : Nat) (n0 : Nat) (k0 : Nat) (A0 : Nat → Insn) (a1 : Option Addr) (p1 : Nat) (q1 : Nat) (n1 : Nat) (k1 : Nat) (A1 : Nat → Bool) (y2 : Int) (ls : List L1) : List Value := List.append [.slice a0 n0 (n0 + k0), .slice a1 n1 (n1 + k1), .int .i64 (y2), ((lget ls 3).u 3), ((lget ls 3).u 4), ((lget ls 3).u 5), .int .i64 (0), .pointer (some ⟨(lget ls 0).n, 0, none⟩)] (List.append (jks (lget ls 3).u 8 67) (List.append [.bool false] (jks (lget ls 3).u 76 28)))
theorem sp0_barbicanref1_one_J2_ok (h : jp_barbicanref1_one_J2 A0 y2 = c0_0) : SpcG Try.prog M B0 S (spcJ bd_barbicanref1_one_J2 (t0_barbicanref1_one_J2 a0 p0 q0 n0 k0 A0 a1 p1 q1 n1 k1 A1 y2) (pre_barbicanref1_one_J2 a0 p0 q0 n0 k0 A0 a1 p1 q1 n1 k1 A1 y2) 4 0 .normal (vf_barbicanref1_one_J2 a0 p0 q0 n0 k0 A0 a1 p1 q1 n1 k1 A1 y2 (.e0 c0_0)) (Hf_barbicanref1_one_J2 a0 p0 q0 n0 k0 A0 a1 p1 q1 n1 k1 A1 y2 (.e0 c0_0))) :=
  spcJ_ok hU (go_barbicanref1_one_J2 hU a0 p0 q0 n0 k0 A0 hR0 a1 p1 q1 n1 k1 A1 hR1 y2 c0_0 h) (fun _ => rfl) (fun ls h => by match ls, h with | [l0, l1, l2, l3], _ => exact ⟨by kernel_rfl, by kernel_rfl⟩) (fun ls h => by match ls, h with | [l0, l1, l2, l3], _ => rfl) (fun ls => rfl)
inductive Ex_barbicanref1_one_J3 where
  | e0 (c0_0 : Bool)
noncomputable def jp_barbicanref1_one_J3 (n1 : Nat) (A1 : Nat → Bool) (r3 : Int) : Option (Bool) :=
  bif decide (r3 < 1) then
    (some true)
  else (bif inR r3 n1 then
    (bif (A1 (r3).toNat) then
      (some true)
    else (some false))
  else (none))
noncomputable def bd_barbicanref1_one_J3 : Code := codeOf Try.f23 [1, 1, 1, 1, 1, 0, 1, 0, 1, 0]
def fl_barbicanref1_one_J3 (A0 : Nat → Insn) (a1 : Option Addr) (p1 : Nat) (q1 : Nat) (n1 : Nat) (k1 : Nat) (A1 : Nat → Bool) (y2 : Int) (r3 : Int) (ls : List L1) : List Value := [.slice a1 n1 (n1 + k1), .int .i64 (0), .int .i64 (r3)]
noncomputable def fr_barbicanref1_one_J3 (A0 : Nat → Insn) (a1 : Option Addr) (p1 : Nat) (q1 : Nat) (n1 : Nat) (k1 : Nat) (A1 : Nat → Bool) (y2 : Int) (r3 : Int) : List L1 → List Value := mrgF [(0, 1), (1, 4), (1, 2), (1, 94)] (fl_barbicanref1_one_J3 A0 a1 p1 q1 n1 k1 A1 y2 r3) 5
def Hs_barbicanref1_one_J3 (A0 : Nat → Insn) (a1 : Option Addr) (p1 : Nat) (q1 : Nat) (n1 : Nat) (k1 : Nat) (A1 : Nat → Bool) (y2 : Int) (r3 : Int) (ls : List L1) : List Obj := [.cells #[.int .u8 (nn ((A0 (y2).toNat)).fOp), .int .u8 (nn ((A0 (y2).toNat)).fDst), .int .u8 (nn ((A0 (y2).toNat)).fSrc), .int .i16 (ii ((A0 (y2).toNat)).fOff), .int .i32 (ii ((A0 (y2).toNat)).fImm)] 37, unb, .cells #[.int .u8 (nn ((A0 ((IntKind.i64.wrap (y2 + 1))).toNat)).fOp), .int .u8 (nn ((A0 ((IntKind.i64.wrap (y2 + 1))).toNat)).fDst), .int .u8 (nn ((A0 ((IntKind.i64.wrap (y2 + 1))).toNat)).fSrc), .int .i16 (ii ((A0 ((IntKind.i64.wrap (y2 + 1))).toNat)).fOff), .int .i32 (ii ((A0 ((IntKind.i64.wrap (y2 + 1))).toNat)).fImm)] 37, unb, unb, unb]
def vl_barbicanref1_one_J3 (A0 : Nat → Insn) (a1 : Option Addr) (p1 : Nat) (q1 : Nat) (n1 : Nat) (k1 : Nat) (A1 : Nat → Bool) (y2 : Int) (r3 : Int) : Ex_barbicanref1_one_J3 → List L1 → List Value
  | .e0 c0_0, ls => [.int .i64 (0), .bool (c0_0)]
def mk_barbicanref1_one_J3 : Ex_barbicanref1_one_J3 → List (Nat × Nat)
  | .e0 _ => [(0, 6), (1, 96), (1, 0)]
noncomputable def vf_barbicanref1_one_J3 (A0 : Nat → Insn) (a1 : Option Addr) (p1 : Nat) (q1 : Nat) (n1 : Nat) (k1 : Nat) (A1 : Nat → Bool) (y2 : Int) (r3 : Int) (r : Ex_barbicanref1_one_J3) : List L1 → List Value := mrgF (mk_barbicanref1_one_J3 r) (vl_barbicanref1_one_J3 A0 a1 p1 q1 n1 k1 A1 y2 r3 r) 5
def Hf_barbicanref1_one_J3 (A0 : Nat → Insn) (a1 : Option Addr) (p1 : Nat) (q1 : Nat) (n1 : Nat) (k1 : Nat) (A1 : Nat → Bool) (y2 : Int) (r3 : Int) : Ex_barbicanref1_one_J3 → List L1 → List Obj
  | .e0 c0_0, ls => [.cells #[.int .u8 (nn ((A0 (y2).toNat)).fOp), .int .u8 (nn ((A0 (y2).toNat)).fDst), .int .u8 (nn ((A0 (y2).toNat)).fSrc), .int .i16 (ii ((A0 (y2).toNat)).fOff), .int .i32 (ii ((A0 (y2).toNat)).fImm)] 37, unb, .cells #[.int .u8 (nn ((A0 ((IntKind.i64.wrap (y2 + 1))).toNat)).fOp), .int .u8 (nn ((A0 ((IntKind.i64.wrap (y2 + 1))).toNat)).fDst), .int .u8 (nn ((A0 ((IntKind.i64.wrap (y2 + 1))).toNat)).fSrc), .int .i16 (ii ((A0 ((IntKind.i64.wrap (y2 + 1))).toNat)).fOff), .int .i32 (ii ((A0 ((IntKind.i64.wrap (y2 + 1))).toNat)).fImm)] 37, unb, unb, unb]
def ex_barbicanref1_one_J3 : Ex_barbicanref1_one_J3 → Ex
  | .e0 _ => .normal
end
section
variable {M : Nat → Prop} {B0 : Nat} {S : World → Prop} (hU : Up M B0 S) (A0 : Nat → Insn) (a1 : Option Addr) (p1 : Nat) (q1 : Nat) (n1 : Nat) (k1 : Nat) (A1 : Nat → Bool) (hR1 : Ro S cB 1 a1 p1 q1 n1 A1) (y2 : Int) (r3 : Int)
include hU A0 a1 p1 q1 n1 k1 A1 hR1 y2 r3
theorem go_barbicanref1_one_J3 (c0_0 : Bool) (e : jp_barbicanref1_one_J3 n1 A1 r3 = some c0_0) : GoesG Try.prog M B0 S bd_barbicanref1_one_J3 6 (fr_barbicanref1_one_J3 A0 a1 p1 q1 n1 k1 A1 y2 r3) (Hs_barbicanref1_one_J3 A0 a1 p1 q1 n1 k1 A1 y2 r3) (ex_barbicanref1_one_J3 (.e0 c0_0)) 5 (vf_barbicanref1_one_J3 A0 a1 p1 q1 n1 k1 A1 y2 r3 (.e0 c0_0)) (Hf_barbicanref1_one_J3 A0 a1 p1 q1 n1 k1 A1 y2 r3 (.e0 c0_0)) 6 := by
  unfold jp_barbicanref1_one_J3 at e
  replace e := cond_eq_or e
  rcases e with ⟨hq0, e⟩ | ⟨hq0, e⟩
  · injection e with e; subst e; exact goes_runM hU [.o, .b (z_lssT hq0), .o, .o] [0, 1, 2, 3, 4] (fun b => rfl) (by decide) rfl rfl (fun b => by kernel_rfl)
  · replace e := cond_eq_or e
    rcases e with ⟨hq1, e⟩ | ⟨hq1, e⟩
    · replace e := cond_eq_or e
      let P1 : List (PG Try.prog M B0 S) := [.o, .b (z_lssF hq0), .o, .o, .o, .q (ixRo_ok (kd := .i64) (T := 30) (x := r3) (sz := 1) rfl (fun w => by kernel_rfl) hR1 hq1)]
      rcases e with ⟨hq2, e⟩ | ⟨hq2, e⟩
      · injection e with e; subst e; exact goes_runM hU (P1 ++ [.l (accRo hR1 cB_len (inR_nat hq1) 0 [.bool true] (congrArg (fun b => [Value.bool b]) hq2)), .o]) [0, 1, 2, 3, 4] (fun b => rfl) (by decide) rfl rfl (fun b => by kernel_rfl)
      · injection e with e; subst e; exact goes_runM hU (P1 ++ [.l (accRo hR1 cB_len (inR_nat hq1) 0 [.bool false] (congrArg (fun b => [Value.bool b]) hq2)), .o]) [0, 1, 2, 3, 4] (fun b => rfl) (by decide) rfl rfl (fun b => by kernel_rfl)
    · exact none_some e
def pre_barbicanref1_one_J3 (A0 : Nat → Insn) (a1 : Option Addr) (p1 : Nat) (q1 : Nat) (n1 : Nat) (k1 : Nat) (A1 : Nat → Bool) (y2 : Int) (r3 : Int) (ls : List L1) : List Obj := [.cells #[.int .u8 (nn ((A0 (y2).toNat)).fOp), .int .u8 (nn ((A0 (y2).toNat)).fDst), .int .u8 (nn ((A0 (y2).toNat)).fSrc), .int .i16 (ii ((A0 (y2).toNat)).fOff), .int .i32 (ii ((A0 (y2).toNat)).fImm)] 37, unb, .cells #[.int .u8 (nn ((A0 ((IntKind.i64.wrap (y2 + 1))).toNat)).fOp), .int .u8 (nn ((A0 ((IntKind.i64.wrap (y2 + 1))).toNat)).fDst), .int .u8 (nn ((A0 ((IntKind.i64.wrap (y2 + 1))).toNat)).fSrc), .int .i16 (ii ((A0 ((IntKind.i64.wrap (y2 + 1))).toNat)).fOff), .int .i32 (ii ((A0 ((IntKind.i64.wrap (y2 + 1))).toNat)).fImm)] 37, unb, unb]
noncomputable def t0_barbicanref1_one_J3 (A0 : Nat → Insn) (a1 : Option Addr) (p1 : Nat) (q1 : Nat) (n1 : Nat) (k1 : Nat) (A1 : Nat → Bool) (y2 : Int) (r3 : Int) (a0 : Option Addr) (n0 : Nat) (k0 : Nat) (ls : List L1) : List Value := List.append [.slice a0 n0 (n0 + k0), .slice a1 n1 (n1 + k1), .int .i64 (y2), ((lget ls 4).u 3), ((lget ls 4).u 4), ((lget ls 4).u 5), .int .i64 (0), .pointer (some ⟨(lget ls 0).n, 0, none⟩), ((lget ls 4).u 8), .int .i64 (r3)] (List.append (jks (lget ls 4).u 10 77) (List.append [.bool false, .agg #[.int .u8 (nn ((A0 (y2).toNat)).fOp), .int .u8 (nn ((A0 (y2).toNat)).fDst), .int .u8 (nn ((A0 (y2).toNat)).fSrc), .int .i16 (ii ((A0 (y2).toNat)).fOff), .int .i32 (ii ((A0 (y2).toNat)).fImm)], .bool true, .slice a0 n0 (n0 + k0), .int .i64 (y2), .pointer (some ⟨(lget ls 0).n, 4, none⟩), .int .i32 (ii ((A0 (y2).toNat)).fImm), .int .i64 ((ii ((A0 (y2).toNat)).fImm)), .int .i64 (r3)] (jks (lget ls 4).u 96 8)))
theorem sp0_barbicanref1_one_J3_ok (a0 : Option Addr) (n0 : Nat) (k0 : Nat) (c0_0 : Bool) (h : jp_barbicanref1_one_J3 n1 A1 r3 = some c0_0) : SpcG Try.prog M B0 S (spcJ bd_barbicanref1_one_J3 (t0_barbicanref1_one_J3 A0 a1 p1 q1 n1 k1 A1 y2 r3 a0 n0 k0) (pre_barbicanref1_one_J3 A0 a1 p1 q1 n1 k1 A1 y2 r3) 5 0 .normal (vf_barbicanref1_one_J3 A0 a1 p1 q1 n1 k1 A1 y2 r3 (.e0 c0_0)) (Hf_barbicanref1_one_J3 A0 a1 p1 q1 n1 k1 A1 y2 r3 (.e0 c0_0))) :=
  spcJ_ok hU (go_barbicanref1_one_J3 hU A0 a1 p1 q1 n1 k1 A1 hR1 y2 r3 c0_0 h) (fun _ => rfl) (fun ls h => by match ls, h with | [l0, l1, l2, l3, l4], _ => exact ⟨by kernel_rfl, by kernel_rfl⟩) (fun ls h => by match ls, h with | [l0, l1, l2, l3, l4], _ => rfl) (fun ls => rfl)
inductive Ex_barbicanref1_one_J4 where
  | e0 (c0_0 : Bool)
noncomputable def jp_barbicanref1_one_J4 (A0 : Nat → Insn) (y2 : Int) : Bool :=
  bif m_barbicanref1_Helper ((A0 (y2).toNat)) then
    (bif BitVec.slt ((A0 (y2).toNat)).fImm (1#32) then
      (true)
    else (bif BitVec.slt (28#32) ((A0 (y2).toNat)).fImm then
      (true)
    else (false)))
  else (false)
noncomputable def bd_barbicanref1_one_J4 : Code := codeOf Try.f23 [1, 1, 1, 1, 0, 0]
def fl_barbicanref1_one_J4 (a0 : Option Addr) (p0 : Nat) (q0 : Nat) (n0 : Nat) (k0 : Nat) (A0 : Nat → Insn) (a1 : Option Addr) (p1 : Nat) (q1 : Nat) (n1 : Nat) (k1 : Nat) (A1 : Nat → Bool) (y2 : Int) (ls : List L1) : List Value := [.slice a0 n0 (n0 + k0), .slice a1 n1 (n1 + k1), .int .i64 (y2), .int .i64 (0), .pointer (some ⟨(lget ls 0).n, 0, none⟩)]
noncomputable def fr_barbicanref1_one_J4 (a0 : Option Addr) (p0 : Nat) (q0 : Nat) (n0 : Nat) (k0 : Nat) (A0 : Nat → Insn) (a1 : Option Addr) (p1 : Nat) (q1 : Nat) (n1 : Nat) (k1 : Nat) (A1 : Nat → Bool) (y2 : Int) : List L1 → List Value := mrgF [(3, 3), (2, 96)] (fl_barbicanref1_one_J4 a0 p0 q0 n0 k0 A0 a1 p1 q1 n1 k1 A1 y2) 2
def Hs_barbicanref1_one_J4 (a0 : Option Addr) (p0 : Nat) (q0 : Nat) (n0 : Nat) (k0 : Nat) (A0 : Nat → Insn) (a1 : Option Addr) (p1 : Nat) (q1 : Nat) (n1 : Nat) (k1 : Nat) (A1 : Nat → Bool) (y2 : Int) (ls : List L1) : List Obj := [.cells #[.int .u8 (nn ((A0 (y2).toNat)).fOp), .int .u8 (nn ((A0 (y2).toNat)).fDst), .int .u8 (nn ((A0 (y2).toNat)).fSrc), .int .i16 (ii ((A0 (y2).toNat)).fOff), .int .i32 (ii ((A0 (y2).toNat)).fImm)] 37, unb, unb]
def vl_barbicanref1_one_J4 (a0 : Option Addr) (p0 : Nat) (q0 : Nat) (n0 : Nat) (k0 : Nat) (A0 : Nat → Insn) (a1 : Option Addr) (p1 : Nat) (q1 : Nat) (n1 : Nat) (k1 : Nat) (A1 : Nat → Bool) (y2 : Int) : Ex_barbicanref1_one_J4 → List L1 → List Value
  | .e0 c0_0, ls => [.slice a0 n0 (n0 + k0), .slice a1 n1 (n1 + k1), .int .i64 (y2), .int .i64 (0), .pointer (some ⟨(lget ls 0).n, 0, none⟩), .bool (c0_0)]
def mk_barbicanref1_one_J4 : Ex_barbicanref1_one_J4 → List (Nat × Nat)
  | .e0 _ => [(3, 3), (2, 79), (1, 16)]
noncomputable def vf_barbicanref1_one_J4 (a0 : Option Addr) (p0 : Nat) (q0 : Nat) (n0 : Nat) (k0 : Nat) (A0 : Nat → Insn) (a1 : Option Addr) (p1 : Nat) (q1 : Nat) (n1 : Nat) (k1 : Nat) (A1 : Nat → Bool) (y2 : Int) (r : Ex_barbicanref1_one_J4) : List L1 → List Value := mrgF (mk_barbicanref1_one_J4 r) (vl_barbicanref1_one_J4 a0 p0 q0 n0 k0 A0 a1 p1 q1 n1 k1 A1 y2 r) 2
def Hf_barbicanref1_one_J4 (a0 : Option Addr) (p0 : Nat) (q0 : Nat) (n0 : Nat) (k0 : Nat) (A0 : Nat → Insn) (a1 : Option Addr) (p1 : Nat) (q1 : Nat) (n1 : Nat) (k1 : Nat) (A1 : Nat → Bool) (y2 : Int) : Ex_barbicanref1_one_J4 → List L1 → List Obj
  | .e0 c0_0, ls => [.cells #[.int .u8 (nn ((A0 (y2).toNat)).fOp), .int .u8 (nn ((A0 (y2).toNat)).fDst), .int .u8 (nn ((A0 (y2).toNat)).fSrc), .int .i16 (ii ((A0 (y2).toNat)).fOff), .int .i32 (ii ((A0 (y2).toNat)).fImm)] 37, unb, unb]
def ex_barbicanref1_one_J4 : Ex_barbicanref1_one_J4 → Ex
  | .e0 _ => .normal
end
section
variable {M : Nat → Prop} {B0 : Nat} {S : World → Prop} (hU : Up M B0 S) (a0 : Option Addr) (p0 : Nat) (q0 : Nat) (n0 : Nat) (k0 : Nat) (A0 : Nat → Insn) (hR0 : Ro S c_Insn 5 a0 p0 q0 n0 A0) (a1 : Option Addr) (p1 : Nat) (q1 : Nat) (n1 : Nat) (k1 : Nat) (A1 : Nat → Bool) (hR1 : Ro S cB 1 a1 p1 q1 n1 A1) (y2 : Int) (c0_0 : Bool)
include hU a0 p0 q0 n0 k0 A0 hR0 a1 p1 q1 n1 k1 A1 hR1 y2 c0_0
theorem go_barbicanref1_one_J4 (e : jp_barbicanref1_one_J4 A0 y2 = c0_0) : GoesG Try.prog M B0 S bd_barbicanref1_one_J4 3 (fr_barbicanref1_one_J4 a0 p0 q0 n0 k0 A0 a1 p1 q1 n1 k1 A1 y2) (Hs_barbicanref1_one_J4 a0 p0 q0 n0 k0 A0 a1 p1 q1 n1 k1 A1 y2) (ex_barbicanref1_one_J4 (.e0 c0_0)) 2 (vf_barbicanref1_one_J4 a0 p0 q0 n0 k0 A0 a1 p1 q1 n1 k1 A1 y2 (.e0 c0_0)) (Hf_barbicanref1_one_J4 a0 p0 q0 n0 k0 A0 a1 p1 q1 n1 k1 A1 y2 (.e0 c0_0)) 3 := by
  unfold jp_barbicanref1_one_J4 at e
  replace e := cond_eq_or e
  rcases e with ⟨hq0, e⟩ | ⟨hq0, e⟩
  · replace e := cond_eq_or e
    let P1 : List (PG Try.prog M B0 S) := [.a 0, .cg (ok_barbicanref1_Helper hU ((A0 (y2).toNat)) true hq0), .o, .o, .a 0]
    rcases e with ⟨hq1, e⟩ | ⟨hq1, e⟩
    · subst e; exact goes_runM hU (P1 ++ [.t (i_lt ((A0 (y2).toNat)).fImm (1#32)) hq1, .o, .o, .o]) [0, 1] (fun b => rfl) (by decide) rfl rfl (fun b => by kernel_rfl)
    · replace e := cond_eq_or e
      rcases e with ⟨hq2, e⟩ | ⟨hq2, e⟩
      · subst e; exact goes_runM hU (P1 ++ [.t (i_lt ((A0 (y2).toNat)).fImm (1#32)) hq1, .o, .o, .a 0, .t (i_gt ((A0 (y2).toNat)).fImm (28#32)) hq2, .o, .o]) [0, 1] (fun b => rfl) (by decide) rfl rfl (fun b => by kernel_rfl)
      · subst e; exact goes_runM hU (P1 ++ [.t (i_lt ((A0 (y2).toNat)).fImm (1#32)) hq1, .o, .o, .a 0, .t (i_gt ((A0 (y2).toNat)).fImm (28#32)) hq2, .o, .o]) [0, 1] (fun b => rfl) (by decide) rfl rfl (fun b => by kernel_rfl)
  · subst e; exact goes_runM hU [.a 0, .cg (ok_barbicanref1_Helper hU ((A0 (y2).toNat)) false hq0), .o, .o] [0, 1] (fun b => rfl) (by decide) rfl rfl (fun b => by kernel_rfl)
def pre_barbicanref1_one_J4 (a0 : Option Addr) (p0 : Nat) (q0 : Nat) (n0 : Nat) (k0 : Nat) (A0 : Nat → Insn) (a1 : Option Addr) (p1 : Nat) (q1 : Nat) (n1 : Nat) (k1 : Nat) (A1 : Nat → Bool) (y2 : Int) (ls : List L1) : List Obj := [.cells #[.int .u8 (nn ((A0 (y2).toNat)).fOp), .int .u8 (nn ((A0 (y2).toNat)).fDst), .int .u8 (nn ((A0 (y2).toNat)).fSrc), .int .i16 (ii ((A0 (y2).toNat)).fOff), .int .i32 (ii ((A0 (y2).toNat)).fImm)] 37, unb]
noncomputable def t0_barbicanref1_one_J4 (a0 : Option Addr) (p0 : Nat) (q0 : Nat) (n0 : Nat) (k0 : Nat) (A0 : Nat → Insn) (a1 : Option Addr) (p1 : Nat) (q1 : Nat) (n1 : Nat) (k1 : Nat) (A1 : Nat → Bool) (y2 : Int) (ls : List L1) : List Value := List.append [.slice a0 n0 (n0 + k0), .slice a1 n1 (n1 + k1), .int .i64 (y2), ((lget ls 1).u 3), ((lget ls 1).u 4), ((lget ls 1).u 5), .int .i64 (0), .pointer (some ⟨(lget ls 0).n, 0, none⟩)] (List.append (jks (lget ls 1).u 8 10) (List.append [.bool false] (List.append (jks (lget ls 1).u 19 17) (List.append [.agg #[.int .u8 (nn ((A0 (y2).toNat)).fOp), .int .u8 (nn ((A0 (y2).toNat)).fDst), .int .u8 (nn ((A0 (y2).toNat)).fSrc), .int .i16 (ii ((A0 (y2).toNat)).fOff), .int .i32 (ii ((A0 (y2).toNat)).fImm)], .bool false] (jks (lget ls 1).u 38 66)))))
theorem sp0_barbicanref1_one_J4_ok (h : jp_barbicanref1_one_J4 A0 y2 = c0_0) : SpcG Try.prog M B0 S (spcJ bd_barbicanref1_one_J4 (t0_barbicanref1_one_J4 a0 p0 q0 n0 k0 A0 a1 p1 q1 n1 k1 A1 y2) (pre_barbicanref1_one_J4 a0 p0 q0 n0 k0 A0 a1 p1 q1 n1 k1 A1 y2) 2 0 .normal (vf_barbicanref1_one_J4 a0 p0 q0 n0 k0 A0 a1 p1 q1 n1 k1 A1 y2 (.e0 c0_0)) (Hf_barbicanref1_one_J4 a0 p0 q0 n0 k0 A0 a1 p1 q1 n1 k1 A1 y2 (.e0 c0_0))) :=
  spcJ_ok hU (go_barbicanref1_one_J4 hU a0 p0 q0 n0 k0 A0 hR0 a1 p1 q1 n1 k1 A1 hR1 y2 c0_0 h) (fun _ => rfl) (fun ls h => by match ls, h with | [l0, l1], _ => exact ⟨by kernel_rfl, by kernel_rfl⟩) (fun ls h => by match ls, h with | [l0, l1], _ => rfl) (fun ls => rfl)
inductive Ex_barbicanref1_one_J5 where
  | e0 (c0_0 : Bool)
noncomputable def jp_barbicanref1_one_J5 (n1 : Nat) (A1 : Nat → Bool) (r2 : Int) : Option (Bool) :=
  bif decide (r2 < 1) then
    (some true)
  else (bif inR r2 n1 then
    (bif (A1 (r2).toNat) then
      (some true)
    else (some false))
  else (none))
noncomputable def bd_barbicanref1_one_J5 : Code := codeOf Try.f23 [1, 1, 1, 1, 1, 0, 1, 0, 1, 0]
def fl_barbicanref1_one_J5 (A0 : Nat → Insn) (a1 : Option Addr) (p1 : Nat) (q1 : Nat) (n1 : Nat) (k1 : Nat) (A1 : Nat → Bool) (y2 : Int) (r2 : Int) (ls : List L1) : List Value := [.slice a1 n1 (n1 + k1), .int .i64 (0), .int .i64 (r2)]
noncomputable def fr_barbicanref1_one_J5 (A0 : Nat → Insn) (a1 : Option Addr) (p1 : Nat) (q1 : Nat) (n1 : Nat) (k1 : Nat) (A1 : Nat → Bool) (y2 : Int) (r2 : Int) : List L1 → List Value := mrgF [(0, 1), (1, 4), (1, 2), (1, 94)] (fl_barbicanref1_one_J5 A0 a1 p1 q1 n1 k1 A1 y2 r2) 3
def Hs_barbicanref1_one_J5 (A0 : Nat → Insn) (a1 : Option Addr) (p1 : Nat) (q1 : Nat) (n1 : Nat) (k1 : Nat) (A1 : Nat → Bool) (y2 : Int) (r2 : Int) (ls : List L1) : List Obj := [.cells #[.int .u8 (nn ((A0 (y2).toNat)).fOp), .int .u8 (nn ((A0 (y2).toNat)).fDst), .int .u8 (nn ((A0 (y2).toNat)).fSrc), .int .i16 (ii ((A0 (y2).toNat)).fOff), .int .i32 (ii ((A0 (y2).toNat)).fImm)] 37, unb, unb, unb]
def vl_barbicanref1_one_J5 (A0 : Nat → Insn) (a1 : Option Addr) (p1 : Nat) (q1 : Nat) (n1 : Nat) (k1 : Nat) (A1 : Nat → Bool) (y2 : Int) (r2 : Int) : Ex_barbicanref1_one_J5 → List L1 → List Value
  | .e0 c0_0, ls => [.int .i64 (0), .bool (c0_0)]
def mk_barbicanref1_one_J5 : Ex_barbicanref1_one_J5 → List (Nat × Nat)
  | .e0 _ => [(0, 6), (1, 96), (1, 0)]
noncomputable def vf_barbicanref1_one_J5 (A0 : Nat → Insn) (a1 : Option Addr) (p1 : Nat) (q1 : Nat) (n1 : Nat) (k1 : Nat) (A1 : Nat → Bool) (y2 : Int) (r2 : Int) (r : Ex_barbicanref1_one_J5) : List L1 → List Value := mrgF (mk_barbicanref1_one_J5 r) (vl_barbicanref1_one_J5 A0 a1 p1 q1 n1 k1 A1 y2 r2 r) 3
def Hf_barbicanref1_one_J5 (A0 : Nat → Insn) (a1 : Option Addr) (p1 : Nat) (q1 : Nat) (n1 : Nat) (k1 : Nat) (A1 : Nat → Bool) (y2 : Int) (r2 : Int) : Ex_barbicanref1_one_J5 → List L1 → List Obj
  | .e0 c0_0, ls => [.cells #[.int .u8 (nn ((A0 (y2).toNat)).fOp), .int .u8 (nn ((A0 (y2).toNat)).fDst), .int .u8 (nn ((A0 (y2).toNat)).fSrc), .int .i16 (ii ((A0 (y2).toNat)).fOff), .int .i32 (ii ((A0 (y2).toNat)).fImm)] 37, unb, unb, unb]
def ex_barbicanref1_one_J5 : Ex_barbicanref1_one_J5 → Ex
  | .e0 _ => .normal
end
section
variable {M : Nat → Prop} {B0 : Nat} {S : World → Prop} (hU : Up M B0 S) (A0 : Nat → Insn) (a1 : Option Addr) (p1 : Nat) (q1 : Nat) (n1 : Nat) (k1 : Nat) (A1 : Nat → Bool) (hR1 : Ro S cB 1 a1 p1 q1 n1 A1) (y2 : Int) (r2 : Int)
include hU A0 a1 p1 q1 n1 k1 A1 hR1 y2 r2
theorem go_barbicanref1_one_J5 (c0_0 : Bool) (e : jp_barbicanref1_one_J5 n1 A1 r2 = some c0_0) : GoesG Try.prog M B0 S bd_barbicanref1_one_J5 4 (fr_barbicanref1_one_J5 A0 a1 p1 q1 n1 k1 A1 y2 r2) (Hs_barbicanref1_one_J5 A0 a1 p1 q1 n1 k1 A1 y2 r2) (ex_barbicanref1_one_J5 (.e0 c0_0)) 3 (vf_barbicanref1_one_J5 A0 a1 p1 q1 n1 k1 A1 y2 r2 (.e0 c0_0)) (Hf_barbicanref1_one_J5 A0 a1 p1 q1 n1 k1 A1 y2 r2 (.e0 c0_0)) 4 := by
  unfold jp_barbicanref1_one_J5 at e
  replace e := cond_eq_or e
  rcases e with ⟨hq0, e⟩ | ⟨hq0, e⟩
  · injection e with e; subst e; exact goes_runM hU [.o, .b (z_lssT hq0), .o, .o] [0, 1, 2] (fun b => rfl) (by decide) rfl rfl (fun b => by kernel_rfl)
  · replace e := cond_eq_or e
    rcases e with ⟨hq1, e⟩ | ⟨hq1, e⟩
    · replace e := cond_eq_or e
      let P1 : List (PG Try.prog M B0 S) := [.o, .b (z_lssF hq0), .o, .o, .o, .q (ixRo_ok (kd := .i64) (T := 30) (x := r2) (sz := 1) rfl (fun w => by kernel_rfl) hR1 hq1)]
      rcases e with ⟨hq2, e⟩ | ⟨hq2, e⟩
      · injection e with e; subst e; exact goes_runM hU (P1 ++ [.l (accRo hR1 cB_len (inR_nat hq1) 0 [.bool true] (congrArg (fun b => [Value.bool b]) hq2)), .o]) [0, 1, 2] (fun b => rfl) (by decide) rfl rfl (fun b => by kernel_rfl)
      · injection e with e; subst e; exact goes_runM hU (P1 ++ [.l (accRo hR1 cB_len (inR_nat hq1) 0 [.bool false] (congrArg (fun b => [Value.bool b]) hq2)), .o]) [0, 1, 2] (fun b => rfl) (by decide) rfl rfl (fun b => by kernel_rfl)
    · exact none_some e
def pre_barbicanref1_one_J5 (A0 : Nat → Insn) (a1 : Option Addr) (p1 : Nat) (q1 : Nat) (n1 : Nat) (k1 : Nat) (A1 : Nat → Bool) (y2 : Int) (r2 : Int) (ls : List L1) : List Obj := [.cells #[.int .u8 (nn ((A0 (y2).toNat)).fOp), .int .u8 (nn ((A0 (y2).toNat)).fDst), .int .u8 (nn ((A0 (y2).toNat)).fSrc), .int .i16 (ii ((A0 (y2).toNat)).fOff), .int .i32 (ii ((A0 (y2).toNat)).fImm)] 37, unb, unb]
noncomputable def t0_barbicanref1_one_J5 (A0 : Nat → Insn) (a1 : Option Addr) (p1 : Nat) (q1 : Nat) (n1 : Nat) (k1 : Nat) (A1 : Nat → Bool) (y2 : Int) (r2 : Int) (a0 : Option Addr) (n0 : Nat) (k0 : Nat) (ls : List L1) : List Value := List.append [.slice a0 n0 (n0 + k0), .slice a1 n1 (n1 + k1), .int .i64 (y2), ((lget ls 2).u 3), ((lget ls 2).u 4), ((lget ls 2).u 5), .int .i64 (0), .pointer (some ⟨(lget ls 0).n, 0, none⟩), ((lget ls 2).u 8), .int .i64 (r2)] (List.append (jks (lget ls 2).u 10 77) (List.append [.bool false, .agg #[.int .u8 (nn ((A0 (y2).toNat)).fOp), .int .u8 (nn ((A0 (y2).toNat)).fDst), .int .u8 (nn ((A0 (y2).toNat)).fSrc), .int .i16 (ii ((A0 (y2).toNat)).fOff), .int .i32 (ii ((A0 (y2).toNat)).fImm)], .bool true, .slice a0 n0 (n0 + k0), .int .i64 (y2), .pointer (some ⟨(lget ls 0).n, 4, none⟩), .int .i32 (ii ((A0 (y2).toNat)).fImm), .int .i64 ((ii ((A0 (y2).toNat)).fImm)), .int .i64 (r2)] (jks (lget ls 2).u 96 8)))
theorem sp0_barbicanref1_one_J5_ok (a0 : Option Addr) (n0 : Nat) (k0 : Nat) (c0_0 : Bool) (h : jp_barbicanref1_one_J5 n1 A1 r2 = some c0_0) : SpcG Try.prog M B0 S (spcJ bd_barbicanref1_one_J5 (t0_barbicanref1_one_J5 A0 a1 p1 q1 n1 k1 A1 y2 r2 a0 n0 k0) (pre_barbicanref1_one_J5 A0 a1 p1 q1 n1 k1 A1 y2 r2) 3 0 .normal (vf_barbicanref1_one_J5 A0 a1 p1 q1 n1 k1 A1 y2 r2 (.e0 c0_0)) (Hf_barbicanref1_one_J5 A0 a1 p1 q1 n1 k1 A1 y2 r2 (.e0 c0_0))) :=
  spcJ_ok hU (go_barbicanref1_one_J5 hU A0 a1 p1 q1 n1 k1 A1 hR1 y2 r2 c0_0 h) (fun _ => rfl) (fun ls h => by match ls, h with | [l0, l1, l2], _ => exact ⟨by kernel_rfl, by kernel_rfl⟩) (fun ls h => by match ls, h with | [l0, l1, l2], _ => rfl) (fun ls => rfl)
noncomputable def m_barbicanref1_one (n0 : Nat) (A0 : Nat → Insn) (n1 : Nat) (A1 : Nat → Bool) (y2 : Int) : Option (Int) :=
  bif inR y2 n0 then
    (bif m_barbicanref1_Known ((A0 (y2).toNat)) then
      (bindT (jp_barbicanref1_one_J0 A0 y2) fun r0 =>
      bif r0 then
        (some 12)
      else (bif m_barbicanref1_IsWide ((A0 (y2).toNat)) then
        (bif (IntKind.i64.wrap (y2 + 1)) == (n0 : Int) then
          (some 13)
        else (bif inR (IntKind.i64.wrap (y2 + 1)) n0 then
          (bindT (jp_barbicanref1_one_J1 A0 y2) fun r1 =>
          bif r1 then
            (some 13)
          else (bindT (jp_barbicanref1_one_J2 A0 y2) fun r2 =>
          bif r2 then
            (some 14)
          else (bif m_barbicanref1_Names ((A0 (y2).toNat)) then
            (bindT (m_barbicanref1_To n0 A0 y2 (ii ((A0 (y2).toNat)).fImm)) fun r3 =>
            (jp_barbicanref1_one_J3 n1 A1 r3).bind fun r4 =>
            bif r4 then
              (some 14)
            else (some 0))
          else (some 0))))
        else (none)))
      else (bindT (jp_barbicanref1_one_J4 A0 y2) fun r1 =>
      bif r1 then
        (some 14)
      else (bif m_barbicanref1_Names ((A0 (y2).toNat)) then
        (bindT (m_barbicanref1_To n0 A0 y2 (ii ((A0 (y2).toNat)).fImm)) fun r2 =>
        (jp_barbicanref1_one_J5 n1 A1 r2).bind fun r3 =>
        bif r3 then
          (some 14)
        else (some 0))
      else (some 0)))))
    else (some 11))
  else (none)
end
section
variable {M : Nat → Prop} {B0 : Nat} {S : World → Prop} (hU : Up M B0 S)
include hU
theorem ok_barbicanref1_one (a0 : Option Addr) (p0 : Nat) (q0 : Nat) (n0 : Nat) (k0 : Nat) (A0 : Nat → Insn) (hR0 : Ro S c_Insn 5 a0 p0 q0 n0 A0) (a1 : Option Addr) (p1 : Nat) (q1 : Nat) (n1 : Nat) (k1 : Nat) (A1 : Nat → Bool) (hR1 : Ro S cB 1 a1 p1 q1 n1 A1) (y2 : Int) (r : Int) (e : m_barbicanref1_one n0 A0 n1 A1 y2 = some r) : ConG Try.prog S 23 #[.slice a0 n0 (n0 + k0), .slice a1 n1 (n1 + k1), .int .i64 (y2)] (.int .i64 (r)) := by
  unfold m_barbicanref1_one at e
  replace e := cond_eq_or e
  let P1 : List (PG Try.prog M B0 S) := [.o, .o, .o]
  rcases e with ⟨hq0, e⟩ | ⟨hq0, e⟩
  · replace e := cond_eq_or e
    let P2 : List (PG Try.prog M B0 S) := P1 ++ [.q (ixRo_ok (kd := .i64) (T := 22) (x := y2) (sz := 5) rfl (fun w => by kernel_rfl) hR0 hq0), .l (accRo hR0 c_Insn_len (inR_nat hq0) 0 [.int .u8 (nn ((A0 (y2).toNat)).fOp), .int .u8 (nn ((A0 (y2).toNat)).fDst), .int .u8 (nn ((A0 (y2).toNat)).fSrc), .int .i16 (ii ((A0 (y2).toNat)).fOff), .int .i32 (ii ((A0 (y2).toNat)).fImm)] rfl), .o, .a 0, .a 0]
    rcases e with ⟨hq1, e⟩ | ⟨hq1, e⟩
    · replace e := bindT_eq e
      obtain ⟨r0, e_r0, e⟩ := e
      try dsimp only at e
      replace e := cond_eq_or e
      let P3 : List (PG Try.prog M B0 S) := P2 ++ [.cg (ok_barbicanref1_Known hU ((A0 (y2).toNat)) true hq1), .o, .o, .cp]
      rcases e with ⟨hq2, e⟩ | ⟨hq2, e⟩
      · subst hq2
        injection e with e; subst e; exact fn_conG hU (P := Try.prog) Try.func23 (fun xs w => by kernel_rfl) _ _ (P3 ++ [.cx (sp0_barbicanref1_one_J0_ok hU a0 p0 q0 n0 k0 A0 hR0 a1 p1 q1 n1 k1 A1 hR1 y2 true e_r0) [0], .o]) [] (fun b => by kernel_rfl)
      · subst hq2
        replace e := cond_eq_or e
        let P4 : List (PG Try.prog M B0 S) := P3 ++ [.cx (sp0_barbicanref1_one_J0_ok hU a0 p0 q0 n0 k0 A0 hR0 a1 p1 q1 n1 k1 A1 hR1 y2 false e_r0) [0], .a 0]
        rcases e with ⟨hq3, e⟩ | ⟨hq3, e⟩
        · replace e := cond_eq_or e
          let P5 : List (PG Try.prog M B0 S) := P4 ++ [.cg (ok_barbicanref1_IsWide hU ((A0 (y2).toNat)) true hq3), .o, .o, .o, .o]
          rcases e with ⟨hq4, e⟩ | ⟨hq4, e⟩
          · injection e with e; subst e; exact fn_conG hU (P := Try.prog) Try.func23 (fun xs w => by kernel_rfl) _ _ (P5 ++ [.b (z_eqlT hq4), .o]) [] (fun b => by kernel_rfl)
          · replace e := cond_eq_or e
            let P6 : List (PG Try.prog M B0 S) := P5 ++ [.b (z_eqlF hq4), .o, .o, .o]
            rcases e with ⟨hq5, e⟩ | ⟨hq5, e⟩
            · replace e := bindT_eq e
              obtain ⟨r1, e_r1, e⟩ := e
              try dsimp only at e
              replace e := cond_eq_or e
              let P7 : List (PG Try.prog M B0 S) := P6 ++ [.q (ixRo_ok (kd := .i64) (T := 22) (x := (IntKind.i64.wrap (y2 + 1))) (sz := 5) rfl (fun w => by kernel_rfl) hR0 hq5), .l (accRo hR0 c_Insn_len (inR_nat hq5) 0 [.int .u8 (nn ((A0 ((IntKind.i64.wrap (y2 + 1))).toNat)).fOp), .int .u8 (nn ((A0 ((IntKind.i64.wrap (y2 + 1))).toNat)).fDst), .int .u8 (nn ((A0 ((IntKind.i64.wrap (y2 + 1))).toNat)).fSrc), .int .i16 (ii ((A0 ((IntKind.i64.wrap (y2 + 1))).toNat)).fOff), .int .i32 (ii ((A0 ((IntKind.i64.wrap (y2 + 1))).toNat)).fImm)] rfl), .o, .a 2]
              rcases e with ⟨hq6, e⟩ | ⟨hq6, e⟩
              · subst hq6
                injection e with e; subst e; exact fn_conG hU (P := Try.prog) Try.func23 (fun xs w => by kernel_rfl) _ _ (P7 ++ [.cx (sp0_barbicanref1_one_J1_ok hU a0 p0 q0 n0 k0 A0 hR0 a1 p1 q1 n1 k1 A1 hR1 y2 true e_r1) [0, 1, 2], .o]) [] (fun b => by kernel_rfl)
              · subst hq6
                replace e := bindT_eq e
                obtain ⟨r2, e_r2, e⟩ := e
                try dsimp only at e
                replace e := cond_eq_or e
                let P8 : List (PG Try.prog M B0 S) := P7 ++ [.cx (sp0_barbicanref1_one_J1_ok hU a0 p0 q0 n0 k0 A0 hR0 a1 p1 q1 n1 k1 A1 hR1 y2 false e_r1) [0, 1, 2], .cp]
                rcases e with ⟨hq7, e⟩ | ⟨hq7, e⟩
                · subst hq7
                  injection e with e; subst e; exact fn_conG hU (P := Try.prog) Try.func23 (fun xs w => by kernel_rfl) _ _ (P8 ++ [.cx (sp0_barbicanref1_one_J2_ok hU a0 p0 q0 n0 k0 A0 hR0 a1 p1 q1 n1 k1 A1 hR1 y2 true e_r2) [0, 1, 2, 3], .o]) [] (fun b => by kernel_rfl)
                · subst hq7
                  replace e := cond_eq_or e
                  let P9 : List (PG Try.prog M B0 S) := P8 ++ [.cx (sp0_barbicanref1_one_J2_ok hU a0 p0 q0 n0 k0 A0 hR0 a1 p1 q1 n1 k1 A1 hR1 y2 false e_r2) [0, 1, 2, 3], .a 0]
                  rcases e with ⟨hq8, e⟩ | ⟨hq8, e⟩
                  · replace e := bindT_eq e
                    obtain ⟨r3, e_r3, e⟩ := e
                    try dsimp only at e
                    replace e := bindO_eq e
                    obtain ⟨r4, e_r4, e⟩ := e
                    try dsimp only at e
                    replace e := cond_eq_or e
                    let P10 : List (PG Try.prog M B0 S) := P9 ++ [.cg (ok_barbicanref1_Names hU ((A0 (y2).toNat)) true hq8), .o, .o, .o, .a 0, .v .i64 (z_of_ii (by decide) ((A0 (y2).toNat)).fImm), .cg (ok_barbicanref1_To hU a0 p0 q0 n0 k0 A0 hR0 y2 (ii ((A0 (y2).toNat)).fImm) r3 e_r3), .o]
                    rcases e with ⟨hq9, e⟩ | ⟨hq9, e⟩
                    · subst hq9
                      injection e with e; subst e; exact fn_conG hU (P := Try.prog) Try.func23 (fun xs w => by kernel_rfl) _ _ (P10 ++ [.cx (sp0_barbicanref1_one_J3_ok hU A0 a1 p1 q1 n1 k1 A1 hR1 y2 r3 a0 n0 k0 true e_r4) [0, 1, 2, 3, 4], .o]) [] (fun b => by kernel_rfl)
                    · subst hq9
                      injection e with e; subst e; exact fn_conG hU (P := Try.prog) Try.func23 (fun xs w => by kernel_rfl) _ _ (P10 ++ [.cx (sp0_barbicanref1_one_J3_ok hU A0 a1 p1 q1 n1 k1 A1 hR1 y2 r3 a0 n0 k0 false e_r4) [0, 1, 2, 3, 4], .o]) [] (fun b => by kernel_rfl)
                  · injection e with e; subst e; exact fn_conG hU (P := Try.prog) Try.func23 (fun xs w => by kernel_rfl) _ _ (P9 ++ [.cg (ok_barbicanref1_Names hU ((A0 (y2).toNat)) false hq8), .o]) [] (fun b => by kernel_rfl)
            · exact none_some e
        · replace e := bindT_eq e
          obtain ⟨r1, e_r1, e⟩ := e
          try dsimp only at e
          replace e := cond_eq_or e
          let P11 : List (PG Try.prog M B0 S) := P4 ++ [.cg (ok_barbicanref1_IsWide hU ((A0 (y2).toNat)) false hq3), .cp]
          rcases e with ⟨hq4, e⟩ | ⟨hq4, e⟩
          · subst hq4
            injection e with e; subst e; exact fn_conG hU (P := Try.prog) Try.func23 (fun xs w => by kernel_rfl) _ _ (P11 ++ [.cx (sp0_barbicanref1_one_J4_ok hU a0 p0 q0 n0 k0 A0 hR0 a1 p1 q1 n1 k1 A1 hR1 y2 true e_r1) [0, 1], .o]) [] (fun b => by kernel_rfl)
          · subst hq4
            replace e := cond_eq_or e
            let P12 : List (PG Try.prog M B0 S) := P11 ++ [.cx (sp0_barbicanref1_one_J4_ok hU a0 p0 q0 n0 k0 A0 hR0 a1 p1 q1 n1 k1 A1 hR1 y2 false e_r1) [0, 1], .a 0]
            rcases e with ⟨hq5, e⟩ | ⟨hq5, e⟩
            · replace e := bindT_eq e
              obtain ⟨r2, e_r2, e⟩ := e
              try dsimp only at e
              replace e := bindO_eq e
              obtain ⟨r3, e_r3, e⟩ := e
              try dsimp only at e
              replace e := cond_eq_or e
              let P13 : List (PG Try.prog M B0 S) := P12 ++ [.cg (ok_barbicanref1_Names hU ((A0 (y2).toNat)) true hq5), .o, .o, .o, .a 0, .v .i64 (z_of_ii (by decide) ((A0 (y2).toNat)).fImm), .cg (ok_barbicanref1_To hU a0 p0 q0 n0 k0 A0 hR0 y2 (ii ((A0 (y2).toNat)).fImm) r2 e_r2), .o]
              rcases e with ⟨hq6, e⟩ | ⟨hq6, e⟩
              · subst hq6
                injection e with e; subst e; exact fn_conG hU (P := Try.prog) Try.func23 (fun xs w => by kernel_rfl) _ _ (P13 ++ [.cx (sp0_barbicanref1_one_J5_ok hU A0 a1 p1 q1 n1 k1 A1 hR1 y2 r2 a0 n0 k0 true e_r3) [0, 1, 2], .o]) [] (fun b => by kernel_rfl)
              · subst hq6
                injection e with e; subst e; exact fn_conG hU (P := Try.prog) Try.func23 (fun xs w => by kernel_rfl) _ _ (P13 ++ [.cx (sp0_barbicanref1_one_J5_ok hU A0 a1 p1 q1 n1 k1 A1 hR1 y2 r2 a0 n0 k0 false e_r3) [0, 1, 2], .o]) [] (fun b => by kernel_rfl)
            · injection e with e; subst e; exact fn_conG hU (P := Try.prog) Try.func23 (fun xs w => by kernel_rfl) _ _ (P12 ++ [.cg (ok_barbicanref1_Names hU ((A0 (y2).toNat)) false hq5), .o]) [] (fun b => by kernel_rfl)
    · injection e with e; subst e; exact fn_conG hU (P := Try.prog) Try.func23 (fun xs w => by kernel_rfl) _ _ (P2 ++ [.cg (ok_barbicanref1_Known hU ((A0 (y2).toNat)) false hq1), .o, .o, .o]) [] (fun b => by kernel_rfl)
  · exact none_some e
end

end Go.Proofs.Ytnoflelhkgdebaa


