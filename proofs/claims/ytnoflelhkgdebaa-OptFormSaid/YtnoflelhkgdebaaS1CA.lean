/-
  Instructions: the reference.
-/
import Derived.Test.YtnoflelhkgdebaaS1B
import Derived.Test.YtnoflelhkgdebaaRxJ
namespace Go.Proofs.Ytnoflelhkgdebaa
open Go.RowKit
set_option linter.unusedVariables false
set_option linter.unusedSimpArgs false
set_option linter.unusedSectionVars false
set_option maxRecDepth 100000
set_option maxHeartbeats 4000000
noncomputable def m_barbicanref1_Code (y0 : Insn) : Int :=
  (nn (y0.fOp / 16#8))
section
variable {M : Nat → Prop} {B0 : Nat} {S : World → Prop} (hU : Up M B0 S) (y0 : Insn) (r : Int)
include hU y0 r
theorem ok_barbicanref1_Code (e : m_barbicanref1_Code y0 = r) : ConG Try.prog S 26 #[(v_Insn y0)] (.int .i64 (r)) := by
  unfold m_barbicanref1_Code at e
  subst e; exact fn_conG hU (P := Try.prog) Try.func26 (fun xs w => by kernel_rfl) _ _ [.o, .o, .o, .a 0, .ov (u8_quo Try.prog 5 (.tmp 4) (.const (.int .u8 (16))) y0.fOp (16#8) (by decide)), .v .i64 (z_of_nn (by decide) (y0.fOp / 16#8)), .o] [] (fun b => by kernel_rfl)
noncomputable def m_barbicanref1_Class (y0 : Insn) : Int :=
  (nn (y0.fOp % 8#8))
theorem ok_barbicanref1_Class (e : m_barbicanref1_Class y0 = r) : ConG Try.prog S 25 #[(v_Insn y0)] (.int .i64 (r)) := by
  unfold m_barbicanref1_Class at e
  subst e; exact fn_conG hU (P := Try.prog) Try.func25 (fun xs w => by kernel_rfl) _ _ [.o, .o, .o, .a 0, .ov (u8_rem Try.prog 5 (.tmp 4) (.const (.int .u8 (8))) y0.fOp (8#8) (by decide)), .v .i64 (z_of_nn (by decide) (y0.fOp % 8#8)), .o] [] (fun b => by kernel_rfl)
noncomputable def m_barbicanref1_IsWide (y0 : Insn) : Bool :=
  (y0.fOp == 24#8)
end
section
variable {M : Nat → Prop} {B0 : Nat} {S : World → Prop} (hU : Up M B0 S) (y0 : Insn)
include hU y0
theorem ok_barbicanref1_IsWide (r : Bool) (e : m_barbicanref1_IsWide y0 = r) : ConG Try.prog S 22 #[(v_Insn y0)] (.bool (r)) := by
  unfold m_barbicanref1_IsWide at e
  subst e; exact fn_conG hU (P := Try.prog) Try.func22 (fun xs w => by kernel_rfl) _ _ [.o, .o, .o, .a 0, .t (u_eq y0.fOp (24#8)) rfl, .o] [] (fun b => by kernel_rfl)
noncomputable def m_barbicanref1_Size (y0 : Insn) : Int :=
  bindT (m_barbicanref1_Class y0) fun r0 =>
  bif decide (r0 < 1) then
    (0)
  else (bif decide (3 < r0) then
    (0)
  else (bif (y0.fOp - (BitVec.ofInt 8 r0)) == 96#8 then
    (4)
  else (bif (y0.fOp - (BitVec.ofInt 8 r0)) == 104#8 then
    (2)
  else (bif (y0.fOp - (BitVec.ofInt 8 r0)) == 112#8 then
    (1)
  else (bif (y0.fOp - (BitVec.ofInt 8 r0)) == 120#8 then
    (8)
  else (0))))))
theorem ok_barbicanref1_Size (r : Int) (e : m_barbicanref1_Size y0 = r) : ConG Try.prog S 44 #[(v_Insn y0)] (.int .i64 (r)) := by
  unfold m_barbicanref1_Size at e
  replace e := bindT_eq e
  obtain ⟨r0, e_r0, e⟩ := e
  try dsimp only at e
  replace e := cond_eq_or e
  let P1 : List (PG Try.prog M B0 S) := [.o, .o, .a 0, .cg (ok_barbicanref1_Class hU y0 r0 e_r0), .o, .o]
  rcases e with ⟨hq0, e⟩ | ⟨hq0, e⟩
  · subst e; exact fn_conG hU (P := Try.prog) Try.func44 (fun xs w => by kernel_rfl) _ _ (P1 ++ [.b (z_lssT hq0), .o, .o, .o]) [] (fun b => by kernel_rfl)
  · replace e := cond_eq_or e
    let P2 : List (PG Try.prog M B0 S) := P1 ++ [.b (z_lssF hq0), .o, .o]
    rcases e with ⟨hq1, e⟩ | ⟨hq1, e⟩
    · subst e; exact fn_conG hU (P := Try.prog) Try.func44 (fun xs w => by kernel_rfl) _ _ (P2 ++ [.b (z_gtrT hq1), .o, .o]) [] (fun b => by kernel_rfl)
    · replace e := cond_eq_or e
      let P3 : List (PG Try.prog M B0 S) := P2 ++ [.b (z_gtrF hq1), .o, .o, .a 0, .o, .v .u8 (u8_of_z r0), .v .u8 (u8_sub y0.fOp (BitVec.ofInt 8 r0))]
      rcases e with ⟨hq2, e⟩ | ⟨hq2, e⟩
      · subst e; exact fn_conG hU (P := Try.prog) Try.func44 (fun xs w => by kernel_rfl) _ _ (P3 ++ [.t (u_eq (y0.fOp - (BitVec.ofInt 8 r0)) (96#8)) hq2, .o, .o]) [] (fun b => by kernel_rfl)
      · replace e := cond_eq_or e
        let P4 : List (PG Try.prog M B0 S) := P3 ++ [.t (u_eq (y0.fOp - (BitVec.ofInt 8 r0)) (96#8)) hq2, .o]
        rcases e with ⟨hq3, e⟩ | ⟨hq3, e⟩
        · subst e; exact fn_conG hU (P := Try.prog) Try.func44 (fun xs w => by kernel_rfl) _ _ (P4 ++ [.t (u_eq (y0.fOp - (BitVec.ofInt 8 r0)) (104#8)) hq3, .o, .o]) [] (fun b => by kernel_rfl)
        · replace e := cond_eq_or e
          let P5 : List (PG Try.prog M B0 S) := P4 ++ [.t (u_eq (y0.fOp - (BitVec.ofInt 8 r0)) (104#8)) hq3, .o]
          rcases e with ⟨hq4, e⟩ | ⟨hq4, e⟩
          · subst e; exact fn_conG hU (P := Try.prog) Try.func44 (fun xs w => by kernel_rfl) _ _ (P5 ++ [.t (u_eq (y0.fOp - (BitVec.ofInt 8 r0)) (112#8)) hq4, .o, .o]) [] (fun b => by kernel_rfl)
          · replace e := cond_eq_or e
            rcases e with ⟨hq5, e⟩ | ⟨hq5, e⟩
            · subst e; exact fn_conG hU (P := Try.prog) Try.func44 (fun xs w => by kernel_rfl) _ _ (P5 ++ [.t (u_eq (y0.fOp - (BitVec.ofInt 8 r0)) (112#8)) hq4, .o, .t (u_eq (y0.fOp - (BitVec.ofInt 8 r0)) (120#8)) hq5, .o, .o]) [] (fun b => by kernel_rfl)
            · subst e; exact fn_conG hU (P := Try.prog) Try.func44 (fun xs w => by kernel_rfl) _ _ (P5 ++ [.t (u_eq (y0.fOp - (BitVec.ofInt 8 r0)) (112#8)) hq4, .o, .t (u_eq (y0.fOp - (BitVec.ofInt 8 r0)) (120#8)) hq5, .o, .o]) [] (fun b => by kernel_rfl)
noncomputable def m_barbicanref1_X (y0 : Insn) : Bool :=
  (((y0.fOp / 8#8) % 2#8) == 1#8)
theorem ok_barbicanref1_X (r : Bool) (e : m_barbicanref1_X y0 = r) : ConG Try.prog S 45 #[(v_Insn y0)] (.bool (r)) := by
  unfold m_barbicanref1_X at e
  subst e; exact fn_conG hU (P := Try.prog) Try.func45 (fun xs w => by kernel_rfl) _ _ [.o, .o, .o, .a 0, .ov (u8_quo Try.prog 5 (.tmp 4) (.const (.int .u8 (8))) y0.fOp (8#8) (by decide)), .ov (u8_rem Try.prog 5 (.tmp 5) (.const (.int .u8 (2))) (y0.fOp / 8#8) (2#8) (by decide)), .t (u_eq ((y0.fOp / 8#8) % 2#8) (1#8)) rfl, .o] [] (fun b => by kernel_rfl)
inductive Ex_barbicanref1_Known_J0 where
  | e0 (c0_0 : Bool)
noncomputable def jp_barbicanref1_Known_J0 (y0 : Insn) : Bool :=
  bif y0.fOff == 0#16 then
    (bif y0.fSrc == 0#8 then
      (true)
    else (false))
  else (false)
noncomputable def bd_barbicanref1_Known_J0 : Code := codeOf Try.f34 [1, 1, 0]
def fl_barbicanref1_Known_J0 (y0 : Insn) (r0 : Int) (ls : List L1) : List Value := [.pointer (some ⟨(lget ls 0).n, 0, none⟩), .bool false, .int .i64 (r0)]
noncomputable def fr_barbicanref1_Known_J0 (y0 : Insn) (r0 : Int) : List L1 → List Value := mrgF [(0, 1), (3, 235)] (fl_barbicanref1_Known_J0 y0 r0) 1
def Hs_barbicanref1_Known_J0 (y0 : Insn) (r0 : Int) (ls : List L1) : List Obj := [.cells #[.int .u8 (nn y0.fOp), .int .u8 (nn y0.fDst), .int .u8 (nn y0.fSrc), .int .i16 (ii y0.fOff), .int .i32 (ii y0.fImm)] 37, unb]
def vl_barbicanref1_Known_J0 (y0 : Insn) (r0 : Int) : Ex_barbicanref1_Known_J0 → List L1 → List Value
  | .e0 c0_0, ls => [.pointer (some ⟨(lget ls 0).n, 0, none⟩), .bool false, .int .i64 (r0), .bool (c0_0)]
def mk_barbicanref1_Known_J0 : Ex_barbicanref1_Known_J0 → List (Nat × Nat)
  | .e0 _ => [(0, 1), (4, 234)]
noncomputable def vf_barbicanref1_Known_J0 (y0 : Insn) (r0 : Int) (r : Ex_barbicanref1_Known_J0) : List L1 → List Value := mrgF (mk_barbicanref1_Known_J0 r) (vl_barbicanref1_Known_J0 y0 r0 r) 1
def Hf_barbicanref1_Known_J0 (y0 : Insn) (r0 : Int) : Ex_barbicanref1_Known_J0 → List L1 → List Obj
  | .e0 c0_0, ls => [.cells #[.int .u8 (nn y0.fOp), .int .u8 (nn y0.fDst), .int .u8 (nn y0.fSrc), .int .i16 (ii y0.fOff), .int .i32 (ii y0.fImm)] 37, unb]
def ex_barbicanref1_Known_J0 : Ex_barbicanref1_Known_J0 → Ex
  | .e0 _ => .normal
end
section
variable {M : Nat → Prop} {B0 : Nat} {S : World → Prop} (hU : Up M B0 S) (y0 : Insn) (r0 : Int) (c0_0 : Bool)
include hU y0 r0 c0_0
theorem go_barbicanref1_Known_J0 (e : jp_barbicanref1_Known_J0 y0 = c0_0) : GoesG Try.prog M B0 S bd_barbicanref1_Known_J0 2 (fr_barbicanref1_Known_J0 y0 r0) (Hs_barbicanref1_Known_J0 y0 r0) (ex_barbicanref1_Known_J0 (.e0 c0_0)) 1 (vf_barbicanref1_Known_J0 y0 r0 (.e0 c0_0)) (Hf_barbicanref1_Known_J0 y0 r0 (.e0 c0_0)) 2 := by
  unfold jp_barbicanref1_Known_J0 at e
  replace e := cond_eq_or e
  rcases e with ⟨hq0, e⟩ | ⟨hq0, e⟩
  · replace e := cond_eq_or e
    rcases e with ⟨hq1, e⟩ | ⟨hq1, e⟩
    · subst e; exact goes_runM hU [.o, .a 0, .t (i_eq y0.fOff (0#16)) hq0, .o, .o, .a 0, .t (u_eq y0.fSrc (0#8)) hq1, .o, .o] [0] (fun b => rfl) (by decide) rfl rfl (fun b => by kernel_rfl)
    · subst e; exact goes_runM hU [.o, .a 0, .t (i_eq y0.fOff (0#16)) hq0, .o, .o, .a 0, .t (u_eq y0.fSrc (0#8)) hq1, .o, .o] [0] (fun b => rfl) (by decide) rfl rfl (fun b => by kernel_rfl)
  · subst e; exact goes_runM hU [.o, .a 0, .t (i_eq y0.fOff (0#16)) hq0, .o, .o, .o] [0] (fun b => rfl) (by decide) rfl rfl (fun b => by kernel_rfl)
def pre_barbicanref1_Known_J0 (y0 : Insn) (r0 : Int) (ls : List L1) : List Obj := [.cells #[.int .u8 (nn y0.fOp), .int .u8 (nn y0.fDst), .int .u8 (nn y0.fSrc), .int .i16 (ii y0.fOff), .int .i32 (ii y0.fImm)] 37]
noncomputable def t0_barbicanref1_Known_J0 (y0 : Insn) (r0 : Int) (ls : List L1) : List Value := List.append [(v_Insn y0), .pointer (some ⟨(lget ls 0).n, 0, none⟩), .bool false, .int .i64 (r0), undef, .agg #[.int .u8 (nn y0.fOp), .int .u8 (nn y0.fDst), .int .u8 (nn y0.fSrc), .int .i16 (ii y0.fOff), .int .i32 (ii y0.fImm)], .int .i64 (r0)] (und 232)
theorem sp0_barbicanref1_Known_J0_ok (h : jp_barbicanref1_Known_J0 y0 = c0_0) : SpcG Try.prog M B0 S (spcJ bd_barbicanref1_Known_J0 (t0_barbicanref1_Known_J0 y0 r0) (pre_barbicanref1_Known_J0 y0 r0) 1 0 .normal (vf_barbicanref1_Known_J0 y0 r0 (.e0 c0_0)) (Hf_barbicanref1_Known_J0 y0 r0 (.e0 c0_0))) :=
  spcJ_ok hU (go_barbicanref1_Known_J0 hU y0 r0 c0_0 h) (fun _ => rfl) (fun ls h => by match ls, h with | [l0], _ => exact ⟨by kernel_rfl, by kernel_rfl⟩) (fun ls h => by match ls, h with | [l0], _ => rfl) (fun ls => rfl)
inductive Ex_barbicanref1_Known_J1_J0 where
  | e0 (c0_0 : Bool)
noncomputable def jp_barbicanref1_Known_J1_J0 (y0 : Insn) : Bool :=
  bif m_barbicanref1_IsWide y0 then
    (bif y0.fOff == 0#16 then
      (bif y0.fSrc == 0#8 then
        (true)
      else (bif y0.fSrc == 1#8 then
        (true)
      else ((y0.fSrc == 4#8))))
    else (false))
  else (false)
noncomputable def bd_barbicanref1_Known_J1_J0 : Code := codeOf Try.f34 [1, 1, 1, 0, 1, 0, 1, 0, 0]
def fl_barbicanref1_Known_J1_J0 (y0 : Insn) (r0 : Int) (ls : List L1) : List Value := [.pointer (some ⟨(lget ls 0).n, 0, none⟩), .bool false, .int .i64 (r0)]
noncomputable def fr_barbicanref1_Known_J1_J0 (y0 : Insn) (r0 : Int) : List L1 → List Value := mrgF [(0, 1), (3, 235)] (fl_barbicanref1_Known_J1_J0 y0 r0) 3
def Hs_barbicanref1_Known_J1_J0 (y0 : Insn) (r0 : Int) (ls : List L1) : List Obj := [.cells #[.int .u8 (nn y0.fOp), .int .u8 (nn y0.fDst), .int .u8 (nn y0.fSrc), .int .i16 (ii y0.fOff), .int .i32 (ii y0.fImm)] 37, unb, unb, unb]
def vl_barbicanref1_Known_J1_J0 (y0 : Insn) (r0 : Int) : Ex_barbicanref1_Known_J1_J0 → List L1 → List Value
  | .e0 c0_0, ls => [.pointer (some ⟨(lget ls 0).n, 0, none⟩), .bool (c0_0), .int .i64 (r0)]
def mk_barbicanref1_Known_J1_J0 : Ex_barbicanref1_Known_J1_J0 → List (Nat × Nat)
  | .e0 _ => [(0, 1), (3, 235)]
noncomputable def vf_barbicanref1_Known_J1_J0 (y0 : Insn) (r0 : Int) (r : Ex_barbicanref1_Known_J1_J0) : List L1 → List Value := mrgF (mk_barbicanref1_Known_J1_J0 r) (vl_barbicanref1_Known_J1_J0 y0 r0 r) 3
def Hf_barbicanref1_Known_J1_J0 (y0 : Insn) (r0 : Int) : Ex_barbicanref1_Known_J1_J0 → List L1 → List Obj
  | .e0 c0_0, ls => [.cells #[.int .u8 (nn y0.fOp), .int .u8 (nn y0.fDst), .int .u8 (nn y0.fSrc), .int .i16 (ii y0.fOff), .int .i32 (ii y0.fImm)] 37, unb, unb, unb]
def ex_barbicanref1_Known_J1_J0 : Ex_barbicanref1_Known_J1_J0 → Ex
  | .e0 _ => .normal
theorem go_barbicanref1_Known_J1_J0 (e : jp_barbicanref1_Known_J1_J0 y0 = c0_0) : GoesG Try.prog M B0 S bd_barbicanref1_Known_J1_J0 4 (fr_barbicanref1_Known_J1_J0 y0 r0) (Hs_barbicanref1_Known_J1_J0 y0 r0) (ex_barbicanref1_Known_J1_J0 (.e0 c0_0)) 3 (vf_barbicanref1_Known_J1_J0 y0 r0 (.e0 c0_0)) (Hf_barbicanref1_Known_J1_J0 y0 r0 (.e0 c0_0)) 4 := by
  unfold jp_barbicanref1_Known_J1_J0 at e
  replace e := cond_eq_or e
  rcases e with ⟨hq0, e⟩ | ⟨hq0, e⟩
  · replace e := cond_eq_or e
    let P1 : List (PG Try.prog M B0 S) := [.a 0, .cg (ok_barbicanref1_IsWide hU y0 true hq0), .o, .o, .a 0]
    rcases e with ⟨hq1, e⟩ | ⟨hq1, e⟩
    · replace e := cond_eq_or e
      let P2 : List (PG Try.prog M B0 S) := P1 ++ [.t (i_eq y0.fOff (0#16)) hq1, .o, .o, .o, .a 0]
      rcases e with ⟨hq2, e⟩ | ⟨hq2, e⟩
      · subst e; exact goes_runM hU (P2 ++ [.t (u_eq y0.fSrc (0#8)) hq2, .o, .o, .o, .o, .o, .o]) [0, 1, 2] (fun b => rfl) (by decide) rfl rfl (fun b => by kernel_rfl)
      · replace e := cond_eq_or e
        rcases e with ⟨hq3, e⟩ | ⟨hq3, e⟩
        · subst e; exact goes_runM hU (P2 ++ [.t (u_eq y0.fSrc (0#8)) hq2, .o, .o, .a 0, .t (u_eq y0.fSrc (1#8)) hq3, .o, .o, .o, .o, .o]) [0, 1, 2] (fun b => rfl) (by decide) rfl rfl (fun b => by kernel_rfl)
        · subst e; exact goes_runM hU (P2 ++ [.t (u_eq y0.fSrc (0#8)) hq2, .o, .o, .a 0, .t (u_eq y0.fSrc (1#8)) hq3, .o, .o, .o, .a 0, .t (u_eq y0.fSrc (4#8)) rfl, .o, .o, .o]) [0, 1, 2] (fun b => rfl) (by decide) rfl rfl (fun b => by kernel_rfl)
    · subst e; exact goes_runM hU (P1 ++ [.t (i_eq y0.fOff (0#16)) hq1, .o, .o, .o, .o]) [0, 1, 2] (fun b => rfl) (by decide) rfl rfl (fun b => by kernel_rfl)
  · subst e; exact goes_runM hU [.a 0, .cg (ok_barbicanref1_IsWide hU y0 false hq0), .o, .o, .o, .o, .o] [0, 1, 2] (fun b => rfl) (by decide) rfl rfl (fun b => by kernel_rfl)
def pre_barbicanref1_Known_J1_J0 (y0 : Insn) (r0 : Int) (ls : List L1) : List Obj := [.cells #[.int .u8 (nn y0.fOp), .int .u8 (nn y0.fDst), .int .u8 (nn y0.fSrc), .int .i16 (ii y0.fOff), .int .i32 (ii y0.fImm)] 37, unb, unb]
noncomputable def t0_barbicanref1_Known_J1_J0 (y0 : Insn) (r0 : Int) (r1 : Bool) (r2 : Int) (ls : List L1) : List Value := List.append [((lget ls 2).u 0), .pointer (some ⟨(lget ls 0).n, 0, none⟩), .bool false, .int .i64 (r0), .bool (r1)] (List.append (jks (lget ls 2).u 5 11) (List.append [.int .i64 (r2), .bool true, .bool true] (jks (lget ls 2).u 19 220)))
end
section
variable {M : Nat → Prop} {B0 : Nat} {S : World → Prop} (hU : Up M B0 S) (y0 : Insn) (r0 : Int) (r1 : Bool)
include hU y0 r0 r1
theorem sp0_barbicanref1_Known_J1_J0_ok (r2 : Int) (c0_0 : Bool) (h : jp_barbicanref1_Known_J1_J0 y0 = c0_0) : SpcG Try.prog M B0 S (spcJ bd_barbicanref1_Known_J1_J0 (t0_barbicanref1_Known_J1_J0 y0 r0 r1 r2) (pre_barbicanref1_Known_J1_J0 y0 r0) 3 0 .normal (vf_barbicanref1_Known_J1_J0 y0 r0 (.e0 c0_0)) (Hf_barbicanref1_Known_J1_J0 y0 r0 (.e0 c0_0))) :=
  spcJ_ok hU (go_barbicanref1_Known_J1_J0 hU y0 r0 c0_0 h) (fun _ => rfl) (fun ls h => by match ls, h with | [l0, l1, l2], _ => exact ⟨by kernel_rfl, by kernel_rfl⟩) (fun ls h => by match ls, h with | [l0, l1, l2], _ => rfl) (fun ls => rfl)
inductive Ex_barbicanref1_Known_J1_J1_J0 where
  | e0 (c0_0 : Bool)
noncomputable def jp_barbicanref1_Known_J1_J1_J0 (y0 : Insn) (r1 : Bool) : Bool :=
  bif m_barbicanref1_X y0 then
    (false)
  else (bif r1 then
    ((y0.fImm == 0#32))
  else (false))
noncomputable def bd_barbicanref1_Known_J1_J1_J0 : Code := codeOf Try.f34 [1, 1, 1, 0, 1, 0, 1, 1, 1, 1, 1, 1, 1, 1, 1, 0, 0, 0, 1, 0, 0]
def fl_barbicanref1_Known_J1_J1_J0 (y0 : Insn) (r0 : Int) (r1 : Bool) (ls : List L1) : List Value := [.pointer (some ⟨(lget ls 0).n, 0, none⟩), .bool false, .int .i64 (r0), .bool (r1)]
noncomputable def fr_barbicanref1_Known_J1_J1_J0 (y0 : Insn) (r0 : Int) (r1 : Bool) : List L1 → List Value := mrgF [(0, 1), (4, 234)] (fl_barbicanref1_Known_J1_J1_J0 y0 r0 r1) 4
def Hs_barbicanref1_Known_J1_J1_J0 (y0 : Insn) (r0 : Int) (r1 : Bool) (ls : List L1) : List Obj := [.cells #[.int .u8 (nn y0.fOp), .int .u8 (nn y0.fDst), .int .u8 (nn y0.fSrc), .int .i16 (ii y0.fOff), .int .i32 (ii y0.fImm)] 37, unb, unb, unb, unb]
def vl_barbicanref1_Known_J1_J1_J0 (y0 : Insn) (r0 : Int) (r1 : Bool) : Ex_barbicanref1_Known_J1_J1_J0 → List L1 → List Value
  | .e0 c0_0, ls => [.pointer (some ⟨(lget ls 0).n, 0, none⟩), .bool (c0_0), .int .i64 (r0)]
def mk_barbicanref1_Known_J1_J1_J0 : Ex_barbicanref1_Known_J1_J1_J0 → List (Nat × Nat)
  | .e0 _ => [(0, 1), (3, 235)]
noncomputable def vf_barbicanref1_Known_J1_J1_J0 (y0 : Insn) (r0 : Int) (r1 : Bool) (r : Ex_barbicanref1_Known_J1_J1_J0) : List L1 → List Value := mrgF (mk_barbicanref1_Known_J1_J1_J0 r) (vl_barbicanref1_Known_J1_J1_J0 y0 r0 r1 r) 4
def Hf_barbicanref1_Known_J1_J1_J0 (y0 : Insn) (r0 : Int) (r1 : Bool) : Ex_barbicanref1_Known_J1_J1_J0 → List L1 → List Obj
  | .e0 c0_0, ls => [.cells #[.int .u8 (nn y0.fOp), .int .u8 (nn y0.fDst), .int .u8 (nn y0.fSrc), .int .i16 (ii y0.fOff), .int .i32 (ii y0.fImm)] 37, unb, unb, unb, unb]
def ex_barbicanref1_Known_J1_J1_J0 : Ex_barbicanref1_Known_J1_J1_J0 → Ex
  | .e0 _ => .normal
theorem go_barbicanref1_Known_J1_J1_J0 (c0_0 : Bool) (e : jp_barbicanref1_Known_J1_J1_J0 y0 r1 = c0_0) : GoesG Try.prog M B0 S bd_barbicanref1_Known_J1_J1_J0 5 (fr_barbicanref1_Known_J1_J1_J0 y0 r0 r1) (Hs_barbicanref1_Known_J1_J1_J0 y0 r0 r1) (ex_barbicanref1_Known_J1_J1_J0 (.e0 c0_0)) 4 (vf_barbicanref1_Known_J1_J1_J0 y0 r0 r1 (.e0 c0_0)) (Hf_barbicanref1_Known_J1_J1_J0 y0 r0 r1 (.e0 c0_0)) 5 := by
  unfold jp_barbicanref1_Known_J1_J1_J0 at e
  replace e := cond_eq_or e
  rcases e with ⟨hq0, e⟩ | ⟨hq0, e⟩
  · subst e; exact goes_runM hU [.a 0, .cg (ok_barbicanref1_X hU y0 true hq0), .o, .o, .o, .o, .o, .o] [0, 1, 2, 3] (fun b => rfl) (by decide) rfl rfl (fun b => by kernel_rfl)
  · replace e := cond_eq_or e
    rcases e with ⟨hq1, e⟩ | ⟨hq1, e⟩
    · subst e; exact goes_runM hU [.a 0, .cg (ok_barbicanref1_X hU y0 false hq0), .o, .o, .b hq1, .o, .o, .o, .a 0, .t (i_eq y0.fImm (0#32)) rfl, .o, .o] [0, 1, 2, 3] (fun b => rfl) (by decide) rfl rfl (fun b => by kernel_rfl)
    · subst e; exact goes_runM hU [.a 0, .cg (ok_barbicanref1_X hU y0 false hq0), .o, .o, .b hq1, .o, .o, .o, .o] [0, 1, 2, 3] (fun b => rfl) (by decide) rfl rfl (fun b => by kernel_rfl)
def pre_barbicanref1_Known_J1_J1_J0 (y0 : Insn) (r0 : Int) (r1 : Bool) (ls : List L1) : List Obj := [.cells #[.int .u8 (nn y0.fOp), .int .u8 (nn y0.fDst), .int .u8 (nn y0.fSrc), .int .i16 (ii y0.fOff), .int .i32 (ii y0.fImm)] 37, unb, unb, unb]
noncomputable def t0_barbicanref1_Known_J1_J1_J0 (y0 : Insn) (r0 : Int) (r1 : Bool) (ls : List L1) : List Value := List.append [((lget ls 3).u 0), .pointer (some ⟨(lget ls 0).n, 0, none⟩), .bool false, .int .i64 (r0), .bool (r1)] (List.append (jks (lget ls 3).u 5 69) (List.append [.bool true, .int .i64 (r0), .bool true] (jks (lget ls 3).u 77 162)))
theorem sp0_barbicanref1_Known_J1_J1_J0_ok (c0_0 : Bool) (h : jp_barbicanref1_Known_J1_J1_J0 y0 r1 = c0_0) : SpcG Try.prog M B0 S (spcJ bd_barbicanref1_Known_J1_J1_J0 (t0_barbicanref1_Known_J1_J1_J0 y0 r0 r1) (pre_barbicanref1_Known_J1_J1_J0 y0 r0 r1) 4 0 .normal (vf_barbicanref1_Known_J1_J1_J0 y0 r0 r1 (.e0 c0_0)) (Hf_barbicanref1_Known_J1_J1_J0 y0 r0 r1 (.e0 c0_0))) :=
  spcJ_ok hU (go_barbicanref1_Known_J1_J1_J0 hU y0 r0 r1 c0_0 h) (fun _ => rfl) (fun ls h => by match ls, h with | [l0, l1, l2, l3], _ => exact ⟨by kernel_rfl, by kernel_rfl⟩) (fun ls h => by match ls, h with | [l0, l1, l2, l3], _ => rfl) (fun ls => rfl)
inductive Ex_barbicanref1_Known_J1_J1_J1 where
  | e0 (c0_0 : Bool)
noncomputable def jp_barbicanref1_Known_J1_J1_J1 (y0 : Insn) (r1 : Bool) : Bool :=
  bif r1 then
    (bif y0.fImm == 16#32 then
      (bindT (m_barbicanref1_Class y0) fun rd0 =>
      bif rd0 == 4 then
        (true)
      else (bif m_barbicanref1_X y0 then
        (false)
      else (true)))
    else (bif y0.fImm == 32#32 then
      (bindT (m_barbicanref1_Class y0) fun rd0 =>
      bif rd0 == 4 then
        (true)
      else (bif m_barbicanref1_X y0 then
        (false)
      else (true)))
    else (bif y0.fImm == 64#32 then
      (bindT (m_barbicanref1_Class y0) fun rd0 =>
      bif rd0 == 4 then
        (true)
      else (bif m_barbicanref1_X y0 then
        (false)
      else (true)))
    else (false))))
  else (false)
noncomputable def bd_barbicanref1_Known_J1_J1_J1 : Code := codeOf Try.f34 [1, 1, 1, 0, 1, 0, 1, 1, 1, 1, 1, 1, 1, 1, 1, 0, 0, 0, 1, 1, 1, 0, 0]
def fl_barbicanref1_Known_J1_J1_J1 (y0 : Insn) (r0 : Int) (r1 : Bool) (ls : List L1) : List Value := [.pointer (some ⟨(lget ls 0).n, 0, none⟩), .bool false, .int .i64 (r0), .bool (r1)]
noncomputable def fr_barbicanref1_Known_J1_J1_J1 (y0 : Insn) (r0 : Int) (r1 : Bool) : List L1 → List Value := mrgF [(0, 1), (4, 234)] (fl_barbicanref1_Known_J1_J1_J1 y0 r0 r1) 4
def Hs_barbicanref1_Known_J1_J1_J1 (y0 : Insn) (r0 : Int) (r1 : Bool) (ls : List L1) : List Obj := [.cells #[.int .u8 (nn y0.fOp), .int .u8 (nn y0.fDst), .int .u8 (nn y0.fSrc), .int .i16 (ii y0.fOff), .int .i32 (ii y0.fImm)] 37, unb, unb, unb, unb]
def vl_barbicanref1_Known_J1_J1_J1 (y0 : Insn) (r0 : Int) (r1 : Bool) : Ex_barbicanref1_Known_J1_J1_J1 → List L1 → List Value
  | .e0 c0_0, ls => [.pointer (some ⟨(lget ls 0).n, 0, none⟩), .bool (c0_0), .int .i64 (r0)]
def mk_barbicanref1_Known_J1_J1_J1 : Ex_barbicanref1_Known_J1_J1_J1 → List (Nat × Nat)
  | .e0 _ => [(0, 1), (3, 235)]
noncomputable def vf_barbicanref1_Known_J1_J1_J1 (y0 : Insn) (r0 : Int) (r1 : Bool) (r : Ex_barbicanref1_Known_J1_J1_J1) : List L1 → List Value := mrgF (mk_barbicanref1_Known_J1_J1_J1 r) (vl_barbicanref1_Known_J1_J1_J1 y0 r0 r1 r) 4
def Hf_barbicanref1_Known_J1_J1_J1 (y0 : Insn) (r0 : Int) (r1 : Bool) : Ex_barbicanref1_Known_J1_J1_J1 → List L1 → List Obj
  | .e0 c0_0, ls => [.cells #[.int .u8 (nn y0.fOp), .int .u8 (nn y0.fDst), .int .u8 (nn y0.fSrc), .int .i16 (ii y0.fOff), .int .i32 (ii y0.fImm)] 37, unb, unb, unb, unb]
def ex_barbicanref1_Known_J1_J1_J1 : Ex_barbicanref1_Known_J1_J1_J1 → Ex
  | .e0 _ => .normal
theorem go_barbicanref1_Known_J1_J1_J1 (c0_0 : Bool) (e : jp_barbicanref1_Known_J1_J1_J1 y0 r1 = c0_0) : GoesG Try.prog M B0 S bd_barbicanref1_Known_J1_J1_J1 5 (fr_barbicanref1_Known_J1_J1_J1 y0 r0 r1) (Hs_barbicanref1_Known_J1_J1_J1 y0 r0 r1) (ex_barbicanref1_Known_J1_J1_J1 (.e0 c0_0)) 4 (vf_barbicanref1_Known_J1_J1_J1 y0 r0 r1 (.e0 c0_0)) (Hf_barbicanref1_Known_J1_J1_J1 y0 r0 r1 (.e0 c0_0)) 5 := by
  unfold jp_barbicanref1_Known_J1_J1_J1 at e
  replace e := cond_eq_or e
  rcases e with ⟨hq0, e⟩ | ⟨hq0, e⟩
  · replace e := cond_eq_or e
    let P1 : List (PG Try.prog M B0 S) := [.b hq0, .o, .o, .a 0]
    rcases e with ⟨hq1, e⟩ | ⟨hq1, e⟩
    · replace e := bindT_eq e
      obtain ⟨rd0, e_rd0, e⟩ := e
      try dsimp only at e
      replace e := cond_eq_or e
      let P2 : List (PG Try.prog M B0 S) := P1 ++ [.t (i_eq y0.fImm (16#32)) hq1, .o, .o, .o, .o, .o, .o, .a 0, .cg (ok_barbicanref1_Class hU y0 rd0 e_rd0)]
      rcases e with ⟨hq2, e⟩ | ⟨hq2, e⟩
      · subst e; exact goes_runM hU (P2 ++ [.b (z_eqlT hq2), .o, .o, .o, .o]) [0, 1, 2, 3] (fun b => rfl) (by decide) rfl rfl (fun b => by kernel_rfl)
      · replace e := cond_eq_or e
        rcases e with ⟨hq3, e⟩ | ⟨hq3, e⟩
        · subst e; exact goes_runM hU (P2 ++ [.b (z_eqlF hq2), .o, .a 0, .cg (ok_barbicanref1_X hU y0 true hq3), .o, .o, .o, .o]) [0, 1, 2, 3] (fun b => rfl) (by decide) rfl rfl (fun b => by kernel_rfl)
        · subst e; exact goes_runM hU (P2 ++ [.b (z_eqlF hq2), .o, .a 0, .cg (ok_barbicanref1_X hU y0 false hq3), .o, .o, .o, .o]) [0, 1, 2, 3] (fun b => rfl) (by decide) rfl rfl (fun b => by kernel_rfl)
    · replace e := cond_eq_or e
      let P3 : List (PG Try.prog M B0 S) := P1 ++ [.t (i_eq y0.fImm (16#32)) hq1, .o, .o, .a 0]
      rcases e with ⟨hq2, e⟩ | ⟨hq2, e⟩
      · replace e := bindT_eq e
        obtain ⟨rd0, e_rd0, e⟩ := e
        try dsimp only at e
        replace e := cond_eq_or e
        let P4 : List (PG Try.prog M B0 S) := P3 ++ [.t (i_eq y0.fImm (32#32)) hq2, .o, .o, .o, .o, .o, .a 0, .cg (ok_barbicanref1_Class hU y0 rd0 e_rd0)]
        rcases e with ⟨hq3, e⟩ | ⟨hq3, e⟩
        · subst e; exact goes_runM hU (P4 ++ [.b (z_eqlT hq3), .o, .o, .o, .o]) [0, 1, 2, 3] (fun b => rfl) (by decide) rfl rfl (fun b => by kernel_rfl)
        · replace e := cond_eq_or e
          rcases e with ⟨hq4, e⟩ | ⟨hq4, e⟩
          · subst e; exact goes_runM hU (P4 ++ [.b (z_eqlF hq3), .o, .a 0, .cg (ok_barbicanref1_X hU y0 true hq4), .o, .o, .o, .o]) [0, 1, 2, 3] (fun b => rfl) (by decide) rfl rfl (fun b => by kernel_rfl)
          · subst e; exact goes_runM hU (P4 ++ [.b (z_eqlF hq3), .o, .a 0, .cg (ok_barbicanref1_X hU y0 false hq4), .o, .o, .o, .o]) [0, 1, 2, 3] (fun b => rfl) (by decide) rfl rfl (fun b => by kernel_rfl)
      · replace e := cond_eq_or e
        let P5 : List (PG Try.prog M B0 S) := P3 ++ [.t (i_eq y0.fImm (32#32)) hq2, .o, .o, .o, .a 0]
        rcases e with ⟨hq3, e⟩ | ⟨hq3, e⟩
        · replace e := bindT_eq e
          obtain ⟨rd0, e_rd0, e⟩ := e
          try dsimp only at e
          replace e := cond_eq_or e
          let P6 : List (PG Try.prog M B0 S) := P5 ++ [.t (i_eq y0.fImm (64#32)) hq3, .o, .o, .o, .a 0, .cg (ok_barbicanref1_Class hU y0 rd0 e_rd0)]
          rcases e with ⟨hq4, e⟩ | ⟨hq4, e⟩
          · subst e; exact goes_runM hU (P6 ++ [.b (z_eqlT hq4), .o, .o, .o, .o]) [0, 1, 2, 3] (fun b => rfl) (by decide) rfl rfl (fun b => by kernel_rfl)
          · replace e := cond_eq_or e
            rcases e with ⟨hq5, e⟩ | ⟨hq5, e⟩
            · subst e; exact goes_runM hU (P6 ++ [.b (z_eqlF hq4), .o, .a 0, .cg (ok_barbicanref1_X hU y0 true hq5), .o, .o, .o, .o]) [0, 1, 2, 3] (fun b => rfl) (by decide) rfl rfl (fun b => by kernel_rfl)
            · subst e; exact goes_runM hU (P6 ++ [.b (z_eqlF hq4), .o, .a 0, .cg (ok_barbicanref1_X hU y0 false hq5), .o, .o, .o, .o]) [0, 1, 2, 3] (fun b => rfl) (by decide) rfl rfl (fun b => by kernel_rfl)
        · subst e; exact goes_runM hU (P5 ++ [.t (i_eq y0.fImm (64#32)) hq3, .o, .o, .o, .o, .o]) [0, 1, 2, 3] (fun b => rfl) (by decide) rfl rfl (fun b => by kernel_rfl)
  · subst e; exact goes_runM hU [.b hq0, .o, .o, .o, .o, .o] [0, 1, 2, 3] (fun b => rfl) (by decide) rfl rfl (fun b => by kernel_rfl)
def pre_barbicanref1_Known_J1_J1_J1 (y0 : Insn) (r0 : Int) (r1 : Bool) (ls : List L1) : List Obj := [.cells #[.int .u8 (nn y0.fOp), .int .u8 (nn y0.fDst), .int .u8 (nn y0.fSrc), .int .i16 (ii y0.fOff), .int .i32 (ii y0.fImm)] 37, unb, unb, unb]
noncomputable def t0_barbicanref1_Known_J1_J1_J1 (y0 : Insn) (r0 : Int) (r1 : Bool) (ls : List L1) : List Value := List.append [((lget ls 3).u 0), .pointer (some ⟨(lget ls 0).n, 0, none⟩), .bool false, .int .i64 (r0), .bool (r1)] (List.append (jks (lget ls 3).u 5 69) (List.append [.bool false, .int .i64 (r0), .bool false] (List.append (jks (lget ls 3).u 77 11) (List.append [.bool true, .int .i64 (r0), .bool true] (jks (lget ls 3).u 91 148)))))
theorem sp0_barbicanref1_Known_J1_J1_J1_ok (c0_0 : Bool) (h : jp_barbicanref1_Known_J1_J1_J1 y0 r1 = c0_0) : SpcG Try.prog M B0 S (spcJ bd_barbicanref1_Known_J1_J1_J1 (t0_barbicanref1_Known_J1_J1_J1 y0 r0 r1) (pre_barbicanref1_Known_J1_J1_J1 y0 r0 r1) 4 0 .normal (vf_barbicanref1_Known_J1_J1_J1 y0 r0 r1 (.e0 c0_0)) (Hf_barbicanref1_Known_J1_J1_J1 y0 r0 r1 (.e0 c0_0))) :=
  spcJ_ok hU (go_barbicanref1_Known_J1_J1_J1 hU y0 r0 r1 c0_0 h) (fun _ => rfl) (fun ls h => by match ls, h with | [l0, l1, l2, l3], _ => exact ⟨by kernel_rfl, by kernel_rfl⟩) (fun ls h => by match ls, h with | [l0, l1, l2, l3], _ => rfl) (fun ls => rfl)
inductive Ex_barbicanref1_Known_J1_J1 where
  | e0 
  | e1 (c1_0 : Bool)
noncomputable def jp_barbicanref1_Known_J1_J1 (y0 : Insn) (r0 : Int) (r1 : Bool) : Ex_barbicanref1_Known_J1_J1 :=
  bif r0 == 8 then
    (bindT (jp_barbicanref1_Known_J1_J1_J0 y0 r1) fun rc0 =>
    (.e1 rc0))
  else (bif r0 == 13 then
    (bindT (jp_barbicanref1_Known_J1_J1_J1 y0 r1) fun rc0 =>
    (.e1 rc0))
  else (bif decide (13 < r0) then
    ((.e1 false))
  else ((.e0))))
noncomputable def bd_barbicanref1_Known_J1_J1 : Code := codeOf Try.f34 [1, 1, 1, 0, 1, 0, 1, 1, 1, 1, 1, 1, 1, 1, 1, 0, 0]
def fl_barbicanref1_Known_J1_J1 (y0 : Insn) (r0 : Int) (r1 : Bool) (ls : List L1) : List Value := [.pointer (some ⟨(lget ls 0).n, 0, none⟩), .bool false, .int .i64 (r0), .bool (r1)]
noncomputable def fr_barbicanref1_Known_J1_J1 (y0 : Insn) (r0 : Int) (r1 : Bool) : List L1 → List Value := mrgF [(0, 1), (4, 234)] (fl_barbicanref1_Known_J1_J1 y0 r0 r1) 3
def Hs_barbicanref1_Known_J1_J1 (y0 : Insn) (r0 : Int) (r1 : Bool) (ls : List L1) : List Obj := [.cells #[.int .u8 (nn y0.fOp), .int .u8 (nn y0.fDst), .int .u8 (nn y0.fSrc), .int .i16 (ii y0.fOff), .int .i32 (ii y0.fImm)] 37, unb, unb, unb]
def vl_barbicanref1_Known_J1_J1 (y0 : Insn) (r0 : Int) (r1 : Bool) : Ex_barbicanref1_Known_J1_J1 → List L1 → List Value
  | .e0 , ls => [.pointer (some ⟨(lget ls 0).n, 0, none⟩), .bool false, .int .i64 (r0)]
  | .e1 c1_0, ls => [.pointer (some ⟨(lget ls 0).n, 0, none⟩), .bool (c1_0), .int .i64 (r0)]
def mk_barbicanref1_Known_J1_J1 : Ex_barbicanref1_Known_J1_J1 → List (Nat × Nat)
  | .e0  => [(0, 1), (3, 235)]
  | .e1 _ => [(0, 1), (3, 235)]
noncomputable def vf_barbicanref1_Known_J1_J1 (y0 : Insn) (r0 : Int) (r1 : Bool) (r : Ex_barbicanref1_Known_J1_J1) : List L1 → List Value := mrgF (mk_barbicanref1_Known_J1_J1 r) (vl_barbicanref1_Known_J1_J1 y0 r0 r1 r) 3
def Hf_barbicanref1_Known_J1_J1 (y0 : Insn) (r0 : Int) (r1 : Bool) : Ex_barbicanref1_Known_J1_J1 → List L1 → List Obj
  | .e0 , ls => [.cells #[.int .u8 (nn y0.fOp), .int .u8 (nn y0.fDst), .int .u8 (nn y0.fSrc), .int .i16 (ii y0.fOff), .int .i32 (ii y0.fImm)] 37, unb, unb, unb]
  | .e1 c1_0, ls => [.cells #[.int .u8 (nn y0.fOp), .int .u8 (nn y0.fDst), .int .u8 (nn y0.fSrc), .int .i16 (ii y0.fOff), .int .i32 (ii y0.fImm)] 37, unb, unb, unb]
def ex_barbicanref1_Known_J1_J1 : Ex_barbicanref1_Known_J1_J1 → Ex
  | .e0  => .normal
  | .e1 _ => .ret
theorem go_barbicanref1_Known_J1_J1 (r : Ex_barbicanref1_Known_J1_J1) (e : jp_barbicanref1_Known_J1_J1 y0 r0 r1 = r) : GoesG Try.prog M B0 S bd_barbicanref1_Known_J1_J1 4 (fr_barbicanref1_Known_J1_J1 y0 r0 r1) (Hs_barbicanref1_Known_J1_J1 y0 r0 r1) (ex_barbicanref1_Known_J1_J1 r) 3 (vf_barbicanref1_Known_J1_J1 y0 r0 r1 r) (Hf_barbicanref1_Known_J1_J1 y0 r0 r1 r) 4 := by
  unfold jp_barbicanref1_Known_J1_J1 at e
  replace e := cond_eq_or e
  rcases e with ⟨hq0, e⟩ | ⟨hq0, e⟩
  · replace e := bindT_eq e
    obtain ⟨rc0, e_rc0, e⟩ := e
    try dsimp only at e
    subst e; exact goes_runM hU [.o, .b (z_eqlT hq0), .o, .cp, .cx (sp0_barbicanref1_Known_J1_J1_J0_ok hU y0 r0 r1 rc0 e_rc0) [0, 1, 2, 3]] [0, 1, 2] (fun b => rfl) (by decide) rfl rfl (fun b => by kernel_rfl)
  · replace e := cond_eq_or e
    rcases e with ⟨hq1, e⟩ | ⟨hq1, e⟩
    · replace e := bindT_eq e
      obtain ⟨rc0, e_rc0, e⟩ := e
      try dsimp only at e
      subst e; exact goes_runM hU [.o, .b (z_eqlF hq0), .o, .o, .b (z_eqlT hq1), .o, .cp, .cx (sp0_barbicanref1_Known_J1_J1_J1_ok hU y0 r0 r1 rc0 e_rc0) [0, 1, 2, 3]] [0, 1, 2] (fun b => rfl) (by decide) rfl rfl (fun b => by kernel_rfl)
    · replace e := cond_eq_or e
      rcases e with ⟨hq2, e⟩ | ⟨hq2, e⟩
      · subst e; exact goes_runM hU [.o, .b (z_eqlF hq0), .o, .o, .b (z_eqlF hq1), .o, .o, .b (z_gtrT hq2), .o, .o] [0, 1, 2] (fun b => rfl) (by decide) rfl rfl (fun b => by kernel_rfl)
      · subst e; exact goes_runM hU [.o, .b (z_eqlF hq0), .o, .o, .b (z_eqlF hq1), .o, .o, .b (z_gtrF hq2), .o] [0, 1, 2] (fun b => rfl) (by decide) rfl rfl (fun b => by kernel_rfl)
def pre_barbicanref1_Known_J1_J1 (y0 : Insn) (r0 : Int) (r1 : Bool) (ls : List L1) : List Obj := [.cells #[.int .u8 (nn y0.fOp), .int .u8 (nn y0.fDst), .int .u8 (nn y0.fSrc), .int .i16 (ii y0.fOff), .int .i32 (ii y0.fImm)] 37, unb, unb]
noncomputable def t0_barbicanref1_Known_J1_J1 (y0 : Insn) (r0 : Int) (r1 : Bool) (r2 : Int) (ls : List L1) : List Value := List.append [((lget ls 2).u 0), .pointer (some ⟨(lget ls 0).n, 0, none⟩), .bool false, .int .i64 (r0), .bool (r1)] (List.append (jks (lget ls 2).u 5 11) (List.append [.int .i64 (r2), .bool false, .bool false] (List.append (jks (lget ls 2).u 19 22) (List.append [.bool false, .bool false] (List.append (jks (lget ls 2).u 43 8) (List.append [.bool false, .bool false] (List.append (jks (lget ls 2).u 53 8) (List.append [.bool false, .bool false] (List.append (jks (lget ls 2).u 63 8) (List.append [.bool true, .bool true] (jks (lget ls 2).u 73 166)))))))))))
theorem sp0_barbicanref1_Known_J1_J1_ok (r2 : Int) (h : jp_barbicanref1_Known_J1_J1 y0 r0 r1 = .e0) : SpcG Try.prog M B0 S (spcJ bd_barbicanref1_Known_J1_J1 (t0_barbicanref1_Known_J1_J1 y0 r0 r1 r2) (pre_barbicanref1_Known_J1_J1 y0 r0 r1) 3 0 .normal (vf_barbicanref1_Known_J1_J1 y0 r0 r1 .e0) (Hf_barbicanref1_Known_J1_J1 y0 r0 r1 .e0)) :=
  spcJ_ok hU (go_barbicanref1_Known_J1_J1 hU y0 r0 r1 _ h) (fun _ => rfl) (fun ls h => by match ls, h with | [l0, l1, l2], _ => exact ⟨by kernel_rfl, by kernel_rfl⟩) (fun ls h => by match ls, h with | [l0, l1, l2], _ => rfl) (fun ls => rfl)
theorem sp1_barbicanref1_Known_J1_J1_ok (r2 : Int) (c1_0 : Bool) (h : jp_barbicanref1_Known_J1_J1 y0 r0 r1 = (.e1 c1_0)) : SpcG Try.prog M B0 S (spcJ bd_barbicanref1_Known_J1_J1 (t0_barbicanref1_Known_J1_J1 y0 r0 r1 r2) (pre_barbicanref1_Known_J1_J1 y0 r0 r1) 3 0 .ret (vf_barbicanref1_Known_J1_J1 y0 r0 r1 (.e1 c1_0)) (Hf_barbicanref1_Known_J1_J1 y0 r0 r1 (.e1 c1_0))) :=
  spcJ_ok hU (go_barbicanref1_Known_J1_J1 hU y0 r0 r1 _ h) (fun _ => rfl) (fun ls h => by match ls, h with | [l0, l1, l2], _ => exact ⟨by kernel_rfl, by kernel_rfl⟩) (fun ls h => by match ls, h with | [l0, l1, l2], _ => rfl) (fun ls => rfl)
inductive Ex_barbicanref1_Known_J1_J2 where
  | e0 (c0_0 : Bool)
noncomputable def jp_barbicanref1_Known_J1_J2 (y0 : Insn) : Bool :=
  bif y0.fOff == 0#16 then
    (bif m_barbicanref1_X y0 then
      (bif y0.fImm == 0#32 then
        (true)
      else (false))
    else ((y0.fSrc == 0#8)))
  else (false)
noncomputable def bd_barbicanref1_Known_J1_J2 : Code := codeOf Try.f34 [1, 1, 1, 0, 1, 0, 1, 1, 1, 1, 1, 1, 1, 1, 1, 0, 1, 0]
def fl_barbicanref1_Known_J1_J2 (y0 : Insn) (r0 : Int) (ls : List L1) : List Value := [.pointer (some ⟨(lget ls 0).n, 0, none⟩), .bool false, .int .i64 (r0)]
noncomputable def fr_barbicanref1_Known_J1_J2 (y0 : Insn) (r0 : Int) : List L1 → List Value := mrgF [(0, 1), (3, 235)] (fl_barbicanref1_Known_J1_J2 y0 r0) 4
def Hs_barbicanref1_Known_J1_J2 (y0 : Insn) (r0 : Int) (ls : List L1) : List Obj := [.cells #[.int .u8 (nn y0.fOp), .int .u8 (nn y0.fDst), .int .u8 (nn y0.fSrc), .int .i16 (ii y0.fOff), .int .i32 (ii y0.fImm)] 37, unb, unb, unb, unb]
def vl_barbicanref1_Known_J1_J2 (y0 : Insn) (r0 : Int) : Ex_barbicanref1_Known_J1_J2 → List L1 → List Value
  | .e0 c0_0, ls => [.pointer (some ⟨(lget ls 0).n, 0, none⟩), .bool (c0_0), .int .i64 (r0)]
def mk_barbicanref1_Known_J1_J2 : Ex_barbicanref1_Known_J1_J2 → List (Nat × Nat)
  | .e0 _ => [(0, 1), (3, 235)]
noncomputable def vf_barbicanref1_Known_J1_J2 (y0 : Insn) (r0 : Int) (r : Ex_barbicanref1_Known_J1_J2) : List L1 → List Value := mrgF (mk_barbicanref1_Known_J1_J2 r) (vl_barbicanref1_Known_J1_J2 y0 r0 r) 4
def Hf_barbicanref1_Known_J1_J2 (y0 : Insn) (r0 : Int) : Ex_barbicanref1_Known_J1_J2 → List L1 → List Obj
  | .e0 c0_0, ls => [.cells #[.int .u8 (nn y0.fOp), .int .u8 (nn y0.fDst), .int .u8 (nn y0.fSrc), .int .i16 (ii y0.fOff), .int .i32 (ii y0.fImm)] 37, unb, unb, unb, unb]
def ex_barbicanref1_Known_J1_J2 : Ex_barbicanref1_Known_J1_J2 → Ex
  | .e0 _ => .normal
end
section
variable {M : Nat → Prop} {B0 : Nat} {S : World → Prop} (hU : Up M B0 S) (y0 : Insn) (r0 : Int) (c0_0 : Bool)
include hU y0 r0 c0_0
theorem go_barbicanref1_Known_J1_J2 (e : jp_barbicanref1_Known_J1_J2 y0 = c0_0) : GoesG Try.prog M B0 S bd_barbicanref1_Known_J1_J2 5 (fr_barbicanref1_Known_J1_J2 y0 r0) (Hs_barbicanref1_Known_J1_J2 y0 r0) (ex_barbicanref1_Known_J1_J2 (.e0 c0_0)) 4 (vf_barbicanref1_Known_J1_J2 y0 r0 (.e0 c0_0)) (Hf_barbicanref1_Known_J1_J2 y0 r0 (.e0 c0_0)) 5 := by
  unfold jp_barbicanref1_Known_J1_J2 at e
  replace e := cond_eq_or e
  rcases e with ⟨hq0, e⟩ | ⟨hq0, e⟩
  · replace e := cond_eq_or e
    let P1 : List (PG Try.prog M B0 S) := [.o, .a 0, .t (i_eq y0.fOff (0#16)) hq0, .o, .a 0]
    rcases e with ⟨hq1, e⟩ | ⟨hq1, e⟩
    · replace e := cond_eq_or e
      rcases e with ⟨hq2, e⟩ | ⟨hq2, e⟩
      · subst e; exact goes_runM hU (P1 ++ [.cg (ok_barbicanref1_X hU y0 true hq1), .o, .o, .a 0, .t (i_eq y0.fImm (0#32)) hq2, .o, .o, .o, .o, .o]) [0, 1, 2, 3] (fun b => rfl) (by decide) rfl rfl (fun b => by kernel_rfl)
      · subst e; exact goes_runM hU (P1 ++ [.cg (ok_barbicanref1_X hU y0 true hq1), .o, .o, .a 0, .t (i_eq y0.fImm (0#32)) hq2, .o, .o, .a 0, .cg (ok_barbicanref1_X hU y0 true hq1), .o, .o, .o, .o, .o, .o]) [0, 1, 2, 3] (fun b => rfl) (by decide) rfl rfl (fun b => by kernel_rfl)
    · subst e; exact goes_runM hU (P1 ++ [.cg (ok_barbicanref1_X hU y0 false hq1), .o, .o, .o, .a 0, .cg (ok_barbicanref1_X hU y0 false hq1), .o, .o, .o, .a 0, .t (u_eq y0.fSrc (0#8)) rfl, .o, .o, .o, .o]) [0, 1, 2, 3] (fun b => rfl) (by decide) rfl rfl (fun b => by kernel_rfl)
  · subst e; exact goes_runM hU [.o, .a 0, .t (i_eq y0.fOff (0#16)) hq0, .o, .o, .o] [0, 1, 2, 3] (fun b => rfl) (by decide) rfl rfl (fun b => by kernel_rfl)
def pre_barbicanref1_Known_J1_J2 (y0 : Insn) (r0 : Int) (ls : List L1) : List Obj := [.cells #[.int .u8 (nn y0.fOp), .int .u8 (nn y0.fDst), .int .u8 (nn y0.fSrc), .int .i16 (ii y0.fOff), .int .i32 (ii y0.fImm)] 37, unb, unb, unb]
noncomputable def t0_barbicanref1_Known_J1_J2 (y0 : Insn) (r0 : Int) (ls : List L1) : List Value := List.append [((lget ls 3).u 0), .pointer (some ⟨(lget ls 0).n, 0, none⟩), .bool false, .int .i64 (r0)] (jks (lget ls 3).u 4 235)
theorem sp0_barbicanref1_Known_J1_J2_ok (h : jp_barbicanref1_Known_J1_J2 y0 = c0_0) : SpcG Try.prog M B0 S (spcJ bd_barbicanref1_Known_J1_J2 (t0_barbicanref1_Known_J1_J2 y0 r0) (pre_barbicanref1_Known_J1_J2 y0 r0) 4 0 .normal (vf_barbicanref1_Known_J1_J2 y0 r0 (.e0 c0_0)) (Hf_barbicanref1_Known_J1_J2 y0 r0 (.e0 c0_0))) :=
  spcJ_ok hU (go_barbicanref1_Known_J1_J2 hU y0 r0 c0_0 h) (fun _ => rfl) (fun ls h => by match ls, h with | [l0, l1, l2, l3], _ => exact ⟨by kernel_rfl, by kernel_rfl⟩) (fun ls h => by match ls, h with | [l0, l1, l2, l3], _ => rfl) (fun ls => rfl)
inductive Ex_barbicanref1_Known_J1_J3_J0 where
  | e0 (c0_0 : Bool)
noncomputable def jp_barbicanref1_Known_J1_J3_J0 (y0 : Insn) (r1 : Bool) : Bool :=
  bif m_barbicanref1_X y0 then
    (false)
  else (bif r1 then
    ((y0.fImm == 0#32))
  else (false))
noncomputable def bd_barbicanref1_Known_J1_J3_J0 : Code := codeOf Try.f34 [1, 1, 1, 0, 1, 0, 1, 1, 1, 1, 1, 1, 1, 1, 1, 0, 0, 0, 1, 0, 0]
def fl_barbicanref1_Known_J1_J3_J0 (y0 : Insn) (r0 : Int) (r1 : Bool) (ls : List L1) : List Value := [.pointer (some ⟨(lget ls 0).n, 0, none⟩), .bool false, .int .i64 (r0), .bool (r1)]
noncomputable def fr_barbicanref1_Known_J1_J3_J0 (y0 : Insn) (r0 : Int) (r1 : Bool) : List L1 → List Value := mrgF [(0, 1), (4, 234)] (fl_barbicanref1_Known_J1_J3_J0 y0 r0 r1) 4
def Hs_barbicanref1_Known_J1_J3_J0 (y0 : Insn) (r0 : Int) (r1 : Bool) (ls : List L1) : List Obj := [.cells #[.int .u8 (nn y0.fOp), .int .u8 (nn y0.fDst), .int .u8 (nn y0.fSrc), .int .i16 (ii y0.fOff), .int .i32 (ii y0.fImm)] 37, unb, unb, unb, unb]
def vl_barbicanref1_Known_J1_J3_J0 (y0 : Insn) (r0 : Int) (r1 : Bool) : Ex_barbicanref1_Known_J1_J3_J0 → List L1 → List Value
  | .e0 c0_0, ls => [.pointer (some ⟨(lget ls 0).n, 0, none⟩), .bool (c0_0), .int .i64 (r0)]
def mk_barbicanref1_Known_J1_J3_J0 : Ex_barbicanref1_Known_J1_J3_J0 → List (Nat × Nat)
  | .e0 _ => [(0, 1), (3, 235)]
noncomputable def vf_barbicanref1_Known_J1_J3_J0 (y0 : Insn) (r0 : Int) (r1 : Bool) (r : Ex_barbicanref1_Known_J1_J3_J0) : List L1 → List Value := mrgF (mk_barbicanref1_Known_J1_J3_J0 r) (vl_barbicanref1_Known_J1_J3_J0 y0 r0 r1 r) 4
def Hf_barbicanref1_Known_J1_J3_J0 (y0 : Insn) (r0 : Int) (r1 : Bool) : Ex_barbicanref1_Known_J1_J3_J0 → List L1 → List Obj
  | .e0 c0_0, ls => [.cells #[.int .u8 (nn y0.fOp), .int .u8 (nn y0.fDst), .int .u8 (nn y0.fSrc), .int .i16 (ii y0.fOff), .int .i32 (ii y0.fImm)] 37, unb, unb, unb, unb]
def ex_barbicanref1_Known_J1_J3_J0 : Ex_barbicanref1_Known_J1_J3_J0 → Ex
  | .e0 _ => .normal
end
section
variable {M : Nat → Prop} {B0 : Nat} {S : World → Prop} (hU : Up M B0 S) (y0 : Insn) (r0 : Int) (r1 : Bool) (c0_0 : Bool)
include hU y0 r0 r1 c0_0
theorem go_barbicanref1_Known_J1_J3_J0 (e : jp_barbicanref1_Known_J1_J3_J0 y0 r1 = c0_0) : GoesG Try.prog M B0 S bd_barbicanref1_Known_J1_J3_J0 5 (fr_barbicanref1_Known_J1_J3_J0 y0 r0 r1) (Hs_barbicanref1_Known_J1_J3_J0 y0 r0 r1) (ex_barbicanref1_Known_J1_J3_J0 (.e0 c0_0)) 4 (vf_barbicanref1_Known_J1_J3_J0 y0 r0 r1 (.e0 c0_0)) (Hf_barbicanref1_Known_J1_J3_J0 y0 r0 r1 (.e0 c0_0)) 5 := by
  unfold jp_barbicanref1_Known_J1_J3_J0 at e
  replace e := cond_eq_or e
  rcases e with ⟨hq0, e⟩ | ⟨hq0, e⟩
  · subst e; exact goes_runM hU [.a 0, .cg (ok_barbicanref1_X hU y0 true hq0), .o, .o, .o, .o, .o, .o] [0, 1, 2, 3] (fun b => rfl) (by decide) rfl rfl (fun b => by kernel_rfl)
  · replace e := cond_eq_or e
    rcases e with ⟨hq1, e⟩ | ⟨hq1, e⟩
    · subst e; exact goes_runM hU [.a 0, .cg (ok_barbicanref1_X hU y0 false hq0), .o, .o, .b hq1, .o, .o, .o, .a 0, .t (i_eq y0.fImm (0#32)) rfl, .o, .o] [0, 1, 2, 3] (fun b => rfl) (by decide) rfl rfl (fun b => by kernel_rfl)
    · subst e; exact goes_runM hU [.a 0, .cg (ok_barbicanref1_X hU y0 false hq0), .o, .o, .b hq1, .o, .o, .o, .o] [0, 1, 2, 3] (fun b => rfl) (by decide) rfl rfl (fun b => by kernel_rfl)
def pre_barbicanref1_Known_J1_J3_J0 (y0 : Insn) (r0 : Int) (r1 : Bool) (ls : List L1) : List Obj := [.cells #[.int .u8 (nn y0.fOp), .int .u8 (nn y0.fDst), .int .u8 (nn y0.fSrc), .int .i16 (ii y0.fOff), .int .i32 (ii y0.fImm)] 37, unb, unb, unb]
noncomputable def t0_barbicanref1_Known_J1_J3_J0 (y0 : Insn) (r0 : Int) (r1 : Bool) (ls : List L1) : List Value := List.append [((lget ls 3).u 0), .pointer (some ⟨(lget ls 0).n, 0, none⟩), .bool false, .int .i64 (r0), .bool (r1)] (List.append (jks (lget ls 3).u 5 69) (List.append [.bool true, .int .i64 (r0), .bool true] (jks (lget ls 3).u 77 162)))
theorem sp0_barbicanref1_Known_J1_J3_J0_ok (h : jp_barbicanref1_Known_J1_J3_J0 y0 r1 = c0_0) : SpcG Try.prog M B0 S (spcJ bd_barbicanref1_Known_J1_J3_J0 (t0_barbicanref1_Known_J1_J3_J0 y0 r0 r1) (pre_barbicanref1_Known_J1_J3_J0 y0 r0 r1) 4 0 .normal (vf_barbicanref1_Known_J1_J3_J0 y0 r0 r1 (.e0 c0_0)) (Hf_barbicanref1_Known_J1_J3_J0 y0 r0 r1 (.e0 c0_0))) :=
  spcJ_ok hU (go_barbicanref1_Known_J1_J3_J0 hU y0 r0 r1 c0_0 h) (fun _ => rfl) (fun ls h => by match ls, h with | [l0, l1, l2, l3], _ => exact ⟨by kernel_rfl, by kernel_rfl⟩) (fun ls h => by match ls, h with | [l0, l1, l2, l3], _ => rfl) (fun ls => rfl)
inductive Ex_barbicanref1_Known_J1_J3_J1 where
  | e0 (c0_0 : Bool)
noncomputable def jp_barbicanref1_Known_J1_J3_J1 (y0 : Insn) (r1 : Bool) : Bool :=
  bif r1 then
    (bif y0.fImm == 16#32 then
      (bindT (m_barbicanref1_Class y0) fun rd0 =>
      bif rd0 == 4 then
        (true)
      else (bif m_barbicanref1_X y0 then
        (false)
      else (true)))
    else (bif y0.fImm == 32#32 then
      (bindT (m_barbicanref1_Class y0) fun rd0 =>
      bif rd0 == 4 then
        (true)
      else (bif m_barbicanref1_X y0 then
        (false)
      else (true)))
    else (bif y0.fImm == 64#32 then
      (bindT (m_barbicanref1_Class y0) fun rd0 =>
      bif rd0 == 4 then
        (true)
      else (bif m_barbicanref1_X y0 then
        (false)
      else (true)))
    else (false))))
  else (false)
noncomputable def bd_barbicanref1_Known_J1_J3_J1 : Code := codeOf Try.f34 [1, 1, 1, 0, 1, 0, 1, 1, 1, 1, 1, 1, 1, 1, 1, 0, 0, 0, 1, 1, 1, 0, 0]
def fl_barbicanref1_Known_J1_J3_J1 (y0 : Insn) (r0 : Int) (r1 : Bool) (ls : List L1) : List Value := [.pointer (some ⟨(lget ls 0).n, 0, none⟩), .bool false, .int .i64 (r0), .bool (r1)]
noncomputable def fr_barbicanref1_Known_J1_J3_J1 (y0 : Insn) (r0 : Int) (r1 : Bool) : List L1 → List Value := mrgF [(0, 1), (4, 234)] (fl_barbicanref1_Known_J1_J3_J1 y0 r0 r1) 4
def Hs_barbicanref1_Known_J1_J3_J1 (y0 : Insn) (r0 : Int) (r1 : Bool) (ls : List L1) : List Obj := [.cells #[.int .u8 (nn y0.fOp), .int .u8 (nn y0.fDst), .int .u8 (nn y0.fSrc), .int .i16 (ii y0.fOff), .int .i32 (ii y0.fImm)] 37, unb, unb, unb, unb]
def vl_barbicanref1_Known_J1_J3_J1 (y0 : Insn) (r0 : Int) (r1 : Bool) : Ex_barbicanref1_Known_J1_J3_J1 → List L1 → List Value
  | .e0 c0_0, ls => [.pointer (some ⟨(lget ls 0).n, 0, none⟩), .bool (c0_0), .int .i64 (r0)]
def mk_barbicanref1_Known_J1_J3_J1 : Ex_barbicanref1_Known_J1_J3_J1 → List (Nat × Nat)
  | .e0 _ => [(0, 1), (3, 235)]
noncomputable def vf_barbicanref1_Known_J1_J3_J1 (y0 : Insn) (r0 : Int) (r1 : Bool) (r : Ex_barbicanref1_Known_J1_J3_J1) : List L1 → List Value := mrgF (mk_barbicanref1_Known_J1_J3_J1 r) (vl_barbicanref1_Known_J1_J3_J1 y0 r0 r1 r) 4
def Hf_barbicanref1_Known_J1_J3_J1 (y0 : Insn) (r0 : Int) (r1 : Bool) : Ex_barbicanref1_Known_J1_J3_J1 → List L1 → List Obj
  | .e0 c0_0, ls => [.cells #[.int .u8 (nn y0.fOp), .int .u8 (nn y0.fDst), .int .u8 (nn y0.fSrc), .int .i16 (ii y0.fOff), .int .i32 (ii y0.fImm)] 37, unb, unb, unb, unb]
def ex_barbicanref1_Known_J1_J3_J1 : Ex_barbicanref1_Known_J1_J3_J1 → Ex
  | .e0 _ => .normal
theorem go_barbicanref1_Known_J1_J3_J1 (e : jp_barbicanref1_Known_J1_J3_J1 y0 r1 = c0_0) : GoesG Try.prog M B0 S bd_barbicanref1_Known_J1_J3_J1 5 (fr_barbicanref1_Known_J1_J3_J1 y0 r0 r1) (Hs_barbicanref1_Known_J1_J3_J1 y0 r0 r1) (ex_barbicanref1_Known_J1_J3_J1 (.e0 c0_0)) 4 (vf_barbicanref1_Known_J1_J3_J1 y0 r0 r1 (.e0 c0_0)) (Hf_barbicanref1_Known_J1_J3_J1 y0 r0 r1 (.e0 c0_0)) 5 := by
  unfold jp_barbicanref1_Known_J1_J3_J1 at e
  replace e := cond_eq_or e
  rcases e with ⟨hq0, e⟩ | ⟨hq0, e⟩
  · replace e := cond_eq_or e
    let P1 : List (PG Try.prog M B0 S) := [.b hq0, .o, .o, .a 0]
    rcases e with ⟨hq1, e⟩ | ⟨hq1, e⟩
    · replace e := bindT_eq e
      obtain ⟨rd0, e_rd0, e⟩ := e
      try dsimp only at e
      replace e := cond_eq_or e
      let P2 : List (PG Try.prog M B0 S) := P1 ++ [.t (i_eq y0.fImm (16#32)) hq1, .o, .o, .o, .o, .o, .o, .a 0, .cg (ok_barbicanref1_Class hU y0 rd0 e_rd0)]
      rcases e with ⟨hq2, e⟩ | ⟨hq2, e⟩
      · subst e; exact goes_runM hU (P2 ++ [.b (z_eqlT hq2), .o, .o, .o, .o]) [0, 1, 2, 3] (fun b => rfl) (by decide) rfl rfl (fun b => by kernel_rfl)
      · replace e := cond_eq_or e
        rcases e with ⟨hq3, e⟩ | ⟨hq3, e⟩
        · subst e; exact goes_runM hU (P2 ++ [.b (z_eqlF hq2), .o, .a 0, .cg (ok_barbicanref1_X hU y0 true hq3), .o, .o, .o, .o]) [0, 1, 2, 3] (fun b => rfl) (by decide) rfl rfl (fun b => by kernel_rfl)
        · subst e; exact goes_runM hU (P2 ++ [.b (z_eqlF hq2), .o, .a 0, .cg (ok_barbicanref1_X hU y0 false hq3), .o, .o, .o, .o]) [0, 1, 2, 3] (fun b => rfl) (by decide) rfl rfl (fun b => by kernel_rfl)
    · replace e := cond_eq_or e
      let P3 : List (PG Try.prog M B0 S) := P1 ++ [.t (i_eq y0.fImm (16#32)) hq1, .o, .o, .a 0]
      rcases e with ⟨hq2, e⟩ | ⟨hq2, e⟩
      · replace e := bindT_eq e
        obtain ⟨rd0, e_rd0, e⟩ := e
        try dsimp only at e
        replace e := cond_eq_or e
        let P4 : List (PG Try.prog M B0 S) := P3 ++ [.t (i_eq y0.fImm (32#32)) hq2, .o, .o, .o, .o, .o, .a 0, .cg (ok_barbicanref1_Class hU y0 rd0 e_rd0)]
        rcases e with ⟨hq3, e⟩ | ⟨hq3, e⟩
        · subst e; exact goes_runM hU (P4 ++ [.b (z_eqlT hq3), .o, .o, .o, .o]) [0, 1, 2, 3] (fun b => rfl) (by decide) rfl rfl (fun b => by kernel_rfl)
        · replace e := cond_eq_or e
          rcases e with ⟨hq4, e⟩ | ⟨hq4, e⟩
          · subst e; exact goes_runM hU (P4 ++ [.b (z_eqlF hq3), .o, .a 0, .cg (ok_barbicanref1_X hU y0 true hq4), .o, .o, .o, .o]) [0, 1, 2, 3] (fun b => rfl) (by decide) rfl rfl (fun b => by kernel_rfl)
          · subst e; exact goes_runM hU (P4 ++ [.b (z_eqlF hq3), .o, .a 0, .cg (ok_barbicanref1_X hU y0 false hq4), .o, .o, .o, .o]) [0, 1, 2, 3] (fun b => rfl) (by decide) rfl rfl (fun b => by kernel_rfl)
      · replace e := cond_eq_or e
        let P5 : List (PG Try.prog M B0 S) := P3 ++ [.t (i_eq y0.fImm (32#32)) hq2, .o, .o, .o, .a 0]
        rcases e with ⟨hq3, e⟩ | ⟨hq3, e⟩
        · replace e := bindT_eq e
          obtain ⟨rd0, e_rd0, e⟩ := e
          try dsimp only at e
          replace e := cond_eq_or e
          let P6 : List (PG Try.prog M B0 S) := P5 ++ [.t (i_eq y0.fImm (64#32)) hq3, .o, .o, .o, .a 0, .cg (ok_barbicanref1_Class hU y0 rd0 e_rd0)]
          rcases e with ⟨hq4, e⟩ | ⟨hq4, e⟩
          · subst e; exact goes_runM hU (P6 ++ [.b (z_eqlT hq4), .o, .o, .o, .o]) [0, 1, 2, 3] (fun b => rfl) (by decide) rfl rfl (fun b => by kernel_rfl)
          · replace e := cond_eq_or e
            rcases e with ⟨hq5, e⟩ | ⟨hq5, e⟩
            · subst e; exact goes_runM hU (P6 ++ [.b (z_eqlF hq4), .o, .a 0, .cg (ok_barbicanref1_X hU y0 true hq5), .o, .o, .o, .o]) [0, 1, 2, 3] (fun b => rfl) (by decide) rfl rfl (fun b => by kernel_rfl)
            · subst e; exact goes_runM hU (P6 ++ [.b (z_eqlF hq4), .o, .a 0, .cg (ok_barbicanref1_X hU y0 false hq5), .o, .o, .o, .o]) [0, 1, 2, 3] (fun b => rfl) (by decide) rfl rfl (fun b => by kernel_rfl)
        · subst e; exact goes_runM hU (P5 ++ [.t (i_eq y0.fImm (64#32)) hq3, .o, .o, .o, .o, .o]) [0, 1, 2, 3] (fun b => rfl) (by decide) rfl rfl (fun b => by kernel_rfl)
  · subst e; exact goes_runM hU [.b hq0, .o, .o, .o, .o, .o] [0, 1, 2, 3] (fun b => rfl) (by decide) rfl rfl (fun b => by kernel_rfl)
def pre_barbicanref1_Known_J1_J3_J1 (y0 : Insn) (r0 : Int) (r1 : Bool) (ls : List L1) : List Obj := [.cells #[.int .u8 (nn y0.fOp), .int .u8 (nn y0.fDst), .int .u8 (nn y0.fSrc), .int .i16 (ii y0.fOff), .int .i32 (ii y0.fImm)] 37, unb, unb, unb]
noncomputable def t0_barbicanref1_Known_J1_J3_J1 (y0 : Insn) (r0 : Int) (r1 : Bool) (ls : List L1) : List Value := List.append [((lget ls 3).u 0), .pointer (some ⟨(lget ls 0).n, 0, none⟩), .bool false, .int .i64 (r0), .bool (r1)] (List.append (jks (lget ls 3).u 5 69) (List.append [.bool false, .int .i64 (r0), .bool false] (List.append (jks (lget ls 3).u 77 11) (List.append [.bool true, .int .i64 (r0), .bool true] (jks (lget ls 3).u 91 148)))))
theorem sp0_barbicanref1_Known_J1_J3_J1_ok (h : jp_barbicanref1_Known_J1_J3_J1 y0 r1 = c0_0) : SpcG Try.prog M B0 S (spcJ bd_barbicanref1_Known_J1_J3_J1 (t0_barbicanref1_Known_J1_J3_J1 y0 r0 r1) (pre_barbicanref1_Known_J1_J3_J1 y0 r0 r1) 4 0 .normal (vf_barbicanref1_Known_J1_J3_J1 y0 r0 r1 (.e0 c0_0)) (Hf_barbicanref1_Known_J1_J3_J1 y0 r0 r1 (.e0 c0_0))) :=
  spcJ_ok hU (go_barbicanref1_Known_J1_J3_J1 hU y0 r0 r1 c0_0 h) (fun _ => rfl) (fun ls h => by match ls, h with | [l0, l1, l2, l3], _ => exact ⟨by kernel_rfl, by kernel_rfl⟩) (fun ls h => by match ls, h with | [l0, l1, l2, l3], _ => rfl) (fun ls => rfl)
inductive Ex_barbicanref1_Known_J1_J3 where
  | e0 
  | e1 (c1_0 : Bool)
noncomputable def jp_barbicanref1_Known_J1_J3 (y0 : Insn) (r0 : Int) (r1 : Bool) : Ex_barbicanref1_Known_J1_J3 :=
  bif r0 == 8 then
    (bindT (jp_barbicanref1_Known_J1_J3_J0 y0 r1) fun rc0 =>
    (.e1 rc0))
  else (bif r0 == 13 then
    (bindT (jp_barbicanref1_Known_J1_J3_J1 y0 r1) fun rc0 =>
    (.e1 rc0))
  else (bif decide (13 < r0) then
    ((.e1 false))
  else ((.e0))))
noncomputable def bd_barbicanref1_Known_J1_J3 : Code := codeOf Try.f34 [1, 1, 1, 0, 1, 0, 1, 1, 1, 1, 1, 1, 1, 1, 1, 0, 0]
def fl_barbicanref1_Known_J1_J3 (y0 : Insn) (r0 : Int) (r1 : Bool) (ls : List L1) : List Value := [.pointer (some ⟨(lget ls 0).n, 0, none⟩), .bool false, .int .i64 (r0), .bool (r1)]
noncomputable def fr_barbicanref1_Known_J1_J3 (y0 : Insn) (r0 : Int) (r1 : Bool) : List L1 → List Value := mrgF [(0, 1), (4, 234)] (fl_barbicanref1_Known_J1_J3 y0 r0 r1) 3
def Hs_barbicanref1_Known_J1_J3 (y0 : Insn) (r0 : Int) (r1 : Bool) (ls : List L1) : List Obj := [.cells #[.int .u8 (nn y0.fOp), .int .u8 (nn y0.fDst), .int .u8 (nn y0.fSrc), .int .i16 (ii y0.fOff), .int .i32 (ii y0.fImm)] 37, unb, unb, unb]
def vl_barbicanref1_Known_J1_J3 (y0 : Insn) (r0 : Int) (r1 : Bool) : Ex_barbicanref1_Known_J1_J3 → List L1 → List Value
  | .e0 , ls => [.pointer (some ⟨(lget ls 0).n, 0, none⟩), .bool false, .int .i64 (r0)]
  | .e1 c1_0, ls => [.pointer (some ⟨(lget ls 0).n, 0, none⟩), .bool (c1_0), .int .i64 (r0)]
def mk_barbicanref1_Known_J1_J3 : Ex_barbicanref1_Known_J1_J3 → List (Nat × Nat)
  | .e0  => [(0, 1), (3, 235)]
  | .e1 _ => [(0, 1), (3, 235)]
noncomputable def vf_barbicanref1_Known_J1_J3 (y0 : Insn) (r0 : Int) (r1 : Bool) (r : Ex_barbicanref1_Known_J1_J3) : List L1 → List Value := mrgF (mk_barbicanref1_Known_J1_J3 r) (vl_barbicanref1_Known_J1_J3 y0 r0 r1 r) 3
def Hf_barbicanref1_Known_J1_J3 (y0 : Insn) (r0 : Int) (r1 : Bool) : Ex_barbicanref1_Known_J1_J3 → List L1 → List Obj
  | .e0 , ls => [.cells #[.int .u8 (nn y0.fOp), .int .u8 (nn y0.fDst), .int .u8 (nn y0.fSrc), .int .i16 (ii y0.fOff), .int .i32 (ii y0.fImm)] 37, unb, unb, unb]
  | .e1 c1_0, ls => [.cells #[.int .u8 (nn y0.fOp), .int .u8 (nn y0.fDst), .int .u8 (nn y0.fSrc), .int .i16 (ii y0.fOff), .int .i32 (ii y0.fImm)] 37, unb, unb, unb]
def ex_barbicanref1_Known_J1_J3 : Ex_barbicanref1_Known_J1_J3 → Ex
  | .e0  => .normal
  | .e1 _ => .ret
end
section
variable {M : Nat → Prop} {B0 : Nat} {S : World → Prop} (hU : Up M B0 S) (y0 : Insn) (r0 : Int) (r1 : Bool)
include hU y0 r0 r1
theorem go_barbicanref1_Known_J1_J3 (r : Ex_barbicanref1_Known_J1_J3) (e : jp_barbicanref1_Known_J1_J3 y0 r0 r1 = r) : GoesG Try.prog M B0 S bd_barbicanref1_Known_J1_J3 4 (fr_barbicanref1_Known_J1_J3 y0 r0 r1) (Hs_barbicanref1_Known_J1_J3 y0 r0 r1) (ex_barbicanref1_Known_J1_J3 r) 3 (vf_barbicanref1_Known_J1_J3 y0 r0 r1 r) (Hf_barbicanref1_Known_J1_J3 y0 r0 r1 r) 4 := by
  unfold jp_barbicanref1_Known_J1_J3 at e
  replace e := cond_eq_or e
  rcases e with ⟨hq0, e⟩ | ⟨hq0, e⟩
  · replace e := bindT_eq e
    obtain ⟨rc0, e_rc0, e⟩ := e
    try dsimp only at e
    subst e; exact goes_runM hU [.o, .b (z_eqlT hq0), .o, .cp, .cx (sp0_barbicanref1_Known_J1_J3_J0_ok hU y0 r0 r1 rc0 e_rc0) [0, 1, 2, 3]] [0, 1, 2] (fun b => rfl) (by decide) rfl rfl (fun b => by kernel_rfl)
  · replace e := cond_eq_or e
    rcases e with ⟨hq1, e⟩ | ⟨hq1, e⟩
    · replace e := bindT_eq e
      obtain ⟨rc0, e_rc0, e⟩ := e
      try dsimp only at e
      subst e; exact goes_runM hU [.o, .b (z_eqlF hq0), .o, .o, .b (z_eqlT hq1), .o, .cp, .cx (sp0_barbicanref1_Known_J1_J3_J1_ok hU y0 r0 r1 rc0 e_rc0) [0, 1, 2, 3]] [0, 1, 2] (fun b => rfl) (by decide) rfl rfl (fun b => by kernel_rfl)
    · replace e := cond_eq_or e
      rcases e with ⟨hq2, e⟩ | ⟨hq2, e⟩
      · subst e; exact goes_runM hU [.o, .b (z_eqlF hq0), .o, .o, .b (z_eqlF hq1), .o, .o, .b (z_gtrT hq2), .o, .o] [0, 1, 2] (fun b => rfl) (by decide) rfl rfl (fun b => by kernel_rfl)
      · subst e; exact goes_runM hU [.o, .b (z_eqlF hq0), .o, .o, .b (z_eqlF hq1), .o, .o, .b (z_gtrF hq2), .o] [0, 1, 2] (fun b => rfl) (by decide) rfl rfl (fun b => by kernel_rfl)
def pre_barbicanref1_Known_J1_J3 (y0 : Insn) (r0 : Int) (r1 : Bool) (ls : List L1) : List Obj := [.cells #[.int .u8 (nn y0.fOp), .int .u8 (nn y0.fDst), .int .u8 (nn y0.fSrc), .int .i16 (ii y0.fOff), .int .i32 (ii y0.fImm)] 37, unb, unb]
noncomputable def t0_barbicanref1_Known_J1_J3 (y0 : Insn) (r0 : Int) (r1 : Bool) (r2 : Int) (ls : List L1) : List Value := List.append [((lget ls 2).u 0), .pointer (some ⟨(lget ls 0).n, 0, none⟩), .bool false, .int .i64 (r0), .bool (r1)] (List.append (jks (lget ls 2).u 5 11) (List.append [.int .i64 (r2), .bool false, .bool false] (List.append (jks (lget ls 2).u 19 22) (List.append [.bool false, .bool false] (List.append (jks (lget ls 2).u 43 8) (List.append [.bool false, .bool false] (List.append (jks (lget ls 2).u 53 8) (List.append [.bool false, .bool false] (List.append (jks (lget ls 2).u 63 8) (List.append [.bool true, .bool false, .bool true] (jks (lget ls 2).u 74 165)))))))))))
theorem sp0_barbicanref1_Known_J1_J3_ok (r2 : Int) (h : jp_barbicanref1_Known_J1_J3 y0 r0 r1 = .e0) : SpcG Try.prog M B0 S (spcJ bd_barbicanref1_Known_J1_J3 (t0_barbicanref1_Known_J1_J3 y0 r0 r1 r2) (pre_barbicanref1_Known_J1_J3 y0 r0 r1) 3 0 .normal (vf_barbicanref1_Known_J1_J3 y0 r0 r1 .e0) (Hf_barbicanref1_Known_J1_J3 y0 r0 r1 .e0)) :=
  spcJ_ok hU (go_barbicanref1_Known_J1_J3 hU y0 r0 r1 _ h) (fun _ => rfl) (fun ls h => by match ls, h with | [l0, l1, l2], _ => exact ⟨by kernel_rfl, by kernel_rfl⟩) (fun ls h => by match ls, h with | [l0, l1, l2], _ => rfl) (fun ls => rfl)
theorem sp1_barbicanref1_Known_J1_J3_ok (r2 : Int) (c1_0 : Bool) (h : jp_barbicanref1_Known_J1_J3 y0 r0 r1 = (.e1 c1_0)) : SpcG Try.prog M B0 S (spcJ bd_barbicanref1_Known_J1_J3 (t0_barbicanref1_Known_J1_J3 y0 r0 r1 r2) (pre_barbicanref1_Known_J1_J3 y0 r0 r1) 3 0 .ret (vf_barbicanref1_Known_J1_J3 y0 r0 r1 (.e1 c1_0)) (Hf_barbicanref1_Known_J1_J3 y0 r0 r1 (.e1 c1_0))) :=
  spcJ_ok hU (go_barbicanref1_Known_J1_J3 hU y0 r0 r1 _ h) (fun _ => rfl) (fun ls h => by match ls, h with | [l0, l1, l2], _ => exact ⟨by kernel_rfl, by kernel_rfl⟩) (fun ls h => by match ls, h with | [l0, l1, l2], _ => rfl) (fun ls => rfl)
inductive Ex_barbicanref1_Known_J1_J4_J0 where
  | e0 (c0_0 : Bool)
noncomputable def jp_barbicanref1_Known_J1_J4_J0 (y0 : Insn) : Bool :=
  bif m_barbicanref1_X y0 then
    (false)
  else (bif y0.fDst == 0#8 then
    (bif y0.fSrc == 0#8 then
      ((y0.fImm == 0#32))
    else (false))
  else (false))
noncomputable def bd_barbicanref1_Known_J1_J4_J0 : Code := codeOf Try.f34 [1, 1, 1, 0, 1, 0, 1, 1, 1, 1, 1, 1, 1, 1, 1, 1, 1, 0, 1, 0, 1, 0, 0]
def fl_barbicanref1_Known_J1_J4_J0 (y0 : Insn) (r0 : Int) (ls : List L1) : List Value := [.pointer (some ⟨(lget ls 0).n, 0, none⟩), .bool false, .int .i64 (r0)]
noncomputable def fr_barbicanref1_Known_J1_J4_J0 (y0 : Insn) (r0 : Int) : List L1 → List Value := mrgF [(0, 1), (3, 235)] (fl_barbicanref1_Known_J1_J4_J0 y0 r0) 4
def Hs_barbicanref1_Known_J1_J4_J0 (y0 : Insn) (r0 : Int) (ls : List L1) : List Obj := [.cells #[.int .u8 (nn y0.fOp), .int .u8 (nn y0.fDst), .int .u8 (nn y0.fSrc), .int .i16 (ii y0.fOff), .int .i32 (ii y0.fImm)] 37, unb, unb, unb, unb]
def vl_barbicanref1_Known_J1_J4_J0 (y0 : Insn) (r0 : Int) : Ex_barbicanref1_Known_J1_J4_J0 → List L1 → List Value
  | .e0 c0_0, ls => [.pointer (some ⟨(lget ls 0).n, 0, none⟩), .bool (c0_0), .int .i64 (r0)]
def mk_barbicanref1_Known_J1_J4_J0 : Ex_barbicanref1_Known_J1_J4_J0 → List (Nat × Nat)
  | .e0 _ => [(0, 1), (3, 235)]
noncomputable def vf_barbicanref1_Known_J1_J4_J0 (y0 : Insn) (r0 : Int) (r : Ex_barbicanref1_Known_J1_J4_J0) : List L1 → List Value := mrgF (mk_barbicanref1_Known_J1_J4_J0 r) (vl_barbicanref1_Known_J1_J4_J0 y0 r0 r) 4
def Hf_barbicanref1_Known_J1_J4_J0 (y0 : Insn) (r0 : Int) : Ex_barbicanref1_Known_J1_J4_J0 → List L1 → List Obj
  | .e0 c0_0, ls => [.cells #[.int .u8 (nn y0.fOp), .int .u8 (nn y0.fDst), .int .u8 (nn y0.fSrc), .int .i16 (ii y0.fOff), .int .i32 (ii y0.fImm)] 37, unb, unb, unb, unb]
def ex_barbicanref1_Known_J1_J4_J0 : Ex_barbicanref1_Known_J1_J4_J0 → Ex
  | .e0 _ => .normal
end
section
variable {M : Nat → Prop} {B0 : Nat} {S : World → Prop} (hU : Up M B0 S) (y0 : Insn) (r0 : Int)
include hU y0 r0
theorem go_barbicanref1_Known_J1_J4_J0 (c0_0 : Bool) (e : jp_barbicanref1_Known_J1_J4_J0 y0 = c0_0) : GoesG Try.prog M B0 S bd_barbicanref1_Known_J1_J4_J0 5 (fr_barbicanref1_Known_J1_J4_J0 y0 r0) (Hs_barbicanref1_Known_J1_J4_J0 y0 r0) (ex_barbicanref1_Known_J1_J4_J0 (.e0 c0_0)) 4 (vf_barbicanref1_Known_J1_J4_J0 y0 r0 (.e0 c0_0)) (Hf_barbicanref1_Known_J1_J4_J0 y0 r0 (.e0 c0_0)) 5 := by
  unfold jp_barbicanref1_Known_J1_J4_J0 at e
  replace e := cond_eq_or e
  rcases e with ⟨hq0, e⟩ | ⟨hq0, e⟩
  · subst e; exact goes_runM hU [.a 0, .cg (ok_barbicanref1_X hU y0 true hq0), .o, .o, .o, .o, .o, .o, .o, .o] [0, 1, 2, 3] (fun b => rfl) (by decide) rfl rfl (fun b => by kernel_rfl)
  · replace e := cond_eq_or e
    let P1 : List (PG Try.prog M B0 S) := [.a 0, .cg (ok_barbicanref1_X hU y0 false hq0), .o, .o, .o, .a 0]
    rcases e with ⟨hq1, e⟩ | ⟨hq1, e⟩
    · replace e := cond_eq_or e
      rcases e with ⟨hq2, e⟩ | ⟨hq2, e⟩
      · subst e; exact goes_runM hU (P1 ++ [.t (u_eq y0.fDst (0#8)) hq1, .o, .o, .o, .a 0, .t (u_eq y0.fSrc (0#8)) hq2, .o, .o, .o, .a 0, .t (i_eq y0.fImm (0#32)) rfl, .o, .o]) [0, 1, 2, 3] (fun b => rfl) (by decide) rfl rfl (fun b => by kernel_rfl)
      · subst e; exact goes_runM hU (P1 ++ [.t (u_eq y0.fDst (0#8)) hq1, .o, .o, .o, .a 0, .t (u_eq y0.fSrc (0#8)) hq2, .o, .o, .o, .o]) [0, 1, 2, 3] (fun b => rfl) (by decide) rfl rfl (fun b => by kernel_rfl)
    · subst e; exact goes_runM hU (P1 ++ [.t (u_eq y0.fDst (0#8)) hq1, .o, .o, .o, .o, .o, .o]) [0, 1, 2, 3] (fun b => rfl) (by decide) rfl rfl (fun b => by kernel_rfl)
def pre_barbicanref1_Known_J1_J4_J0 (y0 : Insn) (r0 : Int) (ls : List L1) : List Obj := [.cells #[.int .u8 (nn y0.fOp), .int .u8 (nn y0.fDst), .int .u8 (nn y0.fSrc), .int .i16 (ii y0.fOff), .int .i32 (ii y0.fImm)] 37, unb, unb, unb]
noncomputable def t0_barbicanref1_Known_J1_J4_J0 (y0 : Insn) (r0 : Int) (r1 : Bool) (ls : List L1) : List Value := List.append [((lget ls 3).u 0), .pointer (some ⟨(lget ls 0).n, 0, none⟩), .bool false, .int .i64 (r0), .bool (r1)] (List.append (jks (lget ls 3).u 5 139) (List.append [.int .i64 (r0), .bool true, .bool true] (jks (lget ls 3).u 147 92)))
theorem sp0_barbicanref1_Known_J1_J4_J0_ok (r1 : Bool) (c0_0 : Bool) (h : jp_barbicanref1_Known_J1_J4_J0 y0 = c0_0) : SpcG Try.prog M B0 S (spcJ bd_barbicanref1_Known_J1_J4_J0 (t0_barbicanref1_Known_J1_J4_J0 y0 r0 r1) (pre_barbicanref1_Known_J1_J4_J0 y0 r0) 4 0 .normal (vf_barbicanref1_Known_J1_J4_J0 y0 r0 (.e0 c0_0)) (Hf_barbicanref1_Known_J1_J4_J0 y0 r0 (.e0 c0_0))) :=
  spcJ_ok hU (go_barbicanref1_Known_J1_J4_J0 hU y0 r0 c0_0 h) (fun _ => rfl) (fun ls h => by match ls, h with | [l0, l1, l2, l3], _ => exact ⟨by kernel_rfl, by kernel_rfl⟩) (fun ls h => by match ls, h with | [l0, l1, l2, l3], _ => rfl) (fun ls => rfl)
inductive Ex_barbicanref1_Known_J1_J4_J1 where
  | e0 (c0_0 : Bool)
noncomputable def jp_barbicanref1_Known_J1_J4_J1 (y0 : Insn) : Bool :=
  bif m_barbicanref1_X y0 then
    (false)
  else (bif y0.fDst == 0#8 then
    (bif y0.fOff == 0#16 then
      ((!(BitVec.ult (1#8) y0.fSrc)))
    else (false))
  else (false))
noncomputable def bd_barbicanref1_Known_J1_J4_J1 : Code := codeOf Try.f34 [1, 1, 1, 0, 1, 0, 1, 1, 1, 1, 1, 1, 1, 1, 1, 1, 1, 0, 1, 0, 1, 1, 1, 0, 0]
def fl_barbicanref1_Known_J1_J4_J1 (y0 : Insn) (r0 : Int) (ls : List L1) : List Value := [.pointer (some ⟨(lget ls 0).n, 0, none⟩), .bool false, .int .i64 (r0)]
noncomputable def fr_barbicanref1_Known_J1_J4_J1 (y0 : Insn) (r0 : Int) : List L1 → List Value := mrgF [(0, 1), (3, 235)] (fl_barbicanref1_Known_J1_J4_J1 y0 r0) 4
def Hs_barbicanref1_Known_J1_J4_J1 (y0 : Insn) (r0 : Int) (ls : List L1) : List Obj := [.cells #[.int .u8 (nn y0.fOp), .int .u8 (nn y0.fDst), .int .u8 (nn y0.fSrc), .int .i16 (ii y0.fOff), .int .i32 (ii y0.fImm)] 37, unb, unb, unb, unb]
def vl_barbicanref1_Known_J1_J4_J1 (y0 : Insn) (r0 : Int) : Ex_barbicanref1_Known_J1_J4_J1 → List L1 → List Value
  | .e0 c0_0, ls => [.pointer (some ⟨(lget ls 0).n, 0, none⟩), .bool (c0_0), .int .i64 (r0)]
def mk_barbicanref1_Known_J1_J4_J1 : Ex_barbicanref1_Known_J1_J4_J1 → List (Nat × Nat)
  | .e0 _ => [(0, 1), (3, 235)]
noncomputable def vf_barbicanref1_Known_J1_J4_J1 (y0 : Insn) (r0 : Int) (r : Ex_barbicanref1_Known_J1_J4_J1) : List L1 → List Value := mrgF (mk_barbicanref1_Known_J1_J4_J1 r) (vl_barbicanref1_Known_J1_J4_J1 y0 r0 r) 4
def Hf_barbicanref1_Known_J1_J4_J1 (y0 : Insn) (r0 : Int) : Ex_barbicanref1_Known_J1_J4_J1 → List L1 → List Obj
  | .e0 c0_0, ls => [.cells #[.int .u8 (nn y0.fOp), .int .u8 (nn y0.fDst), .int .u8 (nn y0.fSrc), .int .i16 (ii y0.fOff), .int .i32 (ii y0.fImm)] 37, unb, unb, unb, unb]
def ex_barbicanref1_Known_J1_J4_J1 : Ex_barbicanref1_Known_J1_J4_J1 → Ex
  | .e0 _ => .normal
theorem go_barbicanref1_Known_J1_J4_J1 (c0_0 : Bool) (e : jp_barbicanref1_Known_J1_J4_J1 y0 = c0_0) : GoesG Try.prog M B0 S bd_barbicanref1_Known_J1_J4_J1 5 (fr_barbicanref1_Known_J1_J4_J1 y0 r0) (Hs_barbicanref1_Known_J1_J4_J1 y0 r0) (ex_barbicanref1_Known_J1_J4_J1 (.e0 c0_0)) 4 (vf_barbicanref1_Known_J1_J4_J1 y0 r0 (.e0 c0_0)) (Hf_barbicanref1_Known_J1_J4_J1 y0 r0 (.e0 c0_0)) 5 := by
  unfold jp_barbicanref1_Known_J1_J4_J1 at e
  replace e := cond_eq_or e
  rcases e with ⟨hq0, e⟩ | ⟨hq0, e⟩
  · subst e; exact goes_runM hU [.a 0, .cg (ok_barbicanref1_X hU y0 true hq0), .o, .o, .o, .o, .o, .o, .o, .o] [0, 1, 2, 3] (fun b => rfl) (by decide) rfl rfl (fun b => by kernel_rfl)
  · replace e := cond_eq_or e
    let P1 : List (PG Try.prog M B0 S) := [.a 0, .cg (ok_barbicanref1_X hU y0 false hq0), .o, .o, .o, .a 0]
    rcases e with ⟨hq1, e⟩ | ⟨hq1, e⟩
    · replace e := cond_eq_or e
      rcases e with ⟨hq2, e⟩ | ⟨hq2, e⟩
      · subst e; exact goes_runM hU (P1 ++ [.t (u_eq y0.fDst (0#8)) hq1, .o, .o, .o, .a 0, .t (i_eq y0.fOff (0#16)) hq2, .o, .o, .o, .a 0, .tn (u_le y0.fSrc (1#8)) rfl, .o, .o]) [0, 1, 2, 3] (fun b => rfl) (by decide) rfl rfl (fun b => by kernel_rfl)
      · subst e; exact goes_runM hU (P1 ++ [.t (u_eq y0.fDst (0#8)) hq1, .o, .o, .o, .a 0, .t (i_eq y0.fOff (0#16)) hq2, .o, .o, .o, .o]) [0, 1, 2, 3] (fun b => rfl) (by decide) rfl rfl (fun b => by kernel_rfl)
    · subst e; exact goes_runM hU (P1 ++ [.t (u_eq y0.fDst (0#8)) hq1, .o, .o, .o, .o, .o, .o]) [0, 1, 2, 3] (fun b => rfl) (by decide) rfl rfl (fun b => by kernel_rfl)
def pre_barbicanref1_Known_J1_J4_J1 (y0 : Insn) (r0 : Int) (ls : List L1) : List Obj := [.cells #[.int .u8 (nn y0.fOp), .int .u8 (nn y0.fDst), .int .u8 (nn y0.fSrc), .int .i16 (ii y0.fOff), .int .i32 (ii y0.fImm)] 37, unb, unb, unb]
noncomputable def t0_barbicanref1_Known_J1_J4_J1 (y0 : Insn) (r0 : Int) (r1 : Bool) (ls : List L1) : List Value := List.append [((lget ls 3).u 0), .pointer (some ⟨(lget ls 0).n, 0, none⟩), .bool false, .int .i64 (r0), .bool (r1)] (List.append (jks (lget ls 3).u 5 139) (List.append [.int .i64 (r0), .bool false, .bool false] (List.append (jks (lget ls 3).u 147 18) (List.append [.bool true, .bool true] (jks (lget ls 3).u 167 72)))))
theorem sp0_barbicanref1_Known_J1_J4_J1_ok (r1 : Bool) (c0_0 : Bool) (h : jp_barbicanref1_Known_J1_J4_J1 y0 = c0_0) : SpcG Try.prog M B0 S (spcJ bd_barbicanref1_Known_J1_J4_J1 (t0_barbicanref1_Known_J1_J4_J1 y0 r0 r1) (pre_barbicanref1_Known_J1_J4_J1 y0 r0) 4 0 .normal (vf_barbicanref1_Known_J1_J4_J1 y0 r0 (.e0 c0_0)) (Hf_barbicanref1_Known_J1_J4_J1 y0 r0 (.e0 c0_0))) :=
  spcJ_ok hU (go_barbicanref1_Known_J1_J4_J1 hU y0 r0 c0_0 h) (fun _ => rfl) (fun ls h => by match ls, h with | [l0, l1, l2, l3], _ => exact ⟨by kernel_rfl, by kernel_rfl⟩) (fun ls h => by match ls, h with | [l0, l1, l2, l3], _ => rfl) (fun ls => rfl)
inductive Ex_barbicanref1_Known_J1_J4_J2 where
  | e0 (c0_0 : Bool)
noncomputable def jp_barbicanref1_Known_J1_J4_J2 (y0 : Insn) (r1 : Bool) : Bool :=
  bif m_barbicanref1_X y0 then
    (false)
  else (bif y0.fDst == 0#8 then
    (bif r1 then
      ((y0.fImm == 0#32))
    else (false))
  else (false))
noncomputable def bd_barbicanref1_Known_J1_J4_J2 : Code := codeOf Try.f34 [1, 1, 1, 0, 1, 0, 1, 1, 1, 1, 1, 1, 1, 1, 1, 1, 1, 0, 1, 0, 1, 1, 1, 1, 1, 0, 0]
def fl_barbicanref1_Known_J1_J4_J2 (y0 : Insn) (r0 : Int) (r1 : Bool) (ls : List L1) : List Value := [.pointer (some ⟨(lget ls 0).n, 0, none⟩), .bool false, .int .i64 (r0), .bool (r1)]
noncomputable def fr_barbicanref1_Known_J1_J4_J2 (y0 : Insn) (r0 : Int) (r1 : Bool) : List L1 → List Value := mrgF [(0, 1), (4, 234)] (fl_barbicanref1_Known_J1_J4_J2 y0 r0 r1) 4
def Hs_barbicanref1_Known_J1_J4_J2 (y0 : Insn) (r0 : Int) (r1 : Bool) (ls : List L1) : List Obj := [.cells #[.int .u8 (nn y0.fOp), .int .u8 (nn y0.fDst), .int .u8 (nn y0.fSrc), .int .i16 (ii y0.fOff), .int .i32 (ii y0.fImm)] 37, unb, unb, unb, unb]
def vl_barbicanref1_Known_J1_J4_J2 (y0 : Insn) (r0 : Int) (r1 : Bool) : Ex_barbicanref1_Known_J1_J4_J2 → List L1 → List Value
  | .e0 c0_0, ls => [.pointer (some ⟨(lget ls 0).n, 0, none⟩), .bool (c0_0), .int .i64 (r0)]
def mk_barbicanref1_Known_J1_J4_J2 : Ex_barbicanref1_Known_J1_J4_J2 → List (Nat × Nat)
  | .e0 _ => [(0, 1), (3, 235)]
noncomputable def vf_barbicanref1_Known_J1_J4_J2 (y0 : Insn) (r0 : Int) (r1 : Bool) (r : Ex_barbicanref1_Known_J1_J4_J2) : List L1 → List Value := mrgF (mk_barbicanref1_Known_J1_J4_J2 r) (vl_barbicanref1_Known_J1_J4_J2 y0 r0 r1 r) 4
def Hf_barbicanref1_Known_J1_J4_J2 (y0 : Insn) (r0 : Int) (r1 : Bool) : Ex_barbicanref1_Known_J1_J4_J2 → List L1 → List Obj
  | .e0 c0_0, ls => [.cells #[.int .u8 (nn y0.fOp), .int .u8 (nn y0.fDst), .int .u8 (nn y0.fSrc), .int .i16 (ii y0.fOff), .int .i32 (ii y0.fImm)] 37, unb, unb, unb, unb]
def ex_barbicanref1_Known_J1_J4_J2 : Ex_barbicanref1_Known_J1_J4_J2 → Ex
  | .e0 _ => .normal
theorem go_barbicanref1_Known_J1_J4_J2 (r1 : Bool) (c0_0 : Bool) (e : jp_barbicanref1_Known_J1_J4_J2 y0 r1 = c0_0) : GoesG Try.prog M B0 S bd_barbicanref1_Known_J1_J4_J2 5 (fr_barbicanref1_Known_J1_J4_J2 y0 r0 r1) (Hs_barbicanref1_Known_J1_J4_J2 y0 r0 r1) (ex_barbicanref1_Known_J1_J4_J2 (.e0 c0_0)) 4 (vf_barbicanref1_Known_J1_J4_J2 y0 r0 r1 (.e0 c0_0)) (Hf_barbicanref1_Known_J1_J4_J2 y0 r0 r1 (.e0 c0_0)) 5 := by
  unfold jp_barbicanref1_Known_J1_J4_J2 at e
  replace e := cond_eq_or e
  rcases e with ⟨hq0, e⟩ | ⟨hq0, e⟩
  · subst e; exact goes_runM hU [.a 0, .cg (ok_barbicanref1_X hU y0 true hq0), .o, .o, .o, .o, .o, .o, .o, .o] [0, 1, 2, 3] (fun b => rfl) (by decide) rfl rfl (fun b => by kernel_rfl)
  · replace e := cond_eq_or e
    let P1 : List (PG Try.prog M B0 S) := [.a 0, .cg (ok_barbicanref1_X hU y0 false hq0), .o, .o, .o, .a 0]
    rcases e with ⟨hq1, e⟩ | ⟨hq1, e⟩
    · replace e := cond_eq_or e
      rcases e with ⟨hq2, e⟩ | ⟨hq2, e⟩
      · subst e; exact goes_runM hU (P1 ++ [.t (u_eq y0.fDst (0#8)) hq1, .o, .o, .b hq2, .o, .o, .o, .a 0, .t (i_eq y0.fImm (0#32)) rfl, .o, .o]) [0, 1, 2, 3] (fun b => rfl) (by decide) rfl rfl (fun b => by kernel_rfl)
      · subst e; exact goes_runM hU (P1 ++ [.t (u_eq y0.fDst (0#8)) hq1, .o, .o, .b hq2, .o, .o, .o, .o]) [0, 1, 2, 3] (fun b => rfl) (by decide) rfl rfl (fun b => by kernel_rfl)
    · subst e; exact goes_runM hU (P1 ++ [.t (u_eq y0.fDst (0#8)) hq1, .o, .o, .o, .o, .o, .o]) [0, 1, 2, 3] (fun b => rfl) (by decide) rfl rfl (fun b => by kernel_rfl)
def pre_barbicanref1_Known_J1_J4_J2 (y0 : Insn) (r0 : Int) (r1 : Bool) (ls : List L1) : List Obj := [.cells #[.int .u8 (nn y0.fOp), .int .u8 (nn y0.fDst), .int .u8 (nn y0.fSrc), .int .i16 (ii y0.fOff), .int .i32 (ii y0.fImm)] 37, unb, unb, unb]
noncomputable def t0_barbicanref1_Known_J1_J4_J2 (y0 : Insn) (r0 : Int) (r1 : Bool) (ls : List L1) : List Value := List.append [((lget ls 3).u 0), .pointer (some ⟨(lget ls 0).n, 0, none⟩), .bool false, .int .i64 (r0), .bool (r1)] (List.append (jks (lget ls 3).u 5 139) (List.append [.int .i64 (r0), .bool false, .bool false] (List.append (jks (lget ls 3).u 147 18) (List.append [.bool false, .bool false] (List.append (jks (lget ls 3).u 167 18) (List.append [.bool true, .bool true] (jks (lget ls 3).u 187 52)))))))
theorem sp0_barbicanref1_Known_J1_J4_J2_ok (r1 : Bool) (c0_0 : Bool) (h : jp_barbicanref1_Known_J1_J4_J2 y0 r1 = c0_0) : SpcG Try.prog M B0 S (spcJ bd_barbicanref1_Known_J1_J4_J2 (t0_barbicanref1_Known_J1_J4_J2 y0 r0 r1) (pre_barbicanref1_Known_J1_J4_J2 y0 r0 r1) 4 0 .normal (vf_barbicanref1_Known_J1_J4_J2 y0 r0 r1 (.e0 c0_0)) (Hf_barbicanref1_Known_J1_J4_J2 y0 r0 r1 (.e0 c0_0))) :=
  spcJ_ok hU (go_barbicanref1_Known_J1_J4_J2 hU y0 r0 r1 c0_0 h) (fun _ => rfl) (fun ls h => by match ls, h with | [l0, l1, l2, l3], _ => exact ⟨by kernel_rfl, by kernel_rfl⟩) (fun ls h => by match ls, h with | [l0, l1, l2, l3], _ => rfl) (fun ls => rfl)
inductive Ex_barbicanref1_Known_J1_J4 where
  | e0 
  | e1 (c1_0 : Bool)
noncomputable def jp_barbicanref1_Known_J1_J4 (y0 : Insn) (r0 : Int) (r1 : Bool) : Ex_barbicanref1_Known_J1_J4 :=
  bif r0 == 0 then
    (bindT (jp_barbicanref1_Known_J1_J4_J0 y0) fun rc0 =>
    (.e1 rc0))
  else (bif r0 == 8 then
    (bindT (jp_barbicanref1_Known_J1_J4_J1 y0) fun rc0 =>
    (.e1 rc0))
  else (bif r0 == 9 then
    (bindT (jp_barbicanref1_Known_J1_J4_J2 y0 r1) fun rc0 =>
    (.e1 rc0))
  else ((.e0))))
noncomputable def bd_barbicanref1_Known_J1_J4 : Code := codeOf Try.f34 [1, 1, 1, 0, 1, 0, 1, 1, 1, 1, 1, 1, 1, 1, 1, 1, 1, 0, 1]
def fl_barbicanref1_Known_J1_J4 (y0 : Insn) (r0 : Int) (r1 : Bool) (ls : List L1) : List Value := [.pointer (some ⟨(lget ls 0).n, 0, none⟩), .bool false, .int .i64 (r0), .bool (r1), .int .i64 (r0)]
noncomputable def fr_barbicanref1_Known_J1_J4 (y0 : Insn) (r0 : Int) (r1 : Bool) : List L1 → List Value := mrgF [(0, 1), (4, 139), (1, 94)] (fl_barbicanref1_Known_J1_J4 y0 r0 r1) 3
def Hs_barbicanref1_Known_J1_J4 (y0 : Insn) (r0 : Int) (r1 : Bool) (ls : List L1) : List Obj := [.cells #[.int .u8 (nn y0.fOp), .int .u8 (nn y0.fDst), .int .u8 (nn y0.fSrc), .int .i16 (ii y0.fOff), .int .i32 (ii y0.fImm)] 37, unb, unb, unb]
def vl_barbicanref1_Known_J1_J4 (y0 : Insn) (r0 : Int) (r1 : Bool) : Ex_barbicanref1_Known_J1_J4 → List L1 → List Value
  | .e0 , ls => [.pointer (some ⟨(lget ls 0).n, 0, none⟩), .bool false, .int .i64 (r0)]
  | .e1 c1_0, ls => [.pointer (some ⟨(lget ls 0).n, 0, none⟩), .bool (c1_0), .int .i64 (r0)]
def mk_barbicanref1_Known_J1_J4 : Ex_barbicanref1_Known_J1_J4 → List (Nat × Nat)
  | .e0  => [(0, 1), (3, 235)]
  | .e1 _ => [(0, 1), (3, 235)]
noncomputable def vf_barbicanref1_Known_J1_J4 (y0 : Insn) (r0 : Int) (r1 : Bool) (r : Ex_barbicanref1_Known_J1_J4) : List L1 → List Value := mrgF (mk_barbicanref1_Known_J1_J4 r) (vl_barbicanref1_Known_J1_J4 y0 r0 r1 r) 3
def Hf_barbicanref1_Known_J1_J4 (y0 : Insn) (r0 : Int) (r1 : Bool) : Ex_barbicanref1_Known_J1_J4 → List L1 → List Obj
  | .e0 , ls => [.cells #[.int .u8 (nn y0.fOp), .int .u8 (nn y0.fDst), .int .u8 (nn y0.fSrc), .int .i16 (ii y0.fOff), .int .i32 (ii y0.fImm)] 37, unb, unb, unb]
  | .e1 c1_0, ls => [.cells #[.int .u8 (nn y0.fOp), .int .u8 (nn y0.fDst), .int .u8 (nn y0.fSrc), .int .i16 (ii y0.fOff), .int .i32 (ii y0.fImm)] 37, unb, unb, unb]
def ex_barbicanref1_Known_J1_J4 : Ex_barbicanref1_Known_J1_J4 → Ex
  | .e0  => .normal
  | .e1 _ => .ret
theorem go_barbicanref1_Known_J1_J4 (r1 : Bool) (r : Ex_barbicanref1_Known_J1_J4) (e : jp_barbicanref1_Known_J1_J4 y0 r0 r1 = r) : GoesG Try.prog M B0 S bd_barbicanref1_Known_J1_J4 4 (fr_barbicanref1_Known_J1_J4 y0 r0 r1) (Hs_barbicanref1_Known_J1_J4 y0 r0 r1) (ex_barbicanref1_Known_J1_J4 r) 3 (vf_barbicanref1_Known_J1_J4 y0 r0 r1 r) (Hf_barbicanref1_Known_J1_J4 y0 r0 r1 r) 4 := by
  unfold jp_barbicanref1_Known_J1_J4 at e
  replace e := cond_eq_or e
  rcases e with ⟨hq0, e⟩ | ⟨hq0, e⟩
  · replace e := bindT_eq e
    obtain ⟨rc0, e_rc0, e⟩ := e
    try dsimp only at e
    subst e; exact goes_runM hU [.b (z_eqlT hq0), .o, .cp, .cx (sp0_barbicanref1_Known_J1_J4_J0_ok hU y0 r0 r1 rc0 e_rc0) [0, 1, 2, 3]] [0, 1, 2] (fun b => rfl) (by decide) rfl rfl (fun b => by kernel_rfl)
  · replace e := cond_eq_or e
    rcases e with ⟨hq1, e⟩ | ⟨hq1, e⟩
    · replace e := bindT_eq e
      obtain ⟨rc0, e_rc0, e⟩ := e
      try dsimp only at e
      subst e; exact goes_runM hU [.b (z_eqlF hq0), .o, .b (z_eqlT hq1), .o, .cp, .cx (sp0_barbicanref1_Known_J1_J4_J1_ok hU y0 r0 r1 rc0 e_rc0) [0, 1, 2, 3]] [0, 1, 2] (fun b => rfl) (by decide) rfl rfl (fun b => by kernel_rfl)
    · replace e := cond_eq_or e
      rcases e with ⟨hq2, e⟩ | ⟨hq2, e⟩
      · replace e := bindT_eq e
        obtain ⟨rc0, e_rc0, e⟩ := e
        try dsimp only at e
        subst e; exact goes_runM hU [.b (z_eqlF hq0), .o, .b (z_eqlF hq1), .o, .b (z_eqlT hq2), .o, .cp, .cx (sp0_barbicanref1_Known_J1_J4_J2_ok hU y0 r0 r1 rc0 e_rc0) [0, 1, 2, 3]] [0, 1, 2] (fun b => rfl) (by decide) rfl rfl (fun b => by kernel_rfl)
      · subst e; exact goes_runM hU [.b (z_eqlF hq0), .o, .b (z_eqlF hq1), .o, .b (z_eqlF hq2), .o] [0, 1, 2] (fun b => rfl) (by decide) rfl rfl (fun b => by kernel_rfl)
def pre_barbicanref1_Known_J1_J4 (y0 : Insn) (r0 : Int) (r1 : Bool) (ls : List L1) : List Obj := [.cells #[.int .u8 (nn y0.fOp), .int .u8 (nn y0.fDst), .int .u8 (nn y0.fSrc), .int .i16 (ii y0.fOff), .int .i32 (ii y0.fImm)] 37, unb, unb]
noncomputable def t0_barbicanref1_Known_J1_J4 (y0 : Insn) (r0 : Int) (r1 : Bool) (r2 : Int) (ls : List L1) : List Value := List.append [((lget ls 2).u 0), .pointer (some ⟨(lget ls 0).n, 0, none⟩), .bool false, .int .i64 (r0), .bool (r1)] (List.append (jks (lget ls 2).u 5 11) (List.append [.int .i64 (r2), .bool false, .bool false] (List.append (jks (lget ls 2).u 19 22) (List.append [.bool false, .bool false] (List.append (jks (lget ls 2).u 43 8) (List.append [.bool false, .bool false] (List.append (jks (lget ls 2).u 53 8) (List.append [.bool false, .bool false] (List.append (jks (lget ls 2).u 63 8) (List.append [.bool false, .bool false, .bool false] (List.append (jks (lget ls 2).u 74 68) (List.append [.bool true, .bool true, .int .i64 (r0)] (jks (lget ls 2).u 145 94)))))))))))))
theorem sp0_barbicanref1_Known_J1_J4_ok (r1 : Bool) (r2 : Int) (h : jp_barbicanref1_Known_J1_J4 y0 r0 r1 = .e0) : SpcG Try.prog M B0 S (spcJ bd_barbicanref1_Known_J1_J4 (t0_barbicanref1_Known_J1_J4 y0 r0 r1 r2) (pre_barbicanref1_Known_J1_J4 y0 r0 r1) 3 0 .normal (vf_barbicanref1_Known_J1_J4 y0 r0 r1 .e0) (Hf_barbicanref1_Known_J1_J4 y0 r0 r1 .e0)) :=
  spcJ_ok hU (go_barbicanref1_Known_J1_J4 hU y0 r0 r1 _ h) (fun _ => rfl) (fun ls h => by match ls, h with | [l0, l1, l2], _ => exact ⟨by kernel_rfl, by kernel_rfl⟩) (fun ls h => by match ls, h with | [l0, l1, l2], _ => rfl) (fun ls => rfl)
theorem sp1_barbicanref1_Known_J1_J4_ok (r1 : Bool) (r2 : Int) (c1_0 : Bool) (h : jp_barbicanref1_Known_J1_J4 y0 r0 r1 = (.e1 c1_0)) : SpcG Try.prog M B0 S (spcJ bd_barbicanref1_Known_J1_J4 (t0_barbicanref1_Known_J1_J4 y0 r0 r1 r2) (pre_barbicanref1_Known_J1_J4 y0 r0 r1) 3 0 .ret (vf_barbicanref1_Known_J1_J4 y0 r0 r1 (.e1 c1_0)) (Hf_barbicanref1_Known_J1_J4 y0 r0 r1 (.e1 c1_0))) :=
  spcJ_ok hU (go_barbicanref1_Known_J1_J4 hU y0 r0 r1 _ h) (fun _ => rfl) (fun ls h => by match ls, h with | [l0, l1, l2], _ => exact ⟨by kernel_rfl, by kernel_rfl⟩) (fun ls h => by match ls, h with | [l0, l1, l2], _ => rfl) (fun ls => rfl)
inductive Ex_barbicanref1_Known_J1 where
  | e0 
  | e1 (c1_0 : Bool)
noncomputable def jp_barbicanref1_Known_J1 (y0 : Insn) (r0 : Int) (r1 : Bool) (r2 : Int) : Ex_barbicanref1_Known_J1 :=
  bif r2 == 0 then
    (bindT (jp_barbicanref1_Known_J1_J0 y0) fun rb0 =>
    (.e1 rb0))
  else (bif r2 == 1 then
    (bindT (m_barbicanref1_Size y0) fun rb0 =>
    bif decide (0 < rb0) then
      ((.e1 (y0.fImm == 0#32)))
    else ((.e1 false)))
  else (bif r2 == 2 then
    (bindT (m_barbicanref1_Size y0) fun rb0 =>
    bif decide (0 < rb0) then
      ((.e1 (y0.fSrc == 0#8)))
    else ((.e1 false)))
  else (bif r2 == 3 then
    (bindT (m_barbicanref1_Size y0) fun rb0 =>
    bif decide (0 < rb0) then
      ((.e1 (y0.fImm == 0#32)))
    else ((.e1 false)))
  else (bif r2 == 4 then
    (bindT (jp_barbicanref1_Known_J1_J1 y0 r0 r1) fun gb0 => match gb0 with
    | .e0  => (bindT (jp_barbicanref1_Known_J1_J2 y0) fun rb1 =>
      (.e1 rb1))
    | .e1 gb0_0 => ((.e1 gb0_0)))
  else (bif r2 == 7 then
    (bindT (jp_barbicanref1_Known_J1_J3 y0 r0 r1) fun gb0 => match gb0 with
    | .e0  => (bindT (jp_barbicanref1_Known_J1_J2 y0) fun rb1 =>
      (.e1 rb1))
    | .e1 gb0_0 => ((.e1 gb0_0)))
  else (bif r2 == 5 then
    (bindT (jp_barbicanref1_Known_J1_J4 y0 r0 r1) fun gb0 => match gb0 with
    | .e0  => ((.e0))
    | .e1 gb0_0 => ((.e1 gb0_0)))
  else ((.e0))))))))
noncomputable def bd_barbicanref1_Known_J1 : Code := codeOf Try.f34 [1, 1, 1, 0, 1]
def fl_barbicanref1_Known_J1 (y0 : Insn) (r0 : Int) (r1 : Bool) (r2 : Int) (ls : List L1) : List Value := [.pointer (some ⟨(lget ls 0).n, 0, none⟩), .bool false, .int .i64 (r0), .bool (r1), .int .i64 (r2)]
noncomputable def fr_barbicanref1_Known_J1 (y0 : Insn) (r0 : Int) (r1 : Bool) (r2 : Int) : List L1 → List Value := mrgF [(0, 1), (4, 11), (1, 222)] (fl_barbicanref1_Known_J1 y0 r0 r1 r2) 2
def Hs_barbicanref1_Known_J1 (y0 : Insn) (r0 : Int) (r1 : Bool) (r2 : Int) (ls : List L1) : List Obj := [.cells #[.int .u8 (nn y0.fOp), .int .u8 (nn y0.fDst), .int .u8 (nn y0.fSrc), .int .i16 (ii y0.fOff), .int .i32 (ii y0.fImm)] 37, unb, unb]
def vl_barbicanref1_Known_J1 (y0 : Insn) (r0 : Int) (r1 : Bool) (r2 : Int) : Ex_barbicanref1_Known_J1 → List L1 → List Value
  | .e0 , ls => [.pointer (some ⟨(lget ls 0).n, 0, none⟩), .bool false, .int .i64 (r0)]
  | .e1 c1_0, ls => [.pointer (some ⟨(lget ls 0).n, 0, none⟩), .bool (c1_0), .int .i64 (r0)]
def mk_barbicanref1_Known_J1 : Ex_barbicanref1_Known_J1 → List (Nat × Nat)
  | .e0  => [(0, 1), (3, 235)]
  | .e1 _ => [(0, 1), (3, 235)]
noncomputable def vf_barbicanref1_Known_J1 (y0 : Insn) (r0 : Int) (r1 : Bool) (r2 : Int) (r : Ex_barbicanref1_Known_J1) : List L1 → List Value := mrgF (mk_barbicanref1_Known_J1 r) (vl_barbicanref1_Known_J1 y0 r0 r1 r2 r) 2
def Hf_barbicanref1_Known_J1 (y0 : Insn) (r0 : Int) (r1 : Bool) (r2 : Int) : Ex_barbicanref1_Known_J1 → List L1 → List Obj
  | .e0 , ls => [.cells #[.int .u8 (nn y0.fOp), .int .u8 (nn y0.fDst), .int .u8 (nn y0.fSrc), .int .i16 (ii y0.fOff), .int .i32 (ii y0.fImm)] 37, unb, unb]
  | .e1 c1_0, ls => [.cells #[.int .u8 (nn y0.fOp), .int .u8 (nn y0.fDst), .int .u8 (nn y0.fSrc), .int .i16 (ii y0.fOff), .int .i32 (ii y0.fImm)] 37, unb, unb]
def ex_barbicanref1_Known_J1 : Ex_barbicanref1_Known_J1 → Ex
  | .e0  => .normal
  | .e1 _ => .ret
theorem go_barbicanref1_Known_J1 (r1 : Bool) (r2 : Int) (r : Ex_barbicanref1_Known_J1) (e : jp_barbicanref1_Known_J1 y0 r0 r1 r2 = r) : GoesG Try.prog M B0 S bd_barbicanref1_Known_J1 3 (fr_barbicanref1_Known_J1 y0 r0 r1 r2) (Hs_barbicanref1_Known_J1 y0 r0 r1 r2) (ex_barbicanref1_Known_J1 r) 2 (vf_barbicanref1_Known_J1 y0 r0 r1 r2 r) (Hf_barbicanref1_Known_J1 y0 r0 r1 r2 r) 3 := by
  unfold jp_barbicanref1_Known_J1 at e
  replace e := cond_eq_or e
  rcases e with ⟨hq0, e⟩ | ⟨hq0, e⟩
  · replace e := bindT_eq e
    obtain ⟨rb0, e_rb0, e⟩ := e
    try dsimp only at e
    subst e; exact goes_runM hU [.b (z_eqlT hq0), .o, .cp, .cx (sp0_barbicanref1_Known_J1_J0_ok hU y0 r0 r1 r2 rb0 e_rb0) [0, 1, 2]] [0, 1] (fun b => rfl) (by decide) rfl rfl (fun b => by kernel_rfl)
  · replace e := cond_eq_or e
    let P1 : List (PG Try.prog M B0 S) := [.b (z_eqlF hq0), .o]
    rcases e with ⟨hq1, e⟩ | ⟨hq1, e⟩
    · replace e := bindT_eq e
      obtain ⟨rb0, e_rb0, e⟩ := e
      try dsimp only at e
      replace e := cond_eq_or e
      rcases e with ⟨hq2, e⟩ | ⟨hq2, e⟩
      · subst e; exact goes_runM hU (P1 ++ [.b (z_eqlT hq1), .o, .a 0, .cg (ok_barbicanref1_Size hU y0 rb0 e_rb0), .b (z_gtrT hq2), .o, .o, .a 0, .t (i_eq y0.fImm (0#32)) rfl, .o, .o]) [0, 1] (fun b => rfl) (by decide) rfl rfl (fun b => by kernel_rfl)
      · subst e; exact goes_runM hU (P1 ++ [.b (z_eqlT hq1), .o, .a 0, .cg (ok_barbicanref1_Size hU y0 rb0 e_rb0), .b (z_gtrF hq2), .o, .o, .o]) [0, 1] (fun b => rfl) (by decide) rfl rfl (fun b => by kernel_rfl)
    · replace e := cond_eq_or e
      let P2 : List (PG Try.prog M B0 S) := P1 ++ [.b (z_eqlF hq1), .o]
      rcases e with ⟨hq2, e⟩ | ⟨hq2, e⟩
      · replace e := bindT_eq e
        obtain ⟨rb0, e_rb0, e⟩ := e
        try dsimp only at e
        replace e := cond_eq_or e
        rcases e with ⟨hq3, e⟩ | ⟨hq3, e⟩
        · subst e; exact goes_runM hU (P2 ++ [.b (z_eqlT hq2), .o, .a 0, .cg (ok_barbicanref1_Size hU y0 rb0 e_rb0), .b (z_gtrT hq3), .o, .o, .a 0, .t (u_eq y0.fSrc (0#8)) rfl, .o, .o]) [0, 1] (fun b => rfl) (by decide) rfl rfl (fun b => by kernel_rfl)
        · subst e; exact goes_runM hU (P2 ++ [.b (z_eqlT hq2), .o, .a 0, .cg (ok_barbicanref1_Size hU y0 rb0 e_rb0), .b (z_gtrF hq3), .o, .o, .o]) [0, 1] (fun b => rfl) (by decide) rfl rfl (fun b => by kernel_rfl)
      · replace e := cond_eq_or e
        let P3 : List (PG Try.prog M B0 S) := P2 ++ [.b (z_eqlF hq2), .o]
        rcases e with ⟨hq3, e⟩ | ⟨hq3, e⟩
        · replace e := bindT_eq e
          obtain ⟨rb0, e_rb0, e⟩ := e
          try dsimp only at e
          replace e := cond_eq_or e
          rcases e with ⟨hq4, e⟩ | ⟨hq4, e⟩
          · subst e; exact goes_runM hU (P3 ++ [.b (z_eqlT hq3), .o, .a 0, .cg (ok_barbicanref1_Size hU y0 rb0 e_rb0), .b (z_gtrT hq4), .o, .o, .a 0, .t (i_eq y0.fImm (0#32)) rfl, .o, .o]) [0, 1] (fun b => rfl) (by decide) rfl rfl (fun b => by kernel_rfl)
          · subst e; exact goes_runM hU (P3 ++ [.b (z_eqlT hq3), .o, .a 0, .cg (ok_barbicanref1_Size hU y0 rb0 e_rb0), .b (z_gtrF hq4), .o, .o, .o]) [0, 1] (fun b => rfl) (by decide) rfl rfl (fun b => by kernel_rfl)
        · replace e := cond_eq_or e
          let P4 : List (PG Try.prog M B0 S) := P3 ++ [.b (z_eqlF hq3), .o]
          rcases e with ⟨hq4, e⟩ | ⟨hq4, e⟩
          · replace e := bindT_eq e
            obtain ⟨gb0, e_gb0, e⟩ := e
            rcases gb0 with _ | ⟨gb0_0⟩
            · try dsimp only at e
              replace e := bindT_eq e
              obtain ⟨rb1, e_rb1, e⟩ := e
              try dsimp only at e
              subst e; exact goes_runM hU (P4 ++ [.b (z_eqlT hq4), .o, .cp, .cp, .cx (sp0_barbicanref1_Known_J1_J1_ok hU y0 r0 r1 r2  e_gb0) [0, 1, 2], .cx (sp0_barbicanref1_Known_J1_J2_ok hU y0 r0 rb1 e_rb1) [0, 1, 2, 3]]) [0, 1] (fun b => rfl) (by decide) rfl rfl (fun b => by kernel_rfl)
            · try dsimp only at e
              subst e; exact goes_runM hU (P4 ++ [.b (z_eqlT hq4), .o, .cp, .cp, .cx (sp1_barbicanref1_Known_J1_J1_ok hU y0 r0 r1 r2 gb0_0 e_gb0) [0, 1, 2]]) [0, 1] (fun b => rfl) (by decide) rfl rfl (fun b => by kernel_rfl)
          · replace e := cond_eq_or e
            rcases e with ⟨hq5, e⟩ | ⟨hq5, e⟩
            · replace e := bindT_eq e
              obtain ⟨gb0, e_gb0, e⟩ := e
              rcases gb0 with _ | ⟨gb0_0⟩
              · try dsimp only at e
                replace e := bindT_eq e
                obtain ⟨rb1, e_rb1, e⟩ := e
                try dsimp only at e
                subst e; exact goes_runM hU (P4 ++ [.b (z_eqlF hq4), .o, .b (z_eqlT hq5), .o, .cp, .cx (sp0_barbicanref1_Known_J1_J3_ok hU y0 r0 r1 r2  e_gb0) [0, 1, 2], .cx (sp0_barbicanref1_Known_J1_J2_ok hU y0 r0 rb1 e_rb1) [0, 1, 2, 3]]) [0, 1] (fun b => rfl) (by decide) rfl rfl (fun b => by kernel_rfl)
              · try dsimp only at e
                subst e; exact goes_runM hU (P4 ++ [.b (z_eqlF hq4), .o, .b (z_eqlT hq5), .o, .cp, .cx (sp1_barbicanref1_Known_J1_J3_ok hU y0 r0 r1 r2 gb0_0 e_gb0) [0, 1, 2]]) [0, 1] (fun b => rfl) (by decide) rfl rfl (fun b => by kernel_rfl)
            · replace e := cond_eq_or e
              rcases e with ⟨hq6, e⟩ | ⟨hq6, e⟩
              · replace e := bindT_eq e
                obtain ⟨gb0, e_gb0, e⟩ := e
                rcases gb0 with _ | ⟨gb0_0⟩
                · try dsimp only at e
                  subst e; exact goes_runM hU (P4 ++ [.b (z_eqlF hq4), .o, .b (z_eqlF hq5), .o, .b (z_eqlT hq6), .o, .o, .cx (sp0_barbicanref1_Known_J1_J4_ok hU y0 r0 r1 r2  e_gb0) [0, 1, 2]]) [0, 1] (fun b => rfl) (by decide) rfl rfl (fun b => by kernel_rfl)
                · try dsimp only at e
                  subst e; exact goes_runM hU (P4 ++ [.b (z_eqlF hq4), .o, .b (z_eqlF hq5), .o, .b (z_eqlT hq6), .o, .o, .cx (sp1_barbicanref1_Known_J1_J4_ok hU y0 r0 r1 r2 gb0_0 e_gb0) [0, 1, 2]]) [0, 1] (fun b => rfl) (by decide) rfl rfl (fun b => by kernel_rfl)
              · subst e; exact goes_runM hU (P4 ++ [.b (z_eqlF hq4), .o, .b (z_eqlF hq5), .o, .b (z_eqlF hq6), .o]) [0, 1] (fun b => rfl) (by decide) rfl rfl (fun b => by kernel_rfl)
def pre_barbicanref1_Known_J1 (y0 : Insn) (r0 : Int) (r1 : Bool) (r2 : Int) (ls : List L1) : List Obj := [.cells #[.int .u8 (nn y0.fOp), .int .u8 (nn y0.fDst), .int .u8 (nn y0.fSrc), .int .i16 (ii y0.fOff), .int .i32 (ii y0.fImm)] 37, unb]
noncomputable def t0_barbicanref1_Known_J1 (y0 : Insn) (r0 : Int) (r1 : Bool) (r2 : Int) (ls : List L1) : List Value := List.append [((lget ls 1).u 0), .pointer (some ⟨(lget ls 0).n, 0, none⟩), .bool false, .int .i64 (r0), .bool (r1)] (List.append (jks (lget ls 1).u 5 10) (List.append [.agg #[.int .u8 (nn y0.fOp), .int .u8 (nn y0.fDst), .int .u8 (nn y0.fSrc), .int .i16 (ii y0.fOff), .int .i32 (ii y0.fImm)], .int .i64 (r2)] (jks (lget ls 1).u 17 222)))
theorem sp0_barbicanref1_Known_J1_ok (r1 : Bool) (r2 : Int) (h : jp_barbicanref1_Known_J1 y0 r0 r1 r2 = .e0) : SpcG Try.prog M B0 S (spcJ bd_barbicanref1_Known_J1 (t0_barbicanref1_Known_J1 y0 r0 r1 r2) (pre_barbicanref1_Known_J1 y0 r0 r1 r2) 2 0 .normal (vf_barbicanref1_Known_J1 y0 r0 r1 r2 .e0) (Hf_barbicanref1_Known_J1 y0 r0 r1 r2 .e0)) :=
  spcJ_ok hU (go_barbicanref1_Known_J1 hU y0 r0 r1 r2 _ h) (fun _ => rfl) (fun ls h => by match ls, h with | [l0, l1], _ => exact ⟨by kernel_rfl, by kernel_rfl⟩) (fun ls h => by match ls, h with | [l0, l1], _ => rfl) (fun ls => rfl)
theorem sp1_barbicanref1_Known_J1_ok (r1 : Bool) (r2 : Int) (c1_0 : Bool) (h : jp_barbicanref1_Known_J1 y0 r0 r1 r2 = (.e1 c1_0)) : SpcG Try.prog M B0 S (spcJ bd_barbicanref1_Known_J1 (t0_barbicanref1_Known_J1 y0 r0 r1 r2) (pre_barbicanref1_Known_J1 y0 r0 r1 r2) 2 0 .ret (vf_barbicanref1_Known_J1 y0 r0 r1 r2 (.e1 c1_0)) (Hf_barbicanref1_Known_J1 y0 r0 r1 r2 (.e1 c1_0))) :=
  spcJ_ok hU (go_barbicanref1_Known_J1 hU y0 r0 r1 r2 _ h) (fun _ => rfl) (fun ls h => by match ls, h with | [l0, l1], _ => exact ⟨by kernel_rfl, by kernel_rfl⟩) (fun ls h => by match ls, h with | [l0, l1], _ => rfl) (fun ls => rfl)
inductive Ex_barbicanref1_Known_J2 where
  | e0 (c0_0 : Bool)
noncomputable def jp_barbicanref1_Known_J2 (y0 : Insn) (r0 : Int) : Bool :=
  bindT (m_barbicanref1_Class y0) fun rb0 =>
  bif rb0 == 6 then
    (bif r0 == 0 then
      (true)
    else (bif r0 == 8 then
      (true)
    else (bif r0 == 9 then
      (true)
    else (bif decide (13 < r0) then
      (true)
    else (false)))))
  else (bif decide (13 < r0) then
    (true)
  else (false))
noncomputable def bd_barbicanref1_Known_J2 : Code := codeOf Try.f34 [1, 1, 1, 1, 0, 0]
def fl_barbicanref1_Known_J2 (y0 : Insn) (r0 : Int) (ls : List L1) : List Value := [.pointer (some ⟨(lget ls 0).n, 0, none⟩), .bool false, .int .i64 (r0)]
noncomputable def fr_barbicanref1_Known_J2 (y0 : Insn) (r0 : Int) : List L1 → List Value := mrgF [(0, 1), (3, 235)] (fl_barbicanref1_Known_J2 y0 r0) 3
def Hs_barbicanref1_Known_J2 (y0 : Insn) (r0 : Int) (ls : List L1) : List Obj := [.cells #[.int .u8 (nn y0.fOp), .int .u8 (nn y0.fDst), .int .u8 (nn y0.fSrc), .int .i16 (ii y0.fOff), .int .i32 (ii y0.fImm)] 37, unb, unb, unb]
def vl_barbicanref1_Known_J2 (y0 : Insn) (r0 : Int) : Ex_barbicanref1_Known_J2 → List L1 → List Value
  | .e0 c0_0, ls => [.pointer (some ⟨(lget ls 0).n, 0, none⟩), .bool false, .bool (c0_0)]
def mk_barbicanref1_Known_J2 : Ex_barbicanref1_Known_J2 → List (Nat × Nat)
  | .e0 _ => [(0, 1), (2, 218), (1, 17)]
noncomputable def vf_barbicanref1_Known_J2 (y0 : Insn) (r0 : Int) (r : Ex_barbicanref1_Known_J2) : List L1 → List Value := mrgF (mk_barbicanref1_Known_J2 r) (vl_barbicanref1_Known_J2 y0 r0 r) 3
def Hf_barbicanref1_Known_J2 (y0 : Insn) (r0 : Int) : Ex_barbicanref1_Known_J2 → List L1 → List Obj
  | .e0 c0_0, ls => [.cells #[.int .u8 (nn y0.fOp), .int .u8 (nn y0.fDst), .int .u8 (nn y0.fSrc), .int .i16 (ii y0.fOff), .int .i32 (ii y0.fImm)] 37, unb, unb, unb]
def ex_barbicanref1_Known_J2 : Ex_barbicanref1_Known_J2 → Ex
  | .e0 _ => .normal
theorem go_barbicanref1_Known_J2 (c0_0 : Bool) (e : jp_barbicanref1_Known_J2 y0 r0 = c0_0) : GoesG Try.prog M B0 S bd_barbicanref1_Known_J2 4 (fr_barbicanref1_Known_J2 y0 r0) (Hs_barbicanref1_Known_J2 y0 r0) (ex_barbicanref1_Known_J2 (.e0 c0_0)) 3 (vf_barbicanref1_Known_J2 y0 r0 (.e0 c0_0)) (Hf_barbicanref1_Known_J2 y0 r0 (.e0 c0_0)) 4 := by
  unfold jp_barbicanref1_Known_J2 at e
  replace e := bindT_eq e
  obtain ⟨rb0, e_rb0, e⟩ := e
  try dsimp only at e
  replace e := cond_eq_or e
  let P1 : List (PG Try.prog M B0 S) := [.a 0, .cg (ok_barbicanref1_Class hU y0 rb0 e_rb0)]
  rcases e with ⟨hq0, e⟩ | ⟨hq0, e⟩
  · replace e := cond_eq_or e
    let P2 : List (PG Try.prog M B0 S) := P1 ++ [.b (z_eqlT hq0), .o, .o]
    rcases e with ⟨hq1, e⟩ | ⟨hq1, e⟩
    · subst e; exact goes_runM hU (P2 ++ [.b (z_eqlT hq1), .o, .o, .o, .o, .o, .o, .o]) [0, 1, 2] (fun b => rfl) (by decide) rfl rfl (fun b => by kernel_rfl)
    · replace e := cond_eq_or e
      rcases e with ⟨hq2, e⟩ | ⟨hq2, e⟩
      · subst e; exact goes_runM hU (P2 ++ [.b (z_eqlF hq1), .o, .o, .b (z_eqlT hq2), .o, .o, .o, .o, .o, .o]) [0, 1, 2] (fun b => rfl) (by decide) rfl rfl (fun b => by kernel_rfl)
      · replace e := cond_eq_or e
        let P3 : List (PG Try.prog M B0 S) := P2 ++ [.b (z_eqlF hq1), .o, .o, .b (z_eqlF hq2), .o, .o, .o]
        rcases e with ⟨hq3, e⟩ | ⟨hq3, e⟩
        · subst e; exact goes_runM hU (P3 ++ [.b (z_eqlT hq3), .o, .o, .o, .o]) [0, 1, 2] (fun b => rfl) (by decide) rfl rfl (fun b => by kernel_rfl)
        · replace e := cond_eq_or e
          rcases e with ⟨hq4, e⟩ | ⟨hq4, e⟩
          · subst e; exact goes_runM hU (P3 ++ [.b (z_eqlF hq3), .o, .o, .o, .o, .b (z_gtrT hq4), .o]) [0, 1, 2] (fun b => rfl) (by decide) rfl rfl (fun b => by kernel_rfl)
          · subst e; exact goes_runM hU (P3 ++ [.b (z_eqlF hq3), .o, .o, .o, .o, .b (z_gtrF hq4), .o]) [0, 1, 2] (fun b => rfl) (by decide) rfl rfl (fun b => by kernel_rfl)
  · replace e := cond_eq_or e
    rcases e with ⟨hq1, e⟩ | ⟨hq1, e⟩
    · subst e; exact goes_runM hU (P1 ++ [.b (z_eqlF hq0), .o, .o, .o, .o, .b (z_gtrT hq1), .o]) [0, 1, 2] (fun b => rfl) (by decide) rfl rfl (fun b => by kernel_rfl)
    · subst e; exact goes_runM hU (P1 ++ [.b (z_eqlF hq0), .o, .o, .o, .o, .b (z_gtrF hq1), .o]) [0, 1, 2] (fun b => rfl) (by decide) rfl rfl (fun b => by kernel_rfl)
def pre_barbicanref1_Known_J2 (y0 : Insn) (r0 : Int) (ls : List L1) : List Obj := [.cells #[.int .u8 (nn y0.fOp), .int .u8 (nn y0.fDst), .int .u8 (nn y0.fSrc), .int .i16 (ii y0.fOff), .int .i32 (ii y0.fImm)] 37, unb, unb]
noncomputable def t0_barbicanref1_Known_J2 (y0 : Insn) (r0 : Int) (ls : List L1) : List Value := List.append [((lget ls 2).u 0), .pointer (some ⟨(lget ls 0).n, 0, none⟩), .bool false, .int .i64 (r0)] (jks (lget ls 2).u 4 235)
theorem sp0_barbicanref1_Known_J2_ok (c0_0 : Bool) (h : jp_barbicanref1_Known_J2 y0 r0 = c0_0) : SpcG Try.prog M B0 S (spcJ bd_barbicanref1_Known_J2 (t0_barbicanref1_Known_J2 y0 r0) (pre_barbicanref1_Known_J2 y0 r0) 3 0 .normal (vf_barbicanref1_Known_J2 y0 r0 (.e0 c0_0)) (Hf_barbicanref1_Known_J2 y0 r0 (.e0 c0_0))) :=
  spcJ_ok hU (go_barbicanref1_Known_J2 hU y0 r0 c0_0 h) (fun _ => rfl) (fun ls h => by match ls, h with | [l0, l1, l2], _ => exact ⟨by kernel_rfl, by kernel_rfl⟩) (fun ls h => by match ls, h with | [l0, l1, l2], _ => rfl) (fun ls => rfl)
noncomputable def m_barbicanref1_Known (y0 : Insn) : Bool :=
  bindT (m_barbicanref1_Code y0) fun r0 =>
  bindT (jp_barbicanref1_Known_J0 y0) fun r1 =>
  bindT (m_barbicanref1_Class y0) fun r2 =>
  bindT (jp_barbicanref1_Known_J1 y0 r0 r1 r2) fun g3 => match g3 with
  | .e0  => (bindT (jp_barbicanref1_Known_J2 y0 r0) fun r4 =>
    bif r4 then
      (false)
    else (bif m_barbicanref1_X y0 then
      (bif y0.fImm == 0#32 then
        (true)
      else (false))
    else ((y0.fSrc == 0#8))))
  | .e1 g3_0 => (g3_0)
end
section
variable {M : Nat → Prop} {B0 : Nat} {S : World → Prop} (hU : Up M B0 S)
include hU
theorem ok_barbicanref1_Known (y0 : Insn) (r : Bool) (e : m_barbicanref1_Known y0 = r) : ConG Try.prog S 34 #[(v_Insn y0)] (.bool (r)) := by
  unfold m_barbicanref1_Known at e
  replace e := bindT_eq e
  obtain ⟨r0, e_r0, e⟩ := e
  try dsimp only at e
  replace e := bindT_eq e
  obtain ⟨r1, e_r1, e⟩ := e
  try dsimp only at e
  replace e := bindT_eq e
  obtain ⟨r2, e_r2, e⟩ := e
  try dsimp only at e
  replace e := bindT_eq e
  obtain ⟨g3, e_g3, e⟩ := e
  let P1 : List (PG Try.prog M B0 S) := [.o, .o, .a 0, .cg (ok_barbicanref1_Code hU y0 r0 e_r0), .o, .cx (sp0_barbicanref1_Known_J0_ok hU y0 r0 r1 e_r1) [0], .a 0, .cg (ok_barbicanref1_Class hU y0 r2 e_r2)]
  rcases g3 with _ | ⟨g3_0⟩
  · try dsimp only at e
    replace e := bindT_eq e
    obtain ⟨r4, e_r4, e⟩ := e
    try dsimp only at e
    replace e := cond_eq_or e
    let P2 : List (PG Try.prog M B0 S) := P1 ++ [.cx (sp0_barbicanref1_Known_J1_ok hU y0 r0 r1 r2  e_g3) [0, 1]]
    rcases e with ⟨hq0, e⟩ | ⟨hq0, e⟩
    · subst hq0
      subst e; exact fn_conG hU (P := Try.prog) Try.func34 (fun xs w => by kernel_rfl) _ _ (P2 ++ [.cx (sp0_barbicanref1_Known_J2_ok hU y0 r0 true e_r4) [0, 1, 2], .o]) [] (fun b => by kernel_rfl)
    · subst hq0
      replace e := cond_eq_or e
      let P3 : List (PG Try.prog M B0 S) := P2 ++ [.cx (sp0_barbicanref1_Known_J2_ok hU y0 r0 false e_r4) [0, 1, 2], .a 0]
      rcases e with ⟨hq1, e⟩ | ⟨hq1, e⟩
      · replace e := cond_eq_or e
        rcases e with ⟨hq2, e⟩ | ⟨hq2, e⟩
        · subst e; exact fn_conG hU (P := Try.prog) Try.func34 (fun xs w => by kernel_rfl) _ _ (P3 ++ [.cg (ok_barbicanref1_X hU y0 true hq1), .o, .o, .a 0, .t (i_eq y0.fImm (0#32)) hq2, .o, .o, .o, .o]) [] (fun b => by kernel_rfl)
        · subst e; exact fn_conG hU (P := Try.prog) Try.func34 (fun xs w => by kernel_rfl) _ _ (P3 ++ [.cg (ok_barbicanref1_X hU y0 true hq1), .o, .o, .a 0, .t (i_eq y0.fImm (0#32)) hq2, .o, .o, .a 0, .cg (ok_barbicanref1_X hU y0 true hq1), .o, .o, .o, .o, .o]) [] (fun b => by kernel_rfl)
      · subst e; exact fn_conG hU (P := Try.prog) Try.func34 (fun xs w => by kernel_rfl) _ _ (P3 ++ [.cg (ok_barbicanref1_X hU y0 false hq1), .o, .o, .o, .a 0, .cg (ok_barbicanref1_X hU y0 false hq1), .o, .o, .o, .a 0, .t (u_eq y0.fSrc (0#8)) rfl, .o, .o, .o]) [] (fun b => by kernel_rfl)
  · try dsimp only at e
    subst e; exact fn_conG hU (P := Try.prog) Try.func34 (fun xs w => by kernel_rfl) _ _ (P1 ++ [.cx (sp1_barbicanref1_Known_J1_ok hU y0 r0 r1 r2 g3_0 e_g3) [0, 1]]) [] (fun b => by kernel_rfl)
end

end Go.Proofs.Ytnoflelhkgdebaa


