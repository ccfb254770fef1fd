/-
  Instructions: the reference.
-/
import Derived.Test.YtnoflelhkgdebaaS1CA
namespace Go.Proofs.Ytnoflelhkgdebaa
open Go.RowKit
set_option linter.unusedVariables false
set_option linter.unusedSimpArgs false
set_option linter.unusedSectionVars false
set_option maxRecDepth 100000
set_option maxHeartbeats 4000000
noncomputable def zr30 : Value := (Try.prog.info? 4).bind TypeInfo.zero |>.getD undef
theorem rt30 : RowT Try.prog 30 4 ((Try.prog.info? 4).getD default) zr30 1 1 := ⟨by kernel_rfl, by kernel_rfl, by kernel_rfl, by kernel_rfl, by kernel_rfl, by kernel_rfl, by decide⟩
noncomputable def m_barbicanref1_Is (y0 : Insn) (y1 : Int) : Bool :=
  bindT (m_barbicanref1_Class y0) fun r0 =>
  bif r0 == 5 then
    (bindT (m_barbicanref1_Code y0) fun r1 =>
    (r1 == y1))
  else (false)
section
variable {M : Nat → Prop} {B0 : Nat} {S : World → Prop} (hU : Up M B0 S) (y0 : Insn)
include hU y0
theorem ok_barbicanref1_Is (y1 : Int) (r : Bool) (e : m_barbicanref1_Is y0 y1 = r) : ConG Try.prog S 11 #[(v_Insn y0), .int .i64 (y1)] (.bool (r)) := by
  unfold m_barbicanref1_Is at e
  replace e := bindT_eq e
  obtain ⟨r0, e_r0, e⟩ := e
  try dsimp only at e
  replace e := cond_eq_or e
  rcases e with ⟨hq0, e⟩ | ⟨hq0, e⟩
  · replace e := bindT_eq e
    obtain ⟨r1, e_r1, e⟩ := e
    try dsimp only at e
    subst e; exact fn_conG hU (P := Try.prog) Try.func11 (fun xs w => by kernel_rfl) _ _ [.o, .o, .a 0, .cg (ok_barbicanref1_Class hU y0 r0 e_r0), .b (z_eqlT hq0), .o, .a 0, .cg (ok_barbicanref1_Code hU y0 r1 e_r1), .o, .o, .o, .o] [] (fun b => by kernel_rfl)
  · subst e; exact fn_conG hU (P := Try.prog) Try.func11 (fun xs w => by kernel_rfl) _ _ [.o, .o, .a 0, .cg (ok_barbicanref1_Class hU y0 r0 e_r0), .b (z_eqlF hq0), .o, .o, .o] [] (fun b => by kernel_rfl)
noncomputable def m_barbicanref1_Compares (y0 : Insn) : Bool :=
  bindT (m_barbicanref1_Class y0) fun r0 =>
  bindT (m_barbicanref1_Code y0) fun r1 =>
  bif r0 == 5 then
    (bif r1 == 0 then
      (false)
    else (bif r1 == 8 then
      (false)
    else ((r1 != 9))))
  else (bif r0 == 6 then
    (bif r1 == 0 then
      (false)
    else (bif r1 == 8 then
      (false)
    else ((r1 != 9))))
  else (false))
theorem ok_barbicanref1_Compares (r : Bool) (e : m_barbicanref1_Compares y0 = r) : ConG Try.prog S 14 #[(v_Insn y0)] (.bool (r)) := by
  unfold m_barbicanref1_Compares at e
  replace e := bindT_eq e
  obtain ⟨r0, e_r0, e⟩ := e
  try dsimp only at e
  replace e := bindT_eq e
  obtain ⟨r1, e_r1, e⟩ := e
  try dsimp only at e
  replace e := cond_eq_or e
  let P1 : List (PG Try.prog M B0 S) := [.o, .o, .a 0, .cg (ok_barbicanref1_Class hU y0 r0 e_r0), .o, .a 0, .cg (ok_barbicanref1_Code hU y0 r1 e_r1), .o, .o]
  rcases e with ⟨hq0, e⟩ | ⟨hq0, e⟩
  · replace e := cond_eq_or e
    rcases e with ⟨hq1, e⟩ | ⟨hq1, e⟩
    · subst e; exact fn_conG hU (P := Try.prog) Try.func14 (fun xs w => by kernel_rfl) _ _ (P1 ++ [.b (z_eqlT hq0), .o, .o, .o, .o, .b (z_neqT hq1), .o, .o, .o, .o, .o, .o]) [] (fun b => by kernel_rfl)
    · replace e := cond_eq_or e
      rcases e with ⟨hq2, e⟩ | ⟨hq2, e⟩
      · subst e; exact fn_conG hU (P := Try.prog) Try.func14 (fun xs w => by kernel_rfl) _ _ (P1 ++ [.b (z_eqlT hq0), .o, .o, .o, .o, .b (z_neqF hq1), .o, .o, .o, .b (z_neqT hq2), .o, .o, .o, .o]) [] (fun b => by kernel_rfl)
      · subst e; exact fn_conG hU (P := Try.prog) Try.func14 (fun xs w => by kernel_rfl) _ _ (P1 ++ [.b (z_eqlT hq0), .o, .o, .o, .o, .b (z_neqF hq1), .o, .o, .o, .b (z_neqF hq2), .o, .o, .o, .o, .o, .o]) [] (fun b => by kernel_rfl)
  · replace e := cond_eq_or e
    rcases e with ⟨hq1, e⟩ | ⟨hq1, e⟩
    · replace e := cond_eq_or e
      let P2 : List (PG Try.prog M B0 S) := P1 ++ [.b (z_eqlF hq0), .o, .o, .b (z_eqlT hq1), .o, .o, .o]
      rcases e with ⟨hq2, e⟩ | ⟨hq2, e⟩
      · subst e; exact fn_conG hU (P := Try.prog) Try.func14 (fun xs w => by kernel_rfl) _ _ (P2 ++ [.b (z_neqT hq2), .o, .o, .o, .o, .o, .o]) [] (fun b => by kernel_rfl)
      · replace e := cond_eq_or e
        rcases e with ⟨hq3, e⟩ | ⟨hq3, e⟩
        · subst e; exact fn_conG hU (P := Try.prog) Try.func14 (fun xs w => by kernel_rfl) _ _ (P2 ++ [.b (z_neqF hq2), .o, .o, .o, .b (z_neqT hq3), .o, .o, .o, .o]) [] (fun b => by kernel_rfl)
        · subst e; exact fn_conG hU (P := Try.prog) Try.func14 (fun xs w => by kernel_rfl) _ _ (P2 ++ [.b (z_neqF hq2), .o, .o, .o, .b (z_neqF hq3), .o, .o, .o, .o, .o, .o]) [] (fun b => by kernel_rfl)
    · subst e; exact fn_conG hU (P := Try.prog) Try.func14 (fun xs w => by kernel_rfl) _ _ (P1 ++ [.b (z_eqlF hq0), .o, .o, .b (z_eqlF hq1), .o, .o, .o, .o, .o, .o, .o, .o]) [] (fun b => by kernel_rfl)
noncomputable def m_barbicanref1_Names (y0 : Insn) : Bool :=
  bif m_barbicanref1_Is y0 8 then
    (bif y0.fSrc == 1#8 then
      (true)
    else (bif m_barbicanref1_IsWide y0 then
      ((y0.fSrc == 4#8))
    else (false)))
  else (bif m_barbicanref1_IsWide y0 then
    ((y0.fSrc == 4#8))
  else (false))
theorem ok_barbicanref1_Names (r : Bool) (e : m_barbicanref1_Names y0 = r) : ConG Try.prog S 21 #[(v_Insn y0)] (.bool (r)) := by
  unfold m_barbicanref1_Names at e
  replace e := cond_eq_or e
  rcases e with ⟨hq0, e⟩ | ⟨hq0, e⟩
  · replace e := cond_eq_or e
    let P1 : List (PG Try.prog M B0 S) := [.o, .o, .a 0, .cg (ok_barbicanref1_Is hU y0 8 true hq0), .o, .o, .a 0]
    rcases e with ⟨hq1, e⟩ | ⟨hq1, e⟩
    · subst e; exact fn_conG hU (P := Try.prog) Try.func21 (fun xs w => by kernel_rfl) _ _ (P1 ++ [.t (u_eq y0.fSrc (1#8)) hq1, .o, .o, .o, .o]) [] (fun b => by kernel_rfl)
    · replace e := cond_eq_or e
      rcases e with ⟨hq2, e⟩ | ⟨hq2, e⟩
      · subst e; exact fn_conG hU (P := Try.prog) Try.func21 (fun xs w => by kernel_rfl) _ _ (P1 ++ [.t (u_eq y0.fSrc (1#8)) hq1, .o, .o, .a 0, .cg (ok_barbicanref1_IsWide hU y0 true hq2), .o, .o, .a 0, .t (u_eq y0.fSrc (4#8)) rfl, .o, .o, .o]) [] (fun b => by kernel_rfl)
      · subst e; exact fn_conG hU (P := Try.prog) Try.func21 (fun xs w => by kernel_rfl) _ _ (P1 ++ [.t (u_eq y0.fSrc (1#8)) hq1, .o, .o, .a 0, .cg (ok_barbicanref1_IsWide hU y0 false hq2), .o, .o, .o, .o]) [] (fun b => by kernel_rfl)
  · replace e := cond_eq_or e
    rcases e with ⟨hq1, e⟩ | ⟨hq1, e⟩
    · subst e; exact fn_conG hU (P := Try.prog) Try.func21 (fun xs w => by kernel_rfl) _ _ [.o, .o, .a 0, .cg (ok_barbicanref1_Is hU y0 8 false hq0), .o, .o, .o, .a 0, .cg (ok_barbicanref1_IsWide hU y0 true hq1), .o, .o, .a 0, .t (u_eq y0.fSrc (4#8)) rfl, .o, .o, .o] [] (fun b => by kernel_rfl)
    · subst e; exact fn_conG hU (P := Try.prog) Try.func21 (fun xs w => by kernel_rfl) _ _ [.o, .o, .a 0, .cg (ok_barbicanref1_Is hU y0 8 false hq0), .o, .o, .o, .a 0, .cg (ok_barbicanref1_IsWide hU y0 false hq1), .o, .o, .o, .o] [] (fun b => by kernel_rfl)
noncomputable def m_barbicanref1_Helper (y0 : Insn) : Bool :=
  bif m_barbicanref1_Is y0 8 then
    ((y0.fSrc == 0#8))
  else (false)
theorem ok_barbicanref1_Helper (r : Bool) (e : m_barbicanref1_Helper y0 = r) : ConG Try.prog S 36 #[(v_Insn y0)] (.bool (r)) := by
  unfold m_barbicanref1_Helper at e
  replace e := cond_eq_or e
  rcases e with ⟨hq0, e⟩ | ⟨hq0, e⟩
  · subst e; exact fn_conG hU (P := Try.prog) Try.func36 (fun xs w => by kernel_rfl) _ _ [.o, .o, .a 0, .cg (ok_barbicanref1_Is hU y0 8 true hq0), .o, .o, .a 0, .t (u_eq y0.fSrc (0#8)) rfl, .o, .o] [] (fun b => by kernel_rfl)
  · subst e; exact fn_conG hU (P := Try.prog) Try.func36 (fun xs w => by kernel_rfl) _ _ [.o, .o, .a 0, .cg (ok_barbicanref1_Is hU y0 8 false hq0), .o, .o, .o] [] (fun b => by kernel_rfl)
noncomputable def m_barbicanref1_Writes (y0 : Insn) : Bool :=
  bindT (m_barbicanref1_Class y0) fun r0 =>
  bif r0 == 0 then
    (true)
  else (bif r0 == 1 then
    (true)
  else (bif r0 == 4 then
    (true)
  else ((r0 == 7))))
theorem ok_barbicanref1_Writes (r : Bool) (e : m_barbicanref1_Writes y0 = r) : ConG Try.prog S 35 #[(v_Insn y0)] (.bool (r)) := by
  unfold m_barbicanref1_Writes at e
  replace e := bindT_eq e
  obtain ⟨r0, e_r0, e⟩ := e
  try dsimp only at e
  replace e := cond_eq_or e
  let P1 : List (PG Try.prog M B0 S) := [.o, .o, .a 0, .cg (ok_barbicanref1_Class hU y0 r0 e_r0), .o, .o]
  rcases e with ⟨hq0, e⟩ | ⟨hq0, e⟩
  · subst e; exact fn_conG hU (P := Try.prog) Try.func35 (fun xs w => by kernel_rfl) _ _ (P1 ++ [.b (z_eqlT hq0), .o, .o, .o, .o, .o, .o, .o]) [] (fun b => by kernel_rfl)
  · replace e := cond_eq_or e
    rcases e with ⟨hq1, e⟩ | ⟨hq1, e⟩
    · subst e; exact fn_conG hU (P := Try.prog) Try.func35 (fun xs w => by kernel_rfl) _ _ (P1 ++ [.b (z_eqlF hq0), .o, .o, .b (z_eqlT hq1), .o, .o, .o, .o, .o, .o]) [] (fun b => by kernel_rfl)
    · replace e := cond_eq_or e
      rcases e with ⟨hq2, e⟩ | ⟨hq2, e⟩
      · subst e; exact fn_conG hU (P := Try.prog) Try.func35 (fun xs w => by kernel_rfl) _ _ (P1 ++ [.b (z_eqlF hq0), .o, .o, .b (z_eqlF hq1), .o, .o, .o, .b (z_eqlT hq2), .o, .o, .o, .o]) [] (fun b => by kernel_rfl)
      · subst e; exact fn_conG hU (P := Try.prog) Try.func35 (fun xs w => by kernel_rfl) _ _ (P1 ++ [.b (z_eqlF hq0), .o, .o, .b (z_eqlF hq1), .o, .o, .o, .b (z_eqlF hq2), .o, .o, .o, .o, .o, .o]) [] (fun b => by kernel_rfl)
inductive Sh_barbicanref1_Seconds_L0 where
  | c0 (s0_0 : Nat → Bool) (s0_1 : Int)
inductive Ex_barbicanref1_Seconds_L0 where
  | e0 (c0_0 : Nat → Bool)
noncomputable def st_barbicanref1_Seconds_L0 (n0 : Nat) (A0 : Nat → Insn) : Sh_barbicanref1_Seconds_L0 → Option (Sh_barbicanref1_Seconds_L0 ⊕ Ex_barbicanref1_Seconds_L0)
  | .c0 s0_0 s0_1 =>
    bif decide (s0_1 < (n0 : Int)) then
      (bif inR (IntKind.i64.wrap (s0_1 - 1)) n0 then
        (bif m_barbicanref1_IsWide ((A0 ((IntKind.i64.wrap (s0_1 - 1))).toNat)) then
          (bif inR (IntKind.i64.wrap (s0_1 - 1)) ((n0 : Int)).toNat then
            (bif (s0_0 ((IntKind.i64.wrap (s0_1 - 1))).toNat) then
              (bif inR s0_1 ((n0 : Int)).toNat then
                (some (.inl (.c0 (updF s0_0 (s0_1).toNat false) (IntKind.i64.wrap (s0_1 + 1)))))
              else (none))
            else (bif inR s0_1 ((n0 : Int)).toNat then
              (some (.inl (.c0 (updF s0_0 (s0_1).toNat true) (IntKind.i64.wrap (s0_1 + 1)))))
            else (none)))
          else (none))
        else (bif inR s0_1 ((n0 : Int)).toNat then
          (some (.inl (.c0 (updF s0_0 (s0_1).toNat false) (IntKind.i64.wrap (s0_1 + 1)))))
        else (none)))
      else (none))
    else (some (.inr (.e0 s0_0)))
noncomputable def bd_barbicanref1_Seconds_L0 : Code := codeOf Try.f8 [1, 1, 0, 1, 0, 0]
def fl_barbicanref1_Seconds_L0 (a0 : Option Addr) (p0 : Nat) (q0 : Nat) (n0 : Nat) (k0 : Nat) (A0 : Nat → Insn) : Sh_barbicanref1_Seconds_L0 → List L1 → List Value
  | .c0 s0_0 s0_1, ls => [.slice a0 n0 (n0 + k0), .slice none 0 0, (rowV (lget ls 0) ((n0 : Int)).toNat 1), .int .i64 (s0_1)]
def mf_barbicanref1_Seconds_L0 : Sh_barbicanref1_Seconds_L0 → List (Nat × Nat)
  | .c0 _ _ => [(1, 1), (3, 27)]
noncomputable def fr_barbicanref1_Seconds_L0 (a0 : Option Addr) (p0 : Nat) (q0 : Nat) (n0 : Nat) (k0 : Nat) (A0 : Nat → Insn) (s : Sh_barbicanref1_Seconds_L0) : List L1 → List Value := mrgF (mf_barbicanref1_Seconds_L0 s) (fl_barbicanref1_Seconds_L0 a0 p0 q0 n0 k0 A0 s) 1
def Hs_barbicanref1_Seconds_L0 (a0 : Option Addr) (p0 : Nat) (q0 : Nat) (n0 : Nat) (k0 : Nat) (A0 : Nat → Insn) : Sh_barbicanref1_Seconds_L0 → List L1 → List Obj
  | .c0 s0_0 s0_1, ls => [rowO (lget ls 0) (esG cB ((n0 : Int)).toNat s0_0) 4 ((n0 : Int)).toNat 1, unb]
def vl_barbicanref1_Seconds_L0 (a0 : Option Addr) (p0 : Nat) (q0 : Nat) (n0 : Nat) (k0 : Nat) (A0 : Nat → Insn) : Ex_barbicanref1_Seconds_L0 → List L1 → List Value
  | .e0 c0_0, ls => [.slice a0 n0 (n0 + k0), .slice none 0 0, (rowV (lget ls 0) ((n0 : Int)).toNat 1)]
def mk_barbicanref1_Seconds_L0 : Ex_barbicanref1_Seconds_L0 → List (Nat × Nat)
  | .e0 _ => [(1, 1), (2, 28)]
noncomputable def vf_barbicanref1_Seconds_L0 (a0 : Option Addr) (p0 : Nat) (q0 : Nat) (n0 : Nat) (k0 : Nat) (A0 : Nat → Insn) (r : Ex_barbicanref1_Seconds_L0) : List L1 → List Value := mrgF (mk_barbicanref1_Seconds_L0 r) (vl_barbicanref1_Seconds_L0 a0 p0 q0 n0 k0 A0 r) 1
def Hf_barbicanref1_Seconds_L0 (a0 : Option Addr) (p0 : Nat) (q0 : Nat) (n0 : Nat) (k0 : Nat) (A0 : Nat → Insn) : Ex_barbicanref1_Seconds_L0 → List L1 → List Obj
  | .e0 c0_0, ls => [rowO (lget ls 0) (esG cB ((n0 : Int)).toNat c0_0) 4 ((n0 : Int)).toNat 1, unb]
def ex_barbicanref1_Seconds_L0 : Ex_barbicanref1_Seconds_L0 → Ex
  | .e0 _ => (.exit 0)
end
section
variable {M : Nat → Prop} {B0 : Nat} {S : World → Prop} (hU : Up M B0 S) (a0 : Option Addr) (p0 : Nat) (q0 : Nat) (n0 : Nat) (k0 : Nat) (A0 : Nat → Insn) (hR0 : Ro S c_Insn 5 a0 p0 q0 n0 A0)
include hU a0 p0 q0 n0 k0 A0 hR0
theorem go_barbicanref1_Seconds_L0 (s : Sh_barbicanref1_Seconds_L0) (r : Ex_barbicanref1_Seconds_L0) (h : lpO (st_barbicanref1_Seconds_L0 n0 A0) s = some r) : GoesG Try.prog M B0 S (.loop bd_barbicanref1_Seconds_L0) 2 (fr_barbicanref1_Seconds_L0 a0 p0 q0 n0 k0 A0 s) (Hs_barbicanref1_Seconds_L0 a0 p0 q0 n0 k0 A0 s) (ex_barbicanref1_Seconds_L0 r) 1 (vf_barbicanref1_Seconds_L0 a0 p0 q0 n0 k0 A0 r) (Hf_barbicanref1_Seconds_L0 a0 p0 q0 n0 k0 A0 r) 2 :=
  goes_lpO (fun s q e => by
    cases s with
    | c0 s0_0 s0_1 =>
      unfold st_barbicanref1_Seconds_L0 at e
      dsimp only at e
      replace e := cond_eq_or e
      rcases e with ⟨hq0, e⟩ | ⟨hq0, e⟩
      · replace e := cond_eq_or e
        let P1 : List (PG Try.prog M B0 S) := [.o, .o, .o, .b (z_lssT hq0), .o, .o, .o, .o, .o]
        rcases e with ⟨hq1, e⟩ | ⟨hq1, e⟩
        · replace e := cond_eq_or e
          let P2 : List (PG Try.prog M B0 S) := P1 ++ [.q (ixRo_ok (kd := .i64) (T := 22) (x := (IntKind.i64.wrap (s0_1 - 1))) (sz := 5) rfl (fun w => by kernel_rfl) hR0 hq1), .l (accRo hR0 c_Insn_len (inR_nat hq1) 0 [.int .u8 (nn ((A0 ((IntKind.i64.wrap (s0_1 - 1))).toNat)).fOp), .int .u8 (nn ((A0 ((IntKind.i64.wrap (s0_1 - 1))).toNat)).fDst), .int .u8 (nn ((A0 ((IntKind.i64.wrap (s0_1 - 1))).toNat)).fSrc), .int .i16 (ii ((A0 ((IntKind.i64.wrap (s0_1 - 1))).toNat)).fOff), .int .i32 (ii ((A0 ((IntKind.i64.wrap (s0_1 - 1))).toNat)).fImm)] rfl)]
          rcases e with ⟨hq2, e⟩ | ⟨hq2, e⟩
          · replace e := cond_eq_or e
            let P3 : List (PG Try.prog M B0 S) := P2 ++ [.cg (ok_barbicanref1_IsWide hU ((A0 ((IntKind.i64.wrap (s0_1 - 1))).toNat)) true hq2), .o, .o, .o, .o]
            rcases e with ⟨hq3, e⟩ | ⟨hq3, e⟩
            · replace e := cond_eq_or e
              let P4 : List (PG Try.prog M B0 S) := P3 ++ [.q (ixM_ok (kd := .i64) (T := 30) (x := (IntKind.i64.wrap (s0_1 - 1))) (N := ((n0 : Int)).toNat) (sz := 1) rfl (fun w => by kernel_rfl) hq3)]
              rcases e with ⟨hq4, e⟩ | ⟨hq4, e⟩
              · replace e := cond_eq_or e
                rcases e with ⟨hq5, e⟩ | ⟨hq5, e⟩
                · cases e; exact goes_runM hU (P4 ++ [.l (accG (i := 0) (f := cB) (A := s0_0) (k := ((IntKind.i64.wrap (s0_1 - 1))).toNat) 0 [.bool true] cB_len (inR_nat hq3) (congrArg (fun b => [Value.bool b]) hq4)), .o, .o, .q (ixM_ok (kd := .i64) (T := 30) (x := s0_1) (N := ((n0 : Int)).toNat) (sz := 1) rfl (fun w => by kernel_rfl) hq5), .x (sqStG_ok (T := 4) (e := 4) (f := cB) (A := s0_0) (v := false) 0 (.bool false) cB_len cB_one rfl rfl (fun w => by kernel_rfl) (inR_nat hq5)) [0], .o, .o, .o]) [0] (fun b => rfl) (by decide) rfl rfl (fun b => by kernel_rfl)
                · exact none_some e
              · replace e := cond_eq_or e
                rcases e with ⟨hq5, e⟩ | ⟨hq5, e⟩
                · cases e; exact goes_runM hU (P4 ++ [.l (accG (i := 0) (f := cB) (A := s0_0) (k := ((IntKind.i64.wrap (s0_1 - 1))).toNat) 0 [.bool false] cB_len (inR_nat hq3) (congrArg (fun b => [Value.bool b]) hq4)), .o, .o, .q (ixM_ok (kd := .i64) (T := 30) (x := s0_1) (N := ((n0 : Int)).toNat) (sz := 1) rfl (fun w => by kernel_rfl) hq5), .x (sqStG_ok (T := 4) (e := 4) (f := cB) (A := s0_0) (v := true) 0 (.bool true) cB_len cB_one rfl rfl (fun w => by kernel_rfl) (inR_nat hq5)) [0], .o, .o, .o]) [0] (fun b => rfl) (by decide) rfl rfl (fun b => by kernel_rfl)
                · exact none_some e
            · exact none_some e
          · replace e := cond_eq_or e
            rcases e with ⟨hq3, e⟩ | ⟨hq3, e⟩
            · cases e; exact goes_runM hU (P2 ++ [.cg (ok_barbicanref1_IsWide hU ((A0 ((IntKind.i64.wrap (s0_1 - 1))).toNat)) false hq2), .o, .o, .q (ixM_ok (kd := .i64) (T := 30) (x := s0_1) (N := ((n0 : Int)).toNat) (sz := 1) rfl (fun w => by kernel_rfl) hq3), .x (sqStG_ok (T := 4) (e := 4) (f := cB) (A := s0_0) (v := false) 0 (.bool false) cB_len cB_one rfl rfl (fun w => by kernel_rfl) (inR_nat hq3)) [0], .o, .o, .o]) [0] (fun b => rfl) (by decide) rfl rfl (fun b => by kernel_rfl)
            · exact none_some e
        · exact none_some e
      · cases e; exact ⟨ne_exit 0, goes_runM hU [.o, .o, .o, .b (z_lssF hq0)] [0] (fun b => rfl) (by decide) rfl rfl (fun b => by kernel_rfl)⟩) s r h
noncomputable def t0_barbicanref1_Seconds_L0_0 (a0 : Option Addr) (p0 : Nat) (q0 : Nat) (n0 : Nat) (k0 : Nat) (A0 : Nat → Insn) (s0_0 : Nat → Bool) (s0_1 : Int) (ls : List L1) : List Value := List.append [.slice a0 n0 (n0 + k0), undef, .slice none 0 0, (rowV (lget ls 0) ((n0 : Int)).toNat 1), .int .i64 (s0_1), .slice a0 n0 (n0 + k0), .int .i64 ((n0 : Int)), (rowV (lget ls 0) ((n0 : Int)).toNat 1)] (und 24)
def pre_barbicanref1_Seconds_L0_0 (a0 : Option Addr) (p0 : Nat) (q0 : Nat) (n0 : Nat) (k0 : Nat) (A0 : Nat → Insn) (s0_0 : Nat → Bool) (s0_1 : Int) (ls : List L1) : List Obj := [rowO (lget ls 0) (esG cB ((n0 : Int)).toNat s0_0) 4 ((n0 : Int)).toNat 1]
theorem sp0_barbicanref1_Seconds_L0_0_ok (s0_0 : Nat → Bool) (s0_1 : Int) (c0_0 : Nat → Bool) (h : lpO (st_barbicanref1_Seconds_L0 n0 A0) (.c0 s0_0 s0_1) = some (.e0 c0_0)) : SpcG Try.prog M B0 S ⟨fun ls => .code (.loop bd_barbicanref1_Seconds_L0) (t0_barbicanref1_Seconds_L0_0 a0 p0 q0 n0 k0 A0 s0_0 s0_1 ls), pre_barbicanref1_Seconds_L0_0 a0 p0 q0 n0 k0 A0 s0_0 s0_1, 1, (.exit 0), fun ls => vf_barbicanref1_Seconds_L0 a0 p0 q0 n0 k0 A0 (.e0 c0_0) (ls.take 1 ++ ls.drop 1), fun ls => (Hf_barbicanref1_Seconds_L0 a0 p0 q0 n0 k0 A0 (.e0 c0_0) (ls.take 1 ++ ls.drop 1)).take 1 ++ List.replicate 0 unb, fun ls => (Hf_barbicanref1_Seconds_L0 a0 p0 q0 n0 k0 A0 (.e0 c0_0) (ls.take 1 ++ ls.drop 1)).drop 1⟩ :=
  spc_of_goesM hU 0 (k0 := 1) (go_barbicanref1_Seconds_L0 hU a0 p0 q0 n0 k0 A0 hR0 _ _ h) (t0_barbicanref1_Seconds_L0_0 a0 p0 q0 n0 k0 A0 s0_0 s0_1) (pre_barbicanref1_Seconds_L0_0 a0 p0 q0 n0 k0 A0 s0_0 s0_1) (fun _ => rfl) (fun ls h => by match ls, h with | [l0], _ => exact ⟨by kernel_rfl, by kernel_rfl⟩) (fun ls h => by match ls, h with | [l0], _ => rfl) (by decide) (by decide) (fun ls => rfl)
inductive R_barbicanref1_Seconds where
  | e0 (c0_0 : Nat → Bool)
noncomputable def m_barbicanref1_Seconds (n0 : Nat) (A0 : Nat → Insn) : Option R_barbicanref1_Seconds :=
  bif inR (n0 : Int) 1000001 then
    ((lpO (st_barbicanref1_Seconds_L0 n0 A0) (.c0 (fun _ => false) 1)).bind fun g0 => match g0 with
    | .e0 g0_0 =>
    some (.e0 g0_0))
  else (none)
def sq0_barbicanref1_Seconds (a0 : Option Addr) (p0 : Nat) (q0 : Nat) (n0 : Nat) (k0 : Nat) (A0 : Nat → Insn) (c0_0 : Nat → Bool) : Spc := ⟨fun ls => .call 8 #[.slice a0 n0 (n0 + k0)], fun ls => [], 1, .normal, fun ls => [(rowV (lget ls 0) ((n0 : Int)).toNat 1)], fun ls => [], fun ls => [rowO (lget ls 0) (esG cB ((n0 : Int)).toNat c0_0) 4 ((n0 : Int)).toNat 1]⟩
theorem ok0_barbicanref1_Seconds (c0_0 : Nat → Bool) (e : m_barbicanref1_Seconds n0 A0 = some (.e0 c0_0)) : SpcG Try.prog M B0 S (sq0_barbicanref1_Seconds a0 p0 q0 n0 k0 A0 c0_0) := by
  unfold m_barbicanref1_Seconds at e
  replace e := cond_eq_or e
  rcases e with ⟨hq0, e⟩ | ⟨hq0, e⟩
  · replace e := bindO_eq e
    obtain ⟨g0, e_g0, e⟩ := e
    obtain ⟨g0_0⟩ := g0
    try dsimp only at e
    injection e with e; injection e with i0; subst i0; exact fn_specG hU (P := Try.prog) Try.func8 (fun xs w => by kernel_rfl) 0 _ _ (fun _ => rfl) _ _ _ [0] [.o, .o, .o, .x (sqMkZ_ok rt30 (f := cB) (x := (n0 : Int)) (a0 := false) cB_len (by kernel_rfl) hq0 (by decide)) [], .o, .o, .cp, .cx (sp0_barbicanref1_Seconds_L0_0_ok hU a0 p0 q0 n0 k0 A0 hR0 (fun _ => false) 1 g0_0 e_g0) [0], .o, .o] [] (fun b => by kernel_rfl)
  · exact none_some e
noncomputable def m_barbicanref1_To (n0 : Nat) (A0 : Nat → Insn) (y1 : Int) (y2 : Int) : Int :=
  bif decide ((IntKind.i64.wrap ((IntKind.i64.wrap (y1 + 1)) + y2)) < 0) then
    ((-1))
  else (bif decide ((n0 : Int) ≤ (IntKind.i64.wrap ((IntKind.i64.wrap (y1 + 1)) + y2))) then
    ((-1))
  else ((IntKind.i64.wrap ((IntKind.i64.wrap (y1 + 1)) + y2))))
theorem ok_barbicanref1_To (y1 : Int) (y2 : Int) (r : Int) (e : m_barbicanref1_To n0 A0 y1 y2 = r) : ConG Try.prog S 15 #[.slice a0 n0 (n0 + k0), .int .i64 (y1), .int .i64 (y2)] (.int .i64 (r)) := by
  unfold m_barbicanref1_To at e
  replace e := cond_eq_or e
  rcases e with ⟨hq0, e⟩ | ⟨hq0, e⟩
  · subst e; exact fn_conG hU (P := Try.prog) Try.func15 (fun xs w => by kernel_rfl) _ _ [.o, .o, .o, .o, .o, .o, .o, .b (z_lssT hq0), .o, .o, .o] [] (fun b => by kernel_rfl)
  · replace e := cond_eq_or e
    rcases e with ⟨hq1, e⟩ | ⟨hq1, e⟩
    · subst e; exact fn_conG hU (P := Try.prog) Try.func15 (fun xs w => by kernel_rfl) _ _ [.o, .o, .o, .o, .o, .o, .o, .b (z_lssF hq0), .o, .o, .o, .o, .b (z_geqT hq1), .o, .o] [] (fun b => by kernel_rfl)
    · subst e; exact fn_conG hU (P := Try.prog) Try.func15 (fun xs w => by kernel_rfl) _ _ [.o, .o, .o, .o, .o, .o, .o, .b (z_lssF hq0), .o, .o, .o, .o, .b (z_geqF hq1), .o, .o, .o] [] (fun b => by kernel_rfl)
end

end Go.Proofs.Ytnoflelhkgdebaa


