/-
  Where a program goes.
-/
import Derived.Test.YtdgehbjiphahhaaS1B
import Derived.Test.YtdgehbjiphahhaaRxJ
import Derived.Test.YtdgehbjiphahhaaRyS
namespace Go.Proofs.Ytdgehbjiphahhaa
open Go.RowKit
set_option linter.unusedVariables false
set_option linter.unusedSimpArgs false
set_option linter.unusedSectionVars false
set_option maxRecDepth 100000
set_option maxHeartbeats 4000000
noncomputable def zr89 : Value := (Try.prog.info? 4).bind TypeInfo.zero |>.getD undef
theorem rt89 : RowT Try.prog 89 4 ((Try.prog.info? 4).getD default) zr89 1 1 := ⟨by kernel_rfl, by kernel_rfl, by kernel_rfl, by kernel_rfl, by kernel_rfl, by kernel_rfl, by decide⟩
noncomputable def zr32 : Value := (Try.prog.info? 3).bind TypeInfo.zero |>.getD undef
theorem rt32 : RowT Try.prog 32 3 ((Try.prog.info? 3).getD default) zr32 1 8 := ⟨by kernel_rfl, by kernel_rfl, by kernel_rfl, by kernel_rfl, by kernel_rfl, by kernel_rfl, by decide⟩
noncomputable def zr95 : Value := (Try.prog.info? 32).bind TypeInfo.zero |>.getD undef
theorem rt95 : RowT Try.prog 95 32 ((Try.prog.info? 32).getD default) zr95 1 24 := ⟨by kernel_rfl, by kernel_rfl, by kernel_rfl, by kernel_rfl, by kernel_rfl, by kernel_rfl, by decide⟩
def tb0 (j : Nat) : Bool := match j with
  | 0 => false
  | 1 => false
  | 2 => false
  | 3 => false
  | 4 => false
  | 5 => false
  | 6 => false
  | 7 => false
  | 8 => false
  | 9 => false
  | 10 => false
  | 11 => false
  | 12 => false
  | 13 => false
  | 14 => false
  | 15 => false
  | 16 => false
  | 17 => false
  | 18 => false
  | 19 => false
  | 20 => false
  | 21 => false
  | 22 => false
  | 23 => false
  | 24 => false
  | 25 => false
  | 26 => false
  | 27 => false
  | 28 => false
  | 29 => false
  | 30 => false
  | 31 => false
  | 32 => false
  | 33 => false
  | 34 => false
  | 35 => false
  | 36 => false
  | 37 => false
  | 38 => false
  | 39 => false
  | 40 => false
  | 41 => false
  | 42 => false
  | 43 => false
  | 44 => false
  | 45 => false
  | 46 => false
  | 47 => false
  | 48 => false
  | 49 => false
  | 50 => false
  | 51 => false
  | 52 => false
  | 53 => false
  | 54 => false
  | 55 => false
  | 56 => false
  | 57 => false
  | 58 => false
  | 59 => false
  | 60 => false
  | 61 => false
  | 62 => false
  | 63 => false
  | _ => false
inductive R_flow_program_next where
  | e0 
  | e1 (c1_0 : Nat) (c1_1 : Nat → Int)
noncomputable def m_flow_program_next (n0 : Nat) (A0 : Nat → Insn) (y1 : Int) : Option R_flow_program_next :=
  bif inR y1 n0 then
    (bindT (m_op_Width ((A0 (y1).toNat))) fun r0 =>
    bif ((A0 (y1).toNat)).fOp == 149#8 then
      (some (.e0))
    else (bif m_op_Jumps ((A0 (y1).toNat)) then
      ((m_insn_Target n0 A0 y1).bind fun r1 =>
      bif ((A0 (y1).toNat)).fOp == 5#8 then
        (none)
      else (bif r1.1 == (IntKind.i64.wrap (y1 + r0)) then
        (some (.e1 1 (fun _ => r1.1)))
      else (some (.e1 2 (updF (fun _ => (IntKind.i64.wrap (y1 + r0))) 1 r1.1)))))
    else (some (.e1 1 (fun _ => (IntKind.i64.wrap (y1 + r0)))))))
  else (none)
def sq0_flow_program_next (a0 : Option Addr) (p0 : Nat) (q0 : Nat) (n0 : Nat) (k0 : Nat) (A0 : Nat → Insn) (y1 : Int)  : Spc := ⟨fun ls => .call 43 #[.slice a0 n0 (n0 + k0), .int .i64 (y1)], fun ls => [], 0, .normal, fun ls => [.slice none 0 0], fun ls => [], fun ls => []⟩
def sq1_flow_program_next (a0 : Option Addr) (p0 : Nat) (q0 : Nat) (n0 : Nat) (k0 : Nat) (A0 : Nat → Insn) (y1 : Int) (c1_0 : Nat) (c1_1 : Nat → Int) : Spc := ⟨fun ls => .call 43 #[.slice a0 n0 (n0 + k0), .int .i64 (y1)], fun ls => [], 1, .normal, fun ls => [(rowV (lget ls 0) c1_0 1)], fun ls => [], fun ls => [rowO (lget ls 0) (esG cZ c1_0 c1_1) 3 c1_0 1]⟩
section
variable {M : Nat → Prop} {B0 : Nat} {S : World → Prop} (hU : Up M B0 S) (a0 : Option Addr) (p0 : Nat) (q0 : Nat) (n0 : Nat) (k0 : Nat) (A0 : Nat → Insn) (hR0 : Ro S c_Insn 5 a0 p0 q0 n0 A0) (y1 : Int)
include hU a0 p0 q0 n0 k0 A0 hR0 y1
theorem ok0_flow_program_next (e : m_flow_program_next n0 A0 y1 = some (.e0 )) : SpcG Try.prog M B0 S (sq0_flow_program_next a0 p0 q0 n0 k0 A0 y1 ) := by
  unfold m_flow_program_next at e
  replace e := cond_eq_or e
  rcases e with ⟨hq0, e⟩ | ⟨hq0, e⟩
  · replace e := bindT_eq e
    obtain ⟨r0, e_r0, e⟩ := e
    try dsimp only at e
    replace e := cond_eq_or e
    rcases e with ⟨hq1, e⟩ | ⟨hq1, e⟩
    · exact fn_specG hU (P := Try.prog) Try.func43 (fun xs w => by kernel_rfl) 0 _ _ (fun _ => rfl) _ _ _ [] [.o, .o, .o, .o, .q (ixRo_ok (kd := .i64) (T := 90) (x := y1) (sz := 5) rfl (fun w => by kernel_rfl) hR0 hq0), .l (accRo hR0 c_Insn_len (inR_nat hq0) 0 [.int .u8 (nn ((A0 (y1).toNat)).fOp), .int .u8 (nn ((A0 (y1).toNat)).fDst), .int .u8 (nn ((A0 (y1).toNat)).fSrc), .int .i16 (ii ((A0 (y1).toNat)).fOff), .int .i32 (ii ((A0 (y1).toNat)).fImm)] rfl), .cg (ok_op_Width hU ((A0 (y1).toNat)) r0 e_r0), .o, .o, .o, .o, .q (ixRo_ok (kd := .i64) (T := 90) (x := y1) (sz := 5) rfl (fun w => by kernel_rfl) hR0 hq0), .o, .l (accRo hR0 c_Insn_len (inR_nat hq0) 0 [.int .u8 (nn ((A0 (y1).toNat)).fOp)] rfl), .t (u_eq ((A0 (y1).toNat)).fOp (149#8)) hq1, .o] [] (fun b => by kernel_rfl)
    · replace e := cond_eq_or e
      rcases e with ⟨hq2, e⟩ | ⟨hq2, e⟩
      · replace e := bindO_eq e
        obtain ⟨r1, e_r1, e⟩ := e
        try dsimp only at e
        replace e := cond_eq_or e
        rcases e with ⟨hq3, e⟩ | ⟨hq3, e⟩
        · exact none_some e
        · replace e := cond_eq_or e
          rcases e with ⟨hq4, e⟩ | ⟨hq4, e⟩
          · cases e
          · cases e
      · cases e
  · exact none_some e
theorem ok1_flow_program_next (c1_0 : Nat) (c1_1 : Nat → Int) (e : m_flow_program_next n0 A0 y1 = some (.e1 c1_0 c1_1)) : SpcG Try.prog M B0 S (sq1_flow_program_next a0 p0 q0 n0 k0 A0 y1 c1_0 c1_1) := by
  unfold m_flow_program_next at e
  replace e := cond_eq_or e
  rcases e with ⟨hq0, e⟩ | ⟨hq0, e⟩
  · replace e := bindT_eq e
    obtain ⟨r0, e_r0, e⟩ := e
    try dsimp only at e
    replace e := cond_eq_or e
    let P1 : List (PG Try.prog M B0 S) := [.o, .o, .o, .o, .q (ixRo_ok (kd := .i64) (T := 90) (x := y1) (sz := 5) rfl (fun w => by kernel_rfl) hR0 hq0), .l (accRo hR0 c_Insn_len (inR_nat hq0) 0 [.int .u8 (nn ((A0 (y1).toNat)).fOp), .int .u8 (nn ((A0 (y1).toNat)).fDst), .int .u8 (nn ((A0 (y1).toNat)).fSrc), .int .i16 (ii ((A0 (y1).toNat)).fOff), .int .i32 (ii ((A0 (y1).toNat)).fImm)] rfl), .cg (ok_op_Width hU ((A0 (y1).toNat)) r0 e_r0), .o, .o, .o, .o, .q (ixRo_ok (kd := .i64) (T := 90) (x := y1) (sz := 5) rfl (fun w => by kernel_rfl) hR0 hq0), .o, .l (accRo hR0 c_Insn_len (inR_nat hq0) 0 [.int .u8 (nn ((A0 (y1).toNat)).fOp)] rfl)]
    rcases e with ⟨hq1, e⟩ | ⟨hq1, e⟩
    · cases e
    · replace e := cond_eq_or e
      let P2 : List (PG Try.prog M B0 S) := P1 ++ [.t (u_eq ((A0 (y1).toNat)).fOp (149#8)) hq1, .o, .o, .q (ixRo_ok (kd := .i64) (T := 90) (x := y1) (sz := 5) rfl (fun w => by kernel_rfl) hR0 hq0), .l (accRo hR0 c_Insn_len (inR_nat hq0) 0 [.int .u8 (nn ((A0 (y1).toNat)).fOp), .int .u8 (nn ((A0 (y1).toNat)).fDst), .int .u8 (nn ((A0 (y1).toNat)).fSrc), .int .i16 (ii ((A0 (y1).toNat)).fOff), .int .i32 (ii ((A0 (y1).toNat)).fImm)] rfl)]
      rcases e with ⟨hq2, e⟩ | ⟨hq2, e⟩
      · replace e := bindO_eq e
        obtain ⟨r1, e_r1, e⟩ := e
        try dsimp only at e
        replace e := cond_eq_or e
        let P3 : List (PG Try.prog M B0 S) := P2 ++ [.cg (ok_op_Jumps hU ((A0 (y1).toNat)) true hq2), .o, .o, .o, .cg (ok_insn_Target hU a0 p0 q0 n0 k0 A0 hR0 y1 r1 e_r1), .o, .o, .o, .o, .o, .o, .o, .q (ixRo_ok (kd := .i64) (T := 90) (x := y1) (sz := 5) rfl (fun w => by kernel_rfl) hR0 hq0), .o, .l (accRo hR0 c_Insn_len (inR_nat hq0) 0 [.int .u8 (nn ((A0 (y1).toNat)).fOp)] rfl)]
        rcases e with ⟨hq3, e⟩ | ⟨hq3, e⟩
        · exact none_some e
        · replace e := cond_eq_or e
          rcases e with ⟨hq4, e⟩ | ⟨hq4, e⟩
          · injection e with e; injection e with i0 i1; subst i0 i1; exact fn_specG hU (P := Try.prog) Try.func43 (fun xs w => by kernel_rfl) 0 _ _ (fun _ => rfl) _ _ _ [1] (P3 ++ [.t (u_eq ((A0 (y1).toNat)).fOp (5#8)) hq3, .o, .o, .o, .b (z_eqlT hq4), .o, .o, .o, .x (litRow_ok (es := esG cZ 1 (fun _ => r1.1)) (e := 3) (n := 1) (sz := 1)) [0]]) [] (fun b => by kernel_rfl)
          · injection e with e; injection e with i0 i1; subst i0 i1; exact fn_specG hU (P := Try.prog) Try.func43 (fun xs w => by kernel_rfl) 0 _ _ (fun _ => rfl) _ _ _ [1] (P3 ++ [.t (u_eq ((A0 (y1).toNat)).fOp (5#8)) hq3, .o, .o, .o, .b (z_eqlF hq4), .o, .o, .o, .o, .x (litRow_ok (es := esG cZ 2 (updF (fun _ => (IntKind.i64.wrap (y1 + r0))) 1 r1.1)) (e := 3) (n := 2) (sz := 1)) [0]]) [] (fun b => by kernel_rfl)
      · injection e with e; injection e with i0 i1; subst i0 i1; exact fn_specG hU (P := Try.prog) Try.func43 (fun xs w => by kernel_rfl) 0 _ _ (fun _ => rfl) _ _ _ [1] (P2 ++ [.cg (ok_op_Jumps hU ((A0 (y1).toNat)) false hq2), .o, .o, .o, .x (litRow_ok (es := esG cZ 1 (fun _ => (IntKind.i64.wrap (y1 + r0)))) (e := 3) (n := 1) (sz := 1)) [0]]) [] (fun b => by kernel_rfl)
  · exact none_some e
noncomputable def m_flow_program_named (n0 : Nat) (A0 : Nat → Insn) (y1 : Int) : Option ((Int) × (Bool)) :=
  bif inR y1 n0 then
    (bif m_op_Jumps ((A0 (y1).toNat)) then
      (some (0, false))
    else ((m_insn_Target n0 A0 y1).bind fun r0 =>
    some (r0.1, (r0.2))))
  else (none)
theorem ok_flow_program_named (r : (Int) × (Bool)) (e : m_flow_program_named n0 A0 y1 = some r) : ConG Try.prog S 56 #[.slice a0 n0 (n0 + k0), .int .i64 (y1)] (vt0 r) := by
  unfold m_flow_program_named at e
  replace e := cond_eq_or e
  rcases e with ⟨hq0, e⟩ | ⟨hq0, e⟩
  · replace e := cond_eq_or e
    let P1 : List (PG Try.prog M B0 S) := [.o, .o, .o, .o, .q (ixRo_ok (kd := .i64) (T := 90) (x := y1) (sz := 5) rfl (fun w => by kernel_rfl) hR0 hq0), .l (accRo hR0 c_Insn_len (inR_nat hq0) 0 [.int .u8 (nn ((A0 (y1).toNat)).fOp), .int .u8 (nn ((A0 (y1).toNat)).fDst), .int .u8 (nn ((A0 (y1).toNat)).fSrc), .int .i16 (ii ((A0 (y1).toNat)).fOff), .int .i32 (ii ((A0 (y1).toNat)).fImm)] rfl)]
    rcases e with ⟨hq1, e⟩ | ⟨hq1, e⟩
    · injection e with e; subst e; exact fn_conG hU (P := Try.prog) Try.func56 (fun xs w => by kernel_rfl) _ _ (P1 ++ [.cg (ok_op_Jumps hU ((A0 (y1).toNat)) true hq1), .o, .o]) [] (fun b => by kernel_rfl)
    · replace e := bindO_eq e
      obtain ⟨r0, e_r0, e⟩ := e
      try dsimp only at e
      injection e with e; subst e; exact fn_conG hU (P := Try.prog) Try.func56 (fun xs w => by kernel_rfl) _ _ (P1 ++ [.cg (ok_op_Jumps hU ((A0 (y1).toNat)) false hq1), .o, .o, .cg (ok_insn_Target hU a0 p0 q0 n0 k0 A0 hR0 y1 r0 e_r0), .o, .o, .o, .o]) [] (fun b => by kernel_rfl)
  · exact none_some e
inductive Sh_flow_program_reached_L0_L1v3 where
  | c0 (sb0_0 : Nat → Bool) (sb0_1 : Nat) (sb0_2 : Nat → Int) (sb0_3 : Int)
inductive Ex_flow_program_reached_L0_L1v3 where
  | e0 (c0_0 : Nat → Bool) (c0_1 : Nat) (c0_2 : Nat → Int)
noncomputable def st_flow_program_reached_L0_L1v3 (n0 : Nat) (gb0_0 : Nat) (gb0_1 : Nat → Int) : Sh_flow_program_reached_L0_L1v3 → Option (Sh_flow_program_reached_L0_L1v3 ⊕ Ex_flow_program_reached_L0_L1v3)
  | .c0 sb0_0 sb0_1 sb0_2 sb0_3 =>
    bif decide (sb0_3 < (gb0_0 : Int)) then
      (bif inR sb0_3 gb0_0 then
        (bif inR (gb0_1 (sb0_3).toNat) ((n0 : Int)).toNat then
          (bif (sb0_0 ((gb0_1 (sb0_3).toNat)).toNat) then
            (some (.inl (.c0 sb0_0 sb0_1 sb0_2 (IntKind.i64.wrap (sb0_3 + 1)))))
          else (bif decide (sb0_1 ≤ 1000000) then
            (some (.inl (.c0 (updF sb0_0 ((gb0_1 (sb0_3).toNat)).toNat true) (sb0_1 + 1) (updF sb0_2 sb0_1 (gb0_1 (sb0_3).toNat)) (IntKind.i64.wrap (sb0_3 + 1)))))
          else (none)))
        else (none))
      else (none))
    else (some (.inr (.e0 sb0_0 sb0_1 sb0_2)))
noncomputable def bd_flow_program_reached_L0_L1v3 : Code := codeOf Try.f42 [1, 1, 1, 1, 0, 0, 0, 1, 0, 1, 1, 1, 1, 1, 0, 0]
def fl_flow_program_reached_L0_L1v3 (a0 : Option Addr) (p0 : Nat) (q0 : Nat) (n0 : Nat) (k0 : Nat) (A0 : Nat → Insn) (gb0_0 : Nat) (gb0_1 : Nat → Int) (rb1 : (Int) × (Bool)) : Sh_flow_program_reached_L0_L1v3 → List L1 → List Value
  | .c0 sb0_0 sb0_1 sb0_2 sb0_3, ls => [.slice a0 n0 (n0 + k0), (rowV (lget ls 0) ((n0 : Int)).toNat 1), (rowV (lget ls 4) sb0_1 1), (rowV (lget ls 3) gb0_0 1), .int .i64 ((gb0_0 : Int)), .int .i64 (sb0_3)]
def mf_flow_program_reached_L0_L1v3 : Sh_flow_program_reached_L0_L1v3 → List (Nat × Nat)
  | .c0 _ _ _ _ => [(1, 2), (2, 40), (3, 17)]
noncomputable def fr_flow_program_reached_L0_L1v3 (a0 : Option Addr) (p0 : Nat) (q0 : Nat) (n0 : Nat) (k0 : Nat) (A0 : Nat → Insn) (gb0_0 : Nat) (gb0_1 : Nat → Int) (rb1 : (Int) × (Bool)) (s : Sh_flow_program_reached_L0_L1v3) : List L1 → List Value := mrgF (mf_flow_program_reached_L0_L1v3 s) (fl_flow_program_reached_L0_L1v3 a0 p0 q0 n0 k0 A0 gb0_0 gb0_1 rb1 s) 5
def Hs_flow_program_reached_L0_L1v3 (a0 : Option Addr) (p0 : Nat) (q0 : Nat) (n0 : Nat) (k0 : Nat) (A0 : Nat → Insn) (gb0_0 : Nat) (gb0_1 : Nat → Int) (rb1 : (Int) × (Bool)) : Sh_flow_program_reached_L0_L1v3 → List L1 → List Obj
  | .c0 sb0_0 sb0_1 sb0_2 sb0_3, ls => [rowO (lget ls 0) (esG cB ((n0 : Int)).toNat sb0_0) 4 ((n0 : Int)).toNat 1, unb, unb, rowO (lget ls 3) (esG cZ gb0_0 gb0_1) 3 gb0_0 1, rowO (lget ls 4) (esG cZ sb0_1 sb0_2) 3 sb0_1 1, unb]
def vl_flow_program_reached_L0_L1v3 (a0 : Option Addr) (p0 : Nat) (q0 : Nat) (n0 : Nat) (k0 : Nat) (A0 : Nat → Insn) (gb0_0 : Nat) (gb0_1 : Nat → Int) (rb1 : (Int) × (Bool)) : Ex_flow_program_reached_L0_L1v3 → List L1 → List Value
  | .e0 c0_0 c0_1 c0_2, ls => [.slice a0 n0 (n0 + k0), (rowV (lget ls 0) ((n0 : Int)).toNat 1), (rowV (lget ls 4) c0_1 1), (rowV (lget ls 3) gb0_0 1), .int .i64 ((gb0_0 : Int))]
def mk_flow_program_reached_L0_L1v3 : Ex_flow_program_reached_L0_L1v3 → List (Nat × Nat)
  | .e0 _ _ _ => [(1, 2), (2, 40), (2, 18)]
noncomputable def vf_flow_program_reached_L0_L1v3 (a0 : Option Addr) (p0 : Nat) (q0 : Nat) (n0 : Nat) (k0 : Nat) (A0 : Nat → Insn) (gb0_0 : Nat) (gb0_1 : Nat → Int) (rb1 : (Int) × (Bool)) (r : Ex_flow_program_reached_L0_L1v3) : List L1 → List Value := mrgF (mk_flow_program_reached_L0_L1v3 r) (vl_flow_program_reached_L0_L1v3 a0 p0 q0 n0 k0 A0 gb0_0 gb0_1 rb1 r) 5
def Hf_flow_program_reached_L0_L1v3 (a0 : Option Addr) (p0 : Nat) (q0 : Nat) (n0 : Nat) (k0 : Nat) (A0 : Nat → Insn) (gb0_0 : Nat) (gb0_1 : Nat → Int) (rb1 : (Int) × (Bool)) : Ex_flow_program_reached_L0_L1v3 → List L1 → List Obj
  | .e0 c0_0 c0_1 c0_2, ls => [rowO (lget ls 0) (esG cB ((n0 : Int)).toNat c0_0) 4 ((n0 : Int)).toNat 1, unb, unb, rowO (lget ls 3) (esG cZ gb0_0 gb0_1) 3 gb0_0 1, rowO (lget ls 4) (esG cZ c0_1 c0_2) 3 c0_1 1, unb]
def ex_flow_program_reached_L0_L1v3 : Ex_flow_program_reached_L0_L1v3 → Ex
  | .e0 _ _ _ => (.exit 2)
end
section
variable {M : Nat → Prop} {B0 : Nat} {S : World → Prop} (hU : Up M B0 S) (a0 : Option Addr) (p0 : Nat) (q0 : Nat) (n0 : Nat) (k0 : Nat) (A0 : Nat → Insn) (hR0 : Ro S c_Insn 5 a0 p0 q0 n0 A0) (gb0_0 : Nat) (gb0_1 : Nat → Int) (rb1 : (Int) × (Bool))
include hU a0 p0 q0 n0 k0 A0 hR0 gb0_0 gb0_1 rb1
theorem go_flow_program_reached_L0_L1v3 (s : Sh_flow_program_reached_L0_L1v3) (r : Ex_flow_program_reached_L0_L1v3) (h : lpO (st_flow_program_reached_L0_L1v3 n0 gb0_0 gb0_1) s = some r) : GoesG Try.prog M B0 S (.loop bd_flow_program_reached_L0_L1v3) 6 (fr_flow_program_reached_L0_L1v3 a0 p0 q0 n0 k0 A0 gb0_0 gb0_1 rb1 s) (Hs_flow_program_reached_L0_L1v3 a0 p0 q0 n0 k0 A0 gb0_0 gb0_1 rb1 s) (ex_flow_program_reached_L0_L1v3 r) 4 (vf_flow_program_reached_L0_L1v3 a0 p0 q0 n0 k0 A0 gb0_0 gb0_1 rb1 r) (Hf_flow_program_reached_L0_L1v3 a0 p0 q0 n0 k0 A0 gb0_0 gb0_1 rb1 r) 6 :=
  goes_lpO (fun s q e => by
    cases s with
    | c0 sb0_0 sb0_1 sb0_2 sb0_3 =>
      unfold st_flow_program_reached_L0_L1v3 at e
      dsimp only at e
      replace e := cond_eq_or e
      rcases e with ⟨hq0, e⟩ | ⟨hq0, e⟩
      · replace e := cond_eq_or e
        rcases e with ⟨hq1, e⟩ | ⟨hq1, e⟩
        · replace e := cond_eq_or e
          let P1 : List (PG Try.prog M B0 S) := [.b (z_lssT hq0), .q (ixM_ok (kd := .i64) (T := 32) (x := sb0_3) (N := gb0_0) (sz := 1) rfl (fun w => by kernel_rfl) hq1), .l (accG (i := 3) (f := cZ) (A := gb0_1) (k := (sb0_3).toNat) 0 [.int .i64 ((gb0_1 (sb0_3).toNat))] cZ_len (inR_nat hq1) rfl), .o, .o, .o]
          rcases e with ⟨hq2, e⟩ | ⟨hq2, e⟩
          · replace e := cond_eq_or e
            let P2 : List (PG Try.prog M B0 S) := P1 ++ [.q (ixM_ok (kd := .i64) (T := 89) (x := (gb0_1 (sb0_3).toNat)) (N := ((n0 : Int)).toNat) (sz := 1) rfl (fun w => by kernel_rfl) hq2)]
            rcases e with ⟨hq3, e⟩ | ⟨hq3, e⟩
            · cases e; exact goes_runM hU (P2 ++ [.l (accG (i := 0) (f := cB) (A := sb0_0) (k := ((gb0_1 (sb0_3).toNat)).toNat) 0 [.bool true] cB_len (inR_nat hq2) (congrArg (fun b => [Value.bool b]) hq3)), .o, .o, .o]) [0, 1, 2, 3, 4] (fun b => rfl) (by decide) rfl rfl (fun b => by kernel_rfl)
            · replace e := cond_eq_or e
              rcases e with ⟨hq4, e⟩ | ⟨hq4, e⟩
              · cases e; exact goes_runM hU (P2 ++ [.l (accG (i := 0) (f := cB) (A := sb0_0) (k := ((gb0_1 (sb0_3).toNat)).toNat) 0 [.bool false] cB_len (inR_nat hq2) (congrArg (fun b => [Value.bool b]) hq3)), .o, .o, .o, .q (ixM_ok (kd := .i64) (T := 89) (x := (gb0_1 (sb0_3).toNat)) (N := ((n0 : Int)).toNat) (sz := 1) rfl (fun w => by kernel_rfl) hq2), .x (sqStG_ok (T := 4) (e := 4) (f := cB) (A := sb0_0) (v := true) 0 (.bool true) cB_len cB_one rfl rfl (fun w => by kernel_rfl) (inR_nat hq2)) [0], .o, .o, .o, .x (sqAppL_ok (ty := 32) rt32 #[false, false] (f := cZ) (N := sb0_1) (A := sb0_2) (c := 1) [(gb0_1 (sb0_3).toNat)] (T' := 3) .row cZ_len cZ_one hq4 rfl (by decide)) [4, 6], .o, .o, .o]) [0, 1, 2, 3, 7] (fun b => rfl) (by decide) rfl rfl (fun b => by kernel_rfl)
              · exact none_some e
          · exact none_some e
        · exact none_some e
      · cases e; exact ⟨ne_exit 2, goes_runM hU [.b (z_lssF hq0)] [0, 1, 2, 3, 4] (fun b => rfl) (by decide) rfl rfl (fun b => by kernel_rfl)⟩) s r h
noncomputable def t0_flow_program_reached_L0_L1v3_0 (a0 : Option Addr) (p0 : Nat) (q0 : Nat) (n0 : Nat) (k0 : Nat) (A0 : Nat → Insn) (gb0_0 : Nat) (gb0_1 : Nat → Int) (rb1 : (Int) × (Bool)) (sb0_0 : Nat → Bool) (sb0_1 : Nat) (sb0_2 : Nat → Int) (sb0_3 : Int) (ls : List L1) : List Value := List.append [.slice a0 n0 (n0 + k0), ((lget ls 2).u 1), ((lget ls 2).u 2), (rowV (lget ls 0) ((n0 : Int)).toNat 1), (rowV (lget ls 4) sb0_1 1), .int .i64 (0), (rowV (lget ls 3) gb0_0 1), .int .i64 (rb1.1), .bool false] (List.append (jks (lget ls 2).u 9 8) (List.append [.slice (some ⟨(lget ls 1).n, 0, none⟩) 1 1, .int .i64 (1), .bool true, .slice (some ⟨(lget ls 1).n, 0, none⟩) 1 1, .slice (some ⟨(lget ls 1).n, 0, none⟩) 1 1, .int .i64 (1), .int .i64 (0), .pointer (some ⟨(lget ls 1).n, 0, none⟩), .int .i64 (0), .slice (some ⟨(lget ls 1).n, 0, none⟩) 1 1, .slice (some ⟨(lget ls 1).n, 0, none⟩) 1 1, .int .i64 (1), .int .i64 (0), (rowV (lget ls 4) 0 1), .slice a0 n0 (n0 + k0), .int .i64 (0), (rowV (lget ls 3) gb0_0 1), .tuple #[.int .i64 (rb1.1), .bool (rb1.2)], .slice a0 n0 (n0 + k0), .int .i64 (0), .tuple #[.int .i64 (rb1.1), .bool (rb1.2)], .int .i64 (rb1.1), .bool false, .bool false] (List.append (jks (lget ls 2).u 41 4) (List.append [(rowV (lget ls 3) gb0_0 1), .int .i64 ((gb0_0 : Int)), .int .i64 (sb0_3)] (jks (lget ls 2).u 48 17)))))
def pre_flow_program_reached_L0_L1v3_0 (a0 : Option Addr) (p0 : Nat) (q0 : Nat) (n0 : Nat) (k0 : Nat) (A0 : Nat → Insn) (gb0_0 : Nat) (gb0_1 : Nat → Int) (rb1 : (Int) × (Bool)) (sb0_0 : Nat → Bool) (sb0_1 : Nat) (sb0_2 : Nat → Int) (sb0_3 : Int) (ls : List L1) : List Obj := [rowO (lget ls 0) (esG cB ((n0 : Int)).toNat sb0_0) 4 ((n0 : Int)).toNat 1, unb, unb, rowO (lget ls 3) (esG cZ gb0_0 gb0_1) 3 gb0_0 1, rowO (lget ls 4) (esG cZ sb0_1 sb0_2) 3 sb0_1 1]
theorem sp0_flow_program_reached_L0_L1v3_0_ok (sb0_0 : Nat → Bool) (sb0_1 : Nat) (sb0_2 : Nat → Int) (sb0_3 : Int) (c0_0 : Nat → Bool) (c0_1 : Nat) (c0_2 : Nat → Int) (h : lpO (st_flow_program_reached_L0_L1v3 n0 gb0_0 gb0_1) (.c0 sb0_0 sb0_1 sb0_2 sb0_3) = some (.e0 c0_0 c0_1 c0_2)) : SpcG Try.prog M B0 S ⟨fun ls => .code (.loop bd_flow_program_reached_L0_L1v3) (t0_flow_program_reached_L0_L1v3_0 a0 p0 q0 n0 k0 A0 gb0_0 gb0_1 rb1 sb0_0 sb0_1 sb0_2 sb0_3 ls), pre_flow_program_reached_L0_L1v3_0 a0 p0 q0 n0 k0 A0 gb0_0 gb0_1 rb1 sb0_0 sb0_1 sb0_2 sb0_3, 2, (.exit 2), fun ls => vf_flow_program_reached_L0_L1v3 a0 p0 q0 n0 k0 A0 gb0_0 gb0_1 rb1 (.e0 c0_0 c0_1 c0_2) (ls.take 4 ++ ls.drop 5), fun ls => (Hf_flow_program_reached_L0_L1v3 a0 p0 q0 n0 k0 A0 gb0_0 gb0_1 rb1 (.e0 c0_0 c0_1 c0_2) (ls.take 4 ++ ls.drop 5)).take 4 ++ List.replicate 1 unb, fun ls => (Hf_flow_program_reached_L0_L1v3 a0 p0 q0 n0 k0 A0 gb0_0 gb0_1 rb1 (.e0 c0_0 c0_1 c0_2) (ls.take 4 ++ ls.drop 5)).drop 4⟩ :=
  spc_of_goesM hU 0 (k0 := 5) (go_flow_program_reached_L0_L1v3 hU a0 p0 q0 n0 k0 A0 hR0 gb0_0 gb0_1 rb1 _ _ h) (t0_flow_program_reached_L0_L1v3_0 a0 p0 q0 n0 k0 A0 gb0_0 gb0_1 rb1 sb0_0 sb0_1 sb0_2 sb0_3) (pre_flow_program_reached_L0_L1v3_0 a0 p0 q0 n0 k0 A0 gb0_0 gb0_1 rb1 sb0_0 sb0_1 sb0_2 sb0_3) (fun _ => rfl) (fun ls h => by match ls, h with | [l0, l1, l2, l3, l4], _ => exact ⟨by kernel_rfl, by kernel_rfl⟩) (fun ls h => by match ls, h with | [l0, l1, l2, l3, l4], _ => rfl) (by decide) (by decide) (fun ls => rfl)
inductive Sh_flow_program_reached_L0_L1v4 where
  | c0 (sb0_0 : Nat → Bool) (sb0_1 : Nat) (sb0_2 : Nat → Int) (sb0_3 : Int)
inductive Ex_flow_program_reached_L0_L1v4 where
  | e0 (c0_0 : Nat → Bool) (c0_1 : Nat) (c0_2 : Nat → Int)
noncomputable def st_flow_program_reached_L0_L1v4 (n0 : Nat) (gb0_0 : Nat) (gb0_1 : Nat → Int) : Sh_flow_program_reached_L0_L1v4 → Option (Sh_flow_program_reached_L0_L1v4 ⊕ Ex_flow_program_reached_L0_L1v4)
  | .c0 sb0_0 sb0_1 sb0_2 sb0_3 =>
    bif decide (sb0_3 < (gb0_0 : Int)) then
      (bif inR sb0_3 gb0_0 then
        (bif inR (gb0_1 (sb0_3).toNat) ((n0 : Int)).toNat then
          (bif (sb0_0 ((gb0_1 (sb0_3).toNat)).toNat) then
            (some (.inl (.c0 sb0_0 sb0_1 sb0_2 (IntKind.i64.wrap (sb0_3 + 1)))))
          else (bif decide (sb0_1 ≤ 1000000) then
            (some (.inl (.c0 (updF sb0_0 ((gb0_1 (sb0_3).toNat)).toNat true) (sb0_1 + 1) (updF sb0_2 sb0_1 (gb0_1 (sb0_3).toNat)) (IntKind.i64.wrap (sb0_3 + 1)))))
          else (none)))
        else (none))
      else (none))
    else (some (.inr (.e0 sb0_0 sb0_1 sb0_2)))
noncomputable def bd_flow_program_reached_L0_L1v4 : Code := codeOf Try.f42 [1, 1, 1, 1, 0, 0, 0, 1, 0, 1, 1, 1, 1, 1, 0, 0]
def fl_flow_program_reached_L0_L1v4 (a0 : Option Addr) (p0 : Nat) (q0 : Nat) (n0 : Nat) (k0 : Nat) (A0 : Nat → Insn) (s0_0 : Nat → Bool) (s0_1 : Nat) (s0_2 : Nat → Int) (gb0_0 : Nat) (gb0_1 : Nat → Int) (rb1 : (Int) × (Bool)) : Sh_flow_program_reached_L0_L1v4 → List L1 → List Value
  | .c0 sb0_0 sb0_1 sb0_2 sb0_3, ls => [.slice a0 n0 (n0 + k0), (rowV (lget ls 0) ((n0 : Int)).toNat 1), (rowV (lget ls 4) sb0_1 1), (rowV (lget ls 3) gb0_0 1), .int .i64 ((gb0_0 : Int)), .int .i64 (sb0_3)]
def mf_flow_program_reached_L0_L1v4 : Sh_flow_program_reached_L0_L1v4 → List (Nat × Nat)
  | .c0 _ _ _ _ => [(1, 2), (2, 40), (3, 17)]
noncomputable def fr_flow_program_reached_L0_L1v4 (a0 : Option Addr) (p0 : Nat) (q0 : Nat) (n0 : Nat) (k0 : Nat) (A0 : Nat → Insn) (s0_0 : Nat → Bool) (s0_1 : Nat) (s0_2 : Nat → Int) (gb0_0 : Nat) (gb0_1 : Nat → Int) (rb1 : (Int) × (Bool)) (s : Sh_flow_program_reached_L0_L1v4) : List L1 → List Value := mrgF (mf_flow_program_reached_L0_L1v4 s) (fl_flow_program_reached_L0_L1v4 a0 p0 q0 n0 k0 A0 s0_0 s0_1 s0_2 gb0_0 gb0_1 rb1 s) 5
def Hs_flow_program_reached_L0_L1v4 (a0 : Option Addr) (p0 : Nat) (q0 : Nat) (n0 : Nat) (k0 : Nat) (A0 : Nat → Insn) (s0_0 : Nat → Bool) (s0_1 : Nat) (s0_2 : Nat → Int) (gb0_0 : Nat) (gb0_1 : Nat → Int) (rb1 : (Int) × (Bool)) : Sh_flow_program_reached_L0_L1v4 → List L1 → List Obj
  | .c0 sb0_0 sb0_1 sb0_2 sb0_3, ls => [rowO (lget ls 0) (esG cB ((n0 : Int)).toNat sb0_0) 4 ((n0 : Int)).toNat 1, unb, unb, rowO (lget ls 3) (esG cZ gb0_0 gb0_1) 3 gb0_0 1, rowO (lget ls 4) (esG cZ sb0_1 sb0_2) 3 sb0_1 1, unb]
def vl_flow_program_reached_L0_L1v4 (a0 : Option Addr) (p0 : Nat) (q0 : Nat) (n0 : Nat) (k0 : Nat) (A0 : Nat → Insn) (s0_0 : Nat → Bool) (s0_1 : Nat) (s0_2 : Nat → Int) (gb0_0 : Nat) (gb0_1 : Nat → Int) (rb1 : (Int) × (Bool)) : Ex_flow_program_reached_L0_L1v4 → List L1 → List Value
  | .e0 c0_0 c0_1 c0_2, ls => [.slice a0 n0 (n0 + k0), (rowV (lget ls 0) ((n0 : Int)).toNat 1), (rowV (lget ls 4) c0_1 1), (rowV (lget ls 3) gb0_0 1), .int .i64 ((gb0_0 : Int))]
def mk_flow_program_reached_L0_L1v4 : Ex_flow_program_reached_L0_L1v4 → List (Nat × Nat)
  | .e0 _ _ _ => [(1, 2), (2, 40), (2, 18)]
noncomputable def vf_flow_program_reached_L0_L1v4 (a0 : Option Addr) (p0 : Nat) (q0 : Nat) (n0 : Nat) (k0 : Nat) (A0 : Nat → Insn) (s0_0 : Nat → Bool) (s0_1 : Nat) (s0_2 : Nat → Int) (gb0_0 : Nat) (gb0_1 : Nat → Int) (rb1 : (Int) × (Bool)) (r : Ex_flow_program_reached_L0_L1v4) : List L1 → List Value := mrgF (mk_flow_program_reached_L0_L1v4 r) (vl_flow_program_reached_L0_L1v4 a0 p0 q0 n0 k0 A0 s0_0 s0_1 s0_2 gb0_0 gb0_1 rb1 r) 5
def Hf_flow_program_reached_L0_L1v4 (a0 : Option Addr) (p0 : Nat) (q0 : Nat) (n0 : Nat) (k0 : Nat) (A0 : Nat → Insn) (s0_0 : Nat → Bool) (s0_1 : Nat) (s0_2 : Nat → Int) (gb0_0 : Nat) (gb0_1 : Nat → Int) (rb1 : (Int) × (Bool)) : Ex_flow_program_reached_L0_L1v4 → List L1 → List Obj
  | .e0 c0_0 c0_1 c0_2, ls => [rowO (lget ls 0) (esG cB ((n0 : Int)).toNat c0_0) 4 ((n0 : Int)).toNat 1, unb, unb, rowO (lget ls 3) (esG cZ gb0_0 gb0_1) 3 gb0_0 1, rowO (lget ls 4) (esG cZ c0_1 c0_2) 3 c0_1 1, unb]
def ex_flow_program_reached_L0_L1v4 : Ex_flow_program_reached_L0_L1v4 → Ex
  | .e0 _ _ _ => (.exit 2)
end
section
variable {M : Nat → Prop} {B0 : Nat} {S : World → Prop} (hU : Up M B0 S) (a0 : Option Addr) (p0 : Nat) (q0 : Nat) (n0 : Nat) (k0 : Nat) (A0 : Nat → Insn) (hR0 : Ro S c_Insn 5 a0 p0 q0 n0 A0) (s0_0 : Nat → Bool) (s0_1 : Nat) (s0_2 : Nat → Int) (gb0_0 : Nat) (gb0_1 : Nat → Int) (rb1 : (Int) × (Bool))
include hU a0 p0 q0 n0 k0 A0 hR0 s0_0 s0_1 s0_2 gb0_0 gb0_1 rb1
theorem go_flow_program_reached_L0_L1v4 (s : Sh_flow_program_reached_L0_L1v4) (r : Ex_flow_program_reached_L0_L1v4) (h : lpO (st_flow_program_reached_L0_L1v4 n0 gb0_0 gb0_1) s = some r) : GoesG Try.prog M B0 S (.loop bd_flow_program_reached_L0_L1v4) 6 (fr_flow_program_reached_L0_L1v4 a0 p0 q0 n0 k0 A0 s0_0 s0_1 s0_2 gb0_0 gb0_1 rb1 s) (Hs_flow_program_reached_L0_L1v4 a0 p0 q0 n0 k0 A0 s0_0 s0_1 s0_2 gb0_0 gb0_1 rb1 s) (ex_flow_program_reached_L0_L1v4 r) 4 (vf_flow_program_reached_L0_L1v4 a0 p0 q0 n0 k0 A0 s0_0 s0_1 s0_2 gb0_0 gb0_1 rb1 r) (Hf_flow_program_reached_L0_L1v4 a0 p0 q0 n0 k0 A0 s0_0 s0_1 s0_2 gb0_0 gb0_1 rb1 r) 6 :=
  goes_lpO (fun s q e => by
    cases s with
    | c0 sb0_0 sb0_1 sb0_2 sb0_3 =>
      unfold st_flow_program_reached_L0_L1v4 at e
      dsimp only at e
      replace e := cond_eq_or e
      rcases e with ⟨hq0, e⟩ | ⟨hq0, e⟩
      · replace e := cond_eq_or e
        rcases e with ⟨hq1, e⟩ | ⟨hq1, e⟩
        · replace e := cond_eq_or e
          let P1 : List (PG Try.prog M B0 S) := [.b (z_lssT hq0), .q (ixM_ok (kd := .i64) (T := 32) (x := sb0_3) (N := gb0_0) (sz := 1) rfl (fun w => by kernel_rfl) hq1), .l (accG (i := 3) (f := cZ) (A := gb0_1) (k := (sb0_3).toNat) 0 [.int .i64 ((gb0_1 (sb0_3).toNat))] cZ_len (inR_nat hq1) rfl), .o, .o, .o]
          rcases e with ⟨hq2, e⟩ | ⟨hq2, e⟩
          · replace e := cond_eq_or e
            let P2 : List (PG Try.prog M B0 S) := P1 ++ [.q (ixM_ok (kd := .i64) (T := 89) (x := (gb0_1 (sb0_3).toNat)) (N := ((n0 : Int)).toNat) (sz := 1) rfl (fun w => by kernel_rfl) hq2)]
            rcases e with ⟨hq3, e⟩ | ⟨hq3, e⟩
            · cases e; exact goes_runM hU (P2 ++ [.l (accG (i := 0) (f := cB) (A := sb0_0) (k := ((gb0_1 (sb0_3).toNat)).toNat) 0 [.bool true] cB_len (inR_nat hq2) (congrArg (fun b => [Value.bool b]) hq3)), .o, .o, .o]) [0, 1, 2, 3, 4] (fun b => rfl) (by decide) rfl rfl (fun b => by kernel_rfl)
            · replace e := cond_eq_or e
              rcases e with ⟨hq4, e⟩ | ⟨hq4, e⟩
              · cases e; exact goes_runM hU (P2 ++ [.l (accG (i := 0) (f := cB) (A := sb0_0) (k := ((gb0_1 (sb0_3).toNat)).toNat) 0 [.bool false] cB_len (inR_nat hq2) (congrArg (fun b => [Value.bool b]) hq3)), .o, .o, .o, .q (ixM_ok (kd := .i64) (T := 89) (x := (gb0_1 (sb0_3).toNat)) (N := ((n0 : Int)).toNat) (sz := 1) rfl (fun w => by kernel_rfl) hq2), .x (sqStG_ok (T := 4) (e := 4) (f := cB) (A := sb0_0) (v := true) 0 (.bool true) cB_len cB_one rfl rfl (fun w => by kernel_rfl) (inR_nat hq2)) [0], .o, .o, .o, .x (sqAppL_ok (ty := 32) rt32 #[false, false] (f := cZ) (N := sb0_1) (A := sb0_2) (c := 1) [(gb0_1 (sb0_3).toNat)] (T' := 3) .row cZ_len cZ_one hq4 rfl (by decide)) [4, 6], .o, .o, .o]) [0, 1, 2, 3, 7] (fun b => rfl) (by decide) rfl rfl (fun b => by kernel_rfl)
              · exact none_some e
          · exact none_some e
        · exact none_some e
      · cases e; exact ⟨ne_exit 2, goes_runM hU [.b (z_lssF hq0)] [0, 1, 2, 3, 4] (fun b => rfl) (by decide) rfl rfl (fun b => by kernel_rfl)⟩) s r h
noncomputable def t0_flow_program_reached_L0_L1v4_0 (a0 : Option Addr) (p0 : Nat) (q0 : Nat) (n0 : Nat) (k0 : Nat) (A0 : Nat → Insn) (s0_0 : Nat → Bool) (s0_1 : Nat) (s0_2 : Nat → Int) (gb0_0 : Nat) (gb0_1 : Nat → Int) (rb1 : (Int) × (Bool)) (sb0_0 : Nat → Bool) (sb0_1 : Nat) (sb0_2 : Nat → Int) (sb0_3 : Int) (ls : List L1) : List Value := List.append [.slice a0 n0 (n0 + k0), ((lget ls 2).u 1), ((lget ls 2).u 2), (rowV (lget ls 0) ((n0 : Int)).toNat 1), (rowV (lget ls 4) sb0_1 1), .int .i64 ((s0_2 ((IntKind.i64.wrap ((s0_1 : Int) - 1))).toNat)), (rowV (lget ls 3) gb0_0 1), .int .i64 (rb1.1), .bool false] (List.append (jks (lget ls 2).u 9 8) (List.append [(rowV (lget ls 1) s0_1 1), .int .i64 ((s0_1 : Int)), .bool true, (rowV (lget ls 1) s0_1 1), (rowV (lget ls 1) s0_1 1), .int .i64 ((s0_1 : Int)), .int .i64 ((IntKind.i64.wrap ((s0_1 : Int) - 1))), .pointer (some ⟨(lget ls 1).n, 0 + ((IntKind.i64.wrap ((s0_1 : Int) - 1))).toNat * 1, none⟩), .int .i64 ((s0_2 ((IntKind.i64.wrap ((s0_1 : Int) - 1))).toNat)), (rowV (lget ls 1) s0_1 1), (rowV (lget ls 1) s0_1 1), .int .i64 ((s0_1 : Int)), .int .i64 ((IntKind.i64.wrap ((s0_1 : Int) - 1))), (rowV (lget ls 4) ((IntKind.i64.wrap ((s0_1 : Int) - 1))).toNat 1), .slice a0 n0 (n0 + k0), .int .i64 ((s0_2 ((IntKind.i64.wrap ((s0_1 : Int) - 1))).toNat)), (rowV (lget ls 3) gb0_0 1), .tuple #[.int .i64 (rb1.1), .bool (rb1.2)], .slice a0 n0 (n0 + k0), .int .i64 ((s0_2 ((IntKind.i64.wrap ((s0_1 : Int) - 1))).toNat)), .tuple #[.int .i64 (rb1.1), .bool (rb1.2)], .int .i64 (rb1.1), .bool false, .bool false] (List.append (jks (lget ls 2).u 41 4) (List.append [(rowV (lget ls 3) gb0_0 1), .int .i64 ((gb0_0 : Int)), .int .i64 (sb0_3)] (jks (lget ls 2).u 48 17)))))
def pre_flow_program_reached_L0_L1v4_0 (a0 : Option Addr) (p0 : Nat) (q0 : Nat) (n0 : Nat) (k0 : Nat) (A0 : Nat → Insn) (s0_0 : Nat → Bool) (s0_1 : Nat) (s0_2 : Nat → Int) (gb0_0 : Nat) (gb0_1 : Nat → Int) (rb1 : (Int) × (Bool)) (sb0_0 : Nat → Bool) (sb0_1 : Nat) (sb0_2 : Nat → Int) (sb0_3 : Int) (ls : List L1) : List Obj := [rowO (lget ls 0) (esG cB ((n0 : Int)).toNat sb0_0) 4 ((n0 : Int)).toNat 1, unb, unb, rowO (lget ls 3) (esG cZ gb0_0 gb0_1) 3 gb0_0 1, rowO (lget ls 4) (esG cZ sb0_1 sb0_2) 3 sb0_1 1]
theorem sp0_flow_program_reached_L0_L1v4_0_ok (sb0_0 : Nat → Bool) (sb0_1 : Nat) (sb0_2 : Nat → Int) (sb0_3 : Int) (c0_0 : Nat → Bool) (c0_1 : Nat) (c0_2 : Nat → Int) (h : lpO (st_flow_program_reached_L0_L1v4 n0 gb0_0 gb0_1) (.c0 sb0_0 sb0_1 sb0_2 sb0_3) = some (.e0 c0_0 c0_1 c0_2)) : SpcG Try.prog M B0 S ⟨fun ls => .code (.loop bd_flow_program_reached_L0_L1v4) (t0_flow_program_reached_L0_L1v4_0 a0 p0 q0 n0 k0 A0 s0_0 s0_1 s0_2 gb0_0 gb0_1 rb1 sb0_0 sb0_1 sb0_2 sb0_3 ls), pre_flow_program_reached_L0_L1v4_0 a0 p0 q0 n0 k0 A0 s0_0 s0_1 s0_2 gb0_0 gb0_1 rb1 sb0_0 sb0_1 sb0_2 sb0_3, 2, (.exit 2), fun ls => vf_flow_program_reached_L0_L1v4 a0 p0 q0 n0 k0 A0 s0_0 s0_1 s0_2 gb0_0 gb0_1 rb1 (.e0 c0_0 c0_1 c0_2) (ls.take 4 ++ ls.drop 5), fun ls => (Hf_flow_program_reached_L0_L1v4 a0 p0 q0 n0 k0 A0 s0_0 s0_1 s0_2 gb0_0 gb0_1 rb1 (.e0 c0_0 c0_1 c0_2) (ls.take 4 ++ ls.drop 5)).take 4 ++ List.replicate 1 unb, fun ls => (Hf_flow_program_reached_L0_L1v4 a0 p0 q0 n0 k0 A0 s0_0 s0_1 s0_2 gb0_0 gb0_1 rb1 (.e0 c0_0 c0_1 c0_2) (ls.take 4 ++ ls.drop 5)).drop 4⟩ :=
  spc_of_goesM hU 0 (k0 := 5) (go_flow_program_reached_L0_L1v4 hU a0 p0 q0 n0 k0 A0 hR0 s0_0 s0_1 s0_2 gb0_0 gb0_1 rb1 _ _ h) (t0_flow_program_reached_L0_L1v4_0 a0 p0 q0 n0 k0 A0 s0_0 s0_1 s0_2 gb0_0 gb0_1 rb1 sb0_0 sb0_1 sb0_2 sb0_3) (pre_flow_program_reached_L0_L1v4_0 a0 p0 q0 n0 k0 A0 s0_0 s0_1 s0_2 gb0_0 gb0_1 rb1 sb0_0 sb0_1 sb0_2 sb0_3) (fun _ => rfl) (fun ls h => by match ls, h with | [l0, l1, l2, l3, l4], _ => exact ⟨by kernel_rfl, by kernel_rfl⟩) (fun ls h => by match ls, h with | [l0, l1, l2, l3, l4], _ => rfl) (by decide) (by decide) (fun ls => rfl)
inductive Sh_flow_program_reached_L0 where
  | c0 
  | c1 (s0_0 : Nat → Bool) (s0_1 : Nat) (s0_2 : Nat → Int)
inductive Ex_flow_program_reached_L0 where
  | e0 (c0_0 : Nat → Bool)
noncomputable def st_flow_program_reached_L0 (n0 : Nat) (A0 : Nat → Insn) : Sh_flow_program_reached_L0 → Option (Sh_flow_program_reached_L0 ⊕ Ex_flow_program_reached_L0)
  | .c0  =>
    (m_flow_program_next n0 A0 0).bind fun gb0 => match gb0 with
    | .e0  => ((m_flow_program_named n0 A0 0).bind fun rb1 =>
      bif rb1.2 then
        (none)
      else (some (.inl (.c1 (updF (fun _ => false) 0 true) 0 (fun _ => 0)))))
    | .e1 gb0_0 gb0_1 => ((m_flow_program_named n0 A0 0).bind fun rb1 =>
      bif rb1.2 then
        (none)
      else ((lpO (st_flow_program_reached_L0_L1v3 n0 gb0_0 gb0_1) (.c0 (updF (fun _ => false) 0 true) 0 (fun _ => 0) 0)).bind fun gb2 => match gb2 with
      | .e0 gb2_0 gb2_1 gb2_2 =>
      some (.inl (.c1 gb2_0 gb2_1 gb2_2))))
  | .c1 s0_0 s0_1 s0_2 =>
    bif decide (0 < (s0_1 : Int)) then
      (bif inR (IntKind.i64.wrap ((s0_1 : Int) - 1)) s0_1 then
        (bif inR (IntKind.i64.wrap ((s0_1 : Int) - 1)) (s0_1 + 1) then
          (bif decide (s0_1 ≤ 1000000) then
            ((m_flow_program_next n0 A0 (s0_2 ((IntKind.i64.wrap ((s0_1 : Int) - 1))).toNat)).bind fun gb0 => match gb0 with
            | .e0  => ((m_flow_program_named n0 A0 (s0_2 ((IntKind.i64.wrap ((s0_1 : Int) - 1))).toNat)).bind fun rb1 =>
              bif rb1.2 then
                (none)
              else (some (.inl (.c1 s0_0 ((IntKind.i64.wrap ((s0_1 : Int) - 1))).toNat s0_2))))
            | .e1 gb0_0 gb0_1 => ((m_flow_program_named n0 A0 (s0_2 ((IntKind.i64.wrap ((s0_1 : Int) - 1))).toNat)).bind fun rb1 =>
              bif rb1.2 then
                (none)
              else ((lpO (st_flow_program_reached_L0_L1v4 n0 gb0_0 gb0_1) (.c0 s0_0 ((IntKind.i64.wrap ((s0_1 : Int) - 1))).toNat s0_2 0)).bind fun gb2 => match gb2 with
              | .e0 gb2_0 gb2_1 gb2_2 =>
              some (.inl (.c1 gb2_0 gb2_1 gb2_2)))))
          else (none))
        else (none))
      else (none))
    else (some (.inr (.e0 s0_0)))
noncomputable def bd_flow_program_reached_L0 : Code := codeOf Try.f42 [1, 1, 1, 1, 0, 0, 0]
def fl_flow_program_reached_L0 (a0 : Option Addr) (p0 : Nat) (q0 : Nat) (n0 : Nat) (k0 : Nat) (A0 : Nat → Insn) : Sh_flow_program_reached_L0 → List L1 → List Value
  | .c0 , ls => [.slice a0 n0 (n0 + k0), (rowV (lget ls 0) ((n0 : Int)).toNat 1), .slice (some ⟨(lget ls 1).n, 0, none⟩) 1 1]
  | .c1 s0_0 s0_1 s0_2, ls => [.slice a0 n0 (n0 + k0), (rowV (lget ls 0) ((n0 : Int)).toNat 1), (rowV (lget ls 1) s0_1 1)]
def mf_flow_program_reached_L0 : Sh_flow_program_reached_L0 → List (Nat × Nat)
  | .c0  => [(1, 2), (2, 60)]
  | .c1 _ _ _ => [(1, 2), (2, 60)]
noncomputable def fr_flow_program_reached_L0 (a0 : Option Addr) (p0 : Nat) (q0 : Nat) (n0 : Nat) (k0 : Nat) (A0 : Nat → Insn) (s : Sh_flow_program_reached_L0) : List L1 → List Value := mrgF (mf_flow_program_reached_L0 s) (fl_flow_program_reached_L0 a0 p0 q0 n0 k0 A0 s) 2
def Hs_flow_program_reached_L0 (a0 : Option Addr) (p0 : Nat) (q0 : Nat) (n0 : Nat) (k0 : Nat) (A0 : Nat → Insn) : Sh_flow_program_reached_L0 → List L1 → List Obj
  | .c0 , ls => [rowO (lget ls 0) (esG cB ((n0 : Int)).toNat (updF (fun _ => false) 0 true)) 4 ((n0 : Int)).toNat 1, .cells #[.int .i64 (0)] 3, unb]
  | .c1 s0_0 s0_1 s0_2, ls => [rowO (lget ls 0) (esG cB ((n0 : Int)).toNat s0_0) 4 ((n0 : Int)).toNat 1, rowO (lget ls 1) (esG cZ s0_1 s0_2) 3 s0_1 1, unb]
def vl_flow_program_reached_L0 (a0 : Option Addr) (p0 : Nat) (q0 : Nat) (n0 : Nat) (k0 : Nat) (A0 : Nat → Insn) : Ex_flow_program_reached_L0 → List L1 → List Value
  | .e0 c0_0, ls => [.slice a0 n0 (n0 + k0), (rowV (lget ls 0) ((n0 : Int)).toNat 1)]
def mk_flow_program_reached_L0 : Ex_flow_program_reached_L0 → List (Nat × Nat)
  | .e0 _ => [(1, 2), (1, 61)]
noncomputable def vf_flow_program_reached_L0 (a0 : Option Addr) (p0 : Nat) (q0 : Nat) (n0 : Nat) (k0 : Nat) (A0 : Nat → Insn) (r : Ex_flow_program_reached_L0) : List L1 → List Value := mrgF (mk_flow_program_reached_L0 r) (vl_flow_program_reached_L0 a0 p0 q0 n0 k0 A0 r) 2
def Hf_flow_program_reached_L0 (a0 : Option Addr) (p0 : Nat) (q0 : Nat) (n0 : Nat) (k0 : Nat) (A0 : Nat → Insn) : Ex_flow_program_reached_L0 → List L1 → List Obj
  | .e0 c0_0, ls => [rowO (lget ls 0) (esG cB ((n0 : Int)).toNat c0_0) 4 ((n0 : Int)).toNat 1, unb, unb]
def ex_flow_program_reached_L0 : Ex_flow_program_reached_L0 → Ex
  | .e0 _ => (.exit 0)
end
section
variable {M : Nat → Prop} {B0 : Nat} {S : World → Prop} (hU : Up M B0 S) (a0 : Option Addr) (p0 : Nat) (q0 : Nat) (n0 : Nat) (k0 : Nat) (A0 : Nat → Insn) (hR0 : Ro S c_Insn 5 a0 p0 q0 n0 A0)
include hU a0 p0 q0 n0 k0 A0 hR0
theorem go_flow_program_reached_L0 (s : Sh_flow_program_reached_L0) (r : Ex_flow_program_reached_L0) (h : lpO (st_flow_program_reached_L0 n0 A0) s = some r) : GoesG Try.prog M B0 S (.loop bd_flow_program_reached_L0) 3 (fr_flow_program_reached_L0 a0 p0 q0 n0 k0 A0 s) (Hs_flow_program_reached_L0 a0 p0 q0 n0 k0 A0 s) (ex_flow_program_reached_L0 r) 1 (vf_flow_program_reached_L0 a0 p0 q0 n0 k0 A0 r) (Hf_flow_program_reached_L0 a0 p0 q0 n0 k0 A0 r) 3 :=
  goes_lpO (fun s q e => by
    cases s with
    | c0  =>
      unfold st_flow_program_reached_L0 at e
      dsimp only at e
      replace e := bindO_eq e
      obtain ⟨gb0, e_gb0, e⟩ := e
      let P1 : List (PG Try.prog M B0 S) := [.o, .o, .o, .o, .o, .o, .o, .o, .a 1, .o, .o, .o, .o, .o, .x (sqShrP_ok rt32 (f := cZ) (N := 1) (A := (fun _ => 0)) (x := 0) [.int .i64 (0)] rfl cZ_len (fun w => by kernel_rfl) (show inR 0 (1 + 1) = true from by decide) (by decide)) [1], .o, .o, .o]
      rcases gb0 with _ | ⟨gb0_0, gb0_1⟩
      · try dsimp only at e
        replace e := bindO_eq e
        obtain ⟨rb1, e_rb1, e⟩ := e
        try dsimp only at e
        replace e := cond_eq_or e
        rcases e with ⟨hq0, e⟩ | ⟨hq0, e⟩
        · exact none_some e
        · cases e; exact goes_runM hU (P1 ++ [.xg (ok0_flow_program_next hU a0 p0 q0 n0 k0 A0 hR0 0  e_gb0) [], .o, .o, .o, .cg (ok_flow_program_named hU a0 p0 q0 n0 k0 A0 hR0 0 rb1 e_rb1), .o, .o, .b hq0, .o, .o, .o, .o, .o, .o, .o]) [0, 3] (fun b => rfl) (by decide) rfl rfl (fun b => by kernel_rfl)
      · try dsimp only at e
        replace e := bindO_eq e
        obtain ⟨rb1, e_rb1, e⟩ := e
        try dsimp only at e
        replace e := cond_eq_or e
        rcases e with ⟨hq0, e⟩ | ⟨hq0, e⟩
        · exact none_some e
        · replace e := bindO_eq e
          obtain ⟨gb2, e_gb2, e⟩ := e
          obtain ⟨gb2_0, gb2_1, gb2_2⟩ := gb2
          try dsimp only at e
          cases e; exact goes_runM hU (P1 ++ [.xg (ok1_flow_program_next hU a0 p0 q0 n0 k0 A0 hR0 0 gb0_0 gb0_1 e_gb0) [], .o, .o, .o, .cg (ok_flow_program_named hU a0 p0 q0 n0 k0 A0 hR0 0 rb1 e_rb1), .o, .o, .b hq0, .o, .o, .o, .o, .o, .o, .cp, .cx (sp0_flow_program_reached_L0_L1v3_0_ok hU a0 p0 q0 n0 k0 A0 hR0 gb0_0 gb0_1 rb1 (updF (fun _ => false) 0 true) 0 (fun _ => 0) 0 gb2_0 gb2_1 gb2_2 e_gb2) [0, 1, 2, 4, 3]]) [0, 5] (fun b => rfl) (by decide) rfl rfl (fun b => by kernel_rfl)
    | c1 s0_0 s0_1 s0_2 =>
      unfold st_flow_program_reached_L0 at e
      dsimp only at e
      replace e := cond_eq_or e
      rcases e with ⟨hq0, e⟩ | ⟨hq0, e⟩
      · replace e := cond_eq_or e
        rcases e with ⟨hq1, e⟩ | ⟨hq1, e⟩
        · replace e := cond_eq_or e
          let P2 : List (PG Try.prog M B0 S) := [.o, .o, .b (z_gtrT hq0), .o, .o, .o, .o, .q (ixM_ok (kd := .i64) (T := 32) (x := (IntKind.i64.wrap ((s0_1 : Int) - 1))) (N := s0_1) (sz := 1) rfl (fun w => by kernel_rfl) hq1), .l (accG (i := 1) (f := cZ) (A := s0_2) (k := ((IntKind.i64.wrap ((s0_1 : Int) - 1))).toNat) 0 [.int .i64 ((s0_2 ((IntKind.i64.wrap ((s0_1 : Int) - 1))).toNat))] cZ_len (inR_nat hq1) rfl), .o, .o, .o, .o, .o]
          rcases e with ⟨hq2, e⟩ | ⟨hq2, e⟩
          · replace e := cond_eq_or e
            rcases e with ⟨hq3, e⟩ | ⟨hq3, e⟩
            · replace e := bindO_eq e
              obtain ⟨gb0, e_gb0, e⟩ := e
              let P3 : List (PG Try.prog M B0 S) := P2 ++ [.x (sqShr_ok rt32 (f := cZ) (N := s0_1) (A := s0_2) (x := (IntKind.i64.wrap ((s0_1 : Int) - 1))) cZ_len (fun w => by kernel_rfl) hq2 hq3) [1], .o, .o, .o]
              rcases gb0 with _ | ⟨gb0_0, gb0_1⟩
              · try dsimp only at e
                replace e := bindO_eq e
                obtain ⟨rb1, e_rb1, e⟩ := e
                try dsimp only at e
                replace e := cond_eq_or e
                rcases e with ⟨hq4, e⟩ | ⟨hq4, e⟩
                · exact none_some e
                · cases e; exact goes_runM hU (P3 ++ [.xg (ok0_flow_program_next hU a0 p0 q0 n0 k0 A0 hR0 (s0_2 ((IntKind.i64.wrap ((s0_1 : Int) - 1))).toNat)  e_gb0) [], .o, .o, .o, .cg (ok_flow_program_named hU a0 p0 q0 n0 k0 A0 hR0 (s0_2 ((IntKind.i64.wrap ((s0_1 : Int) - 1))).toNat) rb1 e_rb1), .o, .o, .b hq4, .o, .o, .o, .o, .o, .o, .o]) [0, 3] (fun b => rfl) (by decide) rfl rfl (fun b => by kernel_rfl)
              · try dsimp only at e
                replace e := bindO_eq e
                obtain ⟨rb1, e_rb1, e⟩ := e
                try dsimp only at e
                replace e := cond_eq_or e
                rcases e with ⟨hq4, e⟩ | ⟨hq4, e⟩
                · exact none_some e
                · replace e := bindO_eq e
                  obtain ⟨gb2, e_gb2, e⟩ := e
                  obtain ⟨gb2_0, gb2_1, gb2_2⟩ := gb2
                  try dsimp only at e
                  cases e; exact goes_runM hU (P3 ++ [.xg (ok1_flow_program_next hU a0 p0 q0 n0 k0 A0 hR0 (s0_2 ((IntKind.i64.wrap ((s0_1 : Int) - 1))).toNat) gb0_0 gb0_1 e_gb0) [], .o, .o, .o, .cg (ok_flow_program_named hU a0 p0 q0 n0 k0 A0 hR0 (s0_2 ((IntKind.i64.wrap ((s0_1 : Int) - 1))).toNat) rb1 e_rb1), .o, .o, .b hq4, .o, .o, .o, .o, .o, .o, .cp, .cx (sp0_flow_program_reached_L0_L1v4_0_ok hU a0 p0 q0 n0 k0 A0 hR0 s0_0 s0_1 s0_2 gb0_0 gb0_1 rb1 s0_0 ((IntKind.i64.wrap ((s0_1 : Int) - 1))).toNat s0_2 0 gb2_0 gb2_1 gb2_2 e_gb2) [0, 1, 2, 4, 3]]) [0, 5] (fun b => rfl) (by decide) rfl rfl (fun b => by kernel_rfl)
            · exact none_some e
          · exact none_some e
        · exact none_some e
      · cases e; exact ⟨ne_exit 0, goes_runM hU [.o, .o, .b (z_gtrF hq0)] [0, 2] (fun b => rfl) (by decide) rfl rfl (fun b => by kernel_rfl)⟩) s r h
noncomputable def t0_flow_program_reached_L0_0 (a0 : Option Addr) (p0 : Nat) (q0 : Nat) (n0 : Nat) (k0 : Nat) (A0 : Nat → Insn)  (ls : List L1) : List Value := List.append [.slice a0 n0 (n0 + k0), undef, .slice none 0 0, (rowV (lget ls 0) ((n0 : Int)).toNat 1), .slice (some ⟨(lget ls 1).n, 0, none⟩) 1 1] (List.append (und 6) (List.append [.slice a0 n0 (n0 + k0), .int .i64 ((n0 : Int)), (rowV (lget ls 0) ((n0 : Int)).toNat 1), (rowV (lget ls 0) ((n0 : Int)).toNat 1), .pointer (some ⟨(lget ls 0).n, 0 + 0 * 1, none⟩), .slice (some ⟨(lget ls 1).n, 0, none⟩) 1 1] (und 48)))
def pre_flow_program_reached_L0_0 (a0 : Option Addr) (p0 : Nat) (q0 : Nat) (n0 : Nat) (k0 : Nat) (A0 : Nat → Insn)  (ls : List L1) : List Obj := [rowO (lget ls 0) (esG cB ((n0 : Int)).toNat (updF (fun _ => false) 0 true)) 4 ((n0 : Int)).toNat 1, .cells #[.int .i64 (0)] 3]
theorem sp0_flow_program_reached_L0_0_ok (c0_0 : Nat → Bool) (h : lpO (st_flow_program_reached_L0 n0 A0) (.c0) = some (.e0 c0_0)) : SpcG Try.prog M B0 S ⟨fun ls => .code (.loop bd_flow_program_reached_L0) (t0_flow_program_reached_L0_0 a0 p0 q0 n0 k0 A0  ls), pre_flow_program_reached_L0_0 a0 p0 q0 n0 k0 A0 , 2, (.exit 0), fun ls => vf_flow_program_reached_L0 a0 p0 q0 n0 k0 A0 (.e0 c0_0) (ls.take 1 ++ ls.drop 2), fun ls => (Hf_flow_program_reached_L0 a0 p0 q0 n0 k0 A0 (.e0 c0_0) (ls.take 1 ++ ls.drop 2)).take 1 ++ List.replicate 1 unb, fun ls => (Hf_flow_program_reached_L0 a0 p0 q0 n0 k0 A0 (.e0 c0_0) (ls.take 1 ++ ls.drop 2)).drop 1⟩ :=
  spc_of_goesM hU 0 (k0 := 2) (go_flow_program_reached_L0 hU a0 p0 q0 n0 k0 A0 hR0 _ _ h) (t0_flow_program_reached_L0_0 a0 p0 q0 n0 k0 A0 ) (pre_flow_program_reached_L0_0 a0 p0 q0 n0 k0 A0 ) (fun _ => rfl) (fun ls h => by match ls, h with | [l0, l1], _ => exact ⟨by kernel_rfl, by kernel_rfl⟩) (fun ls h => by match ls, h with | [l0, l1], _ => rfl) (by decide) (by decide) (fun ls => rfl)
inductive R_flow_program_reached where
  | e0 (c0_0 : Nat → Bool)
noncomputable def m_flow_program_reached (n0 : Nat) (A0 : Nat → Insn) : Option R_flow_program_reached :=
  bif inR (n0 : Int) 1000001 then
    (bif inR 0 ((n0 : Int)).toNat then
      ((lpO (st_flow_program_reached_L0 n0 A0) (.c0)).bind fun g0 => match g0 with
      | .e0 g0_0 =>
      some (.e0 g0_0))
    else (none))
  else (none)
def sq0_flow_program_reached (a0 : Option Addr) (p0 : Nat) (q0 : Nat) (n0 : Nat) (k0 : Nat) (A0 : Nat → Insn) (c0_0 : Nat → Bool) : Spc := ⟨fun ls => .call 42 #[.slice a0 n0 (n0 + k0)], fun ls => [], 1, .normal, fun ls => [(rowV (lget ls 0) ((n0 : Int)).toNat 1)], fun ls => [], fun ls => [rowO (lget ls 0) (esG cB ((n0 : Int)).toNat c0_0) 4 ((n0 : Int)).toNat 1]⟩
theorem ok0_flow_program_reached (c0_0 : Nat → Bool) (e : m_flow_program_reached n0 A0 = some (.e0 c0_0)) : SpcG Try.prog M B0 S (sq0_flow_program_reached a0 p0 q0 n0 k0 A0 c0_0) := by
  unfold m_flow_program_reached at e
  replace e := cond_eq_or e
  rcases e with ⟨hq0, e⟩ | ⟨hq0, e⟩
  · replace e := cond_eq_or e
    rcases e with ⟨hq1, e⟩ | ⟨hq1, e⟩
    · replace e := bindO_eq e
      obtain ⟨g0, e_g0, e⟩ := e
      obtain ⟨g0_0⟩ := g0
      try dsimp only at e
      injection e with e; injection e with i0; subst i0; exact fn_specG hU (P := Try.prog) Try.func42 (fun xs w => by kernel_rfl) 0 _ _ (fun _ => rfl) _ _ _ [0] [.o, .o, .o, .x (sqMkZ_ok rt89 (f := cB) (x := (n0 : Int)) (a0 := false) cB_len (by kernel_rfl) hq0 (by decide)) [], .o, .o, .q (ixM_ok (kd := .i64) (T := 89) (x := 0) (N := ((n0 : Int)).toNat) (sz := 1) rfl (fun w => by kernel_rfl) hq1), .x (sqStG_ok (T := 4) (e := 4) (f := cB) (A := (fun _ => false)) (v := true) 0 (.bool true) cB_len cB_one rfl rfl (fun w => by kernel_rfl) (inR_nat hq1)) [0], .o, .o, .cp, .cx (sp0_flow_program_reached_L0_0_ok hU a0 p0 q0 n0 k0 A0 hR0  g0_0 e_g0) [0, 1], .o, .o] [] (fun b => by kernel_rfl)
    · exact none_some e
  · exact none_some e
inductive Sh_flow_Back_L0_L1v2 where
  | c0 (sb0_0 : Int)
inductive Ex_flow_Back_L0_L1v2 where
  | e0 
noncomputable def st_flow_Back_L0_L1v2 (s0_0 : Int) (gb0_0 : Nat) (gb0_1 : Nat → Int) : Sh_flow_Back_L0_L1v2 → Option (Sh_flow_Back_L0_L1v2 ⊕ Ex_flow_Back_L0_L1v2)
  | .c0 sb0_0 =>
    bif decide (sb0_0 < (gb0_0 : Int)) then
      (bif inR sb0_0 gb0_0 then
        (bif decide ((gb0_1 (sb0_0).toNat) ≤ s0_0) then
          (none)
        else (some (.inl (.c0 (IntKind.i64.wrap (sb0_0 + 1))))))
      else (none))
    else (some (.inr (.e0 )))
noncomputable def bd_flow_Back_L0_L1v2 : Code := codeOf Try.f32 [1, 1, 1, 0, 1, 0, 0, 1, 1, 0, 0, 1, 1, 1, 0, 0]
def fl_flow_Back_L0_L1v2 (a0 : Option Addr) (p0 : Nat) (q0 : Nat) (n0 : Nat) (k0 : Nat) (A0 : Nat → Insn) (r0 : (Int) × (Int)) (g1_0 : Nat → Bool) (s0_0 : Int) (gb0_0 : Nat) (gb0_1 : Nat → Int) : Sh_flow_Back_L0_L1v2 → List L1 → List Value
  | .c0 sb0_0, ls => [.slice a0 n0 (n0 + k0), .slice none 0 0, .int .i64 (s0_0), (rowV (lget ls 0) ((n0 : Int)).toNat 1), .int .i64 ((((n0 : Int)).toNat : Int)), .int .i64 (s0_0), (rowV (lget ls 2) gb0_0 1), .int .i64 ((gb0_0 : Int)), .int .i64 (sb0_0)]
def mf_flow_Back_L0_L1v2 : Sh_flow_Back_L0_L1v2 → List (Nat × Nat)
  | .c0 _ => [(1, 5), (2, 12), (3, 8), (3, 15)]
noncomputable def fr_flow_Back_L0_L1v2 (a0 : Option Addr) (p0 : Nat) (q0 : Nat) (n0 : Nat) (k0 : Nat) (A0 : Nat → Insn) (r0 : (Int) × (Int)) (g1_0 : Nat → Bool) (s0_0 : Int) (gb0_0 : Nat) (gb0_1 : Nat → Int) (s : Sh_flow_Back_L0_L1v2) : List L1 → List Value := mrgF (mf_flow_Back_L0_L1v2 s) (fl_flow_Back_L0_L1v2 a0 p0 q0 n0 k0 A0 r0 g1_0 s0_0 gb0_0 gb0_1 s) 3
def Hs_flow_Back_L0_L1v2 (a0 : Option Addr) (p0 : Nat) (q0 : Nat) (n0 : Nat) (k0 : Nat) (A0 : Nat → Insn) (r0 : (Int) × (Int)) (g1_0 : Nat → Bool) (s0_0 : Int) (gb0_0 : Nat) (gb0_1 : Nat → Int) : Sh_flow_Back_L0_L1v2 → List L1 → List Obj
  | .c0 sb0_0, ls => [rowO (lget ls 0) (esG cB ((n0 : Int)).toNat g1_0) 4 ((n0 : Int)).toNat 1, unb, rowO (lget ls 2) (esG cZ gb0_0 gb0_1) 3 gb0_0 1, unb]
def vl_flow_Back_L0_L1v2 (a0 : Option Addr) (p0 : Nat) (q0 : Nat) (n0 : Nat) (k0 : Nat) (A0 : Nat → Insn) (r0 : (Int) × (Int)) (g1_0 : Nat → Bool) (s0_0 : Int) (gb0_0 : Nat) (gb0_1 : Nat → Int) : Ex_flow_Back_L0_L1v2 → List L1 → List Value
  | .e0 , ls => [.slice a0 n0 (n0 + k0), .slice none 0 0, .int .i64 (s0_0), (rowV (lget ls 0) ((n0 : Int)).toNat 1), .int .i64 ((((n0 : Int)).toNat : Int)), .int .i64 (s0_0), (rowV (lget ls 2) gb0_0 1), .int .i64 ((gb0_0 : Int))]
def mk_flow_Back_L0_L1v2 : Ex_flow_Back_L0_L1v2 → List (Nat × Nat)
  | .e0  => [(1, 5), (2, 12), (3, 8), (2, 16)]
noncomputable def vf_flow_Back_L0_L1v2 (a0 : Option Addr) (p0 : Nat) (q0 : Nat) (n0 : Nat) (k0 : Nat) (A0 : Nat → Insn) (r0 : (Int) × (Int)) (g1_0 : Nat → Bool) (s0_0 : Int) (gb0_0 : Nat) (gb0_1 : Nat → Int) (r : Ex_flow_Back_L0_L1v2) : List L1 → List Value := mrgF (mk_flow_Back_L0_L1v2 r) (vl_flow_Back_L0_L1v2 a0 p0 q0 n0 k0 A0 r0 g1_0 s0_0 gb0_0 gb0_1 r) 3
def Hf_flow_Back_L0_L1v2 (a0 : Option Addr) (p0 : Nat) (q0 : Nat) (n0 : Nat) (k0 : Nat) (A0 : Nat → Insn) (r0 : (Int) × (Int)) (g1_0 : Nat → Bool) (s0_0 : Int) (gb0_0 : Nat) (gb0_1 : Nat → Int) : Ex_flow_Back_L0_L1v2 → List L1 → List Obj
  | .e0 , ls => [rowO (lget ls 0) (esG cB ((n0 : Int)).toNat g1_0) 4 ((n0 : Int)).toNat 1, unb, rowO (lget ls 2) (esG cZ gb0_0 gb0_1) 3 gb0_0 1, unb]
def ex_flow_Back_L0_L1v2 : Ex_flow_Back_L0_L1v2 → Ex
  | .e0  => (.exit 2)
theorem go_flow_Back_L0_L1v2 (r0 : (Int) × (Int)) (g1_0 : Nat → Bool) (s0_0 : Int) (gb0_0 : Nat) (gb0_1 : Nat → Int) (s : Sh_flow_Back_L0_L1v2) (r : Ex_flow_Back_L0_L1v2) (h : lpO (st_flow_Back_L0_L1v2 s0_0 gb0_0 gb0_1) s = some r) : GoesG Try.prog M B0 S (.loop bd_flow_Back_L0_L1v2) 4 (fr_flow_Back_L0_L1v2 a0 p0 q0 n0 k0 A0 r0 g1_0 s0_0 gb0_0 gb0_1 s) (Hs_flow_Back_L0_L1v2 a0 p0 q0 n0 k0 A0 r0 g1_0 s0_0 gb0_0 gb0_1 s) (ex_flow_Back_L0_L1v2 r) 3 (vf_flow_Back_L0_L1v2 a0 p0 q0 n0 k0 A0 r0 g1_0 s0_0 gb0_0 gb0_1 r) (Hf_flow_Back_L0_L1v2 a0 p0 q0 n0 k0 A0 r0 g1_0 s0_0 gb0_0 gb0_1 r) 4 :=
  goes_lpO (fun s q e => by
    cases s with
    | c0 sb0_0 =>
      unfold st_flow_Back_L0_L1v2 at e
      dsimp only at e
      replace e := cond_eq_or e
      rcases e with ⟨hq0, e⟩ | ⟨hq0, e⟩
      · replace e := cond_eq_or e
        rcases e with ⟨hq1, e⟩ | ⟨hq1, e⟩
        · replace e := cond_eq_or e
          rcases e with ⟨hq2, e⟩ | ⟨hq2, e⟩
          · exact none_some e
          · cases e; exact goes_runM hU [.b (z_lssT hq0), .q (ixM_ok (kd := .i64) (T := 32) (x := sb0_0) (N := gb0_0) (sz := 1) rfl (fun w => by kernel_rfl) hq1), .l (accG (i := 2) (f := cZ) (A := gb0_1) (k := (sb0_0).toNat) 0 [.int .i64 ((gb0_1 (sb0_0).toNat))] cZ_len (inR_nat hq1) rfl), .o, .o, .o, .b (z_leqF hq2), .o, .o] [0, 1, 2] (fun b => rfl) (by decide) rfl rfl (fun b => by kernel_rfl)
        · exact none_some e
      · cases e; exact ⟨ne_exit 2, goes_runM hU [.b (z_lssF hq0)] [0, 1, 2] (fun b => rfl) (by decide) rfl rfl (fun b => by kernel_rfl)⟩) s r h
noncomputable def t0_flow_Back_L0_L1v2_0 (a0 : Option Addr) (p0 : Nat) (q0 : Nat) (n0 : Nat) (k0 : Nat) (A0 : Nat → Insn) (r0 : (Int) × (Int)) (g1_0 : Nat → Bool) (s0_0 : Int) (gb0_0 : Nat) (gb0_1 : Nat → Int) (sb0_0 : Int) (ls : List L1) : List Value := List.append [.slice a0 n0 (n0 + k0)] (List.append (jks (lget ls 1).u 1 5) (List.append [.slice none 0 0, .int .i64 (s0_0), .bool true] (List.append (jks (lget ls 1).u 9 11) (List.append [(rowV (lget ls 0) ((n0 : Int)).toNat 1), .int .i64 ((((n0 : Int)).toNat : Int)), .int .i64 (s0_0), .bool true, .int .i64 (s0_0), .pointer (some ⟨(lget ls 0).n, 0 + (s0_0).toNat * 1, none⟩), .bool true, .bool true, .bool false, .slice a0 n0 (n0 + k0), .int .i64 (s0_0), (rowV (lget ls 2) gb0_0 1), .int .i64 ((gb0_0 : Int)), .int .i64 (sb0_0)] (jks (lget ls 1).u 34 15)))))
def pre_flow_Back_L0_L1v2_0 (a0 : Option Addr) (p0 : Nat) (q0 : Nat) (n0 : Nat) (k0 : Nat) (A0 : Nat → Insn) (r0 : (Int) × (Int)) (g1_0 : Nat → Bool) (s0_0 : Int) (gb0_0 : Nat) (gb0_1 : Nat → Int) (sb0_0 : Int) (ls : List L1) : List Obj := [rowO (lget ls 0) (esG cB ((n0 : Int)).toNat g1_0) 4 ((n0 : Int)).toNat 1, unb, rowO (lget ls 2) (esG cZ gb0_0 gb0_1) 3 gb0_0 1]
theorem sp0_flow_Back_L0_L1v2_0_ok (r0 : (Int) × (Int)) (g1_0 : Nat → Bool) (s0_0 : Int) (gb0_0 : Nat) (gb0_1 : Nat → Int) (sb0_0 : Int) (h : lpO (st_flow_Back_L0_L1v2 s0_0 gb0_0 gb0_1) (.c0 sb0_0) = some (.e0 )) : SpcG Try.prog M B0 S ⟨fun ls => .code (.loop bd_flow_Back_L0_L1v2) (t0_flow_Back_L0_L1v2_0 a0 p0 q0 n0 k0 A0 r0 g1_0 s0_0 gb0_0 gb0_1 sb0_0 ls), pre_flow_Back_L0_L1v2_0 a0 p0 q0 n0 k0 A0 r0 g1_0 s0_0 gb0_0 gb0_1 sb0_0, 1, (.exit 2), fun ls => vf_flow_Back_L0_L1v2 a0 p0 q0 n0 k0 A0 r0 g1_0 s0_0 gb0_0 gb0_1 (.e0 ) (ls.take 3 ++ ls.drop 3), fun ls => (Hf_flow_Back_L0_L1v2 a0 p0 q0 n0 k0 A0 r0 g1_0 s0_0 gb0_0 gb0_1 (.e0 ) (ls.take 3 ++ ls.drop 3)).take 3 ++ List.replicate 0 unb, fun ls => (Hf_flow_Back_L0_L1v2 a0 p0 q0 n0 k0 A0 r0 g1_0 s0_0 gb0_0 gb0_1 (.e0 ) (ls.take 3 ++ ls.drop 3)).drop 3⟩ :=
  spc_of_goesM hU 0 (k0 := 3) (go_flow_Back_L0_L1v2 hU a0 p0 q0 n0 k0 A0 hR0 r0 g1_0 s0_0 gb0_0 gb0_1 _ _ h) (t0_flow_Back_L0_L1v2_0 a0 p0 q0 n0 k0 A0 r0 g1_0 s0_0 gb0_0 gb0_1 sb0_0) (pre_flow_Back_L0_L1v2_0 a0 p0 q0 n0 k0 A0 r0 g1_0 s0_0 gb0_0 gb0_1 sb0_0) (fun _ => rfl) (fun ls h => by match ls, h with | [l0, l1, l2], _ => exact ⟨by kernel_rfl, by kernel_rfl⟩) (fun ls h => by match ls, h with | [l0, l1, l2], _ => rfl) (by decide) (by decide) (fun ls => rfl)
inductive Sh_flow_Back_L0 where
  | c0 (s0_0 : Int)
inductive Ex_flow_Back_L0 where
  | e0 
noncomputable def st_flow_Back_L0 (n0 : Nat) (A0 : Nat → Insn) (g1_0 : Nat → Bool) : Sh_flow_Back_L0 → Option (Sh_flow_Back_L0 ⊕ Ex_flow_Back_L0)
  | .c0 s0_0 =>
    bif decide (s0_0 < (((n0 : Int)).toNat : Int)) then
      (bif inR s0_0 ((n0 : Int)).toNat then
        (bif (g1_0 (s0_0).toNat) then
          ((m_flow_program_next n0 A0 s0_0).bind fun gb0 => match gb0 with
          | .e0  => (some (.inl (.c0 (IntKind.i64.wrap (s0_0 + 1)))))
          | .e1 gb0_0 gb0_1 => ((lpO (st_flow_Back_L0_L1v2 s0_0 gb0_0 gb0_1) (.c0 0)).bind fun gb1 => match gb1 with
            | .e0 =>
            some (.inl (.c0 (IntKind.i64.wrap (s0_0 + 1))))))
        else (some (.inl (.c0 (IntKind.i64.wrap (s0_0 + 1))))))
      else (none))
    else (some (.inr (.e0 )))
noncomputable def bd_flow_Back_L0 : Code := codeOf Try.f32 [1, 1, 1, 0, 1, 0, 0]
def fl_flow_Back_L0 (a0 : Option Addr) (p0 : Nat) (q0 : Nat) (n0 : Nat) (k0 : Nat) (A0 : Nat → Insn) (r0 : (Int) × (Int)) (g1_0 : Nat → Bool) : Sh_flow_Back_L0 → List L1 → List Value
  | .c0 s0_0, ls => [.slice a0 n0 (n0 + k0), .slice none 0 0, (rowV (lget ls 0) ((n0 : Int)).toNat 1), .int .i64 ((((n0 : Int)).toNat : Int)), .int .i64 (s0_0)]
def mf_flow_Back_L0 : Sh_flow_Back_L0 → List (Nat × Nat)
  | .c0 _ => [(1, 5), (1, 13), (3, 26)]
noncomputable def fr_flow_Back_L0 (a0 : Option Addr) (p0 : Nat) (q0 : Nat) (n0 : Nat) (k0 : Nat) (A0 : Nat → Insn) (r0 : (Int) × (Int)) (g1_0 : Nat → Bool) (s : Sh_flow_Back_L0) : List L1 → List Value := mrgF (mf_flow_Back_L0 s) (fl_flow_Back_L0 a0 p0 q0 n0 k0 A0 r0 g1_0 s) 1
def Hs_flow_Back_L0 (a0 : Option Addr) (p0 : Nat) (q0 : Nat) (n0 : Nat) (k0 : Nat) (A0 : Nat → Insn) (r0 : (Int) × (Int)) (g1_0 : Nat → Bool) : Sh_flow_Back_L0 → List L1 → List Obj
  | .c0 s0_0, ls => [rowO (lget ls 0) (esG cB ((n0 : Int)).toNat g1_0) 4 ((n0 : Int)).toNat 1, unb]
def vl_flow_Back_L0 (a0 : Option Addr) (p0 : Nat) (q0 : Nat) (n0 : Nat) (k0 : Nat) (A0 : Nat → Insn) (r0 : (Int) × (Int)) (g1_0 : Nat → Bool) : Ex_flow_Back_L0 → List L1 → List Value
  | .e0 , ls => [.slice a0 n0 (n0 + k0), .slice none 0 0, (rowV (lget ls 0) ((n0 : Int)).toNat 1), .int .i64 ((((n0 : Int)).toNat : Int))]
def mk_flow_Back_L0 : Ex_flow_Back_L0 → List (Nat × Nat)
  | .e0  => [(1, 5), (1, 13), (2, 27)]
noncomputable def vf_flow_Back_L0 (a0 : Option Addr) (p0 : Nat) (q0 : Nat) (n0 : Nat) (k0 : Nat) (A0 : Nat → Insn) (r0 : (Int) × (Int)) (g1_0 : Nat → Bool) (r : Ex_flow_Back_L0) : List L1 → List Value := mrgF (mk_flow_Back_L0 r) (vl_flow_Back_L0 a0 p0 q0 n0 k0 A0 r0 g1_0 r) 1
def Hf_flow_Back_L0 (a0 : Option Addr) (p0 : Nat) (q0 : Nat) (n0 : Nat) (k0 : Nat) (A0 : Nat → Insn) (r0 : (Int) × (Int)) (g1_0 : Nat → Bool) : Ex_flow_Back_L0 → List L1 → List Obj
  | .e0 , ls => [rowO (lget ls 0) (esG cB ((n0 : Int)).toNat g1_0) 4 ((n0 : Int)).toNat 1, unb]
def ex_flow_Back_L0 : Ex_flow_Back_L0 → Ex
  | .e0  => (.exit 0)
theorem go_flow_Back_L0 (r0 : (Int) × (Int)) (g1_0 : Nat → Bool) (s : Sh_flow_Back_L0) (r : Ex_flow_Back_L0) (h : lpO (st_flow_Back_L0 n0 A0 g1_0) s = some r) : GoesG Try.prog M B0 S (.loop bd_flow_Back_L0) 2 (fr_flow_Back_L0 a0 p0 q0 n0 k0 A0 r0 g1_0 s) (Hs_flow_Back_L0 a0 p0 q0 n0 k0 A0 r0 g1_0 s) (ex_flow_Back_L0 r) 1 (vf_flow_Back_L0 a0 p0 q0 n0 k0 A0 r0 g1_0 r) (Hf_flow_Back_L0 a0 p0 q0 n0 k0 A0 r0 g1_0 r) 2 :=
  goes_lpO (fun s q e => by
    cases s with
    | c0 s0_0 =>
      unfold st_flow_Back_L0 at e
      dsimp only at e
      replace e := cond_eq_or e
      rcases e with ⟨hq0, e⟩ | ⟨hq0, e⟩
      · replace e := cond_eq_or e
        rcases e with ⟨hq1, e⟩ | ⟨hq1, e⟩
        · replace e := cond_eq_or e
          let P1 : List (PG Try.prog M B0 S) := [.b (z_lssT hq0), .o, .q (ixM_ok (kd := .i64) (T := 89) (x := s0_0) (N := ((n0 : Int)).toNat) (sz := 1) rfl (fun w => by kernel_rfl) hq1)]
          rcases e with ⟨hq2, e⟩ | ⟨hq2, e⟩
          · replace e := bindO_eq e
            obtain ⟨gb0, e_gb0, e⟩ := e
            let P2 : List (PG Try.prog M B0 S) := P1 ++ [.l (accG (i := 0) (f := cB) (A := g1_0) (k := (s0_0).toNat) 0 [.bool true] cB_len (inR_nat hq1) (congrArg (fun b => [Value.bool b]) hq2)), .o, .o, .o, .o, .o, .o]
            rcases gb0 with _ | ⟨gb0_0, gb0_1⟩
            · try dsimp only at e
              cases e; exact goes_runM hU (P2 ++ [.xg (ok0_flow_program_next hU a0 p0 q0 n0 k0 A0 hR0 s0_0  e_gb0) [], .o, .o, .o, .o, .o]) [0] (fun b => rfl) (by decide) rfl rfl (fun b => by kernel_rfl)
            · try dsimp only at e
              replace e := bindO_eq e
              obtain ⟨gb1, e_gb1, e⟩ := e
              cases gb1
              try dsimp only at e
              cases e; exact goes_runM hU (P2 ++ [.xg (ok1_flow_program_next hU a0 p0 q0 n0 k0 A0 hR0 s0_0 gb0_0 gb0_1 e_gb0) [], .o, .o, .cp, .cx (sp0_flow_Back_L0_L1v2_0_ok hU a0 p0 q0 n0 k0 A0 hR0 r0 g1_0 s0_0 gb0_0 gb0_1 0  e_gb1) [0, 1, 2], .o, .o]) [0] (fun b => rfl) (by decide) rfl rfl (fun b => by kernel_rfl)
          · cases e; exact goes_runM hU (P1 ++ [.l (accG (i := 0) (f := cB) (A := g1_0) (k := (s0_0).toNat) 0 [.bool false] cB_len (inR_nat hq1) (congrArg (fun b => [Value.bool b]) hq2)), .o, .o, .o, .o, .o, .o]) [0] (fun b => rfl) (by decide) rfl rfl (fun b => by kernel_rfl)
        · exact none_some e
      · cases e; exact ⟨ne_exit 0, goes_runM hU [.b (z_lssF hq0)] [0] (fun b => rfl) (by decide) rfl rfl (fun b => by kernel_rfl)⟩) s r h
noncomputable def t0_flow_Back_L0_0 (a0 : Option Addr) (p0 : Nat) (q0 : Nat) (n0 : Nat) (k0 : Nat) (A0 : Nat → Insn) (r0 : (Int) × (Int)) (g1_0 : Nat → Bool) (s0_0 : Int) (ls : List L1) : List Value := List.append [.slice a0 n0 (n0 + k0), undef, .slice none 0 0, .int .i64 (0), .int .i64 (r0.1), .int .i64 (r0.2), .slice none 0 0] (List.append (und 4) (List.append [.tuple #[.int .i64 (r0.1), .int .i64 (r0.2)], .slice a0 n0 (n0 + k0), .tuple #[.int .i64 (r0.1), .int .i64 (r0.2)], .int .i64 (r0.1), .int .i64 (r0.2), .int .i64 (r0.2), .bool false, undef, .slice a0 n0 (n0 + k0), (rowV (lget ls 0) ((n0 : Int)).toNat 1), .int .i64 ((((n0 : Int)).toNat : Int)), .int .i64 (s0_0)] (und 26)))
def pre_flow_Back_L0_0 (a0 : Option Addr) (p0 : Nat) (q0 : Nat) (n0 : Nat) (k0 : Nat) (A0 : Nat → Insn) (r0 : (Int) × (Int)) (g1_0 : Nat → Bool) (s0_0 : Int) (ls : List L1) : List Obj := [rowO (lget ls 0) (esG cB ((n0 : Int)).toNat g1_0) 4 ((n0 : Int)).toNat 1]
theorem sp0_flow_Back_L0_0_ok (r0 : (Int) × (Int)) (g1_0 : Nat → Bool) (s0_0 : Int) (h : lpO (st_flow_Back_L0 n0 A0 g1_0) (.c0 s0_0) = some (.e0 )) : SpcG Try.prog M B0 S ⟨fun ls => .code (.loop bd_flow_Back_L0) (t0_flow_Back_L0_0 a0 p0 q0 n0 k0 A0 r0 g1_0 s0_0 ls), pre_flow_Back_L0_0 a0 p0 q0 n0 k0 A0 r0 g1_0 s0_0, 1, (.exit 0), fun ls => vf_flow_Back_L0 a0 p0 q0 n0 k0 A0 r0 g1_0 (.e0 ) (ls.take 1 ++ ls.drop 1), fun ls => (Hf_flow_Back_L0 a0 p0 q0 n0 k0 A0 r0 g1_0 (.e0 ) (ls.take 1 ++ ls.drop 1)).take 1 ++ List.replicate 0 unb, fun ls => (Hf_flow_Back_L0 a0 p0 q0 n0 k0 A0 r0 g1_0 (.e0 ) (ls.take 1 ++ ls.drop 1)).drop 1⟩ :=
  spc_of_goesM hU 0 (k0 := 1) (go_flow_Back_L0 hU a0 p0 q0 n0 k0 A0 hR0 r0 g1_0 _ _ h) (t0_flow_Back_L0_0 a0 p0 q0 n0 k0 A0 r0 g1_0 s0_0) (pre_flow_Back_L0_0 a0 p0 q0 n0 k0 A0 r0 g1_0 s0_0) (fun _ => rfl) (fun ls h => by match ls, h with | [l0], _ => exact ⟨by kernel_rfl, by kernel_rfl⟩) (fun ls h => by match ls, h with | [l0], _ => rfl) (by decide) (by decide) (fun ls => rfl)
inductive R_flow_Back where
  | e0 
noncomputable def m_flow_Back (n0 : Nat) (A0 : Nat → Insn) : Option R_flow_Back :=
  (m_insn_Check n0 A0).bind fun r0 =>
  bif r0.2 == 0 then
    ((m_flow_program_reached n0 A0).bind fun g1 => match g1 with
    | .e0 g1_0 =>
    (lpO (st_flow_Back_L0 n0 A0 g1_0) (.c0 0)).bind fun g2 => match g2 with
    | .e0 =>
    some (.e0))
  else (none)
def sq0_flow_Back (a0 : Option Addr) (p0 : Nat) (q0 : Nat) (n0 : Nat) (k0 : Nat) (A0 : Nat → Insn)  : Spc := ⟨fun ls => .call 32 #[.slice a0 n0 (n0 + k0)], fun ls => [], 0, .normal, fun ls => [.tuple #[.slice none 0 0, .int .i64 (0)]], fun ls => [], fun ls => []⟩
theorem ok0_flow_Back (e : m_flow_Back n0 A0 = some (.e0 )) : SpcG Try.prog M B0 S (sq0_flow_Back a0 p0 q0 n0 k0 A0 ) := by
  unfold m_flow_Back at e
  replace e := bindO_eq e
  obtain ⟨r0, e_r0, e⟩ := e
  try dsimp only at e
  replace e := cond_eq_or e
  rcases e with ⟨hq0, e⟩ | ⟨hq0, e⟩
  · replace e := bindO_eq e
    obtain ⟨g1, e_g1, e⟩ := e
    obtain ⟨g1_0⟩ := g1
    try dsimp only at e
    replace e := bindO_eq e
    obtain ⟨g2, e_g2, e⟩ := e
    cases g2
    try dsimp only at e
    exact fn_specG hU (P := Try.prog) Try.func32 (fun xs w => by kernel_rfl) 0 _ _ (fun _ => rfl) _ _ _ [] [.o, .o, .o, .cg (ok_insn_Check hU a0 p0 q0 n0 k0 A0 hR0 r0 e_r0), .o, .o, .o, .o, .o, .o, .b (z_neqT hq0), .o, .o, .xg (ok0_flow_program_reached hU a0 p0 q0 n0 k0 A0 hR0 g1_0 e_g1) [], .o, .o, .cp, .cx (sp0_flow_Back_L0_0_ok hU a0 p0 q0 n0 k0 A0 hR0 r0 g1_0 0  e_g2) [0], .o, .o, .o] [] (fun b => by kernel_rfl)
  · exact none_some e
end
section
variable {M : Nat → Prop} {B0 : Nat} {S : World → Prop} (hU : Up M B0 S)
include hU
theorem ok_math_bits_Len64 : ConG Try.prog S 93 #[.int .u64 (0)] (.int .i64 (0)) :=
  fn_conG hU (P := Try.prog) Try.func93 (fun xs w => by kernel_rfl) [.int .u64 (0)] (.int .i64 (0))
    [.o, .o, .o, .o, .o, .o, .o, .o, .o, .o, .o, .o, .o, .o]
    [] (fun b => by kernel_rfl)
theorem ok_math_bits_Len : ConG Try.prog S 74 #[.int .u64 (0)] (.int .i64 (0)) :=
  fn_conG hU (P := Try.prog) Try.func74 (fun xs w => by kernel_rfl) [.int .u64 (0)] (.int .i64 (0))
    [.o, .o, .cg (ok_math_bits_Len64 hU  ), .o]
    [] (fun b => by kernel_rfl)
theorem ok_slices_insertionSortOrdered_int : ConG Try.prog S 83 #[.slice none 0 0, .int .i64 (0), .int .i64 (0)] (.tuple #[]) :=
  fn_conG hU (P := Try.prog) Try.func83 (fun xs w => by kernel_rfl) [.slice none 0 0, .int .i64 (0), .int .i64 (0)] (.tuple #[])
    [.o, .o, .o, .o, .o, .o]
    [] (fun b => by kernel_rfl)
theorem ok_slices_pdqsortOrdered_int : ConG Try.prog S 73 #[.slice none 0 0, .int .i64 (0), .int .i64 (0), .int .i64 (0)] (.tuple #[]) :=
  fn_conG hU (P := Try.prog) Try.func73 (fun xs w => by kernel_rfl) [.slice none 0 0, .int .i64 (0), .int .i64 (0), .int .i64 (0)] (.tuple #[])
    [.o, .o, .o, .o, .o, .o, .o, .o, .o, .o, .o, .cg (ok_slices_insertionSortOrdered_int hU  )]
    [] (fun b => by kernel_rfl)
theorem ok_slices_Sort_int_int : ConG Try.prog S 58 #[.slice none 0 0] (.tuple #[]) :=
  fn_conG hU (P := Try.prog) Try.func58 (fun xs w => by kernel_rfl) [.slice none 0 0] (.tuple #[])
    [.o, .o, .o, .o, .o, .o, .o, .cg (ok_math_bits_Len hU  ), .cg (ok_slices_pdqsortOrdered_int hU  )]
    [] (fun b => by kernel_rfl)
def sq0_slices_Compact_int_int   : Spc := ⟨fun ls => .call 59 #[.slice none 0 0], fun ls => [], 0, .normal, fun ls => [.slice none 0 0], fun ls => [], fun ls => []⟩
theorem p0_slices_Compact_int_int : SpcG Try.prog M B0 S (sq0_slices_Compact_int_int  ) :=
  fn_specG hU (P := Try.prog) Try.func59 (fun xs w => by kernel_rfl) 0 _ _ (fun _ => rfl) _ _ _ []
    [.o, .o, .o, .o, .o, .o]
    [] (fun b => by kernel_rfl)
inductive Sh_flow_program_calls_L0 where
  | c0 (s0_0 : Nat → Int) (s0_1 : Int)
inductive Ex_flow_program_calls_L0 where
  | e0 (c0_0 : Nat → Int)
noncomputable def st_flow_program_calls_L0 (g0_0 : Nat) (g0_1 : Nat → Part) : Sh_flow_program_calls_L0 → Option (Sh_flow_program_calls_L0 ⊕ Ex_flow_program_calls_L0)
  | .c0 s0_0 s0_1 =>
    bif decide (s0_1 < (g0_0 : Int)) then
      (bif inR s0_1 g0_0 then
        (bif inR ((g0_1 (s0_1).toNat)).fFrom 4096 then
          (some (.inl (.c0 (updF s0_0 (((g0_1 (s0_1).toNat)).fFrom).toNat s0_1) (IntKind.i64.wrap (s0_1 + 1)))))
        else (none))
      else (none))
    else (some (.inr (.e0 s0_0)))
noncomputable def bd_flow_program_calls_L0 : Code := codeOf Try.f45 [1, 1, 1, 0, 1, 0, 0]
def fl_flow_program_calls_L0 (a0 : Option Addr) (p0 : Nat) (q0 : Nat) (n0 : Nat) (k0 : Nat) (A0 : Nat → Insn) (g0_0 : Nat) (g0_1 : Nat → Part) : Sh_flow_program_calls_L0 → List L1 → List Value
  | .c0 s0_0 s0_1, ls => [.slice a0 n0 (n0 + k0), (rowV (lget ls 0) g0_0 2), .pointer (some ⟨(lget ls 1).n, 0, none⟩), (rowV (lget ls 0) g0_0 2), .int .i64 ((g0_0 : Int)), .int .i64 (s0_1)]
def mf_flow_program_calls_L0 : Sh_flow_program_calls_L0 → List (Nat × Nat)
  | .c0 _ _ => [(1, 2), (1, 2), (1, 15), (3, 69)]
noncomputable def fr_flow_program_calls_L0 (a0 : Option Addr) (p0 : Nat) (q0 : Nat) (n0 : Nat) (k0 : Nat) (A0 : Nat → Insn) (g0_0 : Nat) (g0_1 : Nat → Part) (s : Sh_flow_program_calls_L0) : List L1 → List Value := mrgF (mf_flow_program_calls_L0 s) (fl_flow_program_calls_L0 a0 p0 q0 n0 k0 A0 g0_0 g0_1 s) 2
def Hs_flow_program_calls_L0 (a0 : Option Addr) (p0 : Nat) (q0 : Nat) (n0 : Nat) (k0 : Nat) (A0 : Nat → Insn) (g0_0 : Nat) (g0_1 : Nat → Part) : Sh_flow_program_calls_L0 → List L1 → List Obj
  | .c0 s0_0 s0_1, ls => [rowO (lget ls 0) (esG c_Part g0_0 g0_1) 86 g0_0 2, .cells ⟨esG cZ 4096 s0_0⟩ 107, unb]
def vl_flow_program_calls_L0 (a0 : Option Addr) (p0 : Nat) (q0 : Nat) (n0 : Nat) (k0 : Nat) (A0 : Nat → Insn) (g0_0 : Nat) (g0_1 : Nat → Part) : Ex_flow_program_calls_L0 → List L1 → List Value
  | .e0 c0_0, ls => [.slice a0 n0 (n0 + k0), (rowV (lget ls 0) g0_0 2), .pointer (some ⟨(lget ls 1).n, 0, none⟩), (rowV (lget ls 0) g0_0 2), .int .i64 ((g0_0 : Int))]
def mk_flow_program_calls_L0 : Ex_flow_program_calls_L0 → List (Nat × Nat)
  | .e0 _ => [(1, 2), (1, 2), (1, 15), (2, 70)]
noncomputable def vf_flow_program_calls_L0 (a0 : Option Addr) (p0 : Nat) (q0 : Nat) (n0 : Nat) (k0 : Nat) (A0 : Nat → Insn) (g0_0 : Nat) (g0_1 : Nat → Part) (r : Ex_flow_program_calls_L0) : List L1 → List Value := mrgF (mk_flow_program_calls_L0 r) (vl_flow_program_calls_L0 a0 p0 q0 n0 k0 A0 g0_0 g0_1 r) 2
def Hf_flow_program_calls_L0 (a0 : Option Addr) (p0 : Nat) (q0 : Nat) (n0 : Nat) (k0 : Nat) (A0 : Nat → Insn) (g0_0 : Nat) (g0_1 : Nat → Part) : Ex_flow_program_calls_L0 → List L1 → List Obj
  | .e0 c0_0, ls => [rowO (lget ls 0) (esG c_Part g0_0 g0_1) 86 g0_0 2, .cells ⟨esG cZ 4096 c0_0⟩ 107, unb]
def ex_flow_program_calls_L0 : Ex_flow_program_calls_L0 → Ex
  | .e0 _ => (.exit 0)
end
section
variable {M : Nat → Prop} {B0 : Nat} {S : World → Prop} (hU : Up M B0 S) (a0 : Option Addr) (p0 : Nat) (q0 : Nat) (n0 : Nat) (k0 : Nat) (A0 : Nat → Insn) (hR0 : Ro S c_Insn 5 a0 p0 q0 n0 A0) (g0_0 : Nat) (g0_1 : Nat → Part)
include hU a0 p0 q0 n0 k0 A0 hR0 g0_0 g0_1
theorem go_flow_program_calls_L0 (s : Sh_flow_program_calls_L0) (r : Ex_flow_program_calls_L0) (h : lpO (st_flow_program_calls_L0 g0_0 g0_1) s = some r) : GoesG Try.prog M B0 S (.loop bd_flow_program_calls_L0) 3 (fr_flow_program_calls_L0 a0 p0 q0 n0 k0 A0 g0_0 g0_1 s) (Hs_flow_program_calls_L0 a0 p0 q0 n0 k0 A0 g0_0 g0_1 s) (ex_flow_program_calls_L0 r) 2 (vf_flow_program_calls_L0 a0 p0 q0 n0 k0 A0 g0_0 g0_1 r) (Hf_flow_program_calls_L0 a0 p0 q0 n0 k0 A0 g0_0 g0_1 r) 3 :=
  goes_lpO (fun s q e => by
    cases s with
    | c0 s0_0 s0_1 =>
      unfold st_flow_program_calls_L0 at e
      dsimp only at e
      replace e := cond_eq_or e
      rcases e with ⟨hq0, e⟩ | ⟨hq0, e⟩
      · replace e := cond_eq_or e
        rcases e with ⟨hq1, e⟩ | ⟨hq1, e⟩
        · replace e := cond_eq_or e
          rcases e with ⟨hq2, e⟩ | ⟨hq2, e⟩
          · cases e; exact goes_runM hU [.b (z_lssT hq0), .o, .q (ixM_ok (kd := .i64) (T := 82) (x := s0_1) (N := g0_0) (sz := 2) rfl (fun w => by kernel_rfl) hq1), .l (accG (i := 0) (f := c_Part) (A := g0_1) (k := (s0_1).toNat) 0 [.int .i64 (((g0_1 (s0_1).toNat)).fFrom), .int .i64 (((g0_1 (s0_1).toNat)).fTo)] c_Part_len (inR_nat hq1) rfl), .o, .o, .a 3, .o, .a 3, .o, .q (ixA_ok (kd := .i64) (T := 107) (x := ((g0_1 (s0_1).toNat)).fFrom) (sz := 1) (N := 4096) rfl rfl (fun w => by kernel_rfl) hq2), .x (sqStF_ok (T := 3) (e := 107) (f := cZ) (A := s0_0) (v := s0_1) 0 (.int .i64 (s0_1)) cZ_len cZ_one rfl rfl (fun w => by kernel_rfl) (inR_nat hq2)) [1], .o, .o] [0, 1] (fun b => rfl) (by decide) rfl rfl (fun b => by kernel_rfl)
          · exact none_some e
        · exact none_some e
      · cases e; exact ⟨ne_exit 0, goes_runM hU [.b (z_lssF hq0)] [0, 1] (fun b => rfl) (by decide) rfl rfl (fun b => by kernel_rfl)⟩) s r h
noncomputable def t0_flow_program_calls_L0_0 (a0 : Option Addr) (p0 : Nat) (q0 : Nat) (n0 : Nat) (k0 : Nat) (A0 : Nat → Insn) (g0_0 : Nat) (g0_1 : Nat → Part) (s0_0 : Nat → Int) (s0_1 : Int) (ls : List L1) : List Value := List.append [.slice a0 n0 (n0 + k0), undef, .slice none 0 0, (rowV (lget ls 0) g0_0 2), .int .i64 (0), .int .i64 (0), .pointer (some ⟨(lget ls 1).n, 0, none⟩)] (List.append (und 9) (List.append [.tuple #[(rowV (lget ls 0) g0_0 2), .int .i64 (0), .int .i64 (0)], .slice a0 n0 (n0 + k0), .tuple #[(rowV (lget ls 0) g0_0 2), .int .i64 (0), .int .i64 (0)], (rowV (lget ls 0) g0_0 2), .int .i64 (0), .int .i64 (0), (rowV (lget ls 0) g0_0 2), .int .i64 ((g0_0 : Int)), .int .i64 (s0_1)] (und 69)))
def pre_flow_program_calls_L0_0 (a0 : Option Addr) (p0 : Nat) (q0 : Nat) (n0 : Nat) (k0 : Nat) (A0 : Nat → Insn) (g0_0 : Nat) (g0_1 : Nat → Part) (s0_0 : Nat → Int) (s0_1 : Int) (ls : List L1) : List Obj := [rowO (lget ls 0) (esG c_Part g0_0 g0_1) 86 g0_0 2, .cells ⟨esG cZ 4096 s0_0⟩ 107]
theorem sp0_flow_program_calls_L0_0_ok (s0_0 : Nat → Int) (s0_1 : Int) (c0_0 : Nat → Int) (h : lpO (st_flow_program_calls_L0 g0_0 g0_1) (.c0 s0_0 s0_1) = some (.e0 c0_0)) : SpcG Try.prog M B0 S ⟨fun ls => .code (.loop bd_flow_program_calls_L0) (t0_flow_program_calls_L0_0 a0 p0 q0 n0 k0 A0 g0_0 g0_1 s0_0 s0_1 ls), pre_flow_program_calls_L0_0 a0 p0 q0 n0 k0 A0 g0_0 g0_1 s0_0 s0_1, 1, (.exit 0), fun ls => vf_flow_program_calls_L0 a0 p0 q0 n0 k0 A0 g0_0 g0_1 (.e0 c0_0) (ls.take 2 ++ ls.drop 2), fun ls => (Hf_flow_program_calls_L0 a0 p0 q0 n0 k0 A0 g0_0 g0_1 (.e0 c0_0) (ls.take 2 ++ ls.drop 2)).take 2 ++ List.replicate 0 unb, fun ls => (Hf_flow_program_calls_L0 a0 p0 q0 n0 k0 A0 g0_0 g0_1 (.e0 c0_0) (ls.take 2 ++ ls.drop 2)).drop 2⟩ :=
  spc_of_goesM hU 0 (k0 := 2) (go_flow_program_calls_L0 hU a0 p0 q0 n0 k0 A0 hR0 g0_0 g0_1 _ _ h) (t0_flow_program_calls_L0_0 a0 p0 q0 n0 k0 A0 g0_0 g0_1 s0_0 s0_1) (pre_flow_program_calls_L0_0 a0 p0 q0 n0 k0 A0 g0_0 g0_1 s0_0 s0_1) (fun _ => rfl) (fun ls h => by match ls, h with | [l0, l1], _ => exact ⟨by kernel_rfl, by kernel_rfl⟩) (fun ls h => by match ls, h with | [l0, l1], _ => rfl) (by decide) (by decide) (fun ls => rfl)
inductive Sh_flow_program_calls_L1_L2v2 where
  | c0 (sb0_0 : Int)
inductive Ex_flow_program_calls_L1_L2v2 where
  | e0 (c0_0 : Int) (c0_1 : Int)
noncomputable def st_flow_program_calls_L1_L2v2 (n0 : Nat) (A0 : Nat → Insn) (g0_1 : Nat → Part) (s0_1 : Int) : Sh_flow_program_calls_L1_L2v2 → Option (Sh_flow_program_calls_L1_L2v2 ⊕ Ex_flow_program_calls_L1_L2v2)
  | .c0 sb0_0 =>
    bif decide (sb0_0 < ((g0_1 (s0_1).toNat)).fTo) then
      ((m_flow_program_named n0 A0 sb0_0).bind fun rc0 =>
      bif rc0.2 then
        (none)
      else (some (.inl (.c0 (IntKind.i64.wrap (sb0_0 + 1))))))
    else (some (.inr (.e0 ((g0_1 (s0_1).toNat)).fFrom ((g0_1 (s0_1).toNat)).fTo)))
noncomputable def bd_flow_program_calls_L1_L2v2 : Code := codeOf Try.f45 [1, 1, 1, 1, 1, 1, 0, 1, 0, 0, 1, 1, 0, 0, 1, 0, 1, 0, 0]
def fl_flow_program_calls_L1_L2v2 (a0 : Option Addr) (p0 : Nat) (q0 : Nat) (n0 : Nat) (k0 : Nat) (A0 : Nat → Insn) (g0_0 : Nat) (g0_1 : Nat → Part) (g1_0 : Nat → Int) (g2_0 : Nat → Bool) (s0_0 : Nat → (Nat × (Nat → Int))) (s0_1 : Int) : Sh_flow_program_calls_L1_L2v2 → List L1 → List Value
  | .c0 sb0_0, ls => [.slice a0 n0 (n0 + k0), .pointer (some ⟨(lget ls 1).n, 0, none⟩), (rowV (lget ls 3) g0_0 1), (rowV (lget ls 5) ((n0 : Int)).toNat 1), .int .i64 (s0_1), .pointer (some ⟨(lget ls 7).n, 0, none⟩), .int .i64 (sb0_0), (rowV (lget ls 0) g0_0 2), .int .i64 ((g0_0 : Int)), .int .i64 (s0_1)]
def mf_flow_program_calls_L1_L2v2 : Sh_flow_program_calls_L1_L2v2 → List (Nat × Nat)
  | .c0 _ => [(1, 5), (1, 2), (5, 25), (3, 52)]
noncomputable def fr_flow_program_calls_L1_L2v2 (a0 : Option Addr) (p0 : Nat) (q0 : Nat) (n0 : Nat) (k0 : Nat) (A0 : Nat → Insn) (g0_0 : Nat) (g0_1 : Nat → Part) (g1_0 : Nat → Int) (g2_0 : Nat → Bool) (s0_0 : Nat → (Nat × (Nat → Int))) (s0_1 : Int) (s : Sh_flow_program_calls_L1_L2v2) : List L1 → List Value := mrgF (mf_flow_program_calls_L1_L2v2 s) (fl_flow_program_calls_L1_L2v2 a0 p0 q0 n0 k0 A0 g0_0 g0_1 g1_0 g2_0 s0_0 s0_1 s) 8
def Hs_flow_program_calls_L1_L2v2 (a0 : Option Addr) (p0 : Nat) (q0 : Nat) (n0 : Nat) (k0 : Nat) (A0 : Nat → Insn) (g0_0 : Nat) (g0_1 : Nat → Part) (g1_0 : Nat → Int) (g2_0 : Nat → Bool) (s0_0 : Nat → (Nat × (Nat → Int))) (s0_1 : Int) : Sh_flow_program_calls_L1_L2v2 → List L1 → List Obj
  | .c0 sb0_0, ls => [rowO (lget ls 0) (esG c_Part g0_0 g0_1) 86 g0_0 2, .cells ⟨esG cZ 4096 g1_0⟩ 107, unb, rfR (lget ls 3) (lget ls 4) 32 1 g0_0 s0_0, rfO 3 cZ 1 g0_0 s0_0, rowO (lget ls 5) (esG cB ((n0 : Int)).toNat g2_0) 4 ((n0 : Int)).toNat 1, unb, .cells #[.int .i64 (((g0_1 (s0_1).toNat)).fFrom), .int .i64 (((g0_1 (s0_1).toNat)).fTo)] 86, unb]
def vl_flow_program_calls_L1_L2v2 (a0 : Option Addr) (p0 : Nat) (q0 : Nat) (n0 : Nat) (k0 : Nat) (A0 : Nat → Insn) (g0_0 : Nat) (g0_1 : Nat → Part) (g1_0 : Nat → Int) (g2_0 : Nat → Bool) (s0_0 : Nat → (Nat × (Nat → Int))) (s0_1 : Int) : Ex_flow_program_calls_L1_L2v2 → List L1 → List Value
  | .e0 c0_0 c0_1, ls => [.slice a0 n0 (n0 + k0), .pointer (some ⟨(lget ls 1).n, 0, none⟩), (rowV (lget ls 3) g0_0 1), (rowV (lget ls 5) ((n0 : Int)).toNat 1), .int .i64 (s0_1), .pointer (some ⟨(lget ls 7).n, 0, none⟩), (rowV (lget ls 0) g0_0 2), .int .i64 ((g0_0 : Int)), .int .i64 (s0_1)]
def mk_flow_program_calls_L1_L2v2 : Ex_flow_program_calls_L1_L2v2 → List (Nat × Nat)
  | .e0 _ _ => [(1, 5), (1, 2), (4, 26), (3, 52)]
noncomputable def vf_flow_program_calls_L1_L2v2 (a0 : Option Addr) (p0 : Nat) (q0 : Nat) (n0 : Nat) (k0 : Nat) (A0 : Nat → Insn) (g0_0 : Nat) (g0_1 : Nat → Part) (g1_0 : Nat → Int) (g2_0 : Nat → Bool) (s0_0 : Nat → (Nat × (Nat → Int))) (s0_1 : Int) (r : Ex_flow_program_calls_L1_L2v2) : List L1 → List Value := mrgF (mk_flow_program_calls_L1_L2v2 r) (vl_flow_program_calls_L1_L2v2 a0 p0 q0 n0 k0 A0 g0_0 g0_1 g1_0 g2_0 s0_0 s0_1 r) 8
def Hf_flow_program_calls_L1_L2v2 (a0 : Option Addr) (p0 : Nat) (q0 : Nat) (n0 : Nat) (k0 : Nat) (A0 : Nat → Insn) (g0_0 : Nat) (g0_1 : Nat → Part) (g1_0 : Nat → Int) (g2_0 : Nat → Bool) (s0_0 : Nat → (Nat × (Nat → Int))) (s0_1 : Int) : Ex_flow_program_calls_L1_L2v2 → List L1 → List Obj
  | .e0 c0_0 c0_1, ls => [rowO (lget ls 0) (esG c_Part g0_0 g0_1) 86 g0_0 2, .cells ⟨esG cZ 4096 g1_0⟩ 107, unb, rfR (lget ls 3) (lget ls 4) 32 1 g0_0 s0_0, rfO 3 cZ 1 g0_0 s0_0, rowO (lget ls 5) (esG cB ((n0 : Int)).toNat g2_0) 4 ((n0 : Int)).toNat 1, unb, .cells #[.int .i64 (c0_0), .int .i64 (c0_1)] 86, unb]
def ex_flow_program_calls_L1_L2v2 : Ex_flow_program_calls_L1_L2v2 → Ex
  | .e0 _ _ => (.exit 4)
theorem go_flow_program_calls_L1_L2v2 (g1_0 : Nat → Int) (g2_0 : Nat → Bool) (s0_0 : Nat → (Nat × (Nat → Int))) (s0_1 : Int) (s : Sh_flow_program_calls_L1_L2v2) (r : Ex_flow_program_calls_L1_L2v2) (h : lpO (st_flow_program_calls_L1_L2v2 n0 A0 g0_1 s0_1) s = some r) : GoesG Try.prog M B0 S (.loop bd_flow_program_calls_L1_L2v2) 9 (fr_flow_program_calls_L1_L2v2 a0 p0 q0 n0 k0 A0 g0_0 g0_1 g1_0 g2_0 s0_0 s0_1 s) (Hs_flow_program_calls_L1_L2v2 a0 p0 q0 n0 k0 A0 g0_0 g0_1 g1_0 g2_0 s0_0 s0_1 s) (ex_flow_program_calls_L1_L2v2 r) 8 (vf_flow_program_calls_L1_L2v2 a0 p0 q0 n0 k0 A0 g0_0 g0_1 g1_0 g2_0 s0_0 s0_1 r) (Hf_flow_program_calls_L1_L2v2 a0 p0 q0 n0 k0 A0 g0_0 g0_1 g1_0 g2_0 s0_0 s0_1 r) 9 :=
  goes_lpO (fun s q e => by
    cases s with
    | c0 sb0_0 =>
      unfold st_flow_program_calls_L1_L2v2 at e
      dsimp only at e
      replace e := cond_eq_or e
      rcases e with ⟨hq0, e⟩ | ⟨hq0, e⟩
      · replace e := bindO_eq e
        obtain ⟨rc0, e_rc0, e⟩ := e
        try dsimp only at e
        replace e := cond_eq_or e
        rcases e with ⟨hq1, e⟩ | ⟨hq1, e⟩
        · exact none_some e
        · cases e; exact goes_runM hU [.o, .o, .a 7, .b (z_lssT hq0), .o, .o, .cg (ok_flow_program_named hU a0 p0 q0 n0 k0 A0 hR0 sb0_0 rc0 e_rc0), .o, .o, .b hq1, .o, .o, .o, .o, .o, .o, .o, .o] [0, 1, 2, 3, 4, 5, 6, 7] (fun b => rfl) (by decide) rfl rfl (fun b => by kernel_rfl)
      · cases e; exact ⟨ne_exit 4, goes_runM hU [.o, .o, .a 7, .b (z_lssF hq0)] [0, 1, 2, 3, 4, 5, 6, 7] (fun b => rfl) (by decide) rfl rfl (fun b => by kernel_rfl)⟩) s r h
noncomputable def t0_flow_program_calls_L1_L2v2_0 (a0 : Option Addr) (p0 : Nat) (q0 : Nat) (n0 : Nat) (k0 : Nat) (A0 : Nat → Insn) (g0_0 : Nat) (g0_1 : Nat → Part) (g1_0 : Nat → Int) (g2_0 : Nat → Bool) (s0_0 : Nat → (Nat × (Nat → Int))) (s0_1 : Int) (sb0_0 : Int) (ls : List L1) : List Value := List.append [.slice a0 n0 (n0 + k0)] (List.append (jks (lget ls 6).u 1 5) (List.append [.pointer (some ⟨(lget ls 1).n, 0, none⟩), ((lget ls 6).u 7), ((lget ls 6).u 8), (rowV (lget ls 3) g0_0 1), (rowV (lget ls 5) ((n0 : Int)).toNat 1), .int .i64 (s0_1), .pointer (some ⟨(lget ls 7).n, 0, none⟩), .int .i64 (sb0_0)] (List.append (jks (lget ls 6).u 14 25) (List.append [(rowV (lget ls 0) g0_0 2), .int .i64 ((g0_0 : Int)), .int .i64 (s0_1), .bool true, .int .i64 (s0_1), .pointer (some ⟨(lget ls 0).n, 0 + (s0_1).toNat * 2, none⟩), .agg #[.int .i64 (((g0_1 (s0_1).toNat)).fFrom), .int .i64 (((g0_1 (s0_1).toNat)).fTo)], .pointer (some ⟨(lget ls 7).n, 0, none⟩), .int .i64 (((g0_1 (s0_1).toNat)).fFrom)] (jks (lget ls 6).u 48 46)))))
def pre_flow_program_calls_L1_L2v2_0 (a0 : Option Addr) (p0 : Nat) (q0 : Nat) (n0 : Nat) (k0 : Nat) (A0 : Nat → Insn) (g0_0 : Nat) (g0_1 : Nat → Part) (g1_0 : Nat → Int) (g2_0 : Nat → Bool) (s0_0 : Nat → (Nat × (Nat → Int))) (s0_1 : Int) (sb0_0 : Int) (ls : List L1) : List Obj := [rowO (lget ls 0) (esG c_Part g0_0 g0_1) 86 g0_0 2, .cells ⟨esG cZ 4096 g1_0⟩ 107, unb, rfR (lget ls 3) (lget ls 4) 32 1 g0_0 s0_0, rfO 3 cZ 1 g0_0 s0_0, rowO (lget ls 5) (esG cB ((n0 : Int)).toNat g2_0) 4 ((n0 : Int)).toNat 1, unb, .cells #[.int .i64 (((g0_1 (s0_1).toNat)).fFrom), .int .i64 (((g0_1 (s0_1).toNat)).fTo)] 86]
theorem sp0_flow_program_calls_L1_L2v2_0_ok (g1_0 : Nat → Int) (g2_0 : Nat → Bool) (s0_0 : Nat → (Nat × (Nat → Int))) (s0_1 : Int) (sb0_0 : Int) (c0_0 : Int) (c0_1 : Int) (h : lpO (st_flow_program_calls_L1_L2v2 n0 A0 g0_1 s0_1) (.c0 sb0_0) = some (.e0 c0_0 c0_1)) : SpcG Try.prog M B0 S ⟨fun ls => .code (.loop bd_flow_program_calls_L1_L2v2) (t0_flow_program_calls_L1_L2v2_0 a0 p0 q0 n0 k0 A0 g0_0 g0_1 g1_0 g2_0 s0_0 s0_1 sb0_0 ls), pre_flow_program_calls_L1_L2v2_0 a0 p0 q0 n0 k0 A0 g0_0 g0_1 g1_0 g2_0 s0_0 s0_1 sb0_0, 1, (.exit 4), fun ls => vf_flow_program_calls_L1_L2v2 a0 p0 q0 n0 k0 A0 g0_0 g0_1 g1_0 g2_0 s0_0 s0_1 (.e0 c0_0 c0_1) (ls.take 8 ++ ls.drop 8), fun ls => (Hf_flow_program_calls_L1_L2v2 a0 p0 q0 n0 k0 A0 g0_0 g0_1 g1_0 g2_0 s0_0 s0_1 (.e0 c0_0 c0_1) (ls.take 8 ++ ls.drop 8)).take 8 ++ List.replicate 0 unb, fun ls => (Hf_flow_program_calls_L1_L2v2 a0 p0 q0 n0 k0 A0 g0_0 g0_1 g1_0 g2_0 s0_0 s0_1 (.e0 c0_0 c0_1) (ls.take 8 ++ ls.drop 8)).drop 8⟩ :=
  spc_of_goesM hU 0 (k0 := 8) (go_flow_program_calls_L1_L2v2 hU a0 p0 q0 n0 k0 A0 hR0 g0_0 g0_1 g1_0 g2_0 s0_0 s0_1 _ _ h) (t0_flow_program_calls_L1_L2v2_0 a0 p0 q0 n0 k0 A0 g0_0 g0_1 g1_0 g2_0 s0_0 s0_1 sb0_0) (pre_flow_program_calls_L1_L2v2_0 a0 p0 q0 n0 k0 A0 g0_0 g0_1 g1_0 g2_0 s0_0 s0_1 sb0_0) (fun _ => rfl) (fun ls h => by match ls, h with | [l0, l1, l2, l3, l4, l5, l6, l7], _ => exact ⟨by kernel_rfl, by kernel_rfl⟩) (fun ls h => by match ls, h with | [l0, l1, l2, l3, l4, l5, l6, l7], _ => rfl) (by decide) (by decide) (fun ls => rfl)
inductive Sh_flow_program_calls_L1 where
  | c0 (s0_0 : Nat → (Nat × (Nat → Int))) (s0_1 : Int)
inductive Ex_flow_program_calls_L1 where
  | e0 (c0_0 : Nat → (Nat × (Nat → Int)))
noncomputable def st_flow_program_calls_L1 (n0 : Nat) (A0 : Nat → Insn) (g0_0 : Nat) (g0_1 : Nat → Part) : Sh_flow_program_calls_L1 → Option (Sh_flow_program_calls_L1 ⊕ Ex_flow_program_calls_L1)
  | .c0 s0_0 s0_1 =>
    bif decide (s0_1 < (g0_0 : Int)) then
      (bif inR s0_1 g0_0 then
        ((lpO (st_flow_program_calls_L1_L2v2 n0 A0 g0_1 s0_1) (.c0 ((g0_1 (s0_1).toNat)).fFrom)).bind fun gb0 => match gb0 with
        | .e0 gb0_0 gb0_1 =>
        bif decide (0 < (s0_0 (s0_1).toNat).1) then
          (none)
        else (some (.inl (.c0 (updF s0_0 (s0_1).toNat (0, fun _ => 0)) (IntKind.i64.wrap (s0_1 + 1))))))
      else (none))
    else (some (.inr (.e0 s0_0)))
noncomputable def bd_flow_program_calls_L1 : Code := codeOf Try.f45 [1, 1, 1, 1, 1, 1, 0, 1, 0, 0]
def fl_flow_program_calls_L1 (a0 : Option Addr) (p0 : Nat) (q0 : Nat) (n0 : Nat) (k0 : Nat) (A0 : Nat → Insn) (g0_0 : Nat) (g0_1 : Nat → Part) (g1_0 : Nat → Int) (g2_0 : Nat → Bool) : Sh_flow_program_calls_L1 → List L1 → List Value
  | .c0 s0_0 s0_1, ls => [.slice a0 n0 (n0 + k0), .pointer (some ⟨(lget ls 1).n, 0, none⟩), (rowV (lget ls 3) g0_0 1), (rowV (lget ls 5) ((n0 : Int)).toNat 1), (rowV (lget ls 0) g0_0 2), .int .i64 ((g0_0 : Int)), .int .i64 (s0_1)]
def mf_flow_program_calls_L1 : Sh_flow_program_calls_L1 → List (Nat × Nat)
  | .c0 _ _ => [(1, 5), (1, 2), (2, 28), (3, 52)]
noncomputable def fr_flow_program_calls_L1 (a0 : Option Addr) (p0 : Nat) (q0 : Nat) (n0 : Nat) (k0 : Nat) (A0 : Nat → Insn) (g0_0 : Nat) (g0_1 : Nat → Part) (g1_0 : Nat → Int) (g2_0 : Nat → Bool) (s : Sh_flow_program_calls_L1) : List L1 → List Value := mrgF (mf_flow_program_calls_L1 s) (fl_flow_program_calls_L1 a0 p0 q0 n0 k0 A0 g0_0 g0_1 g1_0 g2_0 s) 6
def Hs_flow_program_calls_L1 (a0 : Option Addr) (p0 : Nat) (q0 : Nat) (n0 : Nat) (k0 : Nat) (A0 : Nat → Insn) (g0_0 : Nat) (g0_1 : Nat → Part) (g1_0 : Nat → Int) (g2_0 : Nat → Bool) : Sh_flow_program_calls_L1 → List L1 → List Obj
  | .c0 s0_0 s0_1, ls => [rowO (lget ls 0) (esG c_Part g0_0 g0_1) 86 g0_0 2, .cells ⟨esG cZ 4096 g1_0⟩ 107, unb, rfR (lget ls 3) (lget ls 4) 32 1 g0_0 s0_0, rfO 3 cZ 1 g0_0 s0_0, rowO (lget ls 5) (esG cB ((n0 : Int)).toNat g2_0) 4 ((n0 : Int)).toNat 1, unb]
def vl_flow_program_calls_L1 (a0 : Option Addr) (p0 : Nat) (q0 : Nat) (n0 : Nat) (k0 : Nat) (A0 : Nat → Insn) (g0_0 : Nat) (g0_1 : Nat → Part) (g1_0 : Nat → Int) (g2_0 : Nat → Bool) : Ex_flow_program_calls_L1 → List L1 → List Value
  | .e0 c0_0, ls => [.slice a0 n0 (n0 + k0), .pointer (some ⟨(lget ls 1).n, 0, none⟩), (rowV (lget ls 3) g0_0 1), (rowV (lget ls 5) ((n0 : Int)).toNat 1), (rowV (lget ls 0) g0_0 2), .int .i64 ((g0_0 : Int))]
def mk_flow_program_calls_L1 : Ex_flow_program_calls_L1 → List (Nat × Nat)
  | .e0 _ => [(1, 5), (1, 2), (2, 28), (2, 53)]
noncomputable def vf_flow_program_calls_L1 (a0 : Option Addr) (p0 : Nat) (q0 : Nat) (n0 : Nat) (k0 : Nat) (A0 : Nat → Insn) (g0_0 : Nat) (g0_1 : Nat → Part) (g1_0 : Nat → Int) (g2_0 : Nat → Bool) (r : Ex_flow_program_calls_L1) : List L1 → List Value := mrgF (mk_flow_program_calls_L1 r) (vl_flow_program_calls_L1 a0 p0 q0 n0 k0 A0 g0_0 g0_1 g1_0 g2_0 r) 6
def Hf_flow_program_calls_L1 (a0 : Option Addr) (p0 : Nat) (q0 : Nat) (n0 : Nat) (k0 : Nat) (A0 : Nat → Insn) (g0_0 : Nat) (g0_1 : Nat → Part) (g1_0 : Nat → Int) (g2_0 : Nat → Bool) : Ex_flow_program_calls_L1 → List L1 → List Obj
  | .e0 c0_0, ls => [rowO (lget ls 0) (esG c_Part g0_0 g0_1) 86 g0_0 2, .cells ⟨esG cZ 4096 g1_0⟩ 107, unb, rfR (lget ls 3) (lget ls 4) 32 1 g0_0 c0_0, rfO 3 cZ 1 g0_0 c0_0, rowO (lget ls 5) (esG cB ((n0 : Int)).toNat g2_0) 4 ((n0 : Int)).toNat 1, unb]
def ex_flow_program_calls_L1 : Ex_flow_program_calls_L1 → Ex
  | .e0 _ => (.exit 2)
theorem go_flow_program_calls_L1 (g1_0 : Nat → Int) (g2_0 : Nat → Bool) (s : Sh_flow_program_calls_L1) (r : Ex_flow_program_calls_L1) (h : lpO (st_flow_program_calls_L1 n0 A0 g0_0 g0_1) s = some r) : GoesG Try.prog M B0 S (.loop bd_flow_program_calls_L1) 7 (fr_flow_program_calls_L1 a0 p0 q0 n0 k0 A0 g0_0 g0_1 g1_0 g2_0 s) (Hs_flow_program_calls_L1 a0 p0 q0 n0 k0 A0 g0_0 g0_1 g1_0 g2_0 s) (ex_flow_program_calls_L1 r) 6 (vf_flow_program_calls_L1 a0 p0 q0 n0 k0 A0 g0_0 g0_1 g1_0 g2_0 r) (Hf_flow_program_calls_L1 a0 p0 q0 n0 k0 A0 g0_0 g0_1 g1_0 g2_0 r) 7 :=
  goes_lpO (fun s q e => by
    cases s with
    | c0 s0_0 s0_1 =>
      unfold st_flow_program_calls_L1 at e
      dsimp only at e
      replace e := cond_eq_or e
      rcases e with ⟨hq0, e⟩ | ⟨hq0, e⟩
      · replace e := cond_eq_or e
        rcases e with ⟨hq1, e⟩ | ⟨hq1, e⟩
        · replace e := bindO_eq e
          obtain ⟨gb0, e_gb0, e⟩ := e
          obtain ⟨gb0_0, gb0_1⟩ := gb0
          try dsimp only at e
          replace e := cond_eq_or e
          rcases e with ⟨hq2, e⟩ | ⟨hq2, e⟩
          · exact none_some e
          · cases e; exact goes_runM hU [.b (z_lssT hq0), .o, .q (ixM_ok (kd := .i64) (T := 82) (x := s0_1) (N := g0_0) (sz := 2) rfl (fun w => by kernel_rfl) hq1), .l (accG (i := 0) (f := c_Part) (A := g0_1) (k := (s0_1).toNat) 0 [.int .i64 (((g0_1 (s0_1).toNat)).fFrom), .int .i64 (((g0_1 (s0_1).toNat)).fTo)] c_Part_len (inR_nat hq1) rfl), .o, .o, .a 7, .o, .a 7, .o, .cp, .cx (sp0_flow_program_calls_L1_L2v2_0_ok hU a0 p0 q0 n0 k0 A0 hR0 g0_0 g0_1 g1_0 g2_0 s0_0 s0_1 ((g0_1 (s0_1).toNat)).fFrom gb0_0 gb0_1 e_gb0) [0, 1, 2, 3, 4, 5, 6, 7], .o, .o, .q (ixM_ok (kd := .i64) (T := 95) (x := s0_1) (N := g0_0) (sz := 1) rfl (fun w => by kernel_rfl) hq1), .xg (ldRF0_ok (T := 32) (e := 32) (T2 := 3) (f := cZ) (sz := 1) (N := g0_0) (k := (s0_1).toNat) (D := s0_0) (fun w => by kernel_rfl) (inR_nat hq1) hq2) [3, 4], .cg (ok_slices_Sort_int_int hU  ), .o, .o, .o, .o, .q (ixM_ok (kd := .i64) (T := 95) (x := s0_1) (N := g0_0) (sz := 1) rfl (fun w => by kernel_rfl) hq1), .xg (ldRF0_ok (T := 32) (e := 32) (T2 := 3) (f := cZ) (sz := 1) (N := g0_0) (k := (s0_1).toNat) (D := s0_0) (fun w => by kernel_rfl) (inR_nat hq1) hq2) [3, 4], .xg (p0_slices_Compact_int_int hU  ) [], .q (ixM_ok (kd := .i64) (T := 95) (x := s0_1) (N := g0_0) (sz := 1) rfl (fun w => by kernel_rfl) hq1), .xg (sqStRFn_ok (T := 32) (e := 32) (T2 := 3) (f := cZ) (sz := 1) (N := g0_0) (k := (s0_1).toNat) (D := s0_0) (g := fun _ => 0) (fun w => by kernel_rfl) (inR_nat hq1)) [3, 4], .o, .o] [0, 1, 2, 3, 4, 5] (fun b => rfl) (by decide) rfl rfl (fun b => by kernel_rfl)
        · exact none_some e
      · cases e; exact ⟨ne_exit 2, goes_runM hU [.b (z_lssF hq0)] [0, 1, 2, 3, 4, 5] (fun b => rfl) (by decide) rfl rfl (fun b => by kernel_rfl)⟩) s r h
noncomputable def t0_flow_program_calls_L1_0 (a0 : Option Addr) (p0 : Nat) (q0 : Nat) (n0 : Nat) (k0 : Nat) (A0 : Nat → Insn) (g0_0 : Nat) (g0_1 : Nat → Part) (g1_0 : Nat → Int) (g2_0 : Nat → Bool) (s0_0 : Nat → (Nat × (Nat → Int))) (s0_1 : Int) (ls : List L1) : List Value := List.append [.slice a0 n0 (n0 + k0), ((lget ls 2).u 1), ((lget ls 2).u 2), (rowV (lget ls 0) g0_0 2), ((lget ls 2).u 4), ((lget ls 2).u 5), .pointer (some ⟨(lget ls 1).n, 0, none⟩), ((lget ls 2).u 7), ((lget ls 2).u 8), (rowV (lget ls 3) g0_0 1), (rowV (lget ls 5) ((n0 : Int)).toNat 1)] (List.append (jks (lget ls 2).u 11 11) (List.append [(rowV (lget ls 0) g0_0 2), .int .i64 ((g0_0 : Int))] (List.append (jks (lget ls 2).u 24 10) (List.append [(rowV (lget ls 0) g0_0 2), .int .i64 ((g0_0 : Int)), (rowV (lget ls 3) g0_0 1), .slice a0 n0 (n0 + k0), (rowV (lget ls 5) ((n0 : Int)).toNat 1), (rowV (lget ls 0) g0_0 2), .int .i64 ((g0_0 : Int)), .int .i64 (s0_1)] (jks (lget ls 2).u 42 52)))))
def pre_flow_program_calls_L1_0 (a0 : Option Addr) (p0 : Nat) (q0 : Nat) (n0 : Nat) (k0 : Nat) (A0 : Nat → Insn) (g0_0 : Nat) (g0_1 : Nat → Part) (g1_0 : Nat → Int) (g2_0 : Nat → Bool) (s0_0 : Nat → (Nat × (Nat → Int))) (s0_1 : Int) (ls : List L1) : List Obj := [rowO (lget ls 0) (esG c_Part g0_0 g0_1) 86 g0_0 2, .cells ⟨esG cZ 4096 g1_0⟩ 107, unb, rfR (lget ls 3) (lget ls 4) 32 1 g0_0 s0_0, rfO 3 cZ 1 g0_0 s0_0, rowO (lget ls 5) (esG cB ((n0 : Int)).toNat g2_0) 4 ((n0 : Int)).toNat 1]
theorem sp0_flow_program_calls_L1_0_ok (g1_0 : Nat → Int) (g2_0 : Nat → Bool) (s0_0 : Nat → (Nat × (Nat → Int))) (s0_1 : Int) (c0_0 : Nat → (Nat × (Nat → Int))) (h : lpO (st_flow_program_calls_L1 n0 A0 g0_0 g0_1) (.c0 s0_0 s0_1) = some (.e0 c0_0)) : SpcG Try.prog M B0 S ⟨fun ls => .code (.loop bd_flow_program_calls_L1) (t0_flow_program_calls_L1_0 a0 p0 q0 n0 k0 A0 g0_0 g0_1 g1_0 g2_0 s0_0 s0_1 ls), pre_flow_program_calls_L1_0 a0 p0 q0 n0 k0 A0 g0_0 g0_1 g1_0 g2_0 s0_0 s0_1, 1, (.exit 2), fun ls => vf_flow_program_calls_L1 a0 p0 q0 n0 k0 A0 g0_0 g0_1 g1_0 g2_0 (.e0 c0_0) (ls.take 6 ++ ls.drop 6), fun ls => (Hf_flow_program_calls_L1 a0 p0 q0 n0 k0 A0 g0_0 g0_1 g1_0 g2_0 (.e0 c0_0) (ls.take 6 ++ ls.drop 6)).take 6 ++ List.replicate 0 unb, fun ls => (Hf_flow_program_calls_L1 a0 p0 q0 n0 k0 A0 g0_0 g0_1 g1_0 g2_0 (.e0 c0_0) (ls.take 6 ++ ls.drop 6)).drop 6⟩ :=
  spc_of_goesM hU 0 (k0 := 6) (go_flow_program_calls_L1 hU a0 p0 q0 n0 k0 A0 hR0 g0_0 g0_1 g1_0 g2_0 _ _ h) (t0_flow_program_calls_L1_0 a0 p0 q0 n0 k0 A0 g0_0 g0_1 g1_0 g2_0 s0_0 s0_1) (pre_flow_program_calls_L1_0 a0 p0 q0 n0 k0 A0 g0_0 g0_1 g1_0 g2_0 s0_0 s0_1) (fun _ => rfl) (fun ls h => by match ls, h with | [l0, l1, l2, l3, l4, l5], _ => exact ⟨by kernel_rfl, by kernel_rfl⟩) (fun ls h => by match ls, h with | [l0, l1, l2, l3, l4, l5], _ => rfl) (by decide) (by decide) (fun ls => rfl)
inductive R_flow_program_calls where
  | e0 
  | e1 (c1_0 : Nat) (c1_1 : Nat → (Nat × (Nat → Int)))
noncomputable def m_flow_program_calls (n0 : Nat) (A0 : Nat → Insn) : Option R_flow_program_calls :=
  (m_insn_Subs n0 A0).bind fun g0 => match g0 with
  | .e0 g0_0 g0_1 => ((m_flow_program_reached n0 A0).bind fun g1 => match g1 with
    | .e0 g1_0 =>
    some (.e0))
  | .e1 g0_0 g0_1 => ((lpO (st_flow_program_calls_L0 g0_0 g0_1) (.c0 (fun _ => 0) 0)).bind fun g1 => match g1 with
    | .e0 g1_0 =>
    bif decide (g0_0 ≤ 1000000) then
      ((m_flow_program_reached n0 A0).bind fun g2 => match g2 with
      | .e0 g2_0 =>
      (lpO (st_flow_program_calls_L1 n0 A0 g0_0 g0_1) (.c0 (fun _ => (0, fun _ => 0)) 0)).bind fun g3 => match g3 with
      | .e0 g3_0 =>
      some (.e1 g0_0 g3_0))
    else (none))
def sq0_flow_program_calls (a0 : Option Addr) (p0 : Nat) (q0 : Nat) (n0 : Nat) (k0 : Nat) (A0 : Nat → Insn)  : Spc := ⟨fun ls => .call 45 #[.slice a0 n0 (n0 + k0)], fun ls => [], 1, .normal, fun ls => [.slice (some ⟨(lget ls 0).n, 0, none⟩) 0 0], fun ls => [], fun ls => [.cells #[] 32]⟩
def sq1_flow_program_calls (a0 : Option Addr) (p0 : Nat) (q0 : Nat) (n0 : Nat) (k0 : Nat) (A0 : Nat → Insn) (c1_0 : Nat) (c1_1 : Nat → (Nat × (Nat → Int))) : Spc := ⟨fun ls => .call 45 #[.slice a0 n0 (n0 + k0)], fun ls => [], 2, .normal, fun ls => [(rowV (lget ls 0) c1_0 1)], fun ls => [], fun ls => [rfR (lget ls 0) (lget ls 1) 32 1 c1_0 c1_1, rfO 3 cZ 1 c1_0 c1_1]⟩
end
section
variable {M : Nat → Prop} {B0 : Nat} {S : World → Prop} (hU : Up M B0 S) (a0 : Option Addr) (p0 : Nat) (q0 : Nat) (n0 : Nat) (k0 : Nat) (A0 : Nat → Insn) (hR0 : Ro S c_Insn 5 a0 p0 q0 n0 A0)
include hU a0 p0 q0 n0 k0 A0 hR0
theorem ok0_flow_program_calls (e : m_flow_program_calls n0 A0 = some (.e0 )) : SpcG Try.prog M B0 S (sq0_flow_program_calls a0 p0 q0 n0 k0 A0 ) := by
  unfold m_flow_program_calls at e
  replace e := bindO_eq e
  obtain ⟨g0, e_g0, e⟩ := e
  rcases g0 with ⟨g0_0, g0_1⟩ | ⟨g0_0, g0_1⟩
  · try dsimp only at e
    replace e := bindO_eq e
    obtain ⟨g1, e_g1, e⟩ := e
    obtain ⟨g1_0⟩ := g1
    try dsimp only at e
    exact fn_specG hU (P := Try.prog) Try.func45 (fun xs w => by kernel_rfl) 0 _ _ (fun _ => rfl) _ _ _ [1] [.o, .o, .xg (ok0_insn_Subs hU a0 p0 q0 n0 k0 A0 hR0 g0_0 g0_1 e_g0) [], .o, .o, .o, .o, .o, .o, .o, .o, .o, .o, .o, .o, .o, .o, .o, .o, .o, .xg (ok0_flow_program_reached hU a0 p0 q0 n0 k0 A0 hR0 g1_0 e_g1) [], .o, .o, .o, .o, .o, .o, .o] [] (fun b => by kernel_rfl)
  · try dsimp only at e
    replace e := bindO_eq e
    obtain ⟨g1, e_g1, e⟩ := e
    obtain ⟨g1_0⟩ := g1
    try dsimp only at e
    replace e := cond_eq_or e
    rcases e with ⟨hq0, e⟩ | ⟨hq0, e⟩
    · replace e := bindO_eq e
      obtain ⟨g2, e_g2, e⟩ := e
      obtain ⟨g2_0⟩ := g2
      try dsimp only at e
      replace e := bindO_eq e
      obtain ⟨g3, e_g3, e⟩ := e
      obtain ⟨g3_0⟩ := g3
      try dsimp only at e
      cases e
    · exact none_some e
theorem ok1_flow_program_calls (c1_0 : Nat) (c1_1 : Nat → (Nat × (Nat → Int))) (e : m_flow_program_calls n0 A0 = some (.e1 c1_0 c1_1)) : SpcG Try.prog M B0 S (sq1_flow_program_calls a0 p0 q0 n0 k0 A0 c1_0 c1_1) := by
  unfold m_flow_program_calls at e
  replace e := bindO_eq e
  obtain ⟨g0, e_g0, e⟩ := e
  rcases g0 with ⟨g0_0, g0_1⟩ | ⟨g0_0, g0_1⟩
  · try dsimp only at e
    replace e := bindO_eq e
    obtain ⟨g1, e_g1, e⟩ := e
    obtain ⟨g1_0⟩ := g1
    try dsimp only at e
    cases e
  · try dsimp only at e
    replace e := bindO_eq e
    obtain ⟨g1, e_g1, e⟩ := e
    obtain ⟨g1_0⟩ := g1
    try dsimp only at e
    replace e := cond_eq_or e
    rcases e with ⟨hq0, e⟩ | ⟨hq0, e⟩
    · replace e := bindO_eq e
      obtain ⟨g2, e_g2, e⟩ := e
      obtain ⟨g2_0⟩ := g2
      try dsimp only at e
      replace e := bindO_eq e
      obtain ⟨g3, e_g3, e⟩ := e
      obtain ⟨g3_0⟩ := g3
      try dsimp only at e
      injection e with e; injection e with i0 i1; subst i0 i1; exact fn_specG hU (P := Try.prog) Try.func45 (fun xs w => by kernel_rfl) 0 _ _ (fun _ => rfl) _ _ _ [3, 4] [.o, .o, .xg (ok1_insn_Subs hU a0 p0 q0 n0 k0 A0 hR0 g0_0 g0_1 e_g0) [], .o, .o, .o, .o, .o, .o, .o, .o, .o, .o, .o, .cp, .cx (sp0_flow_program_calls_L0_0_ok hU a0 p0 q0 n0 k0 A0 hR0 g0_0 g0_1 (fun _ => 0) 0 g1_0 e_g1) [0, 1], .o, .o, .xg (sqMkRF_ok (T2 := 3) rt95 (f := cZ) (sz := 1) (g0 := fun _ => 0) (by kernel_rfl) hq0 (by decide)) [], .o, .o, .xg (ok0_flow_program_reached hU a0 p0 q0 n0 k0 A0 hR0 g2_0 e_g2) [], .o, .o, .o, .o, .cp, .cx (sp0_flow_program_calls_L1_0_ok hU a0 p0 q0 n0 k0 A0 hR0 g0_0 g0_1 g1_0 g2_0 (fun _ => (0, fun _ => 0)) 0 g3_0 e_g3) [0, 1, 2, 3, 4, 5], .o, .o] [] (fun b => by kernel_rfl)
    · exact none_some e
inductive R_flow_longest_1 where
  | e0 (c0_0 : Nat → Bool)
noncomputable def m_flow_longest_1 (y0 : Int) : Option R_flow_longest_1 :=
  bif inR y0 64 then
    (bif (tb0 (y0).toNat) then
      (some (.e0 tb0))
    else (none))
  else (none)
def sq0_flow_longest_1 (y0 : Int) (c0_0 : Nat → Bool) : Spc := ⟨fun ls => .call 57 #[.int .i64 (y0), .pointer (some ⟨(lget ls 0).n, 0, none⟩), .pointer (some ⟨(lget ls 1).n, 0, none⟩), .pointer (some ⟨(lget ls 3).n, 0, none⟩), .pointer (some ⟨(lget ls 5).n, 0, none⟩)], fun ls => [.cells #[.bool false, .bool false, .bool false, .bool false, .bool false, .bool false, .bool false, .bool false, .bool false, .bool false, .bool false, .bool false, .bool false, .bool false, .bool false, .bool false, .bool false, .bool false, .bool false, .bool false, .bool false, .bool false, .bool false, .bool false, .bool false, .bool false, .bool false, .bool false, .bool false, .bool false, .bool false, .bool false, .bool false, .bool false, .bool false, .bool false, .bool false, .bool false, .bool false, .bool false, .bool false, .bool false, .bool false, .bool false, .bool false, .bool false, .bool false, .bool false, .bool false, .bool false, .bool false, .bool false, .bool false, .bool false, .bool false, .bool false, .bool false, .bool false, .bool false, .bool false, .bool false, .bool false, .bool false, .bool false] 105, .cells #[.slice (some ⟨(lget ls 2).n, 0, none⟩) 0 0] 32, .cells #[] 3, .cells #[.slice (some ⟨(lget ls 4).n, 0, none⟩) 0 0] 95, .cells #[] 32, .cells #[.func (.func 57) #[] #[.pointer (some ⟨(lget ls 0).n, 0, none⟩), .pointer (some ⟨(lget ls 1).n, 0, none⟩), .pointer (some ⟨(lget ls 3).n, 0, none⟩), .pointer (some ⟨(lget ls 5).n, 0, none⟩)]] 106], 0, .normal, fun ls => [.int .i64 (0)], fun ls => [.cells ⟨esG cB 64 c0_0⟩ 105, .cells #[.slice (some ⟨(lget ls 2).n, 0, none⟩) 0 0] 32, .cells #[] 3, .cells #[.slice (some ⟨(lget ls 4).n, 0, none⟩) 0 0] 95, .cells #[] 32, .cells #[.func (.func 57) #[] #[.pointer (some ⟨(lget ls 0).n, 0, none⟩), .pointer (some ⟨(lget ls 1).n, 0, none⟩), .pointer (some ⟨(lget ls 3).n, 0, none⟩), .pointer (some ⟨(lget ls 5).n, 0, none⟩)]] 106], fun ls => []⟩
end
section
variable {M : Nat → Prop} {B0 : Nat} {S : World → Prop} (hU : Up M B0 S)
include hU
theorem ok0_flow_longest_1 (y0 : Int) (c0_0 : Nat → Bool) (e : m_flow_longest_1 y0 = some (.e0 c0_0)) : SpcG Try.prog M B0 S (sq0_flow_longest_1 y0 c0_0) := by
  unfold m_flow_longest_1 at e
  replace e := cond_eq_or e
  rcases e with ⟨hq0, e⟩ | ⟨hq0, e⟩
  · replace e := cond_eq_or e
    rcases e with ⟨hq1, e⟩ | ⟨hq1, e⟩
    · injection e with e; injection e with i0; subst i0; exact fn_specG hU (P := Try.prog) Try.func57 (fun xs w => by kernel_rfl) 6 _ _ (fun _ => rfl) _ _ _ [] [.o, .o, .q (ixA_ok (kd := .i64) (T := 105) (x := y0) (sz := 1) (N := 64) rfl rfl (fun w => by kernel_rfl) hq0), .l (accF (i := 0) (f := cB) (A := tb0) (k := (y0).toNat) 0 [.bool true] cB_len (inR_nat hq0) (congrArg (fun b => [Value.bool b]) hq1)), .o] [] (fun b => by kernel_rfl)
    · exact none_some e
  · exact none_some e
inductive R_flow_longest where
  | e0 
noncomputable def m_flow_longest  : Option R_flow_longest :=
  (m_flow_longest_1 0).bind fun g0 => match g0 with
  | .e0 g0_0 =>
  some (.e0)
def sq0_flow_longest   : Spc := ⟨fun ls => .call 44 #[.slice (some ⟨(lget ls 0).n, 0, none⟩) 0 0], fun ls => [.cells #[] 32], 0, .normal, fun ls => [.int .i64 (0)], fun ls => [.cells #[] 32], fun ls => []⟩
theorem ok0_flow_longest (e : m_flow_longest  = some (.e0 )) : SpcG Try.prog M B0 S (sq0_flow_longest  ) := by
  unfold m_flow_longest at e
  replace e := bindO_eq e
  obtain ⟨g0, e_g0, e⟩ := e
  obtain ⟨g0_0⟩ := g0
  try dsimp only at e
  exact fn_specG hU (P := Try.prog) Try.func44 (fun xs w => by kernel_rfl) 1 _ _ (fun _ => rfl) _ _ _ [] [.o, .o, .a 1, .o, .o, .o, .a 3, .o, .o, .o, .a 5, .a 5, .xg (ok0_flow_longest_1 hU 0 g0_0 e_g0) [4, 3, 2, 1, 0, 5], .o] [] (fun b => by kernel_rfl)
inductive R_flow_longest_1_v1 where
  | e0 (c0_0 : Nat → Bool) (c0_1 : Nat → Int) (c0_2 : Int)
noncomputable def m_flow_longest_1_v1 (y0 : Int) (w0 : Nat) (w1 : Nat → Int) (w2 : Nat) (w3 : Nat → (Nat × (Nat → Int))) : Option R_flow_longest_1_v1 :=
  bif inR y0 64 then
    (bif (tb0 (y0).toNat) then
      (some (.e0 tb0 w1 0))
    else (bif inR y0 w0 then
      (bif decide (0 < (w1 (y0).toNat)) then
        (some (.e0 tb0 w1 (w1 (y0).toNat)))
      else (bif inR y0 w2 then
        (bif decide (0 < (w3 (y0).toNat).1) then
          (none)
        else (some (.e0 (updF (updF tb0 (y0).toNat true) (y0).toNat false) (updF w1 (y0).toNat 1) 1)))
      else (none)))
    else (none)))
  else (none)
def sq0_flow_longest_1_v1 (y0 : Int) (w0 : Nat) (w1 : Nat → Int) (w2 : Nat) (w3 : Nat → (Nat × (Nat → Int))) (c0_0 : Nat → Bool) (c0_1 : Nat → Int) (c0_2 : Int) : Spc := ⟨fun ls => .call 57 #[.int .i64 (y0), .pointer (some ⟨(lget ls 0).n, 0, none⟩), .pointer (some ⟨(lget ls 1).n, 0, none⟩), .pointer (some ⟨(lget ls 3).n, 0, none⟩), .pointer (some ⟨(lget ls 6).n, 0, none⟩)], fun ls => [.cells #[.bool false, .bool false, .bool false, .bool false, .bool false, .bool false, .bool false, .bool false, .bool false, .bool false, .bool false, .bool false, .bool false, .bool false, .bool false, .bool false, .bool false, .bool false, .bool false, .bool false, .bool false, .bool false, .bool false, .bool false, .bool false, .bool false, .bool false, .bool false, .bool false, .bool false, .bool false, .bool false, .bool false, .bool false, .bool false, .bool false, .bool false, .bool false, .bool false, .bool false, .bool false, .bool false, .bool false, .bool false, .bool false, .bool false, .bool false, .bool false, .bool false, .bool false, .bool false, .bool false, .bool false, .bool false, .bool false, .bool false, .bool false, .bool false, .bool false, .bool false, .bool false, .bool false, .bool false, .bool false] 105, .cells #[(rowV (lget ls 2) w0 1)] 32, rowO (lget ls 2) (esG cZ w0 w1) 3 w0 1, .cells #[(rowV (lget ls 4) w2 1)] 95, rfR (lget ls 4) (lget ls 5) 32 1 w2 w3, rfO 3 cZ 1 w2 w3, .cells #[.func (.func 57) #[] #[.pointer (some ⟨(lget ls 0).n, 0, none⟩), .pointer (some ⟨(lget ls 1).n, 0, none⟩), .pointer (some ⟨(lget ls 3).n, 0, none⟩), .pointer (some ⟨(lget ls 6).n, 0, none⟩)]] 106], 0, .normal, fun ls => [.int .i64 (c0_2)], fun ls => [.cells ⟨esG cB 64 c0_0⟩ 105, .cells #[(rowV (lget ls 2) w0 1)] 32, rowO (lget ls 2) (esG cZ w0 c0_1) 3 w0 1, .cells #[(rowV (lget ls 4) w2 1)] 95, rfR (lget ls 4) (lget ls 5) 32 1 w2 w3, rfO 3 cZ 1 w2 w3, .cells #[.func (.func 57) #[] #[.pointer (some ⟨(lget ls 0).n, 0, none⟩), .pointer (some ⟨(lget ls 1).n, 0, none⟩), .pointer (some ⟨(lget ls 3).n, 0, none⟩), .pointer (some ⟨(lget ls 6).n, 0, none⟩)]] 106], fun ls => []⟩
theorem ok0_flow_longest_1_v1 (y0 : Int) (w0 : Nat) (w1 : Nat → Int) (w2 : Nat) (w3 : Nat → (Nat × (Nat → Int))) (c0_0 : Nat → Bool) (c0_1 : Nat → Int) (c0_2 : Int) (e : m_flow_longest_1_v1 y0 w0 w1 w2 w3 = some (.e0 c0_0 c0_1 c0_2)) : SpcG Try.prog M B0 S (sq0_flow_longest_1_v1 y0 w0 w1 w2 w3 c0_0 c0_1 c0_2) := by
  unfold m_flow_longest_1_v1 at e
  replace e := cond_eq_or e
  rcases e with ⟨hq0, e⟩ | ⟨hq0, e⟩
  · replace e := cond_eq_or e
    let P1 : List (PG Try.prog M B0 S) := [.o, .o, .q (ixA_ok (kd := .i64) (T := 105) (x := y0) (sz := 1) (N := 64) rfl rfl (fun w => by kernel_rfl) hq0)]
    rcases e with ⟨hq1, e⟩ | ⟨hq1, e⟩
    · injection e with e; injection e with i0 i1 i2; subst i0 i1 i2; exact fn_specG hU (P := Try.prog) Try.func57 (fun xs w => by kernel_rfl) 7 _ _ (fun _ => rfl) _ _ _ [] (P1 ++ [.l (accF (i := 0) (f := cB) (A := tb0) (k := (y0).toNat) 0 [.bool true] cB_len (inR_nat hq0) (congrArg (fun b => [Value.bool b]) hq1)), .o]) [] (fun b => by kernel_rfl)
    · replace e := cond_eq_or e
      let P2 : List (PG Try.prog M B0 S) := P1 ++ [.l (accF (i := 0) (f := cB) (A := tb0) (k := (y0).toNat) 0 [.bool false] cB_len (inR_nat hq0) (congrArg (fun b => [Value.bool b]) hq1)), .a 1, .o]
      rcases e with ⟨hq2, e⟩ | ⟨hq2, e⟩
      · replace e := cond_eq_or e
        let P3 : List (PG Try.prog M B0 S) := P2 ++ [.q (ixM_ok (kd := .i64) (T := 32) (x := y0) (N := w0) (sz := 1) rfl (fun w => by kernel_rfl) hq2), .l (accG (i := 2) (f := cZ) (A := w1) (k := (y0).toNat) 0 [.int .i64 ((w1 (y0).toNat))] cZ_len (inR_nat hq2) rfl)]
        rcases e with ⟨hq3, e⟩ | ⟨hq3, e⟩
        · injection e with e; injection e with i0 i1 i2; subst i0 i1 i2; exact fn_specG hU (P := Try.prog) Try.func57 (fun xs w => by kernel_rfl) 7 _ _ (fun _ => rfl) _ _ _ [] (P3 ++ [.b (z_gtrT hq3), .a 1, .o, .q (ixM_ok (kd := .i64) (T := 32) (x := y0) (N := w0) (sz := 1) rfl (fun w => by kernel_rfl) hq2), .l (accG (i := 2) (f := cZ) (A := w1) (k := (y0).toNat) 0 [.int .i64 ((w1 (y0).toNat))] cZ_len (inR_nat hq2) rfl), .o]) [] (fun b => by kernel_rfl)
        · replace e := cond_eq_or e
          rcases e with ⟨hq4, e⟩ | ⟨hq4, e⟩
          · replace e := cond_eq_or e
            rcases e with ⟨hq5, e⟩ | ⟨hq5, e⟩
            · exact none_some e
            · injection e with e; injection e with i0 i1 i2; subst i0 i1 i2; exact fn_specG hU (P := Try.prog) Try.func57 (fun xs w => by kernel_rfl) 7 _ _ (fun _ => rfl) _ _ _ [] (P3 ++ [.b (z_gtrF hq3), .o, .q (ixA_ok (kd := .i64) (T := 105) (x := y0) (sz := 1) (N := 64) rfl rfl (fun w => by kernel_rfl) hq0), .x (sqStF_ok (T := 4) (e := 105) (f := cB) (A := tb0) (v := true) 0 (.bool true) cB_len cB_one rfl rfl (fun w => by kernel_rfl) (inR_nat hq0)) [0], .o, .a 3, .o, .q (ixM_ok (kd := .i64) (T := 95) (x := y0) (N := w2) (sz := 1) rfl (fun w => by kernel_rfl) hq4), .xg (ldRF0_ok (T := 32) (e := 32) (T2 := 3) (f := cZ) (sz := 1) (N := w2) (k := (y0).toNat) (D := w3) (fun w => by kernel_rfl) (inR_nat hq4) hq5) [4, 5], .o, .o, .o, .o, .q (ixA_ok (kd := .i64) (T := 105) (x := y0) (sz := 1) (N := 64) rfl rfl (fun w => by kernel_rfl) hq0), .x (sqStF_ok (T := 4) (e := 105) (f := cB) (A := updF tb0 (y0).toNat true) (v := false) 0 (.bool false) cB_len cB_one rfl rfl (fun w => by kernel_rfl) (inR_nat hq0)) [0], .a 1, .o, .o, .q (ixM_ok (kd := .i64) (T := 32) (x := y0) (N := w0) (sz := 1) rfl (fun w => by kernel_rfl) hq2), .x (sqStG_ok (T := 3) (e := 3) (f := cZ) (A := w1) (v := 1) 0 (.int .i64 (1)) cZ_len cZ_one rfl rfl (fun w => by kernel_rfl) (inR_nat hq2)) [2], .o, .o]) [] (fun b => by kernel_rfl)
          · exact none_some e
      · exact none_some e
  · exact none_some e
inductive R_flow_longest_v1 where
  | e0 (c0_0 : Int)
noncomputable def m_flow_longest_v1 (w0 : Nat) (w1 : Nat → (Nat × (Nat → Int))) : Option R_flow_longest_v1 :=
  bif inR (w0 : Int) 1000001 then
    ((m_flow_longest_1_v1 0 ((w0 : Int)).toNat (fun _ => 0) w0 w1).bind fun g0 => match g0 with
    | .e0 g0_0 g0_1 g0_2 =>
    some (.e0 g0_2))
  else (none)
def sq0_flow_longest_v1 (w0 : Nat) (w1 : Nat → (Nat × (Nat → Int))) (c0_0 : Int) : Spc := ⟨fun ls => .call 44 #[(rowV (lget ls 0) w0 1)], fun ls => [rfR (lget ls 0) (lget ls 1) 32 1 w0 w1, rfO 3 cZ 1 w0 w1], 0, .normal, fun ls => [.int .i64 (c0_0)], fun ls => [rfR (lget ls 0) (lget ls 1) 32 1 w0 w1, rfO 3 cZ 1 w0 w1], fun ls => []⟩
theorem ok0_flow_longest_v1 (w0 : Nat) (w1 : Nat → (Nat × (Nat → Int))) (c0_0 : Int) (e : m_flow_longest_v1 w0 w1 = some (.e0 c0_0)) : SpcG Try.prog M B0 S (sq0_flow_longest_v1 w0 w1 c0_0) := by
  unfold m_flow_longest_v1 at e
  replace e := cond_eq_or e
  rcases e with ⟨hq0, e⟩ | ⟨hq0, e⟩
  · replace e := bindO_eq e
    obtain ⟨g0, e_g0, e⟩ := e
    obtain ⟨g0_0, g0_1, g0_2⟩ := g0
    try dsimp only at e
    injection e with e; injection e with i0; subst i0; exact fn_specG hU (P := Try.prog) Try.func44 (fun xs w => by kernel_rfl) 2 _ _ (fun _ => rfl) _ _ _ [] [.o, .o, .a 2, .o, .x (sqMkZ_ok rt32 (f := cZ) (x := (w0 : Int)) (a0 := 0) cZ_len (by kernel_rfl) hq0 (by decide)) [], .o, .a 4, .o, .o, .o, .a 6, .a 6, .xg (ok0_flow_longest_1_v1 hU 0 ((w0 : Int)).toNat (fun _ => 0) w0 w1 g0_0 g0_1 g0_2 e_g0) [5, 4, 3, 2, 0, 1, 6], .o] [] (fun b => by kernel_rfl)
  · exact none_some e
noncomputable def m_flow_Depth (n0 : Nat) (A0 : Nat → Insn) : Option ((Int) × (Int)) :=
  (m_insn_Check n0 A0).bind fun r0 =>
  bif r0.2 == 0 then
    ((m_flow_program_calls n0 A0).bind fun g1 => match g1 with
    | .e0  => ((m_flow_longest).bind fun g2 => match g2 with
      | .e0 =>
      some (0, 151))
    | .e1 g1_0 g1_1 => ((m_flow_longest_v1 g1_0 g1_1).bind fun g2 => match g2 with
      | .e0 g2_0 =>
      bif g2_0 == 0 then
        (none)
      else (bif decide (8 < g2_0) then
        (none)
      else (some (g2_0, 0)))))
  else (none)
end
section
variable {M : Nat → Prop} {B0 : Nat} {S : World → Prop} (hU : Up M B0 S) (a0 : Option Addr) (p0 : Nat) (q0 : Nat) (n0 : Nat) (k0 : Nat) (A0 : Nat → Insn) (hR0 : Ro S c_Insn 5 a0 p0 q0 n0 A0)
include hU a0 p0 q0 n0 k0 A0 hR0
theorem ok_flow_Depth (r : (Int) × (Int)) (e : m_flow_Depth n0 A0 = some r) : ConG Try.prog S 33 #[.slice a0 n0 (n0 + k0)] (vt1 r) := by
  unfold m_flow_Depth at e
  replace e := bindO_eq e
  obtain ⟨r0, e_r0, e⟩ := e
  try dsimp only at e
  replace e := cond_eq_or e
  let P1 : List (PG Try.prog M B0 S) := [.o, .o, .o, .cg (ok_insn_Check hU a0 p0 q0 n0 k0 A0 hR0 r0 e_r0), .o, .o, .o, .o, .o, .o]
  rcases e with ⟨hq0, e⟩ | ⟨hq0, e⟩
  · replace e := bindO_eq e
    obtain ⟨g1, e_g1, e⟩ := e
    rcases g1 with _ | ⟨g1_0, g1_1⟩
    · try dsimp only at e
      replace e := bindO_eq e
      obtain ⟨g2, e_g2, e⟩ := e
      cases g2
      try dsimp only at e
      injection e with e; subst e; exact fn_conG hU (P := Try.prog) Try.func33 (fun xs w => by kernel_rfl) _ _ (P1 ++ [.b (z_neqT hq0), .o, .xg (ok0_flow_program_calls hU a0 p0 q0 n0 k0 A0 hR0  e_g1) [], .xg (ok0_flow_longest hU   e_g2) [0], .o, .o, .o, .o, .o, .o, .o]) [] (fun b => by kernel_rfl)
    · try dsimp only at e
      replace e := bindO_eq e
      obtain ⟨g2, e_g2, e⟩ := e
      obtain ⟨g2_0⟩ := g2
      try dsimp only at e
      replace e := cond_eq_or e
      rcases e with ⟨hq1, e⟩ | ⟨hq1, e⟩
      · exact none_some e
      · replace e := cond_eq_or e
        rcases e with ⟨hq2, e⟩ | ⟨hq2, e⟩
        · exact none_some e
        · injection e with e; subst e; exact fn_conG hU (P := Try.prog) Try.func33 (fun xs w => by kernel_rfl) _ _ (P1 ++ [.b (z_neqT hq0), .o, .xg (ok1_flow_program_calls hU a0 p0 q0 n0 k0 A0 hR0 g1_0 g1_1 e_g1) [], .xg (ok0_flow_longest_v1 hU g1_0 g1_1 g2_0 e_g2) [0, 1], .o, .o, .b (z_eqlF hq1), .o, .o, .b (z_gtrF hq2), .o, .o, .o, .o]) [] (fun b => by kernel_rfl)
  · exact none_some e
noncomputable def m_flow_program_isSecond (n0 : Nat) (A0 : Nat → Insn) (y1 : Int) : Option (Bool) :=
  bif decide (0 < y1) then
    (bif inR (IntKind.i64.wrap (y1 - 1)) n0 then
      (some (((A0 ((IntKind.i64.wrap (y1 - 1))).toNat)).fOp == 24#8))
    else (none))
  else (some false)
theorem ok_flow_program_isSecond (y1 : Int) (r : Bool) (e : m_flow_program_isSecond n0 A0 y1 = some r) : ConG Try.prog S 47 #[.slice a0 n0 (n0 + k0), .int .i64 (y1)] (.bool (r)) := by
  unfold m_flow_program_isSecond at e
  replace e := cond_eq_or e
  rcases e with ⟨hq0, e⟩ | ⟨hq0, e⟩
  · replace e := cond_eq_or e
    rcases e with ⟨hq1, e⟩ | ⟨hq1, e⟩
    · injection e with e; subst e; exact fn_conG hU (P := Try.prog) Try.func47 (fun xs w => by kernel_rfl) _ _ [.o, .o, .b (z_gtrT hq0), .o, .o, .o, .o, .q (ixRo_ok (kd := .i64) (T := 90) (x := (IntKind.i64.wrap (y1 - 1))) (sz := 5) rfl (fun w => by kernel_rfl) hR0 hq1), .o, .l (accRo hR0 c_Insn_len (inR_nat hq1) 0 [.int .u8 (nn ((A0 ((IntKind.i64.wrap (y1 - 1))).toNat)).fOp)] rfl), .t (u_eq ((A0 ((IntKind.i64.wrap (y1 - 1))).toNat)).fOp (24#8)) rfl, .o, .o] [] (fun b => by kernel_rfl)
    · exact none_some e
  · injection e with e; subst e; exact fn_conG hU (P := Try.prog) Try.func47 (fun xs w => by kernel_rfl) _ _ [.o, .o, .b (z_gtrF hq0), .o, .o, .o] [] (fun b => by kernel_rfl)
inductive R_flow_Next where
  | e0 (c0_0 : Int)
  | e1 (c1_0 : Nat) (c1_1 : Nat → Int)
noncomputable def m_flow_Next (n0 : Nat) (A0 : Nat → Insn) (y1 : Int) : Option R_flow_Next :=
  (m_insn_Check n0 A0).bind fun r0 =>
  bif r0.2 == 0 then
    (bif decide (y1 < 0) then
      (some (.e0 150))
    else (bif decide ((n0 : Int) ≤ y1) then
      (some (.e0 150))
    else ((m_flow_program_isSecond n0 A0 y1).bind fun r1 =>
    bif r1 then
      (some (.e0 150))
    else ((m_flow_program_next n0 A0 y1).bind fun g2 => match g2 with
    | .e0  => (some (.e0 0))
    | .e1 g2_0 g2_1 => (some (.e1 g2_0 g2_1))))))
  else (none)
def sq0_flow_Next (a0 : Option Addr) (p0 : Nat) (q0 : Nat) (n0 : Nat) (k0 : Nat) (A0 : Nat → Insn) (y1 : Int) (c0_0 : Int) : Spc := ⟨fun ls => .call 36 #[.slice a0 n0 (n0 + k0), .int .i64 (y1)], fun ls => [], 0, .normal, fun ls => [.tuple #[.slice none 0 0, .int .i64 (c0_0)]], fun ls => [], fun ls => []⟩
def sq1_flow_Next (a0 : Option Addr) (p0 : Nat) (q0 : Nat) (n0 : Nat) (k0 : Nat) (A0 : Nat → Insn) (y1 : Int) (c1_0 : Nat) (c1_1 : Nat → Int) : Spc := ⟨fun ls => .call 36 #[.slice a0 n0 (n0 + k0), .int .i64 (y1)], fun ls => [], 1, .normal, fun ls => [.tuple #[(rowV (lget ls 0) c1_0 1), .int .i64 (0)]], fun ls => [], fun ls => [rowO (lget ls 0) (esG cZ c1_0 c1_1) 3 c1_0 1]⟩
theorem ok0_flow_Next (y1 : Int) (c0_0 : Int) (e : m_flow_Next n0 A0 y1 = some (.e0 c0_0)) : SpcG Try.prog M B0 S (sq0_flow_Next a0 p0 q0 n0 k0 A0 y1 c0_0) := by
  unfold m_flow_Next at e
  replace e := bindO_eq e
  obtain ⟨r0, e_r0, e⟩ := e
  try dsimp only at e
  replace e := cond_eq_or e
  let P1 : List (PG Try.prog M B0 S) := [.o, .o, .o, .cg (ok_insn_Check hU a0 p0 q0 n0 k0 A0 hR0 r0 e_r0), .o, .o, .o, .o, .o, .o]
  rcases e with ⟨hq0, e⟩ | ⟨hq0, e⟩
  · replace e := cond_eq_or e
    rcases e with ⟨hq1, e⟩ | ⟨hq1, e⟩
    · injection e with e; injection e with i0; subst i0; exact fn_specG hU (P := Try.prog) Try.func36 (fun xs w => by kernel_rfl) 0 _ _ (fun _ => rfl) _ _ _ [] (P1 ++ [.b (z_neqT hq0), .o, .b (z_lssT hq1), .o, .o, .o, .o, .o, .o]) [] (fun b => by kernel_rfl)
    · replace e := cond_eq_or e
      let P2 : List (PG Try.prog M B0 S) := P1 ++ [.b (z_neqT hq0), .o, .b (z_lssF hq1), .o, .o, .o, .o]
      rcases e with ⟨hq2, e⟩ | ⟨hq2, e⟩
      · injection e with e; injection e with i0; subst i0; exact fn_specG hU (P := Try.prog) Try.func36 (fun xs w => by kernel_rfl) 0 _ _ (fun _ => rfl) _ _ _ [] (P2 ++ [.b (z_geqT hq2), .o, .o, .o, .o, .o]) [] (fun b => by kernel_rfl)
      · replace e := bindO_eq e
        obtain ⟨r1, e_r1, e⟩ := e
        try dsimp only at e
        replace e := cond_eq_or e
        rcases e with ⟨hq3, e⟩ | ⟨hq3, e⟩
        · subst hq3
          injection e with e; injection e with i0; subst i0; exact fn_specG hU (P := Try.prog) Try.func36 (fun xs w => by kernel_rfl) 0 _ _ (fun _ => rfl) _ _ _ [] (P2 ++ [.b (z_geqF hq2), .o, .o, .o, .o, .cg (ok_flow_program_isSecond hU a0 p0 q0 n0 k0 A0 hR0 y1 true e_r1), .o, .o, .o]) [] (fun b => by kernel_rfl)
        · subst hq3
          replace e := bindO_eq e
          obtain ⟨g2, e_g2, e⟩ := e
          rcases g2 with _ | ⟨g2_0, g2_1⟩
          · try dsimp only at e
            injection e with e; injection e with i0; subst i0; exact fn_specG hU (P := Try.prog) Try.func36 (fun xs w => by kernel_rfl) 0 _ _ (fun _ => rfl) _ _ _ [] (P2 ++ [.b (z_geqF hq2), .o, .o, .o, .o, .cg (ok_flow_program_isSecond hU a0 p0 q0 n0 k0 A0 hR0 y1 false e_r1), .o, .o, .o, .xg (ok0_flow_program_next hU a0 p0 q0 n0 k0 A0 hR0 y1  e_g2) [], .o, .o]) [] (fun b => by kernel_rfl)
          · try dsimp only at e
            cases e
  · exact none_some e
theorem ok1_flow_Next (y1 : Int) (c1_0 : Nat) (c1_1 : Nat → Int) (e : m_flow_Next n0 A0 y1 = some (.e1 c1_0 c1_1)) : SpcG Try.prog M B0 S (sq1_flow_Next a0 p0 q0 n0 k0 A0 y1 c1_0 c1_1) := by
  unfold m_flow_Next at e
  replace e := bindO_eq e
  obtain ⟨r0, e_r0, e⟩ := e
  try dsimp only at e
  replace e := cond_eq_or e
  rcases e with ⟨hq0, e⟩ | ⟨hq0, e⟩
  · replace e := cond_eq_or e
    rcases e with ⟨hq1, e⟩ | ⟨hq1, e⟩
    · cases e
    · replace e := cond_eq_or e
      rcases e with ⟨hq2, e⟩ | ⟨hq2, e⟩
      · cases e
      · replace e := bindO_eq e
        obtain ⟨r1, e_r1, e⟩ := e
        try dsimp only at e
        replace e := cond_eq_or e
        rcases e with ⟨hq3, e⟩ | ⟨hq3, e⟩
        · subst hq3
          cases e
        · subst hq3
          replace e := bindO_eq e
          obtain ⟨g2, e_g2, e⟩ := e
          rcases g2 with _ | ⟨g2_0, g2_1⟩
          · try dsimp only at e
            cases e
          · try dsimp only at e
            injection e with e; injection e with i0 i1; subst i0 i1; exact fn_specG hU (P := Try.prog) Try.func36 (fun xs w => by kernel_rfl) 0 _ _ (fun _ => rfl) _ _ _ [0] [.o, .o, .o, .cg (ok_insn_Check hU a0 p0 q0 n0 k0 A0 hR0 r0 e_r0), .o, .o, .o, .o, .o, .o, .b (z_neqT hq0), .o, .b (z_lssF hq1), .o, .o, .o, .o, .b (z_geqF hq2), .o, .o, .o, .o, .cg (ok_flow_program_isSecond hU a0 p0 q0 n0 k0 A0 hR0 y1 false e_r1), .o, .o, .o, .xg (ok1_flow_program_next hU a0 p0 q0 n0 k0 A0 hR0 y1 g2_0 g2_1 e_g2) [], .o, .o] [] (fun b => by kernel_rfl)
  · exact none_some e
end

end Go.Proofs.Ytdgehbjiphahhaa


