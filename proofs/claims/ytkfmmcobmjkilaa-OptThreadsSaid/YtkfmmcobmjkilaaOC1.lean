/-
  Flow: what is reached.
-/
import Derived.Test.YtkfmmcobmjkilaaS1B
namespace Go.Proofs.Ytkfmmcobmjkilaa
open Go.RowKit
set_option linter.unusedVariables false
set_option linter.unusedSimpArgs false
set_option linter.unusedSectionVars false
set_option maxRecDepth 100000
set_option maxHeartbeats 4000000
noncomputable def zr24 : Value := (Try.prog.info? 4).bind TypeInfo.zero |>.getD undef
theorem rt24 : RowT Try.prog 24 4 ((Try.prog.info? 4).getD default) zr24 1 1 := ⟨by kernel_rfl, by kernel_rfl, by kernel_rfl, by kernel_rfl, by kernel_rfl, by kernel_rfl, by decide⟩
noncomputable def zr33 : Value := (Try.prog.info? 3).bind TypeInfo.zero |>.getD undef
theorem rt33 : RowT Try.prog 33 3 ((Try.prog.info? 3).getD default) zr33 1 8 := ⟨by kernel_rfl, by kernel_rfl, by kernel_rfl, by kernel_rfl, by kernel_rfl, by kernel_rfl, by decide⟩
inductive R_flow_program_next where
  | e0 
  | e1 (c1_0 : Int)
  | e2 (c2_0 : Int) (c2_1 : Int)
noncomputable def m_flow_program_next (n0 : Nat) (A0 : Nat → Insn) (y1 : Int) : Option R_flow_program_next :=
  bif inR y1 n0 then
    (bindT (m_op_Width ((A0 (y1).toNat))) fun r0 =>
    bif ((A0 (y1).toNat)).fOp == 149#8 then
      (some (.e0))
    else (bif m_op_Jumps ((A0 (y1).toNat)) then
      ((m_insn_Target n0 A0 y1).bind fun r1 =>
      bif ((A0 (y1).toNat)).fOp == 5#8 then
        (some (.e1 r1.1))
      else (bif r1.1 == (IntKind.i64.wrap (y1 + r0)) then
        (some (.e1 r1.1))
      else (some (.e2 (IntKind.i64.wrap (y1 + r0)) r1.1))))
    else (some (.e1 (IntKind.i64.wrap (y1 + r0))))))
  else (none)
def sq0_flow_program_next (a0 : Option Addr) (p0 : Nat) (q0 : Nat) (n0 : Nat) (k0 : Nat) (A0 : Nat → Insn) (y1 : Int)  : Spc := ⟨fun ls => .call 29 #[.slice a0 n0 (n0 + k0), .int .i64 (y1)], fun ls => [], 0, .normal, fun ls => [.slice none 0 0], fun ls => [], fun ls => []⟩
def sq1_flow_program_next (a0 : Option Addr) (p0 : Nat) (q0 : Nat) (n0 : Nat) (k0 : Nat) (A0 : Nat → Insn) (y1 : Int) (c1_0 : Int) : Spc := ⟨fun ls => .call 29 #[.slice a0 n0 (n0 + k0), .int .i64 (y1)], fun ls => [], 1, .normal, fun ls => [.slice (some ⟨(lget ls 0).n, 0, none⟩) 1 1], fun ls => [], fun ls => [.cells #[.int .i64 (c1_0)] 3]⟩
def sq2_flow_program_next (a0 : Option Addr) (p0 : Nat) (q0 : Nat) (n0 : Nat) (k0 : Nat) (A0 : Nat → Insn) (y1 : Int) (c2_0 : Int) (c2_1 : Int) : Spc := ⟨fun ls => .call 29 #[.slice a0 n0 (n0 + k0), .int .i64 (y1)], fun ls => [], 1, .normal, fun ls => [.slice (some ⟨(lget ls 0).n, 0, none⟩) 2 2], fun ls => [], fun ls => [.cells #[.int .i64 (c2_0), .int .i64 (c2_1)] 3]⟩
section
variable {M : Nat → Prop} {B0 : Nat} {S : World → Prop} (hU : Up M B0 S) (a0 : Option Addr) (p0 : Nat) (q0 : Nat) (n0 : Nat) (k0 : Nat) (A0 : Nat → Insn) (hR0 : Ro S c_Insn 5 a0 p0 q0 n0 A0) (y1 : Int)
include hU a0 p0 q0 n0 k0 A0 hR0 y1
theorem ok0_flow_program_next (e : m_flow_program_next n0 A0 y1 = some (.e0 )) : SpcG Try.prog M B0 S (sq0_flow_program_next a0 p0 q0 n0 k0 A0 y1 ) := by
  unfold m_flow_program_next at e
  replace e := cond_eq_or e
  rcases e with ⟨hq0, e⟩ | ⟨hq0, e⟩
  · replace e := bindT_eq e
    obtain ⟨r0, e_r0, e⟩ := e
    try dsimp only at e
    replace e := cond_eq_or e
    rcases e with ⟨hq1, e⟩ | ⟨hq1, e⟩
    · exact fn_specG hU (P := Try.prog) Try.func29 (fun xs w => by kernel_rfl) 0 _ _ (fun _ => rfl) _ _ _ [] [.o, .o, .o, .o, .q (ixRo_ok (kd := .i64) (T := 62) (x := y1) (sz := 5) rfl (fun w => by kernel_rfl) hR0 hq0), .l (accRo hR0 c_Insn_len (inR_nat hq0) 0 [.int .u8 (nn ((A0 (y1).toNat)).fOp), .int .u8 (nn ((A0 (y1).toNat)).fDst), .int .u8 (nn ((A0 (y1).toNat)).fSrc), .int .i16 (ii ((A0 (y1).toNat)).fOff), .int .i32 (ii ((A0 (y1).toNat)).fImm)] rfl), .cg (ok_op_Width hU ((A0 (y1).toNat)) r0 e_r0), .o, .o, .o, .o, .q (ixRo_ok (kd := .i64) (T := 62) (x := y1) (sz := 5) rfl (fun w => by kernel_rfl) hR0 hq0), .o, .l (accRo hR0 c_Insn_len (inR_nat hq0) 0 [.int .u8 (nn ((A0 (y1).toNat)).fOp)] rfl), .t (u_eq ((A0 (y1).toNat)).fOp (149#8)) hq1, .o] [] (fun b => by kernel_rfl)
    · replace e := cond_eq_or e
      rcases e with ⟨hq2, e⟩ | ⟨hq2, e⟩
      · replace e := bindO_eq e
        obtain ⟨r1, e_r1, e⟩ := e
        try dsimp only at e
        replace e := cond_eq_or e
        rcases e with ⟨hq3, e⟩ | ⟨hq3, e⟩
        · cases e
        · replace e := cond_eq_or e
          rcases e with ⟨hq4, e⟩ | ⟨hq4, e⟩
          · cases e
          · cases e
      · cases e
  · exact none_some e
theorem ok1_flow_program_next (c1_0 : Int) (e : m_flow_program_next n0 A0 y1 = some (.e1 c1_0)) : SpcG Try.prog M B0 S (sq1_flow_program_next a0 p0 q0 n0 k0 A0 y1 c1_0) := by
  unfold m_flow_program_next at e
  replace e := cond_eq_or e
  rcases e with ⟨hq0, e⟩ | ⟨hq0, e⟩
  · replace e := bindT_eq e
    obtain ⟨r0, e_r0, e⟩ := e
    try dsimp only at e
    replace e := cond_eq_or e
    let P1 : List (PG Try.prog M B0 S) := [.o, .o, .o, .o, .q (ixRo_ok (kd := .i64) (T := 62) (x := y1) (sz := 5) rfl (fun w => by kernel_rfl) hR0 hq0), .l (accRo hR0 c_Insn_len (inR_nat hq0) 0 [.int .u8 (nn ((A0 (y1).toNat)).fOp), .int .u8 (nn ((A0 (y1).toNat)).fDst), .int .u8 (nn ((A0 (y1).toNat)).fSrc), .int .i16 (ii ((A0 (y1).toNat)).fOff), .int .i32 (ii ((A0 (y1).toNat)).fImm)] rfl), .cg (ok_op_Width hU ((A0 (y1).toNat)) r0 e_r0), .o, .o, .o, .o, .q (ixRo_ok (kd := .i64) (T := 62) (x := y1) (sz := 5) rfl (fun w => by kernel_rfl) hR0 hq0), .o, .l (accRo hR0 c_Insn_len (inR_nat hq0) 0 [.int .u8 (nn ((A0 (y1).toNat)).fOp)] rfl)]
    rcases e with ⟨hq1, e⟩ | ⟨hq1, e⟩
    · cases e
    · replace e := cond_eq_or e
      let P2 : List (PG Try.prog M B0 S) := P1 ++ [.t (u_eq ((A0 (y1).toNat)).fOp (149#8)) hq1, .o, .o, .q (ixRo_ok (kd := .i64) (T := 62) (x := y1) (sz := 5) rfl (fun w => by kernel_rfl) hR0 hq0), .l (accRo hR0 c_Insn_len (inR_nat hq0) 0 [.int .u8 (nn ((A0 (y1).toNat)).fOp), .int .u8 (nn ((A0 (y1).toNat)).fDst), .int .u8 (nn ((A0 (y1).toNat)).fSrc), .int .i16 (ii ((A0 (y1).toNat)).fOff), .int .i32 (ii ((A0 (y1).toNat)).fImm)] rfl)]
      rcases e with ⟨hq2, e⟩ | ⟨hq2, e⟩
      · replace e := bindO_eq e
        obtain ⟨r1, e_r1, e⟩ := e
        try dsimp only at e
        replace e := cond_eq_or e
        let P3 : List (PG Try.prog M B0 S) := P2 ++ [.cg (ok_op_Jumps hU ((A0 (y1).toNat)) true hq2), .o, .o, .o, .cg (ok_insn_Target hU a0 p0 q0 n0 k0 A0 hR0 y1 r1 e_r1), .o, .o, .o, .o, .o, .o, .o, .q (ixRo_ok (kd := .i64) (T := 62) (x := y1) (sz := 5) rfl (fun w => by kernel_rfl) hR0 hq0), .o, .l (accRo hR0 c_Insn_len (inR_nat hq0) 0 [.int .u8 (nn ((A0 (y1).toNat)).fOp)] rfl)]
        rcases e with ⟨hq3, e⟩ | ⟨hq3, e⟩
        · injection e with e; injection e with i0; subst i0; exact fn_specG hU (P := Try.prog) Try.func29 (fun xs w => by kernel_rfl) 0 _ _ (fun _ => rfl) _ _ _ [0] (P3 ++ [.t (u_eq ((A0 (y1).toNat)).fOp (5#8)) hq3, .o, .o, .o, .o, .o]) [] (fun b => by kernel_rfl)
        · replace e := cond_eq_or e
          rcases e with ⟨hq4, e⟩ | ⟨hq4, e⟩
          · injection e with e; injection e with i0; subst i0; exact fn_specG hU (P := Try.prog) Try.func29 (fun xs w => by kernel_rfl) 0 _ _ (fun _ => rfl) _ _ _ [0] (P3 ++ [.t (u_eq ((A0 (y1).toNat)).fOp (5#8)) hq3, .o, .o, .o, .b (z_eqlT hq4), .o, .o, .o, .o]) [] (fun b => by kernel_rfl)
          · cases e
      · injection e with e; injection e with i0; subst i0; exact fn_specG hU (P := Try.prog) Try.func29 (fun xs w => by kernel_rfl) 0 _ _ (fun _ => rfl) _ _ _ [0] (P2 ++ [.cg (ok_op_Jumps hU ((A0 (y1).toNat)) false hq2), .o, .o, .o, .o]) [] (fun b => by kernel_rfl)
  · exact none_some e
theorem ok2_flow_program_next (c2_0 : Int) (c2_1 : Int) (e : m_flow_program_next n0 A0 y1 = some (.e2 c2_0 c2_1)) : SpcG Try.prog M B0 S (sq2_flow_program_next a0 p0 q0 n0 k0 A0 y1 c2_0 c2_1) := by
  unfold m_flow_program_next at e
  replace e := cond_eq_or e
  rcases e with ⟨hq0, e⟩ | ⟨hq0, e⟩
  · replace e := bindT_eq e
    obtain ⟨r0, e_r0, e⟩ := e
    try dsimp only at e
    replace e := cond_eq_or e
    rcases e with ⟨hq1, e⟩ | ⟨hq1, e⟩
    · cases e
    · replace e := cond_eq_or e
      rcases e with ⟨hq2, e⟩ | ⟨hq2, e⟩
      · replace e := bindO_eq e
        obtain ⟨r1, e_r1, e⟩ := e
        try dsimp only at e
        replace e := cond_eq_or e
        rcases e with ⟨hq3, e⟩ | ⟨hq3, e⟩
        · cases e
        · replace e := cond_eq_or e
          rcases e with ⟨hq4, e⟩ | ⟨hq4, e⟩
          · cases e
          · injection e with e; injection e with i0 i1; subst i0 i1; exact fn_specG hU (P := Try.prog) Try.func29 (fun xs w => by kernel_rfl) 0 _ _ (fun _ => rfl) _ _ _ [0] [.o, .o, .o, .o, .q (ixRo_ok (kd := .i64) (T := 62) (x := y1) (sz := 5) rfl (fun w => by kernel_rfl) hR0 hq0), .l (accRo hR0 c_Insn_len (inR_nat hq0) 0 [.int .u8 (nn ((A0 (y1).toNat)).fOp), .int .u8 (nn ((A0 (y1).toNat)).fDst), .int .u8 (nn ((A0 (y1).toNat)).fSrc), .int .i16 (ii ((A0 (y1).toNat)).fOff), .int .i32 (ii ((A0 (y1).toNat)).fImm)] rfl), .cg (ok_op_Width hU ((A0 (y1).toNat)) r0 e_r0), .o, .o, .o, .o, .q (ixRo_ok (kd := .i64) (T := 62) (x := y1) (sz := 5) rfl (fun w => by kernel_rfl) hR0 hq0), .o, .l (accRo hR0 c_Insn_len (inR_nat hq0) 0 [.int .u8 (nn ((A0 (y1).toNat)).fOp)] rfl), .t (u_eq ((A0 (y1).toNat)).fOp (149#8)) hq1, .o, .o, .q (ixRo_ok (kd := .i64) (T := 62) (x := y1) (sz := 5) rfl (fun w => by kernel_rfl) hR0 hq0), .l (accRo hR0 c_Insn_len (inR_nat hq0) 0 [.int .u8 (nn ((A0 (y1).toNat)).fOp), .int .u8 (nn ((A0 (y1).toNat)).fDst), .int .u8 (nn ((A0 (y1).toNat)).fSrc), .int .i16 (ii ((A0 (y1).toNat)).fOff), .int .i32 (ii ((A0 (y1).toNat)).fImm)] rfl), .cg (ok_op_Jumps hU ((A0 (y1).toNat)) true hq2), .o, .o, .o, .cg (ok_insn_Target hU a0 p0 q0 n0 k0 A0 hR0 y1 r1 e_r1), .o, .o, .o, .o, .o, .o, .o, .q (ixRo_ok (kd := .i64) (T := 62) (x := y1) (sz := 5) rfl (fun w => by kernel_rfl) hR0 hq0), .o, .l (accRo hR0 c_Insn_len (inR_nat hq0) 0 [.int .u8 (nn ((A0 (y1).toNat)).fOp)] rfl), .t (u_eq ((A0 (y1).toNat)).fOp (5#8)) hq3, .o, .o, .o, .b (z_eqlF hq4), .o, .o, .o, .o, .o] [] (fun b => by kernel_rfl)
      · cases e
  · exact none_some e
noncomputable def m_flow_program_named (n0 : Nat) (A0 : Nat → Insn) (y1 : Int) : Option ((Int) × (Bool)) :=
  bif inR y1 n0 then
    (bif m_op_Jumps ((A0 (y1).toNat)) then
      (some (0, false))
    else ((m_insn_Target n0 A0 y1).bind fun r0 =>
    some (r0.1, (r0.2))))
  else (none)
theorem ok_flow_program_named (r : (Int) × (Bool)) (e : m_flow_program_named n0 A0 y1 = some r) : ConG Try.prog S 45 #[.slice a0 n0 (n0 + k0), .int .i64 (y1)] (vt0 r) := by
  unfold m_flow_program_named at e
  replace e := cond_eq_or e
  rcases e with ⟨hq0, e⟩ | ⟨hq0, e⟩
  · replace e := cond_eq_or e
    let P1 : List (PG Try.prog M B0 S) := [.o, .o, .o, .o, .q (ixRo_ok (kd := .i64) (T := 62) (x := y1) (sz := 5) rfl (fun w => by kernel_rfl) hR0 hq0), .l (accRo hR0 c_Insn_len (inR_nat hq0) 0 [.int .u8 (nn ((A0 (y1).toNat)).fOp), .int .u8 (nn ((A0 (y1).toNat)).fDst), .int .u8 (nn ((A0 (y1).toNat)).fSrc), .int .i16 (ii ((A0 (y1).toNat)).fOff), .int .i32 (ii ((A0 (y1).toNat)).fImm)] rfl)]
    rcases e with ⟨hq1, e⟩ | ⟨hq1, e⟩
    · injection e with e; subst e; exact fn_conG hU (P := Try.prog) Try.func45 (fun xs w => by kernel_rfl) _ _ (P1 ++ [.cg (ok_op_Jumps hU ((A0 (y1).toNat)) true hq1), .o, .o]) [] (fun b => by kernel_rfl)
    · replace e := bindO_eq e
      obtain ⟨r0, e_r0, e⟩ := e
      try dsimp only at e
      injection e with e; subst e; exact fn_conG hU (P := Try.prog) Try.func45 (fun xs w => by kernel_rfl) _ _ (P1 ++ [.cg (ok_op_Jumps hU ((A0 (y1).toNat)) false hq1), .o, .o, .cg (ok_insn_Target hU a0 p0 q0 n0 k0 A0 hR0 y1 r0 e_r0), .o, .o, .o, .o]) [] (fun b => by kernel_rfl)
  · exact none_some e
inductive Sh_flow_program_reached_L0 where
  | c0 
  | c1 (s0_0 : Nat → Bool) (s0_1 : Nat) (s0_2 : Nat → Int)
inductive Ex_flow_program_reached_L0 where
  | e0 (c0_0 : Nat → Bool)
noncomputable def st_flow_program_reached_L0 (n0 : Nat) (A0 : Nat → Insn) : Sh_flow_program_reached_L0 → Option (Sh_flow_program_reached_L0 ⊕ Ex_flow_program_reached_L0)
  | .c0  =>
    (m_flow_program_next n0 A0 0).bind fun gb0 => match gb0 with
    | .e0  => ((m_flow_program_named n0 A0 0).bind fun rb1 =>
      bif rb1.2 then
        (bif inR ((fun _ => rb1.1) 0) n0 then
          (bif ((updF (fun _ => false) 0 true) (((fun _ => rb1.1) 0)).toNat) then
            (some (.inl (.c1 (updF (fun _ => false) 0 true) 0 (fun _ => 0))))
          else (some (.inl (.c1 (updF (updF (fun _ => false) 0 true) (((fun _ => rb1.1) 0)).toNat true) 1 (updF (fun _ => 0) 0 ((fun _ => rb1.1) 0))))))
        else (none))
      else (some (.inl (.c1 (updF (fun _ => false) 0 true) 0 (fun _ => 0)))))
    | .e1 gb0_0 => ((m_flow_program_named n0 A0 0).bind fun rb1 =>
      bif rb1.2 then
        (bif inR ((fun _ => gb0_0) 0) n0 then
          (bif ((updF (fun _ => false) 0 true) (((fun _ => gb0_0) 0)).toNat) then
            (bif inR rb1.1 n0 then
              (bif ((updF (fun _ => false) 0 true) (rb1.1).toNat) then
                (some (.inl (.c1 (updF (fun _ => false) 0 true) 0 (fun _ => 0))))
              else (some (.inl (.c1 (updF (updF (fun _ => false) 0 true) (rb1.1).toNat true) 1 (updF (fun _ => 0) 0 rb1.1)))))
            else (none))
          else (bif inR rb1.1 n0 then
            (bif ((updF (updF (fun _ => false) 0 true) (((fun _ => gb0_0) 0)).toNat true) (rb1.1).toNat) then
              (some (.inl (.c1 (updF (updF (fun _ => false) 0 true) (((fun _ => gb0_0) 0)).toNat true) 1 (updF (fun _ => 0) 0 ((fun _ => gb0_0) 0)))))
            else (bindT (updF (updF (updF (fun _ => false) 0 true) (((fun _ => gb0_0) 0)).toNat true) (rb1.1).toNat true) fun rb2 =>
            some (.inl (.c1 rb2 2 (updF (updF (fun _ => 0) 0 ((fun _ => gb0_0) 0)) 1 rb1.1)))))
          else (none)))
        else (none))
      else (bif inR gb0_0 n0 then
        (bif ((updF (fun _ => false) 0 true) (gb0_0).toNat) then
          (some (.inl (.c1 (updF (fun _ => false) 0 true) 0 (fun _ => 0))))
        else (some (.inl (.c1 (updF (updF (fun _ => false) 0 true) (gb0_0).toNat true) 1 (updF (fun _ => 0) 0 gb0_0)))))
      else (none)))
    | .e2 gb0_0 gb0_1 => ((m_flow_program_named n0 A0 0).bind fun rb1 =>
      bif rb1.2 then
        (bif inR ((fun k => if k = 0 then gb0_0 else gb0_1) 0) n0 then
          (bif ((updF (fun _ => false) 0 true) (((fun k => if k = 0 then gb0_0 else gb0_1) 0)).toNat) then
            (bif inR ((fun k => if k = 0 then gb0_0 else gb0_1) 1) n0 then
              (bif ((updF (fun _ => false) 0 true) (((fun k => if k = 0 then gb0_0 else gb0_1) 1)).toNat) then
                (bif inR rb1.1 n0 then
                  (bif ((updF (fun _ => false) 0 true) (rb1.1).toNat) then
                    (some (.inl (.c1 (updF (fun _ => false) 0 true) 0 (fun _ => 0))))
                  else (some (.inl (.c1 (updF (updF (fun _ => false) 0 true) (rb1.1).toNat true) 1 (updF (fun _ => 0) 0 rb1.1)))))
                else (none))
              else (bindT (updF (updF (fun _ => false) 0 true) (((fun k => if k = 0 then gb0_0 else gb0_1) 1)).toNat true) fun rb2 =>
              bif inR rb1.1 n0 then
                (bif (rb2 (rb1.1).toNat) then
                  (some (.inl (.c1 rb2 1 (updF (fun _ => 0) 0 ((fun k => if k = 0 then gb0_0 else gb0_1) 1)))))
                else (bindT (updF (updF (fun _ => 0) 0 ((fun k => if k = 0 then gb0_0 else gb0_1) 1)) 1 rb1.1) fun rb3 =>
                some (.inl (.c1 (updF rb2 (rb1.1).toNat true) 2 rb3))))
              else (none)))
            else (none))
          else (bindT (updF (updF (fun _ => false) 0 true) (((fun k => if k = 0 then gb0_0 else gb0_1) 0)).toNat true) fun rb2 =>
          bif inR ((fun k => if k = 0 then gb0_0 else gb0_1) 1) n0 then
            (bif (rb2 (((fun k => if k = 0 then gb0_0 else gb0_1) 1)).toNat) then
              (bif inR rb1.1 n0 then
                (bif (rb2 (rb1.1).toNat) then
                  (some (.inl (.c1 rb2 1 (updF (fun _ => 0) 0 ((fun k => if k = 0 then gb0_0 else gb0_1) 0)))))
                else (bindT (updF (updF (fun _ => 0) 0 ((fun k => if k = 0 then gb0_0 else gb0_1) 0)) 1 rb1.1) fun rb3 =>
                some (.inl (.c1 (updF rb2 (rb1.1).toNat true) 2 rb3))))
              else (none))
            else (bindT (updF (updF (fun _ => 0) 0 ((fun k => if k = 0 then gb0_0 else gb0_1) 0)) 1 ((fun k => if k = 0 then gb0_0 else gb0_1) 1)) fun rb3 =>
            bif inR rb1.1 n0 then
              (bif ((updF rb2 (((fun k => if k = 0 then gb0_0 else gb0_1) 1)).toNat true) (rb1.1).toNat) then
                (some (.inl (.c1 (updF rb2 (((fun k => if k = 0 then gb0_0 else gb0_1) 1)).toNat true) 2 rb3)))
              else (bindT (updF (updF rb2 (((fun k => if k = 0 then gb0_0 else gb0_1) 1)).toNat true) (rb1.1).toNat true) fun rb4 =>
              some (.inl (.c1 rb4 3 (updF rb3 2 rb1.1)))))
            else (none)))
          else (none)))
        else (none))
      else (bif inR gb0_0 n0 then
        (bif ((updF (fun _ => false) 0 true) (gb0_0).toNat) then
          (bif inR gb0_1 n0 then
            (bif ((updF (fun _ => false) 0 true) (gb0_1).toNat) then
              (some (.inl (.c1 (updF (fun _ => false) 0 true) 0 (fun _ => 0))))
            else (some (.inl (.c1 (updF (updF (fun _ => false) 0 true) (gb0_1).toNat true) 1 (updF (fun _ => 0) 0 gb0_1)))))
          else (none))
        else (bif inR gb0_1 n0 then
          (bif ((updF (updF (fun _ => false) 0 true) (gb0_0).toNat true) (gb0_1).toNat) then
            (some (.inl (.c1 (updF (updF (fun _ => false) 0 true) (gb0_0).toNat true) 1 (updF (fun _ => 0) 0 gb0_0))))
          else (bindT (updF (updF (updF (fun _ => false) 0 true) (gb0_0).toNat true) (gb0_1).toNat true) fun rb2 =>
          some (.inl (.c1 rb2 2 (updF (updF (fun _ => 0) 0 gb0_0) 1 gb0_1)))))
        else (none)))
      else (none)))
  | .c1 s0_0 s0_1 s0_2 =>
    bif decide (0 < (s0_1 : Int)) then
      (bif inR (IntKind.i64.wrap ((s0_1 : Int) - 1)) s0_1 then
        (bif inR (IntKind.i64.wrap ((s0_1 : Int) - 1)) (s0_1 + 1) then
          (bif decide (s0_1 ≤ 1000000) then
            ((m_flow_program_next n0 A0 (s0_2 ((IntKind.i64.wrap ((s0_1 : Int) - 1))).toNat)).bind fun gb0 => match gb0 with
            | .e0  => ((m_flow_program_named n0 A0 (s0_2 ((IntKind.i64.wrap ((s0_1 : Int) - 1))).toNat)).bind fun rb1 =>
              bif rb1.2 then
                (bif inR ((fun _ => rb1.1) 0) n0 then
                  (bif (s0_0 (((fun _ => rb1.1) 0)).toNat) then
                    (some (.inl (.c1 s0_0 ((IntKind.i64.wrap ((s0_1 : Int) - 1))).toNat s0_2)))
                  else (bif decide (((IntKind.i64.wrap ((s0_1 : Int) - 1))).toNat ≤ 1000000) then
                    (bindT (updF s0_2 ((IntKind.i64.wrap ((s0_1 : Int) - 1))).toNat ((fun _ => rb1.1) 0)) fun rb2 =>
                    some (.inl (.c1 (updF s0_0 (((fun _ => rb1.1) 0)).toNat true) (((IntKind.i64.wrap ((s0_1 : Int) - 1))).toNat + 1) rb2)))
                  else (none)))
                else (none))
              else (some (.inl (.c1 s0_0 ((IntKind.i64.wrap ((s0_1 : Int) - 1))).toNat s0_2))))
            | .e1 gb0_0 => ((m_flow_program_named n0 A0 (s0_2 ((IntKind.i64.wrap ((s0_1 : Int) - 1))).toNat)).bind fun rb1 =>
              bif rb1.2 then
                (bif inR ((fun _ => gb0_0) 0) n0 then
                  (bif (s0_0 (((fun _ => gb0_0) 0)).toNat) then
                    (bif inR rb1.1 n0 then
                      (bif (s0_0 (rb1.1).toNat) then
                        (some (.inl (.c1 s0_0 ((IntKind.i64.wrap ((s0_1 : Int) - 1))).toNat s0_2)))
                      else (bif decide (((IntKind.i64.wrap ((s0_1 : Int) - 1))).toNat ≤ 1000000) then
                        (some (.inl (.c1 (updF s0_0 (rb1.1).toNat true) (((IntKind.i64.wrap ((s0_1 : Int) - 1))).toNat + 1) (updF s0_2 ((IntKind.i64.wrap ((s0_1 : Int) - 1))).toNat rb1.1))))
                      else (none)))
                    else (none))
                  else (bif decide (((IntKind.i64.wrap ((s0_1 : Int) - 1))).toNat ≤ 1000000) then
                    (bindT (updF s0_2 ((IntKind.i64.wrap ((s0_1 : Int) - 1))).toNat ((fun _ => gb0_0) 0)) fun rb2 =>
                    bif inR rb1.1 n0 then
                      (bif ((updF s0_0 (((fun _ => gb0_0) 0)).toNat true) (rb1.1).toNat) then
                        (some (.inl (.c1 (updF s0_0 (((fun _ => gb0_0) 0)).toNat true) (((IntKind.i64.wrap ((s0_1 : Int) - 1))).toNat + 1) rb2)))
                      else (bif decide ((((IntKind.i64.wrap ((s0_1 : Int) - 1))).toNat + 1) ≤ 1000000) then
                        (some (.inl (.c1 (updF (updF s0_0 (((fun _ => gb0_0) 0)).toNat true) (rb1.1).toNat true) ((((IntKind.i64.wrap ((s0_1 : Int) - 1))).toNat + 1) + 1) (updF rb2 (((IntKind.i64.wrap ((s0_1 : Int) - 1))).toNat + 1) rb1.1))))
                      else (none)))
                    else (none))
                  else (none)))
                else (none))
              else (bif inR gb0_0 n0 then
                (bif (s0_0 (gb0_0).toNat) then
                  (some (.inl (.c1 s0_0 ((IntKind.i64.wrap ((s0_1 : Int) - 1))).toNat s0_2)))
                else (bif decide (((IntKind.i64.wrap ((s0_1 : Int) - 1))).toNat ≤ 1000000) then
                  (some (.inl (.c1 (updF s0_0 (gb0_0).toNat true) (((IntKind.i64.wrap ((s0_1 : Int) - 1))).toNat + 1) (updF s0_2 ((IntKind.i64.wrap ((s0_1 : Int) - 1))).toNat gb0_0))))
                else (none)))
              else (none)))
            | .e2 gb0_0 gb0_1 => ((m_flow_program_named n0 A0 (s0_2 ((IntKind.i64.wrap ((s0_1 : Int) - 1))).toNat)).bind fun rb1 =>
              bif rb1.2 then
                (bif inR ((fun k => if k = 0 then gb0_0 else gb0_1) 0) n0 then
                  (bif (s0_0 (((fun k => if k = 0 then gb0_0 else gb0_1) 0)).toNat) then
                    (bif inR ((fun k => if k = 0 then gb0_0 else gb0_1) 1) n0 then
                      (bif (s0_0 (((fun k => if k = 0 then gb0_0 else gb0_1) 1)).toNat) then
                        (bif inR rb1.1 n0 then
                          (bif (s0_0 (rb1.1).toNat) then
                            (some (.inl (.c1 s0_0 ((IntKind.i64.wrap ((s0_1 : Int) - 1))).toNat s0_2)))
                          else (bif decide (((IntKind.i64.wrap ((s0_1 : Int) - 1))).toNat ≤ 1000000) then
                            (some (.inl (.c1 (updF s0_0 (rb1.1).toNat true) (((IntKind.i64.wrap ((s0_1 : Int) - 1))).toNat + 1) (updF s0_2 ((IntKind.i64.wrap ((s0_1 : Int) - 1))).toNat rb1.1))))
                          else (none)))
                        else (none))
                      else (bif decide (((IntKind.i64.wrap ((s0_1 : Int) - 1))).toNat ≤ 1000000) then
                        (bindT (updF s0_2 ((IntKind.i64.wrap ((s0_1 : Int) - 1))).toNat ((fun k => if k = 0 then gb0_0 else gb0_1) 1)) fun rb2 =>
                        bif inR rb1.1 n0 then
                          (bif ((updF s0_0 (((fun k => if k = 0 then gb0_0 else gb0_1) 1)).toNat true) (rb1.1).toNat) then
                            (some (.inl (.c1 (updF s0_0 (((fun k => if k = 0 then gb0_0 else gb0_1) 1)).toNat true) (((IntKind.i64.wrap ((s0_1 : Int) - 1))).toNat + 1) rb2)))
                          else (bindT (updF (updF s0_0 (((fun k => if k = 0 then gb0_0 else gb0_1) 1)).toNat true) (rb1.1).toNat true) fun rb3 =>
                          bif decide ((((IntKind.i64.wrap ((s0_1 : Int) - 1))).toNat + 1) ≤ 1000000) then
                            (some (.inl (.c1 rb3 ((((IntKind.i64.wrap ((s0_1 : Int) - 1))).toNat + 1) + 1) (updF rb2 (((IntKind.i64.wrap ((s0_1 : Int) - 1))).toNat + 1) rb1.1))))
                          else (none)))
                        else (none))
                      else (none)))
                    else (none))
                  else (bif decide (((IntKind.i64.wrap ((s0_1 : Int) - 1))).toNat ≤ 1000000) then
                    (bindT (updF s0_2 ((IntKind.i64.wrap ((s0_1 : Int) - 1))).toNat ((fun k => if k = 0 then gb0_0 else gb0_1) 0)) fun rb2 =>
                    bif inR ((fun k => if k = 0 then gb0_0 else gb0_1) 1) n0 then
                      (bif ((updF s0_0 (((fun k => if k = 0 then gb0_0 else gb0_1) 0)).toNat true) (((fun k => if k = 0 then gb0_0 else gb0_1) 1)).toNat) then
                        (bif inR rb1.1 n0 then
                          (bif ((updF s0_0 (((fun k => if k = 0 then gb0_0 else gb0_1) 0)).toNat true) (rb1.1).toNat) then
                            (some (.inl (.c1 (updF s0_0 (((fun k => if k = 0 then gb0_0 else gb0_1) 0)).toNat true) (((IntKind.i64.wrap ((s0_1 : Int) - 1))).toNat + 1) rb2)))
                          else (bindT (updF (updF s0_0 (((fun k => if k = 0 then gb0_0 else gb0_1) 0)).toNat true) (rb1.1).toNat true) fun rb3 =>
                          bif decide ((((IntKind.i64.wrap ((s0_1 : Int) - 1))).toNat + 1) ≤ 1000000) then
                            (some (.inl (.c1 rb3 ((((IntKind.i64.wrap ((s0_1 : Int) - 1))).toNat + 1) + 1) (updF rb2 (((IntKind.i64.wrap ((s0_1 : Int) - 1))).toNat + 1) rb1.1))))
                          else (none)))
                        else (none))
                      else (bindT (updF (updF s0_0 (((fun k => if k = 0 then gb0_0 else gb0_1) 0)).toNat true) (((fun k => if k = 0 then gb0_0 else gb0_1) 1)).toNat true) fun rb3 =>
                      bif decide ((((IntKind.i64.wrap ((s0_1 : Int) - 1))).toNat + 1) ≤ 1000000) then
                        (bindT (updF rb2 (((IntKind.i64.wrap ((s0_1 : Int) - 1))).toNat + 1) ((fun k => if k = 0 then gb0_0 else gb0_1) 1)) fun rb4 =>
                        bif inR rb1.1 n0 then
                          (bif (rb3 (rb1.1).toNat) then
                            (some (.inl (.c1 rb3 ((((IntKind.i64.wrap ((s0_1 : Int) - 1))).toNat + 1) + 1) rb4)))
                          else (bif decide (((((IntKind.i64.wrap ((s0_1 : Int) - 1))).toNat + 1) + 1) ≤ 1000000) then
                            (bindT (updF rb4 ((((IntKind.i64.wrap ((s0_1 : Int) - 1))).toNat + 1) + 1) rb1.1) fun rb5 =>
                            some (.inl (.c1 (updF rb3 (rb1.1).toNat true) (((((IntKind.i64.wrap ((s0_1 : Int) - 1))).toNat + 1) + 1) + 1) rb5)))
                          else (none)))
                        else (none))
                      else (none)))
                    else (none))
                  else (none)))
                else (none))
              else (bif inR gb0_0 n0 then
                (bif (s0_0 (gb0_0).toNat) then
                  (bif inR gb0_1 n0 then
                    (bif (s0_0 (gb0_1).toNat) then
                      (some (.inl (.c1 s0_0 ((IntKind.i64.wrap ((s0_1 : Int) - 1))).toNat s0_2)))
                    else (bif decide (((IntKind.i64.wrap ((s0_1 : Int) - 1))).toNat ≤ 1000000) then
                      (some (.inl (.c1 (updF s0_0 (gb0_1).toNat true) (((IntKind.i64.wrap ((s0_1 : Int) - 1))).toNat + 1) (updF s0_2 ((IntKind.i64.wrap ((s0_1 : Int) - 1))).toNat gb0_1))))
                    else (none)))
                  else (none))
                else (bif decide (((IntKind.i64.wrap ((s0_1 : Int) - 1))).toNat ≤ 1000000) then
                  (bif inR gb0_1 n0 then
                    (bif ((updF s0_0 (gb0_0).toNat true) (gb0_1).toNat) then
                      (some (.inl (.c1 (updF s0_0 (gb0_0).toNat true) (((IntKind.i64.wrap ((s0_1 : Int) - 1))).toNat + 1) (updF s0_2 ((IntKind.i64.wrap ((s0_1 : Int) - 1))).toNat gb0_0))))
                    else (bif decide ((((IntKind.i64.wrap ((s0_1 : Int) - 1))).toNat + 1) ≤ 1000000) then
                      (bindT (updF (updF s0_2 ((IntKind.i64.wrap ((s0_1 : Int) - 1))).toNat gb0_0) (((IntKind.i64.wrap ((s0_1 : Int) - 1))).toNat + 1) gb0_1) fun rb2 =>
                      some (.inl (.c1 (updF (updF s0_0 (gb0_0).toNat true) (gb0_1).toNat true) ((((IntKind.i64.wrap ((s0_1 : Int) - 1))).toNat + 1) + 1) rb2)))
                    else (none)))
                  else (none))
                else (none)))
              else (none))))
          else (none))
        else (none))
      else (none))
    else (some (.inr (.e0 s0_0)))
noncomputable def bd_flow_program_reached_L0 : Code := codeOf Try.f26 [1, 1, 1, 1, 0, 0, 0]
def fl_flow_program_reached_L0 (a0 : Option Addr) (p0 : Nat) (q0 : Nat) (n0 : Nat) (k0 : Nat) (A0 : Nat → Insn) : Sh_flow_program_reached_L0 → List L1 → List Value
  | .c0 , ls => [.slice a0 n0 (n0 + k0), .slice none 0 0, (rowV (lget ls 0) n0 1), .slice (some ⟨(lget ls 1).n, 0, none⟩) 1 1]
  | .c1 s0_0 s0_1 s0_2, ls => [.slice a0 n0 (n0 + k0), .slice none 0 0, (rowV (lget ls 0) n0 1), (rowV (lget ls 1) s0_1 1)]
def mf_flow_program_reached_L0 : Sh_flow_program_reached_L0 → List (Nat × Nat)
  | .c0  => [(1, 1), (3, 60)]
  | .c1 _ _ _ => [(1, 1), (3, 60)]
noncomputable def fr_flow_program_reached_L0 (a0 : Option Addr) (p0 : Nat) (q0 : Nat) (n0 : Nat) (k0 : Nat) (A0 : Nat → Insn) (s : Sh_flow_program_reached_L0) : List L1 → List Value := mrgF (mf_flow_program_reached_L0 s) (fl_flow_program_reached_L0 a0 p0 q0 n0 k0 A0 s) 2
def Hs_flow_program_reached_L0 (a0 : Option Addr) (p0 : Nat) (q0 : Nat) (n0 : Nat) (k0 : Nat) (A0 : Nat → Insn) : Sh_flow_program_reached_L0 → List L1 → List Obj
  | .c0 , ls => [rowO (lget ls 0) (esG cB n0 (updF (fun _ => false) 0 true)) 4 n0 1, .cells #[.int .i64 (0)] 3, unb]
  | .c1 s0_0 s0_1 s0_2, ls => [rowO (lget ls 0) (esG cB n0 s0_0) 4 n0 1, rowO (lget ls 1) (esG cZ s0_1 s0_2) 3 s0_1 1, unb]
def vl_flow_program_reached_L0 (a0 : Option Addr) (p0 : Nat) (q0 : Nat) (n0 : Nat) (k0 : Nat) (A0 : Nat → Insn) : Ex_flow_program_reached_L0 → List L1 → List Value
  | .e0 c0_0, ls => [.slice a0 n0 (n0 + k0), .slice none 0 0, (rowV (lget ls 0) n0 1)]
def mk_flow_program_reached_L0 : Ex_flow_program_reached_L0 → List (Nat × Nat)
  | .e0 _ => [(1, 1), (2, 61)]
noncomputable def vf_flow_program_reached_L0 (a0 : Option Addr) (p0 : Nat) (q0 : Nat) (n0 : Nat) (k0 : Nat) (A0 : Nat → Insn) (r : Ex_flow_program_reached_L0) : List L1 → List Value := mrgF (mk_flow_program_reached_L0 r) (vl_flow_program_reached_L0 a0 p0 q0 n0 k0 A0 r) 2
def Hf_flow_program_reached_L0 (a0 : Option Addr) (p0 : Nat) (q0 : Nat) (n0 : Nat) (k0 : Nat) (A0 : Nat → Insn) : Ex_flow_program_reached_L0 → List L1 → List Obj
  | .e0 c0_0, ls => [rowO (lget ls 0) (esG cB n0 c0_0) 4 n0 1, unb, unb]
def ex_flow_program_reached_L0 : Ex_flow_program_reached_L0 → Ex
  | .e0 _ => (.exit 0)
end
section
variable {M : Nat → Prop} {B0 : Nat} {S : World → Prop} (hU : Up M B0 S) (a0 : Option Addr) (p0 : Nat) (q0 : Nat) (n0 : Nat) (k0 : Nat) (A0 : Nat → Insn) (hR0 : Ro S c_Insn 5 a0 p0 q0 n0 A0)
include hU a0 p0 q0 n0 k0 A0 hR0
theorem go_flow_program_reached_L0 (s : Sh_flow_program_reached_L0) (r : Ex_flow_program_reached_L0) (h : lpO (st_flow_program_reached_L0 n0 A0) s = some r) : GoesG Try.prog M B0 S (.loop bd_flow_program_reached_L0) 3 (fr_flow_program_reached_L0 a0 p0 q0 n0 k0 A0 s) (Hs_flow_program_reached_L0 a0 p0 q0 n0 k0 A0 s) (ex_flow_program_reached_L0 r) 1 (vf_flow_program_reached_L0 a0 p0 q0 n0 k0 A0 r) (Hf_flow_program_reached_L0 a0 p0 q0 n0 k0 A0 r) 3 :=
  goes_lpO (fun s q e => by
    cases s with
    | c0  =>
      unfold st_flow_program_reached_L0 at e
      dsimp only at e
      replace e := bindO_eq e
      obtain ⟨gb0, e_gb0, e⟩ := e
      let P1 : List (PG Try.prog M B0 S) := [.o, .o, .o, .o, .o, .o, .o, .o, .a 1, .o, .o, .o, .o, .o, .x (sqShrP_ok rt33 (f := cZ) (N := 1) (A := (fun _ => 0)) (x := 0) [.int .i64 (0)] rfl cZ_len (fun w => by kernel_rfl) (show inR 0 (1 + 1) = true from by decide) (by decide)) [1], .o, .o, .o]
      rcases gb0 with _ | ⟨gb0_0⟩ | ⟨gb0_0, gb0_1⟩
      · try dsimp only at e
        replace e := bindO_eq e
        obtain ⟨rb1, e_rb1, e⟩ := e
        try dsimp only at e
        replace e := cond_eq_or e
        let P2 : List (PG Try.prog M B0 S) := P1 ++ [.xg (ok0_flow_program_next hU a0 p0 q0 n0 k0 A0 hR0 0  e_gb0) [], .o, .o, .o, .cg (ok_flow_program_named hU a0 p0 q0 n0 k0 A0 hR0 0 rb1 e_rb1), .o, .o]
        rcases e with ⟨hq0, e⟩ | ⟨hq0, e⟩
        · replace e := cond_eq_or e
          let P3 : List (PG Try.prog M B0 S) := P2 ++ [.b hq0, .o, .o, .o, .o, .o, .o, .x (sqAppL1_ok (ty := 33) rt33 #[false, false] (f := cZ) (c := 1) rb1.1 (T' := 3) cZ_len cZ_one (by decide)) [4], .o, .o, .o, .o, .o, .q (ixM_ok (kd := .i64) (T := 33) (x := 0) (N := 1) (sz := 1) rfl (fun w => by kernel_rfl) (show inR 0 1 = true from by decide)), .l (accG (i := 5) (f := cZ) (A := (fun _ => rb1.1)) (k := 0) 0 [.int .i64 (((fun _ => rb1.1) 0))] cZ_len (inR_nat (show inR 0 1 = true from by decide)) rfl), .o, .o, .o]
          rcases e with ⟨hq1, e⟩ | ⟨hq1, e⟩
          · replace e := cond_eq_or e
            let P4 : List (PG Try.prog M B0 S) := P3 ++ [.q (ixM_ok (kd := .i64) (T := 24) (x := ((fun _ => rb1.1) 0)) (N := n0) (sz := 1) rfl (fun w => by kernel_rfl) hq1)]
            rcases e with ⟨hq2, e⟩ | ⟨hq2, e⟩
            · cases e; exact goes_runM hU (P4 ++ [.l (accG (i := 0) (f := cB) (A := updF (fun _ => false) 0 true) (k := (((fun _ => rb1.1) 0)).toNat) 0 [.bool true] cB_len (inR_nat hq1) (congrArg (fun b => [Value.bool b]) hq2)), .o, .o, .o, .o]) [0, 3] (fun b => rfl) (by decide) rfl rfl (fun b => by kernel_rfl)
            · cases e; exact goes_runM hU (P4 ++ [.l (accG (i := 0) (f := cB) (A := updF (fun _ => false) 0 true) (k := (((fun _ => rb1.1) 0)).toNat) 0 [.bool false] cB_len (inR_nat hq1) (congrArg (fun b => [Value.bool b]) hq2)), .o, .o, .o, .q (ixM_ok (kd := .i64) (T := 24) (x := ((fun _ => rb1.1) 0)) (N := n0) (sz := 1) rfl (fun w => by kernel_rfl) hq1), .x (sqStG_ok (T := 4) (e := 4) (f := cB) (A := updF (fun _ => false) 0 true) (v := true) 0 (.bool true) cB_len cB_one rfl rfl (fun w => by kernel_rfl) (inR_nat hq1)) [0], .o, .o, .o, .x (sqAppL_ok (ty := 33) rt33 #[false, false] (f := cZ) (N := 0) (A := (fun _ => 0)) (c := 1) [((fun _ => rb1.1) 0)] (T' := 3) .row cZ_len cZ_one (by decide) rfl (by decide)) [3, 6], .o, .o, .o, .o]) [0, 7] (fun b => rfl) (by decide) rfl rfl (fun b => by kernel_rfl)
          · exact none_some e
        · cases e; exact goes_runM hU (P2 ++ [.b hq0, .o, .o, .o, .o, .o, .o, .o]) [0, 3] (fun b => rfl) (by decide) rfl rfl (fun b => by kernel_rfl)
      · try dsimp only at e
        replace e := bindO_eq e
        obtain ⟨rb1, e_rb1, e⟩ := e
        try dsimp only at e
        replace e := cond_eq_or e
        let P5 : List (PG Try.prog M B0 S) := P1 ++ [.xg (ok1_flow_program_next hU a0 p0 q0 n0 k0 A0 hR0 0 gb0_0 e_gb0) [], .o, .o, .o, .cg (ok_flow_program_named hU a0 p0 q0 n0 k0 A0 hR0 0 rb1 e_rb1), .o, .o]
        rcases e with ⟨hq0, e⟩ | ⟨hq0, e⟩
        · replace e := cond_eq_or e
          let P6 : List (PG Try.prog M B0 S) := P5 ++ [.b hq0, .o, .o, .o, .o, .o, .o, .x (sqAppL_ok (ty := 33) rt33 #[false, false] (f := cZ) (N := 1) (A := (fun _ => gb0_0)) (c := 1) [rb1.1] (T' := 3) .plain cZ_len cZ_one (by decide) rfl (by decide)) [4, 5], .o, .o, .o, .o, .o, .q (ixM_ok (kd := .i64) (T := 33) (x := 0) (N := 2) (sz := 1) rfl (fun w => by kernel_rfl) (show inR 0 2 = true from by decide)), .l (accG (i := 6) (f := cZ) (A := updF (fun _ => gb0_0) 1 rb1.1) (k := 0) 0 [.int .i64 (((fun _ => gb0_0) 0))] cZ_len (inR_nat (show inR 0 2 = true from by decide)) rfl), .o, .o, .o]
          rcases e with ⟨hq1, e⟩ | ⟨hq1, e⟩
          · replace e := cond_eq_or e
            let P7 : List (PG Try.prog M B0 S) := P6 ++ [.q (ixM_ok (kd := .i64) (T := 24) (x := ((fun _ => gb0_0) 0)) (N := n0) (sz := 1) rfl (fun w => by kernel_rfl) hq1)]
            rcases e with ⟨hq2, e⟩ | ⟨hq2, e⟩
            · replace e := cond_eq_or e
              let P8 : List (PG Try.prog M B0 S) := P7 ++ [.l (accG (i := 0) (f := cB) (A := updF (fun _ => false) 0 true) (k := (((fun _ => gb0_0) 0)).toNat) 0 [.bool true] cB_len (inR_nat hq1) (congrArg (fun b => [Value.bool b]) hq2)), .o, .o, .o, .o, .q (ixM_ok (kd := .i64) (T := 33) (x := 1) (N := 2) (sz := 1) rfl (fun w => by kernel_rfl) (show inR 1 2 = true from by decide)), .l (accG (i := 6) (f := cZ) (A := updF (fun _ => gb0_0) 1 rb1.1) (k := 1) 0 [.int .i64 (rb1.1)] cZ_len (inR_nat (show inR 1 2 = true from by decide)) rfl), .o, .o, .o]
              rcases e with ⟨hq3, e⟩ | ⟨hq3, e⟩
              · replace e := cond_eq_or e
                let P9 : List (PG Try.prog M B0 S) := P8 ++ [.q (ixM_ok (kd := .i64) (T := 24) (x := rb1.1) (N := n0) (sz := 1) rfl (fun w => by kernel_rfl) hq3)]
                rcases e with ⟨hq4, e⟩ | ⟨hq4, e⟩
                · cases e; exact goes_runM hU (P9 ++ [.l (accG (i := 0) (f := cB) (A := updF (fun _ => false) 0 true) (k := (rb1.1).toNat) 0 [.bool true] cB_len (inR_nat hq3) (congrArg (fun b => [Value.bool b]) hq4)), .o, .o, .o, .o]) [0, 3] (fun b => rfl) (by decide) rfl rfl (fun b => by kernel_rfl)
                · cases e; exact goes_runM hU (P9 ++ [.l (accG (i := 0) (f := cB) (A := updF (fun _ => false) 0 true) (k := (rb1.1).toNat) 0 [.bool false] cB_len (inR_nat hq3) (congrArg (fun b => [Value.bool b]) hq4)), .o, .o, .o, .q (ixM_ok (kd := .i64) (T := 24) (x := rb1.1) (N := n0) (sz := 1) rfl (fun w => by kernel_rfl) hq3), .x (sqStG_ok (T := 4) (e := 4) (f := cB) (A := updF (fun _ => false) 0 true) (v := true) 0 (.bool true) cB_len cB_one rfl rfl (fun w => by kernel_rfl) (inR_nat hq3)) [0], .o, .o, .o, .x (sqAppL_ok (ty := 33) rt33 #[false, false] (f := cZ) (N := 0) (A := (fun _ => 0)) (c := 1) [rb1.1] (T' := 3) .row cZ_len cZ_one (by decide) rfl (by decide)) [3, 7], .o, .o, .o, .o]) [0, 8] (fun b => rfl) (by decide) rfl rfl (fun b => by kernel_rfl)
              · exact none_some e
            · replace e := cond_eq_or e
              let P10 : List (PG Try.prog M B0 S) := P7 ++ [.l (accG (i := 0) (f := cB) (A := updF (fun _ => false) 0 true) (k := (((fun _ => gb0_0) 0)).toNat) 0 [.bool false] cB_len (inR_nat hq1) (congrArg (fun b => [Value.bool b]) hq2)), .o, .o, .o, .q (ixM_ok (kd := .i64) (T := 24) (x := ((fun _ => gb0_0) 0)) (N := n0) (sz := 1) rfl (fun w => by kernel_rfl) hq1), .x (sqStG_ok (T := 4) (e := 4) (f := cB) (A := updF (fun _ => false) 0 true) (v := true) 0 (.bool true) cB_len cB_one rfl rfl (fun w => by kernel_rfl) (inR_nat hq1)) [0], .o, .o, .o, .x (sqAppL_ok (ty := 33) rt33 #[false, false] (f := cZ) (N := 0) (A := (fun _ => 0)) (c := 1) [((fun _ => gb0_0) 0)] (T' := 3) .row cZ_len cZ_one (by decide) rfl (by decide)) [3, 7], .o, .o, .o, .o, .q (ixM_ok (kd := .i64) (T := 33) (x := 1) (N := 2) (sz := 1) rfl (fun w => by kernel_rfl) (show inR 1 2 = true from by decide)), .l (accG (i := 6) (f := cZ) (A := updF (fun _ => gb0_0) 1 rb1.1) (k := 1) 0 [.int .i64 (rb1.1)] cZ_len (inR_nat (show inR 1 2 = true from by decide)) rfl), .o, .o, .o]
              rcases e with ⟨hq3, e⟩ | ⟨hq3, e⟩
              · replace e := cond_eq_or e
                let P11 : List (PG Try.prog M B0 S) := P10 ++ [.q (ixM_ok (kd := .i64) (T := 24) (x := rb1.1) (N := n0) (sz := 1) rfl (fun w => by kernel_rfl) hq3)]
                rcases e with ⟨hq4, e⟩ | ⟨hq4, e⟩
                · cases e; exact goes_runM hU (P11 ++ [.l (accG (i := 0) (f := cB) (A := updF (updF (fun _ => false) 0 true) (((fun _ => gb0_0) 0)).toNat true) (k := (rb1.1).toNat) 0 [.bool true] cB_len (inR_nat hq3) (congrArg (fun b => [Value.bool b]) hq4)), .o, .o, .o, .o]) [0, 8] (fun b => rfl) (by decide) rfl rfl (fun b => by kernel_rfl)
                · replace e := bindT_eq e
                  obtain ⟨rb2, e_rb2, e⟩ := e
                  try dsimp only at e
                  cases e; exact goes_runM hU (P11 ++ [.l (accG (i := 0) (f := cB) (A := updF (updF (fun _ => false) 0 true) (((fun _ => gb0_0) 0)).toNat true) (k := (rb1.1).toNat) 0 [.bool false] cB_len (inR_nat hq3) (congrArg (fun b => [Value.bool b]) hq4)), .o, .o, .o, .q (ixM_ok (kd := .i64) (T := 24) (x := rb1.1) (N := n0) (sz := 1) rfl (fun w => by kernel_rfl) hq3), .x (sqStGr_ok (T := 4) (e := 4) (f := cB) (A := updF (updF (fun _ => false) 0 true) (((fun _ => gb0_0) 0)).toNat true) (v := true) 0 (.bool true) cB_len cB_one rfl rfl (fun w => by kernel_rfl) (inR_nat hq3) e_rb2) [0], .o, .o, .o, .x (sqAppL_ok (ty := 33) rt33 #[false, false] (f := cZ) (N := 1) (A := updF (fun _ => 0) 0 ((fun _ => gb0_0) 0)) (c := 1) [rb1.1] (T' := 3) .row cZ_len cZ_one (by decide) rfl (by decide)) [8, 9], .o, .o, .o, .o]) [0, 10] (fun b => rfl) (by decide) rfl rfl (fun b => by kernel_rfl)
              · exact none_some e
          · exact none_some e
        · replace e := cond_eq_or e
          rcases e with ⟨hq1, e⟩ | ⟨hq1, e⟩
          · replace e := cond_eq_or e
            let P12 : List (PG Try.prog M B0 S) := P5 ++ [.b hq0, .o, .o, .o, .o, .o, .o, .o, .o, .a 4, .o, .o, .o, .q (ixM_ok (kd := .i64) (T := 24) (x := gb0_0) (N := n0) (sz := 1) rfl (fun w => by kernel_rfl) hq1)]
            rcases e with ⟨hq2, e⟩ | ⟨hq2, e⟩
            · cases e; exact goes_runM hU (P12 ++ [.l (accG (i := 0) (f := cB) (A := updF (fun _ => false) 0 true) (k := (gb0_0).toNat) 0 [.bool true] cB_len (inR_nat hq1) (congrArg (fun b => [Value.bool b]) hq2)), .o, .o, .o, .o]) [0, 3] (fun b => rfl) (by decide) rfl rfl (fun b => by kernel_rfl)
            · cases e; exact goes_runM hU (P12 ++ [.l (accG (i := 0) (f := cB) (A := updF (fun _ => false) 0 true) (k := (gb0_0).toNat) 0 [.bool false] cB_len (inR_nat hq1) (congrArg (fun b => [Value.bool b]) hq2)), .o, .o, .o, .q (ixM_ok (kd := .i64) (T := 24) (x := gb0_0) (N := n0) (sz := 1) rfl (fun w => by kernel_rfl) hq1), .x (sqStG_ok (T := 4) (e := 4) (f := cB) (A := updF (fun _ => false) 0 true) (v := true) 0 (.bool true) cB_len cB_one rfl rfl (fun w => by kernel_rfl) (inR_nat hq1)) [0], .o, .o, .o, .x (sqAppL_ok (ty := 33) rt33 #[false, false] (f := cZ) (N := 0) (A := (fun _ => 0)) (c := 1) [gb0_0] (T' := 3) .row cZ_len cZ_one (by decide) rfl (by decide)) [3, 5], .o, .o, .o, .o]) [0, 6] (fun b => rfl) (by decide) rfl rfl (fun b => by kernel_rfl)
          · exact none_some e
      · try dsimp only at e
        replace e := bindO_eq e
        obtain ⟨rb1, e_rb1, e⟩ := e
        try dsimp only at e
        replace e := cond_eq_or e
        let P13 : List (PG Try.prog M B0 S) := P1 ++ [.xg (ok2_flow_program_next hU a0 p0 q0 n0 k0 A0 hR0 0 gb0_0 gb0_1 e_gb0) [], .o, .o, .o, .cg (ok_flow_program_named hU a0 p0 q0 n0 k0 A0 hR0 0 rb1 e_rb1), .o, .o]
        rcases e with ⟨hq0, e⟩ | ⟨hq0, e⟩
        · replace e := cond_eq_or e
          let P14 : List (PG Try.prog M B0 S) := P13 ++ [.b hq0, .o, .o, .o, .o, .o, .o, .x (sqAppL_ok (ty := 33) rt33 #[false, false] (f := cZ) (N := 2) (A := (fun k => if k = 0 then gb0_0 else gb0_1)) (c := 1) [rb1.1] (T' := 3) .plain cZ_len cZ_one (by decide) rfl (by decide)) [4, 5], .o, .o, .o, .o, .o, .q (ixM_ok (kd := .i64) (T := 33) (x := 0) (N := 3) (sz := 1) rfl (fun w => by kernel_rfl) (show inR 0 3 = true from by decide)), .l (accG (i := 6) (f := cZ) (A := updF (fun k => if k = 0 then gb0_0 else gb0_1) 2 rb1.1) (k := 0) 0 [.int .i64 (((fun k => if k = 0 then gb0_0 else gb0_1) 0))] cZ_len (inR_nat (show inR 0 3 = true from by decide)) rfl), .o, .o, .o]
          rcases e with ⟨hq1, e⟩ | ⟨hq1, e⟩
          · replace e := cond_eq_or e
            let P15 : List (PG Try.prog M B0 S) := P14 ++ [.q (ixM_ok (kd := .i64) (T := 24) (x := ((fun k => if k = 0 then gb0_0 else gb0_1) 0)) (N := n0) (sz := 1) rfl (fun w => by kernel_rfl) hq1)]
            rcases e with ⟨hq2, e⟩ | ⟨hq2, e⟩
            · replace e := cond_eq_or e
              let P16 : List (PG Try.prog M B0 S) := P15 ++ [.l (accG (i := 0) (f := cB) (A := updF (fun _ => false) 0 true) (k := (((fun k => if k = 0 then gb0_0 else gb0_1) 0)).toNat) 0 [.bool true] cB_len (inR_nat hq1) (congrArg (fun b => [Value.bool b]) hq2)), .o, .o, .o, .o, .q (ixM_ok (kd := .i64) (T := 33) (x := 1) (N := 3) (sz := 1) rfl (fun w => by kernel_rfl) (show inR 1 3 = true from by decide)), .l (accG (i := 6) (f := cZ) (A := updF (fun k => if k = 0 then gb0_0 else gb0_1) 2 rb1.1) (k := 1) 0 [.int .i64 (((fun k => if k = 0 then gb0_0 else gb0_1) 1))] cZ_len (inR_nat (show inR 1 3 = true from by decide)) rfl), .o, .o, .o]
              rcases e with ⟨hq3, e⟩ | ⟨hq3, e⟩
              · replace e := cond_eq_or e
                let P17 : List (PG Try.prog M B0 S) := P16 ++ [.q (ixM_ok (kd := .i64) (T := 24) (x := ((fun k => if k = 0 then gb0_0 else gb0_1) 1)) (N := n0) (sz := 1) rfl (fun w => by kernel_rfl) hq3)]
                rcases e with ⟨hq4, e⟩ | ⟨hq4, e⟩
                · replace e := cond_eq_or e
                  let P18 : List (PG Try.prog M B0 S) := P17 ++ [.l (accG (i := 0) (f := cB) (A := updF (fun _ => false) 0 true) (k := (((fun k => if k = 0 then gb0_0 else gb0_1) 1)).toNat) 0 [.bool true] cB_len (inR_nat hq3) (congrArg (fun b => [Value.bool b]) hq4)), .o, .o, .o, .o, .q (ixM_ok (kd := .i64) (T := 33) (x := 2) (N := 3) (sz := 1) rfl (fun w => by kernel_rfl) (show inR 2 3 = true from by decide)), .l (accG (i := 6) (f := cZ) (A := updF (fun k => if k = 0 then gb0_0 else gb0_1) 2 rb1.1) (k := 2) 0 [.int .i64 (rb1.1)] cZ_len (inR_nat (show inR 2 3 = true from by decide)) rfl), .o, .o, .o]
                  rcases e with ⟨hq5, e⟩ | ⟨hq5, e⟩
                  · replace e := cond_eq_or e
                    let P19 : List (PG Try.prog M B0 S) := P18 ++ [.q (ixM_ok (kd := .i64) (T := 24) (x := rb1.1) (N := n0) (sz := 1) rfl (fun w => by kernel_rfl) hq5)]
                    rcases e with ⟨hq6, e⟩ | ⟨hq6, e⟩
                    · cases e; exact goes_runM hU (P19 ++ [.l (accG (i := 0) (f := cB) (A := updF (fun _ => false) 0 true) (k := (rb1.1).toNat) 0 [.bool true] cB_len (inR_nat hq5) (congrArg (fun b => [Value.bool b]) hq6)), .o, .o, .o, .o]) [0, 3] (fun b => rfl) (by decide) rfl rfl (fun b => by kernel_rfl)
                    · cases e; exact goes_runM hU (P19 ++ [.l (accG (i := 0) (f := cB) (A := updF (fun _ => false) 0 true) (k := (rb1.1).toNat) 0 [.bool false] cB_len (inR_nat hq5) (congrArg (fun b => [Value.bool b]) hq6)), .o, .o, .o, .q (ixM_ok (kd := .i64) (T := 24) (x := rb1.1) (N := n0) (sz := 1) rfl (fun w => by kernel_rfl) hq5), .x (sqStG_ok (T := 4) (e := 4) (f := cB) (A := updF (fun _ => false) 0 true) (v := true) 0 (.bool true) cB_len cB_one rfl rfl (fun w => by kernel_rfl) (inR_nat hq5)) [0], .o, .o, .o, .x (sqAppL_ok (ty := 33) rt33 #[false, false] (f := cZ) (N := 0) (A := (fun _ => 0)) (c := 1) [rb1.1] (T' := 3) .row cZ_len cZ_one (by decide) rfl (by decide)) [3, 7], .o, .o, .o, .o]) [0, 8] (fun b => rfl) (by decide) rfl rfl (fun b => by kernel_rfl)
                  · exact none_some e
                · replace e := bindT_eq e
                  obtain ⟨rb2, e_rb2, e⟩ := e
                  try dsimp only at e
                  replace e := cond_eq_or e
                  let P20 : List (PG Try.prog M B0 S) := P17 ++ [.l (accG (i := 0) (f := cB) (A := updF (fun _ => false) 0 true) (k := (((fun k => if k = 0 then gb0_0 else gb0_1) 1)).toNat) 0 [.bool false] cB_len (inR_nat hq3) (congrArg (fun b => [Value.bool b]) hq4)), .o, .o, .o, .q (ixM_ok (kd := .i64) (T := 24) (x := ((fun k => if k = 0 then gb0_0 else gb0_1) 1)) (N := n0) (sz := 1) rfl (fun w => by kernel_rfl) hq3), .x (sqStGr_ok (T := 4) (e := 4) (f := cB) (A := updF (fun _ => false) 0 true) (v := true) 0 (.bool true) cB_len cB_one rfl rfl (fun w => by kernel_rfl) (inR_nat hq3) e_rb2) [0], .o, .o, .o, .x (sqAppL_ok (ty := 33) rt33 #[false, false] (f := cZ) (N := 0) (A := (fun _ => 0)) (c := 1) [((fun k => if k = 0 then gb0_0 else gb0_1) 1)] (T' := 3) .row cZ_len cZ_one (by decide) rfl (by decide)) [3, 7], .o, .o, .o, .o, .q (ixM_ok (kd := .i64) (T := 33) (x := 2) (N := 3) (sz := 1) rfl (fun w => by kernel_rfl) (show inR 2 3 = true from by decide)), .l (accG (i := 6) (f := cZ) (A := updF (fun k => if k = 0 then gb0_0 else gb0_1) 2 rb1.1) (k := 2) 0 [.int .i64 (rb1.1)] cZ_len (inR_nat (show inR 2 3 = true from by decide)) rfl), .o, .o, .o]
                  rcases e with ⟨hq5, e⟩ | ⟨hq5, e⟩
                  · replace e := cond_eq_or e
                    let P21 : List (PG Try.prog M B0 S) := P20 ++ [.q (ixM_ok (kd := .i64) (T := 24) (x := rb1.1) (N := n0) (sz := 1) rfl (fun w => by kernel_rfl) hq5)]
                    rcases e with ⟨hq6, e⟩ | ⟨hq6, e⟩
                    · cases e; exact goes_runM hU (P21 ++ [.l (accG (i := 0) (f := cB) (A := rb2) (k := (rb1.1).toNat) 0 [.bool true] cB_len (inR_nat hq5) (congrArg (fun b => [Value.bool b]) hq6)), .o, .o, .o, .o]) [0, 8] (fun b => rfl) (by decide) rfl rfl (fun b => by kernel_rfl)
                    · replace e := bindT_eq e
                      obtain ⟨rb3, e_rb3, e⟩ := e
                      try dsimp only at e
                      cases e; exact goes_runM hU (P21 ++ [.l (accG (i := 0) (f := cB) (A := rb2) (k := (rb1.1).toNat) 0 [.bool false] cB_len (inR_nat hq5) (congrArg (fun b => [Value.bool b]) hq6)), .o, .o, .o, .q (ixM_ok (kd := .i64) (T := 24) (x := rb1.1) (N := n0) (sz := 1) rfl (fun w => by kernel_rfl) hq5), .x (sqStG_ok (T := 4) (e := 4) (f := cB) (A := rb2) (v := true) 0 (.bool true) cB_len cB_one rfl rfl (fun w => by kernel_rfl) (inR_nat hq5)) [0], .o, .o, .o, .x (sqAppLr_ok (ty := 33) rt33 #[false, false] (f := cZ) (N := 1) (A := updF (fun _ => 0) 0 ((fun k => if k = 0 then gb0_0 else gb0_1) 1)) (c := 1) [rb1.1] (T' := 3) .row cZ_len cZ_one (by decide) rfl (by decide) e_rb3) [8, 9], .o, .o, .o, .o]) [0, 10] (fun b => rfl) (by decide) rfl rfl (fun b => by kernel_rfl)
                  · exact none_some e
              · exact none_some e
            · replace e := bindT_eq e
              obtain ⟨rb2, e_rb2, e⟩ := e
              try dsimp only at e
              replace e := cond_eq_or e
              let P22 : List (PG Try.prog M B0 S) := P15 ++ [.l (accG (i := 0) (f := cB) (A := updF (fun _ => false) 0 true) (k := (((fun k => if k = 0 then gb0_0 else gb0_1) 0)).toNat) 0 [.bool false] cB_len (inR_nat hq1) (congrArg (fun b => [Value.bool b]) hq2)), .o, .o, .o, .q (ixM_ok (kd := .i64) (T := 24) (x := ((fun k => if k = 0 then gb0_0 else gb0_1) 0)) (N := n0) (sz := 1) rfl (fun w => by kernel_rfl) hq1), .x (sqStGr_ok (T := 4) (e := 4) (f := cB) (A := updF (fun _ => false) 0 true) (v := true) 0 (.bool true) cB_len cB_one rfl rfl (fun w => by kernel_rfl) (inR_nat hq1) e_rb2) [0], .o, .o, .o, .x (sqAppL_ok (ty := 33) rt33 #[false, false] (f := cZ) (N := 0) (A := (fun _ => 0)) (c := 1) [((fun k => if k = 0 then gb0_0 else gb0_1) 0)] (T' := 3) .row cZ_len cZ_one (by decide) rfl (by decide)) [3, 7], .o, .o, .o, .o, .q (ixM_ok (kd := .i64) (T := 33) (x := 1) (N := 3) (sz := 1) rfl (fun w => by kernel_rfl) (show inR 1 3 = true from by decide)), .l (accG (i := 6) (f := cZ) (A := updF (fun k => if k = 0 then gb0_0 else gb0_1) 2 rb1.1) (k := 1) 0 [.int .i64 (((fun k => if k = 0 then gb0_0 else gb0_1) 1))] cZ_len (inR_nat (show inR 1 3 = true from by decide)) rfl), .o, .o, .o]
              rcases e with ⟨hq3, e⟩ | ⟨hq3, e⟩
              · replace e := cond_eq_or e
                let P23 : List (PG Try.prog M B0 S) := P22 ++ [.q (ixM_ok (kd := .i64) (T := 24) (x := ((fun k => if k = 0 then gb0_0 else gb0_1) 1)) (N := n0) (sz := 1) rfl (fun w => by kernel_rfl) hq3)]
                rcases e with ⟨hq4, e⟩ | ⟨hq4, e⟩
                · replace e := cond_eq_or e
                  let P24 : List (PG Try.prog M B0 S) := P23 ++ [.l (accG (i := 0) (f := cB) (A := rb2) (k := (((fun k => if k = 0 then gb0_0 else gb0_1) 1)).toNat) 0 [.bool true] cB_len (inR_nat hq3) (congrArg (fun b => [Value.bool b]) hq4)), .o, .o, .o, .o, .q (ixM_ok (kd := .i64) (T := 33) (x := 2) (N := 3) (sz := 1) rfl (fun w => by kernel_rfl) (show inR 2 3 = true from by decide)), .l (accG (i := 6) (f := cZ) (A := updF (fun k => if k = 0 then gb0_0 else gb0_1) 2 rb1.1) (k := 2) 0 [.int .i64 (rb1.1)] cZ_len (inR_nat (show inR 2 3 = true from by decide)) rfl), .o, .o, .o]
                  rcases e with ⟨hq5, e⟩ | ⟨hq5, e⟩
                  · replace e := cond_eq_or e
                    let P25 : List (PG Try.prog M B0 S) := P24 ++ [.q (ixM_ok (kd := .i64) (T := 24) (x := rb1.1) (N := n0) (sz := 1) rfl (fun w => by kernel_rfl) hq5)]
                    rcases e with ⟨hq6, e⟩ | ⟨hq6, e⟩
                    · cases e; exact goes_runM hU (P25 ++ [.l (accG (i := 0) (f := cB) (A := rb2) (k := (rb1.1).toNat) 0 [.bool true] cB_len (inR_nat hq5) (congrArg (fun b => [Value.bool b]) hq6)), .o, .o, .o, .o]) [0, 8] (fun b => rfl) (by decide) rfl rfl (fun b => by kernel_rfl)
                    · replace e := bindT_eq e
                      obtain ⟨rb3, e_rb3, e⟩ := e
                      try dsimp only at e
                      cases e; exact goes_runM hU (P25 ++ [.l (accG (i := 0) (f := cB) (A := rb2) (k := (rb1.1).toNat) 0 [.bool false] cB_len (inR_nat hq5) (congrArg (fun b => [Value.bool b]) hq6)), .o, .o, .o, .q (ixM_ok (kd := .i64) (T := 24) (x := rb1.1) (N := n0) (sz := 1) rfl (fun w => by kernel_rfl) hq5), .x (sqStG_ok (T := 4) (e := 4) (f := cB) (A := rb2) (v := true) 0 (.bool true) cB_len cB_one rfl rfl (fun w => by kernel_rfl) (inR_nat hq5)) [0], .o, .o, .o, .x (sqAppLr_ok (ty := 33) rt33 #[false, false] (f := cZ) (N := 1) (A := updF (fun _ => 0) 0 ((fun k => if k = 0 then gb0_0 else gb0_1) 0)) (c := 1) [rb1.1] (T' := 3) .row cZ_len cZ_one (by decide) rfl (by decide) e_rb3) [8, 9], .o, .o, .o, .o]) [0, 10] (fun b => rfl) (by decide) rfl rfl (fun b => by kernel_rfl)
                  · exact none_some e
                · replace e := bindT_eq e
                  obtain ⟨rb3, e_rb3, e⟩ := e
                  try dsimp only at e
                  replace e := cond_eq_or e
                  let P26 : List (PG Try.prog M B0 S) := P23 ++ [.l (accG (i := 0) (f := cB) (A := rb2) (k := (((fun k => if k = 0 then gb0_0 else gb0_1) 1)).toNat) 0 [.bool false] cB_len (inR_nat hq3) (congrArg (fun b => [Value.bool b]) hq4)), .o, .o, .o, .q (ixM_ok (kd := .i64) (T := 24) (x := ((fun k => if k = 0 then gb0_0 else gb0_1) 1)) (N := n0) (sz := 1) rfl (fun w => by kernel_rfl) hq3), .x (sqStG_ok (T := 4) (e := 4) (f := cB) (A := rb2) (v := true) 0 (.bool true) cB_len cB_one rfl rfl (fun w => by kernel_rfl) (inR_nat hq3)) [0], .o, .o, .o, .x (sqAppLr_ok (ty := 33) rt33 #[false, false] (f := cZ) (N := 1) (A := updF (fun _ => 0) 0 ((fun k => if k = 0 then gb0_0 else gb0_1) 0)) (c := 1) [((fun k => if k = 0 then gb0_0 else gb0_1) 1)] (T' := 3) .row cZ_len cZ_one (by decide) rfl (by decide) e_rb3) [8, 9], .o, .o, .o, .o, .q (ixM_ok (kd := .i64) (T := 33) (x := 2) (N := 3) (sz := 1) rfl (fun w => by kernel_rfl) (show inR 2 3 = true from by decide)), .l (accG (i := 6) (f := cZ) (A := updF (fun k => if k = 0 then gb0_0 else gb0_1) 2 rb1.1) (k := 2) 0 [.int .i64 (rb1.1)] cZ_len (inR_nat (show inR 2 3 = true from by decide)) rfl), .o, .o, .o]
                  rcases e with ⟨hq5, e⟩ | ⟨hq5, e⟩
                  · replace e := cond_eq_or e
                    let P27 : List (PG Try.prog M B0 S) := P26 ++ [.q (ixM_ok (kd := .i64) (T := 24) (x := rb1.1) (N := n0) (sz := 1) rfl (fun w => by kernel_rfl) hq5)]
                    rcases e with ⟨hq6, e⟩ | ⟨hq6, e⟩
                    · cases e; exact goes_runM hU (P27 ++ [.l (accG (i := 0) (f := cB) (A := updF rb2 (((fun k => if k = 0 then gb0_0 else gb0_1) 1)).toNat true) (k := (rb1.1).toNat) 0 [.bool true] cB_len (inR_nat hq5) (congrArg (fun b => [Value.bool b]) hq6)), .o, .o, .o, .o]) [0, 10] (fun b => rfl) (by decide) rfl rfl (fun b => by kernel_rfl)
                    · replace e := bindT_eq e
                      obtain ⟨rb4, e_rb4, e⟩ := e
                      try dsimp only at e
                      cases e; exact goes_runM hU (P27 ++ [.l (accG (i := 0) (f := cB) (A := updF rb2 (((fun k => if k = 0 then gb0_0 else gb0_1) 1)).toNat true) (k := (rb1.1).toNat) 0 [.bool false] cB_len (inR_nat hq5) (congrArg (fun b => [Value.bool b]) hq6)), .o, .o, .o, .q (ixM_ok (kd := .i64) (T := 24) (x := rb1.1) (N := n0) (sz := 1) rfl (fun w => by kernel_rfl) hq5), .x (sqStGr_ok (T := 4) (e := 4) (f := cB) (A := updF rb2 (((fun k => if k = 0 then gb0_0 else gb0_1) 1)).toNat true) (v := true) 0 (.bool true) cB_len cB_one rfl rfl (fun w => by kernel_rfl) (inR_nat hq5) e_rb4) [0], .o, .o, .o, .x (sqAppL_ok (ty := 33) rt33 #[false, false] (f := cZ) (N := 2) (A := rb3) (c := 1) [rb1.1] (T' := 3) .row cZ_len cZ_one (by decide) rfl (by decide)) [10, 11], .o, .o, .o, .o]) [0, 12] (fun b => rfl) (by decide) rfl rfl (fun b => by kernel_rfl)
                  · exact none_some e
              · exact none_some e
          · exact none_some e
        · replace e := cond_eq_or e
          let P28 : List (PG Try.prog M B0 S) := P13 ++ [.b hq0, .o, .o, .o, .o, .o, .o, .o, .o, .a 4, .o, .o, .o]
          rcases e with ⟨hq1, e⟩ | ⟨hq1, e⟩
          · replace e := cond_eq_or e
            let P29 : List (PG Try.prog M B0 S) := P28 ++ [.q (ixM_ok (kd := .i64) (T := 24) (x := gb0_0) (N := n0) (sz := 1) rfl (fun w => by kernel_rfl) hq1)]
            rcases e with ⟨hq2, e⟩ | ⟨hq2, e⟩
            · replace e := cond_eq_or e
              let P30 : List (PG Try.prog M B0 S) := P29 ++ [.l (accG (i := 0) (f := cB) (A := updF (fun _ => false) 0 true) (k := (gb0_0).toNat) 0 [.bool true] cB_len (inR_nat hq1) (congrArg (fun b => [Value.bool b]) hq2)), .o, .o, .o, .o, .o, .a 4, .o, .o, .o]
              rcases e with ⟨hq3, e⟩ | ⟨hq3, e⟩
              · replace e := cond_eq_or e
                let P31 : List (PG Try.prog M B0 S) := P30 ++ [.q (ixM_ok (kd := .i64) (T := 24) (x := gb0_1) (N := n0) (sz := 1) rfl (fun w => by kernel_rfl) hq3)]
                rcases e with ⟨hq4, e⟩ | ⟨hq4, e⟩
                · cases e; exact goes_runM hU (P31 ++ [.l (accG (i := 0) (f := cB) (A := updF (fun _ => false) 0 true) (k := (gb0_1).toNat) 0 [.bool true] cB_len (inR_nat hq3) (congrArg (fun b => [Value.bool b]) hq4)), .o, .o, .o, .o]) [0, 3] (fun b => rfl) (by decide) rfl rfl (fun b => by kernel_rfl)
                · cases e; exact goes_runM hU (P31 ++ [.l (accG (i := 0) (f := cB) (A := updF (fun _ => false) 0 true) (k := (gb0_1).toNat) 0 [.bool false] cB_len (inR_nat hq3) (congrArg (fun b => [Value.bool b]) hq4)), .o, .o, .o, .q (ixM_ok (kd := .i64) (T := 24) (x := gb0_1) (N := n0) (sz := 1) rfl (fun w => by kernel_rfl) hq3), .x (sqStG_ok (T := 4) (e := 4) (f := cB) (A := updF (fun _ => false) 0 true) (v := true) 0 (.bool true) cB_len cB_one rfl rfl (fun w => by kernel_rfl) (inR_nat hq3)) [0], .o, .o, .o, .x (sqAppL_ok (ty := 33) rt33 #[false, false] (f := cZ) (N := 0) (A := (fun _ => 0)) (c := 1) [gb0_1] (T' := 3) .row cZ_len cZ_one (by decide) rfl (by decide)) [3, 5], .o, .o, .o, .o]) [0, 6] (fun b => rfl) (by decide) rfl rfl (fun b => by kernel_rfl)
              · exact none_some e
            · replace e := cond_eq_or e
              let P32 : List (PG Try.prog M B0 S) := P29 ++ [.l (accG (i := 0) (f := cB) (A := updF (fun _ => false) 0 true) (k := (gb0_0).toNat) 0 [.bool false] cB_len (inR_nat hq1) (congrArg (fun b => [Value.bool b]) hq2)), .o, .o, .o, .q (ixM_ok (kd := .i64) (T := 24) (x := gb0_0) (N := n0) (sz := 1) rfl (fun w => by kernel_rfl) hq1), .x (sqStG_ok (T := 4) (e := 4) (f := cB) (A := updF (fun _ => false) 0 true) (v := true) 0 (.bool true) cB_len cB_one rfl rfl (fun w => by kernel_rfl) (inR_nat hq1)) [0], .o, .o, .o, .x (sqAppL_ok (ty := 33) rt33 #[false, false] (f := cZ) (N := 0) (A := (fun _ => 0)) (c := 1) [gb0_0] (T' := 3) .row cZ_len cZ_one (by decide) rfl (by decide)) [3, 5], .o, .o, .o, .o, .o, .a 4, .o, .o, .o]
              rcases e with ⟨hq3, e⟩ | ⟨hq3, e⟩
              · replace e := cond_eq_or e
                let P33 : List (PG Try.prog M B0 S) := P32 ++ [.q (ixM_ok (kd := .i64) (T := 24) (x := gb0_1) (N := n0) (sz := 1) rfl (fun w => by kernel_rfl) hq3)]
                rcases e with ⟨hq4, e⟩ | ⟨hq4, e⟩
                · cases e; exact goes_runM hU (P33 ++ [.l (accG (i := 0) (f := cB) (A := updF (updF (fun _ => false) 0 true) (gb0_0).toNat true) (k := (gb0_1).toNat) 0 [.bool true] cB_len (inR_nat hq3) (congrArg (fun b => [Value.bool b]) hq4)), .o, .o, .o, .o]) [0, 6] (fun b => rfl) (by decide) rfl rfl (fun b => by kernel_rfl)
                · replace e := bindT_eq e
                  obtain ⟨rb2, e_rb2, e⟩ := e
                  try dsimp only at e
                  cases e; exact goes_runM hU (P33 ++ [.l (accG (i := 0) (f := cB) (A := updF (updF (fun _ => false) 0 true) (gb0_0).toNat true) (k := (gb0_1).toNat) 0 [.bool false] cB_len (inR_nat hq3) (congrArg (fun b => [Value.bool b]) hq4)), .o, .o, .o, .q (ixM_ok (kd := .i64) (T := 24) (x := gb0_1) (N := n0) (sz := 1) rfl (fun w => by kernel_rfl) hq3), .x (sqStGr_ok (T := 4) (e := 4) (f := cB) (A := updF (updF (fun _ => false) 0 true) (gb0_0).toNat true) (v := true) 0 (.bool true) cB_len cB_one rfl rfl (fun w => by kernel_rfl) (inR_nat hq3) e_rb2) [0], .o, .o, .o, .x (sqAppL_ok (ty := 33) rt33 #[false, false] (f := cZ) (N := 1) (A := updF (fun _ => 0) 0 gb0_0) (c := 1) [gb0_1] (T' := 3) .row cZ_len cZ_one (by decide) rfl (by decide)) [6, 7], .o, .o, .o, .o]) [0, 8] (fun b => rfl) (by decide) rfl rfl (fun b => by kernel_rfl)
              · exact none_some e
          · exact none_some e
    | c1 s0_0 s0_1 s0_2 =>
      unfold st_flow_program_reached_L0 at e
      dsimp only at e
      replace e := cond_eq_or e
      let P34 : List (PG Try.prog M B0 S) := [.o, .o]
      rcases e with ⟨hq0, e⟩ | ⟨hq0, e⟩
      · replace e := cond_eq_or e
        let P35 : List (PG Try.prog M B0 S) := P34 ++ [.b (z_gtrT hq0), .o, .o, .o, .o]
        rcases e with ⟨hq1, e⟩ | ⟨hq1, e⟩
        · replace e := cond_eq_or e
          let P36 : List (PG Try.prog M B0 S) := P35 ++ [.q (ixM_ok (kd := .i64) (T := 33) (x := (IntKind.i64.wrap ((s0_1 : Int) - 1))) (N := s0_1) (sz := 1) rfl (fun w => by kernel_rfl) hq1), .l (accG (i := 1) (f := cZ) (A := s0_2) (k := ((IntKind.i64.wrap ((s0_1 : Int) - 1))).toNat) 0 [.int .i64 ((s0_2 ((IntKind.i64.wrap ((s0_1 : Int) - 1))).toNat))] cZ_len (inR_nat hq1) rfl), .o, .o, .o, .o, .o]
          rcases e with ⟨hq2, e⟩ | ⟨hq2, e⟩
          · replace e := cond_eq_or e
            rcases e with ⟨hq3, e⟩ | ⟨hq3, e⟩
            · replace e := bindO_eq e
              obtain ⟨gb0, e_gb0, e⟩ := e
              let P37 : List (PG Try.prog M B0 S) := P36 ++ [.x (sqShr_ok rt33 (f := cZ) (N := s0_1) (A := s0_2) (x := (IntKind.i64.wrap ((s0_1 : Int) - 1))) cZ_len (fun w => by kernel_rfl) hq2 hq3) [1], .o, .o, .o]
              rcases gb0 with _ | ⟨gb0_0⟩ | ⟨gb0_0, gb0_1⟩
              · try dsimp only at e
                replace e := bindO_eq e
                obtain ⟨rb1, e_rb1, e⟩ := e
                try dsimp only at e
                replace e := cond_eq_or e
                let P38 : List (PG Try.prog M B0 S) := P37 ++ [.xg (ok0_flow_program_next hU a0 p0 q0 n0 k0 A0 hR0 (s0_2 ((IntKind.i64.wrap ((s0_1 : Int) - 1))).toNat)  e_gb0) [], .o, .o, .o, .cg (ok_flow_program_named hU a0 p0 q0 n0 k0 A0 hR0 (s0_2 ((IntKind.i64.wrap ((s0_1 : Int) - 1))).toNat) rb1 e_rb1), .o, .o]
                rcases e with ⟨hq4, e⟩ | ⟨hq4, e⟩
                · replace e := cond_eq_or e
                  let P39 : List (PG Try.prog M B0 S) := P38 ++ [.b hq4, .o, .o, .o, .o, .o, .o, .x (sqAppL1_ok (ty := 33) rt33 #[false, false] (f := cZ) (c := 1) rb1.1 (T' := 3) cZ_len cZ_one (by decide)) [4], .o, .o, .o, .o, .o, .q (ixM_ok (kd := .i64) (T := 33) (x := 0) (N := 1) (sz := 1) rfl (fun w => by kernel_rfl) (show inR 0 1 = true from by decide)), .l (accG (i := 5) (f := cZ) (A := (fun _ => rb1.1)) (k := 0) 0 [.int .i64 (((fun _ => rb1.1) 0))] cZ_len (inR_nat (show inR 0 1 = true from by decide)) rfl), .o, .o, .o]
                  rcases e with ⟨hq5, e⟩ | ⟨hq5, e⟩
                  · replace e := cond_eq_or e
                    let P40 : List (PG Try.prog M B0 S) := P39 ++ [.q (ixM_ok (kd := .i64) (T := 24) (x := ((fun _ => rb1.1) 0)) (N := n0) (sz := 1) rfl (fun w => by kernel_rfl) hq5)]
                    rcases e with ⟨hq6, e⟩ | ⟨hq6, e⟩
                    · cases e; exact goes_runM hU (P40 ++ [.l (accG (i := 0) (f := cB) (A := s0_0) (k := (((fun _ => rb1.1) 0)).toNat) 0 [.bool true] cB_len (inR_nat hq5) (congrArg (fun b => [Value.bool b]) hq6)), .o, .o, .o, .o]) [0, 3] (fun b => rfl) (by decide) rfl rfl (fun b => by kernel_rfl)
                    · replace e := cond_eq_or e
                      rcases e with ⟨hq7, e⟩ | ⟨hq7, e⟩
                      · replace e := bindT_eq e
                        obtain ⟨rb2, e_rb2, e⟩ := e
                        try dsimp only at e
                        cases e; exact goes_runM hU (P40 ++ [.l (accG (i := 0) (f := cB) (A := s0_0) (k := (((fun _ => rb1.1) 0)).toNat) 0 [.bool false] cB_len (inR_nat hq5) (congrArg (fun b => [Value.bool b]) hq6)), .o, .o, .o, .q (ixM_ok (kd := .i64) (T := 24) (x := ((fun _ => rb1.1) 0)) (N := n0) (sz := 1) rfl (fun w => by kernel_rfl) hq5), .x (sqStG_ok (T := 4) (e := 4) (f := cB) (A := s0_0) (v := true) 0 (.bool true) cB_len cB_one rfl rfl (fun w => by kernel_rfl) (inR_nat hq5)) [0], .o, .o, .o, .x (sqAppLr_ok (ty := 33) rt33 #[false, false] (f := cZ) (N := ((IntKind.i64.wrap ((s0_1 : Int) - 1))).toNat) (A := s0_2) (c := 1) [((fun _ => rb1.1) 0)] (T' := 3) .row cZ_len cZ_one hq7 rfl (by decide) e_rb2) [3, 6], .o, .o, .o, .o]) [0, 7] (fun b => rfl) (by decide) rfl rfl (fun b => by kernel_rfl)
                      · exact none_some e
                  · exact none_some e
                · cases e; exact goes_runM hU (P38 ++ [.b hq4, .o, .o, .o, .o, .o, .o, .o]) [0, 3] (fun b => rfl) (by decide) rfl rfl (fun b => by kernel_rfl)
              · try dsimp only at e
                replace e := bindO_eq e
                obtain ⟨rb1, e_rb1, e⟩ := e
                try dsimp only at e
                replace e := cond_eq_or e
                let P41 : List (PG Try.prog M B0 S) := P37 ++ [.xg (ok1_flow_program_next hU a0 p0 q0 n0 k0 A0 hR0 (s0_2 ((IntKind.i64.wrap ((s0_1 : Int) - 1))).toNat) gb0_0 e_gb0) [], .o, .o, .o, .cg (ok_flow_program_named hU a0 p0 q0 n0 k0 A0 hR0 (s0_2 ((IntKind.i64.wrap ((s0_1 : Int) - 1))).toNat) rb1 e_rb1), .o, .o]
                rcases e with ⟨hq4, e⟩ | ⟨hq4, e⟩
                · replace e := cond_eq_or e
                  let P42 : List (PG Try.prog M B0 S) := P41 ++ [.b hq4, .o, .o, .o, .o, .o, .o, .x (sqAppL_ok (ty := 33) rt33 #[false, false] (f := cZ) (N := 1) (A := (fun _ => gb0_0)) (c := 1) [rb1.1] (T' := 3) .plain cZ_len cZ_one (by decide) rfl (by decide)) [4, 5], .o, .o, .o, .o, .o, .q (ixM_ok (kd := .i64) (T := 33) (x := 0) (N := 2) (sz := 1) rfl (fun w => by kernel_rfl) (show inR 0 2 = true from by decide)), .l (accG (i := 6) (f := cZ) (A := updF (fun _ => gb0_0) 1 rb1.1) (k := 0) 0 [.int .i64 (((fun _ => gb0_0) 0))] cZ_len (inR_nat (show inR 0 2 = true from by decide)) rfl), .o, .o, .o]
                  rcases e with ⟨hq5, e⟩ | ⟨hq5, e⟩
                  · replace e := cond_eq_or e
                    let P43 : List (PG Try.prog M B0 S) := P42 ++ [.q (ixM_ok (kd := .i64) (T := 24) (x := ((fun _ => gb0_0) 0)) (N := n0) (sz := 1) rfl (fun w => by kernel_rfl) hq5)]
                    rcases e with ⟨hq6, e⟩ | ⟨hq6, e⟩
                    · replace e := cond_eq_or e
                      let P44 : List (PG Try.prog M B0 S) := P43 ++ [.l (accG (i := 0) (f := cB) (A := s0_0) (k := (((fun _ => gb0_0) 0)).toNat) 0 [.bool true] cB_len (inR_nat hq5) (congrArg (fun b => [Value.bool b]) hq6)), .o, .o, .o, .o, .q (ixM_ok (kd := .i64) (T := 33) (x := 1) (N := 2) (sz := 1) rfl (fun w => by kernel_rfl) (show inR 1 2 = true from by decide)), .l (accG (i := 6) (f := cZ) (A := updF (fun _ => gb0_0) 1 rb1.1) (k := 1) 0 [.int .i64 (rb1.1)] cZ_len (inR_nat (show inR 1 2 = true from by decide)) rfl), .o, .o, .o]
                      rcases e with ⟨hq7, e⟩ | ⟨hq7, e⟩
                      · replace e := cond_eq_or e
                        let P45 : List (PG Try.prog M B0 S) := P44 ++ [.q (ixM_ok (kd := .i64) (T := 24) (x := rb1.1) (N := n0) (sz := 1) rfl (fun w => by kernel_rfl) hq7)]
                        rcases e with ⟨hq8, e⟩ | ⟨hq8, e⟩
                        · cases e; exact goes_runM hU (P45 ++ [.l (accG (i := 0) (f := cB) (A := s0_0) (k := (rb1.1).toNat) 0 [.bool true] cB_len (inR_nat hq7) (congrArg (fun b => [Value.bool b]) hq8)), .o, .o, .o, .o]) [0, 3] (fun b => rfl) (by decide) rfl rfl (fun b => by kernel_rfl)
                        · replace e := cond_eq_or e
                          rcases e with ⟨hq9, e⟩ | ⟨hq9, e⟩
                          · cases e; exact goes_runM hU (P45 ++ [.l (accG (i := 0) (f := cB) (A := s0_0) (k := (rb1.1).toNat) 0 [.bool false] cB_len (inR_nat hq7) (congrArg (fun b => [Value.bool b]) hq8)), .o, .o, .o, .q (ixM_ok (kd := .i64) (T := 24) (x := rb1.1) (N := n0) (sz := 1) rfl (fun w => by kernel_rfl) hq7), .x (sqStG_ok (T := 4) (e := 4) (f := cB) (A := s0_0) (v := true) 0 (.bool true) cB_len cB_one rfl rfl (fun w => by kernel_rfl) (inR_nat hq7)) [0], .o, .o, .o, .x (sqAppL_ok (ty := 33) rt33 #[false, false] (f := cZ) (N := ((IntKind.i64.wrap ((s0_1 : Int) - 1))).toNat) (A := s0_2) (c := 1) [rb1.1] (T' := 3) .row cZ_len cZ_one hq9 rfl (by decide)) [3, 7], .o, .o, .o, .o]) [0, 8] (fun b => rfl) (by decide) rfl rfl (fun b => by kernel_rfl)
                          · exact none_some e
                      · exact none_some e
                    · replace e := cond_eq_or e
                      let P46 : List (PG Try.prog M B0 S) := P43 ++ [.l (accG (i := 0) (f := cB) (A := s0_0) (k := (((fun _ => gb0_0) 0)).toNat) 0 [.bool false] cB_len (inR_nat hq5) (congrArg (fun b => [Value.bool b]) hq6)), .o, .o, .o, .q (ixM_ok (kd := .i64) (T := 24) (x := ((fun _ => gb0_0) 0)) (N := n0) (sz := 1) rfl (fun w => by kernel_rfl) hq5), .x (sqStG_ok (T := 4) (e := 4) (f := cB) (A := s0_0) (v := true) 0 (.bool true) cB_len cB_one rfl rfl (fun w => by kernel_rfl) (inR_nat hq5)) [0], .o, .o, .o]
                      rcases e with ⟨hq7, e⟩ | ⟨hq7, e⟩
                      · replace e := bindT_eq e
                        obtain ⟨rb2, e_rb2, e⟩ := e
                        try dsimp only at e
                        replace e := cond_eq_or e
                        let P47 : List (PG Try.prog M B0 S) := P46 ++ [.x (sqAppLr_ok (ty := 33) rt33 #[false, false] (f := cZ) (N := ((IntKind.i64.wrap ((s0_1 : Int) - 1))).toNat) (A := s0_2) (c := 1) [((fun _ => gb0_0) 0)] (T' := 3) .row cZ_len cZ_one hq7 rfl (by decide) e_rb2) [3, 7], .o, .o, .o, .o, .q (ixM_ok (kd := .i64) (T := 33) (x := 1) (N := 2) (sz := 1) rfl (fun w => by kernel_rfl) (show inR 1 2 = true from by decide)), .l (accG (i := 6) (f := cZ) (A := updF (fun _ => gb0_0) 1 rb1.1) (k := 1) 0 [.int .i64 (rb1.1)] cZ_len (inR_nat (show inR 1 2 = true from by decide)) rfl), .o, .o, .o]
                        rcases e with ⟨hq8, e⟩ | ⟨hq8, e⟩
                        · replace e := cond_eq_or e
                          let P48 : List (PG Try.prog M B0 S) := P47 ++ [.q (ixM_ok (kd := .i64) (T := 24) (x := rb1.1) (N := n0) (sz := 1) rfl (fun w => by kernel_rfl) hq8)]
                          rcases e with ⟨hq9, e⟩ | ⟨hq9, e⟩
                          · cases e; exact goes_runM hU (P48 ++ [.l (accG (i := 0) (f := cB) (A := updF s0_0 (((fun _ => gb0_0) 0)).toNat true) (k := (rb1.1).toNat) 0 [.bool true] cB_len (inR_nat hq8) (congrArg (fun b => [Value.bool b]) hq9)), .o, .o, .o, .o]) [0, 8] (fun b => rfl) (by decide) rfl rfl (fun b => by kernel_rfl)
                          · replace e := cond_eq_or e
                            rcases e with ⟨hq10, e⟩ | ⟨hq10, e⟩
                            · cases e; exact goes_runM hU (P48 ++ [.l (accG (i := 0) (f := cB) (A := updF s0_0 (((fun _ => gb0_0) 0)).toNat true) (k := (rb1.1).toNat) 0 [.bool false] cB_len (inR_nat hq8) (congrArg (fun b => [Value.bool b]) hq9)), .o, .o, .o, .q (ixM_ok (kd := .i64) (T := 24) (x := rb1.1) (N := n0) (sz := 1) rfl (fun w => by kernel_rfl) hq8), .x (sqStG_ok (T := 4) (e := 4) (f := cB) (A := updF s0_0 (((fun _ => gb0_0) 0)).toNat true) (v := true) 0 (.bool true) cB_len cB_one rfl rfl (fun w => by kernel_rfl) (inR_nat hq8)) [0], .o, .o, .o, .x (sqAppL_ok (ty := 33) rt33 #[false, false] (f := cZ) (N := (((IntKind.i64.wrap ((s0_1 : Int) - 1))).toNat + 1)) (A := rb2) (c := 1) [rb1.1] (T' := 3) .row cZ_len cZ_one hq10 rfl (by decide)) [8, 9], .o, .o, .o, .o]) [0, 10] (fun b => rfl) (by decide) rfl rfl (fun b => by kernel_rfl)
                            · exact none_some e
                        · exact none_some e
                      · exact none_some e
                  · exact none_some e
                · replace e := cond_eq_or e
                  rcases e with ⟨hq5, e⟩ | ⟨hq5, e⟩
                  · replace e := cond_eq_or e
                    let P49 : List (PG Try.prog M B0 S) := P41 ++ [.b hq4, .o, .o, .o, .o, .o, .o, .o, .o, .a 4, .o, .o, .o, .q (ixM_ok (kd := .i64) (T := 24) (x := gb0_0) (N := n0) (sz := 1) rfl (fun w => by kernel_rfl) hq5)]
                    rcases e with ⟨hq6, e⟩ | ⟨hq6, e⟩
                    · cases e; exact goes_runM hU (P49 ++ [.l (accG (i := 0) (f := cB) (A := s0_0) (k := (gb0_0).toNat) 0 [.bool true] cB_len (inR_nat hq5) (congrArg (fun b => [Value.bool b]) hq6)), .o, .o, .o, .o]) [0, 3] (fun b => rfl) (by decide) rfl rfl (fun b => by kernel_rfl)
                    · replace e := cond_eq_or e
                      rcases e with ⟨hq7, e⟩ | ⟨hq7, e⟩
                      · cases e; exact goes_runM hU (P49 ++ [.l (accG (i := 0) (f := cB) (A := s0_0) (k := (gb0_0).toNat) 0 [.bool false] cB_len (inR_nat hq5) (congrArg (fun b => [Value.bool b]) hq6)), .o, .o, .o, .q (ixM_ok (kd := .i64) (T := 24) (x := gb0_0) (N := n0) (sz := 1) rfl (fun w => by kernel_rfl) hq5), .x (sqStG_ok (T := 4) (e := 4) (f := cB) (A := s0_0) (v := true) 0 (.bool true) cB_len cB_one rfl rfl (fun w => by kernel_rfl) (inR_nat hq5)) [0], .o, .o, .o, .x (sqAppL_ok (ty := 33) rt33 #[false, false] (f := cZ) (N := ((IntKind.i64.wrap ((s0_1 : Int) - 1))).toNat) (A := s0_2) (c := 1) [gb0_0] (T' := 3) .row cZ_len cZ_one hq7 rfl (by decide)) [3, 5], .o, .o, .o, .o]) [0, 6] (fun b => rfl) (by decide) rfl rfl (fun b => by kernel_rfl)
                      · exact none_some e
                  · exact none_some e
              · try dsimp only at e
                replace e := bindO_eq e
                obtain ⟨rb1, e_rb1, e⟩ := e
                try dsimp only at e
                replace e := cond_eq_or e
                let P50 : List (PG Try.prog M B0 S) := P37 ++ [.xg (ok2_flow_program_next hU a0 p0 q0 n0 k0 A0 hR0 (s0_2 ((IntKind.i64.wrap ((s0_1 : Int) - 1))).toNat) gb0_0 gb0_1 e_gb0) [], .o, .o, .o, .cg (ok_flow_program_named hU a0 p0 q0 n0 k0 A0 hR0 (s0_2 ((IntKind.i64.wrap ((s0_1 : Int) - 1))).toNat) rb1 e_rb1), .o, .o]
                rcases e with ⟨hq4, e⟩ | ⟨hq4, e⟩
                · replace e := cond_eq_or e
                  let P51 : List (PG Try.prog M B0 S) := P50 ++ [.b hq4, .o, .o, .o, .o, .o, .o, .x (sqAppL_ok (ty := 33) rt33 #[false, false] (f := cZ) (N := 2) (A := (fun k => if k = 0 then gb0_0 else gb0_1)) (c := 1) [rb1.1] (T' := 3) .plain cZ_len cZ_one (by decide) rfl (by decide)) [4, 5], .o, .o, .o, .o, .o, .q (ixM_ok (kd := .i64) (T := 33) (x := 0) (N := 3) (sz := 1) rfl (fun w => by kernel_rfl) (show inR 0 3 = true from by decide)), .l (accG (i := 6) (f := cZ) (A := updF (fun k => if k = 0 then gb0_0 else gb0_1) 2 rb1.1) (k := 0) 0 [.int .i64 (((fun k => if k = 0 then gb0_0 else gb0_1) 0))] cZ_len (inR_nat (show inR 0 3 = true from by decide)) rfl), .o, .o, .o]
                  rcases e with ⟨hq5, e⟩ | ⟨hq5, e⟩
                  · replace e := cond_eq_or e
                    let P52 : List (PG Try.prog M B0 S) := P51 ++ [.q (ixM_ok (kd := .i64) (T := 24) (x := ((fun k => if k = 0 then gb0_0 else gb0_1) 0)) (N := n0) (sz := 1) rfl (fun w => by kernel_rfl) hq5)]
                    rcases e with ⟨hq6, e⟩ | ⟨hq6, e⟩
                    · replace e := cond_eq_or e
                      let P53 : List (PG Try.prog M B0 S) := P52 ++ [.l (accG (i := 0) (f := cB) (A := s0_0) (k := (((fun k => if k = 0 then gb0_0 else gb0_1) 0)).toNat) 0 [.bool true] cB_len (inR_nat hq5) (congrArg (fun b => [Value.bool b]) hq6)), .o, .o, .o, .o, .q (ixM_ok (kd := .i64) (T := 33) (x := 1) (N := 3) (sz := 1) rfl (fun w => by kernel_rfl) (show inR 1 3 = true from by decide)), .l (accG (i := 6) (f := cZ) (A := updF (fun k => if k = 0 then gb0_0 else gb0_1) 2 rb1.1) (k := 1) 0 [.int .i64 (((fun k => if k = 0 then gb0_0 else gb0_1) 1))] cZ_len (inR_nat (show inR 1 3 = true from by decide)) rfl), .o, .o, .o]
                      rcases e with ⟨hq7, e⟩ | ⟨hq7, e⟩
                      · replace e := cond_eq_or e
                        let P54 : List (PG Try.prog M B0 S) := P53 ++ [.q (ixM_ok (kd := .i64) (T := 24) (x := ((fun k => if k = 0 then gb0_0 else gb0_1) 1)) (N := n0) (sz := 1) rfl (fun w => by kernel_rfl) hq7)]
                        rcases e with ⟨hq8, e⟩ | ⟨hq8, e⟩
                        · replace e := cond_eq_or e
                          let P55 : List (PG Try.prog M B0 S) := P54 ++ [.l (accG (i := 0) (f := cB) (A := s0_0) (k := (((fun k => if k = 0 then gb0_0 else gb0_1) 1)).toNat) 0 [.bool true] cB_len (inR_nat hq7) (congrArg (fun b => [Value.bool b]) hq8)), .o, .o, .o, .o, .q (ixM_ok (kd := .i64) (T := 33) (x := 2) (N := 3) (sz := 1) rfl (fun w => by kernel_rfl) (show inR 2 3 = true from by decide)), .l (accG (i := 6) (f := cZ) (A := updF (fun k => if k = 0 then gb0_0 else gb0_1) 2 rb1.1) (k := 2) 0 [.int .i64 (rb1.1)] cZ_len (inR_nat (show inR 2 3 = true from by decide)) rfl), .o, .o, .o]
                          rcases e with ⟨hq9, e⟩ | ⟨hq9, e⟩
                          · replace e := cond_eq_or e
                            let P56 : List (PG Try.prog M B0 S) := P55 ++ [.q (ixM_ok (kd := .i64) (T := 24) (x := rb1.1) (N := n0) (sz := 1) rfl (fun w => by kernel_rfl) hq9)]
                            rcases e with ⟨hq10, e⟩ | ⟨hq10, e⟩
                            · cases e; exact goes_runM hU (P56 ++ [.l (accG (i := 0) (f := cB) (A := s0_0) (k := (rb1.1).toNat) 0 [.bool true] cB_len (inR_nat hq9) (congrArg (fun b => [Value.bool b]) hq10)), .o, .o, .o, .o]) [0, 3] (fun b => rfl) (by decide) rfl rfl (fun b => by kernel_rfl)
                            · replace e := cond_eq_or e
                              rcases e with ⟨hq11, e⟩ | ⟨hq11, e⟩
                              · cases e; exact goes_runM hU (P56 ++ [.l (accG (i := 0) (f := cB) (A := s0_0) (k := (rb1.1).toNat) 0 [.bool false] cB_len (inR_nat hq9) (congrArg (fun b => [Value.bool b]) hq10)), .o, .o, .o, .q (ixM_ok (kd := .i64) (T := 24) (x := rb1.1) (N := n0) (sz := 1) rfl (fun w => by kernel_rfl) hq9), .x (sqStG_ok (T := 4) (e := 4) (f := cB) (A := s0_0) (v := true) 0 (.bool true) cB_len cB_one rfl rfl (fun w => by kernel_rfl) (inR_nat hq9)) [0], .o, .o, .o, .x (sqAppL_ok (ty := 33) rt33 #[false, false] (f := cZ) (N := ((IntKind.i64.wrap ((s0_1 : Int) - 1))).toNat) (A := s0_2) (c := 1) [rb1.1] (T' := 3) .row cZ_len cZ_one hq11 rfl (by decide)) [3, 7], .o, .o, .o, .o]) [0, 8] (fun b => rfl) (by decide) rfl rfl (fun b => by kernel_rfl)
                              · exact none_some e
                          · exact none_some e
                        · replace e := cond_eq_or e
                          let P57 : List (PG Try.prog M B0 S) := P54 ++ [.l (accG (i := 0) (f := cB) (A := s0_0) (k := (((fun k => if k = 0 then gb0_0 else gb0_1) 1)).toNat) 0 [.bool false] cB_len (inR_nat hq7) (congrArg (fun b => [Value.bool b]) hq8)), .o, .o, .o, .q (ixM_ok (kd := .i64) (T := 24) (x := ((fun k => if k = 0 then gb0_0 else gb0_1) 1)) (N := n0) (sz := 1) rfl (fun w => by kernel_rfl) hq7), .x (sqStG_ok (T := 4) (e := 4) (f := cB) (A := s0_0) (v := true) 0 (.bool true) cB_len cB_one rfl rfl (fun w => by kernel_rfl) (inR_nat hq7)) [0], .o, .o, .o]
                          rcases e with ⟨hq9, e⟩ | ⟨hq9, e⟩
                          · replace e := bindT_eq e
                            obtain ⟨rb2, e_rb2, e⟩ := e
                            try dsimp only at e
                            replace e := cond_eq_or e
                            let P58 : List (PG Try.prog M B0 S) := P57 ++ [.x (sqAppLr_ok (ty := 33) rt33 #[false, false] (f := cZ) (N := ((IntKind.i64.wrap ((s0_1 : Int) - 1))).toNat) (A := s0_2) (c := 1) [((fun k => if k = 0 then gb0_0 else gb0_1) 1)] (T' := 3) .row cZ_len cZ_one hq9 rfl (by decide) e_rb2) [3, 7], .o, .o, .o, .o, .q (ixM_ok (kd := .i64) (T := 33) (x := 2) (N := 3) (sz := 1) rfl (fun w => by kernel_rfl) (show inR 2 3 = true from by decide)), .l (accG (i := 6) (f := cZ) (A := updF (fun k => if k = 0 then gb0_0 else gb0_1) 2 rb1.1) (k := 2) 0 [.int .i64 (rb1.1)] cZ_len (inR_nat (show inR 2 3 = true from by decide)) rfl), .o, .o, .o]
                            rcases e with ⟨hq10, e⟩ | ⟨hq10, e⟩
                            · replace e := cond_eq_or e
                              let P59 : List (PG Try.prog M B0 S) := P58 ++ [.q (ixM_ok (kd := .i64) (T := 24) (x := rb1.1) (N := n0) (sz := 1) rfl (fun w => by kernel_rfl) hq10)]
                              rcases e with ⟨hq11, e⟩ | ⟨hq11, e⟩
                              · cases e; exact goes_runM hU (P59 ++ [.l (accG (i := 0) (f := cB) (A := updF s0_0 (((fun k => if k = 0 then gb0_0 else gb0_1) 1)).toNat true) (k := (rb1.1).toNat) 0 [.bool true] cB_len (inR_nat hq10) (congrArg (fun b => [Value.bool b]) hq11)), .o, .o, .o, .o]) [0, 8] (fun b => rfl) (by decide) rfl rfl (fun b => by kernel_rfl)
                              · replace e := bindT_eq e
                                obtain ⟨rb3, e_rb3, e⟩ := e
                                try dsimp only at e
                                replace e := cond_eq_or e
                                rcases e with ⟨hq12, e⟩ | ⟨hq12, e⟩
                                · cases e; exact goes_runM hU (P59 ++ [.l (accG (i := 0) (f := cB) (A := updF s0_0 (((fun k => if k = 0 then gb0_0 else gb0_1) 1)).toNat true) (k := (rb1.1).toNat) 0 [.bool false] cB_len (inR_nat hq10) (congrArg (fun b => [Value.bool b]) hq11)), .o, .o, .o, .q (ixM_ok (kd := .i64) (T := 24) (x := rb1.1) (N := n0) (sz := 1) rfl (fun w => by kernel_rfl) hq10), .x (sqStGr_ok (T := 4) (e := 4) (f := cB) (A := updF s0_0 (((fun k => if k = 0 then gb0_0 else gb0_1) 1)).toNat true) (v := true) 0 (.bool true) cB_len cB_one rfl rfl (fun w => by kernel_rfl) (inR_nat hq10) e_rb3) [0], .o, .o, .o, .x (sqAppL_ok (ty := 33) rt33 #[false, false] (f := cZ) (N := (((IntKind.i64.wrap ((s0_1 : Int) - 1))).toNat + 1)) (A := rb2) (c := 1) [rb1.1] (T' := 3) .row cZ_len cZ_one hq12 rfl (by decide)) [8, 9], .o, .o, .o, .o]) [0, 10] (fun b => rfl) (by decide) rfl rfl (fun b => by kernel_rfl)
                                · exact none_some e
                            · exact none_some e
                          · exact none_some e
                      · exact none_some e
                    · replace e := cond_eq_or e
                      let P60 : List (PG Try.prog M B0 S) := P52 ++ [.l (accG (i := 0) (f := cB) (A := s0_0) (k := (((fun k => if k = 0 then gb0_0 else gb0_1) 0)).toNat) 0 [.bool false] cB_len (inR_nat hq5) (congrArg (fun b => [Value.bool b]) hq6)), .o, .o, .o, .q (ixM_ok (kd := .i64) (T := 24) (x := ((fun k => if k = 0 then gb0_0 else gb0_1) 0)) (N := n0) (sz := 1) rfl (fun w => by kernel_rfl) hq5), .x (sqStG_ok (T := 4) (e := 4) (f := cB) (A := s0_0) (v := true) 0 (.bool true) cB_len cB_one rfl rfl (fun w => by kernel_rfl) (inR_nat hq5)) [0], .o, .o, .o]
                      rcases e with ⟨hq7, e⟩ | ⟨hq7, e⟩
                      · replace e := bindT_eq e
                        obtain ⟨rb2, e_rb2, e⟩ := e
                        try dsimp only at e
                        replace e := cond_eq_or e
                        let P61 : List (PG Try.prog M B0 S) := P60 ++ [.x (sqAppLr_ok (ty := 33) rt33 #[false, false] (f := cZ) (N := ((IntKind.i64.wrap ((s0_1 : Int) - 1))).toNat) (A := s0_2) (c := 1) [((fun k => if k = 0 then gb0_0 else gb0_1) 0)] (T' := 3) .row cZ_len cZ_one hq7 rfl (by decide) e_rb2) [3, 7], .o, .o, .o, .o, .q (ixM_ok (kd := .i64) (T := 33) (x := 1) (N := 3) (sz := 1) rfl (fun w => by kernel_rfl) (show inR 1 3 = true from by decide)), .l (accG (i := 6) (f := cZ) (A := updF (fun k => if k = 0 then gb0_0 else gb0_1) 2 rb1.1) (k := 1) 0 [.int .i64 (((fun k => if k = 0 then gb0_0 else gb0_1) 1))] cZ_len (inR_nat (show inR 1 3 = true from by decide)) rfl), .o, .o, .o]
                        rcases e with ⟨hq8, e⟩ | ⟨hq8, e⟩
                        · replace e := cond_eq_or e
                          let P62 : List (PG Try.prog M B0 S) := P61 ++ [.q (ixM_ok (kd := .i64) (T := 24) (x := ((fun k => if k = 0 then gb0_0 else gb0_1) 1)) (N := n0) (sz := 1) rfl (fun w => by kernel_rfl) hq8)]
                          rcases e with ⟨hq9, e⟩ | ⟨hq9, e⟩
                          · replace e := cond_eq_or e
                            let P63 : List (PG Try.prog M B0 S) := P62 ++ [.l (accG (i := 0) (f := cB) (A := updF s0_0 (((fun k => if k = 0 then gb0_0 else gb0_1) 0)).toNat true) (k := (((fun k => if k = 0 then gb0_0 else gb0_1) 1)).toNat) 0 [.bool true] cB_len (inR_nat hq8) (congrArg (fun b => [Value.bool b]) hq9)), .o, .o, .o, .o, .q (ixM_ok (kd := .i64) (T := 33) (x := 2) (N := 3) (sz := 1) rfl (fun w => by kernel_rfl) (show inR 2 3 = true from by decide)), .l (accG (i := 6) (f := cZ) (A := updF (fun k => if k = 0 then gb0_0 else gb0_1) 2 rb1.1) (k := 2) 0 [.int .i64 (rb1.1)] cZ_len (inR_nat (show inR 2 3 = true from by decide)) rfl), .o, .o, .o]
                            rcases e with ⟨hq10, e⟩ | ⟨hq10, e⟩
                            · replace e := cond_eq_or e
                              let P64 : List (PG Try.prog M B0 S) := P63 ++ [.q (ixM_ok (kd := .i64) (T := 24) (x := rb1.1) (N := n0) (sz := 1) rfl (fun w => by kernel_rfl) hq10)]
                              rcases e with ⟨hq11, e⟩ | ⟨hq11, e⟩
                              · cases e; exact goes_runM hU (P64 ++ [.l (accG (i := 0) (f := cB) (A := updF s0_0 (((fun k => if k = 0 then gb0_0 else gb0_1) 0)).toNat true) (k := (rb1.1).toNat) 0 [.bool true] cB_len (inR_nat hq10) (congrArg (fun b => [Value.bool b]) hq11)), .o, .o, .o, .o]) [0, 8] (fun b => rfl) (by decide) rfl rfl (fun b => by kernel_rfl)
                              · replace e := bindT_eq e
                                obtain ⟨rb3, e_rb3, e⟩ := e
                                try dsimp only at e
                                replace e := cond_eq_or e
                                rcases e with ⟨hq12, e⟩ | ⟨hq12, e⟩
                                · cases e; exact goes_runM hU (P64 ++ [.l (accG (i := 0) (f := cB) (A := updF s0_0 (((fun k => if k = 0 then gb0_0 else gb0_1) 0)).toNat true) (k := (rb1.1).toNat) 0 [.bool false] cB_len (inR_nat hq10) (congrArg (fun b => [Value.bool b]) hq11)), .o, .o, .o, .q (ixM_ok (kd := .i64) (T := 24) (x := rb1.1) (N := n0) (sz := 1) rfl (fun w => by kernel_rfl) hq10), .x (sqStGr_ok (T := 4) (e := 4) (f := cB) (A := updF s0_0 (((fun k => if k = 0 then gb0_0 else gb0_1) 0)).toNat true) (v := true) 0 (.bool true) cB_len cB_one rfl rfl (fun w => by kernel_rfl) (inR_nat hq10) e_rb3) [0], .o, .o, .o, .x (sqAppL_ok (ty := 33) rt33 #[false, false] (f := cZ) (N := (((IntKind.i64.wrap ((s0_1 : Int) - 1))).toNat + 1)) (A := rb2) (c := 1) [rb1.1] (T' := 3) .row cZ_len cZ_one hq12 rfl (by decide)) [8, 9], .o, .o, .o, .o]) [0, 10] (fun b => rfl) (by decide) rfl rfl (fun b => by kernel_rfl)
                                · exact none_some e
                            · exact none_some e
                          · replace e := bindT_eq e
                            obtain ⟨rb3, e_rb3, e⟩ := e
                            try dsimp only at e
                            replace e := cond_eq_or e
                            let P65 : List (PG Try.prog M B0 S) := P62 ++ [.l (accG (i := 0) (f := cB) (A := updF s0_0 (((fun k => if k = 0 then gb0_0 else gb0_1) 0)).toNat true) (k := (((fun k => if k = 0 then gb0_0 else gb0_1) 1)).toNat) 0 [.bool false] cB_len (inR_nat hq8) (congrArg (fun b => [Value.bool b]) hq9)), .o, .o, .o, .q (ixM_ok (kd := .i64) (T := 24) (x := ((fun k => if k = 0 then gb0_0 else gb0_1) 1)) (N := n0) (sz := 1) rfl (fun w => by kernel_rfl) hq8), .x (sqStGr_ok (T := 4) (e := 4) (f := cB) (A := updF s0_0 (((fun k => if k = 0 then gb0_0 else gb0_1) 0)).toNat true) (v := true) 0 (.bool true) cB_len cB_one rfl rfl (fun w => by kernel_rfl) (inR_nat hq8) e_rb3) [0], .o, .o, .o]
                            rcases e with ⟨hq10, e⟩ | ⟨hq10, e⟩
                            · replace e := bindT_eq e
                              obtain ⟨rb4, e_rb4, e⟩ := e
                              try dsimp only at e
                              replace e := cond_eq_or e
                              let P66 : List (PG Try.prog M B0 S) := P65 ++ [.x (sqAppLr_ok (ty := 33) rt33 #[false, false] (f := cZ) (N := (((IntKind.i64.wrap ((s0_1 : Int) - 1))).toNat + 1)) (A := rb2) (c := 1) [((fun k => if k = 0 then gb0_0 else gb0_1) 1)] (T' := 3) .row cZ_len cZ_one hq10 rfl (by decide) e_rb4) [8, 9], .o, .o, .o, .o, .q (ixM_ok (kd := .i64) (T := 33) (x := 2) (N := 3) (sz := 1) rfl (fun w => by kernel_rfl) (show inR 2 3 = true from by decide)), .l (accG (i := 6) (f := cZ) (A := updF (fun k => if k = 0 then gb0_0 else gb0_1) 2 rb1.1) (k := 2) 0 [.int .i64 (rb1.1)] cZ_len (inR_nat (show inR 2 3 = true from by decide)) rfl), .o, .o, .o]
                              rcases e with ⟨hq11, e⟩ | ⟨hq11, e⟩
                              · replace e := cond_eq_or e
                                let P67 : List (PG Try.prog M B0 S) := P66 ++ [.q (ixM_ok (kd := .i64) (T := 24) (x := rb1.1) (N := n0) (sz := 1) rfl (fun w => by kernel_rfl) hq11)]
                                rcases e with ⟨hq12, e⟩ | ⟨hq12, e⟩
                                · cases e; exact goes_runM hU (P67 ++ [.l (accG (i := 0) (f := cB) (A := rb3) (k := (rb1.1).toNat) 0 [.bool true] cB_len (inR_nat hq11) (congrArg (fun b => [Value.bool b]) hq12)), .o, .o, .o, .o]) [0, 10] (fun b => rfl) (by decide) rfl rfl (fun b => by kernel_rfl)
                                · replace e := cond_eq_or e
                                  rcases e with ⟨hq13, e⟩ | ⟨hq13, e⟩
                                  · replace e := bindT_eq e
                                    obtain ⟨rb5, e_rb5, e⟩ := e
                                    try dsimp only at e
                                    cases e; exact goes_runM hU (P67 ++ [.l (accG (i := 0) (f := cB) (A := rb3) (k := (rb1.1).toNat) 0 [.bool false] cB_len (inR_nat hq11) (congrArg (fun b => [Value.bool b]) hq12)), .o, .o, .o, .q (ixM_ok (kd := .i64) (T := 24) (x := rb1.1) (N := n0) (sz := 1) rfl (fun w => by kernel_rfl) hq11), .x (sqStG_ok (T := 4) (e := 4) (f := cB) (A := rb3) (v := true) 0 (.bool true) cB_len cB_one rfl rfl (fun w => by kernel_rfl) (inR_nat hq11)) [0], .o, .o, .o, .x (sqAppLr_ok (ty := 33) rt33 #[false, false] (f := cZ) (N := ((((IntKind.i64.wrap ((s0_1 : Int) - 1))).toNat + 1) + 1)) (A := rb4) (c := 1) [rb1.1] (T' := 3) .row cZ_len cZ_one hq13 rfl (by decide) e_rb5) [10, 11], .o, .o, .o, .o]) [0, 12] (fun b => rfl) (by decide) rfl rfl (fun b => by kernel_rfl)
                                  · exact none_some e
                              · exact none_some e
                            · exact none_some e
                        · exact none_some e
                      · exact none_some e
                  · exact none_some e
                · replace e := cond_eq_or e
                  let P68 : List (PG Try.prog M B0 S) := P50 ++ [.b hq4, .o, .o, .o, .o, .o, .o, .o, .o, .a 4, .o, .o, .o]
                  rcases e with ⟨hq5, e⟩ | ⟨hq5, e⟩
                  · replace e := cond_eq_or e
                    let P69 : List (PG Try.prog M B0 S) := P68 ++ [.q (ixM_ok (kd := .i64) (T := 24) (x := gb0_0) (N := n0) (sz := 1) rfl (fun w => by kernel_rfl) hq5)]
                    rcases e with ⟨hq6, e⟩ | ⟨hq6, e⟩
                    · replace e := cond_eq_or e
                      let P70 : List (PG Try.prog M B0 S) := P69 ++ [.l (accG (i := 0) (f := cB) (A := s0_0) (k := (gb0_0).toNat) 0 [.bool true] cB_len (inR_nat hq5) (congrArg (fun b => [Value.bool b]) hq6)), .o, .o, .o, .o, .o, .a 4, .o, .o, .o]
                      rcases e with ⟨hq7, e⟩ | ⟨hq7, e⟩
                      · replace e := cond_eq_or e
                        let P71 : List (PG Try.prog M B0 S) := P70 ++ [.q (ixM_ok (kd := .i64) (T := 24) (x := gb0_1) (N := n0) (sz := 1) rfl (fun w => by kernel_rfl) hq7)]
                        rcases e with ⟨hq8, e⟩ | ⟨hq8, e⟩
                        · cases e; exact goes_runM hU (P71 ++ [.l (accG (i := 0) (f := cB) (A := s0_0) (k := (gb0_1).toNat) 0 [.bool true] cB_len (inR_nat hq7) (congrArg (fun b => [Value.bool b]) hq8)), .o, .o, .o, .o]) [0, 3] (fun b => rfl) (by decide) rfl rfl (fun b => by kernel_rfl)
                        · replace e := cond_eq_or e
                          rcases e with ⟨hq9, e⟩ | ⟨hq9, e⟩
                          · cases e; exact goes_runM hU (P71 ++ [.l (accG (i := 0) (f := cB) (A := s0_0) (k := (gb0_1).toNat) 0 [.bool false] cB_len (inR_nat hq7) (congrArg (fun b => [Value.bool b]) hq8)), .o, .o, .o, .q (ixM_ok (kd := .i64) (T := 24) (x := gb0_1) (N := n0) (sz := 1) rfl (fun w => by kernel_rfl) hq7), .x (sqStG_ok (T := 4) (e := 4) (f := cB) (A := s0_0) (v := true) 0 (.bool true) cB_len cB_one rfl rfl (fun w => by kernel_rfl) (inR_nat hq7)) [0], .o, .o, .o, .x (sqAppL_ok (ty := 33) rt33 #[false, false] (f := cZ) (N := ((IntKind.i64.wrap ((s0_1 : Int) - 1))).toNat) (A := s0_2) (c := 1) [gb0_1] (T' := 3) .row cZ_len cZ_one hq9 rfl (by decide)) [3, 5], .o, .o, .o, .o]) [0, 6] (fun b => rfl) (by decide) rfl rfl (fun b => by kernel_rfl)
                          · exact none_some e
                      · exact none_some e
                    · replace e := cond_eq_or e
                      let P72 : List (PG Try.prog M B0 S) := P69 ++ [.l (accG (i := 0) (f := cB) (A := s0_0) (k := (gb0_0).toNat) 0 [.bool false] cB_len (inR_nat hq5) (congrArg (fun b => [Value.bool b]) hq6)), .o, .o, .o, .q (ixM_ok (kd := .i64) (T := 24) (x := gb0_0) (N := n0) (sz := 1) rfl (fun w => by kernel_rfl) hq5), .x (sqStG_ok (T := 4) (e := 4) (f := cB) (A := s0_0) (v := true) 0 (.bool true) cB_len cB_one rfl rfl (fun w => by kernel_rfl) (inR_nat hq5)) [0], .o, .o, .o]
                      rcases e with ⟨hq7, e⟩ | ⟨hq7, e⟩
                      · replace e := cond_eq_or e
                        let P73 : List (PG Try.prog M B0 S) := P72 ++ [.x (sqAppL_ok (ty := 33) rt33 #[false, false] (f := cZ) (N := ((IntKind.i64.wrap ((s0_1 : Int) - 1))).toNat) (A := s0_2) (c := 1) [gb0_0] (T' := 3) .row cZ_len cZ_one hq7 rfl (by decide)) [3, 5], .o, .o, .o, .o, .o, .a 4, .o, .o, .o]
                        rcases e with ⟨hq8, e⟩ | ⟨hq8, e⟩
                        · replace e := cond_eq_or e
                          let P74 : List (PG Try.prog M B0 S) := P73 ++ [.q (ixM_ok (kd := .i64) (T := 24) (x := gb0_1) (N := n0) (sz := 1) rfl (fun w => by kernel_rfl) hq8)]
                          rcases e with ⟨hq9, e⟩ | ⟨hq9, e⟩
                          · cases e; exact goes_runM hU (P74 ++ [.l (accG (i := 0) (f := cB) (A := updF s0_0 (gb0_0).toNat true) (k := (gb0_1).toNat) 0 [.bool true] cB_len (inR_nat hq8) (congrArg (fun b => [Value.bool b]) hq9)), .o, .o, .o, .o]) [0, 6] (fun b => rfl) (by decide) rfl rfl (fun b => by kernel_rfl)
                          · replace e := cond_eq_or e
                            rcases e with ⟨hq10, e⟩ | ⟨hq10, e⟩
                            · replace e := bindT_eq e
                              obtain ⟨rb2, e_rb2, e⟩ := e
                              try dsimp only at e
                              cases e; exact goes_runM hU (P74 ++ [.l (accG (i := 0) (f := cB) (A := updF s0_0 (gb0_0).toNat true) (k := (gb0_1).toNat) 0 [.bool false] cB_len (inR_nat hq8) (congrArg (fun b => [Value.bool b]) hq9)), .o, .o, .o, .q (ixM_ok (kd := .i64) (T := 24) (x := gb0_1) (N := n0) (sz := 1) rfl (fun w => by kernel_rfl) hq8), .x (sqStG_ok (T := 4) (e := 4) (f := cB) (A := updF s0_0 (gb0_0).toNat true) (v := true) 0 (.bool true) cB_len cB_one rfl rfl (fun w => by kernel_rfl) (inR_nat hq8)) [0], .o, .o, .o, .x (sqAppLr_ok (ty := 33) rt33 #[false, false] (f := cZ) (N := (((IntKind.i64.wrap ((s0_1 : Int) - 1))).toNat + 1)) (A := updF s0_2 ((IntKind.i64.wrap ((s0_1 : Int) - 1))).toNat gb0_0) (c := 1) [gb0_1] (T' := 3) .row cZ_len cZ_one hq10 rfl (by decide) e_rb2) [6, 7], .o, .o, .o, .o]) [0, 8] (fun b => rfl) (by decide) rfl rfl (fun b => by kernel_rfl)
                            · exact none_some e
                        · exact none_some e
                      · exact none_some e
                  · exact none_some e
            · exact none_some e
          · exact none_some e
        · exact none_some e
      · cases e; exact ⟨ne_exit 0, goes_runM hU (P34 ++ [.b (z_gtrF hq0)]) [0, 2] (fun b => rfl) (by decide) rfl rfl (fun b => by kernel_rfl)⟩) s r h
noncomputable def t0_flow_program_reached_L0_0 (a0 : Option Addr) (p0 : Nat) (q0 : Nat) (n0 : Nat) (k0 : Nat) (A0 : Nat → Insn)  (ls : List L1) : List Value := List.append [.slice a0 n0 (n0 + k0), undef, .slice none 0 0, (rowV (lget ls 0) n0 1), .slice (some ⟨(lget ls 1).n, 0, none⟩) 1 1] (List.append (und 6) (List.append [.slice a0 n0 (n0 + k0), .int .i64 ((n0 : Int)), (rowV (lget ls 0) n0 1), (rowV (lget ls 0) n0 1), .pointer (some ⟨(lget ls 0).n, 0 + 0 * 1, none⟩), .slice (some ⟨(lget ls 1).n, 0, none⟩) 1 1] (und 48)))
def pre_flow_program_reached_L0_0 (a0 : Option Addr) (p0 : Nat) (q0 : Nat) (n0 : Nat) (k0 : Nat) (A0 : Nat → Insn)  (ls : List L1) : List Obj := [rowO (lget ls 0) (esG cB n0 (updF (fun _ => false) 0 true)) 4 n0 1, .cells #[.int .i64 (0)] 3]
theorem sp0_flow_program_reached_L0_0_ok (c0_0 : Nat → Bool) (h : lpO (st_flow_program_reached_L0 n0 A0) (.c0) = some (.e0 c0_0)) : SpcG Try.prog M B0 S ⟨fun ls => .code (.loop bd_flow_program_reached_L0) (t0_flow_program_reached_L0_0 a0 p0 q0 n0 k0 A0  ls), pre_flow_program_reached_L0_0 a0 p0 q0 n0 k0 A0 , 2, (.exit 0), fun ls => vf_flow_program_reached_L0 a0 p0 q0 n0 k0 A0 (.e0 c0_0) (ls.take 1 ++ ls.drop 2), fun ls => (Hf_flow_program_reached_L0 a0 p0 q0 n0 k0 A0 (.e0 c0_0) (ls.take 1 ++ ls.drop 2)).take 1 ++ List.replicate 1 unb, fun ls => (Hf_flow_program_reached_L0 a0 p0 q0 n0 k0 A0 (.e0 c0_0) (ls.take 1 ++ ls.drop 2)).drop 1⟩ :=
  spc_of_goesM hU 0 (k0 := 2) (go_flow_program_reached_L0 hU a0 p0 q0 n0 k0 A0 hR0 _ _ h) (t0_flow_program_reached_L0_0 a0 p0 q0 n0 k0 A0 ) (pre_flow_program_reached_L0_0 a0 p0 q0 n0 k0 A0 ) (fun _ => rfl) (fun ls h => by match ls, h with | [l0, l1], _ => exact ⟨by kernel_rfl, by kernel_rfl⟩) (fun ls h => by match ls, h with | [l0, l1], _ => rfl) (by decide) (by decide) (fun ls => rfl)
inductive R_flow_program_reached where
  | e0 (c0_0 : Nat → Bool)
noncomputable def m_flow_program_reached (n0 : Nat) (A0 : Nat → Insn) : Option R_flow_program_reached :=
  bif decide (n0 ≤ 1000000) then
    (bif inR 0 n0 then
      ((lpO (st_flow_program_reached_L0 n0 A0) (.c0)).bind fun g0 => match g0 with
      | .e0 g0_0 =>
      some (.e0 g0_0))
    else (none))
  else (none)
def sq0_flow_program_reached (a0 : Option Addr) (p0 : Nat) (q0 : Nat) (n0 : Nat) (k0 : Nat) (A0 : Nat → Insn) (c0_0 : Nat → Bool) : Spc := ⟨fun ls => .call 26 #[.slice a0 n0 (n0 + k0)], fun ls => [], 1, .normal, fun ls => [(rowV (lget ls 0) n0 1)], fun ls => [], fun ls => [rowO (lget ls 0) (esG cB n0 c0_0) 4 n0 1]⟩
theorem ok0_flow_program_reached (c0_0 : Nat → Bool) (e : m_flow_program_reached n0 A0 = some (.e0 c0_0)) : SpcG Try.prog M B0 S (sq0_flow_program_reached a0 p0 q0 n0 k0 A0 c0_0) := by
  unfold m_flow_program_reached at e
  replace e := cond_eq_or e
  rcases e with ⟨hq0, e⟩ | ⟨hq0, e⟩
  · replace e := cond_eq_or e
    rcases e with ⟨hq1, e⟩ | ⟨hq1, e⟩
    · replace e := bindO_eq e
      obtain ⟨g0, e_g0, e⟩ := e
      obtain ⟨g0_0⟩ := g0
      try dsimp only at e
      injection e with e; injection e with i0; subst i0; exact fn_specG hU (P := Try.prog) Try.func26 (fun xs w => by kernel_rfl) 0 _ _ (fun _ => rfl) _ _ _ [0] [.o, .o, .o, .x (sqMkN_ok rt24 (f := cB) (a0 := false) cB_len (by kernel_rfl) hq0 (by decide)) [], .o, .o, .q (ixM_ok (kd := .i64) (T := 24) (x := 0) (N := n0) (sz := 1) rfl (fun w => by kernel_rfl) hq1), .x (sqStG_ok (T := 4) (e := 4) (f := cB) (A := (fun _ => false)) (v := true) 0 (.bool true) cB_len cB_one rfl rfl (fun w => by kernel_rfl) (inR_nat hq1)) [0], .o, .o, .cp, .cx (sp0_flow_program_reached_L0_0_ok hU a0 p0 q0 n0 k0 A0 hR0  g0_0 e_g0) [0, 1], .o, .o] [] (fun b => by kernel_rfl)
    · exact none_some e
  · exact none_some e
inductive R_flow_Reached where
  | e0 (c0_0 : Nat → Bool)
  | e1 (c1_0 : Int)
noncomputable def m_flow_Reached (n0 : Nat) (A0 : Nat → Insn) : Option R_flow_Reached :=
  (m_insn_Check n0 A0).bind fun r0 =>
  bif r0.2 == 0 then
    ((m_flow_program_reached n0 A0).bind fun g1 => match g1 with
    | .e0 g1_0 =>
    some (.e0 g1_0))
  else (some (.e1 r0.2))
def sq0_flow_Reached (a0 : Option Addr) (p0 : Nat) (q0 : Nat) (n0 : Nat) (k0 : Nat) (A0 : Nat → Insn) (c0_0 : Nat → Bool) : Spc := ⟨fun ls => .call 8 #[.slice a0 n0 (n0 + k0)], fun ls => [], 1, .normal, fun ls => [.tuple #[(rowV (lget ls 0) n0 1), .int .i64 (0)]], fun ls => [], fun ls => [rowO (lget ls 0) (esG cB n0 c0_0) 4 n0 1]⟩
def sq1_flow_Reached (a0 : Option Addr) (p0 : Nat) (q0 : Nat) (n0 : Nat) (k0 : Nat) (A0 : Nat → Insn) (c1_0 : Int) : Spc := ⟨fun ls => .call 8 #[.slice a0 n0 (n0 + k0)], fun ls => [], 0, .normal, fun ls => [.tuple #[.slice none 0 0, .int .i64 (c1_0)]], fun ls => [], fun ls => []⟩
theorem ok0_flow_Reached (c0_0 : Nat → Bool) (e : m_flow_Reached n0 A0 = some (.e0 c0_0)) : SpcG Try.prog M B0 S (sq0_flow_Reached a0 p0 q0 n0 k0 A0 c0_0) := by
  unfold m_flow_Reached at e
  replace e := bindO_eq e
  obtain ⟨r0, e_r0, e⟩ := e
  try dsimp only at e
  replace e := cond_eq_or e
  rcases e with ⟨hq0, e⟩ | ⟨hq0, e⟩
  · replace e := bindO_eq e
    obtain ⟨g1, e_g1, e⟩ := e
    obtain ⟨g1_0⟩ := g1
    try dsimp only at e
    injection e with e; injection e with i0; subst i0; exact fn_specG hU (P := Try.prog) Try.func8 (fun xs w => by kernel_rfl) 0 _ _ (fun _ => rfl) _ _ _ [0] [.o, .o, .o, .cg (ok_insn_Check hU a0 p0 q0 n0 k0 A0 hR0 r0 e_r0), .o, .o, .o, .o, .o, .o, .b (z_neqT hq0), .o, .xg (ok0_flow_program_reached hU a0 p0 q0 n0 k0 A0 hR0 g1_0 e_g1) [], .o, .o] [] (fun b => by kernel_rfl)
  · cases e
theorem ok1_flow_Reached (c1_0 : Int) (e : m_flow_Reached n0 A0 = some (.e1 c1_0)) : SpcG Try.prog M B0 S (sq1_flow_Reached a0 p0 q0 n0 k0 A0 c1_0) := by
  unfold m_flow_Reached at e
  replace e := bindO_eq e
  obtain ⟨r0, e_r0, e⟩ := e
  try dsimp only at e
  replace e := cond_eq_or e
  rcases e with ⟨hq0, e⟩ | ⟨hq0, e⟩
  · replace e := bindO_eq e
    obtain ⟨g1, e_g1, e⟩ := e
    obtain ⟨g1_0⟩ := g1
    try dsimp only at e
    cases e
  · injection e with e; injection e with i0; subst i0; exact fn_specG hU (P := Try.prog) Try.func8 (fun xs w => by kernel_rfl) 0 _ _ (fun _ => rfl) _ _ _ [] [.o, .o, .o, .cg (ok_insn_Check hU a0 p0 q0 n0 k0 A0 hR0 r0 e_r0), .o, .o, .o, .o, .o, .o, .b (z_neqF hq0), .o, .o, .o] [] (fun b => by kernel_rfl)
end

end Go.Proofs.Ytkfmmcobmjkilaa


