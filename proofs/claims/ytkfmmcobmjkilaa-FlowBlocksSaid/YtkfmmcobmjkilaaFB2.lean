/-
  Flow: blocks.
-/
import Derived.Test.YtkfmmcobmjkilaaFB1
namespace Go.Proofs.Ytkfmmcobmjkilaa
open Go.RowKit
set_option linter.unusedVariables false
set_option linter.unusedSimpArgs false
set_option linter.unusedSectionVars false
set_option maxRecDepth 100000
set_option maxHeartbeats 4000000
inductive Sh_flow_program_begins_L1 where
  | c0 (s0_0 : Nat → Bool) (s0_1 : Int)
inductive Ex_flow_program_begins_L1 where
  | e0 (c0_0 : Nat → Bool) (c0_1 : Int)
noncomputable def st_flow_program_begins_L1 (n0 : Nat) (A0 : Nat → Insn) (n1 : Nat) (A1 : Nat → Bool) : Sh_flow_program_begins_L1 → Option (Sh_flow_program_begins_L1 ⊕ Ex_flow_program_begins_L1)
  | .c0 s0_0 s0_1 =>
    bif decide (s0_1 < (n0 : Int)) then
      (bif inR s0_1 n1 then
        (bif (A1 (s0_1).toNat) then
          (bif inR s0_1 n0 then
            (bif m_op_Jumps ((A0 (s0_1).toNat)) then
              ((m_insn_Target n0 A0 s0_1).bind fun rb0 =>
              bif inR rb0.1 ((IntKind.i64.wrap ((n0 : Int) + 1))).toNat then
                (bif inR (IntKind.i64.wrap (s0_1 + 1)) ((IntKind.i64.wrap ((n0 : Int) + 1))).toNat then
                  (bindT (updF (updF s0_0 (rb0.1).toNat true) ((IntKind.i64.wrap (s0_1 + 1))).toNat true) fun rb1 =>
                  some (.inl (.c0 rb1 (IntKind.i64.wrap (s0_1 + 1)))))
                else (none))
              else (none))
            else (bif ((A0 (s0_1).toNat)).fOp == 149#8 then
              (bif inR (IntKind.i64.wrap (s0_1 + 1)) ((IntKind.i64.wrap ((n0 : Int) + 1))).toNat then
                (some (.inl (.c0 (updF s0_0 ((IntKind.i64.wrap (s0_1 + 1))).toNat true) (IntKind.i64.wrap (s0_1 + 1)))))
              else (none))
            else (some (.inl (.c0 s0_0 (IntKind.i64.wrap (s0_1 + 1)))))))
          else (none))
        else (some (.inl (.c0 s0_0 (IntKind.i64.wrap (s0_1 + 1))))))
      else (none))
    else (some (.inr (.e0 s0_0 s0_1)))
noncomputable def bd_flow_program_begins_L1 : Code := codeOf Try.f46 [1, 0, 1, 1, 1, 1, 0, 1, 0, 0]
def fl_flow_program_begins_L1 (a0 : Option Addr) (p0 : Nat) (q0 : Nat) (n0 : Nat) (k0 : Nat) (A0 : Nat → Insn) (a1 : Option Addr) (p1 : Nat) (q1 : Nat) (n1 : Nat) (k1 : Nat) (A1 : Nat → Bool) (g0_0 : Int) (g0_1 : Int) : Sh_flow_program_begins_L1 → List L1 → List Value
  | .c0 s0_0 s0_1, ls => [.slice a0 n0 (n0 + k0), .slice a1 n1 (n1 + k1), .slice none 0 0, (rowV (lget ls 0) ((IntKind.i64.wrap ((n0 : Int) + 1))).toNat 1), .slice none 0 0, .slice a0 n0 (n0 + k0), .int .i64 ((n0 : Int)), .int .i64 ((IntKind.i64.wrap ((n0 : Int) + 1))), (rowV (lget ls 0) ((IntKind.i64.wrap ((n0 : Int) + 1))).toNat 1), .tuple #[.slice none 0 0, .int .i64 (g0_0), .int .i64 (g0_1)], .slice a0 n0 (n0 + k0), .tuple #[.slice none 0 0, .int .i64 (g0_0), .int .i64 (g0_1)], .slice none 0 0, .int .i64 (g0_0), .int .i64 (g0_1), .slice none 0 0, .int .i64 (0), .int .i64 (0), .bool false, .slice a0 n0 (n0 + k0), .int .i64 ((n0 : Int)), .int .i64 (s0_1)]
def mf_flow_program_begins_L1 : Sh_flow_program_begins_L1 → List (Nat × Nat)
  | .c0 _ _ => [(2, 2), (3, 7), (14, 7), (3, 35)]
noncomputable def fr_flow_program_begins_L1 (a0 : Option Addr) (p0 : Nat) (q0 : Nat) (n0 : Nat) (k0 : Nat) (A0 : Nat → Insn) (a1 : Option Addr) (p1 : Nat) (q1 : Nat) (n1 : Nat) (k1 : Nat) (A1 : Nat → Bool) (g0_0 : Int) (g0_1 : Int) (s : Sh_flow_program_begins_L1) : List L1 → List Value := mrgF (mf_flow_program_begins_L1 s) (fl_flow_program_begins_L1 a0 p0 q0 n0 k0 A0 a1 p1 q1 n1 k1 A1 g0_0 g0_1 s) 1
def Hs_flow_program_begins_L1 (a0 : Option Addr) (p0 : Nat) (q0 : Nat) (n0 : Nat) (k0 : Nat) (A0 : Nat → Insn) (a1 : Option Addr) (p1 : Nat) (q1 : Nat) (n1 : Nat) (k1 : Nat) (A1 : Nat → Bool) (g0_0 : Int) (g0_1 : Int) : Sh_flow_program_begins_L1 → List L1 → List Obj
  | .c0 s0_0 s0_1, ls => [rowO (lget ls 0) (esG cB ((IntKind.i64.wrap ((n0 : Int) + 1))).toNat s0_0) 4 ((IntKind.i64.wrap ((n0 : Int) + 1))).toNat 1, unb]
def vl_flow_program_begins_L1 (a0 : Option Addr) (p0 : Nat) (q0 : Nat) (n0 : Nat) (k0 : Nat) (A0 : Nat → Insn) (a1 : Option Addr) (p1 : Nat) (q1 : Nat) (n1 : Nat) (k1 : Nat) (A1 : Nat → Bool) (g0_0 : Int) (g0_1 : Int) : Ex_flow_program_begins_L1 → List L1 → List Value
  | .e0 c0_0 c0_1, ls => [.slice a0 n0 (n0 + k0), .slice a1 n1 (n1 + k1), .slice none 0 0, (rowV (lget ls 0) ((IntKind.i64.wrap ((n0 : Int) + 1))).toNat 1), .slice none 0 0, .slice a0 n0 (n0 + k0), .int .i64 ((n0 : Int)), .int .i64 ((IntKind.i64.wrap ((n0 : Int) + 1))), (rowV (lget ls 0) ((IntKind.i64.wrap ((n0 : Int) + 1))).toNat 1), .tuple #[.slice none 0 0, .int .i64 (g0_0), .int .i64 (g0_1)], .slice a0 n0 (n0 + k0), .tuple #[.slice none 0 0, .int .i64 (g0_0), .int .i64 (g0_1)], .slice none 0 0, .int .i64 (g0_0), .int .i64 (g0_1), .slice none 0 0, .int .i64 (0), .int .i64 (0), .bool false, .slice a0 n0 (n0 + k0), .int .i64 ((n0 : Int)), .int .i64 (c0_1), .bool false]
def mk_flow_program_begins_L1 : Ex_flow_program_begins_L1 → List (Nat × Nat)
  | .e0 _ _ => [(2, 2), (3, 7), (14, 7), (4, 34)]
noncomputable def vf_flow_program_begins_L1 (a0 : Option Addr) (p0 : Nat) (q0 : Nat) (n0 : Nat) (k0 : Nat) (A0 : Nat → Insn) (a1 : Option Addr) (p1 : Nat) (q1 : Nat) (n1 : Nat) (k1 : Nat) (A1 : Nat → Bool) (g0_0 : Int) (g0_1 : Int) (r : Ex_flow_program_begins_L1) : List L1 → List Value := mrgF (mk_flow_program_begins_L1 r) (vl_flow_program_begins_L1 a0 p0 q0 n0 k0 A0 a1 p1 q1 n1 k1 A1 g0_0 g0_1 r) 1
def Hf_flow_program_begins_L1 (a0 : Option Addr) (p0 : Nat) (q0 : Nat) (n0 : Nat) (k0 : Nat) (A0 : Nat → Insn) (a1 : Option Addr) (p1 : Nat) (q1 : Nat) (n1 : Nat) (k1 : Nat) (A1 : Nat → Bool) (g0_0 : Int) (g0_1 : Int) : Ex_flow_program_begins_L1 → List L1 → List Obj
  | .e0 c0_0 c0_1, ls => [rowO (lget ls 0) (esG cB ((IntKind.i64.wrap ((n0 : Int) + 1))).toNat c0_0) 4 ((IntKind.i64.wrap ((n0 : Int) + 1))).toNat 1, unb]
def ex_flow_program_begins_L1 : Ex_flow_program_begins_L1 → Ex
  | .e0 _ _ => (.exit 2)
section
variable {M : Nat → Prop} {B0 : Nat} {S : World → Prop} (hU : Up M B0 S) (a0 : Option Addr) (p0 : Nat) (q0 : Nat) (n0 : Nat) (k0 : Nat) (A0 : Nat → Insn) (hR0 : Ro S c_Insn 5 a0 p0 q0 n0 A0) (a1 : Option Addr) (p1 : Nat) (q1 : Nat) (n1 : Nat) (k1 : Nat) (A1 : Nat → Bool) (hR1 : Ro S cB 1 a1 p1 q1 n1 A1) (g0_0 : Int) (g0_1 : Int)
include hU a0 p0 q0 n0 k0 A0 hR0 a1 p1 q1 n1 k1 A1 hR1 g0_0 g0_1
theorem go_flow_program_begins_L1 (s : Sh_flow_program_begins_L1) (r : Ex_flow_program_begins_L1) (h : lpO (st_flow_program_begins_L1 n0 A0 n1 A1) s = some r) : GoesG Try.prog M B0 S (.loop bd_flow_program_begins_L1) 2 (fr_flow_program_begins_L1 a0 p0 q0 n0 k0 A0 a1 p1 q1 n1 k1 A1 g0_0 g0_1 s) (Hs_flow_program_begins_L1 a0 p0 q0 n0 k0 A0 a1 p1 q1 n1 k1 A1 g0_0 g0_1 s) (ex_flow_program_begins_L1 r) 1 (vf_flow_program_begins_L1 a0 p0 q0 n0 k0 A0 a1 p1 q1 n1 k1 A1 g0_0 g0_1 r) (Hf_flow_program_begins_L1 a0 p0 q0 n0 k0 A0 a1 p1 q1 n1 k1 A1 g0_0 g0_1 r) 2 :=
  goes_lpO (fun s q e => by
    cases s with
    | c0 s0_0 s0_1 =>
      unfold st_flow_program_begins_L1 at e
      dsimp only at e
      replace e := cond_eq_or e
      rcases e with ⟨hq0, e⟩ | ⟨hq0, e⟩
      · replace e := cond_eq_or e
        rcases e with ⟨hq1, e⟩ | ⟨hq1, e⟩
        · replace e := cond_eq_or e
          rcases e with ⟨hq2, e⟩ | ⟨hq2, e⟩
          · replace e := cond_eq_or e
            rcases e with ⟨hq3, e⟩ | ⟨hq3, e⟩
            · replace e := cond_eq_or e
              rcases e with ⟨hq4, e⟩ | ⟨hq4, e⟩
              · replace e := bindO_eq e
                obtain ⟨rb0, e_rb0, e⟩ := e
                try dsimp only at e
                replace e := cond_eq_or e
                rcases e with ⟨hq5, e⟩ | ⟨hq5, e⟩
                · replace e := cond_eq_or e
                  rcases e with ⟨hq6, e⟩ | ⟨hq6, e⟩
                  · replace e := bindT_eq e
                    obtain ⟨rb1, e_rb1, e⟩ := e
                    try dsimp only at e
                    cases e; exact goes_runM hU [.b (z_lssT hq0), .o, .o, .o, .o, .q (ixRo_ok (kd := .i64) (T := 24) (x := s0_1) (sz := 1) rfl (fun w => by kernel_rfl) hR1 hq1), .l (accRo hR1 cB_len (inR_nat hq1) 0 [.bool true] (congrArg (fun b => [Value.bool b]) hq2)), .o, .o, .o, .q (ixRo_ok (kd := .i64) (T := 62) (x := s0_1) (sz := 5) rfl (fun w => by kernel_rfl) hR0 hq3), .l (accRo hR0 c_Insn_len (inR_nat hq3) 0 [.int .u8 (nn ((A0 (s0_1).toNat)).fOp), .int .u8 (nn ((A0 (s0_1).toNat)).fDst), .int .u8 (nn ((A0 (s0_1).toNat)).fSrc), .int .i16 (ii ((A0 (s0_1).toNat)).fOff), .int .i32 (ii ((A0 (s0_1).toNat)).fImm)] rfl), .cg (ok_op_Jumps hU ((A0 (s0_1).toNat)) true hq4), .o, .o, .o, .cg (ok_insn_Target hU a0 p0 q0 n0 k0 A0 hR0 s0_1 rb0 e_rb0), .o, .o, .o, .o, .o, .o, .o, .q (ixM_ok (kd := .i64) (T := 24) (x := rb0.1) (N := ((IntKind.i64.wrap ((n0 : Int) + 1))).toNat) (sz := 1) rfl (fun w => by kernel_rfl) hq5), .x (sqStG_ok (T := 4) (e := 4) (f := cB) (A := s0_0) (v := true) 0 (.bool true) cB_len cB_one rfl rfl (fun w => by kernel_rfl) (inR_nat hq5)) [0], .o, .o, .o, .q (ixM_ok (kd := .i64) (T := 24) (x := (IntKind.i64.wrap (s0_1 + 1))) (N := ((IntKind.i64.wrap ((n0 : Int) + 1))).toNat) (sz := 1) rfl (fun w => by kernel_rfl) hq6), .x (sqStGr_ok (T := 4) (e := 4) (f := cB) (A := updF s0_0 (rb0.1).toNat true) (v := true) 0 (.bool true) cB_len cB_one rfl rfl (fun w => by kernel_rfl) (inR_nat hq6) e_rb1) [0], .o, .o] [0] (fun b => rfl) (by decide) rfl rfl (fun b => by kernel_rfl)
                  · exact none_some e
                · exact none_some e
              · replace e := cond_eq_or e
                rcases e with ⟨hq5, e⟩ | ⟨hq5, e⟩
                · replace e := cond_eq_or e
                  rcases e with ⟨hq6, e⟩ | ⟨hq6, e⟩
                  · cases e; exact goes_runM hU [.b (z_lssT hq0), .o, .o, .o, .o, .q (ixRo_ok (kd := .i64) (T := 24) (x := s0_1) (sz := 1) rfl (fun w => by kernel_rfl) hR1 hq1), .l (accRo hR1 cB_len (inR_nat hq1) 0 [.bool true] (congrArg (fun b => [Value.bool b]) hq2)), .o, .o, .o, .q (ixRo_ok (kd := .i64) (T := 62) (x := s0_1) (sz := 5) rfl (fun w => by kernel_rfl) hR0 hq3), .l (accRo hR0 c_Insn_len (inR_nat hq3) 0 [.int .u8 (nn ((A0 (s0_1).toNat)).fOp), .int .u8 (nn ((A0 (s0_1).toNat)).fDst), .int .u8 (nn ((A0 (s0_1).toNat)).fSrc), .int .i16 (ii ((A0 (s0_1).toNat)).fOff), .int .i32 (ii ((A0 (s0_1).toNat)).fImm)] rfl), .cg (ok_op_Jumps hU ((A0 (s0_1).toNat)) false hq4), .o, .o, .o, .q (ixRo_ok (kd := .i64) (T := 62) (x := s0_1) (sz := 5) rfl (fun w => by kernel_rfl) hR0 hq3), .o, .l (accRo hR0 c_Insn_len (inR_nat hq3) 0 [.int .u8 (nn ((A0 (s0_1).toNat)).fOp)] rfl), .tn (u_ne ((A0 (s0_1).toNat)).fOp (149#8)) hq5, .o, .o, .o, .o, .q (ixM_ok (kd := .i64) (T := 24) (x := (IntKind.i64.wrap (s0_1 + 1))) (N := ((IntKind.i64.wrap ((n0 : Int) + 1))).toNat) (sz := 1) rfl (fun w => by kernel_rfl) hq6), .x (sqStG_ok (T := 4) (e := 4) (f := cB) (A := s0_0) (v := true) 0 (.bool true) cB_len cB_one rfl rfl (fun w => by kernel_rfl) (inR_nat hq6)) [0], .o, .o] [0] (fun b => rfl) (by decide) rfl rfl (fun b => by kernel_rfl)
                  · exact none_some e
                · cases e; exact goes_runM hU [.b (z_lssT hq0), .o, .o, .o, .o, .q (ixRo_ok (kd := .i64) (T := 24) (x := s0_1) (sz := 1) rfl (fun w => by kernel_rfl) hR1 hq1), .l (accRo hR1 cB_len (inR_nat hq1) 0 [.bool true] (congrArg (fun b => [Value.bool b]) hq2)), .o, .o, .o, .q (ixRo_ok (kd := .i64) (T := 62) (x := s0_1) (sz := 5) rfl (fun w => by kernel_rfl) hR0 hq3), .l (accRo hR0 c_Insn_len (inR_nat hq3) 0 [.int .u8 (nn ((A0 (s0_1).toNat)).fOp), .int .u8 (nn ((A0 (s0_1).toNat)).fDst), .int .u8 (nn ((A0 (s0_1).toNat)).fSrc), .int .i16 (ii ((A0 (s0_1).toNat)).fOff), .int .i32 (ii ((A0 (s0_1).toNat)).fImm)] rfl), .cg (ok_op_Jumps hU ((A0 (s0_1).toNat)) false hq4), .o, .o, .o, .q (ixRo_ok (kd := .i64) (T := 62) (x := s0_1) (sz := 5) rfl (fun w => by kernel_rfl) hR0 hq3), .o, .l (accRo hR0 c_Insn_len (inR_nat hq3) 0 [.int .u8 (nn ((A0 (s0_1).toNat)).fOp)] rfl), .tn (u_ne ((A0 (s0_1).toNat)).fOp (149#8)) hq5, .o, .o, .o] [0] (fun b => rfl) (by decide) rfl rfl (fun b => by kernel_rfl)
            · exact none_some e
          · cases e; exact goes_runM hU [.b (z_lssT hq0), .o, .o, .o, .o, .q (ixRo_ok (kd := .i64) (T := 24) (x := s0_1) (sz := 1) rfl (fun w => by kernel_rfl) hR1 hq1), .l (accRo hR1 cB_len (inR_nat hq1) 0 [.bool false] (congrArg (fun b => [Value.bool b]) hq2)), .o, .o, .o] [0] (fun b => rfl) (by decide) rfl rfl (fun b => by kernel_rfl)
        · exact none_some e
      · cases e; exact ⟨ne_exit 2, goes_runM hU [.b (z_lssF hq0)] [0] (fun b => rfl) (by decide) rfl rfl (fun b => by kernel_rfl)⟩) s r h
noncomputable def t0_flow_program_begins_L1_0 (a0 : Option Addr) (p0 : Nat) (q0 : Nat) (n0 : Nat) (k0 : Nat) (A0 : Nat → Insn) (a1 : Option Addr) (p1 : Nat) (q1 : Nat) (n1 : Nat) (k1 : Nat) (A1 : Nat → Bool) (g0_0 : Int) (g0_1 : Int) (s0_0 : Nat → Bool) (s0_1 : Int) (ls : List L1) : List Value := List.append [.slice a0 n0 (n0 + k0), .slice a1 n1 (n1 + k1), undef, undef, .slice none 0 0, (rowV (lget ls 0) ((IntKind.i64.wrap ((n0 : Int) + 1))).toNat 1), .slice none 0 0, .int .i64 (g0_0), .int .i64 (g0_1)] (List.append (und 5) (List.append [.slice a0 n0 (n0 + k0), .int .i64 ((n0 : Int)), .int .i64 ((IntKind.i64.wrap ((n0 : Int) + 1))), (rowV (lget ls 0) ((IntKind.i64.wrap ((n0 : Int) + 1))).toNat 1), .tuple #[.slice none 0 0, .int .i64 (g0_0), .int .i64 (g0_1)], .slice a0 n0 (n0 + k0), .tuple #[.slice none 0 0, .int .i64 (g0_0), .int .i64 (g0_1)], .slice none 0 0, .int .i64 (g0_0), .int .i64 (g0_1), .slice none 0 0, .int .i64 (0), .int .i64 (0), .bool false] (List.append (und 7) (List.append [.slice a0 n0 (n0 + k0), .int .i64 ((n0 : Int)), .int .i64 (s0_1)] (und 35)))))
def pre_flow_program_begins_L1_0 (a0 : Option Addr) (p0 : Nat) (q0 : Nat) (n0 : Nat) (k0 : Nat) (A0 : Nat → Insn) (a1 : Option Addr) (p1 : Nat) (q1 : Nat) (n1 : Nat) (k1 : Nat) (A1 : Nat → Bool) (g0_0 : Int) (g0_1 : Int) (s0_0 : Nat → Bool) (s0_1 : Int) (ls : List L1) : List Obj := [rowO (lget ls 0) (esG cB ((IntKind.i64.wrap ((n0 : Int) + 1))).toNat s0_0) 4 ((IntKind.i64.wrap ((n0 : Int) + 1))).toNat 1]
theorem sp0_flow_program_begins_L1_0_ok (s0_0 : Nat → Bool) (s0_1 : Int) (c0_0 : Nat → Bool) (c0_1 : Int) (h : lpO (st_flow_program_begins_L1 n0 A0 n1 A1) (.c0 s0_0 s0_1) = some (.e0 c0_0 c0_1)) : SpcG Try.prog M B0 S ⟨fun ls => .code (.loop bd_flow_program_begins_L1) (t0_flow_program_begins_L1_0 a0 p0 q0 n0 k0 A0 a1 p1 q1 n1 k1 A1 g0_0 g0_1 s0_0 s0_1 ls), pre_flow_program_begins_L1_0 a0 p0 q0 n0 k0 A0 a1 p1 q1 n1 k1 A1 g0_0 g0_1 s0_0 s0_1, 1, (.exit 2), fun ls => vf_flow_program_begins_L1 a0 p0 q0 n0 k0 A0 a1 p1 q1 n1 k1 A1 g0_0 g0_1 (.e0 c0_0 c0_1) (ls.take 1 ++ ls.drop 1), fun ls => (Hf_flow_program_begins_L1 a0 p0 q0 n0 k0 A0 a1 p1 q1 n1 k1 A1 g0_0 g0_1 (.e0 c0_0 c0_1) (ls.take 1 ++ ls.drop 1)).take 1 ++ List.replicate 0 unb, fun ls => (Hf_flow_program_begins_L1 a0 p0 q0 n0 k0 A0 a1 p1 q1 n1 k1 A1 g0_0 g0_1 (.e0 c0_0 c0_1) (ls.take 1 ++ ls.drop 1)).drop 1⟩ :=
  spc_of_goesM hU 0 (k0 := 1) (go_flow_program_begins_L1 hU a0 p0 q0 n0 k0 A0 hR0 a1 p1 q1 n1 k1 A1 hR1 g0_0 g0_1 _ _ h) (t0_flow_program_begins_L1_0 a0 p0 q0 n0 k0 A0 a1 p1 q1 n1 k1 A1 g0_0 g0_1 s0_0 s0_1) (pre_flow_program_begins_L1_0 a0 p0 q0 n0 k0 A0 a1 p1 q1 n1 k1 A1 g0_0 g0_1 s0_0 s0_1) (fun _ => rfl) (fun ls h => by match ls, h with | [l0], _ => exact ⟨by kernel_rfl, by kernel_rfl⟩) (fun ls h => by match ls, h with | [l0], _ => rfl) (by decide) (by decide) (fun ls => rfl)
inductive Sh_flow_program_begins_L0 where
  | c0 (s0_0 : Nat → Bool) (s0_1 : Int)
inductive Ex_flow_program_begins_L0 where
  | e0 (c0_0 : Nat → Bool) (c0_1 : Int)
noncomputable def st_flow_program_begins_L0 (n0 : Nat) (g0_0 : Nat) (g0_1 : Nat → Part) : Sh_flow_program_begins_L0 → Option (Sh_flow_program_begins_L0 ⊕ Ex_flow_program_begins_L0)
  | .c0 s0_0 s0_1 =>
    bif decide (s0_1 < (g0_0 : Int)) then
      (bif inR s0_1 g0_0 then
        (bif inR ((g0_1 (s0_1).toNat)).fFrom ((IntKind.i64.wrap ((n0 : Int) + 1))).toNat then
          (some (.inl (.c0 (updF s0_0 (((g0_1 (s0_1).toNat)).fFrom).toNat true) (IntKind.i64.wrap (s0_1 + 1)))))
        else (none))
      else (none))
    else (some (.inr (.e0 s0_0 s0_1)))
noncomputable def bd_flow_program_begins_L0 : Code := codeOf Try.f46 [1, 0, 1, 1, 0, 1, 0, 0]
def fl_flow_program_begins_L0 (a0 : Option Addr) (p0 : Nat) (q0 : Nat) (n0 : Nat) (k0 : Nat) (A0 : Nat → Insn) (a1 : Option Addr) (p1 : Nat) (q1 : Nat) (n1 : Nat) (k1 : Nat) (A1 : Nat → Bool) (g0_0 : Nat) (g0_1 : Nat → Part) : Sh_flow_program_begins_L0 → List L1 → List Value
  | .c0 s0_0 s0_1, ls => [.slice a0 n0 (n0 + k0), .slice a1 n1 (n1 + k1), .slice none 0 0, (rowV (lget ls 0) ((IntKind.i64.wrap ((n0 : Int) + 1))).toNat 1), (rowV (lget ls 1) g0_0 2), .slice a0 n0 (n0 + k0), .int .i64 ((n0 : Int)), .int .i64 ((IntKind.i64.wrap ((n0 : Int) + 1))), (rowV (lget ls 0) ((IntKind.i64.wrap ((n0 : Int) + 1))).toNat 1), .tuple #[(rowV (lget ls 1) g0_0 2), .int .i64 (0), .int .i64 (0)], .slice a0 n0 (n0 + k0), .tuple #[(rowV (lget ls 1) g0_0 2), .int .i64 (0), .int .i64 (0)], (rowV (lget ls 1) g0_0 2), .int .i64 (0), .int .i64 (0), (rowV (lget ls 1) g0_0 2), .int .i64 ((g0_0 : Int)), .int .i64 (s0_1)]
def mf_flow_program_begins_L0 : Sh_flow_program_begins_L0 → List (Nat × Nat)
  | .c0 _ _ => [(2, 2), (3, 7), (13, 46)]
noncomputable def fr_flow_program_begins_L0 (a0 : Option Addr) (p0 : Nat) (q0 : Nat) (n0 : Nat) (k0 : Nat) (A0 : Nat → Insn) (a1 : Option Addr) (p1 : Nat) (q1 : Nat) (n1 : Nat) (k1 : Nat) (A1 : Nat → Bool) (g0_0 : Nat) (g0_1 : Nat → Part) (s : Sh_flow_program_begins_L0) : List L1 → List Value := mrgF (mf_flow_program_begins_L0 s) (fl_flow_program_begins_L0 a0 p0 q0 n0 k0 A0 a1 p1 q1 n1 k1 A1 g0_0 g0_1 s) 2
def Hs_flow_program_begins_L0 (a0 : Option Addr) (p0 : Nat) (q0 : Nat) (n0 : Nat) (k0 : Nat) (A0 : Nat → Insn) (a1 : Option Addr) (p1 : Nat) (q1 : Nat) (n1 : Nat) (k1 : Nat) (A1 : Nat → Bool) (g0_0 : Nat) (g0_1 : Nat → Part) : Sh_flow_program_begins_L0 → List L1 → List Obj
  | .c0 s0_0 s0_1, ls => [rowO (lget ls 0) (esG cB ((IntKind.i64.wrap ((n0 : Int) + 1))).toNat s0_0) 4 ((IntKind.i64.wrap ((n0 : Int) + 1))).toNat 1, rowO (lget ls 1) (esG c_Part g0_0 g0_1) 32 g0_0 2, unb]
def vl_flow_program_begins_L0 (a0 : Option Addr) (p0 : Nat) (q0 : Nat) (n0 : Nat) (k0 : Nat) (A0 : Nat → Insn) (a1 : Option Addr) (p1 : Nat) (q1 : Nat) (n1 : Nat) (k1 : Nat) (A1 : Nat → Bool) (g0_0 : Nat) (g0_1 : Nat → Part) : Ex_flow_program_begins_L0 → List L1 → List Value
  | .e0 c0_0 c0_1, ls => [.slice a0 n0 (n0 + k0), .slice a1 n1 (n1 + k1), .slice none 0 0, (rowV (lget ls 0) ((IntKind.i64.wrap ((n0 : Int) + 1))).toNat 1), (rowV (lget ls 1) g0_0 2), .slice a0 n0 (n0 + k0), .int .i64 ((n0 : Int)), .int .i64 ((IntKind.i64.wrap ((n0 : Int) + 1))), (rowV (lget ls 0) ((IntKind.i64.wrap ((n0 : Int) + 1))).toNat 1), .tuple #[(rowV (lget ls 1) g0_0 2), .int .i64 (0), .int .i64 (0)], .slice a0 n0 (n0 + k0), .tuple #[(rowV (lget ls 1) g0_0 2), .int .i64 (0), .int .i64 (0)], (rowV (lget ls 1) g0_0 2), .int .i64 (0), .int .i64 (0), (rowV (lget ls 1) g0_0 2), .int .i64 ((g0_0 : Int)), .int .i64 (c0_1), .bool false]
def mk_flow_program_begins_L0 : Ex_flow_program_begins_L0 → List (Nat × Nat)
  | .e0 _ _ => [(2, 2), (3, 7), (14, 45)]
noncomputable def vf_flow_program_begins_L0 (a0 : Option Addr) (p0 : Nat) (q0 : Nat) (n0 : Nat) (k0 : Nat) (A0 : Nat → Insn) (a1 : Option Addr) (p1 : Nat) (q1 : Nat) (n1 : Nat) (k1 : Nat) (A1 : Nat → Bool) (g0_0 : Nat) (g0_1 : Nat → Part) (r : Ex_flow_program_begins_L0) : List L1 → List Value := mrgF (mk_flow_program_begins_L0 r) (vl_flow_program_begins_L0 a0 p0 q0 n0 k0 A0 a1 p1 q1 n1 k1 A1 g0_0 g0_1 r) 2
def Hf_flow_program_begins_L0 (a0 : Option Addr) (p0 : Nat) (q0 : Nat) (n0 : Nat) (k0 : Nat) (A0 : Nat → Insn) (a1 : Option Addr) (p1 : Nat) (q1 : Nat) (n1 : Nat) (k1 : Nat) (A1 : Nat → Bool) (g0_0 : Nat) (g0_1 : Nat → Part) : Ex_flow_program_begins_L0 → List L1 → List Obj
  | .e0 c0_0 c0_1, ls => [rowO (lget ls 0) (esG cB ((IntKind.i64.wrap ((n0 : Int) + 1))).toNat c0_0) 4 ((IntKind.i64.wrap ((n0 : Int) + 1))).toNat 1, rowO (lget ls 1) (esG c_Part g0_0 g0_1) 32 g0_0 2, unb]
def ex_flow_program_begins_L0 : Ex_flow_program_begins_L0 → Ex
  | .e0 _ _ => (.exit 0)
end
section
variable {M : Nat → Prop} {B0 : Nat} {S : World → Prop} (hU : Up M B0 S) (a0 : Option Addr) (p0 : Nat) (q0 : Nat) (n0 : Nat) (k0 : Nat) (A0 : Nat → Insn) (hR0 : Ro S c_Insn 5 a0 p0 q0 n0 A0) (a1 : Option Addr) (p1 : Nat) (q1 : Nat) (n1 : Nat) (k1 : Nat) (A1 : Nat → Bool) (hR1 : Ro S cB 1 a1 p1 q1 n1 A1) (g0_0 : Nat) (g0_1 : Nat → Part)
include hU a0 p0 q0 n0 k0 A0 hR0 a1 p1 q1 n1 k1 A1 hR1 g0_0 g0_1
theorem go_flow_program_begins_L0 (s : Sh_flow_program_begins_L0) (r : Ex_flow_program_begins_L0) (h : lpO (st_flow_program_begins_L0 n0 g0_0 g0_1) s = some r) : GoesG Try.prog M B0 S (.loop bd_flow_program_begins_L0) 3 (fr_flow_program_begins_L0 a0 p0 q0 n0 k0 A0 a1 p1 q1 n1 k1 A1 g0_0 g0_1 s) (Hs_flow_program_begins_L0 a0 p0 q0 n0 k0 A0 a1 p1 q1 n1 k1 A1 g0_0 g0_1 s) (ex_flow_program_begins_L0 r) 2 (vf_flow_program_begins_L0 a0 p0 q0 n0 k0 A0 a1 p1 q1 n1 k1 A1 g0_0 g0_1 r) (Hf_flow_program_begins_L0 a0 p0 q0 n0 k0 A0 a1 p1 q1 n1 k1 A1 g0_0 g0_1 r) 3 :=
  goes_lpO (fun s q e => by
    cases s with
    | c0 s0_0 s0_1 =>
      unfold st_flow_program_begins_L0 at e
      dsimp only at e
      replace e := cond_eq_or e
      rcases e with ⟨hq0, e⟩ | ⟨hq0, e⟩
      · replace e := cond_eq_or e
        rcases e with ⟨hq1, e⟩ | ⟨hq1, e⟩
        · replace e := cond_eq_or e
          rcases e with ⟨hq2, e⟩ | ⟨hq2, e⟩
          · cases e; exact goes_runM hU [.b (z_lssT hq0), .q (ixM_ok (kd := .i64) (T := 28) (x := s0_1) (N := g0_0) (sz := 2) rfl (fun w => by kernel_rfl) hq1), .l (accG (i := 1) (f := c_Part) (A := g0_1) (k := (s0_1).toNat) 0 [.int .i64 (((g0_1 (s0_1).toNat)).fFrom), .int .i64 (((g0_1 (s0_1).toNat)).fTo)] c_Part_len (inR_nat hq1) rfl), .o, .a 3, .o, .o, .a 3, .q (ixM_ok (kd := .i64) (T := 24) (x := ((g0_1 (s0_1).toNat)).fFrom) (N := ((IntKind.i64.wrap ((n0 : Int) + 1))).toNat) (sz := 1) rfl (fun w => by kernel_rfl) hq2), .x (sqStG_ok (T := 4) (e := 4) (f := cB) (A := s0_0) (v := true) 0 (.bool true) cB_len cB_one rfl rfl (fun w => by kernel_rfl) (inR_nat hq2)) [0], .o, .o] [0, 1] (fun b => rfl) (by decide) rfl rfl (fun b => by kernel_rfl)
          · exact none_some e
        · exact none_some e
      · cases e; exact ⟨ne_exit 0, goes_runM hU [.b (z_lssF hq0)] [0, 1] (fun b => rfl) (by decide) rfl rfl (fun b => by kernel_rfl)⟩) s r h
noncomputable def t0_flow_program_begins_L0_0 (a0 : Option Addr) (p0 : Nat) (q0 : Nat) (n0 : Nat) (k0 : Nat) (A0 : Nat → Insn) (a1 : Option Addr) (p1 : Nat) (q1 : Nat) (n1 : Nat) (k1 : Nat) (A1 : Nat → Bool) (g0_0 : Nat) (g0_1 : Nat → Part) (s0_0 : Nat → Bool) (s0_1 : Int) (ls : List L1) : List Value := List.append [.slice a0 n0 (n0 + k0), .slice a1 n1 (n1 + k1), undef, undef, .slice none 0 0, (rowV (lget ls 0) ((IntKind.i64.wrap ((n0 : Int) + 1))).toNat 1), (rowV (lget ls 1) g0_0 2), .int .i64 (0), .int .i64 (0)] (List.append (und 5) (List.append [.slice a0 n0 (n0 + k0), .int .i64 ((n0 : Int)), .int .i64 ((IntKind.i64.wrap ((n0 : Int) + 1))), (rowV (lget ls 0) ((IntKind.i64.wrap ((n0 : Int) + 1))).toNat 1), .tuple #[(rowV (lget ls 1) g0_0 2), .int .i64 (0), .int .i64 (0)], .slice a0 n0 (n0 + k0), .tuple #[(rowV (lget ls 1) g0_0 2), .int .i64 (0), .int .i64 (0)], (rowV (lget ls 1) g0_0 2), .int .i64 (0), .int .i64 (0), (rowV (lget ls 1) g0_0 2), .int .i64 ((g0_0 : Int)), .int .i64 (s0_1)] (und 46)))
def pre_flow_program_begins_L0_0 (a0 : Option Addr) (p0 : Nat) (q0 : Nat) (n0 : Nat) (k0 : Nat) (A0 : Nat → Insn) (a1 : Option Addr) (p1 : Nat) (q1 : Nat) (n1 : Nat) (k1 : Nat) (A1 : Nat → Bool) (g0_0 : Nat) (g0_1 : Nat → Part) (s0_0 : Nat → Bool) (s0_1 : Int) (ls : List L1) : List Obj := [rowO (lget ls 0) (esG cB ((IntKind.i64.wrap ((n0 : Int) + 1))).toNat s0_0) 4 ((IntKind.i64.wrap ((n0 : Int) + 1))).toNat 1, rowO (lget ls 1) (esG c_Part g0_0 g0_1) 32 g0_0 2]
theorem sp0_flow_program_begins_L0_0_ok (s0_0 : Nat → Bool) (s0_1 : Int) (c0_0 : Nat → Bool) (c0_1 : Int) (h : lpO (st_flow_program_begins_L0 n0 g0_0 g0_1) (.c0 s0_0 s0_1) = some (.e0 c0_0 c0_1)) : SpcG Try.prog M B0 S ⟨fun ls => .code (.loop bd_flow_program_begins_L0) (t0_flow_program_begins_L0_0 a0 p0 q0 n0 k0 A0 a1 p1 q1 n1 k1 A1 g0_0 g0_1 s0_0 s0_1 ls), pre_flow_program_begins_L0_0 a0 p0 q0 n0 k0 A0 a1 p1 q1 n1 k1 A1 g0_0 g0_1 s0_0 s0_1, 1, (.exit 0), fun ls => vf_flow_program_begins_L0 a0 p0 q0 n0 k0 A0 a1 p1 q1 n1 k1 A1 g0_0 g0_1 (.e0 c0_0 c0_1) (ls.take 2 ++ ls.drop 2), fun ls => (Hf_flow_program_begins_L0 a0 p0 q0 n0 k0 A0 a1 p1 q1 n1 k1 A1 g0_0 g0_1 (.e0 c0_0 c0_1) (ls.take 2 ++ ls.drop 2)).take 2 ++ List.replicate 0 unb, fun ls => (Hf_flow_program_begins_L0 a0 p0 q0 n0 k0 A0 a1 p1 q1 n1 k1 A1 g0_0 g0_1 (.e0 c0_0 c0_1) (ls.take 2 ++ ls.drop 2)).drop 2⟩ :=
  spc_of_goesM hU 0 (k0 := 2) (go_flow_program_begins_L0 hU a0 p0 q0 n0 k0 A0 hR0 a1 p1 q1 n1 k1 A1 hR1 g0_0 g0_1 _ _ h) (t0_flow_program_begins_L0_0 a0 p0 q0 n0 k0 A0 a1 p1 q1 n1 k1 A1 g0_0 g0_1 s0_0 s0_1) (pre_flow_program_begins_L0_0 a0 p0 q0 n0 k0 A0 a1 p1 q1 n1 k1 A1 g0_0 g0_1 s0_0 s0_1) (fun _ => rfl) (fun ls h => by match ls, h with | [l0, l1], _ => exact ⟨by kernel_rfl, by kernel_rfl⟩) (fun ls h => by match ls, h with | [l0, l1], _ => rfl) (by decide) (by decide) (fun ls => rfl)
inductive Sh_flow_program_begins_L1v1 where
  | c0 (s0_0 : Nat → Bool) (s0_1 : Int)
inductive Ex_flow_program_begins_L1v1 where
  | e0 (c0_0 : Nat → Bool) (c0_1 : Int)
noncomputable def st_flow_program_begins_L1v1 (n0 : Nat) (A0 : Nat → Insn) (n1 : Nat) (A1 : Nat → Bool) : Sh_flow_program_begins_L1v1 → Option (Sh_flow_program_begins_L1v1 ⊕ Ex_flow_program_begins_L1v1)
  | .c0 s0_0 s0_1 =>
    bif decide (s0_1 < (n0 : Int)) then
      (bif inR s0_1 n1 then
        (bif (A1 (s0_1).toNat) then
          (bif inR s0_1 n0 then
            (bif m_op_Jumps ((A0 (s0_1).toNat)) then
              ((m_insn_Target n0 A0 s0_1).bind fun rb0 =>
              bif inR rb0.1 ((IntKind.i64.wrap ((n0 : Int) + 1))).toNat then
                (bif inR (IntKind.i64.wrap (s0_1 + 1)) ((IntKind.i64.wrap ((n0 : Int) + 1))).toNat then
                  (bindT (updF (updF s0_0 (rb0.1).toNat true) ((IntKind.i64.wrap (s0_1 + 1))).toNat true) fun rb1 =>
                  some (.inl (.c0 rb1 (IntKind.i64.wrap (s0_1 + 1)))))
                else (none))
              else (none))
            else (bif ((A0 (s0_1).toNat)).fOp == 149#8 then
              (bif inR (IntKind.i64.wrap (s0_1 + 1)) ((IntKind.i64.wrap ((n0 : Int) + 1))).toNat then
                (some (.inl (.c0 (updF s0_0 ((IntKind.i64.wrap (s0_1 + 1))).toNat true) (IntKind.i64.wrap (s0_1 + 1)))))
              else (none))
            else (some (.inl (.c0 s0_0 (IntKind.i64.wrap (s0_1 + 1)))))))
          else (none))
        else (some (.inl (.c0 s0_0 (IntKind.i64.wrap (s0_1 + 1))))))
      else (none))
    else (some (.inr (.e0 s0_0 s0_1)))
noncomputable def bd_flow_program_begins_L1v1 : Code := codeOf Try.f46 [1, 0, 1, 1, 1, 1, 0, 1, 0, 0]
def fl_flow_program_begins_L1v1 (a0 : Option Addr) (p0 : Nat) (q0 : Nat) (n0 : Nat) (k0 : Nat) (A0 : Nat → Insn) (a1 : Option Addr) (p1 : Nat) (q1 : Nat) (n1 : Nat) (k1 : Nat) (A1 : Nat → Bool) (g0_0 : Nat) (g0_1 : Nat → Part) (g1_0 : Nat → Bool) (g1_1 : Int) : Sh_flow_program_begins_L1v1 → List L1 → List Value
  | .c0 s0_0 s0_1, ls => [.slice a0 n0 (n0 + k0), .slice a1 n1 (n1 + k1), .slice none 0 0, (rowV (lget ls 0) ((IntKind.i64.wrap ((n0 : Int) + 1))).toNat 1), (rowV (lget ls 1) g0_0 2), ((lget ls 2).u 10), .slice a0 n0 (n0 + k0), .int .i64 ((n0 : Int)), .int .i64 ((IntKind.i64.wrap ((n0 : Int) + 1))), (rowV (lget ls 0) ((IntKind.i64.wrap ((n0 : Int) + 1))).toNat 1), .tuple #[(rowV (lget ls 1) g0_0 2), .int .i64 (0), .int .i64 (0)], .slice a0 n0 (n0 + k0), .tuple #[(rowV (lget ls 1) g0_0 2), .int .i64 (0), .int .i64 (0)], (rowV (lget ls 1) g0_0 2), .int .i64 (0), .int .i64 (0), (rowV (lget ls 1) g0_0 2), .int .i64 ((g0_0 : Int)), .int .i64 (g1_1), .bool false, ((lget ls 2).u 28), ((lget ls 2).u 29), ((lget ls 2).u 30), ((lget ls 2).u 31), ((lget ls 2).u 32), ((lget ls 2).u 33), ((lget ls 2).u 34), .slice a0 n0 (n0 + k0), .int .i64 ((n0 : Int)), .int .i64 (s0_1), ((lget ls 2).u 72)]
def mf_flow_program_begins_L1v1 : Sh_flow_program_begins_L1v1 → List (Nat × Nat)
  | .c0 _ _ => [(2, 2), (3, 3), (1, 3), (24, 34), (1, 0)]
noncomputable def fr_flow_program_begins_L1v1 (a0 : Option Addr) (p0 : Nat) (q0 : Nat) (n0 : Nat) (k0 : Nat) (A0 : Nat → Insn) (a1 : Option Addr) (p1 : Nat) (q1 : Nat) (n1 : Nat) (k1 : Nat) (A1 : Nat → Bool) (g0_0 : Nat) (g0_1 : Nat → Part) (g1_0 : Nat → Bool) (g1_1 : Int) (s : Sh_flow_program_begins_L1v1) : List L1 → List Value := mrgF (mf_flow_program_begins_L1v1 s) (fl_flow_program_begins_L1v1 a0 p0 q0 n0 k0 A0 a1 p1 q1 n1 k1 A1 g0_0 g0_1 g1_0 g1_1 s) 3
def Hs_flow_program_begins_L1v1 (a0 : Option Addr) (p0 : Nat) (q0 : Nat) (n0 : Nat) (k0 : Nat) (A0 : Nat → Insn) (a1 : Option Addr) (p1 : Nat) (q1 : Nat) (n1 : Nat) (k1 : Nat) (A1 : Nat → Bool) (g0_0 : Nat) (g0_1 : Nat → Part) (g1_0 : Nat → Bool) (g1_1 : Int) : Sh_flow_program_begins_L1v1 → List L1 → List Obj
  | .c0 s0_0 s0_1, ls => [rowO (lget ls 0) (esG cB ((IntKind.i64.wrap ((n0 : Int) + 1))).toNat s0_0) 4 ((IntKind.i64.wrap ((n0 : Int) + 1))).toNat 1, rowO (lget ls 1) (esG c_Part g0_0 g0_1) 32 g0_0 2, unb, unb]
def vl_flow_program_begins_L1v1 (a0 : Option Addr) (p0 : Nat) (q0 : Nat) (n0 : Nat) (k0 : Nat) (A0 : Nat → Insn) (a1 : Option Addr) (p1 : Nat) (q1 : Nat) (n1 : Nat) (k1 : Nat) (A1 : Nat → Bool) (g0_0 : Nat) (g0_1 : Nat → Part) (g1_0 : Nat → Bool) (g1_1 : Int) : Ex_flow_program_begins_L1v1 → List L1 → List Value
  | .e0 c0_0 c0_1, ls => [.slice a0 n0 (n0 + k0), .slice a1 n1 (n1 + k1), .slice none 0 0, (rowV (lget ls 0) ((IntKind.i64.wrap ((n0 : Int) + 1))).toNat 1), (rowV (lget ls 1) g0_0 2), ((lget ls 2).u 10), .slice a0 n0 (n0 + k0), .int .i64 ((n0 : Int)), .int .i64 ((IntKind.i64.wrap ((n0 : Int) + 1))), (rowV (lget ls 0) ((IntKind.i64.wrap ((n0 : Int) + 1))).toNat 1), .tuple #[(rowV (lget ls 1) g0_0 2), .int .i64 (0), .int .i64 (0)], .slice a0 n0 (n0 + k0), .tuple #[(rowV (lget ls 1) g0_0 2), .int .i64 (0), .int .i64 (0)], (rowV (lget ls 1) g0_0 2), .int .i64 (0), .int .i64 (0), (rowV (lget ls 1) g0_0 2), .int .i64 ((g0_0 : Int)), .int .i64 (g1_1), .bool false, ((lget ls 2).u 28), ((lget ls 2).u 29), ((lget ls 2).u 30), ((lget ls 2).u 31), ((lget ls 2).u 32), ((lget ls 2).u 33), ((lget ls 2).u 34), .slice a0 n0 (n0 + k0), .int .i64 ((n0 : Int)), .int .i64 (c0_1), .bool false, ((lget ls 2).u 72)]
def mk_flow_program_begins_L1v1 : Ex_flow_program_begins_L1v1 → List (Nat × Nat)
  | .e0 _ _ => [(2, 2), (3, 3), (1, 3), (25, 33), (1, 0)]
noncomputable def vf_flow_program_begins_L1v1 (a0 : Option Addr) (p0 : Nat) (q0 : Nat) (n0 : Nat) (k0 : Nat) (A0 : Nat → Insn) (a1 : Option Addr) (p1 : Nat) (q1 : Nat) (n1 : Nat) (k1 : Nat) (A1 : Nat → Bool) (g0_0 : Nat) (g0_1 : Nat → Part) (g1_0 : Nat → Bool) (g1_1 : Int) (r : Ex_flow_program_begins_L1v1) : List L1 → List Value := mrgF (mk_flow_program_begins_L1v1 r) (vl_flow_program_begins_L1v1 a0 p0 q0 n0 k0 A0 a1 p1 q1 n1 k1 A1 g0_0 g0_1 g1_0 g1_1 r) 3
def Hf_flow_program_begins_L1v1 (a0 : Option Addr) (p0 : Nat) (q0 : Nat) (n0 : Nat) (k0 : Nat) (A0 : Nat → Insn) (a1 : Option Addr) (p1 : Nat) (q1 : Nat) (n1 : Nat) (k1 : Nat) (A1 : Nat → Bool) (g0_0 : Nat) (g0_1 : Nat → Part) (g1_0 : Nat → Bool) (g1_1 : Int) : Ex_flow_program_begins_L1v1 → List L1 → List Obj
  | .e0 c0_0 c0_1, ls => [rowO (lget ls 0) (esG cB ((IntKind.i64.wrap ((n0 : Int) + 1))).toNat c0_0) 4 ((IntKind.i64.wrap ((n0 : Int) + 1))).toNat 1, rowO (lget ls 1) (esG c_Part g0_0 g0_1) 32 g0_0 2, unb, unb]
def ex_flow_program_begins_L1v1 : Ex_flow_program_begins_L1v1 → Ex
  | .e0 _ _ => (.exit 2)
theorem go_flow_program_begins_L1v1 (g1_0 : Nat → Bool) (g1_1 : Int) (s : Sh_flow_program_begins_L1v1) (r : Ex_flow_program_begins_L1v1) (h : lpO (st_flow_program_begins_L1v1 n0 A0 n1 A1) s = some r) : GoesG Try.prog M B0 S (.loop bd_flow_program_begins_L1v1) 4 (fr_flow_program_begins_L1v1 a0 p0 q0 n0 k0 A0 a1 p1 q1 n1 k1 A1 g0_0 g0_1 g1_0 g1_1 s) (Hs_flow_program_begins_L1v1 a0 p0 q0 n0 k0 A0 a1 p1 q1 n1 k1 A1 g0_0 g0_1 g1_0 g1_1 s) (ex_flow_program_begins_L1v1 r) 3 (vf_flow_program_begins_L1v1 a0 p0 q0 n0 k0 A0 a1 p1 q1 n1 k1 A1 g0_0 g0_1 g1_0 g1_1 r) (Hf_flow_program_begins_L1v1 a0 p0 q0 n0 k0 A0 a1 p1 q1 n1 k1 A1 g0_0 g0_1 g1_0 g1_1 r) 4 :=
  goes_lpO (fun s q e => by
    cases s with
    | c0 s0_0 s0_1 =>
      unfold st_flow_program_begins_L1v1 at e
      dsimp only at e
      replace e := cond_eq_or e
      rcases e with ⟨hq0, e⟩ | ⟨hq0, e⟩
      · replace e := cond_eq_or e
        rcases e with ⟨hq1, e⟩ | ⟨hq1, e⟩
        · replace e := cond_eq_or e
          rcases e with ⟨hq2, e⟩ | ⟨hq2, e⟩
          · replace e := cond_eq_or e
            rcases e with ⟨hq3, e⟩ | ⟨hq3, e⟩
            · replace e := cond_eq_or e
              rcases e with ⟨hq4, e⟩ | ⟨hq4, e⟩
              · replace e := bindO_eq e
                obtain ⟨rb0, e_rb0, e⟩ := e
                try dsimp only at e
                replace e := cond_eq_or e
                rcases e with ⟨hq5, e⟩ | ⟨hq5, e⟩
                · replace e := cond_eq_or e
                  rcases e with ⟨hq6, e⟩ | ⟨hq6, e⟩
                  · replace e := bindT_eq e
                    obtain ⟨rb1, e_rb1, e⟩ := e
                    try dsimp only at e
                    cases e; exact goes_runM hU [.b (z_lssT hq0), .o, .o, .o, .o, .q (ixRo_ok (kd := .i64) (T := 24) (x := s0_1) (sz := 1) rfl (fun w => by kernel_rfl) hR1 hq1), .l (accRo hR1 cB_len (inR_nat hq1) 0 [.bool true] (congrArg (fun b => [Value.bool b]) hq2)), .o, .o, .o, .q (ixRo_ok (kd := .i64) (T := 62) (x := s0_1) (sz := 5) rfl (fun w => by kernel_rfl) hR0 hq3), .l (accRo hR0 c_Insn_len (inR_nat hq3) 0 [.int .u8 (nn ((A0 (s0_1).toNat)).fOp), .int .u8 (nn ((A0 (s0_1).toNat)).fDst), .int .u8 (nn ((A0 (s0_1).toNat)).fSrc), .int .i16 (ii ((A0 (s0_1).toNat)).fOff), .int .i32 (ii ((A0 (s0_1).toNat)).fImm)] rfl), .cg (ok_op_Jumps hU ((A0 (s0_1).toNat)) true hq4), .o, .o, .o, .cg (ok_insn_Target hU a0 p0 q0 n0 k0 A0 hR0 s0_1 rb0 e_rb0), .o, .o, .o, .o, .o, .o, .o, .q (ixM_ok (kd := .i64) (T := 24) (x := rb0.1) (N := ((IntKind.i64.wrap ((n0 : Int) + 1))).toNat) (sz := 1) rfl (fun w => by kernel_rfl) hq5), .x (sqStG_ok (T := 4) (e := 4) (f := cB) (A := s0_0) (v := true) 0 (.bool true) cB_len cB_one rfl rfl (fun w => by kernel_rfl) (inR_nat hq5)) [0], .o, .o, .o, .q (ixM_ok (kd := .i64) (T := 24) (x := (IntKind.i64.wrap (s0_1 + 1))) (N := ((IntKind.i64.wrap ((n0 : Int) + 1))).toNat) (sz := 1) rfl (fun w => by kernel_rfl) hq6), .x (sqStGr_ok (T := 4) (e := 4) (f := cB) (A := updF s0_0 (rb0.1).toNat true) (v := true) 0 (.bool true) cB_len cB_one rfl rfl (fun w => by kernel_rfl) (inR_nat hq6) e_rb1) [0], .o, .o] [0, 1, 2] (fun b => rfl) (by decide) rfl rfl (fun b => by kernel_rfl)
                  · exact none_some e
                · exact none_some e
              · replace e := cond_eq_or e
                rcases e with ⟨hq5, e⟩ | ⟨hq5, e⟩
                · replace e := cond_eq_or e
                  rcases e with ⟨hq6, e⟩ | ⟨hq6, e⟩
                  · cases e; exact goes_runM hU [.b (z_lssT hq0), .o, .o, .o, .o, .q (ixRo_ok (kd := .i64) (T := 24) (x := s0_1) (sz := 1) rfl (fun w => by kernel_rfl) hR1 hq1), .l (accRo hR1 cB_len (inR_nat hq1) 0 [.bool true] (congrArg (fun b => [Value.bool b]) hq2)), .o, .o, .o, .q (ixRo_ok (kd := .i64) (T := 62) (x := s0_1) (sz := 5) rfl (fun w => by kernel_rfl) hR0 hq3), .l (accRo hR0 c_Insn_len (inR_nat hq3) 0 [.int .u8 (nn ((A0 (s0_1).toNat)).fOp), .int .u8 (nn ((A0 (s0_1).toNat)).fDst), .int .u8 (nn ((A0 (s0_1).toNat)).fSrc), .int .i16 (ii ((A0 (s0_1).toNat)).fOff), .int .i32 (ii ((A0 (s0_1).toNat)).fImm)] rfl), .cg (ok_op_Jumps hU ((A0 (s0_1).toNat)) false hq4), .o, .o, .o, .q (ixRo_ok (kd := .i64) (T := 62) (x := s0_1) (sz := 5) rfl (fun w => by kernel_rfl) hR0 hq3), .o, .l (accRo hR0 c_Insn_len (inR_nat hq3) 0 [.int .u8 (nn ((A0 (s0_1).toNat)).fOp)] rfl), .tn (u_ne ((A0 (s0_1).toNat)).fOp (149#8)) hq5, .o, .o, .o, .o, .q (ixM_ok (kd := .i64) (T := 24) (x := (IntKind.i64.wrap (s0_1 + 1))) (N := ((IntKind.i64.wrap ((n0 : Int) + 1))).toNat) (sz := 1) rfl (fun w => by kernel_rfl) hq6), .x (sqStG_ok (T := 4) (e := 4) (f := cB) (A := s0_0) (v := true) 0 (.bool true) cB_len cB_one rfl rfl (fun w => by kernel_rfl) (inR_nat hq6)) [0], .o, .o] [0, 1, 2] (fun b => rfl) (by decide) rfl rfl (fun b => by kernel_rfl)
                  · exact none_some e
                · cases e; exact goes_runM hU [.b (z_lssT hq0), .o, .o, .o, .o, .q (ixRo_ok (kd := .i64) (T := 24) (x := s0_1) (sz := 1) rfl (fun w => by kernel_rfl) hR1 hq1), .l (accRo hR1 cB_len (inR_nat hq1) 0 [.bool true] (congrArg (fun b => [Value.bool b]) hq2)), .o, .o, .o, .q (ixRo_ok (kd := .i64) (T := 62) (x := s0_1) (sz := 5) rfl (fun w => by kernel_rfl) hR0 hq3), .l (accRo hR0 c_Insn_len (inR_nat hq3) 0 [.int .u8 (nn ((A0 (s0_1).toNat)).fOp), .int .u8 (nn ((A0 (s0_1).toNat)).fDst), .int .u8 (nn ((A0 (s0_1).toNat)).fSrc), .int .i16 (ii ((A0 (s0_1).toNat)).fOff), .int .i32 (ii ((A0 (s0_1).toNat)).fImm)] rfl), .cg (ok_op_Jumps hU ((A0 (s0_1).toNat)) false hq4), .o, .o, .o, .q (ixRo_ok (kd := .i64) (T := 62) (x := s0_1) (sz := 5) rfl (fun w => by kernel_rfl) hR0 hq3), .o, .l (accRo hR0 c_Insn_len (inR_nat hq3) 0 [.int .u8 (nn ((A0 (s0_1).toNat)).fOp)] rfl), .tn (u_ne ((A0 (s0_1).toNat)).fOp (149#8)) hq5, .o, .o, .o] [0, 1, 2] (fun b => rfl) (by decide) rfl rfl (fun b => by kernel_rfl)
            · exact none_some e
          · cases e; exact goes_runM hU [.b (z_lssT hq0), .o, .o, .o, .o, .q (ixRo_ok (kd := .i64) (T := 24) (x := s0_1) (sz := 1) rfl (fun w => by kernel_rfl) hR1 hq1), .l (accRo hR1 cB_len (inR_nat hq1) 0 [.bool false] (congrArg (fun b => [Value.bool b]) hq2)), .o, .o, .o] [0, 1, 2] (fun b => rfl) (by decide) rfl rfl (fun b => by kernel_rfl)
        · exact none_some e
      · cases e; exact ⟨ne_exit 2, goes_runM hU [.b (z_lssF hq0)] [0, 1, 2] (fun b => rfl) (by decide) rfl rfl (fun b => by kernel_rfl)⟩) s r h
noncomputable def t0_flow_program_begins_L1v1_0 (a0 : Option Addr) (p0 : Nat) (q0 : Nat) (n0 : Nat) (k0 : Nat) (A0 : Nat → Insn) (a1 : Option Addr) (p1 : Nat) (q1 : Nat) (n1 : Nat) (k1 : Nat) (A1 : Nat → Bool) (g0_0 : Nat) (g0_1 : Nat → Part) (g1_0 : Nat → Bool) (g1_1 : Int) (s0_0 : Nat → Bool) (s0_1 : Int) (ls : List L1) : List Value := List.append [.slice a0 n0 (n0 + k0), .slice a1 n1 (n1 + k1), ((lget ls 2).u 2), ((lget ls 2).u 3), .slice none 0 0, (rowV (lget ls 0) ((IntKind.i64.wrap ((n0 : Int) + 1))).toNat 1), (rowV (lget ls 1) g0_0 2)] (List.append (jks (lget ls 2).u 7 7) (List.append [.slice a0 n0 (n0 + k0), .int .i64 ((n0 : Int)), .int .i64 ((IntKind.i64.wrap ((n0 : Int) + 1))), (rowV (lget ls 0) ((IntKind.i64.wrap ((n0 : Int) + 1))).toNat 1), .tuple #[(rowV (lget ls 1) g0_0 2), .int .i64 (0), .int .i64 (0)], .slice a0 n0 (n0 + k0), .tuple #[(rowV (lget ls 1) g0_0 2), .int .i64 (0), .int .i64 (0)], (rowV (lget ls 1) g0_0 2), .int .i64 (0), .int .i64 (0), (rowV (lget ls 1) g0_0 2), .int .i64 ((g0_0 : Int)), .int .i64 (g1_1), .bool false] (List.append (jks (lget ls 2).u 28 7) (List.append [.slice a0 n0 (n0 + k0), .int .i64 ((n0 : Int)), .int .i64 (s0_1)] (jks (lget ls 2).u 38 35)))))
def pre_flow_program_begins_L1v1_0 (a0 : Option Addr) (p0 : Nat) (q0 : Nat) (n0 : Nat) (k0 : Nat) (A0 : Nat → Insn) (a1 : Option Addr) (p1 : Nat) (q1 : Nat) (n1 : Nat) (k1 : Nat) (A1 : Nat → Bool) (g0_0 : Nat) (g0_1 : Nat → Part) (g1_0 : Nat → Bool) (g1_1 : Int) (s0_0 : Nat → Bool) (s0_1 : Int) (ls : List L1) : List Obj := [rowO (lget ls 0) (esG cB ((IntKind.i64.wrap ((n0 : Int) + 1))).toNat s0_0) 4 ((IntKind.i64.wrap ((n0 : Int) + 1))).toNat 1, rowO (lget ls 1) (esG c_Part g0_0 g0_1) 32 g0_0 2, unb]
theorem sp0_flow_program_begins_L1v1_0_ok (g1_0 : Nat → Bool) (g1_1 : Int) (s0_0 : Nat → Bool) (s0_1 : Int) (c0_0 : Nat → Bool) (c0_1 : Int) (h : lpO (st_flow_program_begins_L1v1 n0 A0 n1 A1) (.c0 s0_0 s0_1) = some (.e0 c0_0 c0_1)) : SpcG Try.prog M B0 S ⟨fun ls => .code (.loop bd_flow_program_begins_L1v1) (t0_flow_program_begins_L1v1_0 a0 p0 q0 n0 k0 A0 a1 p1 q1 n1 k1 A1 g0_0 g0_1 g1_0 g1_1 s0_0 s0_1 ls), pre_flow_program_begins_L1v1_0 a0 p0 q0 n0 k0 A0 a1 p1 q1 n1 k1 A1 g0_0 g0_1 g1_0 g1_1 s0_0 s0_1, 1, (.exit 2), fun ls => vf_flow_program_begins_L1v1 a0 p0 q0 n0 k0 A0 a1 p1 q1 n1 k1 A1 g0_0 g0_1 g1_0 g1_1 (.e0 c0_0 c0_1) (ls.take 3 ++ ls.drop 3), fun ls => (Hf_flow_program_begins_L1v1 a0 p0 q0 n0 k0 A0 a1 p1 q1 n1 k1 A1 g0_0 g0_1 g1_0 g1_1 (.e0 c0_0 c0_1) (ls.take 3 ++ ls.drop 3)).take 3 ++ List.replicate 0 unb, fun ls => (Hf_flow_program_begins_L1v1 a0 p0 q0 n0 k0 A0 a1 p1 q1 n1 k1 A1 g0_0 g0_1 g1_0 g1_1 (.e0 c0_0 c0_1) (ls.take 3 ++ ls.drop 3)).drop 3⟩ :=
  spc_of_goesM hU 0 (k0 := 3) (go_flow_program_begins_L1v1 hU a0 p0 q0 n0 k0 A0 hR0 a1 p1 q1 n1 k1 A1 hR1 g0_0 g0_1 g1_0 g1_1 _ _ h) (t0_flow_program_begins_L1v1_0 a0 p0 q0 n0 k0 A0 a1 p1 q1 n1 k1 A1 g0_0 g0_1 g1_0 g1_1 s0_0 s0_1) (pre_flow_program_begins_L1v1_0 a0 p0 q0 n0 k0 A0 a1 p1 q1 n1 k1 A1 g0_0 g0_1 g1_0 g1_1 s0_0 s0_1) (fun _ => rfl) (fun ls h => by match ls, h with | [l0, l1, l2], _ => exact ⟨by kernel_rfl, by kernel_rfl⟩) (fun ls h => by match ls, h with | [l0, l1, l2], _ => rfl) (by decide) (by decide) (fun ls => rfl)
inductive R_flow_program_begins where
  | e0 (c0_0 : Nat → Bool)
noncomputable def m_flow_program_begins (n0 : Nat) (A0 : Nat → Insn) (n1 : Nat) (A1 : Nat → Bool) : Option R_flow_program_begins :=
  bif inR (IntKind.i64.wrap ((n0 : Int) + 1)) 1000001 then
    ((m_insn_Subs n0 A0).bind fun g0 => match g0 with
    | .e0 g0_0 g0_1 => ((lpO (st_flow_program_begins_L1 n0 A0 n1 A1) (.c0 (fun _ => false) 0)).bind fun g1 => match g1 with
      | .e0 g1_0 g1_1 =>
      some (.e0 g1_0))
    | .e1 g0_0 g0_1 => ((lpO (st_flow_program_begins_L0 n0 g0_0 g0_1) (.c0 (fun _ => false) 0)).bind fun g1 => match g1 with
      | .e0 g1_0 g1_1 =>
      (lpO (st_flow_program_begins_L1v1 n0 A0 n1 A1) (.c0 g1_0 0)).bind fun g2 => match g2 with
      | .e0 g2_0 g2_1 =>
      some (.e0 g2_0)))
  else (none)
def sq0_flow_program_begins (a0 : Option Addr) (p0 : Nat) (q0 : Nat) (n0 : Nat) (k0 : Nat) (A0 : Nat → Insn) (a1 : Option Addr) (p1 : Nat) (q1 : Nat) (n1 : Nat) (k1 : Nat) (A1 : Nat → Bool) (c0_0 : Nat → Bool) : Spc := ⟨fun ls => .call 46 #[.slice a0 n0 (n0 + k0), .slice a1 n1 (n1 + k1)], fun ls => [], 1, .normal, fun ls => [(rowV (lget ls 0) ((IntKind.i64.wrap ((n0 : Int) + 1))).toNat 1)], fun ls => [], fun ls => [rowO (lget ls 0) (esG cB ((IntKind.i64.wrap ((n0 : Int) + 1))).toNat c0_0) 4 ((IntKind.i64.wrap ((n0 : Int) + 1))).toNat 1]⟩
end
section
variable {M : Nat → Prop} {B0 : Nat} {S : World → Prop} (hU : Up M B0 S) (a0 : Option Addr) (p0 : Nat) (q0 : Nat) (n0 : Nat) (k0 : Nat) (A0 : Nat → Insn) (hR0 : Ro S c_Insn 5 a0 p0 q0 n0 A0)
include hU a0 p0 q0 n0 k0 A0 hR0
theorem ok0_flow_program_begins (a1 : Option Addr) (p1 : Nat) (q1 : Nat) (n1 : Nat) (k1 : Nat) (A1 : Nat → Bool) (hR1 : Ro S cB 1 a1 p1 q1 n1 A1) (c0_0 : Nat → Bool) (e : m_flow_program_begins n0 A0 n1 A1 = some (.e0 c0_0)) : SpcG Try.prog M B0 S (sq0_flow_program_begins a0 p0 q0 n0 k0 A0 a1 p1 q1 n1 k1 A1 c0_0) := by
  unfold m_flow_program_begins at e
  replace e := cond_eq_or e
  rcases e with ⟨hq0, e⟩ | ⟨hq0, e⟩
  · replace e := bindO_eq e
    obtain ⟨g0, e_g0, e⟩ := e
    rcases g0 with ⟨g0_0, g0_1⟩ | ⟨g0_0, g0_1⟩
    · try dsimp only at e
      replace e := bindO_eq e
      obtain ⟨g1, e_g1, e⟩ := e
      obtain ⟨g1_0, g1_1⟩ := g1
      try dsimp only at e
      injection e with e; injection e with i0; subst i0; exact fn_specG hU (P := Try.prog) Try.func46 (fun xs w => by kernel_rfl) 0 _ _ (fun _ => rfl) _ _ _ [0] [.o, .o, .o, .o, .x (sqMkZ_ok rt24 (f := cB) (x := (IntKind.i64.wrap ((n0 : Int) + 1))) (a0 := false) cB_len (by kernel_rfl) hq0 (by decide)) [], .o, .o, .xg (ok0_insn_Subs hU a0 p0 q0 n0 k0 A0 hR0 g0_0 g0_1 e_g0) [], .o, .o, .o, .o, .o, .o, .o, .o, .o, .o, .o, .o, .o, .o, .cp, .cx (sp0_flow_program_begins_L1_0_ok hU a0 p0 q0 n0 k0 A0 hR0 a1 p1 q1 n1 k1 A1 hR1 g0_0 g0_1 (fun _ => false) 0 g1_0 g1_1 e_g1) [0], .o, .o] [] (fun b => by kernel_rfl)
    · try dsimp only at e
      replace e := bindO_eq e
      obtain ⟨g1, e_g1, e⟩ := e
      obtain ⟨g1_0, g1_1⟩ := g1
      try dsimp only at e
      replace e := bindO_eq e
      obtain ⟨g2, e_g2, e⟩ := e
      obtain ⟨g2_0, g2_1⟩ := g2
      try dsimp only at e
      injection e with e; injection e with i0; subst i0; exact fn_specG hU (P := Try.prog) Try.func46 (fun xs w => by kernel_rfl) 0 _ _ (fun _ => rfl) _ _ _ [0] [.o, .o, .o, .o, .x (sqMkZ_ok rt24 (f := cB) (x := (IntKind.i64.wrap ((n0 : Int) + 1))) (a0 := false) cB_len (by kernel_rfl) hq0 (by decide)) [], .o, .o, .xg (ok1_insn_Subs hU a0 p0 q0 n0 k0 A0 hR0 g0_0 g0_1 e_g0) [], .o, .o, .o, .o, .o, .o, .o, .o, .o, .o, .cp, .cx (sp0_flow_program_begins_L0_0_ok hU a0 p0 q0 n0 k0 A0 hR0 a1 p1 q1 n1 k1 A1 hR1 g0_0 g0_1 (fun _ => false) 0 g1_0 g1_1 e_g1) [0, 1], .o, .o, .o, .cp, .cx (sp0_flow_program_begins_L1v1_0_ok hU a0 p0 q0 n0 k0 A0 hR0 a1 p1 q1 n1 k1 A1 hR1 g0_0 g0_1 g1_0 g1_1 g1_0 0 g2_0 g2_1 e_g2) [0, 1, 2], .o, .o] [] (fun b => by kernel_rfl)
  · exact none_some e
inductive Sh_flow_program_blocks_L0 where
  | c0 (s0_0 : Int)
  | c1 (s0_0 : Nat) (s0_1 : Nat → Part) (s0_2 : Bool) (s0_3 : Int)
inductive Ex_flow_program_blocks_L0 where
  | e0 
  | e1 (c1_0 : Nat) (c1_1 : Nat → Part)
noncomputable def st_flow_program_blocks_L0 (n0 : Nat) (A0 : Nat → Insn) (g0_0 : Nat → Bool) (g1_0 : Nat → Bool) : Sh_flow_program_blocks_L0 → Option (Sh_flow_program_blocks_L0 ⊕ Ex_flow_program_blocks_L0)
  | .c0 s0_0 =>
    bif decide (s0_0 < (n0 : Int)) then
      (bif inR s0_0 n0 then
        (bif (g0_0 (s0_0).toNat) then
          (bindT (m_op_Width ((A0 (s0_0).toNat))) fun rb0 =>
          bindT (updF (fun _ => (⟨s0_0, 0⟩ : Part)) 0 (⟨s0_0, (IntKind.i64.wrap (s0_0 + rb0))⟩ : Part)) fun rb1 =>
          bindT (m_op_Width ((A0 (s0_0).toNat))) fun rb2 =>
          some (.inl (.c1 1 rb1 true (IntKind.i64.wrap (s0_0 + rb2)))))
        else (bindT (m_op_Width ((A0 (s0_0).toNat))) fun rb0 =>
        some (.inl (.c0 (IntKind.i64.wrap (s0_0 + rb0))))))
      else (none))
    else (some (.inr (.e0 )))
  | .c1 s0_0 s0_1 s0_2 s0_3 =>
    bif decide (s0_3 < (n0 : Int)) then
      (bif inR s0_3 n0 then
        (bif (g0_0 (s0_3).toNat) then
          (bif s0_2 then
            (bif inR s0_3 ((IntKind.i64.wrap ((n0 : Int) + 1))).toNat then
              (bif (g1_0 (s0_3).toNat) then
                (bif decide (s0_0 ≤ 1000000) then
                  (bindT (m_op_Width ((A0 (s0_3).toNat))) fun rb0 =>
                  bif inR (IntKind.i64.wrap (((s0_0 + 1) : Int) - 1)) (s0_0 + 1) then
                    (bindT (updF (updF s0_1 s0_0 (⟨s0_3, 0⟩ : Part)) ((IntKind.i64.wrap (((s0_0 + 1) : Int) - 1))).toNat (⟨(((updF s0_1 s0_0 (⟨s0_3, 0⟩ : Part)) ((IntKind.i64.wrap (((s0_0 + 1) : Int) - 1))).toNat)).fFrom, (IntKind.i64.wrap (s0_3 + rb0))⟩ : Part)) fun rb1 =>
                    bindT (m_op_Width ((A0 (s0_3).toNat))) fun rb2 =>
                    some (.inl (.c1 (s0_0 + 1) rb1 true (IntKind.i64.wrap (s0_3 + rb2)))))
                  else (none))
                else (none))
              else (bindT (m_op_Width ((A0 (s0_3).toNat))) fun rb0 =>
              bif inR (IntKind.i64.wrap ((s0_0 : Int) - 1)) s0_0 then
                (bindT (updF s0_1 ((IntKind.i64.wrap ((s0_0 : Int) - 1))).toNat (⟨((s0_1 ((IntKind.i64.wrap ((s0_0 : Int) - 1))).toNat)).fFrom, (IntKind.i64.wrap (s0_3 + rb0))⟩ : Part)) fun rb1 =>
                bindT (m_op_Width ((A0 (s0_3).toNat))) fun rb2 =>
                some (.inl (.c1 s0_0 rb1 s0_2 (IntKind.i64.wrap (s0_3 + rb2)))))
              else (none)))
            else (none))
          else (bif decide (s0_0 ≤ 1000000) then
            (bindT (m_op_Width ((A0 (s0_3).toNat))) fun rb0 =>
            bif inR (IntKind.i64.wrap (((s0_0 + 1) : Int) - 1)) (s0_0 + 1) then
              (bindT (updF (updF s0_1 s0_0 (⟨s0_3, 0⟩ : Part)) ((IntKind.i64.wrap (((s0_0 + 1) : Int) - 1))).toNat (⟨(((updF s0_1 s0_0 (⟨s0_3, 0⟩ : Part)) ((IntKind.i64.wrap (((s0_0 + 1) : Int) - 1))).toNat)).fFrom, (IntKind.i64.wrap (s0_3 + rb0))⟩ : Part)) fun rb1 =>
              bindT (m_op_Width ((A0 (s0_3).toNat))) fun rb2 =>
              some (.inl (.c1 (s0_0 + 1) rb1 true (IntKind.i64.wrap (s0_3 + rb2)))))
            else (none))
          else (none)))
        else (bindT (m_op_Width ((A0 (s0_3).toNat))) fun rb0 =>
        some (.inl (.c1 s0_0 s0_1 false (IntKind.i64.wrap (s0_3 + rb0))))))
      else (none))
    else (some (.inr (.e1 s0_0 s0_1)))
noncomputable def bd_flow_program_blocks_L0 : Code := codeOf Try.f27 [1, 1, 1, 1, 1, 0, 1, 0, 0]
def fl_flow_program_blocks_L0 (a0 : Option Addr) (p0 : Nat) (q0 : Nat) (n0 : Nat) (k0 : Nat) (A0 : Nat → Insn) (g0_0 : Nat → Bool) (g1_0 : Nat → Bool) : Sh_flow_program_blocks_L0 → List L1 → List Value
  | .c0 s0_0, ls => [.slice a0 n0 (n0 + k0), .slice none 0 0, .slice none 0 0, (rowV (lget ls 0) n0 1), (rowV (lget ls 1) ((IntKind.i64.wrap ((n0 : Int) + 1))).toNat 1), .bool false, .int .i64 (s0_0)]
  | .c1 s0_0 s0_1 s0_2 s0_3, ls => [.slice a0 n0 (n0 + k0), .slice none 0 0, (rowV (lget ls 2) s0_0 2), (rowV (lget ls 0) n0 1), (rowV (lget ls 1) ((IntKind.i64.wrap ((n0 : Int) + 1))).toNat 1), .bool (s0_2), .int .i64 (s0_3)]
def mf_flow_program_blocks_L0 : Sh_flow_program_blocks_L0 → List (Nat × Nat)
  | .c0 _ => [(1, 1), (6, 48)]
  | .c1 _ _ _ _ => [(1, 1), (6, 48)]
noncomputable def fr_flow_program_blocks_L0 (a0 : Option Addr) (p0 : Nat) (q0 : Nat) (n0 : Nat) (k0 : Nat) (A0 : Nat → Insn) (g0_0 : Nat → Bool) (g1_0 : Nat → Bool) (s : Sh_flow_program_blocks_L0) : List L1 → List Value := mrgF (mf_flow_program_blocks_L0 s) (fl_flow_program_blocks_L0 a0 p0 q0 n0 k0 A0 g0_0 g1_0 s) 3
def Hs_flow_program_blocks_L0 (a0 : Option Addr) (p0 : Nat) (q0 : Nat) (n0 : Nat) (k0 : Nat) (A0 : Nat → Insn) (g0_0 : Nat → Bool) (g1_0 : Nat → Bool) : Sh_flow_program_blocks_L0 → List L1 → List Obj
  | .c0 s0_0, ls => [rowO (lget ls 0) (esG cB n0 g0_0) 4 n0 1, rowO (lget ls 1) (esG cB ((IntKind.i64.wrap ((n0 : Int) + 1))).toNat g1_0) 4 ((IntKind.i64.wrap ((n0 : Int) + 1))).toNat 1, unb, unb]
  | .c1 s0_0 s0_1 s0_2 s0_3, ls => [rowO (lget ls 0) (esG cB n0 g0_0) 4 n0 1, rowO (lget ls 1) (esG cB ((IntKind.i64.wrap ((n0 : Int) + 1))).toNat g1_0) 4 ((IntKind.i64.wrap ((n0 : Int) + 1))).toNat 1, rowO (lget ls 2) (esG c_Part s0_0 s0_1) 32 s0_0 2, unb]
def vl_flow_program_blocks_L0 (a0 : Option Addr) (p0 : Nat) (q0 : Nat) (n0 : Nat) (k0 : Nat) (A0 : Nat → Insn) (g0_0 : Nat → Bool) (g1_0 : Nat → Bool) : Ex_flow_program_blocks_L0 → List L1 → List Value
  | .e0 , ls => [.slice a0 n0 (n0 + k0), .slice none 0 0, .slice none 0 0, (rowV (lget ls 0) n0 1), (rowV (lget ls 1) ((IntKind.i64.wrap ((n0 : Int) + 1))).toNat 1)]
  | .e1 c1_0 c1_1, ls => [.slice a0 n0 (n0 + k0), .slice none 0 0, (rowV (lget ls 2) c1_0 2), (rowV (lget ls 0) n0 1), (rowV (lget ls 1) ((IntKind.i64.wrap ((n0 : Int) + 1))).toNat 1)]
def mk_flow_program_blocks_L0 : Ex_flow_program_blocks_L0 → List (Nat × Nat)
  | .e0  => [(1, 1), (4, 50)]
  | .e1 _ _ => [(1, 1), (4, 50)]
noncomputable def vf_flow_program_blocks_L0 (a0 : Option Addr) (p0 : Nat) (q0 : Nat) (n0 : Nat) (k0 : Nat) (A0 : Nat → Insn) (g0_0 : Nat → Bool) (g1_0 : Nat → Bool) (r : Ex_flow_program_blocks_L0) : List L1 → List Value := mrgF (mk_flow_program_blocks_L0 r) (vl_flow_program_blocks_L0 a0 p0 q0 n0 k0 A0 g0_0 g1_0 r) 3
def Hf_flow_program_blocks_L0 (a0 : Option Addr) (p0 : Nat) (q0 : Nat) (n0 : Nat) (k0 : Nat) (A0 : Nat → Insn) (g0_0 : Nat → Bool) (g1_0 : Nat → Bool) : Ex_flow_program_blocks_L0 → List L1 → List Obj
  | .e0 , ls => [rowO (lget ls 0) (esG cB n0 g0_0) 4 n0 1, rowO (lget ls 1) (esG cB ((IntKind.i64.wrap ((n0 : Int) + 1))).toNat g1_0) 4 ((IntKind.i64.wrap ((n0 : Int) + 1))).toNat 1, unb, unb]
  | .e1 c1_0 c1_1, ls => [rowO (lget ls 0) (esG cB n0 g0_0) 4 n0 1, rowO (lget ls 1) (esG cB ((IntKind.i64.wrap ((n0 : Int) + 1))).toNat g1_0) 4 ((IntKind.i64.wrap ((n0 : Int) + 1))).toNat 1, rowO (lget ls 2) (esG c_Part c1_0 c1_1) 32 c1_0 2, unb]
def ex_flow_program_blocks_L0 : Ex_flow_program_blocks_L0 → Ex
  | .e0  => (.exit 0)
  | .e1 _ _ => (.exit 0)
theorem go_flow_program_blocks_L0 (g0_0 : Nat → Bool) (g1_0 : Nat → Bool) (s : Sh_flow_program_blocks_L0) (r : Ex_flow_program_blocks_L0) (h : lpO (st_flow_program_blocks_L0 n0 A0 g0_0 g1_0) s = some r) : GoesG Try.prog M B0 S (.loop bd_flow_program_blocks_L0) 4 (fr_flow_program_blocks_L0 a0 p0 q0 n0 k0 A0 g0_0 g1_0 s) (Hs_flow_program_blocks_L0 a0 p0 q0 n0 k0 A0 g0_0 g1_0 s) (ex_flow_program_blocks_L0 r) 2 (vf_flow_program_blocks_L0 a0 p0 q0 n0 k0 A0 g0_0 g1_0 r) (Hf_flow_program_blocks_L0 a0 p0 q0 n0 k0 A0 g0_0 g1_0 r) 4 :=
  goes_lpO (fun s q e => by
    cases s with
    | c0 s0_0 =>
      unfold st_flow_program_blocks_L0 at e
      dsimp only at e
      replace e := cond_eq_or e
      rcases e with ⟨hq0, e⟩ | ⟨hq0, e⟩
      · replace e := cond_eq_or e
        rcases e with ⟨hq1, e⟩ | ⟨hq1, e⟩
        · replace e := cond_eq_or e
          rcases e with ⟨hq2, e⟩ | ⟨hq2, e⟩
          · replace e := bindT_eq e
            obtain ⟨rb0, e_rb0, e⟩ := e
            try dsimp only at e
            replace e := bindT_eq e
            obtain ⟨rb1, e_rb1, e⟩ := e
            try dsimp only at e
            replace e := bindT_eq e
            obtain ⟨rb2, e_rb2, e⟩ := e
            try dsimp only at e
            cases e; exact goes_runM hU [.o, .o, .o, .b (z_lssT hq0), .o, .o, .q (ixM_ok (kd := .i64) (T := 24) (x := s0_0) (N := n0) (sz := 1) rfl (fun w => by kernel_rfl) hq1), .l (accG (i := 0) (f := cB) (A := g0_0) (k := (s0_0).toNat) 0 [.bool true] cB_len (inR_nat hq1) (congrArg (fun b => [Value.bool b]) hq2)), .o, .o, .o, .o, .o, .o, .o, .o, .o, .x (sqAppL1_ok (ty := 28) rt28 #[false, false] (f := c_Part) (c := 1) (⟨s0_0, 0⟩ : Part) (T' := 32) c_Part_len c_Part_one (by decide)) [4], .o, .o, .o, .o, .o, .o, .o, .o, .o, .q (ixRo_ok (kd := .i64) (T := 62) (x := s0_0) (sz := 5) rfl (fun w => by kernel_rfl) hR0 hq1), .l (accRo hR0 c_Insn_len (inR_nat hq1) 0 [.int .u8 (nn ((A0 (s0_0).toNat)).fOp), .int .u8 (nn ((A0 (s0_0).toNat)).fDst), .int .u8 (nn ((A0 (s0_0).toNat)).fSrc), .int .i16 (ii ((A0 (s0_0).toNat)).fOff), .int .i32 (ii ((A0 (s0_0).toNat)).fImm)] rfl), .cg (ok_op_Width hU ((A0 (s0_0).toNat)) rb0 e_rb0), .o, .q (ixM_ok (kd := .i64) (T := 28) (x := 0) (N := 1) (sz := 2) rfl (fun w => by kernel_rfl) (show inR 0 1 = true from by decide)), .o, .x (sqStGr_ok (T := 3) (e := 32) (f := c_Part) (A := (fun _ => (⟨s0_0, 0⟩ : Part))) (v := (⟨s0_0, (IntKind.i64.wrap (s0_0 + rb0))⟩ : Part)) 1 (.int .i64 ((IntKind.i64.wrap (s0_0 + rb0)))) c_Part_len c_Part_one rfl rfl (fun w => by kernel_rfl) (inR_nat (show inR 0 1 = true from by decide)) e_rb1) [5], .o, .o, .o, .q (ixRo_ok (kd := .i64) (T := 62) (x := s0_0) (sz := 5) rfl (fun w => by kernel_rfl) hR0 hq1), .l (accRo hR0 c_Insn_len (inR_nat hq1) 0 [.int .u8 (nn ((A0 (s0_0).toNat)).fOp), .int .u8 (nn ((A0 (s0_0).toNat)).fDst), .int .u8 (nn ((A0 (s0_0).toNat)).fSrc), .int .i16 (ii ((A0 (s0_0).toNat)).fOff), .int .i32 (ii ((A0 (s0_0).toNat)).fImm)] rfl), .cg (ok_op_Width hU ((A0 (s0_0).toNat)) rb2 e_rb2), .o, .o] [0, 1, 5] (fun b => rfl) (by decide) rfl rfl (fun b => by kernel_rfl)
          · replace e := bindT_eq e
            obtain ⟨rb0, e_rb0, e⟩ := e
            try dsimp only at e
            cases e; exact goes_runM hU [.o, .o, .o, .b (z_lssT hq0), .o, .o, .q (ixM_ok (kd := .i64) (T := 24) (x := s0_0) (N := n0) (sz := 1) rfl (fun w => by kernel_rfl) hq1), .l (accG (i := 0) (f := cB) (A := g0_0) (k := (s0_0).toNat) 0 [.bool false] cB_len (inR_nat hq1) (congrArg (fun b => [Value.bool b]) hq2)), .o, .o, .o, .o, .o, .q (ixRo_ok (kd := .i64) (T := 62) (x := s0_0) (sz := 5) rfl (fun w => by kernel_rfl) hR0 hq1), .l (accRo hR0 c_Insn_len (inR_nat hq1) 0 [.int .u8 (nn ((A0 (s0_0).toNat)).fOp), .int .u8 (nn ((A0 (s0_0).toNat)).fDst), .int .u8 (nn ((A0 (s0_0).toNat)).fSrc), .int .i16 (ii ((A0 (s0_0).toNat)).fOff), .int .i32 (ii ((A0 (s0_0).toNat)).fImm)] rfl), .cg (ok_op_Width hU ((A0 (s0_0).toNat)) rb0 e_rb0), .o, .o] [0, 1, 2] (fun b => rfl) (by decide) rfl rfl (fun b => by kernel_rfl)
        · exact none_some e
      · cases e; exact ⟨ne_exit 0, goes_runM hU [.o, .o, .o, .b (z_lssF hq0)] [0, 1, 2] (fun b => rfl) (by decide) rfl rfl (fun b => by kernel_rfl)⟩
    | c1 s0_0 s0_1 s0_2 s0_3 =>
      unfold st_flow_program_blocks_L0 at e
      dsimp only at e
      replace e := cond_eq_or e
      rcases e with ⟨hq0, e⟩ | ⟨hq0, e⟩
      · replace e := cond_eq_or e
        rcases e with ⟨hq1, e⟩ | ⟨hq1, e⟩
        · replace e := cond_eq_or e
          rcases e with ⟨hq2, e⟩ | ⟨hq2, e⟩
          · replace e := cond_eq_or e
            rcases e with ⟨hq3, e⟩ | ⟨hq3, e⟩
            · replace e := cond_eq_or e
              rcases e with ⟨hq4, e⟩ | ⟨hq4, e⟩
              · replace e := cond_eq_or e
                rcases e with ⟨hq5, e⟩ | ⟨hq5, e⟩
                · replace e := cond_eq_or e
                  rcases e with ⟨hq6, e⟩ | ⟨hq6, e⟩
                  · replace e := bindT_eq e
                    obtain ⟨rb0, e_rb0, e⟩ := e
                    try dsimp only at e
                    replace e := cond_eq_or e
                    rcases e with ⟨hq7, e⟩ | ⟨hq7, e⟩
                    · replace e := bindT_eq e
                      obtain ⟨rb1, e_rb1, e⟩ := e
                      try dsimp only at e
                      replace e := bindT_eq e
                      obtain ⟨rb2, e_rb2, e⟩ := e
                      try dsimp only at e
                      cases e; exact goes_runM hU [.o, .o, .o, .b (z_lssT hq0), .o, .o, .q (ixM_ok (kd := .i64) (T := 24) (x := s0_3) (N := n0) (sz := 1) rfl (fun w => by kernel_rfl) hq1), .l (accG (i := 0) (f := cB) (A := g0_0) (k := (s0_3).toNat) 0 [.bool true] cB_len (inR_nat hq1) (congrArg (fun b => [Value.bool b]) hq2)), .o, .b hq3, .o, .o, .o, .o, .q (ixM_ok (kd := .i64) (T := 24) (x := s0_3) (N := ((IntKind.i64.wrap ((n0 : Int) + 1))).toNat) (sz := 1) rfl (fun w => by kernel_rfl) hq4), .l (accG (i := 1) (f := cB) (A := g1_0) (k := (s0_3).toNat) 0 [.bool true] cB_len (inR_nat hq4) (congrArg (fun b => [Value.bool b]) hq5)), .o, .o, .o, .o, .o, .x (sqAppL_ok (ty := 28) rt28 #[false, false] (f := c_Part) (N := s0_0) (A := s0_1) (c := 1) [(⟨s0_3, 0⟩ : Part)] (T' := 32) .row c_Part_len c_Part_one hq6 rfl (by decide)) [2, 4], .o, .o, .o, .o, .o, .o, .o, .o, .o, .q (ixRo_ok (kd := .i64) (T := 62) (x := s0_3) (sz := 5) rfl (fun w => by kernel_rfl) hR0 hq1), .l (accRo hR0 c_Insn_len (inR_nat hq1) 0 [.int .u8 (nn ((A0 (s0_3).toNat)).fOp), .int .u8 (nn ((A0 (s0_3).toNat)).fDst), .int .u8 (nn ((A0 (s0_3).toNat)).fSrc), .int .i16 (ii ((A0 (s0_3).toNat)).fOff), .int .i32 (ii ((A0 (s0_3).toNat)).fImm)] rfl), .cg (ok_op_Width hU ((A0 (s0_3).toNat)) rb0 e_rb0), .o, .q (ixM_ok (kd := .i64) (T := 28) (x := (IntKind.i64.wrap (((s0_0 + 1) : Int) - 1))) (N := (s0_0 + 1)) (sz := 2) rfl (fun w => by kernel_rfl) hq7), .o, .x (sqStGr_ok (T := 3) (e := 32) (f := c_Part) (A := updF s0_1 s0_0 (⟨s0_3, 0⟩ : Part)) (v := (⟨(((updF s0_1 s0_0 (⟨s0_3, 0⟩ : Part)) ((IntKind.i64.wrap (((s0_0 + 1) : Int) - 1))).toNat)).fFrom, (IntKind.i64.wrap (s0_3 + rb0))⟩ : Part)) 1 (.int .i64 ((IntKind.i64.wrap (s0_3 + rb0)))) c_Part_len c_Part_one rfl rfl (fun w => by kernel_rfl) (inR_nat hq7) e_rb1) [5], .o, .o, .o, .q (ixRo_ok (kd := .i64) (T := 62) (x := s0_3) (sz := 5) rfl (fun w => by kernel_rfl) hR0 hq1), .l (accRo hR0 c_Insn_len (inR_nat hq1) 0 [.int .u8 (nn ((A0 (s0_3).toNat)).fOp), .int .u8 (nn ((A0 (s0_3).toNat)).fDst), .int .u8 (nn ((A0 (s0_3).toNat)).fSrc), .int .i16 (ii ((A0 (s0_3).toNat)).fOff), .int .i32 (ii ((A0 (s0_3).toNat)).fImm)] rfl), .cg (ok_op_Width hU ((A0 (s0_3).toNat)) rb2 e_rb2), .o, .o] [0, 1, 5] (fun b => rfl) (by decide) rfl rfl (fun b => by kernel_rfl)
                    · exact none_some e
                  · exact none_some e
                · replace e := bindT_eq e
                  obtain ⟨rb0, e_rb0, e⟩ := e
                  try dsimp only at e
                  replace e := cond_eq_or e
                  rcases e with ⟨hq6, e⟩ | ⟨hq6, e⟩
                  · replace e := bindT_eq e
                    obtain ⟨rb1, e_rb1, e⟩ := e
                    try dsimp only at e
                    replace e := bindT_eq e
                    obtain ⟨rb2, e_rb2, e⟩ := e
                    try dsimp only at e
                    cases e; exact goes_runM hU [.o, .o, .o, .b (z_lssT hq0), .o, .o, .q (ixM_ok (kd := .i64) (T := 24) (x := s0_3) (N := n0) (sz := 1) rfl (fun w => by kernel_rfl) hq1), .l (accG (i := 0) (f := cB) (A := g0_0) (k := (s0_3).toNat) 0 [.bool true] cB_len (inR_nat hq1) (congrArg (fun b => [Value.bool b]) hq2)), .o, .b hq3, .o, .o, .o, .o, .q (ixM_ok (kd := .i64) (T := 24) (x := s0_3) (N := ((IntKind.i64.wrap ((n0 : Int) + 1))).toNat) (sz := 1) rfl (fun w => by kernel_rfl) hq4), .l (accG (i := 1) (f := cB) (A := g1_0) (k := (s0_3).toNat) 0 [.bool false] cB_len (inR_nat hq4) (congrArg (fun b => [Value.bool b]) hq5)), .o, .o, .o, .o, .o, .o, .o, .o, .q (ixRo_ok (kd := .i64) (T := 62) (x := s0_3) (sz := 5) rfl (fun w => by kernel_rfl) hR0 hq1), .l (accRo hR0 c_Insn_len (inR_nat hq1) 0 [.int .u8 (nn ((A0 (s0_3).toNat)).fOp), .int .u8 (nn ((A0 (s0_3).toNat)).fDst), .int .u8 (nn ((A0 (s0_3).toNat)).fSrc), .int .i16 (ii ((A0 (s0_3).toNat)).fOff), .int .i32 (ii ((A0 (s0_3).toNat)).fImm)] rfl), .cg (ok_op_Width hU ((A0 (s0_3).toNat)) rb0 e_rb0), .o, .q (ixM_ok (kd := .i64) (T := 28) (x := (IntKind.i64.wrap ((s0_0 : Int) - 1))) (N := s0_0) (sz := 2) rfl (fun w => by kernel_rfl) hq6), .o, .x (sqStGr_ok (T := 3) (e := 32) (f := c_Part) (A := s0_1) (v := (⟨((s0_1 ((IntKind.i64.wrap ((s0_0 : Int) - 1))).toNat)).fFrom, (IntKind.i64.wrap (s0_3 + rb0))⟩ : Part)) 1 (.int .i64 ((IntKind.i64.wrap (s0_3 + rb0)))) c_Part_len c_Part_one rfl rfl (fun w => by kernel_rfl) (inR_nat hq6) e_rb1) [2], .o, .o, .o, .q (ixRo_ok (kd := .i64) (T := 62) (x := s0_3) (sz := 5) rfl (fun w => by kernel_rfl) hR0 hq1), .l (accRo hR0 c_Insn_len (inR_nat hq1) 0 [.int .u8 (nn ((A0 (s0_3).toNat)).fOp), .int .u8 (nn ((A0 (s0_3).toNat)).fDst), .int .u8 (nn ((A0 (s0_3).toNat)).fSrc), .int .i16 (ii ((A0 (s0_3).toNat)).fOff), .int .i32 (ii ((A0 (s0_3).toNat)).fImm)] rfl), .cg (ok_op_Width hU ((A0 (s0_3).toNat)) rb2 e_rb2), .o, .o] [0, 1, 2] (fun b => rfl) (by decide) rfl rfl (fun b => by kernel_rfl)
                  · exact none_some e
              · exact none_some e
            · replace e := cond_eq_or e
              rcases e with ⟨hq4, e⟩ | ⟨hq4, e⟩
              · replace e := bindT_eq e
                obtain ⟨rb0, e_rb0, e⟩ := e
                try dsimp only at e
                replace e := cond_eq_or e
                rcases e with ⟨hq5, e⟩ | ⟨hq5, e⟩
                · replace e := bindT_eq e
                  obtain ⟨rb1, e_rb1, e⟩ := e
                  try dsimp only at e
                  replace e := bindT_eq e
                  obtain ⟨rb2, e_rb2, e⟩ := e
                  try dsimp only at e
                  cases e; exact goes_runM hU [.o, .o, .o, .b (z_lssT hq0), .o, .o, .q (ixM_ok (kd := .i64) (T := 24) (x := s0_3) (N := n0) (sz := 1) rfl (fun w => by kernel_rfl) hq1), .l (accG (i := 0) (f := cB) (A := g0_0) (k := (s0_3).toNat) 0 [.bool true] cB_len (inR_nat hq1) (congrArg (fun b => [Value.bool b]) hq2)), .o, .b hq3, .o, .o, .o, .o, .o, .o, .o, .x (sqAppL_ok (ty := 28) rt28 #[false, false] (f := c_Part) (N := s0_0) (A := s0_1) (c := 1) [(⟨s0_3, 0⟩ : Part)] (T' := 32) .row c_Part_len c_Part_one hq4 rfl (by decide)) [2, 4], .o, .o, .o, .o, .o, .o, .o, .o, .o, .q (ixRo_ok (kd := .i64) (T := 62) (x := s0_3) (sz := 5) rfl (fun w => by kernel_rfl) hR0 hq1), .l (accRo hR0 c_Insn_len (inR_nat hq1) 0 [.int .u8 (nn ((A0 (s0_3).toNat)).fOp), .int .u8 (nn ((A0 (s0_3).toNat)).fDst), .int .u8 (nn ((A0 (s0_3).toNat)).fSrc), .int .i16 (ii ((A0 (s0_3).toNat)).fOff), .int .i32 (ii ((A0 (s0_3).toNat)).fImm)] rfl), .cg (ok_op_Width hU ((A0 (s0_3).toNat)) rb0 e_rb0), .o, .q (ixM_ok (kd := .i64) (T := 28) (x := (IntKind.i64.wrap (((s0_0 + 1) : Int) - 1))) (N := (s0_0 + 1)) (sz := 2) rfl (fun w => by kernel_rfl) hq5), .o, .x (sqStGr_ok (T := 3) (e := 32) (f := c_Part) (A := updF s0_1 s0_0 (⟨s0_3, 0⟩ : Part)) (v := (⟨(((updF s0_1 s0_0 (⟨s0_3, 0⟩ : Part)) ((IntKind.i64.wrap (((s0_0 + 1) : Int) - 1))).toNat)).fFrom, (IntKind.i64.wrap (s0_3 + rb0))⟩ : Part)) 1 (.int .i64 ((IntKind.i64.wrap (s0_3 + rb0)))) c_Part_len c_Part_one rfl rfl (fun w => by kernel_rfl) (inR_nat hq5) e_rb1) [5], .o, .o, .o, .q (ixRo_ok (kd := .i64) (T := 62) (x := s0_3) (sz := 5) rfl (fun w => by kernel_rfl) hR0 hq1), .l (accRo hR0 c_Insn_len (inR_nat hq1) 0 [.int .u8 (nn ((A0 (s0_3).toNat)).fOp), .int .u8 (nn ((A0 (s0_3).toNat)).fDst), .int .u8 (nn ((A0 (s0_3).toNat)).fSrc), .int .i16 (ii ((A0 (s0_3).toNat)).fOff), .int .i32 (ii ((A0 (s0_3).toNat)).fImm)] rfl), .cg (ok_op_Width hU ((A0 (s0_3).toNat)) rb2 e_rb2), .o, .o] [0, 1, 5] (fun b => rfl) (by decide) rfl rfl (fun b => by kernel_rfl)
                · exact none_some e
              · exact none_some e
          · replace e := bindT_eq e
            obtain ⟨rb0, e_rb0, e⟩ := e
            try dsimp only at e
            cases e; exact goes_runM hU [.o, .o, .o, .b (z_lssT hq0), .o, .o, .q (ixM_ok (kd := .i64) (T := 24) (x := s0_3) (N := n0) (sz := 1) rfl (fun w => by kernel_rfl) hq1), .l (accG (i := 0) (f := cB) (A := g0_0) (k := (s0_3).toNat) 0 [.bool false] cB_len (inR_nat hq1) (congrArg (fun b => [Value.bool b]) hq2)), .o, .o, .o, .o, .o, .q (ixRo_ok (kd := .i64) (T := 62) (x := s0_3) (sz := 5) rfl (fun w => by kernel_rfl) hR0 hq1), .l (accRo hR0 c_Insn_len (inR_nat hq1) 0 [.int .u8 (nn ((A0 (s0_3).toNat)).fOp), .int .u8 (nn ((A0 (s0_3).toNat)).fDst), .int .u8 (nn ((A0 (s0_3).toNat)).fSrc), .int .i16 (ii ((A0 (s0_3).toNat)).fOff), .int .i32 (ii ((A0 (s0_3).toNat)).fImm)] rfl), .cg (ok_op_Width hU ((A0 (s0_3).toNat)) rb0 e_rb0), .o, .o] [0, 1, 2] (fun b => rfl) (by decide) rfl rfl (fun b => by kernel_rfl)
        · exact none_some e
      · cases e; exact ⟨ne_exit 0, goes_runM hU [.o, .o, .o, .b (z_lssF hq0)] [0, 1, 2] (fun b => rfl) (by decide) rfl rfl (fun b => by kernel_rfl)⟩) s r h
noncomputable def t0_flow_program_blocks_L0_0 (a0 : Option Addr) (p0 : Nat) (q0 : Nat) (n0 : Nat) (k0 : Nat) (A0 : Nat → Insn) (g0_0 : Nat → Bool) (g1_0 : Nat → Bool) (s0_0 : Int) (ls : List L1) : List Value := List.append [.slice a0 n0 (n0 + k0), undef, .slice none 0 0, .slice none 0 0, (rowV (lget ls 0) n0 1), (rowV (lget ls 1) ((IntKind.i64.wrap ((n0 : Int) + 1))).toNat 1), .bool false, .int .i64 (s0_0), .slice a0 n0 (n0 + k0), (rowV (lget ls 0) n0 1), .slice a0 n0 (n0 + k0), (rowV (lget ls 0) n0 1), (rowV (lget ls 1) ((IntKind.i64.wrap ((n0 : Int) + 1))).toNat 1)] (und 43)
def pre_flow_program_blocks_L0_0 (a0 : Option Addr) (p0 : Nat) (q0 : Nat) (n0 : Nat) (k0 : Nat) (A0 : Nat → Insn) (g0_0 : Nat → Bool) (g1_0 : Nat → Bool) (s0_0 : Int) (ls : List L1) : List Obj := [rowO (lget ls 0) (esG cB n0 g0_0) 4 n0 1, rowO (lget ls 1) (esG cB ((IntKind.i64.wrap ((n0 : Int) + 1))).toNat g1_0) 4 ((IntKind.i64.wrap ((n0 : Int) + 1))).toNat 1]
theorem sp0_flow_program_blocks_L0_0_ok (g0_0 : Nat → Bool) (g1_0 : Nat → Bool) (s0_0 : Int) (h : lpO (st_flow_program_blocks_L0 n0 A0 g0_0 g1_0) (.c0 s0_0) = some (.e0 )) : SpcG Try.prog M B0 S ⟨fun ls => .code (.loop bd_flow_program_blocks_L0) (t0_flow_program_blocks_L0_0 a0 p0 q0 n0 k0 A0 g0_0 g1_0 s0_0 ls), pre_flow_program_blocks_L0_0 a0 p0 q0 n0 k0 A0 g0_0 g1_0 s0_0, 2, (.exit 0), fun ls => vf_flow_program_blocks_L0 a0 p0 q0 n0 k0 A0 g0_0 g1_0 (.e0 ) (ls.take 2 ++ ls.drop 2), fun ls => (Hf_flow_program_blocks_L0 a0 p0 q0 n0 k0 A0 g0_0 g1_0 (.e0 ) (ls.take 2 ++ ls.drop 2)).take 2 ++ List.replicate 0 unb, fun ls => (Hf_flow_program_blocks_L0 a0 p0 q0 n0 k0 A0 g0_0 g1_0 (.e0 ) (ls.take 2 ++ ls.drop 2)).drop 2⟩ :=
  spc_of_goesM hU 1 (k0 := 2) (go_flow_program_blocks_L0 hU a0 p0 q0 n0 k0 A0 hR0 g0_0 g1_0 _ _ h) (t0_flow_program_blocks_L0_0 a0 p0 q0 n0 k0 A0 g0_0 g1_0 s0_0) (pre_flow_program_blocks_L0_0 a0 p0 q0 n0 k0 A0 g0_0 g1_0 s0_0) (fun _ => rfl) (fun ls h => by match ls, h with | [l0, l1], _ => exact ⟨by kernel_rfl, by kernel_rfl⟩) (fun ls h => by match ls, h with | [l0, l1], _ => rfl) (by decide) (by decide) (fun ls => rfl)
theorem sp1_flow_program_blocks_L0_0_ok (g0_0 : Nat → Bool) (g1_0 : Nat → Bool) (s0_0 : Int) (c1_0 : Nat) (c1_1 : Nat → Part) (h : lpO (st_flow_program_blocks_L0 n0 A0 g0_0 g1_0) (.c0 s0_0) = some (.e1 c1_0 c1_1)) : SpcG Try.prog M B0 S ⟨fun ls => .code (.loop bd_flow_program_blocks_L0) (t0_flow_program_blocks_L0_0 a0 p0 q0 n0 k0 A0 g0_0 g1_0 s0_0 ls), pre_flow_program_blocks_L0_0 a0 p0 q0 n0 k0 A0 g0_0 g1_0 s0_0, 2, (.exit 0), fun ls => vf_flow_program_blocks_L0 a0 p0 q0 n0 k0 A0 g0_0 g1_0 (.e1 c1_0 c1_1) (ls.take 2 ++ ls.drop 2), fun ls => (Hf_flow_program_blocks_L0 a0 p0 q0 n0 k0 A0 g0_0 g1_0 (.e1 c1_0 c1_1) (ls.take 2 ++ ls.drop 2)).take 2 ++ List.replicate 0 unb, fun ls => (Hf_flow_program_blocks_L0 a0 p0 q0 n0 k0 A0 g0_0 g1_0 (.e1 c1_0 c1_1) (ls.take 2 ++ ls.drop 2)).drop 2⟩ :=
  spc_of_goesM hU 1 (k0 := 2) (go_flow_program_blocks_L0 hU a0 p0 q0 n0 k0 A0 hR0 g0_0 g1_0 _ _ h) (t0_flow_program_blocks_L0_0 a0 p0 q0 n0 k0 A0 g0_0 g1_0 s0_0) (pre_flow_program_blocks_L0_0 a0 p0 q0 n0 k0 A0 g0_0 g1_0 s0_0) (fun _ => rfl) (fun ls h => by match ls, h with | [l0, l1], _ => exact ⟨by kernel_rfl, by kernel_rfl⟩) (fun ls h => by match ls, h with | [l0, l1], _ => rfl) (by decide) (by decide) (fun ls => rfl)
inductive R_flow_program_blocks where
  | e0 
  | e1 (c1_0 : Nat) (c1_1 : Nat → Part)
noncomputable def m_flow_program_blocks (n0 : Nat) (A0 : Nat → Insn) : Option R_flow_program_blocks :=
  (m_flow_program_reached n0 A0).bind fun g0 => match g0 with
  | .e0 g0_0 =>
  (m_flow_program_begins n0 A0 n0 g0_0).bind fun g1 => match g1 with
  | .e0 g1_0 =>
  (lpO (st_flow_program_blocks_L0 n0 A0 g0_0 g1_0) (.c0 0)).bind fun g2 => match g2 with
  | .e0  => (some (.e0))
  | .e1 g2_0 g2_1 => (some (.e1 g2_0 g2_1))
def sq0_flow_program_blocks (a0 : Option Addr) (p0 : Nat) (q0 : Nat) (n0 : Nat) (k0 : Nat) (A0 : Nat → Insn)  : Spc := ⟨fun ls => .call 27 #[.slice a0 n0 (n0 + k0)], fun ls => [], 0, .normal, fun ls => [.slice none 0 0], fun ls => [], fun ls => []⟩
def sq1_flow_program_blocks (a0 : Option Addr) (p0 : Nat) (q0 : Nat) (n0 : Nat) (k0 : Nat) (A0 : Nat → Insn) (c1_0 : Nat) (c1_1 : Nat → Part) : Spc := ⟨fun ls => .call 27 #[.slice a0 n0 (n0 + k0)], fun ls => [], 1, .normal, fun ls => [(rowV (lget ls 0) c1_0 2)], fun ls => [], fun ls => [rowO (lget ls 0) (esG c_Part c1_0 c1_1) 32 c1_0 2]⟩
theorem ok0_flow_program_blocks (e : m_flow_program_blocks n0 A0 = some (.e0 )) : SpcG Try.prog M B0 S (sq0_flow_program_blocks a0 p0 q0 n0 k0 A0 ) := by
  unfold m_flow_program_blocks at e
  replace e := bindO_eq e
  obtain ⟨g0, e_g0, e⟩ := e
  obtain ⟨g0_0⟩ := g0
  try dsimp only at e
  replace e := bindO_eq e
  obtain ⟨g1, e_g1, e⟩ := e
  obtain ⟨g1_0⟩ := g1
  try dsimp only at e
  replace e := bindO_eq e
  obtain ⟨g2, e_g2, e⟩ := e
  rcases g2 with _ | ⟨g2_0, g2_1⟩
  · try dsimp only at e
    exact fn_specG hU (P := Try.prog) Try.func27 (fun xs w => by kernel_rfl) 0 _ _ (fun _ => rfl) _ _ _ [] [.o, .o, .o, .xg (ok0_flow_program_reached hU a0 p0 q0 n0 k0 A0 hR0 g0_0 e_g0) [], .o, .o, .o, .xg (SpcG.own hU (f := cB) cB_len n0 g0_0 4 (fun l => padL l n0 1) (fun l => (padL l n0 1).length / 1) _ 1 .normal (by intros; rfl) (by intros; rfl) (by intros; rfl) (fun M0 B0 S0 x0 u0 v0 z0 hU0 hs0 hr0 => ok0_flow_program_begins hU0 a0 p0 q0 n0 k0 A0 (Ro.mono hR0 hs0) x0 u0 v0 n0 z0 g0_0 hr0 g1_0 e_g1)) [0], .o, .o, .o, .cp, .cx (sp0_flow_program_blocks_L0_0_ok hU a0 p0 q0 n0 k0 A0 hR0 g0_0 g1_0 0  e_g2) [0, 1], .o, .o] [] (fun b => by kernel_rfl)
  · try dsimp only at e
    cases e
theorem ok1_flow_program_blocks (c1_0 : Nat) (c1_1 : Nat → Part) (e : m_flow_program_blocks n0 A0 = some (.e1 c1_0 c1_1)) : SpcG Try.prog M B0 S (sq1_flow_program_blocks a0 p0 q0 n0 k0 A0 c1_0 c1_1) := by
  unfold m_flow_program_blocks at e
  replace e := bindO_eq e
  obtain ⟨g0, e_g0, e⟩ := e
  obtain ⟨g0_0⟩ := g0
  try dsimp only at e
  replace e := bindO_eq e
  obtain ⟨g1, e_g1, e⟩ := e
  obtain ⟨g1_0⟩ := g1
  try dsimp only at e
  replace e := bindO_eq e
  obtain ⟨g2, e_g2, e⟩ := e
  rcases g2 with _ | ⟨g2_0, g2_1⟩
  · try dsimp only at e
    cases e
  · try dsimp only at e
    injection e with e; injection e with i0 i1; subst i0 i1; exact fn_specG hU (P := Try.prog) Try.func27 (fun xs w => by kernel_rfl) 0 _ _ (fun _ => rfl) _ _ _ [2] [.o, .o, .o, .xg (ok0_flow_program_reached hU a0 p0 q0 n0 k0 A0 hR0 g0_0 e_g0) [], .o, .o, .o, .xg (SpcG.own hU (f := cB) cB_len n0 g0_0 4 (fun l => padL l n0 1) (fun l => (padL l n0 1).length / 1) _ 1 .normal (by intros; rfl) (by intros; rfl) (by intros; rfl) (fun M0 B0 S0 x0 u0 v0 z0 hU0 hs0 hr0 => ok0_flow_program_begins hU0 a0 p0 q0 n0 k0 A0 (Ro.mono hR0 hs0) x0 u0 v0 n0 z0 g0_0 hr0 g1_0 e_g1)) [0], .o, .o, .o, .cp, .cx (sp1_flow_program_blocks_L0_0_ok hU a0 p0 q0 n0 k0 A0 hR0 g0_0 g1_0 0 g2_0 g2_1 e_g2) [0, 1], .o, .o] [] (fun b => by kernel_rfl)
inductive R_flow_Blocks where
  | e0 (c0_0 : Int)
  | e1 (c1_0 : Nat) (c1_1 : Nat → Part)
noncomputable def m_flow_Blocks (n0 : Nat) (A0 : Nat → Insn) : Option R_flow_Blocks :=
  (m_insn_Check n0 A0).bind fun r0 =>
  bif r0.2 == 0 then
    ((m_flow_program_blocks n0 A0).bind fun g1 => match g1 with
    | .e0  => (some (.e0 0))
    | .e1 g1_0 g1_1 => (some (.e1 g1_0 g1_1)))
  else (some (.e0 r0.2))
def sq0_flow_Blocks (a0 : Option Addr) (p0 : Nat) (q0 : Nat) (n0 : Nat) (k0 : Nat) (A0 : Nat → Insn) (c0_0 : Int) : Spc := ⟨fun ls => .call 9 #[.slice a0 n0 (n0 + k0)], fun ls => [], 0, .normal, fun ls => [.tuple #[.slice none 0 0, .int .i64 (c0_0)]], fun ls => [], fun ls => []⟩
def sq1_flow_Blocks (a0 : Option Addr) (p0 : Nat) (q0 : Nat) (n0 : Nat) (k0 : Nat) (A0 : Nat → Insn) (c1_0 : Nat) (c1_1 : Nat → Part) : Spc := ⟨fun ls => .call 9 #[.slice a0 n0 (n0 + k0)], fun ls => [], 1, .normal, fun ls => [.tuple #[(rowV (lget ls 0) c1_0 2), .int .i64 (0)]], fun ls => [], fun ls => [rowO (lget ls 0) (esG c_Part c1_0 c1_1) 32 c1_0 2]⟩
theorem ok0_flow_Blocks (c0_0 : Int) (e : m_flow_Blocks n0 A0 = some (.e0 c0_0)) : SpcG Try.prog M B0 S (sq0_flow_Blocks a0 p0 q0 n0 k0 A0 c0_0) := by
  unfold m_flow_Blocks at e
  replace e := bindO_eq e
  obtain ⟨r0, e_r0, e⟩ := e
  try dsimp only at e
  replace e := cond_eq_or e
  rcases e with ⟨hq0, e⟩ | ⟨hq0, e⟩
  · replace e := bindO_eq e
    obtain ⟨g1, e_g1, e⟩ := e
    rcases g1 with _ | ⟨g1_0, g1_1⟩
    · try dsimp only at e
      injection e with e; injection e with i0; subst i0; exact fn_specG hU (P := Try.prog) Try.func9 (fun xs w => by kernel_rfl) 0 _ _ (fun _ => rfl) _ _ _ [] [.o, .o, .o, .cg (ok_insn_Check hU a0 p0 q0 n0 k0 A0 hR0 r0 e_r0), .o, .o, .o, .o, .o, .o, .b (z_neqT hq0), .o, .xg (ok0_flow_program_blocks hU a0 p0 q0 n0 k0 A0 hR0  e_g1) [], .o, .o] [] (fun b => by kernel_rfl)
    · try dsimp only at e
      cases e
  · injection e with e; injection e with i0; subst i0; exact fn_specG hU (P := Try.prog) Try.func9 (fun xs w => by kernel_rfl) 0 _ _ (fun _ => rfl) _ _ _ [] [.o, .o, .o, .cg (ok_insn_Check hU a0 p0 q0 n0 k0 A0 hR0 r0 e_r0), .o, .o, .o, .o, .o, .o, .b (z_neqF hq0), .o, .o, .o] [] (fun b => by kernel_rfl)
theorem ok1_flow_Blocks (c1_0 : Nat) (c1_1 : Nat → Part) (e : m_flow_Blocks n0 A0 = some (.e1 c1_0 c1_1)) : SpcG Try.prog M B0 S (sq1_flow_Blocks a0 p0 q0 n0 k0 A0 c1_0 c1_1) := by
  unfold m_flow_Blocks at e
  replace e := bindO_eq e
  obtain ⟨r0, e_r0, e⟩ := e
  try dsimp only at e
  replace e := cond_eq_or e
  rcases e with ⟨hq0, e⟩ | ⟨hq0, e⟩
  · replace e := bindO_eq e
    obtain ⟨g1, e_g1, e⟩ := e
    rcases g1 with _ | ⟨g1_0, g1_1⟩
    · try dsimp only at e
      cases e
    · try dsimp only at e
      injection e with e; injection e with i0 i1; subst i0 i1; exact fn_specG hU (P := Try.prog) Try.func9 (fun xs w => by kernel_rfl) 0 _ _ (fun _ => rfl) _ _ _ [0] [.o, .o, .o, .cg (ok_insn_Check hU a0 p0 q0 n0 k0 A0 hR0 r0 e_r0), .o, .o, .o, .o, .o, .o, .b (z_neqT hq0), .o, .xg (ok1_flow_program_blocks hU a0 p0 q0 n0 k0 A0 hR0 g1_0 g1_1 e_g1) [], .o, .o] [] (fun b => by kernel_rfl)
  · cases e
end

end Go.Proofs.Ytkfmmcobmjkilaa
