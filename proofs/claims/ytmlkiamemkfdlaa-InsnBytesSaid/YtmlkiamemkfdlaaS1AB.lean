/-
  Instructions: what the program says of one slot, on.
-/
import Derived.Test.YtmlkiamemkfdlaaS1A
namespace Go.Proofs.Ytmlkiamemkfdlaa
open Go.RowKit
set_option linter.unusedVariables false
set_option linter.unusedSimpArgs false
set_option linter.unusedSectionVars false
set_option maxRecDepth 100000
set_option maxHeartbeats 4000000
noncomputable def m_insn_names (y0 : Insn) : Bool :=
  bif y0.fOp == 24#8 then
    ((y0.fSrc == 4#8))
  else (bif y0.fOp == 133#8 then
    ((y0.fSrc == 1#8))
  else (false))
section
variable {M : Nat → Prop} {B0 : Nat} {S : World → Prop} (hU : Up M B0 S) (y0 : Insn)
include hU y0
theorem p0_insn_names (h0 : (y0.fOp == 24#8) = true) : ConG Try.prog S 38 #[(v_Insn y0)] (.bool ((y0.fSrc == 4#8))) :=
  fn_conG hU (P := Try.prog) Try.func38 (fun xs w => by kernel_rfl) [(v_Insn y0)] (.bool ((y0.fSrc == 4#8)))
    [.o, .o, .o, .a 0, .t (u_eq y0.fOp (24#8)) h0, .o, .o, .a 0, .t (u_eq y0.fSrc (4#8)) rfl, .o]
    [] (fun b => by kernel_rfl)
theorem p1_insn_names (h0 : (y0.fOp == 24#8) = false) (h1 : (y0.fOp == 133#8) = true) : ConG Try.prog S 38 #[(v_Insn y0)] (.bool ((y0.fSrc == 1#8))) :=
  fn_conG hU (P := Try.prog) Try.func38 (fun xs w => by kernel_rfl) [(v_Insn y0)] (.bool ((y0.fSrc == 1#8)))
    [.o, .o, .o, .a 0, .t (u_eq y0.fOp (24#8)) h0, .o, .t (u_eq y0.fOp (133#8)) h1, .o, .o, .a 0, .t (u_eq y0.fSrc (1#8)) rfl, .o]
    [] (fun b => by kernel_rfl)
theorem p2_insn_names (h0 : (y0.fOp == 24#8) = false) (h1 : (y0.fOp == 133#8) = false) : ConG Try.prog S 38 #[(v_Insn y0)] (.bool false) :=
  fn_conG hU (P := Try.prog) Try.func38 (fun xs w => by kernel_rfl) [(v_Insn y0)] (.bool false)
    [.o, .o, .o, .a 0, .t (u_eq y0.fOp (24#8)) h0, .o, .t (u_eq y0.fOp (133#8)) h1, .o, .o]
    [] (fun b => by kernel_rfl)
theorem ok_insn_names (r : Bool) (e : m_insn_names y0 = r) : ConG Try.prog S 38 #[(v_Insn y0)] (.bool (r)) := by
  unfold m_insn_names at e
  replace e := cond_eq_or e
  rcases e with ⟨hq0, e⟩ | ⟨hq0, e⟩
  · subst e; exact p0_insn_names hU y0 hq0
  · replace e := cond_eq_or e
    rcases e with ⟨hq1, e⟩ | ⟨hq1, e⟩
    · subst e; exact p1_insn_names hU y0 hq0 hq1
    · subst e; exact p2_insn_names hU y0 hq0 hq1
noncomputable def m_op_Jumps (y0 : Insn) : Bool :=
  bif (y0.fOp &&& 7#8) == 5#8 then
    (bif y0.fOp == 133#8 then
      (false)
    else ((!(y0.fOp == 149#8))))
  else (bif (y0.fOp &&& 7#8) == 6#8 then
    (true)
  else (false))
theorem p0_op_Jumps (h0 : ((y0.fOp &&& 7#8) == 5#8) = true) (h1 : (y0.fOp == 133#8) = true) : ConG Try.prog S 39 #[(v_Insn y0)] (.bool false) :=
  fn_conG hU (P := Try.prog) Try.func39 (fun xs w => by kernel_rfl) [(v_Insn y0)] (.bool false)
    [.o, .o, .o, .a 0, .v .u8 (u8_and y0.fOp (7#8)), .t (u_eq (y0.fOp &&& 7#8) (5#8)) h0, .o, .o, .a 0, .tn (u_ne y0.fOp (133#8)) h1, .o, .o, .o]
    [] (fun b => by kernel_rfl)
theorem p1_op_Jumps (h0 : ((y0.fOp &&& 7#8) == 5#8) = true) (h1 : (y0.fOp == 133#8) = false) : ConG Try.prog S 39 #[(v_Insn y0)] (.bool ((!(y0.fOp == 149#8)))) :=
  fn_conG hU (P := Try.prog) Try.func39 (fun xs w => by kernel_rfl) [(v_Insn y0)] (.bool ((!(y0.fOp == 149#8))))
    [.o, .o, .o, .a 0, .v .u8 (u8_and y0.fOp (7#8)), .t (u_eq (y0.fOp &&& 7#8) (5#8)) h0, .o, .o, .a 0, .tn (u_ne y0.fOp (133#8)) h1, .o, .o, .a 0, .tn (u_ne y0.fOp (149#8)) rfl, .o, .o]
    [] (fun b => by kernel_rfl)
theorem p2_op_Jumps (h0 : ((y0.fOp &&& 7#8) == 5#8) = false) (h1 : ((y0.fOp &&& 7#8) == 6#8) = true) : ConG Try.prog S 39 #[(v_Insn y0)] (.bool true) :=
  fn_conG hU (P := Try.prog) Try.func39 (fun xs w => by kernel_rfl) [(v_Insn y0)] (.bool true)
    [.o, .o, .o, .a 0, .v .u8 (u8_and y0.fOp (7#8)), .t (u_eq (y0.fOp &&& 7#8) (5#8)) h0, .o, .t (u_eq (y0.fOp &&& 7#8) (6#8)) h1, .o, .o]
    [] (fun b => by kernel_rfl)
theorem p3_op_Jumps (h0 : ((y0.fOp &&& 7#8) == 5#8) = false) (h1 : ((y0.fOp &&& 7#8) == 6#8) = false) : ConG Try.prog S 39 #[(v_Insn y0)] (.bool false) :=
  fn_conG hU (P := Try.prog) Try.func39 (fun xs w => by kernel_rfl) [(v_Insn y0)] (.bool false)
    [.o, .o, .o, .a 0, .v .u8 (u8_and y0.fOp (7#8)), .t (u_eq (y0.fOp &&& 7#8) (5#8)) h0, .o, .t (u_eq (y0.fOp &&& 7#8) (6#8)) h1, .o, .o]
    [] (fun b => by kernel_rfl)
theorem ok_op_Jumps (r : Bool) (e : m_op_Jumps y0 = r) : ConG Try.prog S 39 #[(v_Insn y0)] (.bool (r)) := by
  unfold m_op_Jumps at e
  replace e := cond_eq_or e
  rcases e with ⟨hq0, e⟩ | ⟨hq0, e⟩
  · replace e := cond_eq_or e
    rcases e with ⟨hq1, e⟩ | ⟨hq1, e⟩
    · subst e; exact p0_op_Jumps hU y0 hq0 hq1
    · subst e; exact p1_op_Jumps hU y0 hq0 hq1
  · replace e := cond_eq_or e
    rcases e with ⟨hq1, e⟩ | ⟨hq1, e⟩
    · subst e; exact p2_op_Jumps hU y0 hq0 hq1
    · subst e; exact p3_op_Jumps hU y0 hq0 hq1
noncomputable def m_insn_writes (y0 : Insn) : Bool :=
  bif (y0.fOp &&& 7#8) == 0#8 then
    (true)
  else (bif (y0.fOp &&& 7#8) == 1#8 then
    (true)
  else (bif (y0.fOp &&& 7#8) == 4#8 then
    (true)
  else (bif (y0.fOp &&& 7#8) == 7#8 then
    (true)
  else (false))))
theorem p0_insn_writes (h0 : ((y0.fOp &&& 7#8) == 0#8) = true) : ConG Try.prog S 45 #[(v_Insn y0)] (.bool true) :=
  fn_conG hU (P := Try.prog) Try.func45 (fun xs w => by kernel_rfl) [(v_Insn y0)] (.bool true)
    [.o, .o, .o, .a 0, .v .u8 (u8_and y0.fOp (7#8)), .t (u_eq (y0.fOp &&& 7#8) (0#8)) h0, .o, .o]
    [] (fun b => by kernel_rfl)
theorem p1_insn_writes (h0 : ((y0.fOp &&& 7#8) == 0#8) = false) (h1 : ((y0.fOp &&& 7#8) == 1#8) = true) : ConG Try.prog S 45 #[(v_Insn y0)] (.bool true) :=
  fn_conG hU (P := Try.prog) Try.func45 (fun xs w => by kernel_rfl) [(v_Insn y0)] (.bool true)
    [.o, .o, .o, .a 0, .v .u8 (u8_and y0.fOp (7#8)), .t (u_eq (y0.fOp &&& 7#8) (0#8)) h0, .o, .t (u_eq (y0.fOp &&& 7#8) (1#8)) h1, .o, .o]
    [] (fun b => by kernel_rfl)
end
section
variable {M : Nat → Prop} {B0 : Nat} {S : World → Prop} (hU : Up M B0 S) (y0 : Insn) (h0 : ((y0.fOp &&& 7#8) == 0#8) = false) (h1 : ((y0.fOp &&& 7#8) == 1#8) = false)
include hU y0 h0 h1
theorem p2_insn_writes (h2 : ((y0.fOp &&& 7#8) == 4#8) = true) : ConG Try.prog S 45 #[(v_Insn y0)] (.bool true) :=
  fn_conG hU (P := Try.prog) Try.func45 (fun xs w => by kernel_rfl) [(v_Insn y0)] (.bool true)
    [.o, .o, .o, .a 0, .v .u8 (u8_and y0.fOp (7#8)), .t (u_eq (y0.fOp &&& 7#8) (0#8)) h0, .o, .t (u_eq (y0.fOp &&& 7#8) (1#8)) h1, .o, .t (u_eq (y0.fOp &&& 7#8) (4#8)) h2, .o, .o]
    [] (fun b => by kernel_rfl)
theorem p3_insn_writes (h2 : ((y0.fOp &&& 7#8) == 4#8) = false) (h3 : ((y0.fOp &&& 7#8) == 7#8) = true) : ConG Try.prog S 45 #[(v_Insn y0)] (.bool true) :=
  fn_conG hU (P := Try.prog) Try.func45 (fun xs w => by kernel_rfl) [(v_Insn y0)] (.bool true)
    [.o, .o, .o, .a 0, .v .u8 (u8_and y0.fOp (7#8)), .t (u_eq (y0.fOp &&& 7#8) (0#8)) h0, .o, .t (u_eq (y0.fOp &&& 7#8) (1#8)) h1, .o, .t (u_eq (y0.fOp &&& 7#8) (4#8)) h2, .o, .t (u_eq (y0.fOp &&& 7#8) (7#8)) h3, .o, .o]
    [] (fun b => by kernel_rfl)
theorem p4_insn_writes (h2 : ((y0.fOp &&& 7#8) == 4#8) = false) (h3 : ((y0.fOp &&& 7#8) == 7#8) = false) : ConG Try.prog S 45 #[(v_Insn y0)] (.bool false) :=
  fn_conG hU (P := Try.prog) Try.func45 (fun xs w => by kernel_rfl) [(v_Insn y0)] (.bool false)
    [.o, .o, .o, .a 0, .v .u8 (u8_and y0.fOp (7#8)), .t (u_eq (y0.fOp &&& 7#8) (0#8)) h0, .o, .t (u_eq (y0.fOp &&& 7#8) (1#8)) h1, .o, .t (u_eq (y0.fOp &&& 7#8) (4#8)) h2, .o, .t (u_eq (y0.fOp &&& 7#8) (7#8)) h3, .o, .o]
    [] (fun b => by kernel_rfl)
end
section
variable {M : Nat → Prop} {B0 : Nat} {S : World → Prop} (hU : Up M B0 S)
include hU
theorem ok_insn_writes (y0 : Insn) (r : Bool) (e : m_insn_writes y0 = r) : ConG Try.prog S 45 #[(v_Insn y0)] (.bool (r)) := by
  unfold m_insn_writes at e
  replace e := cond_eq_or e
  rcases e with ⟨hq0, e⟩ | ⟨hq0, e⟩
  · subst e; exact p0_insn_writes hU y0 hq0
  · replace e := cond_eq_or e
    rcases e with ⟨hq1, e⟩ | ⟨hq1, e⟩
    · subst e; exact p1_insn_writes hU y0 hq0 hq1
    · replace e := cond_eq_or e
      rcases e with ⟨hq2, e⟩ | ⟨hq2, e⟩
      · subst e; exact p2_insn_writes hU y0 hq0 hq1 hq2
      · replace e := cond_eq_or e
        rcases e with ⟨hq3, e⟩ | ⟨hq3, e⟩
        · subst e; exact p3_insn_writes hU y0 hq0 hq1 hq2 hq3
        · subst e; exact p4_insn_writes hU y0 hq0 hq1 hq2 hq3
inductive Sh_op_IsSecond_L0 where
  | c0 (s0_0 : Int)
inductive Ex_op_IsSecond_L0 where
  | e0 (c0_0 : Int)
noncomputable def st_op_IsSecond_L0 (n0 : Nat) (A0 : Nat → Insn) : Sh_op_IsSecond_L0 → Option (Sh_op_IsSecond_L0 ⊕ Ex_op_IsSecond_L0)
  | .c0 s0_0 =>
    bif decide (0 < s0_0) then
      (bif inR (IntKind.i64.wrap (s0_0 - 1)) n0 then
        (bif ((A0 ((IntKind.i64.wrap (s0_0 - 1))).toNat)).fOp == 24#8 then
          (some (.inl (.c0 (IntKind.i64.wrap (s0_0 - 1)))))
        else (some (.inr (.e0 s0_0))))
      else (none))
    else (some (.inr (.e0 s0_0)))
noncomputable def bd_op_IsSecond_L0 : Code := codeOf Try.f40 [1, 1, 0, 0, 0]
def fr_op_IsSecond_L0 (a0 : Option Addr) (p0 : Nat) (q0 : Nat) (n0 : Nat) (k0 : Nat) (A0 : Nat → Insn) (y1 : Int) : Sh_op_IsSecond_L0 → List L1 → List Value
  | .c0 s0_0, ls => [.slice a0 n0 (n0 + k0), .int .i64 (y1), ((lget ls 0).u 2), ((lget ls 0).u 3), .bool false, .int .i64 (s0_0), ((lget ls 0).u 6), ((lget ls 0).u 7), ((lget ls 0).u 8), ((lget ls 0).u 9), ((lget ls 0).u 10), ((lget ls 0).u 11), ((lget ls 0).u 12), ((lget ls 0).u 13), ((lget ls 0).u 14), ((lget ls 0).u 15), ((lget ls 0).u 16), ((lget ls 0).u 17), ((lget ls 0).u 18), ((lget ls 0).u 19), undef, undef, undef, undef, undef]
def Hs_op_IsSecond_L0 (a0 : Option Addr) (p0 : Nat) (q0 : Nat) (n0 : Nat) (k0 : Nat) (A0 : Nat → Insn) (y1 : Int) : Sh_op_IsSecond_L0 → List L1 → List Obj
  | .c0 s0_0, ls => [unb]
def vf_op_IsSecond_L0 (a0 : Option Addr) (p0 : Nat) (q0 : Nat) (n0 : Nat) (k0 : Nat) (A0 : Nat → Insn) (y1 : Int) : Ex_op_IsSecond_L0 → List L1 → List Value
  | .e0 c0_0, ls => [.slice a0 n0 (n0 + k0), .int .i64 (y1), ((lget ls 0).u 2), ((lget ls 0).u 3), .bool false, .int .i64 (c0_0), ((lget ls 0).u 6), ((lget ls 0).u 7), ((lget ls 0).u 8), ((lget ls 0).u 9), ((lget ls 0).u 10), ((lget ls 0).u 11), ((lget ls 0).u 12), ((lget ls 0).u 13), ((lget ls 0).u 14), ((lget ls 0).u 15), ((lget ls 0).u 16), ((lget ls 0).u 17), ((lget ls 0).u 18), ((lget ls 0).u 19), undef, undef, undef, undef, undef]
def Hf_op_IsSecond_L0 (a0 : Option Addr) (p0 : Nat) (q0 : Nat) (n0 : Nat) (k0 : Nat) (A0 : Nat → Insn) (y1 : Int) : Ex_op_IsSecond_L0 → List L1 → List Obj
  | .e0 c0_0, ls => [unb]
def ex_op_IsSecond_L0 : Ex_op_IsSecond_L0 → Ex
  | .e0 _ => (.exit 0)
end
section
variable {M : Nat → Prop} {B0 : Nat} {S : World → Prop} (hU : Up M B0 S) (a0 : Option Addr) (p0 : Nat) (q0 : Nat) (n0 : Nat) (k0 : Nat) (A0 : Nat → Insn) (hR0 : Ro S c_Insn 5 a0 p0 q0 n0 A0) (y1 : Int) (s0_0 : Int) (h0 : (decide (0 < s0_0)) = true) (h1 : (inR (IntKind.i64.wrap (s0_0 - 1)) n0) = true)
include hU a0 p0 q0 n0 k0 A0 hR0 y1 s0_0 h0 h1
theorem w0_0_op_IsSecond_L0 (h2 : (((A0 ((IntKind.i64.wrap (s0_0 - 1))).toNat)).fOp == 24#8) = true) : GoesG Try.prog M B0 S bd_op_IsSecond_L0 1 (fr_op_IsSecond_L0 a0 p0 q0 n0 k0 A0 y1 (.c0 s0_0)) (Hs_op_IsSecond_L0 a0 p0 q0 n0 k0 A0 y1 (.c0 s0_0)) .normal 0 (fr_op_IsSecond_L0 a0 p0 q0 n0 k0 A0 y1 (.c0 (IntKind.i64.wrap (s0_0 - 1)))) (Hs_op_IsSecond_L0 a0 p0 q0 n0 k0 A0 y1 (.c0 (IntKind.i64.wrap (s0_0 - 1)))) 1 :=
  goes_runG hU [.o, .b (z_gtrT h0), .o, .o, .o, .o, .q (ixRo_ok (kd := .i64) (T := 22) (x := (IntKind.i64.wrap (s0_0 - 1))) (sz := 5) rfl (fun w => by kernel_rfl) hR0 h1), .o, .l (accRo hR0 c_Insn_len (inR_nat h1) 0 [.int .u8 (nn ((A0 ((IntKind.i64.wrap (s0_0 - 1))).toNat)).fOp)] rfl), .t (u_eq ((A0 ((IntKind.i64.wrap (s0_0 - 1))).toNat)).fOp (24#8)) h2, .o, .o, .o, .o] [] (fun b => rfl) (by decide) rfl (fun b => by kernel_rfl)
theorem w0_1_op_IsSecond_L0 (h2 : (((A0 ((IntKind.i64.wrap (s0_0 - 1))).toNat)).fOp == 24#8) = false) : GoesG Try.prog M B0 S bd_op_IsSecond_L0 1 (fr_op_IsSecond_L0 a0 p0 q0 n0 k0 A0 y1 (.c0 s0_0)) (Hs_op_IsSecond_L0 a0 p0 q0 n0 k0 A0 y1 (.c0 s0_0)) (.exit 0) 0 (vf_op_IsSecond_L0 a0 p0 q0 n0 k0 A0 y1 (.e0 s0_0)) (Hf_op_IsSecond_L0 a0 p0 q0 n0 k0 A0 y1 (.e0 s0_0)) 1 :=
  goes_runG hU [.o, .b (z_gtrT h0), .o, .o, .o, .o, .q (ixRo_ok (kd := .i64) (T := 22) (x := (IntKind.i64.wrap (s0_0 - 1))) (sz := 5) rfl (fun w => by kernel_rfl) hR0 h1), .o, .l (accRo hR0 c_Insn_len (inR_nat h1) 0 [.int .u8 (nn ((A0 ((IntKind.i64.wrap (s0_0 - 1))).toNat)).fOp)] rfl), .t (u_eq ((A0 ((IntKind.i64.wrap (s0_0 - 1))).toNat)).fOp (24#8)) h2, .o] [] (fun b => rfl) (by decide) rfl (fun b => by kernel_rfl)
end
section
variable {M : Nat → Prop} {B0 : Nat} {S : World → Prop} (hU : Up M B0 S) (a0 : Option Addr) (p0 : Nat) (q0 : Nat) (n0 : Nat) (k0 : Nat) (A0 : Nat → Insn) (hR0 : Ro S c_Insn 5 a0 p0 q0 n0 A0) (y1 : Int)
include hU a0 p0 q0 n0 k0 A0 hR0 y1
theorem w0_3_op_IsSecond_L0 (s0_0 : Int) (h0 : (decide (0 < s0_0)) = false) : GoesG Try.prog M B0 S bd_op_IsSecond_L0 1 (fr_op_IsSecond_L0 a0 p0 q0 n0 k0 A0 y1 (.c0 s0_0)) (Hs_op_IsSecond_L0 a0 p0 q0 n0 k0 A0 y1 (.c0 s0_0)) (.exit 0) 0 (vf_op_IsSecond_L0 a0 p0 q0 n0 k0 A0 y1 (.e0 s0_0)) (Hf_op_IsSecond_L0 a0 p0 q0 n0 k0 A0 y1 (.e0 s0_0)) 1 :=
  goes_runG hU [.o, .b (z_gtrF h0), .o, .o] [] (fun b => rfl) (by decide) rfl (fun b => by kernel_rfl)
theorem go_op_IsSecond_L0 (s : Sh_op_IsSecond_L0) (r : Ex_op_IsSecond_L0) (h : lpO (st_op_IsSecond_L0 n0 A0) s = some r) : GoesG Try.prog M B0 S (.loop bd_op_IsSecond_L0) 1 (fr_op_IsSecond_L0 a0 p0 q0 n0 k0 A0 y1 s) (Hs_op_IsSecond_L0 a0 p0 q0 n0 k0 A0 y1 s) (ex_op_IsSecond_L0 r) 0 (vf_op_IsSecond_L0 a0 p0 q0 n0 k0 A0 y1 r) (Hf_op_IsSecond_L0 a0 p0 q0 n0 k0 A0 y1 r) 1 :=
  goes_lpO (fun s q e => by
    cases s with
    | c0 s0_0 =>
      unfold st_op_IsSecond_L0 at e
      dsimp only at e
      replace e := cond_eq_or e
      rcases e with ⟨hq0, e⟩ | ⟨hq0, e⟩
      · replace e := cond_eq_or e
        rcases e with ⟨hq1, e⟩ | ⟨hq1, e⟩
        · replace e := cond_eq_or e
          rcases e with ⟨hq2, e⟩ | ⟨hq2, e⟩
          · cases e; exact w0_0_op_IsSecond_L0 hU a0 p0 q0 n0 k0 A0 hR0 y1 s0_0 hq0 hq1 hq2
          · cases e; exact ⟨ne_exit 0, w0_1_op_IsSecond_L0 hU a0 p0 q0 n0 k0 A0 hR0 y1 s0_0 hq0 hq1 hq2⟩
        · exact none_some e
      · cases e; exact ⟨ne_exit 0, w0_3_op_IsSecond_L0 hU a0 p0 q0 n0 k0 A0 hR0 y1 s0_0 hq0⟩) s r h
def t0_op_IsSecond_L0_0 (a0 : Option Addr) (p0 : Nat) (q0 : Nat) (n0 : Nat) (k0 : Nat) (A0 : Nat → Insn) (y1 : Int) (s0_0 : Int) (ls : List L1) : List Value := [.slice a0 n0 (n0 + k0), .int .i64 (y1), undef, undef, .bool false, .int .i64 (s0_0), .int .i64 (y1), undef, undef, undef, undef, undef, undef, undef, undef, undef, undef, undef, undef, undef, undef, undef, undef, undef, undef]
def pre_op_IsSecond_L0_0 (a0 : Option Addr) (p0 : Nat) (q0 : Nat) (n0 : Nat) (k0 : Nat) (A0 : Nat → Insn) (y1 : Int) (s0_0 : Int) (ls : List L1) : List Obj := []
theorem sp0_op_IsSecond_L0_0_ok (s0_0 : Int) (c0_0 : Int) (h : lpO (st_op_IsSecond_L0 n0 A0) (.c0 s0_0) = some (.e0 c0_0)) : SpcG Try.prog M B0 S ⟨fun ls => .code (.loop bd_op_IsSecond_L0) (t0_op_IsSecond_L0_0 a0 p0 q0 n0 k0 A0 y1 s0_0 ls), pre_op_IsSecond_L0_0 a0 p0 q0 n0 k0 A0 y1 s0_0, 1, (.exit 0), fun ls => vf_op_IsSecond_L0 a0 p0 q0 n0 k0 A0 y1 (.e0 c0_0) (ls.take 0 ++ ls.drop 0), fun ls => (Hf_op_IsSecond_L0 a0 p0 q0 n0 k0 A0 y1 (.e0 c0_0) (ls.take 0 ++ ls.drop 0)).take 0 ++ List.replicate 0 unb, fun ls => (Hf_op_IsSecond_L0 a0 p0 q0 n0 k0 A0 y1 (.e0 c0_0) (ls.take 0 ++ ls.drop 0)).drop 0⟩ :=
  spc_of_goesG hU 0 (k0 := 0) (go_op_IsSecond_L0 hU a0 p0 q0 n0 k0 A0 hR0 y1 _ _ h) (t0_op_IsSecond_L0_0 a0 p0 q0 n0 k0 A0 y1 s0_0) (pre_op_IsSecond_L0_0 a0 p0 q0 n0 k0 A0 y1 s0_0) (fun _ => rfl) (fun ls h => by match ls, h with | [], _ => rfl) (fun ls h => by match ls, h with | [], _ => rfl) (by decide) (by decide) (fun ls => rfl)
noncomputable def m_op_IsSecond (n0 : Nat) (A0 : Nat → Insn) (y1 : Int) : Option (Bool) :=
  (lpO (st_op_IsSecond_L0 n0 A0) (.c0 y1)).bind fun g0 => match g0 with
  | .e0 g0_0 =>
  some ((zrem (IntKind.i64.wrap (y1 - g0_0)) 2) == 1)
theorem p0_op_IsSecond (g0_0 : Int) (e_g0 : lpO (st_op_IsSecond_L0 n0 A0) (.c0 y1) = some (.e0 g0_0)) : ConG Try.prog S 40 #[.slice a0 n0 (n0 + k0), .int .i64 (y1)] (.bool (((zrem (IntKind.i64.wrap (y1 - g0_0)) 2) == 1))) :=
  fn_conG hU (P := Try.prog) Try.func40 (fun xs w => by kernel_rfl) [.slice a0 n0 (n0 + k0), .int .i64 (y1)] (.bool (((zrem (IntKind.i64.wrap (y1 - g0_0)) 2) == 1)))
    [.o, .o, .o, .cp, .cx (sp0_op_IsSecond_L0_0_ok hU a0 p0 q0 n0 k0 A0 hR0 y1 y1 g0_0 e_g0) [], .o, .o, .o, .ov (z_rem Try.prog 3 (.tmp 22) (.const (.int .i64 (2))) (IntKind.i64.wrap (y1 - g0_0)) 2 (by decide)), .o, .o]
    [] (fun b => by kernel_rfl)
theorem ok_op_IsSecond (r : Bool) (e : m_op_IsSecond n0 A0 y1 = some r) : ConG Try.prog S 40 #[.slice a0 n0 (n0 + k0), .int .i64 (y1)] (.bool (r)) := by
  unfold m_op_IsSecond at e
  replace e := bindO_eq e
  obtain ⟨g0, e_g0, e⟩ := e
  obtain ⟨g0_0⟩ := g0
  try dsimp only at e
  injection e with e; subst e; exact p0_op_IsSecond hU a0 p0 q0 n0 k0 A0 hR0 y1 g0_0 e_g0
noncomputable def m_op_RightSecond (n0 : Nat) (A0 : Nat → Insn) (y1 : Int) : Option (Bool) :=
  bif decide ((n0 : Int) ≤ (IntKind.i64.wrap (y1 + 1))) then
    (some false)
  else (bif inR y1 n0 then
    (bif ((A0 (y1).toNat)).fSrc == 0#8 then
      (bif inR (IntKind.i64.wrap (y1 + 1)) n0 then
        (some ((((A0 ((IntKind.i64.wrap (y1 + 1))).toNat)).fOp == 0#8) && ((((A0 ((IntKind.i64.wrap (y1 + 1))).toNat)).fDst == 0#8) && ((((A0 ((IntKind.i64.wrap (y1 + 1))).toNat)).fSrc == 0#8) && ((((A0 ((IntKind.i64.wrap (y1 + 1))).toNat)).fOff == 0#16) && (((A0 ((IntKind.i64.wrap (y1 + 1))).toNat)).fImm == ((A0 ((IntKind.i64.wrap (y1 + 1))).toNat)).fImm))))))
      else (none))
    else (bif inR (IntKind.i64.wrap (y1 + 1)) n0 then
      (some ((((A0 ((IntKind.i64.wrap (y1 + 1))).toNat)).fOp == 0#8) && ((((A0 ((IntKind.i64.wrap (y1 + 1))).toNat)).fDst == 0#8) && ((((A0 ((IntKind.i64.wrap (y1 + 1))).toNat)).fSrc == 0#8) && ((((A0 ((IntKind.i64.wrap (y1 + 1))).toNat)).fOff == 0#16) && (((A0 ((IntKind.i64.wrap (y1 + 1))).toNat)).fImm == 0#32))))))
    else (none)))
  else (none))
theorem p0_op_RightSecond (h0 : (decide ((n0 : Int) ≤ (IntKind.i64.wrap (y1 + 1)))) = true) : ConG Try.prog S 46 #[.slice a0 n0 (n0 + k0), .int .i64 (y1)] (.bool false) :=
  fn_conG hU (P := Try.prog) Try.func46 (fun xs w => by kernel_rfl) [.slice a0 n0 (n0 + k0), .int .i64 (y1)] (.bool false)
    [.o, .o, .o, .o, .o, .b (z_geqT h0), .o]
    [] (fun b => by kernel_rfl)
theorem p1_op_RightSecond (h0 : (decide ((n0 : Int) ≤ (IntKind.i64.wrap (y1 + 1)))) = false) (h1 : (inR y1 n0) = true) (h2 : (((A0 (y1).toNat)).fSrc == 0#8) = true) (h3 : (inR (IntKind.i64.wrap (y1 + 1)) n0) = true) : ConG Try.prog S 46 #[.slice a0 n0 (n0 + k0), .int .i64 (y1)] (.bool (((((A0 ((IntKind.i64.wrap (y1 + 1))).toNat)).fOp == 0#8) && ((((A0 ((IntKind.i64.wrap (y1 + 1))).toNat)).fDst == 0#8) && ((((A0 ((IntKind.i64.wrap (y1 + 1))).toNat)).fSrc == 0#8) && ((((A0 ((IntKind.i64.wrap (y1 + 1))).toNat)).fOff == 0#16) && (((A0 ((IntKind.i64.wrap (y1 + 1))).toNat)).fImm == ((A0 ((IntKind.i64.wrap (y1 + 1))).toNat)).fImm))))))) :=
  fn_conG hU (P := Try.prog) Try.func46 (fun xs w => by kernel_rfl) [.slice a0 n0 (n0 + k0), .int .i64 (y1)] (.bool (((((A0 ((IntKind.i64.wrap (y1 + 1))).toNat)).fOp == 0#8) && ((((A0 ((IntKind.i64.wrap (y1 + 1))).toNat)).fDst == 0#8) && ((((A0 ((IntKind.i64.wrap (y1 + 1))).toNat)).fSrc == 0#8) && ((((A0 ((IntKind.i64.wrap (y1 + 1))).toNat)).fOff == 0#16) && (((A0 ((IntKind.i64.wrap (y1 + 1))).toNat)).fImm == ((A0 ((IntKind.i64.wrap (y1 + 1))).toNat)).fImm)))))))
    [.o, .o, .o, .o, .o, .b (z_geqF h0), .o, .o, .a 0, .o, .o, .q (ixRo_ok (kd := .i64) (T := 22) (x := y1) (sz := 5) rfl (fun w => by kernel_rfl) hR0 h1), .o, .l (accRo hR0 c_Insn_len (inR_nat h1) 2 [.int .u8 (nn ((A0 (y1).toNat)).fSrc)] rfl), .t (u_eq ((A0 (y1).toNat)).fSrc (0#8)) h2, .o, .o, .o, .q (ixRo_ok (kd := .i64) (T := 22) (x := (IntKind.i64.wrap (y1 + 1))) (sz := 5) rfl (fun w => by kernel_rfl) hR0 h3), .o, .l (accRo hR0 c_Insn_len (inR_nat h3) 4 [.int .i32 (ii ((A0 ((IntKind.i64.wrap (y1 + 1))).toNat)).fImm)] rfl), .o, .a 0, .r [0, 1, 2, 3, 4, 5, 6, 7] [] [], .o, .o, .o, .q (ixRo_ok (kd := .i64) (T := 22) (x := (IntKind.i64.wrap (y1 + 1))) (sz := 5) rfl (fun w => by kernel_rfl) hR0 h3), .l (accRo hR0 c_Insn_len (inR_nat h3) 0 [.int .u8 (nn ((A0 ((IntKind.i64.wrap (y1 + 1))).toNat)).fOp), .int .u8 (nn ((A0 ((IntKind.i64.wrap (y1 + 1))).toNat)).fDst), .int .u8 (nn ((A0 ((IntKind.i64.wrap (y1 + 1))).toNat)).fSrc), .int .i16 (ii ((A0 ((IntKind.i64.wrap (y1 + 1))).toNat)).fOff), .int .i32 (ii ((A0 ((IntKind.i64.wrap (y1 + 1))).toNat)).fImm)] rfl), .a 0, .ov (fun w => (run_aggeq 35 #[.int .u8 (nn ((A0 ((IntKind.i64.wrap (y1 + 1))).toNat)).fOp), .int .u8 (nn ((A0 ((IntKind.i64.wrap (y1 + 1))).toNat)).fDst), .int .u8 (nn ((A0 ((IntKind.i64.wrap (y1 + 1))).toNat)).fSrc), .int .i16 (ii ((A0 ((IntKind.i64.wrap (y1 + 1))).toNat)).fOff), .int .i32 (ii ((A0 ((IntKind.i64.wrap (y1 + 1))).toNat)).fImm)] #[.int .u8 (0), .int .u8 (0), .int .u8 (0), .int .i16 (0), .int .i32 (ii ((A0 ((IntKind.i64.wrap (y1 + 1))).toNat)).fImm)] _ (by kernel_rfl) (fun w => eqi35 9998 ((A0 ((IntKind.i64.wrap (y1 + 1))).toNat)).fOp (0#8) ((A0 ((IntKind.i64.wrap (y1 + 1))).toNat)).fDst (0#8) ((A0 ((IntKind.i64.wrap (y1 + 1))).toNat)).fSrc (0#8) ((A0 ((IntKind.i64.wrap (y1 + 1))).toNat)).fOff (0#16) ((A0 ((IntKind.i64.wrap (y1 + 1))).toNat)).fImm ((A0 ((IntKind.i64.wrap (y1 + 1))).toNat)).fImm w) (.tmp 29) (.tmp 30) w).1), .o]
    [] (fun b => by kernel_rfl)
theorem p3_op_RightSecond (h0 : (decide ((n0 : Int) ≤ (IntKind.i64.wrap (y1 + 1)))) = false) (h1 : (inR y1 n0) = true) (h2 : (((A0 (y1).toNat)).fSrc == 0#8) = false) (h3 : (inR (IntKind.i64.wrap (y1 + 1)) n0) = true) : ConG Try.prog S 46 #[.slice a0 n0 (n0 + k0), .int .i64 (y1)] (.bool (((((A0 ((IntKind.i64.wrap (y1 + 1))).toNat)).fOp == 0#8) && ((((A0 ((IntKind.i64.wrap (y1 + 1))).toNat)).fDst == 0#8) && ((((A0 ((IntKind.i64.wrap (y1 + 1))).toNat)).fSrc == 0#8) && ((((A0 ((IntKind.i64.wrap (y1 + 1))).toNat)).fOff == 0#16) && (((A0 ((IntKind.i64.wrap (y1 + 1))).toNat)).fImm == 0#32))))))) :=
  fn_conG hU (P := Try.prog) Try.func46 (fun xs w => by kernel_rfl) [.slice a0 n0 (n0 + k0), .int .i64 (y1)] (.bool (((((A0 ((IntKind.i64.wrap (y1 + 1))).toNat)).fOp == 0#8) && ((((A0 ((IntKind.i64.wrap (y1 + 1))).toNat)).fDst == 0#8) && ((((A0 ((IntKind.i64.wrap (y1 + 1))).toNat)).fSrc == 0#8) && ((((A0 ((IntKind.i64.wrap (y1 + 1))).toNat)).fOff == 0#16) && (((A0 ((IntKind.i64.wrap (y1 + 1))).toNat)).fImm == 0#32)))))))
    [.o, .o, .o, .o, .o, .b (z_geqF h0), .o, .o, .a 0, .o, .o, .q (ixRo_ok (kd := .i64) (T := 22) (x := y1) (sz := 5) rfl (fun w => by kernel_rfl) hR0 h1), .o, .l (accRo hR0 c_Insn_len (inR_nat h1) 2 [.int .u8 (nn ((A0 (y1).toNat)).fSrc)] rfl), .t (u_eq ((A0 (y1).toNat)).fSrc (0#8)) h2, .r [0, 1, 2, 3, 4, 5, 6, 7] [] [], .o, .o, .o, .q (ixRo_ok (kd := .i64) (T := 22) (x := (IntKind.i64.wrap (y1 + 1))) (sz := 5) rfl (fun w => by kernel_rfl) hR0 h3), .l (accRo hR0 c_Insn_len (inR_nat h3) 0 [.int .u8 (nn ((A0 ((IntKind.i64.wrap (y1 + 1))).toNat)).fOp), .int .u8 (nn ((A0 ((IntKind.i64.wrap (y1 + 1))).toNat)).fDst), .int .u8 (nn ((A0 ((IntKind.i64.wrap (y1 + 1))).toNat)).fSrc), .int .i16 (ii ((A0 ((IntKind.i64.wrap (y1 + 1))).toNat)).fOff), .int .i32 (ii ((A0 ((IntKind.i64.wrap (y1 + 1))).toNat)).fImm)] rfl), .a 0, .ov (fun w => (run_aggeq 35 #[.int .u8 (nn ((A0 ((IntKind.i64.wrap (y1 + 1))).toNat)).fOp), .int .u8 (nn ((A0 ((IntKind.i64.wrap (y1 + 1))).toNat)).fDst), .int .u8 (nn ((A0 ((IntKind.i64.wrap (y1 + 1))).toNat)).fSrc), .int .i16 (ii ((A0 ((IntKind.i64.wrap (y1 + 1))).toNat)).fOff), .int .i32 (ii ((A0 ((IntKind.i64.wrap (y1 + 1))).toNat)).fImm)] #[.int .u8 (0), .int .u8 (0), .int .u8 (0), .int .i16 (0), .int .i32 (0)] _ (by kernel_rfl) (fun w => eqi35 9998 ((A0 ((IntKind.i64.wrap (y1 + 1))).toNat)).fOp (0#8) ((A0 ((IntKind.i64.wrap (y1 + 1))).toNat)).fDst (0#8) ((A0 ((IntKind.i64.wrap (y1 + 1))).toNat)).fSrc (0#8) ((A0 ((IntKind.i64.wrap (y1 + 1))).toNat)).fOff (0#16) ((A0 ((IntKind.i64.wrap (y1 + 1))).toNat)).fImm (0#32) w) (.tmp 29) (.tmp 30) w).1), .o]
    [] (fun b => by kernel_rfl)
theorem ok_op_RightSecond (r : Bool) (e : m_op_RightSecond n0 A0 y1 = some r) : ConG Try.prog S 46 #[.slice a0 n0 (n0 + k0), .int .i64 (y1)] (.bool (r)) := by
  unfold m_op_RightSecond at e
  replace e := cond_eq_or e
  rcases e with ⟨hq0, e⟩ | ⟨hq0, e⟩
  · injection e with e; subst e; exact p0_op_RightSecond hU a0 p0 q0 n0 k0 A0 hR0 y1 hq0
  · replace e := cond_eq_or e
    rcases e with ⟨hq1, e⟩ | ⟨hq1, e⟩
    · replace e := cond_eq_or e
      rcases e with ⟨hq2, e⟩ | ⟨hq2, e⟩
      · replace e := cond_eq_or e
        rcases e with ⟨hq3, e⟩ | ⟨hq3, e⟩
        · injection e with e; subst e; exact p1_op_RightSecond hU a0 p0 q0 n0 k0 A0 hR0 y1 hq0 hq1 hq2 hq3
        · exact none_some e
      · replace e := cond_eq_or e
        rcases e with ⟨hq3, e⟩ | ⟨hq3, e⟩
        · injection e with e; subst e; exact p3_op_RightSecond hU a0 p0 q0 n0 k0 A0 hR0 y1 hq0 hq1 hq2 hq3
        · exact none_some e
    · exact none_some e
noncomputable def m_insn_callable (n0 : Nat) (A0 : Nat → Insn) (y1 : Int) : Option (Bool) :=
  bif decide (0 < y1) then
    (bif decide (y1 < (n0 : Int)) then
      ((m_op_IsSecond n0 A0 y1).bind fun r0 =>
      bif r0 then
        (some false)
      else (some true))
    else (some false))
  else (some false)
theorem p0_insn_callable (h0 : (decide (0 < y1)) = true) (h1 : (decide (y1 < (n0 : Int))) = true) (e_r0 : m_op_IsSecond n0 A0 y1 = some true) : ConG Try.prog S 47 #[.slice a0 n0 (n0 + k0), .int .i64 (y1)] (.bool false) :=
  fn_conG hU (P := Try.prog) Try.func47 (fun xs w => by kernel_rfl) [.slice a0 n0 (n0 + k0), .int .i64 (y1)] (.bool false)
    [.o, .o, .b (z_gtrT h0), .o, .o, .o, .o, .b (z_lssT h1), .o, .o, .o, .o, .cg (ok_op_IsSecond hU a0 p0 q0 n0 k0 A0 hR0 y1 true e_r0), .o, .o, .o]
    [] (fun b => by kernel_rfl)
theorem p1_insn_callable (h0 : (decide (0 < y1)) = true) (h1 : (decide (y1 < (n0 : Int))) = true) (e_r0 : m_op_IsSecond n0 A0 y1 = some false) : ConG Try.prog S 47 #[.slice a0 n0 (n0 + k0), .int .i64 (y1)] (.bool true) :=
  fn_conG hU (P := Try.prog) Try.func47 (fun xs w => by kernel_rfl) [.slice a0 n0 (n0 + k0), .int .i64 (y1)] (.bool true)
    [.o, .o, .b (z_gtrT h0), .o, .o, .o, .o, .b (z_lssT h1), .o, .o, .o, .o, .cg (ok_op_IsSecond hU a0 p0 q0 n0 k0 A0 hR0 y1 false e_r0), .o, .o, .o]
    [] (fun b => by kernel_rfl)
theorem p2_insn_callable (h0 : (decide (0 < y1)) = true) (h1 : (decide (y1 < (n0 : Int))) = false) : ConG Try.prog S 47 #[.slice a0 n0 (n0 + k0), .int .i64 (y1)] (.bool false) :=
  fn_conG hU (P := Try.prog) Try.func47 (fun xs w => by kernel_rfl) [.slice a0 n0 (n0 + k0), .int .i64 (y1)] (.bool false)
    [.o, .o, .b (z_gtrT h0), .o, .o, .o, .o, .b (z_lssF h1), .o, .o, .o, .o]
    [] (fun b => by kernel_rfl)
theorem p3_insn_callable (h0 : (decide (0 < y1)) = false) : ConG Try.prog S 47 #[.slice a0 n0 (n0 + k0), .int .i64 (y1)] (.bool false) :=
  fn_conG hU (P := Try.prog) Try.func47 (fun xs w => by kernel_rfl) [.slice a0 n0 (n0 + k0), .int .i64 (y1)] (.bool false)
    [.o, .o, .b (z_gtrF h0), .o, .o, .o, .o, .o]
    [] (fun b => by kernel_rfl)
theorem ok_insn_callable (r : Bool) (e : m_insn_callable n0 A0 y1 = some r) : ConG Try.prog S 47 #[.slice a0 n0 (n0 + k0), .int .i64 (y1)] (.bool (r)) := by
  unfold m_insn_callable at e
  replace e := cond_eq_or e
  rcases e with ⟨hq0, e⟩ | ⟨hq0, e⟩
  · replace e := cond_eq_or e
    rcases e with ⟨hq1, e⟩ | ⟨hq1, e⟩
    · replace e := bindO_eq e
      obtain ⟨r0, e_r0, e⟩ := e
      try dsimp only at e
      replace e := cond_eq_or e
      rcases e with ⟨hq2, e⟩ | ⟨hq2, e⟩
      · subst hq2
        injection e with e; subst e; exact p0_insn_callable hU a0 p0 q0 n0 k0 A0 hR0 y1 hq0 hq1 e_r0
      · subst hq2
        injection e with e; subst e; exact p1_insn_callable hU a0 p0 q0 n0 k0 A0 hR0 y1 hq0 hq1 e_r0
    · injection e with e; subst e; exact p2_insn_callable hU a0 p0 q0 n0 k0 A0 hR0 y1 hq0 hq1
  · injection e with e; subst e; exact p3_insn_callable hU a0 p0 q0 n0 k0 A0 hR0 y1 hq0
noncomputable def m_insn_checkSlot (n0 : Nat) (A0 : Nat → Insn) (y1 : Int) : Option (Int) :=
  bif inR y1 n0 then
    (bif m_insn_known ((A0 (y1).toNat)) then
      (bif BitVec.ult (10#8) ((A0 (y1).toNat)).fDst then
        (some 12)
      else (bif BitVec.ult (10#8) ((A0 (y1).toNat)).fSrc then
        (some 12)
      else (bif ((A0 (y1).toNat)).fDst == 10#8 then
        (bif m_insn_writes ((A0 (y1).toNat)) then
          (some 12)
        else (bif ((A0 (y1).toNat)).fOp == 24#8 then
          ((m_op_RightSecond n0 A0 y1).bind fun r0 =>
          bif r0 then
            (bif ((A0 (y1).toNat)).fOp == 133#8 then
              (bif ((A0 (y1).toNat)).fSrc == 0#8 then
                (bif BitVec.slt ((A0 (y1).toNat)).fImm (1#32) then
                  (some 14)
                else (bif BitVec.slt (28#32) ((A0 (y1).toNat)).fImm then
                  (some 14)
                else (bif m_insn_names ((A0 (y1).toNat)) then
                  ((m_insn_callable n0 A0 (IntKind.i64.wrap ((IntKind.i64.wrap (y1 + 1)) + (ii ((A0 (y1).toNat)).fImm)))).bind fun r1 =>
                  bif r1 then
                    (some 0)
                  else (some 14))
                else (some 0))))
              else (bif m_insn_names ((A0 (y1).toNat)) then
                ((m_insn_callable n0 A0 (IntKind.i64.wrap ((IntKind.i64.wrap (y1 + 1)) + (ii ((A0 (y1).toNat)).fImm)))).bind fun r1 =>
                bif r1 then
                  (some 0)
                else (some 14))
              else (some 0)))
            else (bif m_insn_names ((A0 (y1).toNat)) then
              ((m_insn_callable n0 A0 (IntKind.i64.wrap ((IntKind.i64.wrap (y1 + 1)) + (ii ((A0 (y1).toNat)).fImm)))).bind fun r1 =>
              bif r1 then
                (some 0)
              else (some 14))
            else (some 0)))
          else (some 13))
        else (bif ((A0 (y1).toNat)).fOp == 133#8 then
          (bif ((A0 (y1).toNat)).fSrc == 0#8 then
            (bif BitVec.slt ((A0 (y1).toNat)).fImm (1#32) then
              (some 14)
            else (bif BitVec.slt (28#32) ((A0 (y1).toNat)).fImm then
              (some 14)
            else (bif m_insn_names ((A0 (y1).toNat)) then
              ((m_insn_callable n0 A0 (IntKind.i64.wrap ((IntKind.i64.wrap (y1 + 1)) + (ii ((A0 (y1).toNat)).fImm)))).bind fun r0 =>
              bif r0 then
                (some 0)
              else (some 14))
            else (some 0))))
          else (bif m_insn_names ((A0 (y1).toNat)) then
            ((m_insn_callable n0 A0 (IntKind.i64.wrap ((IntKind.i64.wrap (y1 + 1)) + (ii ((A0 (y1).toNat)).fImm)))).bind fun r0 =>
            bif r0 then
              (some 0)
            else (some 14))
          else (some 0)))
        else (bif m_insn_names ((A0 (y1).toNat)) then
          ((m_insn_callable n0 A0 (IntKind.i64.wrap ((IntKind.i64.wrap (y1 + 1)) + (ii ((A0 (y1).toNat)).fImm)))).bind fun r0 =>
          bif r0 then
            (some 0)
          else (some 14))
        else (some 0)))))
      else (bif ((A0 (y1).toNat)).fOp == 24#8 then
        ((m_op_RightSecond n0 A0 y1).bind fun r0 =>
        bif r0 then
          (bif ((A0 (y1).toNat)).fOp == 133#8 then
            (bif ((A0 (y1).toNat)).fSrc == 0#8 then
              (bif BitVec.slt ((A0 (y1).toNat)).fImm (1#32) then
                (some 14)
              else (bif BitVec.slt (28#32) ((A0 (y1).toNat)).fImm then
                (some 14)
              else (bif m_insn_names ((A0 (y1).toNat)) then
                ((m_insn_callable n0 A0 (IntKind.i64.wrap ((IntKind.i64.wrap (y1 + 1)) + (ii ((A0 (y1).toNat)).fImm)))).bind fun r1 =>
                bif r1 then
                  (some 0)
                else (some 14))
              else (some 0))))
            else (bif m_insn_names ((A0 (y1).toNat)) then
              ((m_insn_callable n0 A0 (IntKind.i64.wrap ((IntKind.i64.wrap (y1 + 1)) + (ii ((A0 (y1).toNat)).fImm)))).bind fun r1 =>
              bif r1 then
                (some 0)
              else (some 14))
            else (some 0)))
          else (bif m_insn_names ((A0 (y1).toNat)) then
            ((m_insn_callable n0 A0 (IntKind.i64.wrap ((IntKind.i64.wrap (y1 + 1)) + (ii ((A0 (y1).toNat)).fImm)))).bind fun r1 =>
            bif r1 then
              (some 0)
            else (some 14))
          else (some 0)))
        else (some 13))
      else (bif ((A0 (y1).toNat)).fOp == 133#8 then
        (bif ((A0 (y1).toNat)).fSrc == 0#8 then
          (bif BitVec.slt ((A0 (y1).toNat)).fImm (1#32) then
            (some 14)
          else (bif BitVec.slt (28#32) ((A0 (y1).toNat)).fImm then
            (some 14)
          else (bif m_insn_names ((A0 (y1).toNat)) then
            ((m_insn_callable n0 A0 (IntKind.i64.wrap ((IntKind.i64.wrap (y1 + 1)) + (ii ((A0 (y1).toNat)).fImm)))).bind fun r0 =>
            bif r0 then
              (some 0)
            else (some 14))
          else (some 0))))
        else (bif m_insn_names ((A0 (y1).toNat)) then
          ((m_insn_callable n0 A0 (IntKind.i64.wrap ((IntKind.i64.wrap (y1 + 1)) + (ii ((A0 (y1).toNat)).fImm)))).bind fun r0 =>
          bif r0 then
            (some 0)
          else (some 14))
        else (some 0)))
      else (bif m_insn_names ((A0 (y1).toNat)) then
        ((m_insn_callable n0 A0 (IntKind.i64.wrap ((IntKind.i64.wrap (y1 + 1)) + (ii ((A0 (y1).toNat)).fImm)))).bind fun r0 =>
        bif r0 then
          (some 0)
        else (some 14))
      else (some 0)))))))
    else (some 11))
  else (none)
theorem p0_insn_checkSlot (h0 : (inR y1 n0) = true) (h1 : (m_insn_known ((A0 (y1).toNat))) = true) (h2 : (BitVec.ult (10#8) ((A0 (y1).toNat)).fDst) = true) : ConG Try.prog S 32 #[.slice a0 n0 (n0 + k0), .int .i64 (y1)] (.int .i64 (12)) :=
  fn_conG hU (P := Try.prog) Try.func32 (fun xs w => by kernel_rfl) [.slice a0 n0 (n0 + k0), .int .i64 (y1)] (.int .i64 (12))
    [.o, .o, .o, .q (ixRo_ok (kd := .i64) (T := 22) (x := y1) (sz := 5) rfl (fun w => by kernel_rfl) hR0 h0), .l (accRo hR0 c_Insn_len (inR_nat h0) 0 [.int .u8 (nn ((A0 (y1).toNat)).fOp), .int .u8 (nn ((A0 (y1).toNat)).fDst), .int .u8 (nn ((A0 (y1).toNat)).fSrc), .int .i16 (ii ((A0 (y1).toNat)).fOff), .int .i32 (ii ((A0 (y1).toNat)).fImm)] rfl), .o, .a 0, .a 0, .cg (ok_insn_known hU ((A0 (y1).toNat)) true h1), .o, .o, .o, .a 0, .t (u_gt ((A0 (y1).toNat)).fDst (10#8)) h2, .o, .o, .o, .o, .o, .o]
    [] (fun b => by kernel_rfl)
theorem p1_insn_checkSlot (h0 : (inR y1 n0) = true) (h1 : (m_insn_known ((A0 (y1).toNat))) = true) (h2 : (BitVec.ult (10#8) ((A0 (y1).toNat)).fDst) = false) (h3 : (BitVec.ult (10#8) ((A0 (y1).toNat)).fSrc) = true) : ConG Try.prog S 32 #[.slice a0 n0 (n0 + k0), .int .i64 (y1)] (.int .i64 (12)) :=
  fn_conG hU (P := Try.prog) Try.func32 (fun xs w => by kernel_rfl) [.slice a0 n0 (n0 + k0), .int .i64 (y1)] (.int .i64 (12))
    [.o, .o, .o, .q (ixRo_ok (kd := .i64) (T := 22) (x := y1) (sz := 5) rfl (fun w => by kernel_rfl) hR0 h0), .l (accRo hR0 c_Insn_len (inR_nat h0) 0 [.int .u8 (nn ((A0 (y1).toNat)).fOp), .int .u8 (nn ((A0 (y1).toNat)).fDst), .int .u8 (nn ((A0 (y1).toNat)).fSrc), .int .i16 (ii ((A0 (y1).toNat)).fOff), .int .i32 (ii ((A0 (y1).toNat)).fImm)] rfl), .o, .a 0, .a 0, .cg (ok_insn_known hU ((A0 (y1).toNat)) true h1), .o, .o, .o, .a 0, .t (u_gt ((A0 (y1).toNat)).fDst (10#8)) h2, .o, .o, .a 0, .t (u_gt ((A0 (y1).toNat)).fSrc (10#8)) h3, .o, .o, .o, .o, .o]
    [] (fun b => by kernel_rfl)
theorem p2_insn_checkSlot (h0 : (inR y1 n0) = true) (h1 : (m_insn_known ((A0 (y1).toNat))) = true) (h2 : (BitVec.ult (10#8) ((A0 (y1).toNat)).fDst) = false) (h3 : (BitVec.ult (10#8) ((A0 (y1).toNat)).fSrc) = false) (h4 : (((A0 (y1).toNat)).fDst == 10#8) = true) (h5 : (m_insn_writes ((A0 (y1).toNat))) = true) : ConG Try.prog S 32 #[.slice a0 n0 (n0 + k0), .int .i64 (y1)] (.int .i64 (12)) :=
  fn_conG hU (P := Try.prog) Try.func32 (fun xs w => by kernel_rfl) [.slice a0 n0 (n0 + k0), .int .i64 (y1)] (.int .i64 (12))
    [.o, .o, .o, .q (ixRo_ok (kd := .i64) (T := 22) (x := y1) (sz := 5) rfl (fun w => by kernel_rfl) hR0 h0), .l (accRo hR0 c_Insn_len (inR_nat h0) 0 [.int .u8 (nn ((A0 (y1).toNat)).fOp), .int .u8 (nn ((A0 (y1).toNat)).fDst), .int .u8 (nn ((A0 (y1).toNat)).fSrc), .int .i16 (ii ((A0 (y1).toNat)).fOff), .int .i32 (ii ((A0 (y1).toNat)).fImm)] rfl), .o, .a 0, .a 0, .cg (ok_insn_known hU ((A0 (y1).toNat)) true h1), .o, .o, .o, .a 0, .t (u_gt ((A0 (y1).toNat)).fDst (10#8)) h2, .o, .o, .a 0, .t (u_gt ((A0 (y1).toNat)).fSrc (10#8)) h3, .o, .o, .o, .a 0, .t (u_eq ((A0 (y1).toNat)).fDst (10#8)) h4, .o, .a 0, .cg (ok_insn_writes hU ((A0 (y1).toNat)) true h5), .o, .o, .o, .o]
    [] (fun b => by kernel_rfl)
theorem p3_insn_checkSlot (h0 : (inR y1 n0) = true) (h1 : (m_insn_known ((A0 (y1).toNat))) = true) (h2 : (BitVec.ult (10#8) ((A0 (y1).toNat)).fDst) = false) (h3 : (BitVec.ult (10#8) ((A0 (y1).toNat)).fSrc) = false) (h4 : (((A0 (y1).toNat)).fDst == 10#8) = true) (h5 : (m_insn_writes ((A0 (y1).toNat))) = false) (h6 : (((A0 (y1).toNat)).fOp == 24#8) = true) (e_r0 : m_op_RightSecond n0 A0 y1 = some true) (h7 : (((A0 (y1).toNat)).fOp == 133#8) = true) (h8 : (((A0 (y1).toNat)).fSrc == 0#8) = true) (h9 : (BitVec.slt ((A0 (y1).toNat)).fImm (1#32)) = true) : ConG Try.prog S 32 #[.slice a0 n0 (n0 + k0), .int .i64 (y1)] (.int .i64 (14)) :=
  fn_conG hU (P := Try.prog) Try.func32 (fun xs w => by kernel_rfl) [.slice a0 n0 (n0 + k0), .int .i64 (y1)] (.int .i64 (14))
    [.o, .o, .o, .q (ixRo_ok (kd := .i64) (T := 22) (x := y1) (sz := 5) rfl (fun w => by kernel_rfl) hR0 h0), .l (accRo hR0 c_Insn_len (inR_nat h0) 0 [.int .u8 (nn ((A0 (y1).toNat)).fOp), .int .u8 (nn ((A0 (y1).toNat)).fDst), .int .u8 (nn ((A0 (y1).toNat)).fSrc), .int .i16 (ii ((A0 (y1).toNat)).fOff), .int .i32 (ii ((A0 (y1).toNat)).fImm)] rfl), .o, .a 0, .a 0, .cg (ok_insn_known hU ((A0 (y1).toNat)) true h1), .o, .o, .o, .a 0, .t (u_gt ((A0 (y1).toNat)).fDst (10#8)) h2, .o, .o, .a 0, .t (u_gt ((A0 (y1).toNat)).fSrc (10#8)) h3, .o, .o, .o, .a 0, .t (u_eq ((A0 (y1).toNat)).fDst (10#8)) h4, .o, .a 0, .cg (ok_insn_writes hU ((A0 (y1).toNat)) false h5), .o, .o, .o, .o, .a 0, .t (u_eq ((A0 (y1).toNat)).fOp (24#8)) h6, .o, .o, .o, .cg (ok_op_RightSecond hU a0 p0 q0 n0 k0 A0 hR0 y1 true e_r0), .o, .o, .o, .o, .a 0, .t (u_eq ((A0 (y1).toNat)).fOp (133#8)) h7, .o, .o, .a 0, .t (u_eq ((A0 (y1).toNat)).fSrc (0#8)) h8, .o, .o, .o, .a 0, .t (i_lt ((A0 (y1).toNat)).fImm (1#32)) h9, .o, .o, .o, .o, .o]
    [] (fun b => by kernel_rfl)
theorem p4_insn_checkSlot (h0 : (inR y1 n0) = true) (h1 : (m_insn_known ((A0 (y1).toNat))) = true) (h2 : (BitVec.ult (10#8) ((A0 (y1).toNat)).fDst) = false) (h3 : (BitVec.ult (10#8) ((A0 (y1).toNat)).fSrc) = false) (h4 : (((A0 (y1).toNat)).fDst == 10#8) = true) (h5 : (m_insn_writes ((A0 (y1).toNat))) = false) (h6 : (((A0 (y1).toNat)).fOp == 24#8) = true) (e_r0 : m_op_RightSecond n0 A0 y1 = some true) (h7 : (((A0 (y1).toNat)).fOp == 133#8) = true) (h8 : (((A0 (y1).toNat)).fSrc == 0#8) = true) (h9 : (BitVec.slt ((A0 (y1).toNat)).fImm (1#32)) = false) (h10 : (BitVec.slt (28#32) ((A0 (y1).toNat)).fImm) = true) : ConG Try.prog S 32 #[.slice a0 n0 (n0 + k0), .int .i64 (y1)] (.int .i64 (14)) :=
  fn_conG hU (P := Try.prog) Try.func32 (fun xs w => by kernel_rfl) [.slice a0 n0 (n0 + k0), .int .i64 (y1)] (.int .i64 (14))
    [.o, .o, .o, .q (ixRo_ok (kd := .i64) (T := 22) (x := y1) (sz := 5) rfl (fun w => by kernel_rfl) hR0 h0), .l (accRo hR0 c_Insn_len (inR_nat h0) 0 [.int .u8 (nn ((A0 (y1).toNat)).fOp), .int .u8 (nn ((A0 (y1).toNat)).fDst), .int .u8 (nn ((A0 (y1).toNat)).fSrc), .int .i16 (ii ((A0 (y1).toNat)).fOff), .int .i32 (ii ((A0 (y1).toNat)).fImm)] rfl), .o, .a 0, .a 0, .cg (ok_insn_known hU ((A0 (y1).toNat)) true h1), .o, .o, .o, .a 0, .t (u_gt ((A0 (y1).toNat)).fDst (10#8)) h2, .o, .o, .a 0, .t (u_gt ((A0 (y1).toNat)).fSrc (10#8)) h3, .o, .o, .o, .a 0, .t (u_eq ((A0 (y1).toNat)).fDst (10#8)) h4, .o, .a 0, .cg (ok_insn_writes hU ((A0 (y1).toNat)) false h5), .o, .o, .o, .o, .a 0, .t (u_eq ((A0 (y1).toNat)).fOp (24#8)) h6, .o, .o, .o, .cg (ok_op_RightSecond hU a0 p0 q0 n0 k0 A0 hR0 y1 true e_r0), .o, .o, .o, .o, .a 0, .t (u_eq ((A0 (y1).toNat)).fOp (133#8)) h7, .o, .o, .a 0, .t (u_eq ((A0 (y1).toNat)).fSrc (0#8)) h8, .o, .o, .o, .a 0, .t (i_lt ((A0 (y1).toNat)).fImm (1#32)) h9, .o, .o, .a 0, .t (i_gt ((A0 (y1).toNat)).fImm (28#32)) h10, .o, .o, .o, .o]
    [] (fun b => by kernel_rfl)
theorem p5_insn_checkSlot (h0 : (inR y1 n0) = true) (h1 : (m_insn_known ((A0 (y1).toNat))) = true) (h2 : (BitVec.ult (10#8) ((A0 (y1).toNat)).fDst) = false) (h3 : (BitVec.ult (10#8) ((A0 (y1).toNat)).fSrc) = false) (h4 : (((A0 (y1).toNat)).fDst == 10#8) = true) (h5 : (m_insn_writes ((A0 (y1).toNat))) = false) (h6 : (((A0 (y1).toNat)).fOp == 24#8) = true) (e_r0 : m_op_RightSecond n0 A0 y1 = some true) (h7 : (((A0 (y1).toNat)).fOp == 133#8) = true) (h8 : (((A0 (y1).toNat)).fSrc == 0#8) = true) (h9 : (BitVec.slt ((A0 (y1).toNat)).fImm (1#32)) = false) (h10 : (BitVec.slt (28#32) ((A0 (y1).toNat)).fImm) = false) (h11 : (m_insn_names ((A0 (y1).toNat))) = true) (e_r1 : m_insn_callable n0 A0 (IntKind.i64.wrap ((IntKind.i64.wrap (y1 + 1)) + (ii ((A0 (y1).toNat)).fImm))) = some true) : ConG Try.prog S 32 #[.slice a0 n0 (n0 + k0), .int .i64 (y1)] (.int .i64 (0)) :=
  fn_conG hU (P := Try.prog) Try.func32 (fun xs w => by kernel_rfl) [.slice a0 n0 (n0 + k0), .int .i64 (y1)] (.int .i64 (0))
    [.o, .o, .o, .q (ixRo_ok (kd := .i64) (T := 22) (x := y1) (sz := 5) rfl (fun w => by kernel_rfl) hR0 h0), .l (accRo hR0 c_Insn_len (inR_nat h0) 0 [.int .u8 (nn ((A0 (y1).toNat)).fOp), .int .u8 (nn ((A0 (y1).toNat)).fDst), .int .u8 (nn ((A0 (y1).toNat)).fSrc), .int .i16 (ii ((A0 (y1).toNat)).fOff), .int .i32 (ii ((A0 (y1).toNat)).fImm)] rfl), .o, .a 0, .a 0, .cg (ok_insn_known hU ((A0 (y1).toNat)) true h1), .o, .o, .o, .a 0, .t (u_gt ((A0 (y1).toNat)).fDst (10#8)) h2, .o, .o, .a 0, .t (u_gt ((A0 (y1).toNat)).fSrc (10#8)) h3, .o, .o, .o, .a 0, .t (u_eq ((A0 (y1).toNat)).fDst (10#8)) h4, .o, .a 0, .cg (ok_insn_writes hU ((A0 (y1).toNat)) false h5), .o, .o, .o, .o, .a 0, .t (u_eq ((A0 (y1).toNat)).fOp (24#8)) h6, .o, .o, .o, .cg (ok_op_RightSecond hU a0 p0 q0 n0 k0 A0 hR0 y1 true e_r0), .o, .o, .o, .o, .a 0, .t (u_eq ((A0 (y1).toNat)).fOp (133#8)) h7, .o, .o, .a 0, .t (u_eq ((A0 (y1).toNat)).fSrc (0#8)) h8, .o, .o, .o, .a 0, .t (i_lt ((A0 (y1).toNat)).fImm (1#32)) h9, .o, .o, .a 0, .t (i_gt ((A0 (y1).toNat)).fImm (28#32)) h10, .o, .o, .o, .a 0, .cg (ok_insn_names hU ((A0 (y1).toNat)) true h11), .o, .o, .o, .o, .o, .a 0, .v .i64 (z_of_ii (by decide) ((A0 (y1).toNat)).fImm), .o, .cg (ok_insn_callable hU a0 p0 q0 n0 k0 A0 hR0 (IntKind.i64.wrap ((IntKind.i64.wrap (y1 + 1)) + (ii ((A0 (y1).toNat)).fImm))) true e_r1), .o, .o, .o, .o]
    [] (fun b => by kernel_rfl)
theorem p6_insn_checkSlot (h0 : (inR y1 n0) = true) (h1 : (m_insn_known ((A0 (y1).toNat))) = true) (h2 : (BitVec.ult (10#8) ((A0 (y1).toNat)).fDst) = false) (h3 : (BitVec.ult (10#8) ((A0 (y1).toNat)).fSrc) = false) (h4 : (((A0 (y1).toNat)).fDst == 10#8) = true) (h5 : (m_insn_writes ((A0 (y1).toNat))) = false) (h6 : (((A0 (y1).toNat)).fOp == 24#8) = true) (e_r0 : m_op_RightSecond n0 A0 y1 = some true) (h7 : (((A0 (y1).toNat)).fOp == 133#8) = true) (h8 : (((A0 (y1).toNat)).fSrc == 0#8) = true) (h9 : (BitVec.slt ((A0 (y1).toNat)).fImm (1#32)) = false) (h10 : (BitVec.slt (28#32) ((A0 (y1).toNat)).fImm) = false) (h11 : (m_insn_names ((A0 (y1).toNat))) = true) (e_r1 : m_insn_callable n0 A0 (IntKind.i64.wrap ((IntKind.i64.wrap (y1 + 1)) + (ii ((A0 (y1).toNat)).fImm))) = some false) : ConG Try.prog S 32 #[.slice a0 n0 (n0 + k0), .int .i64 (y1)] (.int .i64 (14)) :=
  fn_conG hU (P := Try.prog) Try.func32 (fun xs w => by kernel_rfl) [.slice a0 n0 (n0 + k0), .int .i64 (y1)] (.int .i64 (14))
    [.o, .o, .o, .q (ixRo_ok (kd := .i64) (T := 22) (x := y1) (sz := 5) rfl (fun w => by kernel_rfl) hR0 h0), .l (accRo hR0 c_Insn_len (inR_nat h0) 0 [.int .u8 (nn ((A0 (y1).toNat)).fOp), .int .u8 (nn ((A0 (y1).toNat)).fDst), .int .u8 (nn ((A0 (y1).toNat)).fSrc), .int .i16 (ii ((A0 (y1).toNat)).fOff), .int .i32 (ii ((A0 (y1).toNat)).fImm)] rfl), .o, .a 0, .a 0, .cg (ok_insn_known hU ((A0 (y1).toNat)) true h1), .o, .o, .o, .a 0, .t (u_gt ((A0 (y1).toNat)).fDst (10#8)) h2, .o, .o, .a 0, .t (u_gt ((A0 (y1).toNat)).fSrc (10#8)) h3, .o, .o, .o, .a 0, .t (u_eq ((A0 (y1).toNat)).fDst (10#8)) h4, .o, .a 0, .cg (ok_insn_writes hU ((A0 (y1).toNat)) false h5), .o, .o, .o, .o, .a 0, .t (u_eq ((A0 (y1).toNat)).fOp (24#8)) h6, .o, .o, .o, .cg (ok_op_RightSecond hU a0 p0 q0 n0 k0 A0 hR0 y1 true e_r0), .o, .o, .o, .o, .a 0, .t (u_eq ((A0 (y1).toNat)).fOp (133#8)) h7, .o, .o, .a 0, .t (u_eq ((A0 (y1).toNat)).fSrc (0#8)) h8, .o, .o, .o, .a 0, .t (i_lt ((A0 (y1).toNat)).fImm (1#32)) h9, .o, .o, .a 0, .t (i_gt ((A0 (y1).toNat)).fImm (28#32)) h10, .o, .o, .o, .a 0, .cg (ok_insn_names hU ((A0 (y1).toNat)) true h11), .o, .o, .o, .o, .o, .a 0, .v .i64 (z_of_ii (by decide) ((A0 (y1).toNat)).fImm), .o, .cg (ok_insn_callable hU a0 p0 q0 n0 k0 A0 hR0 (IntKind.i64.wrap ((IntKind.i64.wrap (y1 + 1)) + (ii ((A0 (y1).toNat)).fImm))) false e_r1), .o, .o, .o, .o]
    [] (fun b => by kernel_rfl)
theorem p7_insn_checkSlot (h0 : (inR y1 n0) = true) (h1 : (m_insn_known ((A0 (y1).toNat))) = true) (h2 : (BitVec.ult (10#8) ((A0 (y1).toNat)).fDst) = false) (h3 : (BitVec.ult (10#8) ((A0 (y1).toNat)).fSrc) = false) (h4 : (((A0 (y1).toNat)).fDst == 10#8) = true) (h5 : (m_insn_writes ((A0 (y1).toNat))) = false) (h6 : (((A0 (y1).toNat)).fOp == 24#8) = true) (e_r0 : m_op_RightSecond n0 A0 y1 = some true) (h7 : (((A0 (y1).toNat)).fOp == 133#8) = true) (h8 : (((A0 (y1).toNat)).fSrc == 0#8) = true) (h9 : (BitVec.slt ((A0 (y1).toNat)).fImm (1#32)) = false) (h10 : (BitVec.slt (28#32) ((A0 (y1).toNat)).fImm) = false) (h11 : (m_insn_names ((A0 (y1).toNat))) = false) : ConG Try.prog S 32 #[.slice a0 n0 (n0 + k0), .int .i64 (y1)] (.int .i64 (0)) :=
  fn_conG hU (P := Try.prog) Try.func32 (fun xs w => by kernel_rfl) [.slice a0 n0 (n0 + k0), .int .i64 (y1)] (.int .i64 (0))
    [.o, .o, .o, .q (ixRo_ok (kd := .i64) (T := 22) (x := y1) (sz := 5) rfl (fun w => by kernel_rfl) hR0 h0), .l (accRo hR0 c_Insn_len (inR_nat h0) 0 [.int .u8 (nn ((A0 (y1).toNat)).fOp), .int .u8 (nn ((A0 (y1).toNat)).fDst), .int .u8 (nn ((A0 (y1).toNat)).fSrc), .int .i16 (ii ((A0 (y1).toNat)).fOff), .int .i32 (ii ((A0 (y1).toNat)).fImm)] rfl), .o, .a 0, .a 0, .cg (ok_insn_known hU ((A0 (y1).toNat)) true h1), .o, .o, .o, .a 0, .t (u_gt ((A0 (y1).toNat)).fDst (10#8)) h2, .o, .o, .a 0, .t (u_gt ((A0 (y1).toNat)).fSrc (10#8)) h3, .o, .o, .o, .a 0, .t (u_eq ((A0 (y1).toNat)).fDst (10#8)) h4, .o, .a 0, .cg (ok_insn_writes hU ((A0 (y1).toNat)) false h5), .o, .o, .o, .o, .a 0, .t (u_eq ((A0 (y1).toNat)).fOp (24#8)) h6, .o, .o, .o, .cg (ok_op_RightSecond hU a0 p0 q0 n0 k0 A0 hR0 y1 true e_r0), .o, .o, .o, .o, .a 0, .t (u_eq ((A0 (y1).toNat)).fOp (133#8)) h7, .o, .o, .a 0, .t (u_eq ((A0 (y1).toNat)).fSrc (0#8)) h8, .o, .o, .o, .a 0, .t (i_lt ((A0 (y1).toNat)).fImm (1#32)) h9, .o, .o, .a 0, .t (i_gt ((A0 (y1).toNat)).fImm (28#32)) h10, .o, .o, .o, .a 0, .cg (ok_insn_names hU ((A0 (y1).toNat)) false h11), .o, .o, .o, .o]
    [] (fun b => by kernel_rfl)
theorem p8_insn_checkSlot (h0 : (inR y1 n0) = true) (h1 : (m_insn_known ((A0 (y1).toNat))) = true) (h2 : (BitVec.ult (10#8) ((A0 (y1).toNat)).fDst) = false) (h3 : (BitVec.ult (10#8) ((A0 (y1).toNat)).fSrc) = false) (h4 : (((A0 (y1).toNat)).fDst == 10#8) = true) (h5 : (m_insn_writes ((A0 (y1).toNat))) = false) (h6 : (((A0 (y1).toNat)).fOp == 24#8) = true) (e_r0 : m_op_RightSecond n0 A0 y1 = some true) (h7 : (((A0 (y1).toNat)).fOp == 133#8) = true) (h8 : (((A0 (y1).toNat)).fSrc == 0#8) = false) (h9 : (m_insn_names ((A0 (y1).toNat))) = true) (e_r1 : m_insn_callable n0 A0 (IntKind.i64.wrap ((IntKind.i64.wrap (y1 + 1)) + (ii ((A0 (y1).toNat)).fImm))) = some true) : ConG Try.prog S 32 #[.slice a0 n0 (n0 + k0), .int .i64 (y1)] (.int .i64 (0)) :=
  fn_conG hU (P := Try.prog) Try.func32 (fun xs w => by kernel_rfl) [.slice a0 n0 (n0 + k0), .int .i64 (y1)] (.int .i64 (0))
    [.o, .o, .o, .q (ixRo_ok (kd := .i64) (T := 22) (x := y1) (sz := 5) rfl (fun w => by kernel_rfl) hR0 h0), .l (accRo hR0 c_Insn_len (inR_nat h0) 0 [.int .u8 (nn ((A0 (y1).toNat)).fOp), .int .u8 (nn ((A0 (y1).toNat)).fDst), .int .u8 (nn ((A0 (y1).toNat)).fSrc), .int .i16 (ii ((A0 (y1).toNat)).fOff), .int .i32 (ii ((A0 (y1).toNat)).fImm)] rfl), .o, .a 0, .a 0, .cg (ok_insn_known hU ((A0 (y1).toNat)) true h1), .o, .o, .o, .a 0, .t (u_gt ((A0 (y1).toNat)).fDst (10#8)) h2, .o, .o, .a 0, .t (u_gt ((A0 (y1).toNat)).fSrc (10#8)) h3, .o, .o, .o, .a 0, .t (u_eq ((A0 (y1).toNat)).fDst (10#8)) h4, .o, .a 0, .cg (ok_insn_writes hU ((A0 (y1).toNat)) false h5), .o, .o, .o, .o, .a 0, .t (u_eq ((A0 (y1).toNat)).fOp (24#8)) h6, .o, .o, .o, .cg (ok_op_RightSecond hU a0 p0 q0 n0 k0 A0 hR0 y1 true e_r0), .o, .o, .o, .o, .a 0, .t (u_eq ((A0 (y1).toNat)).fOp (133#8)) h7, .o, .o, .a 0, .t (u_eq ((A0 (y1).toNat)).fSrc (0#8)) h8, .o, .o, .o, .o, .a 0, .cg (ok_insn_names hU ((A0 (y1).toNat)) true h9), .o, .o, .o, .o, .o, .a 0, .v .i64 (z_of_ii (by decide) ((A0 (y1).toNat)).fImm), .o, .cg (ok_insn_callable hU a0 p0 q0 n0 k0 A0 hR0 (IntKind.i64.wrap ((IntKind.i64.wrap (y1 + 1)) + (ii ((A0 (y1).toNat)).fImm))) true e_r1), .o, .o, .o, .o]
    [] (fun b => by kernel_rfl)
theorem p9_insn_checkSlot (h0 : (inR y1 n0) = true) (h1 : (m_insn_known ((A0 (y1).toNat))) = true) (h2 : (BitVec.ult (10#8) ((A0 (y1).toNat)).fDst) = false) (h3 : (BitVec.ult (10#8) ((A0 (y1).toNat)).fSrc) = false) (h4 : (((A0 (y1).toNat)).fDst == 10#8) = true) (h5 : (m_insn_writes ((A0 (y1).toNat))) = false) (h6 : (((A0 (y1).toNat)).fOp == 24#8) = true) (e_r0 : m_op_RightSecond n0 A0 y1 = some true) (h7 : (((A0 (y1).toNat)).fOp == 133#8) = true) (h8 : (((A0 (y1).toNat)).fSrc == 0#8) = false) (h9 : (m_insn_names ((A0 (y1).toNat))) = true) (e_r1 : m_insn_callable n0 A0 (IntKind.i64.wrap ((IntKind.i64.wrap (y1 + 1)) + (ii ((A0 (y1).toNat)).fImm))) = some false) : ConG Try.prog S 32 #[.slice a0 n0 (n0 + k0), .int .i64 (y1)] (.int .i64 (14)) :=
  fn_conG hU (P := Try.prog) Try.func32 (fun xs w => by kernel_rfl) [.slice a0 n0 (n0 + k0), .int .i64 (y1)] (.int .i64 (14))
    [.o, .o, .o, .q (ixRo_ok (kd := .i64) (T := 22) (x := y1) (sz := 5) rfl (fun w => by kernel_rfl) hR0 h0), .l (accRo hR0 c_Insn_len (inR_nat h0) 0 [.int .u8 (nn ((A0 (y1).toNat)).fOp), .int .u8 (nn ((A0 (y1).toNat)).fDst), .int .u8 (nn ((A0 (y1).toNat)).fSrc), .int .i16 (ii ((A0 (y1).toNat)).fOff), .int .i32 (ii ((A0 (y1).toNat)).fImm)] rfl), .o, .a 0, .a 0, .cg (ok_insn_known hU ((A0 (y1).toNat)) true h1), .o, .o, .o, .a 0, .t (u_gt ((A0 (y1).toNat)).fDst (10#8)) h2, .o, .o, .a 0, .t (u_gt ((A0 (y1).toNat)).fSrc (10#8)) h3, .o, .o, .o, .a 0, .t (u_eq ((A0 (y1).toNat)).fDst (10#8)) h4, .o, .a 0, .cg (ok_insn_writes hU ((A0 (y1).toNat)) false h5), .o, .o, .o, .o, .a 0, .t (u_eq ((A0 (y1).toNat)).fOp (24#8)) h6, .o, .o, .o, .cg (ok_op_RightSecond hU a0 p0 q0 n0 k0 A0 hR0 y1 true e_r0), .o, .o, .o, .o, .a 0, .t (u_eq ((A0 (y1).toNat)).fOp (133#8)) h7, .o, .o, .a 0, .t (u_eq ((A0 (y1).toNat)).fSrc (0#8)) h8, .o, .o, .o, .o, .a 0, .cg (ok_insn_names hU ((A0 (y1).toNat)) true h9), .o, .o, .o, .o, .o, .a 0, .v .i64 (z_of_ii (by decide) ((A0 (y1).toNat)).fImm), .o, .cg (ok_insn_callable hU a0 p0 q0 n0 k0 A0 hR0 (IntKind.i64.wrap ((IntKind.i64.wrap (y1 + 1)) + (ii ((A0 (y1).toNat)).fImm))) false e_r1), .o, .o, .o, .o]
    [] (fun b => by kernel_rfl)
theorem p10_insn_checkSlot (h0 : (inR y1 n0) = true) (h1 : (m_insn_known ((A0 (y1).toNat))) = true) (h2 : (BitVec.ult (10#8) ((A0 (y1).toNat)).fDst) = false) (h3 : (BitVec.ult (10#8) ((A0 (y1).toNat)).fSrc) = false) (h4 : (((A0 (y1).toNat)).fDst == 10#8) = true) (h5 : (m_insn_writes ((A0 (y1).toNat))) = false) (h6 : (((A0 (y1).toNat)).fOp == 24#8) = true) (e_r0 : m_op_RightSecond n0 A0 y1 = some true) (h7 : (((A0 (y1).toNat)).fOp == 133#8) = true) (h8 : (((A0 (y1).toNat)).fSrc == 0#8) = false) (h9 : (m_insn_names ((A0 (y1).toNat))) = false) : ConG Try.prog S 32 #[.slice a0 n0 (n0 + k0), .int .i64 (y1)] (.int .i64 (0)) :=
  fn_conG hU (P := Try.prog) Try.func32 (fun xs w => by kernel_rfl) [.slice a0 n0 (n0 + k0), .int .i64 (y1)] (.int .i64 (0))
    [.o, .o, .o, .q (ixRo_ok (kd := .i64) (T := 22) (x := y1) (sz := 5) rfl (fun w => by kernel_rfl) hR0 h0), .l (accRo hR0 c_Insn_len (inR_nat h0) 0 [.int .u8 (nn ((A0 (y1).toNat)).fOp), .int .u8 (nn ((A0 (y1).toNat)).fDst), .int .u8 (nn ((A0 (y1).toNat)).fSrc), .int .i16 (ii ((A0 (y1).toNat)).fOff), .int .i32 (ii ((A0 (y1).toNat)).fImm)] rfl), .o, .a 0, .a 0, .cg (ok_insn_known hU ((A0 (y1).toNat)) true h1), .o, .o, .o, .a 0, .t (u_gt ((A0 (y1).toNat)).fDst (10#8)) h2, .o, .o, .a 0, .t (u_gt ((A0 (y1).toNat)).fSrc (10#8)) h3, .o, .o, .o, .a 0, .t (u_eq ((A0 (y1).toNat)).fDst (10#8)) h4, .o, .a 0, .cg (ok_insn_writes hU ((A0 (y1).toNat)) false h5), .o, .o, .o, .o, .a 0, .t (u_eq ((A0 (y1).toNat)).fOp (24#8)) h6, .o, .o, .o, .cg (ok_op_RightSecond hU a0 p0 q0 n0 k0 A0 hR0 y1 true e_r0), .o, .o, .o, .o, .a 0, .t (u_eq ((A0 (y1).toNat)).fOp (133#8)) h7, .o, .o, .a 0, .t (u_eq ((A0 (y1).toNat)).fSrc (0#8)) h8, .o, .o, .o, .o, .a 0, .cg (ok_insn_names hU ((A0 (y1).toNat)) false h9), .o, .o, .o, .o]
    [] (fun b => by kernel_rfl)
theorem p11_insn_checkSlot (h0 : (inR y1 n0) = true) (h1 : (m_insn_known ((A0 (y1).toNat))) = true) (h2 : (BitVec.ult (10#8) ((A0 (y1).toNat)).fDst) = false) (h3 : (BitVec.ult (10#8) ((A0 (y1).toNat)).fSrc) = false) (h4 : (((A0 (y1).toNat)).fDst == 10#8) = true) (h5 : (m_insn_writes ((A0 (y1).toNat))) = false) (h6 : (((A0 (y1).toNat)).fOp == 24#8) = true) (e_r0 : m_op_RightSecond n0 A0 y1 = some true) (h7 : (((A0 (y1).toNat)).fOp == 133#8) = false) (h8 : (m_insn_names ((A0 (y1).toNat))) = true) (e_r1 : m_insn_callable n0 A0 (IntKind.i64.wrap ((IntKind.i64.wrap (y1 + 1)) + (ii ((A0 (y1).toNat)).fImm))) = some true) : ConG Try.prog S 32 #[.slice a0 n0 (n0 + k0), .int .i64 (y1)] (.int .i64 (0)) :=
  fn_conG hU (P := Try.prog) Try.func32 (fun xs w => by kernel_rfl) [.slice a0 n0 (n0 + k0), .int .i64 (y1)] (.int .i64 (0))
    [.o, .o, .o, .q (ixRo_ok (kd := .i64) (T := 22) (x := y1) (sz := 5) rfl (fun w => by kernel_rfl) hR0 h0), .l (accRo hR0 c_Insn_len (inR_nat h0) 0 [.int .u8 (nn ((A0 (y1).toNat)).fOp), .int .u8 (nn ((A0 (y1).toNat)).fDst), .int .u8 (nn ((A0 (y1).toNat)).fSrc), .int .i16 (ii ((A0 (y1).toNat)).fOff), .int .i32 (ii ((A0 (y1).toNat)).fImm)] rfl), .o, .a 0, .a 0, .cg (ok_insn_known hU ((A0 (y1).toNat)) true h1), .o, .o, .o, .a 0, .t (u_gt ((A0 (y1).toNat)).fDst (10#8)) h2, .o, .o, .a 0, .t (u_gt ((A0 (y1).toNat)).fSrc (10#8)) h3, .o, .o, .o, .a 0, .t (u_eq ((A0 (y1).toNat)).fDst (10#8)) h4, .o, .a 0, .cg (ok_insn_writes hU ((A0 (y1).toNat)) false h5), .o, .o, .o, .o, .a 0, .t (u_eq ((A0 (y1).toNat)).fOp (24#8)) h6, .o, .o, .o, .cg (ok_op_RightSecond hU a0 p0 q0 n0 k0 A0 hR0 y1 true e_r0), .o, .o, .o, .o, .a 0, .t (u_eq ((A0 (y1).toNat)).fOp (133#8)) h7, .o, .o, .o, .o, .o, .a 0, .cg (ok_insn_names hU ((A0 (y1).toNat)) true h8), .o, .o, .o, .o, .o, .a 0, .v .i64 (z_of_ii (by decide) ((A0 (y1).toNat)).fImm), .o, .cg (ok_insn_callable hU a0 p0 q0 n0 k0 A0 hR0 (IntKind.i64.wrap ((IntKind.i64.wrap (y1 + 1)) + (ii ((A0 (y1).toNat)).fImm))) true e_r1), .o, .o, .o, .o]
    [] (fun b => by kernel_rfl)
theorem p12_insn_checkSlot (h0 : (inR y1 n0) = true) (h1 : (m_insn_known ((A0 (y1).toNat))) = true) (h2 : (BitVec.ult (10#8) ((A0 (y1).toNat)).fDst) = false) (h3 : (BitVec.ult (10#8) ((A0 (y1).toNat)).fSrc) = false) (h4 : (((A0 (y1).toNat)).fDst == 10#8) = true) (h5 : (m_insn_writes ((A0 (y1).toNat))) = false) (h6 : (((A0 (y1).toNat)).fOp == 24#8) = true) (e_r0 : m_op_RightSecond n0 A0 y1 = some true) (h7 : (((A0 (y1).toNat)).fOp == 133#8) = false) (h8 : (m_insn_names ((A0 (y1).toNat))) = true) (e_r1 : m_insn_callable n0 A0 (IntKind.i64.wrap ((IntKind.i64.wrap (y1 + 1)) + (ii ((A0 (y1).toNat)).fImm))) = some false) : ConG Try.prog S 32 #[.slice a0 n0 (n0 + k0), .int .i64 (y1)] (.int .i64 (14)) :=
  fn_conG hU (P := Try.prog) Try.func32 (fun xs w => by kernel_rfl) [.slice a0 n0 (n0 + k0), .int .i64 (y1)] (.int .i64 (14))
    [.o, .o, .o, .q (ixRo_ok (kd := .i64) (T := 22) (x := y1) (sz := 5) rfl (fun w => by kernel_rfl) hR0 h0), .l (accRo hR0 c_Insn_len (inR_nat h0) 0 [.int .u8 (nn ((A0 (y1).toNat)).fOp), .int .u8 (nn ((A0 (y1).toNat)).fDst), .int .u8 (nn ((A0 (y1).toNat)).fSrc), .int .i16 (ii ((A0 (y1).toNat)).fOff), .int .i32 (ii ((A0 (y1).toNat)).fImm)] rfl), .o, .a 0, .a 0, .cg (ok_insn_known hU ((A0 (y1).toNat)) true h1), .o, .o, .o, .a 0, .t (u_gt ((A0 (y1).toNat)).fDst (10#8)) h2, .o, .o, .a 0, .t (u_gt ((A0 (y1).toNat)).fSrc (10#8)) h3, .o, .o, .o, .a 0, .t (u_eq ((A0 (y1).toNat)).fDst (10#8)) h4, .o, .a 0, .cg (ok_insn_writes hU ((A0 (y1).toNat)) false h5), .o, .o, .o, .o, .a 0, .t (u_eq ((A0 (y1).toNat)).fOp (24#8)) h6, .o, .o, .o, .cg (ok_op_RightSecond hU a0 p0 q0 n0 k0 A0 hR0 y1 true e_r0), .o, .o, .o, .o, .a 0, .t (u_eq ((A0 (y1).toNat)).fOp (133#8)) h7, .o, .o, .o, .o, .o, .a 0, .cg (ok_insn_names hU ((A0 (y1).toNat)) true h8), .o, .o, .o, .o, .o, .a 0, .v .i64 (z_of_ii (by decide) ((A0 (y1).toNat)).fImm), .o, .cg (ok_insn_callable hU a0 p0 q0 n0 k0 A0 hR0 (IntKind.i64.wrap ((IntKind.i64.wrap (y1 + 1)) + (ii ((A0 (y1).toNat)).fImm))) false e_r1), .o, .o, .o, .o]
    [] (fun b => by kernel_rfl)
theorem p13_insn_checkSlot (h0 : (inR y1 n0) = true) (h1 : (m_insn_known ((A0 (y1).toNat))) = true) (h2 : (BitVec.ult (10#8) ((A0 (y1).toNat)).fDst) = false) (h3 : (BitVec.ult (10#8) ((A0 (y1).toNat)).fSrc) = false) (h4 : (((A0 (y1).toNat)).fDst == 10#8) = true) (h5 : (m_insn_writes ((A0 (y1).toNat))) = false) (h6 : (((A0 (y1).toNat)).fOp == 24#8) = true) (e_r0 : m_op_RightSecond n0 A0 y1 = some true) (h7 : (((A0 (y1).toNat)).fOp == 133#8) = false) (h8 : (m_insn_names ((A0 (y1).toNat))) = false) : ConG Try.prog S 32 #[.slice a0 n0 (n0 + k0), .int .i64 (y1)] (.int .i64 (0)) :=
  fn_conG hU (P := Try.prog) Try.func32 (fun xs w => by kernel_rfl) [.slice a0 n0 (n0 + k0), .int .i64 (y1)] (.int .i64 (0))
    [.o, .o, .o, .q (ixRo_ok (kd := .i64) (T := 22) (x := y1) (sz := 5) rfl (fun w => by kernel_rfl) hR0 h0), .l (accRo hR0 c_Insn_len (inR_nat h0) 0 [.int .u8 (nn ((A0 (y1).toNat)).fOp), .int .u8 (nn ((A0 (y1).toNat)).fDst), .int .u8 (nn ((A0 (y1).toNat)).fSrc), .int .i16 (ii ((A0 (y1).toNat)).fOff), .int .i32 (ii ((A0 (y1).toNat)).fImm)] rfl), .o, .a 0, .a 0, .cg (ok_insn_known hU ((A0 (y1).toNat)) true h1), .o, .o, .o, .a 0, .t (u_gt ((A0 (y1).toNat)).fDst (10#8)) h2, .o, .o, .a 0, .t (u_gt ((A0 (y1).toNat)).fSrc (10#8)) h3, .o, .o, .o, .a 0, .t (u_eq ((A0 (y1).toNat)).fDst (10#8)) h4, .o, .a 0, .cg (ok_insn_writes hU ((A0 (y1).toNat)) false h5), .o, .o, .o, .o, .a 0, .t (u_eq ((A0 (y1).toNat)).fOp (24#8)) h6, .o, .o, .o, .cg (ok_op_RightSecond hU a0 p0 q0 n0 k0 A0 hR0 y1 true e_r0), .o, .o, .o, .o, .a 0, .t (u_eq ((A0 (y1).toNat)).fOp (133#8)) h7, .o, .o, .o, .o, .o, .a 0, .cg (ok_insn_names hU ((A0 (y1).toNat)) false h8), .o, .o, .o, .o]
    [] (fun b => by kernel_rfl)
theorem p14_insn_checkSlot (h0 : (inR y1 n0) = true) (h1 : (m_insn_known ((A0 (y1).toNat))) = true) (h2 : (BitVec.ult (10#8) ((A0 (y1).toNat)).fDst) = false) (h3 : (BitVec.ult (10#8) ((A0 (y1).toNat)).fSrc) = false) (h4 : (((A0 (y1).toNat)).fDst == 10#8) = true) (h5 : (m_insn_writes ((A0 (y1).toNat))) = false) (h6 : (((A0 (y1).toNat)).fOp == 24#8) = true) (e_r0 : m_op_RightSecond n0 A0 y1 = some false) : ConG Try.prog S 32 #[.slice a0 n0 (n0 + k0), .int .i64 (y1)] (.int .i64 (13)) :=
  fn_conG hU (P := Try.prog) Try.func32 (fun xs w => by kernel_rfl) [.slice a0 n0 (n0 + k0), .int .i64 (y1)] (.int .i64 (13))
    [.o, .o, .o, .q (ixRo_ok (kd := .i64) (T := 22) (x := y1) (sz := 5) rfl (fun w => by kernel_rfl) hR0 h0), .l (accRo hR0 c_Insn_len (inR_nat h0) 0 [.int .u8 (nn ((A0 (y1).toNat)).fOp), .int .u8 (nn ((A0 (y1).toNat)).fDst), .int .u8 (nn ((A0 (y1).toNat)).fSrc), .int .i16 (ii ((A0 (y1).toNat)).fOff), .int .i32 (ii ((A0 (y1).toNat)).fImm)] rfl), .o, .a 0, .a 0, .cg (ok_insn_known hU ((A0 (y1).toNat)) true h1), .o, .o, .o, .a 0, .t (u_gt ((A0 (y1).toNat)).fDst (10#8)) h2, .o, .o, .a 0, .t (u_gt ((A0 (y1).toNat)).fSrc (10#8)) h3, .o, .o, .o, .a 0, .t (u_eq ((A0 (y1).toNat)).fDst (10#8)) h4, .o, .a 0, .cg (ok_insn_writes hU ((A0 (y1).toNat)) false h5), .o, .o, .o, .o, .a 0, .t (u_eq ((A0 (y1).toNat)).fOp (24#8)) h6, .o, .o, .o, .cg (ok_op_RightSecond hU a0 p0 q0 n0 k0 A0 hR0 y1 false e_r0), .o, .o, .o, .o]
    [] (fun b => by kernel_rfl)
theorem p15_insn_checkSlot (h0 : (inR y1 n0) = true) (h1 : (m_insn_known ((A0 (y1).toNat))) = true) (h2 : (BitVec.ult (10#8) ((A0 (y1).toNat)).fDst) = false) (h3 : (BitVec.ult (10#8) ((A0 (y1).toNat)).fSrc) = false) (h4 : (((A0 (y1).toNat)).fDst == 10#8) = true) (h5 : (m_insn_writes ((A0 (y1).toNat))) = false) (h6 : (((A0 (y1).toNat)).fOp == 24#8) = false) (h7 : (((A0 (y1).toNat)).fOp == 133#8) = true) (h8 : (((A0 (y1).toNat)).fSrc == 0#8) = true) (h9 : (BitVec.slt ((A0 (y1).toNat)).fImm (1#32)) = true) : ConG Try.prog S 32 #[.slice a0 n0 (n0 + k0), .int .i64 (y1)] (.int .i64 (14)) :=
  fn_conG hU (P := Try.prog) Try.func32 (fun xs w => by kernel_rfl) [.slice a0 n0 (n0 + k0), .int .i64 (y1)] (.int .i64 (14))
    [.o, .o, .o, .q (ixRo_ok (kd := .i64) (T := 22) (x := y1) (sz := 5) rfl (fun w => by kernel_rfl) hR0 h0), .l (accRo hR0 c_Insn_len (inR_nat h0) 0 [.int .u8 (nn ((A0 (y1).toNat)).fOp), .int .u8 (nn ((A0 (y1).toNat)).fDst), .int .u8 (nn ((A0 (y1).toNat)).fSrc), .int .i16 (ii ((A0 (y1).toNat)).fOff), .int .i32 (ii ((A0 (y1).toNat)).fImm)] rfl), .o, .a 0, .a 0, .cg (ok_insn_known hU ((A0 (y1).toNat)) true h1), .o, .o, .o, .a 0, .t (u_gt ((A0 (y1).toNat)).fDst (10#8)) h2, .o, .o, .a 0, .t (u_gt ((A0 (y1).toNat)).fSrc (10#8)) h3, .o, .o, .o, .a 0, .t (u_eq ((A0 (y1).toNat)).fDst (10#8)) h4, .o, .a 0, .cg (ok_insn_writes hU ((A0 (y1).toNat)) false h5), .o, .o, .o, .o, .a 0, .t (u_eq ((A0 (y1).toNat)).fOp (24#8)) h6, .o, .o, .o, .o, .a 0, .t (u_eq ((A0 (y1).toNat)).fOp (133#8)) h7, .o, .o, .a 0, .t (u_eq ((A0 (y1).toNat)).fSrc (0#8)) h8, .o, .o, .o, .a 0, .t (i_lt ((A0 (y1).toNat)).fImm (1#32)) h9, .o, .o, .o, .o, .o]
    [] (fun b => by kernel_rfl)
theorem p16_insn_checkSlot (h0 : (inR y1 n0) = true) (h1 : (m_insn_known ((A0 (y1).toNat))) = true) (h2 : (BitVec.ult (10#8) ((A0 (y1).toNat)).fDst) = false) (h3 : (BitVec.ult (10#8) ((A0 (y1).toNat)).fSrc) = false) (h4 : (((A0 (y1).toNat)).fDst == 10#8) = true) (h5 : (m_insn_writes ((A0 (y1).toNat))) = false) (h6 : (((A0 (y1).toNat)).fOp == 24#8) = false) (h7 : (((A0 (y1).toNat)).fOp == 133#8) = true) (h8 : (((A0 (y1).toNat)).fSrc == 0#8) = true) (h9 : (BitVec.slt ((A0 (y1).toNat)).fImm (1#32)) = false) (h10 : (BitVec.slt (28#32) ((A0 (y1).toNat)).fImm) = true) : ConG Try.prog S 32 #[.slice a0 n0 (n0 + k0), .int .i64 (y1)] (.int .i64 (14)) :=
  fn_conG hU (P := Try.prog) Try.func32 (fun xs w => by kernel_rfl) [.slice a0 n0 (n0 + k0), .int .i64 (y1)] (.int .i64 (14))
    [.o, .o, .o, .q (ixRo_ok (kd := .i64) (T := 22) (x := y1) (sz := 5) rfl (fun w => by kernel_rfl) hR0 h0), .l (accRo hR0 c_Insn_len (inR_nat h0) 0 [.int .u8 (nn ((A0 (y1).toNat)).fOp), .int .u8 (nn ((A0 (y1).toNat)).fDst), .int .u8 (nn ((A0 (y1).toNat)).fSrc), .int .i16 (ii ((A0 (y1).toNat)).fOff), .int .i32 (ii ((A0 (y1).toNat)).fImm)] rfl), .o, .a 0, .a 0, .cg (ok_insn_known hU ((A0 (y1).toNat)) true h1), .o, .o, .o, .a 0, .t (u_gt ((A0 (y1).toNat)).fDst (10#8)) h2, .o, .o, .a 0, .t (u_gt ((A0 (y1).toNat)).fSrc (10#8)) h3, .o, .o, .o, .a 0, .t (u_eq ((A0 (y1).toNat)).fDst (10#8)) h4, .o, .a 0, .cg (ok_insn_writes hU ((A0 (y1).toNat)) false h5), .o, .o, .o, .o, .a 0, .t (u_eq ((A0 (y1).toNat)).fOp (24#8)) h6, .o, .o, .o, .o, .a 0, .t (u_eq ((A0 (y1).toNat)).fOp (133#8)) h7, .o, .o, .a 0, .t (u_eq ((A0 (y1).toNat)).fSrc (0#8)) h8, .o, .o, .o, .a 0, .t (i_lt ((A0 (y1).toNat)).fImm (1#32)) h9, .o, .o, .a 0, .t (i_gt ((A0 (y1).toNat)).fImm (28#32)) h10, .o, .o, .o, .o]
    [] (fun b => by kernel_rfl)
theorem p17_insn_checkSlot (h0 : (inR y1 n0) = true) (h1 : (m_insn_known ((A0 (y1).toNat))) = true) (h2 : (BitVec.ult (10#8) ((A0 (y1).toNat)).fDst) = false) (h3 : (BitVec.ult (10#8) ((A0 (y1).toNat)).fSrc) = false) (h4 : (((A0 (y1).toNat)).fDst == 10#8) = true) (h5 : (m_insn_writes ((A0 (y1).toNat))) = false) (h6 : (((A0 (y1).toNat)).fOp == 24#8) = false) (h7 : (((A0 (y1).toNat)).fOp == 133#8) = true) (h8 : (((A0 (y1).toNat)).fSrc == 0#8) = true) (h9 : (BitVec.slt ((A0 (y1).toNat)).fImm (1#32)) = false) (h10 : (BitVec.slt (28#32) ((A0 (y1).toNat)).fImm) = false) (h11 : (m_insn_names ((A0 (y1).toNat))) = true) (e_r0 : m_insn_callable n0 A0 (IntKind.i64.wrap ((IntKind.i64.wrap (y1 + 1)) + (ii ((A0 (y1).toNat)).fImm))) = some true) : ConG Try.prog S 32 #[.slice a0 n0 (n0 + k0), .int .i64 (y1)] (.int .i64 (0)) :=
  fn_conG hU (P := Try.prog) Try.func32 (fun xs w => by kernel_rfl) [.slice a0 n0 (n0 + k0), .int .i64 (y1)] (.int .i64 (0))
    [.o, .o, .o, .q (ixRo_ok (kd := .i64) (T := 22) (x := y1) (sz := 5) rfl (fun w => by kernel_rfl) hR0 h0), .l (accRo hR0 c_Insn_len (inR_nat h0) 0 [.int .u8 (nn ((A0 (y1).toNat)).fOp), .int .u8 (nn ((A0 (y1).toNat)).fDst), .int .u8 (nn ((A0 (y1).toNat)).fSrc), .int .i16 (ii ((A0 (y1).toNat)).fOff), .int .i32 (ii ((A0 (y1).toNat)).fImm)] rfl), .o, .a 0, .a 0, .cg (ok_insn_known hU ((A0 (y1).toNat)) true h1), .o, .o, .o, .a 0, .t (u_gt ((A0 (y1).toNat)).fDst (10#8)) h2, .o, .o, .a 0, .t (u_gt ((A0 (y1).toNat)).fSrc (10#8)) h3, .o, .o, .o, .a 0, .t (u_eq ((A0 (y1).toNat)).fDst (10#8)) h4, .o, .a 0, .cg (ok_insn_writes hU ((A0 (y1).toNat)) false h5), .o, .o, .o, .o, .a 0, .t (u_eq ((A0 (y1).toNat)).fOp (24#8)) h6, .o, .o, .o, .o, .a 0, .t (u_eq ((A0 (y1).toNat)).fOp (133#8)) h7, .o, .o, .a 0, .t (u_eq ((A0 (y1).toNat)).fSrc (0#8)) h8, .o, .o, .o, .a 0, .t (i_lt ((A0 (y1).toNat)).fImm (1#32)) h9, .o, .o, .a 0, .t (i_gt ((A0 (y1).toNat)).fImm (28#32)) h10, .o, .o, .o, .a 0, .cg (ok_insn_names hU ((A0 (y1).toNat)) true h11), .o, .o, .o, .o, .o, .a 0, .v .i64 (z_of_ii (by decide) ((A0 (y1).toNat)).fImm), .o, .cg (ok_insn_callable hU a0 p0 q0 n0 k0 A0 hR0 (IntKind.i64.wrap ((IntKind.i64.wrap (y1 + 1)) + (ii ((A0 (y1).toNat)).fImm))) true e_r0), .o, .o, .o, .o]
    [] (fun b => by kernel_rfl)
theorem p18_insn_checkSlot (h0 : (inR y1 n0) = true) (h1 : (m_insn_known ((A0 (y1).toNat))) = true) (h2 : (BitVec.ult (10#8) ((A0 (y1).toNat)).fDst) = false) (h3 : (BitVec.ult (10#8) ((A0 (y1).toNat)).fSrc) = false) (h4 : (((A0 (y1).toNat)).fDst == 10#8) = true) (h5 : (m_insn_writes ((A0 (y1).toNat))) = false) (h6 : (((A0 (y1).toNat)).fOp == 24#8) = false) (h7 : (((A0 (y1).toNat)).fOp == 133#8) = true) (h8 : (((A0 (y1).toNat)).fSrc == 0#8) = true) (h9 : (BitVec.slt ((A0 (y1).toNat)).fImm (1#32)) = false) (h10 : (BitVec.slt (28#32) ((A0 (y1).toNat)).fImm) = false) (h11 : (m_insn_names ((A0 (y1).toNat))) = true) (e_r0 : m_insn_callable n0 A0 (IntKind.i64.wrap ((IntKind.i64.wrap (y1 + 1)) + (ii ((A0 (y1).toNat)).fImm))) = some false) : ConG Try.prog S 32 #[.slice a0 n0 (n0 + k0), .int .i64 (y1)] (.int .i64 (14)) :=
  fn_conG hU (P := Try.prog) Try.func32 (fun xs w => by kernel_rfl) [.slice a0 n0 (n0 + k0), .int .i64 (y1)] (.int .i64 (14))
    [.o, .o, .o, .q (ixRo_ok (kd := .i64) (T := 22) (x := y1) (sz := 5) rfl (fun w => by kernel_rfl) hR0 h0), .l (accRo hR0 c_Insn_len (inR_nat h0) 0 [.int .u8 (nn ((A0 (y1).toNat)).fOp), .int .u8 (nn ((A0 (y1).toNat)).fDst), .int .u8 (nn ((A0 (y1).toNat)).fSrc), .int .i16 (ii ((A0 (y1).toNat)).fOff), .int .i32 (ii ((A0 (y1).toNat)).fImm)] rfl), .o, .a 0, .a 0, .cg (ok_insn_known hU ((A0 (y1).toNat)) true h1), .o, .o, .o, .a 0, .t (u_gt ((A0 (y1).toNat)).fDst (10#8)) h2, .o, .o, .a 0, .t (u_gt ((A0 (y1).toNat)).fSrc (10#8)) h3, .o, .o, .o, .a 0, .t (u_eq ((A0 (y1).toNat)).fDst (10#8)) h4, .o, .a 0, .cg (ok_insn_writes hU ((A0 (y1).toNat)) false h5), .o, .o, .o, .o, .a 0, .t (u_eq ((A0 (y1).toNat)).fOp (24#8)) h6, .o, .o, .o, .o, .a 0, .t (u_eq ((A0 (y1).toNat)).fOp (133#8)) h7, .o, .o, .a 0, .t (u_eq ((A0 (y1).toNat)).fSrc (0#8)) h8, .o, .o, .o, .a 0, .t (i_lt ((A0 (y1).toNat)).fImm (1#32)) h9, .o, .o, .a 0, .t (i_gt ((A0 (y1).toNat)).fImm (28#32)) h10, .o, .o, .o, .a 0, .cg (ok_insn_names hU ((A0 (y1).toNat)) true h11), .o, .o, .o, .o, .o, .a 0, .v .i64 (z_of_ii (by decide) ((A0 (y1).toNat)).fImm), .o, .cg (ok_insn_callable hU a0 p0 q0 n0 k0 A0 hR0 (IntKind.i64.wrap ((IntKind.i64.wrap (y1 + 1)) + (ii ((A0 (y1).toNat)).fImm))) false e_r0), .o, .o, .o, .o]
    [] (fun b => by kernel_rfl)
theorem p19_insn_checkSlot (h0 : (inR y1 n0) = true) (h1 : (m_insn_known ((A0 (y1).toNat))) = true) (h2 : (BitVec.ult (10#8) ((A0 (y1).toNat)).fDst) = false) (h3 : (BitVec.ult (10#8) ((A0 (y1).toNat)).fSrc) = false) (h4 : (((A0 (y1).toNat)).fDst == 10#8) = true) (h5 : (m_insn_writes ((A0 (y1).toNat))) = false) (h6 : (((A0 (y1).toNat)).fOp == 24#8) = false) (h7 : (((A0 (y1).toNat)).fOp == 133#8) = true) (h8 : (((A0 (y1).toNat)).fSrc == 0#8) = true) (h9 : (BitVec.slt ((A0 (y1).toNat)).fImm (1#32)) = false) (h10 : (BitVec.slt (28#32) ((A0 (y1).toNat)).fImm) = false) (h11 : (m_insn_names ((A0 (y1).toNat))) = false) : ConG Try.prog S 32 #[.slice a0 n0 (n0 + k0), .int .i64 (y1)] (.int .i64 (0)) :=
  fn_conG hU (P := Try.prog) Try.func32 (fun xs w => by kernel_rfl) [.slice a0 n0 (n0 + k0), .int .i64 (y1)] (.int .i64 (0))
    [.o, .o, .o, .q (ixRo_ok (kd := .i64) (T := 22) (x := y1) (sz := 5) rfl (fun w => by kernel_rfl) hR0 h0), .l (accRo hR0 c_Insn_len (inR_nat h0) 0 [.int .u8 (nn ((A0 (y1).toNat)).fOp), .int .u8 (nn ((A0 (y1).toNat)).fDst), .int .u8 (nn ((A0 (y1).toNat)).fSrc), .int .i16 (ii ((A0 (y1).toNat)).fOff), .int .i32 (ii ((A0 (y1).toNat)).fImm)] rfl), .o, .a 0, .a 0, .cg (ok_insn_known hU ((A0 (y1).toNat)) true h1), .o, .o, .o, .a 0, .t (u_gt ((A0 (y1).toNat)).fDst (10#8)) h2, .o, .o, .a 0, .t (u_gt ((A0 (y1).toNat)).fSrc (10#8)) h3, .o, .o, .o, .a 0, .t (u_eq ((A0 (y1).toNat)).fDst (10#8)) h4, .o, .a 0, .cg (ok_insn_writes hU ((A0 (y1).toNat)) false h5), .o, .o, .o, .o, .a 0, .t (u_eq ((A0 (y1).toNat)).fOp (24#8)) h6, .o, .o, .o, .o, .a 0, .t (u_eq ((A0 (y1).toNat)).fOp (133#8)) h7, .o, .o, .a 0, .t (u_eq ((A0 (y1).toNat)).fSrc (0#8)) h8, .o, .o, .o, .a 0, .t (i_lt ((A0 (y1).toNat)).fImm (1#32)) h9, .o, .o, .a 0, .t (i_gt ((A0 (y1).toNat)).fImm (28#32)) h10, .o, .o, .o, .a 0, .cg (ok_insn_names hU ((A0 (y1).toNat)) false h11), .o, .o, .o, .o]
    [] (fun b => by kernel_rfl)
theorem p20_insn_checkSlot (h0 : (inR y1 n0) = true) (h1 : (m_insn_known ((A0 (y1).toNat))) = true) (h2 : (BitVec.ult (10#8) ((A0 (y1).toNat)).fDst) = false) (h3 : (BitVec.ult (10#8) ((A0 (y1).toNat)).fSrc) = false) (h4 : (((A0 (y1).toNat)).fDst == 10#8) = true) (h5 : (m_insn_writes ((A0 (y1).toNat))) = false) (h6 : (((A0 (y1).toNat)).fOp == 24#8) = false) (h7 : (((A0 (y1).toNat)).fOp == 133#8) = true) (h8 : (((A0 (y1).toNat)).fSrc == 0#8) = false) (h9 : (m_insn_names ((A0 (y1).toNat))) = true) (e_r0 : m_insn_callable n0 A0 (IntKind.i64.wrap ((IntKind.i64.wrap (y1 + 1)) + (ii ((A0 (y1).toNat)).fImm))) = some true) : ConG Try.prog S 32 #[.slice a0 n0 (n0 + k0), .int .i64 (y1)] (.int .i64 (0)) :=
  fn_conG hU (P := Try.prog) Try.func32 (fun xs w => by kernel_rfl) [.slice a0 n0 (n0 + k0), .int .i64 (y1)] (.int .i64 (0))
    [.o, .o, .o, .q (ixRo_ok (kd := .i64) (T := 22) (x := y1) (sz := 5) rfl (fun w => by kernel_rfl) hR0 h0), .l (accRo hR0 c_Insn_len (inR_nat h0) 0 [.int .u8 (nn ((A0 (y1).toNat)).fOp), .int .u8 (nn ((A0 (y1).toNat)).fDst), .int .u8 (nn ((A0 (y1).toNat)).fSrc), .int .i16 (ii ((A0 (y1).toNat)).fOff), .int .i32 (ii ((A0 (y1).toNat)).fImm)] rfl), .o, .a 0, .a 0, .cg (ok_insn_known hU ((A0 (y1).toNat)) true h1), .o, .o, .o, .a 0, .t (u_gt ((A0 (y1).toNat)).fDst (10#8)) h2, .o, .o, .a 0, .t (u_gt ((A0 (y1).toNat)).fSrc (10#8)) h3, .o, .o, .o, .a 0, .t (u_eq ((A0 (y1).toNat)).fDst (10#8)) h4, .o, .a 0, .cg (ok_insn_writes hU ((A0 (y1).toNat)) false h5), .o, .o, .o, .o, .a 0, .t (u_eq ((A0 (y1).toNat)).fOp (24#8)) h6, .o, .o, .o, .o, .a 0, .t (u_eq ((A0 (y1).toNat)).fOp (133#8)) h7, .o, .o, .a 0, .t (u_eq ((A0 (y1).toNat)).fSrc (0#8)) h8, .o, .o, .o, .o, .a 0, .cg (ok_insn_names hU ((A0 (y1).toNat)) true h9), .o, .o, .o, .o, .o, .a 0, .v .i64 (z_of_ii (by decide) ((A0 (y1).toNat)).fImm), .o, .cg (ok_insn_callable hU a0 p0 q0 n0 k0 A0 hR0 (IntKind.i64.wrap ((IntKind.i64.wrap (y1 + 1)) + (ii ((A0 (y1).toNat)).fImm))) true e_r0), .o, .o, .o, .o]
    [] (fun b => by kernel_rfl)
theorem p21_insn_checkSlot (h0 : (inR y1 n0) = true) (h1 : (m_insn_known ((A0 (y1).toNat))) = true) (h2 : (BitVec.ult (10#8) ((A0 (y1).toNat)).fDst) = false) (h3 : (BitVec.ult (10#8) ((A0 (y1).toNat)).fSrc) = false) (h4 : (((A0 (y1).toNat)).fDst == 10#8) = true) (h5 : (m_insn_writes ((A0 (y1).toNat))) = false) (h6 : (((A0 (y1).toNat)).fOp == 24#8) = false) (h7 : (((A0 (y1).toNat)).fOp == 133#8) = true) (h8 : (((A0 (y1).toNat)).fSrc == 0#8) = false) (h9 : (m_insn_names ((A0 (y1).toNat))) = true) (e_r0 : m_insn_callable n0 A0 (IntKind.i64.wrap ((IntKind.i64.wrap (y1 + 1)) + (ii ((A0 (y1).toNat)).fImm))) = some false) : ConG Try.prog S 32 #[.slice a0 n0 (n0 + k0), .int .i64 (y1)] (.int .i64 (14)) :=
  fn_conG hU (P := Try.prog) Try.func32 (fun xs w => by kernel_rfl) [.slice a0 n0 (n0 + k0), .int .i64 (y1)] (.int .i64 (14))
    [.o, .o, .o, .q (ixRo_ok (kd := .i64) (T := 22) (x := y1) (sz := 5) rfl (fun w => by kernel_rfl) hR0 h0), .l (accRo hR0 c_Insn_len (inR_nat h0) 0 [.int .u8 (nn ((A0 (y1).toNat)).fOp), .int .u8 (nn ((A0 (y1).toNat)).fDst), .int .u8 (nn ((A0 (y1).toNat)).fSrc), .int .i16 (ii ((A0 (y1).toNat)).fOff), .int .i32 (ii ((A0 (y1).toNat)).fImm)] rfl), .o, .a 0, .a 0, .cg (ok_insn_known hU ((A0 (y1).toNat)) true h1), .o, .o, .o, .a 0, .t (u_gt ((A0 (y1).toNat)).fDst (10#8)) h2, .o, .o, .a 0, .t (u_gt ((A0 (y1).toNat)).fSrc (10#8)) h3, .o, .o, .o, .a 0, .t (u_eq ((A0 (y1).toNat)).fDst (10#8)) h4, .o, .a 0, .cg (ok_insn_writes hU ((A0 (y1).toNat)) false h5), .o, .o, .o, .o, .a 0, .t (u_eq ((A0 (y1).toNat)).fOp (24#8)) h6, .o, .o, .o, .o, .a 0, .t (u_eq ((A0 (y1).toNat)).fOp (133#8)) h7, .o, .o, .a 0, .t (u_eq ((A0 (y1).toNat)).fSrc (0#8)) h8, .o, .o, .o, .o, .a 0, .cg (ok_insn_names hU ((A0 (y1).toNat)) true h9), .o, .o, .o, .o, .o, .a 0, .v .i64 (z_of_ii (by decide) ((A0 (y1).toNat)).fImm), .o, .cg (ok_insn_callable hU a0 p0 q0 n0 k0 A0 hR0 (IntKind.i64.wrap ((IntKind.i64.wrap (y1 + 1)) + (ii ((A0 (y1).toNat)).fImm))) false e_r0), .o, .o, .o, .o]
    [] (fun b => by kernel_rfl)
theorem p22_insn_checkSlot (h0 : (inR y1 n0) = true) (h1 : (m_insn_known ((A0 (y1).toNat))) = true) (h2 : (BitVec.ult (10#8) ((A0 (y1).toNat)).fDst) = false) (h3 : (BitVec.ult (10#8) ((A0 (y1).toNat)).fSrc) = false) (h4 : (((A0 (y1).toNat)).fDst == 10#8) = true) (h5 : (m_insn_writes ((A0 (y1).toNat))) = false) (h6 : (((A0 (y1).toNat)).fOp == 24#8) = false) (h7 : (((A0 (y1).toNat)).fOp == 133#8) = true) (h8 : (((A0 (y1).toNat)).fSrc == 0#8) = false) (h9 : (m_insn_names ((A0 (y1).toNat))) = false) : ConG Try.prog S 32 #[.slice a0 n0 (n0 + k0), .int .i64 (y1)] (.int .i64 (0)) :=
  fn_conG hU (P := Try.prog) Try.func32 (fun xs w => by kernel_rfl) [.slice a0 n0 (n0 + k0), .int .i64 (y1)] (.int .i64 (0))
    [.o, .o, .o, .q (ixRo_ok (kd := .i64) (T := 22) (x := y1) (sz := 5) rfl (fun w => by kernel_rfl) hR0 h0), .l (accRo hR0 c_Insn_len (inR_nat h0) 0 [.int .u8 (nn ((A0 (y1).toNat)).fOp), .int .u8 (nn ((A0 (y1).toNat)).fDst), .int .u8 (nn ((A0 (y1).toNat)).fSrc), .int .i16 (ii ((A0 (y1).toNat)).fOff), .int .i32 (ii ((A0 (y1).toNat)).fImm)] rfl), .o, .a 0, .a 0, .cg (ok_insn_known hU ((A0 (y1).toNat)) true h1), .o, .o, .o, .a 0, .t (u_gt ((A0 (y1).toNat)).fDst (10#8)) h2, .o, .o, .a 0, .t (u_gt ((A0 (y1).toNat)).fSrc (10#8)) h3, .o, .o, .o, .a 0, .t (u_eq ((A0 (y1).toNat)).fDst (10#8)) h4, .o, .a 0, .cg (ok_insn_writes hU ((A0 (y1).toNat)) false h5), .o, .o, .o, .o, .a 0, .t (u_eq ((A0 (y1).toNat)).fOp (24#8)) h6, .o, .o, .o, .o, .a 0, .t (u_eq ((A0 (y1).toNat)).fOp (133#8)) h7, .o, .o, .a 0, .t (u_eq ((A0 (y1).toNat)).fSrc (0#8)) h8, .o, .o, .o, .o, .a 0, .cg (ok_insn_names hU ((A0 (y1).toNat)) false h9), .o, .o, .o, .o]
    [] (fun b => by kernel_rfl)
theorem p23_insn_checkSlot (h0 : (inR y1 n0) = true) (h1 : (m_insn_known ((A0 (y1).toNat))) = true) (h2 : (BitVec.ult (10#8) ((A0 (y1).toNat)).fDst) = false) (h3 : (BitVec.ult (10#8) ((A0 (y1).toNat)).fSrc) = false) (h4 : (((A0 (y1).toNat)).fDst == 10#8) = true) (h5 : (m_insn_writes ((A0 (y1).toNat))) = false) (h6 : (((A0 (y1).toNat)).fOp == 24#8) = false) (h7 : (((A0 (y1).toNat)).fOp == 133#8) = false) (h8 : (m_insn_names ((A0 (y1).toNat))) = true) (e_r0 : m_insn_callable n0 A0 (IntKind.i64.wrap ((IntKind.i64.wrap (y1 + 1)) + (ii ((A0 (y1).toNat)).fImm))) = some true) : ConG Try.prog S 32 #[.slice a0 n0 (n0 + k0), .int .i64 (y1)] (.int .i64 (0)) :=
  fn_conG hU (P := Try.prog) Try.func32 (fun xs w => by kernel_rfl) [.slice a0 n0 (n0 + k0), .int .i64 (y1)] (.int .i64 (0))
    [.o, .o, .o, .q (ixRo_ok (kd := .i64) (T := 22) (x := y1) (sz := 5) rfl (fun w => by kernel_rfl) hR0 h0), .l (accRo hR0 c_Insn_len (inR_nat h0) 0 [.int .u8 (nn ((A0 (y1).toNat)).fOp), .int .u8 (nn ((A0 (y1).toNat)).fDst), .int .u8 (nn ((A0 (y1).toNat)).fSrc), .int .i16 (ii ((A0 (y1).toNat)).fOff), .int .i32 (ii ((A0 (y1).toNat)).fImm)] rfl), .o, .a 0, .a 0, .cg (ok_insn_known hU ((A0 (y1).toNat)) true h1), .o, .o, .o, .a 0, .t (u_gt ((A0 (y1).toNat)).fDst (10#8)) h2, .o, .o, .a 0, .t (u_gt ((A0 (y1).toNat)).fSrc (10#8)) h3, .o, .o, .o, .a 0, .t (u_eq ((A0 (y1).toNat)).fDst (10#8)) h4, .o, .a 0, .cg (ok_insn_writes hU ((A0 (y1).toNat)) false h5), .o, .o, .o, .o, .a 0, .t (u_eq ((A0 (y1).toNat)).fOp (24#8)) h6, .o, .o, .o, .o, .a 0, .t (u_eq ((A0 (y1).toNat)).fOp (133#8)) h7, .o, .o, .o, .o, .o, .a 0, .cg (ok_insn_names hU ((A0 (y1).toNat)) true h8), .o, .o, .o, .o, .o, .a 0, .v .i64 (z_of_ii (by decide) ((A0 (y1).toNat)).fImm), .o, .cg (ok_insn_callable hU a0 p0 q0 n0 k0 A0 hR0 (IntKind.i64.wrap ((IntKind.i64.wrap (y1 + 1)) + (ii ((A0 (y1).toNat)).fImm))) true e_r0), .o, .o, .o, .o]
    [] (fun b => by kernel_rfl)
theorem p24_insn_checkSlot (h0 : (inR y1 n0) = true) (h1 : (m_insn_known ((A0 (y1).toNat))) = true) (h2 : (BitVec.ult (10#8) ((A0 (y1).toNat)).fDst) = false) (h3 : (BitVec.ult (10#8) ((A0 (y1).toNat)).fSrc) = false) (h4 : (((A0 (y1).toNat)).fDst == 10#8) = true) (h5 : (m_insn_writes ((A0 (y1).toNat))) = false) (h6 : (((A0 (y1).toNat)).fOp == 24#8) = false) (h7 : (((A0 (y1).toNat)).fOp == 133#8) = false) (h8 : (m_insn_names ((A0 (y1).toNat))) = true) (e_r0 : m_insn_callable n0 A0 (IntKind.i64.wrap ((IntKind.i64.wrap (y1 + 1)) + (ii ((A0 (y1).toNat)).fImm))) = some false) : ConG Try.prog S 32 #[.slice a0 n0 (n0 + k0), .int .i64 (y1)] (.int .i64 (14)) :=
  fn_conG hU (P := Try.prog) Try.func32 (fun xs w => by kernel_rfl) [.slice a0 n0 (n0 + k0), .int .i64 (y1)] (.int .i64 (14))
    [.o, .o, .o, .q (ixRo_ok (kd := .i64) (T := 22) (x := y1) (sz := 5) rfl (fun w => by kernel_rfl) hR0 h0), .l (accRo hR0 c_Insn_len (inR_nat h0) 0 [.int .u8 (nn ((A0 (y1).toNat)).fOp), .int .u8 (nn ((A0 (y1).toNat)).fDst), .int .u8 (nn ((A0 (y1).toNat)).fSrc), .int .i16 (ii ((A0 (y1).toNat)).fOff), .int .i32 (ii ((A0 (y1).toNat)).fImm)] rfl), .o, .a 0, .a 0, .cg (ok_insn_known hU ((A0 (y1).toNat)) true h1), .o, .o, .o, .a 0, .t (u_gt ((A0 (y1).toNat)).fDst (10#8)) h2, .o, .o, .a 0, .t (u_gt ((A0 (y1).toNat)).fSrc (10#8)) h3, .o, .o, .o, .a 0, .t (u_eq ((A0 (y1).toNat)).fDst (10#8)) h4, .o, .a 0, .cg (ok_insn_writes hU ((A0 (y1).toNat)) false h5), .o, .o, .o, .o, .a 0, .t (u_eq ((A0 (y1).toNat)).fOp (24#8)) h6, .o, .o, .o, .o, .a 0, .t (u_eq ((A0 (y1).toNat)).fOp (133#8)) h7, .o, .o, .o, .o, .o, .a 0, .cg (ok_insn_names hU ((A0 (y1).toNat)) true h8), .o, .o, .o, .o, .o, .a 0, .v .i64 (z_of_ii (by decide) ((A0 (y1).toNat)).fImm), .o, .cg (ok_insn_callable hU a0 p0 q0 n0 k0 A0 hR0 (IntKind.i64.wrap ((IntKind.i64.wrap (y1 + 1)) + (ii ((A0 (y1).toNat)).fImm))) false e_r0), .o, .o, .o, .o]
    [] (fun b => by kernel_rfl)
theorem p25_insn_checkSlot (h0 : (inR y1 n0) = true) (h1 : (m_insn_known ((A0 (y1).toNat))) = true) (h2 : (BitVec.ult (10#8) ((A0 (y1).toNat)).fDst) = false) (h3 : (BitVec.ult (10#8) ((A0 (y1).toNat)).fSrc) = false) (h4 : (((A0 (y1).toNat)).fDst == 10#8) = true) (h5 : (m_insn_writes ((A0 (y1).toNat))) = false) (h6 : (((A0 (y1).toNat)).fOp == 24#8) = false) (h7 : (((A0 (y1).toNat)).fOp == 133#8) = false) (h8 : (m_insn_names ((A0 (y1).toNat))) = false) : ConG Try.prog S 32 #[.slice a0 n0 (n0 + k0), .int .i64 (y1)] (.int .i64 (0)) :=
  fn_conG hU (P := Try.prog) Try.func32 (fun xs w => by kernel_rfl) [.slice a0 n0 (n0 + k0), .int .i64 (y1)] (.int .i64 (0))
    [.o, .o, .o, .q (ixRo_ok (kd := .i64) (T := 22) (x := y1) (sz := 5) rfl (fun w => by kernel_rfl) hR0 h0), .l (accRo hR0 c_Insn_len (inR_nat h0) 0 [.int .u8 (nn ((A0 (y1).toNat)).fOp), .int .u8 (nn ((A0 (y1).toNat)).fDst), .int .u8 (nn ((A0 (y1).toNat)).fSrc), .int .i16 (ii ((A0 (y1).toNat)).fOff), .int .i32 (ii ((A0 (y1).toNat)).fImm)] rfl), .o, .a 0, .a 0, .cg (ok_insn_known hU ((A0 (y1).toNat)) true h1), .o, .o, .o, .a 0, .t (u_gt ((A0 (y1).toNat)).fDst (10#8)) h2, .o, .o, .a 0, .t (u_gt ((A0 (y1).toNat)).fSrc (10#8)) h3, .o, .o, .o, .a 0, .t (u_eq ((A0 (y1).toNat)).fDst (10#8)) h4, .o, .a 0, .cg (ok_insn_writes hU ((A0 (y1).toNat)) false h5), .o, .o, .o, .o, .a 0, .t (u_eq ((A0 (y1).toNat)).fOp (24#8)) h6, .o, .o, .o, .o, .a 0, .t (u_eq ((A0 (y1).toNat)).fOp (133#8)) h7, .o, .o, .o, .o, .o, .a 0, .cg (ok_insn_names hU ((A0 (y1).toNat)) false h8), .o, .o, .o, .o]
    [] (fun b => by kernel_rfl)
theorem p26_insn_checkSlot (h0 : (inR y1 n0) = true) (h1 : (m_insn_known ((A0 (y1).toNat))) = true) (h2 : (BitVec.ult (10#8) ((A0 (y1).toNat)).fDst) = false) (h3 : (BitVec.ult (10#8) ((A0 (y1).toNat)).fSrc) = false) (h4 : (((A0 (y1).toNat)).fDst == 10#8) = false) (h5 : (((A0 (y1).toNat)).fOp == 24#8) = true) (e_r0 : m_op_RightSecond n0 A0 y1 = some true) (h6 : (((A0 (y1).toNat)).fOp == 133#8) = true) (h7 : (((A0 (y1).toNat)).fSrc == 0#8) = true) (h8 : (BitVec.slt ((A0 (y1).toNat)).fImm (1#32)) = true) : ConG Try.prog S 32 #[.slice a0 n0 (n0 + k0), .int .i64 (y1)] (.int .i64 (14)) :=
  fn_conG hU (P := Try.prog) Try.func32 (fun xs w => by kernel_rfl) [.slice a0 n0 (n0 + k0), .int .i64 (y1)] (.int .i64 (14))
    [.o, .o, .o, .q (ixRo_ok (kd := .i64) (T := 22) (x := y1) (sz := 5) rfl (fun w => by kernel_rfl) hR0 h0), .l (accRo hR0 c_Insn_len (inR_nat h0) 0 [.int .u8 (nn ((A0 (y1).toNat)).fOp), .int .u8 (nn ((A0 (y1).toNat)).fDst), .int .u8 (nn ((A0 (y1).toNat)).fSrc), .int .i16 (ii ((A0 (y1).toNat)).fOff), .int .i32 (ii ((A0 (y1).toNat)).fImm)] rfl), .o, .a 0, .a 0, .cg (ok_insn_known hU ((A0 (y1).toNat)) true h1), .o, .o, .o, .a 0, .t (u_gt ((A0 (y1).toNat)).fDst (10#8)) h2, .o, .o, .a 0, .t (u_gt ((A0 (y1).toNat)).fSrc (10#8)) h3, .o, .o, .o, .a 0, .t (u_eq ((A0 (y1).toNat)).fDst (10#8)) h4, .o, .o, .o, .o, .o, .a 0, .t (u_eq ((A0 (y1).toNat)).fOp (24#8)) h5, .o, .o, .o, .cg (ok_op_RightSecond hU a0 p0 q0 n0 k0 A0 hR0 y1 true e_r0), .o, .o, .o, .o, .a 0, .t (u_eq ((A0 (y1).toNat)).fOp (133#8)) h6, .o, .o, .a 0, .t (u_eq ((A0 (y1).toNat)).fSrc (0#8)) h7, .o, .o, .o, .a 0, .t (i_lt ((A0 (y1).toNat)).fImm (1#32)) h8, .o, .o, .o, .o, .o]
    [] (fun b => by kernel_rfl)
theorem p27_insn_checkSlot (h0 : (inR y1 n0) = true) (h1 : (m_insn_known ((A0 (y1).toNat))) = true) (h2 : (BitVec.ult (10#8) ((A0 (y1).toNat)).fDst) = false) (h3 : (BitVec.ult (10#8) ((A0 (y1).toNat)).fSrc) = false) (h4 : (((A0 (y1).toNat)).fDst == 10#8) = false) (h5 : (((A0 (y1).toNat)).fOp == 24#8) = true) (e_r0 : m_op_RightSecond n0 A0 y1 = some true) (h6 : (((A0 (y1).toNat)).fOp == 133#8) = true) (h7 : (((A0 (y1).toNat)).fSrc == 0#8) = true) (h8 : (BitVec.slt ((A0 (y1).toNat)).fImm (1#32)) = false) (h9 : (BitVec.slt (28#32) ((A0 (y1).toNat)).fImm) = true) : ConG Try.prog S 32 #[.slice a0 n0 (n0 + k0), .int .i64 (y1)] (.int .i64 (14)) :=
  fn_conG hU (P := Try.prog) Try.func32 (fun xs w => by kernel_rfl) [.slice a0 n0 (n0 + k0), .int .i64 (y1)] (.int .i64 (14))
    [.o, .o, .o, .q (ixRo_ok (kd := .i64) (T := 22) (x := y1) (sz := 5) rfl (fun w => by kernel_rfl) hR0 h0), .l (accRo hR0 c_Insn_len (inR_nat h0) 0 [.int .u8 (nn ((A0 (y1).toNat)).fOp), .int .u8 (nn ((A0 (y1).toNat)).fDst), .int .u8 (nn ((A0 (y1).toNat)).fSrc), .int .i16 (ii ((A0 (y1).toNat)).fOff), .int .i32 (ii ((A0 (y1).toNat)).fImm)] rfl), .o, .a 0, .a 0, .cg (ok_insn_known hU ((A0 (y1).toNat)) true h1), .o, .o, .o, .a 0, .t (u_gt ((A0 (y1).toNat)).fDst (10#8)) h2, .o, .o, .a 0, .t (u_gt ((A0 (y1).toNat)).fSrc (10#8)) h3, .o, .o, .o, .a 0, .t (u_eq ((A0 (y1).toNat)).fDst (10#8)) h4, .o, .o, .o, .o, .o, .a 0, .t (u_eq ((A0 (y1).toNat)).fOp (24#8)) h5, .o, .o, .o, .cg (ok_op_RightSecond hU a0 p0 q0 n0 k0 A0 hR0 y1 true e_r0), .o, .o, .o, .o, .a 0, .t (u_eq ((A0 (y1).toNat)).fOp (133#8)) h6, .o, .o, .a 0, .t (u_eq ((A0 (y1).toNat)).fSrc (0#8)) h7, .o, .o, .o, .a 0, .t (i_lt ((A0 (y1).toNat)).fImm (1#32)) h8, .o, .o, .a 0, .t (i_gt ((A0 (y1).toNat)).fImm (28#32)) h9, .o, .o, .o, .o]
    [] (fun b => by kernel_rfl)
theorem p28_insn_checkSlot (h0 : (inR y1 n0) = true) (h1 : (m_insn_known ((A0 (y1).toNat))) = true) (h2 : (BitVec.ult (10#8) ((A0 (y1).toNat)).fDst) = false) (h3 : (BitVec.ult (10#8) ((A0 (y1).toNat)).fSrc) = false) (h4 : (((A0 (y1).toNat)).fDst == 10#8) = false) (h5 : (((A0 (y1).toNat)).fOp == 24#8) = true) (e_r0 : m_op_RightSecond n0 A0 y1 = some true) (h6 : (((A0 (y1).toNat)).fOp == 133#8) = true) (h7 : (((A0 (y1).toNat)).fSrc == 0#8) = true) (h8 : (BitVec.slt ((A0 (y1).toNat)).fImm (1#32)) = false) (h9 : (BitVec.slt (28#32) ((A0 (y1).toNat)).fImm) = false) (h10 : (m_insn_names ((A0 (y1).toNat))) = true) (e_r1 : m_insn_callable n0 A0 (IntKind.i64.wrap ((IntKind.i64.wrap (y1 + 1)) + (ii ((A0 (y1).toNat)).fImm))) = some true) : ConG Try.prog S 32 #[.slice a0 n0 (n0 + k0), .int .i64 (y1)] (.int .i64 (0)) :=
  fn_conG hU (P := Try.prog) Try.func32 (fun xs w => by kernel_rfl) [.slice a0 n0 (n0 + k0), .int .i64 (y1)] (.int .i64 (0))
    [.o, .o, .o, .q (ixRo_ok (kd := .i64) (T := 22) (x := y1) (sz := 5) rfl (fun w => by kernel_rfl) hR0 h0), .l (accRo hR0 c_Insn_len (inR_nat h0) 0 [.int .u8 (nn ((A0 (y1).toNat)).fOp), .int .u8 (nn ((A0 (y1).toNat)).fDst), .int .u8 (nn ((A0 (y1).toNat)).fSrc), .int .i16 (ii ((A0 (y1).toNat)).fOff), .int .i32 (ii ((A0 (y1).toNat)).fImm)] rfl), .o, .a 0, .a 0, .cg (ok_insn_known hU ((A0 (y1).toNat)) true h1), .o, .o, .o, .a 0, .t (u_gt ((A0 (y1).toNat)).fDst (10#8)) h2, .o, .o, .a 0, .t (u_gt ((A0 (y1).toNat)).fSrc (10#8)) h3, .o, .o, .o, .a 0, .t (u_eq ((A0 (y1).toNat)).fDst (10#8)) h4, .o, .o, .o, .o, .o, .a 0, .t (u_eq ((A0 (y1).toNat)).fOp (24#8)) h5, .o, .o, .o, .cg (ok_op_RightSecond hU a0 p0 q0 n0 k0 A0 hR0 y1 true e_r0), .o, .o, .o, .o, .a 0, .t (u_eq ((A0 (y1).toNat)).fOp (133#8)) h6, .o, .o, .a 0, .t (u_eq ((A0 (y1).toNat)).fSrc (0#8)) h7, .o, .o, .o, .a 0, .t (i_lt ((A0 (y1).toNat)).fImm (1#32)) h8, .o, .o, .a 0, .t (i_gt ((A0 (y1).toNat)).fImm (28#32)) h9, .o, .o, .o, .a 0, .cg (ok_insn_names hU ((A0 (y1).toNat)) true h10), .o, .o, .o, .o, .o, .a 0, .v .i64 (z_of_ii (by decide) ((A0 (y1).toNat)).fImm), .o, .cg (ok_insn_callable hU a0 p0 q0 n0 k0 A0 hR0 (IntKind.i64.wrap ((IntKind.i64.wrap (y1 + 1)) + (ii ((A0 (y1).toNat)).fImm))) true e_r1), .o, .o, .o, .o]
    [] (fun b => by kernel_rfl)
theorem p29_insn_checkSlot (h0 : (inR y1 n0) = true) (h1 : (m_insn_known ((A0 (y1).toNat))) = true) (h2 : (BitVec.ult (10#8) ((A0 (y1).toNat)).fDst) = false) (h3 : (BitVec.ult (10#8) ((A0 (y1).toNat)).fSrc) = false) (h4 : (((A0 (y1).toNat)).fDst == 10#8) = false) (h5 : (((A0 (y1).toNat)).fOp == 24#8) = true) (e_r0 : m_op_RightSecond n0 A0 y1 = some true) (h6 : (((A0 (y1).toNat)).fOp == 133#8) = true) (h7 : (((A0 (y1).toNat)).fSrc == 0#8) = true) (h8 : (BitVec.slt ((A0 (y1).toNat)).fImm (1#32)) = false) (h9 : (BitVec.slt (28#32) ((A0 (y1).toNat)).fImm) = false) (h10 : (m_insn_names ((A0 (y1).toNat))) = true) (e_r1 : m_insn_callable n0 A0 (IntKind.i64.wrap ((IntKind.i64.wrap (y1 + 1)) + (ii ((A0 (y1).toNat)).fImm))) = some false) : ConG Try.prog S 32 #[.slice a0 n0 (n0 + k0), .int .i64 (y1)] (.int .i64 (14)) :=
  fn_conG hU (P := Try.prog) Try.func32 (fun xs w => by kernel_rfl) [.slice a0 n0 (n0 + k0), .int .i64 (y1)] (.int .i64 (14))
    [.o, .o, .o, .q (ixRo_ok (kd := .i64) (T := 22) (x := y1) (sz := 5) rfl (fun w => by kernel_rfl) hR0 h0), .l (accRo hR0 c_Insn_len (inR_nat h0) 0 [.int .u8 (nn ((A0 (y1).toNat)).fOp), .int .u8 (nn ((A0 (y1).toNat)).fDst), .int .u8 (nn ((A0 (y1).toNat)).fSrc), .int .i16 (ii ((A0 (y1).toNat)).fOff), .int .i32 (ii ((A0 (y1).toNat)).fImm)] rfl), .o, .a 0, .a 0, .cg (ok_insn_known hU ((A0 (y1).toNat)) true h1), .o, .o, .o, .a 0, .t (u_gt ((A0 (y1).toNat)).fDst (10#8)) h2, .o, .o, .a 0, .t (u_gt ((A0 (y1).toNat)).fSrc (10#8)) h3, .o, .o, .o, .a 0, .t (u_eq ((A0 (y1).toNat)).fDst (10#8)) h4, .o, .o, .o, .o, .o, .a 0, .t (u_eq ((A0 (y1).toNat)).fOp (24#8)) h5, .o, .o, .o, .cg (ok_op_RightSecond hU a0 p0 q0 n0 k0 A0 hR0 y1 true e_r0), .o, .o, .o, .o, .a 0, .t (u_eq ((A0 (y1).toNat)).fOp (133#8)) h6, .o, .o, .a 0, .t (u_eq ((A0 (y1).toNat)).fSrc (0#8)) h7, .o, .o, .o, .a 0, .t (i_lt ((A0 (y1).toNat)).fImm (1#32)) h8, .o, .o, .a 0, .t (i_gt ((A0 (y1).toNat)).fImm (28#32)) h9, .o, .o, .o, .a 0, .cg (ok_insn_names hU ((A0 (y1).toNat)) true h10), .o, .o, .o, .o, .o, .a 0, .v .i64 (z_of_ii (by decide) ((A0 (y1).toNat)).fImm), .o, .cg (ok_insn_callable hU a0 p0 q0 n0 k0 A0 hR0 (IntKind.i64.wrap ((IntKind.i64.wrap (y1 + 1)) + (ii ((A0 (y1).toNat)).fImm))) false e_r1), .o, .o, .o, .o]
    [] (fun b => by kernel_rfl)
theorem p30_insn_checkSlot (h0 : (inR y1 n0) = true) (h1 : (m_insn_known ((A0 (y1).toNat))) = true) (h2 : (BitVec.ult (10#8) ((A0 (y1).toNat)).fDst) = false) (h3 : (BitVec.ult (10#8) ((A0 (y1).toNat)).fSrc) = false) (h4 : (((A0 (y1).toNat)).fDst == 10#8) = false) (h5 : (((A0 (y1).toNat)).fOp == 24#8) = true) (e_r0 : m_op_RightSecond n0 A0 y1 = some true) (h6 : (((A0 (y1).toNat)).fOp == 133#8) = true) (h7 : (((A0 (y1).toNat)).fSrc == 0#8) = true) (h8 : (BitVec.slt ((A0 (y1).toNat)).fImm (1#32)) = false) (h9 : (BitVec.slt (28#32) ((A0 (y1).toNat)).fImm) = false) (h10 : (m_insn_names ((A0 (y1).toNat))) = false) : ConG Try.prog S 32 #[.slice a0 n0 (n0 + k0), .int .i64 (y1)] (.int .i64 (0)) :=
  fn_conG hU (P := Try.prog) Try.func32 (fun xs w => by kernel_rfl) [.slice a0 n0 (n0 + k0), .int .i64 (y1)] (.int .i64 (0))
    [.o, .o, .o, .q (ixRo_ok (kd := .i64) (T := 22) (x := y1) (sz := 5) rfl (fun w => by kernel_rfl) hR0 h0), .l (accRo hR0 c_Insn_len (inR_nat h0) 0 [.int .u8 (nn ((A0 (y1).toNat)).fOp), .int .u8 (nn ((A0 (y1).toNat)).fDst), .int .u8 (nn ((A0 (y1).toNat)).fSrc), .int .i16 (ii ((A0 (y1).toNat)).fOff), .int .i32 (ii ((A0 (y1).toNat)).fImm)] rfl), .o, .a 0, .a 0, .cg (ok_insn_known hU ((A0 (y1).toNat)) true h1), .o, .o, .o, .a 0, .t (u_gt ((A0 (y1).toNat)).fDst (10#8)) h2, .o, .o, .a 0, .t (u_gt ((A0 (y1).toNat)).fSrc (10#8)) h3, .o, .o, .o, .a 0, .t (u_eq ((A0 (y1).toNat)).fDst (10#8)) h4, .o, .o, .o, .o, .o, .a 0, .t (u_eq ((A0 (y1).toNat)).fOp (24#8)) h5, .o, .o, .o, .cg (ok_op_RightSecond hU a0 p0 q0 n0 k0 A0 hR0 y1 true e_r0), .o, .o, .o, .o, .a 0, .t (u_eq ((A0 (y1).toNat)).fOp (133#8)) h6, .o, .o, .a 0, .t (u_eq ((A0 (y1).toNat)).fSrc (0#8)) h7, .o, .o, .o, .a 0, .t (i_lt ((A0 (y1).toNat)).fImm (1#32)) h8, .o, .o, .a 0, .t (i_gt ((A0 (y1).toNat)).fImm (28#32)) h9, .o, .o, .o, .a 0, .cg (ok_insn_names hU ((A0 (y1).toNat)) false h10), .o, .o, .o, .o]
    [] (fun b => by kernel_rfl)
theorem p31_insn_checkSlot (h0 : (inR y1 n0) = true) (h1 : (m_insn_known ((A0 (y1).toNat))) = true) (h2 : (BitVec.ult (10#8) ((A0 (y1).toNat)).fDst) = false) (h3 : (BitVec.ult (10#8) ((A0 (y1).toNat)).fSrc) = false) (h4 : (((A0 (y1).toNat)).fDst == 10#8) = false) (h5 : (((A0 (y1).toNat)).fOp == 24#8) = true) (e_r0 : m_op_RightSecond n0 A0 y1 = some true) (h6 : (((A0 (y1).toNat)).fOp == 133#8) = true) (h7 : (((A0 (y1).toNat)).fSrc == 0#8) = false) (h8 : (m_insn_names ((A0 (y1).toNat))) = true) (e_r1 : m_insn_callable n0 A0 (IntKind.i64.wrap ((IntKind.i64.wrap (y1 + 1)) + (ii ((A0 (y1).toNat)).fImm))) = some true) : ConG Try.prog S 32 #[.slice a0 n0 (n0 + k0), .int .i64 (y1)] (.int .i64 (0)) :=
  fn_conG hU (P := Try.prog) Try.func32 (fun xs w => by kernel_rfl) [.slice a0 n0 (n0 + k0), .int .i64 (y1)] (.int .i64 (0))
    [.o, .o, .o, .q (ixRo_ok (kd := .i64) (T := 22) (x := y1) (sz := 5) rfl (fun w => by kernel_rfl) hR0 h0), .l (accRo hR0 c_Insn_len (inR_nat h0) 0 [.int .u8 (nn ((A0 (y1).toNat)).fOp), .int .u8 (nn ((A0 (y1).toNat)).fDst), .int .u8 (nn ((A0 (y1).toNat)).fSrc), .int .i16 (ii ((A0 (y1).toNat)).fOff), .int .i32 (ii ((A0 (y1).toNat)).fImm)] rfl), .o, .a 0, .a 0, .cg (ok_insn_known hU ((A0 (y1).toNat)) true h1), .o, .o, .o, .a 0, .t (u_gt ((A0 (y1).toNat)).fDst (10#8)) h2, .o, .o, .a 0, .t (u_gt ((A0 (y1).toNat)).fSrc (10#8)) h3, .o, .o, .o, .a 0, .t (u_eq ((A0 (y1).toNat)).fDst (10#8)) h4, .o, .o, .o, .o, .o, .a 0, .t (u_eq ((A0 (y1).toNat)).fOp (24#8)) h5, .o, .o, .o, .cg (ok_op_RightSecond hU a0 p0 q0 n0 k0 A0 hR0 y1 true e_r0), .o, .o, .o, .o, .a 0, .t (u_eq ((A0 (y1).toNat)).fOp (133#8)) h6, .o, .o, .a 0, .t (u_eq ((A0 (y1).toNat)).fSrc (0#8)) h7, .o, .o, .o, .o, .a 0, .cg (ok_insn_names hU ((A0 (y1).toNat)) true h8), .o, .o, .o, .o, .o, .a 0, .v .i64 (z_of_ii (by decide) ((A0 (y1).toNat)).fImm), .o, .cg (ok_insn_callable hU a0 p0 q0 n0 k0 A0 hR0 (IntKind.i64.wrap ((IntKind.i64.wrap (y1 + 1)) + (ii ((A0 (y1).toNat)).fImm))) true e_r1), .o, .o, .o, .o]
    [] (fun b => by kernel_rfl)
theorem p32_insn_checkSlot (h0 : (inR y1 n0) = true) (h1 : (m_insn_known ((A0 (y1).toNat))) = true) (h2 : (BitVec.ult (10#8) ((A0 (y1).toNat)).fDst) = false) (h3 : (BitVec.ult (10#8) ((A0 (y1).toNat)).fSrc) = false) (h4 : (((A0 (y1).toNat)).fDst == 10#8) = false) (h5 : (((A0 (y1).toNat)).fOp == 24#8) = true) (e_r0 : m_op_RightSecond n0 A0 y1 = some true) (h6 : (((A0 (y1).toNat)).fOp == 133#8) = true) (h7 : (((A0 (y1).toNat)).fSrc == 0#8) = false) (h8 : (m_insn_names ((A0 (y1).toNat))) = true) (e_r1 : m_insn_callable n0 A0 (IntKind.i64.wrap ((IntKind.i64.wrap (y1 + 1)) + (ii ((A0 (y1).toNat)).fImm))) = some false) : ConG Try.prog S 32 #[.slice a0 n0 (n0 + k0), .int .i64 (y1)] (.int .i64 (14)) :=
  fn_conG hU (P := Try.prog) Try.func32 (fun xs w => by kernel_rfl) [.slice a0 n0 (n0 + k0), .int .i64 (y1)] (.int .i64 (14))
    [.o, .o, .o, .q (ixRo_ok (kd := .i64) (T := 22) (x := y1) (sz := 5) rfl (fun w => by kernel_rfl) hR0 h0), .l (accRo hR0 c_Insn_len (inR_nat h0) 0 [.int .u8 (nn ((A0 (y1).toNat)).fOp), .int .u8 (nn ((A0 (y1).toNat)).fDst), .int .u8 (nn ((A0 (y1).toNat)).fSrc), .int .i16 (ii ((A0 (y1).toNat)).fOff), .int .i32 (ii ((A0 (y1).toNat)).fImm)] rfl), .o, .a 0, .a 0, .cg (ok_insn_known hU ((A0 (y1).toNat)) true h1), .o, .o, .o, .a 0, .t (u_gt ((A0 (y1).toNat)).fDst (10#8)) h2, .o, .o, .a 0, .t (u_gt ((A0 (y1).toNat)).fSrc (10#8)) h3, .o, .o, .o, .a 0, .t (u_eq ((A0 (y1).toNat)).fDst (10#8)) h4, .o, .o, .o, .o, .o, .a 0, .t (u_eq ((A0 (y1).toNat)).fOp (24#8)) h5, .o, .o, .o, .cg (ok_op_RightSecond hU a0 p0 q0 n0 k0 A0 hR0 y1 true e_r0), .o, .o, .o, .o, .a 0, .t (u_eq ((A0 (y1).toNat)).fOp (133#8)) h6, .o, .o, .a 0, .t (u_eq ((A0 (y1).toNat)).fSrc (0#8)) h7, .o, .o, .o, .o, .a 0, .cg (ok_insn_names hU ((A0 (y1).toNat)) true h8), .o, .o, .o, .o, .o, .a 0, .v .i64 (z_of_ii (by decide) ((A0 (y1).toNat)).fImm), .o, .cg (ok_insn_callable hU a0 p0 q0 n0 k0 A0 hR0 (IntKind.i64.wrap ((IntKind.i64.wrap (y1 + 1)) + (ii ((A0 (y1).toNat)).fImm))) false e_r1), .o, .o, .o, .o]
    [] (fun b => by kernel_rfl)
theorem p33_insn_checkSlot (h0 : (inR y1 n0) = true) (h1 : (m_insn_known ((A0 (y1).toNat))) = true) (h2 : (BitVec.ult (10#8) ((A0 (y1).toNat)).fDst) = false) (h3 : (BitVec.ult (10#8) ((A0 (y1).toNat)).fSrc) = false) (h4 : (((A0 (y1).toNat)).fDst == 10#8) = false) (h5 : (((A0 (y1).toNat)).fOp == 24#8) = true) (e_r0 : m_op_RightSecond n0 A0 y1 = some true) (h6 : (((A0 (y1).toNat)).fOp == 133#8) = true) (h7 : (((A0 (y1).toNat)).fSrc == 0#8) = false) (h8 : (m_insn_names ((A0 (y1).toNat))) = false) : ConG Try.prog S 32 #[.slice a0 n0 (n0 + k0), .int .i64 (y1)] (.int .i64 (0)) :=
  fn_conG hU (P := Try.prog) Try.func32 (fun xs w => by kernel_rfl) [.slice a0 n0 (n0 + k0), .int .i64 (y1)] (.int .i64 (0))
    [.o, .o, .o, .q (ixRo_ok (kd := .i64) (T := 22) (x := y1) (sz := 5) rfl (fun w => by kernel_rfl) hR0 h0), .l (accRo hR0 c_Insn_len (inR_nat h0) 0 [.int .u8 (nn ((A0 (y1).toNat)).fOp), .int .u8 (nn ((A0 (y1).toNat)).fDst), .int .u8 (nn ((A0 (y1).toNat)).fSrc), .int .i16 (ii ((A0 (y1).toNat)).fOff), .int .i32 (ii ((A0 (y1).toNat)).fImm)] rfl), .o, .a 0, .a 0, .cg (ok_insn_known hU ((A0 (y1).toNat)) true h1), .o, .o, .o, .a 0, .t (u_gt ((A0 (y1).toNat)).fDst (10#8)) h2, .o, .o, .a 0, .t (u_gt ((A0 (y1).toNat)).fSrc (10#8)) h3, .o, .o, .o, .a 0, .t (u_eq ((A0 (y1).toNat)).fDst (10#8)) h4, .o, .o, .o, .o, .o, .a 0, .t (u_eq ((A0 (y1).toNat)).fOp (24#8)) h5, .o, .o, .o, .cg (ok_op_RightSecond hU a0 p0 q0 n0 k0 A0 hR0 y1 true e_r0), .o, .o, .o, .o, .a 0, .t (u_eq ((A0 (y1).toNat)).fOp (133#8)) h6, .o, .o, .a 0, .t (u_eq ((A0 (y1).toNat)).fSrc (0#8)) h7, .o, .o, .o, .o, .a 0, .cg (ok_insn_names hU ((A0 (y1).toNat)) false h8), .o, .o, .o, .o]
    [] (fun b => by kernel_rfl)
theorem p34_insn_checkSlot (h0 : (inR y1 n0) = true) (h1 : (m_insn_known ((A0 (y1).toNat))) = true) (h2 : (BitVec.ult (10#8) ((A0 (y1).toNat)).fDst) = false) (h3 : (BitVec.ult (10#8) ((A0 (y1).toNat)).fSrc) = false) (h4 : (((A0 (y1).toNat)).fDst == 10#8) = false) (h5 : (((A0 (y1).toNat)).fOp == 24#8) = true) (e_r0 : m_op_RightSecond n0 A0 y1 = some true) (h6 : (((A0 (y1).toNat)).fOp == 133#8) = false) (h7 : (m_insn_names ((A0 (y1).toNat))) = true) (e_r1 : m_insn_callable n0 A0 (IntKind.i64.wrap ((IntKind.i64.wrap (y1 + 1)) + (ii ((A0 (y1).toNat)).fImm))) = some true) : ConG Try.prog S 32 #[.slice a0 n0 (n0 + k0), .int .i64 (y1)] (.int .i64 (0)) :=
  fn_conG hU (P := Try.prog) Try.func32 (fun xs w => by kernel_rfl) [.slice a0 n0 (n0 + k0), .int .i64 (y1)] (.int .i64 (0))
    [.o, .o, .o, .q (ixRo_ok (kd := .i64) (T := 22) (x := y1) (sz := 5) rfl (fun w => by kernel_rfl) hR0 h0), .l (accRo hR0 c_Insn_len (inR_nat h0) 0 [.int .u8 (nn ((A0 (y1).toNat)).fOp), .int .u8 (nn ((A0 (y1).toNat)).fDst), .int .u8 (nn ((A0 (y1).toNat)).fSrc), .int .i16 (ii ((A0 (y1).toNat)).fOff), .int .i32 (ii ((A0 (y1).toNat)).fImm)] rfl), .o, .a 0, .a 0, .cg (ok_insn_known hU ((A0 (y1).toNat)) true h1), .o, .o, .o, .a 0, .t (u_gt ((A0 (y1).toNat)).fDst (10#8)) h2, .o, .o, .a 0, .t (u_gt ((A0 (y1).toNat)).fSrc (10#8)) h3, .o, .o, .o, .a 0, .t (u_eq ((A0 (y1).toNat)).fDst (10#8)) h4, .o, .o, .o, .o, .o, .a 0, .t (u_eq ((A0 (y1).toNat)).fOp (24#8)) h5, .o, .o, .o, .cg (ok_op_RightSecond hU a0 p0 q0 n0 k0 A0 hR0 y1 true e_r0), .o, .o, .o, .o, .a 0, .t (u_eq ((A0 (y1).toNat)).fOp (133#8)) h6, .o, .o, .o, .o, .o, .a 0, .cg (ok_insn_names hU ((A0 (y1).toNat)) true h7), .o, .o, .o, .o, .o, .a 0, .v .i64 (z_of_ii (by decide) ((A0 (y1).toNat)).fImm), .o, .cg (ok_insn_callable hU a0 p0 q0 n0 k0 A0 hR0 (IntKind.i64.wrap ((IntKind.i64.wrap (y1 + 1)) + (ii ((A0 (y1).toNat)).fImm))) true e_r1), .o, .o, .o, .o]
    [] (fun b => by kernel_rfl)
theorem p35_insn_checkSlot (h0 : (inR y1 n0) = true) (h1 : (m_insn_known ((A0 (y1).toNat))) = true) (h2 : (BitVec.ult (10#8) ((A0 (y1).toNat)).fDst) = false) (h3 : (BitVec.ult (10#8) ((A0 (y1).toNat)).fSrc) = false) (h4 : (((A0 (y1).toNat)).fDst == 10#8) = false) (h5 : (((A0 (y1).toNat)).fOp == 24#8) = true) (e_r0 : m_op_RightSecond n0 A0 y1 = some true) (h6 : (((A0 (y1).toNat)).fOp == 133#8) = false) (h7 : (m_insn_names ((A0 (y1).toNat))) = true) (e_r1 : m_insn_callable n0 A0 (IntKind.i64.wrap ((IntKind.i64.wrap (y1 + 1)) + (ii ((A0 (y1).toNat)).fImm))) = some false) : ConG Try.prog S 32 #[.slice a0 n0 (n0 + k0), .int .i64 (y1)] (.int .i64 (14)) :=
  fn_conG hU (P := Try.prog) Try.func32 (fun xs w => by kernel_rfl) [.slice a0 n0 (n0 + k0), .int .i64 (y1)] (.int .i64 (14))
    [.o, .o, .o, .q (ixRo_ok (kd := .i64) (T := 22) (x := y1) (sz := 5) rfl (fun w => by kernel_rfl) hR0 h0), .l (accRo hR0 c_Insn_len (inR_nat h0) 0 [.int .u8 (nn ((A0 (y1).toNat)).fOp), .int .u8 (nn ((A0 (y1).toNat)).fDst), .int .u8 (nn ((A0 (y1).toNat)).fSrc), .int .i16 (ii ((A0 (y1).toNat)).fOff), .int .i32 (ii ((A0 (y1).toNat)).fImm)] rfl), .o, .a 0, .a 0, .cg (ok_insn_known hU ((A0 (y1).toNat)) true h1), .o, .o, .o, .a 0, .t (u_gt ((A0 (y1).toNat)).fDst (10#8)) h2, .o, .o, .a 0, .t (u_gt ((A0 (y1).toNat)).fSrc (10#8)) h3, .o, .o, .o, .a 0, .t (u_eq ((A0 (y1).toNat)).fDst (10#8)) h4, .o, .o, .o, .o, .o, .a 0, .t (u_eq ((A0 (y1).toNat)).fOp (24#8)) h5, .o, .o, .o, .cg (ok_op_RightSecond hU a0 p0 q0 n0 k0 A0 hR0 y1 true e_r0), .o, .o, .o, .o, .a 0, .t (u_eq ((A0 (y1).toNat)).fOp (133#8)) h6, .o, .o, .o, .o, .o, .a 0, .cg (ok_insn_names hU ((A0 (y1).toNat)) true h7), .o, .o, .o, .o, .o, .a 0, .v .i64 (z_of_ii (by decide) ((A0 (y1).toNat)).fImm), .o, .cg (ok_insn_callable hU a0 p0 q0 n0 k0 A0 hR0 (IntKind.i64.wrap ((IntKind.i64.wrap (y1 + 1)) + (ii ((A0 (y1).toNat)).fImm))) false e_r1), .o, .o, .o, .o]
    [] (fun b => by kernel_rfl)
theorem p36_insn_checkSlot (h0 : (inR y1 n0) = true) (h1 : (m_insn_known ((A0 (y1).toNat))) = true) (h2 : (BitVec.ult (10#8) ((A0 (y1).toNat)).fDst) = false) (h3 : (BitVec.ult (10#8) ((A0 (y1).toNat)).fSrc) = false) (h4 : (((A0 (y1).toNat)).fDst == 10#8) = false) (h5 : (((A0 (y1).toNat)).fOp == 24#8) = true) (e_r0 : m_op_RightSecond n0 A0 y1 = some true) (h6 : (((A0 (y1).toNat)).fOp == 133#8) = false) (h7 : (m_insn_names ((A0 (y1).toNat))) = false) : ConG Try.prog S 32 #[.slice a0 n0 (n0 + k0), .int .i64 (y1)] (.int .i64 (0)) :=
  fn_conG hU (P := Try.prog) Try.func32 (fun xs w => by kernel_rfl) [.slice a0 n0 (n0 + k0), .int .i64 (y1)] (.int .i64 (0))
    [.o, .o, .o, .q (ixRo_ok (kd := .i64) (T := 22) (x := y1) (sz := 5) rfl (fun w => by kernel_rfl) hR0 h0), .l (accRo hR0 c_Insn_len (inR_nat h0) 0 [.int .u8 (nn ((A0 (y1).toNat)).fOp), .int .u8 (nn ((A0 (y1).toNat)).fDst), .int .u8 (nn ((A0 (y1).toNat)).fSrc), .int .i16 (ii ((A0 (y1).toNat)).fOff), .int .i32 (ii ((A0 (y1).toNat)).fImm)] rfl), .o, .a 0, .a 0, .cg (ok_insn_known hU ((A0 (y1).toNat)) true h1), .o, .o, .o, .a 0, .t (u_gt ((A0 (y1).toNat)).fDst (10#8)) h2, .o, .o, .a 0, .t (u_gt ((A0 (y1).toNat)).fSrc (10#8)) h3, .o, .o, .o, .a 0, .t (u_eq ((A0 (y1).toNat)).fDst (10#8)) h4, .o, .o, .o, .o, .o, .a 0, .t (u_eq ((A0 (y1).toNat)).fOp (24#8)) h5, .o, .o, .o, .cg (ok_op_RightSecond hU a0 p0 q0 n0 k0 A0 hR0 y1 true e_r0), .o, .o, .o, .o, .a 0, .t (u_eq ((A0 (y1).toNat)).fOp (133#8)) h6, .o, .o, .o, .o, .o, .a 0, .cg (ok_insn_names hU ((A0 (y1).toNat)) false h7), .o, .o, .o, .o]
    [] (fun b => by kernel_rfl)
theorem p37_insn_checkSlot (h0 : (inR y1 n0) = true) (h1 : (m_insn_known ((A0 (y1).toNat))) = true) (h2 : (BitVec.ult (10#8) ((A0 (y1).toNat)).fDst) = false) (h3 : (BitVec.ult (10#8) ((A0 (y1).toNat)).fSrc) = false) (h4 : (((A0 (y1).toNat)).fDst == 10#8) = false) (h5 : (((A0 (y1).toNat)).fOp == 24#8) = true) (e_r0 : m_op_RightSecond n0 A0 y1 = some false) : ConG Try.prog S 32 #[.slice a0 n0 (n0 + k0), .int .i64 (y1)] (.int .i64 (13)) :=
  fn_conG hU (P := Try.prog) Try.func32 (fun xs w => by kernel_rfl) [.slice a0 n0 (n0 + k0), .int .i64 (y1)] (.int .i64 (13))
    [.o, .o, .o, .q (ixRo_ok (kd := .i64) (T := 22) (x := y1) (sz := 5) rfl (fun w => by kernel_rfl) hR0 h0), .l (accRo hR0 c_Insn_len (inR_nat h0) 0 [.int .u8 (nn ((A0 (y1).toNat)).fOp), .int .u8 (nn ((A0 (y1).toNat)).fDst), .int .u8 (nn ((A0 (y1).toNat)).fSrc), .int .i16 (ii ((A0 (y1).toNat)).fOff), .int .i32 (ii ((A0 (y1).toNat)).fImm)] rfl), .o, .a 0, .a 0, .cg (ok_insn_known hU ((A0 (y1).toNat)) true h1), .o, .o, .o, .a 0, .t (u_gt ((A0 (y1).toNat)).fDst (10#8)) h2, .o, .o, .a 0, .t (u_gt ((A0 (y1).toNat)).fSrc (10#8)) h3, .o, .o, .o, .a 0, .t (u_eq ((A0 (y1).toNat)).fDst (10#8)) h4, .o, .o, .o, .o, .o, .a 0, .t (u_eq ((A0 (y1).toNat)).fOp (24#8)) h5, .o, .o, .o, .cg (ok_op_RightSecond hU a0 p0 q0 n0 k0 A0 hR0 y1 false e_r0), .o, .o, .o, .o]
    [] (fun b => by kernel_rfl)
theorem p38_insn_checkSlot (h0 : (inR y1 n0) = true) (h1 : (m_insn_known ((A0 (y1).toNat))) = true) (h2 : (BitVec.ult (10#8) ((A0 (y1).toNat)).fDst) = false) (h3 : (BitVec.ult (10#8) ((A0 (y1).toNat)).fSrc) = false) (h4 : (((A0 (y1).toNat)).fDst == 10#8) = false) (h5 : (((A0 (y1).toNat)).fOp == 24#8) = false) (h6 : (((A0 (y1).toNat)).fOp == 133#8) = true) (h7 : (((A0 (y1).toNat)).fSrc == 0#8) = true) (h8 : (BitVec.slt ((A0 (y1).toNat)).fImm (1#32)) = true) : ConG Try.prog S 32 #[.slice a0 n0 (n0 + k0), .int .i64 (y1)] (.int .i64 (14)) :=
  fn_conG hU (P := Try.prog) Try.func32 (fun xs w => by kernel_rfl) [.slice a0 n0 (n0 + k0), .int .i64 (y1)] (.int .i64 (14))
    [.o, .o, .o, .q (ixRo_ok (kd := .i64) (T := 22) (x := y1) (sz := 5) rfl (fun w => by kernel_rfl) hR0 h0), .l (accRo hR0 c_Insn_len (inR_nat h0) 0 [.int .u8 (nn ((A0 (y1).toNat)).fOp), .int .u8 (nn ((A0 (y1).toNat)).fDst), .int .u8 (nn ((A0 (y1).toNat)).fSrc), .int .i16 (ii ((A0 (y1).toNat)).fOff), .int .i32 (ii ((A0 (y1).toNat)).fImm)] rfl), .o, .a 0, .a 0, .cg (ok_insn_known hU ((A0 (y1).toNat)) true h1), .o, .o, .o, .a 0, .t (u_gt ((A0 (y1).toNat)).fDst (10#8)) h2, .o, .o, .a 0, .t (u_gt ((A0 (y1).toNat)).fSrc (10#8)) h3, .o, .o, .o, .a 0, .t (u_eq ((A0 (y1).toNat)).fDst (10#8)) h4, .o, .o, .o, .o, .o, .a 0, .t (u_eq ((A0 (y1).toNat)).fOp (24#8)) h5, .o, .o, .o, .o, .a 0, .t (u_eq ((A0 (y1).toNat)).fOp (133#8)) h6, .o, .o, .a 0, .t (u_eq ((A0 (y1).toNat)).fSrc (0#8)) h7, .o, .o, .o, .a 0, .t (i_lt ((A0 (y1).toNat)).fImm (1#32)) h8, .o, .o, .o, .o, .o]
    [] (fun b => by kernel_rfl)
theorem p39_insn_checkSlot (h0 : (inR y1 n0) = true) (h1 : (m_insn_known ((A0 (y1).toNat))) = true) (h2 : (BitVec.ult (10#8) ((A0 (y1).toNat)).fDst) = false) (h3 : (BitVec.ult (10#8) ((A0 (y1).toNat)).fSrc) = false) (h4 : (((A0 (y1).toNat)).fDst == 10#8) = false) (h5 : (((A0 (y1).toNat)).fOp == 24#8) = false) (h6 : (((A0 (y1).toNat)).fOp == 133#8) = true) (h7 : (((A0 (y1).toNat)).fSrc == 0#8) = true) (h8 : (BitVec.slt ((A0 (y1).toNat)).fImm (1#32)) = false) (h9 : (BitVec.slt (28#32) ((A0 (y1).toNat)).fImm) = true) : ConG Try.prog S 32 #[.slice a0 n0 (n0 + k0), .int .i64 (y1)] (.int .i64 (14)) :=
  fn_conG hU (P := Try.prog) Try.func32 (fun xs w => by kernel_rfl) [.slice a0 n0 (n0 + k0), .int .i64 (y1)] (.int .i64 (14))
    [.o, .o, .o, .q (ixRo_ok (kd := .i64) (T := 22) (x := y1) (sz := 5) rfl (fun w => by kernel_rfl) hR0 h0), .l (accRo hR0 c_Insn_len (inR_nat h0) 0 [.int .u8 (nn ((A0 (y1).toNat)).fOp), .int .u8 (nn ((A0 (y1).toNat)).fDst), .int .u8 (nn ((A0 (y1).toNat)).fSrc), .int .i16 (ii ((A0 (y1).toNat)).fOff), .int .i32 (ii ((A0 (y1).toNat)).fImm)] rfl), .o, .a 0, .a 0, .cg (ok_insn_known hU ((A0 (y1).toNat)) true h1), .o, .o, .o, .a 0, .t (u_gt ((A0 (y1).toNat)).fDst (10#8)) h2, .o, .o, .a 0, .t (u_gt ((A0 (y1).toNat)).fSrc (10#8)) h3, .o, .o, .o, .a 0, .t (u_eq ((A0 (y1).toNat)).fDst (10#8)) h4, .o, .o, .o, .o, .o, .a 0, .t (u_eq ((A0 (y1).toNat)).fOp (24#8)) h5, .o, .o, .o, .o, .a 0, .t (u_eq ((A0 (y1).toNat)).fOp (133#8)) h6, .o, .o, .a 0, .t (u_eq ((A0 (y1).toNat)).fSrc (0#8)) h7, .o, .o, .o, .a 0, .t (i_lt ((A0 (y1).toNat)).fImm (1#32)) h8, .o, .o, .a 0, .t (i_gt ((A0 (y1).toNat)).fImm (28#32)) h9, .o, .o, .o, .o]
    [] (fun b => by kernel_rfl)
theorem p40_insn_checkSlot (h0 : (inR y1 n0) = true) (h1 : (m_insn_known ((A0 (y1).toNat))) = true) (h2 : (BitVec.ult (10#8) ((A0 (y1).toNat)).fDst) = false) (h3 : (BitVec.ult (10#8) ((A0 (y1).toNat)).fSrc) = false) (h4 : (((A0 (y1).toNat)).fDst == 10#8) = false) (h5 : (((A0 (y1).toNat)).fOp == 24#8) = false) (h6 : (((A0 (y1).toNat)).fOp == 133#8) = true) (h7 : (((A0 (y1).toNat)).fSrc == 0#8) = true) (h8 : (BitVec.slt ((A0 (y1).toNat)).fImm (1#32)) = false) (h9 : (BitVec.slt (28#32) ((A0 (y1).toNat)).fImm) = false) (h10 : (m_insn_names ((A0 (y1).toNat))) = true) (e_r0 : m_insn_callable n0 A0 (IntKind.i64.wrap ((IntKind.i64.wrap (y1 + 1)) + (ii ((A0 (y1).toNat)).fImm))) = some true) : ConG Try.prog S 32 #[.slice a0 n0 (n0 + k0), .int .i64 (y1)] (.int .i64 (0)) :=
  fn_conG hU (P := Try.prog) Try.func32 (fun xs w => by kernel_rfl) [.slice a0 n0 (n0 + k0), .int .i64 (y1)] (.int .i64 (0))
    [.o, .o, .o, .q (ixRo_ok (kd := .i64) (T := 22) (x := y1) (sz := 5) rfl (fun w => by kernel_rfl) hR0 h0), .l (accRo hR0 c_Insn_len (inR_nat h0) 0 [.int .u8 (nn ((A0 (y1).toNat)).fOp), .int .u8 (nn ((A0 (y1).toNat)).fDst), .int .u8 (nn ((A0 (y1).toNat)).fSrc), .int .i16 (ii ((A0 (y1).toNat)).fOff), .int .i32 (ii ((A0 (y1).toNat)).fImm)] rfl), .o, .a 0, .a 0, .cg (ok_insn_known hU ((A0 (y1).toNat)) true h1), .o, .o, .o, .a 0, .t (u_gt ((A0 (y1).toNat)).fDst (10#8)) h2, .o, .o, .a 0, .t (u_gt ((A0 (y1).toNat)).fSrc (10#8)) h3, .o, .o, .o, .a 0, .t (u_eq ((A0 (y1).toNat)).fDst (10#8)) h4, .o, .o, .o, .o, .o, .a 0, .t (u_eq ((A0 (y1).toNat)).fOp (24#8)) h5, .o, .o, .o, .o, .a 0, .t (u_eq ((A0 (y1).toNat)).fOp (133#8)) h6, .o, .o, .a 0, .t (u_eq ((A0 (y1).toNat)).fSrc (0#8)) h7, .o, .o, .o, .a 0, .t (i_lt ((A0 (y1).toNat)).fImm (1#32)) h8, .o, .o, .a 0, .t (i_gt ((A0 (y1).toNat)).fImm (28#32)) h9, .o, .o, .o, .a 0, .cg (ok_insn_names hU ((A0 (y1).toNat)) true h10), .o, .o, .o, .o, .o, .a 0, .v .i64 (z_of_ii (by decide) ((A0 (y1).toNat)).fImm), .o, .cg (ok_insn_callable hU a0 p0 q0 n0 k0 A0 hR0 (IntKind.i64.wrap ((IntKind.i64.wrap (y1 + 1)) + (ii ((A0 (y1).toNat)).fImm))) true e_r0), .o, .o, .o, .o]
    [] (fun b => by kernel_rfl)
theorem p41_insn_checkSlot (h0 : (inR y1 n0) = true) (h1 : (m_insn_known ((A0 (y1).toNat))) = true) (h2 : (BitVec.ult (10#8) ((A0 (y1).toNat)).fDst) = false) (h3 : (BitVec.ult (10#8) ((A0 (y1).toNat)).fSrc) = false) (h4 : (((A0 (y1).toNat)).fDst == 10#8) = false) (h5 : (((A0 (y1).toNat)).fOp == 24#8) = false) (h6 : (((A0 (y1).toNat)).fOp == 133#8) = true) (h7 : (((A0 (y1).toNat)).fSrc == 0#8) = true) (h8 : (BitVec.slt ((A0 (y1).toNat)).fImm (1#32)) = false) (h9 : (BitVec.slt (28#32) ((A0 (y1).toNat)).fImm) = false) (h10 : (m_insn_names ((A0 (y1).toNat))) = true) (e_r0 : m_insn_callable n0 A0 (IntKind.i64.wrap ((IntKind.i64.wrap (y1 + 1)) + (ii ((A0 (y1).toNat)).fImm))) = some false) : ConG Try.prog S 32 #[.slice a0 n0 (n0 + k0), .int .i64 (y1)] (.int .i64 (14)) :=
  fn_conG hU (P := Try.prog) Try.func32 (fun xs w => by kernel_rfl) [.slice a0 n0 (n0 + k0), .int .i64 (y1)] (.int .i64 (14))
    [.o, .o, .o, .q (ixRo_ok (kd := .i64) (T := 22) (x := y1) (sz := 5) rfl (fun w => by kernel_rfl) hR0 h0), .l (accRo hR0 c_Insn_len (inR_nat h0) 0 [.int .u8 (nn ((A0 (y1).toNat)).fOp), .int .u8 (nn ((A0 (y1).toNat)).fDst), .int .u8 (nn ((A0 (y1).toNat)).fSrc), .int .i16 (ii ((A0 (y1).toNat)).fOff), .int .i32 (ii ((A0 (y1).toNat)).fImm)] rfl), .o, .a 0, .a 0, .cg (ok_insn_known hU ((A0 (y1).toNat)) true h1), .o, .o, .o, .a 0, .t (u_gt ((A0 (y1).toNat)).fDst (10#8)) h2, .o, .o, .a 0, .t (u_gt ((A0 (y1).toNat)).fSrc (10#8)) h3, .o, .o, .o, .a 0, .t (u_eq ((A0 (y1).toNat)).fDst (10#8)) h4, .o, .o, .o, .o, .o, .a 0, .t (u_eq ((A0 (y1).toNat)).fOp (24#8)) h5, .o, .o, .o, .o, .a 0, .t (u_eq ((A0 (y1).toNat)).fOp (133#8)) h6, .o, .o, .a 0, .t (u_eq ((A0 (y1).toNat)).fSrc (0#8)) h7, .o, .o, .o, .a 0, .t (i_lt ((A0 (y1).toNat)).fImm (1#32)) h8, .o, .o, .a 0, .t (i_gt ((A0 (y1).toNat)).fImm (28#32)) h9, .o, .o, .o, .a 0, .cg (ok_insn_names hU ((A0 (y1).toNat)) true h10), .o, .o, .o, .o, .o, .a 0, .v .i64 (z_of_ii (by decide) ((A0 (y1).toNat)).fImm), .o, .cg (ok_insn_callable hU a0 p0 q0 n0 k0 A0 hR0 (IntKind.i64.wrap ((IntKind.i64.wrap (y1 + 1)) + (ii ((A0 (y1).toNat)).fImm))) false e_r0), .o, .o, .o, .o]
    [] (fun b => by kernel_rfl)
theorem p42_insn_checkSlot (h0 : (inR y1 n0) = true) (h1 : (m_insn_known ((A0 (y1).toNat))) = true) (h2 : (BitVec.ult (10#8) ((A0 (y1).toNat)).fDst) = false) (h3 : (BitVec.ult (10#8) ((A0 (y1).toNat)).fSrc) = false) (h4 : (((A0 (y1).toNat)).fDst == 10#8) = false) (h5 : (((A0 (y1).toNat)).fOp == 24#8) = false) (h6 : (((A0 (y1).toNat)).fOp == 133#8) = true) (h7 : (((A0 (y1).toNat)).fSrc == 0#8) = true) (h8 : (BitVec.slt ((A0 (y1).toNat)).fImm (1#32)) = false) (h9 : (BitVec.slt (28#32) ((A0 (y1).toNat)).fImm) = false) (h10 : (m_insn_names ((A0 (y1).toNat))) = false) : ConG Try.prog S 32 #[.slice a0 n0 (n0 + k0), .int .i64 (y1)] (.int .i64 (0)) :=
  fn_conG hU (P := Try.prog) Try.func32 (fun xs w => by kernel_rfl) [.slice a0 n0 (n0 + k0), .int .i64 (y1)] (.int .i64 (0))
    [.o, .o, .o, .q (ixRo_ok (kd := .i64) (T := 22) (x := y1) (sz := 5) rfl (fun w => by kernel_rfl) hR0 h0), .l (accRo hR0 c_Insn_len (inR_nat h0) 0 [.int .u8 (nn ((A0 (y1).toNat)).fOp), .int .u8 (nn ((A0 (y1).toNat)).fDst), .int .u8 (nn ((A0 (y1).toNat)).fSrc), .int .i16 (ii ((A0 (y1).toNat)).fOff), .int .i32 (ii ((A0 (y1).toNat)).fImm)] rfl), .o, .a 0, .a 0, .cg (ok_insn_known hU ((A0 (y1).toNat)) true h1), .o, .o, .o, .a 0, .t (u_gt ((A0 (y1).toNat)).fDst (10#8)) h2, .o, .o, .a 0, .t (u_gt ((A0 (y1).toNat)).fSrc (10#8)) h3, .o, .o, .o, .a 0, .t (u_eq ((A0 (y1).toNat)).fDst (10#8)) h4, .o, .o, .o, .o, .o, .a 0, .t (u_eq ((A0 (y1).toNat)).fOp (24#8)) h5, .o, .o, .o, .o, .a 0, .t (u_eq ((A0 (y1).toNat)).fOp (133#8)) h6, .o, .o, .a 0, .t (u_eq ((A0 (y1).toNat)).fSrc (0#8)) h7, .o, .o, .o, .a 0, .t (i_lt ((A0 (y1).toNat)).fImm (1#32)) h8, .o, .o, .a 0, .t (i_gt ((A0 (y1).toNat)).fImm (28#32)) h9, .o, .o, .o, .a 0, .cg (ok_insn_names hU ((A0 (y1).toNat)) false h10), .o, .o, .o, .o]
    [] (fun b => by kernel_rfl)
theorem p43_insn_checkSlot (h0 : (inR y1 n0) = true) (h1 : (m_insn_known ((A0 (y1).toNat))) = true) (h2 : (BitVec.ult (10#8) ((A0 (y1).toNat)).fDst) = false) (h3 : (BitVec.ult (10#8) ((A0 (y1).toNat)).fSrc) = false) (h4 : (((A0 (y1).toNat)).fDst == 10#8) = false) (h5 : (((A0 (y1).toNat)).fOp == 24#8) = false) (h6 : (((A0 (y1).toNat)).fOp == 133#8) = true) (h7 : (((A0 (y1).toNat)).fSrc == 0#8) = false) (h8 : (m_insn_names ((A0 (y1).toNat))) = true) (e_r0 : m_insn_callable n0 A0 (IntKind.i64.wrap ((IntKind.i64.wrap (y1 + 1)) + (ii ((A0 (y1).toNat)).fImm))) = some true) : ConG Try.prog S 32 #[.slice a0 n0 (n0 + k0), .int .i64 (y1)] (.int .i64 (0)) :=
  fn_conG hU (P := Try.prog) Try.func32 (fun xs w => by kernel_rfl) [.slice a0 n0 (n0 + k0), .int .i64 (y1)] (.int .i64 (0))
    [.o, .o, .o, .q (ixRo_ok (kd := .i64) (T := 22) (x := y1) (sz := 5) rfl (fun w => by kernel_rfl) hR0 h0), .l (accRo hR0 c_Insn_len (inR_nat h0) 0 [.int .u8 (nn ((A0 (y1).toNat)).fOp), .int .u8 (nn ((A0 (y1).toNat)).fDst), .int .u8 (nn ((A0 (y1).toNat)).fSrc), .int .i16 (ii ((A0 (y1).toNat)).fOff), .int .i32 (ii ((A0 (y1).toNat)).fImm)] rfl), .o, .a 0, .a 0, .cg (ok_insn_known hU ((A0 (y1).toNat)) true h1), .o, .o, .o, .a 0, .t (u_gt ((A0 (y1).toNat)).fDst (10#8)) h2, .o, .o, .a 0, .t (u_gt ((A0 (y1).toNat)).fSrc (10#8)) h3, .o, .o, .o, .a 0, .t (u_eq ((A0 (y1).toNat)).fDst (10#8)) h4, .o, .o, .o, .o, .o, .a 0, .t (u_eq ((A0 (y1).toNat)).fOp (24#8)) h5, .o, .o, .o, .o, .a 0, .t (u_eq ((A0 (y1).toNat)).fOp (133#8)) h6, .o, .o, .a 0, .t (u_eq ((A0 (y1).toNat)).fSrc (0#8)) h7, .o, .o, .o, .o, .a 0, .cg (ok_insn_names hU ((A0 (y1).toNat)) true h8), .o, .o, .o, .o, .o, .a 0, .v .i64 (z_of_ii (by decide) ((A0 (y1).toNat)).fImm), .o, .cg (ok_insn_callable hU a0 p0 q0 n0 k0 A0 hR0 (IntKind.i64.wrap ((IntKind.i64.wrap (y1 + 1)) + (ii ((A0 (y1).toNat)).fImm))) true e_r0), .o, .o, .o, .o]
    [] (fun b => by kernel_rfl)
theorem p44_insn_checkSlot (h0 : (inR y1 n0) = true) (h1 : (m_insn_known ((A0 (y1).toNat))) = true) (h2 : (BitVec.ult (10#8) ((A0 (y1).toNat)).fDst) = false) (h3 : (BitVec.ult (10#8) ((A0 (y1).toNat)).fSrc) = false) (h4 : (((A0 (y1).toNat)).fDst == 10#8) = false) (h5 : (((A0 (y1).toNat)).fOp == 24#8) = false) (h6 : (((A0 (y1).toNat)).fOp == 133#8) = true) (h7 : (((A0 (y1).toNat)).fSrc == 0#8) = false) (h8 : (m_insn_names ((A0 (y1).toNat))) = true) (e_r0 : m_insn_callable n0 A0 (IntKind.i64.wrap ((IntKind.i64.wrap (y1 + 1)) + (ii ((A0 (y1).toNat)).fImm))) = some false) : ConG Try.prog S 32 #[.slice a0 n0 (n0 + k0), .int .i64 (y1)] (.int .i64 (14)) :=
  fn_conG hU (P := Try.prog) Try.func32 (fun xs w => by kernel_rfl) [.slice a0 n0 (n0 + k0), .int .i64 (y1)] (.int .i64 (14))
    [.o, .o, .o, .q (ixRo_ok (kd := .i64) (T := 22) (x := y1) (sz := 5) rfl (fun w => by kernel_rfl) hR0 h0), .l (accRo hR0 c_Insn_len (inR_nat h0) 0 [.int .u8 (nn ((A0 (y1).toNat)).fOp), .int .u8 (nn ((A0 (y1).toNat)).fDst), .int .u8 (nn ((A0 (y1).toNat)).fSrc), .int .i16 (ii ((A0 (y1).toNat)).fOff), .int .i32 (ii ((A0 (y1).toNat)).fImm)] rfl), .o, .a 0, .a 0, .cg (ok_insn_known hU ((A0 (y1).toNat)) true h1), .o, .o, .o, .a 0, .t (u_gt ((A0 (y1).toNat)).fDst (10#8)) h2, .o, .o, .a 0, .t (u_gt ((A0 (y1).toNat)).fSrc (10#8)) h3, .o, .o, .o, .a 0, .t (u_eq ((A0 (y1).toNat)).fDst (10#8)) h4, .o, .o, .o, .o, .o, .a 0, .t (u_eq ((A0 (y1).toNat)).fOp (24#8)) h5, .o, .o, .o, .o, .a 0, .t (u_eq ((A0 (y1).toNat)).fOp (133#8)) h6, .o, .o, .a 0, .t (u_eq ((A0 (y1).toNat)).fSrc (0#8)) h7, .o, .o, .o, .o, .a 0, .cg (ok_insn_names hU ((A0 (y1).toNat)) true h8), .o, .o, .o, .o, .o, .a 0, .v .i64 (z_of_ii (by decide) ((A0 (y1).toNat)).fImm), .o, .cg (ok_insn_callable hU a0 p0 q0 n0 k0 A0 hR0 (IntKind.i64.wrap ((IntKind.i64.wrap (y1 + 1)) + (ii ((A0 (y1).toNat)).fImm))) false e_r0), .o, .o, .o, .o]
    [] (fun b => by kernel_rfl)
theorem p45_insn_checkSlot (h0 : (inR y1 n0) = true) (h1 : (m_insn_known ((A0 (y1).toNat))) = true) (h2 : (BitVec.ult (10#8) ((A0 (y1).toNat)).fDst) = false) (h3 : (BitVec.ult (10#8) ((A0 (y1).toNat)).fSrc) = false) (h4 : (((A0 (y1).toNat)).fDst == 10#8) = false) (h5 : (((A0 (y1).toNat)).fOp == 24#8) = false) (h6 : (((A0 (y1).toNat)).fOp == 133#8) = true) (h7 : (((A0 (y1).toNat)).fSrc == 0#8) = false) (h8 : (m_insn_names ((A0 (y1).toNat))) = false) : ConG Try.prog S 32 #[.slice a0 n0 (n0 + k0), .int .i64 (y1)] (.int .i64 (0)) :=
  fn_conG hU (P := Try.prog) Try.func32 (fun xs w => by kernel_rfl) [.slice a0 n0 (n0 + k0), .int .i64 (y1)] (.int .i64 (0))
    [.o, .o, .o, .q (ixRo_ok (kd := .i64) (T := 22) (x := y1) (sz := 5) rfl (fun w => by kernel_rfl) hR0 h0), .l (accRo hR0 c_Insn_len (inR_nat h0) 0 [.int .u8 (nn ((A0 (y1).toNat)).fOp), .int .u8 (nn ((A0 (y1).toNat)).fDst), .int .u8 (nn ((A0 (y1).toNat)).fSrc), .int .i16 (ii ((A0 (y1).toNat)).fOff), .int .i32 (ii ((A0 (y1).toNat)).fImm)] rfl), .o, .a 0, .a 0, .cg (ok_insn_known hU ((A0 (y1).toNat)) true h1), .o, .o, .o, .a 0, .t (u_gt ((A0 (y1).toNat)).fDst (10#8)) h2, .o, .o, .a 0, .t (u_gt ((A0 (y1).toNat)).fSrc (10#8)) h3, .o, .o, .o, .a 0, .t (u_eq ((A0 (y1).toNat)).fDst (10#8)) h4, .o, .o, .o, .o, .o, .a 0, .t (u_eq ((A0 (y1).toNat)).fOp (24#8)) h5, .o, .o, .o, .o, .a 0, .t (u_eq ((A0 (y1).toNat)).fOp (133#8)) h6, .o, .o, .a 0, .t (u_eq ((A0 (y1).toNat)).fSrc (0#8)) h7, .o, .o, .o, .o, .a 0, .cg (ok_insn_names hU ((A0 (y1).toNat)) false h8), .o, .o, .o, .o]
    [] (fun b => by kernel_rfl)
theorem p46_insn_checkSlot (h0 : (inR y1 n0) = true) (h1 : (m_insn_known ((A0 (y1).toNat))) = true) (h2 : (BitVec.ult (10#8) ((A0 (y1).toNat)).fDst) = false) (h3 : (BitVec.ult (10#8) ((A0 (y1).toNat)).fSrc) = false) (h4 : (((A0 (y1).toNat)).fDst == 10#8) = false) (h5 : (((A0 (y1).toNat)).fOp == 24#8) = false) (h6 : (((A0 (y1).toNat)).fOp == 133#8) = false) (h7 : (m_insn_names ((A0 (y1).toNat))) = true) (e_r0 : m_insn_callable n0 A0 (IntKind.i64.wrap ((IntKind.i64.wrap (y1 + 1)) + (ii ((A0 (y1).toNat)).fImm))) = some true) : ConG Try.prog S 32 #[.slice a0 n0 (n0 + k0), .int .i64 (y1)] (.int .i64 (0)) :=
  fn_conG hU (P := Try.prog) Try.func32 (fun xs w => by kernel_rfl) [.slice a0 n0 (n0 + k0), .int .i64 (y1)] (.int .i64 (0))
    [.o, .o, .o, .q (ixRo_ok (kd := .i64) (T := 22) (x := y1) (sz := 5) rfl (fun w => by kernel_rfl) hR0 h0), .l (accRo hR0 c_Insn_len (inR_nat h0) 0 [.int .u8 (nn ((A0 (y1).toNat)).fOp), .int .u8 (nn ((A0 (y1).toNat)).fDst), .int .u8 (nn ((A0 (y1).toNat)).fSrc), .int .i16 (ii ((A0 (y1).toNat)).fOff), .int .i32 (ii ((A0 (y1).toNat)).fImm)] rfl), .o, .a 0, .a 0, .cg (ok_insn_known hU ((A0 (y1).toNat)) true h1), .o, .o, .o, .a 0, .t (u_gt ((A0 (y1).toNat)).fDst (10#8)) h2, .o, .o, .a 0, .t (u_gt ((A0 (y1).toNat)).fSrc (10#8)) h3, .o, .o, .o, .a 0, .t (u_eq ((A0 (y1).toNat)).fDst (10#8)) h4, .o, .o, .o, .o, .o, .a 0, .t (u_eq ((A0 (y1).toNat)).fOp (24#8)) h5, .o, .o, .o, .o, .a 0, .t (u_eq ((A0 (y1).toNat)).fOp (133#8)) h6, .o, .o, .o, .o, .o, .a 0, .cg (ok_insn_names hU ((A0 (y1).toNat)) true h7), .o, .o, .o, .o, .o, .a 0, .v .i64 (z_of_ii (by decide) ((A0 (y1).toNat)).fImm), .o, .cg (ok_insn_callable hU a0 p0 q0 n0 k0 A0 hR0 (IntKind.i64.wrap ((IntKind.i64.wrap (y1 + 1)) + (ii ((A0 (y1).toNat)).fImm))) true e_r0), .o, .o, .o, .o]
    [] (fun b => by kernel_rfl)
theorem p47_insn_checkSlot (h0 : (inR y1 n0) = true) (h1 : (m_insn_known ((A0 (y1).toNat))) = true) (h2 : (BitVec.ult (10#8) ((A0 (y1).toNat)).fDst) = false) (h3 : (BitVec.ult (10#8) ((A0 (y1).toNat)).fSrc) = false) (h4 : (((A0 (y1).toNat)).fDst == 10#8) = false) (h5 : (((A0 (y1).toNat)).fOp == 24#8) = false) (h6 : (((A0 (y1).toNat)).fOp == 133#8) = false) (h7 : (m_insn_names ((A0 (y1).toNat))) = true) (e_r0 : m_insn_callable n0 A0 (IntKind.i64.wrap ((IntKind.i64.wrap (y1 + 1)) + (ii ((A0 (y1).toNat)).fImm))) = some false) : ConG Try.prog S 32 #[.slice a0 n0 (n0 + k0), .int .i64 (y1)] (.int .i64 (14)) :=
  fn_conG hU (P := Try.prog) Try.func32 (fun xs w => by kernel_rfl) [.slice a0 n0 (n0 + k0), .int .i64 (y1)] (.int .i64 (14))
    [.o, .o, .o, .q (ixRo_ok (kd := .i64) (T := 22) (x := y1) (sz := 5) rfl (fun w => by kernel_rfl) hR0 h0), .l (accRo hR0 c_Insn_len (inR_nat h0) 0 [.int .u8 (nn ((A0 (y1).toNat)).fOp), .int .u8 (nn ((A0 (y1).toNat)).fDst), .int .u8 (nn ((A0 (y1).toNat)).fSrc), .int .i16 (ii ((A0 (y1).toNat)).fOff), .int .i32 (ii ((A0 (y1).toNat)).fImm)] rfl), .o, .a 0, .a 0, .cg (ok_insn_known hU ((A0 (y1).toNat)) true h1), .o, .o, .o, .a 0, .t (u_gt ((A0 (y1).toNat)).fDst (10#8)) h2, .o, .o, .a 0, .t (u_gt ((A0 (y1).toNat)).fSrc (10#8)) h3, .o, .o, .o, .a 0, .t (u_eq ((A0 (y1).toNat)).fDst (10#8)) h4, .o, .o, .o, .o, .o, .a 0, .t (u_eq ((A0 (y1).toNat)).fOp (24#8)) h5, .o, .o, .o, .o, .a 0, .t (u_eq ((A0 (y1).toNat)).fOp (133#8)) h6, .o, .o, .o, .o, .o, .a 0, .cg (ok_insn_names hU ((A0 (y1).toNat)) true h7), .o, .o, .o, .o, .o, .a 0, .v .i64 (z_of_ii (by decide) ((A0 (y1).toNat)).fImm), .o, .cg (ok_insn_callable hU a0 p0 q0 n0 k0 A0 hR0 (IntKind.i64.wrap ((IntKind.i64.wrap (y1 + 1)) + (ii ((A0 (y1).toNat)).fImm))) false e_r0), .o, .o, .o, .o]
    [] (fun b => by kernel_rfl)
theorem p48_insn_checkSlot (h0 : (inR y1 n0) = true) (h1 : (m_insn_known ((A0 (y1).toNat))) = true) (h2 : (BitVec.ult (10#8) ((A0 (y1).toNat)).fDst) = false) (h3 : (BitVec.ult (10#8) ((A0 (y1).toNat)).fSrc) = false) (h4 : (((A0 (y1).toNat)).fDst == 10#8) = false) (h5 : (((A0 (y1).toNat)).fOp == 24#8) = false) (h6 : (((A0 (y1).toNat)).fOp == 133#8) = false) (h7 : (m_insn_names ((A0 (y1).toNat))) = false) : ConG Try.prog S 32 #[.slice a0 n0 (n0 + k0), .int .i64 (y1)] (.int .i64 (0)) :=
  fn_conG hU (P := Try.prog) Try.func32 (fun xs w => by kernel_rfl) [.slice a0 n0 (n0 + k0), .int .i64 (y1)] (.int .i64 (0))
    [.o, .o, .o, .q (ixRo_ok (kd := .i64) (T := 22) (x := y1) (sz := 5) rfl (fun w => by kernel_rfl) hR0 h0), .l (accRo hR0 c_Insn_len (inR_nat h0) 0 [.int .u8 (nn ((A0 (y1).toNat)).fOp), .int .u8 (nn ((A0 (y1).toNat)).fDst), .int .u8 (nn ((A0 (y1).toNat)).fSrc), .int .i16 (ii ((A0 (y1).toNat)).fOff), .int .i32 (ii ((A0 (y1).toNat)).fImm)] rfl), .o, .a 0, .a 0, .cg (ok_insn_known hU ((A0 (y1).toNat)) true h1), .o, .o, .o, .a 0, .t (u_gt ((A0 (y1).toNat)).fDst (10#8)) h2, .o, .o, .a 0, .t (u_gt ((A0 (y1).toNat)).fSrc (10#8)) h3, .o, .o, .o, .a 0, .t (u_eq ((A0 (y1).toNat)).fDst (10#8)) h4, .o, .o, .o, .o, .o, .a 0, .t (u_eq ((A0 (y1).toNat)).fOp (24#8)) h5, .o, .o, .o, .o, .a 0, .t (u_eq ((A0 (y1).toNat)).fOp (133#8)) h6, .o, .o, .o, .o, .o, .a 0, .cg (ok_insn_names hU ((A0 (y1).toNat)) false h7), .o, .o, .o, .o]
    [] (fun b => by kernel_rfl)
theorem p49_insn_checkSlot (h0 : (inR y1 n0) = true) (h1 : (m_insn_known ((A0 (y1).toNat))) = false) : ConG Try.prog S 32 #[.slice a0 n0 (n0 + k0), .int .i64 (y1)] (.int .i64 (11)) :=
  fn_conG hU (P := Try.prog) Try.func32 (fun xs w => by kernel_rfl) [.slice a0 n0 (n0 + k0), .int .i64 (y1)] (.int .i64 (11))
    [.o, .o, .o, .q (ixRo_ok (kd := .i64) (T := 22) (x := y1) (sz := 5) rfl (fun w => by kernel_rfl) hR0 h0), .l (accRo hR0 c_Insn_len (inR_nat h0) 0 [.int .u8 (nn ((A0 (y1).toNat)).fOp), .int .u8 (nn ((A0 (y1).toNat)).fDst), .int .u8 (nn ((A0 (y1).toNat)).fSrc), .int .i16 (ii ((A0 (y1).toNat)).fOff), .int .i32 (ii ((A0 (y1).toNat)).fImm)] rfl), .o, .a 0, .a 0, .cg (ok_insn_known hU ((A0 (y1).toNat)) false h1), .o, .o, .o]
    [] (fun b => by kernel_rfl)
theorem ok_insn_checkSlot (r : Int) (e : m_insn_checkSlot n0 A0 y1 = some r) : ConG Try.prog S 32 #[.slice a0 n0 (n0 + k0), .int .i64 (y1)] (.int .i64 (r)) := by
  unfold m_insn_checkSlot at e
  replace e := cond_eq_or e
  rcases e with ⟨hq0, e⟩ | ⟨hq0, e⟩
  · replace e := cond_eq_or e
    rcases e with ⟨hq1, e⟩ | ⟨hq1, e⟩
    · replace e := cond_eq_or e
      rcases e with ⟨hq2, e⟩ | ⟨hq2, e⟩
      · injection e with e; subst e; exact p0_insn_checkSlot hU a0 p0 q0 n0 k0 A0 hR0 y1 hq0 hq1 hq2
      · replace e := cond_eq_or e
        rcases e with ⟨hq3, e⟩ | ⟨hq3, e⟩
        · injection e with e; subst e; exact p1_insn_checkSlot hU a0 p0 q0 n0 k0 A0 hR0 y1 hq0 hq1 hq2 hq3
        · replace e := cond_eq_or e
          rcases e with ⟨hq4, e⟩ | ⟨hq4, e⟩
          · replace e := cond_eq_or e
            rcases e with ⟨hq5, e⟩ | ⟨hq5, e⟩
            · injection e with e; subst e; exact p2_insn_checkSlot hU a0 p0 q0 n0 k0 A0 hR0 y1 hq0 hq1 hq2 hq3 hq4 hq5
            · replace e := cond_eq_or e
              rcases e with ⟨hq6, e⟩ | ⟨hq6, e⟩
              · replace e := bindO_eq e
                obtain ⟨r0, e_r0, e⟩ := e
                try dsimp only at e
                replace e := cond_eq_or e
                rcases e with ⟨hq7, e⟩ | ⟨hq7, e⟩
                · subst hq7
                  replace e := cond_eq_or e
                  rcases e with ⟨hq8, e⟩ | ⟨hq8, e⟩
                  · replace e := cond_eq_or e
                    rcases e with ⟨hq9, e⟩ | ⟨hq9, e⟩
                    · replace e := cond_eq_or e
                      rcases e with ⟨hq10, e⟩ | ⟨hq10, e⟩
                      · injection e with e; subst e; exact p3_insn_checkSlot hU a0 p0 q0 n0 k0 A0 hR0 y1 hq0 hq1 hq2 hq3 hq4 hq5 hq6 e_r0 hq8 hq9 hq10
                      · replace e := cond_eq_or e
                        rcases e with ⟨hq11, e⟩ | ⟨hq11, e⟩
                        · injection e with e; subst e; exact p4_insn_checkSlot hU a0 p0 q0 n0 k0 A0 hR0 y1 hq0 hq1 hq2 hq3 hq4 hq5 hq6 e_r0 hq8 hq9 hq10 hq11
                        · replace e := cond_eq_or e
                          rcases e with ⟨hq12, e⟩ | ⟨hq12, e⟩
                          · replace e := bindO_eq e
                            obtain ⟨r1, e_r1, e⟩ := e
                            try dsimp only at e
                            replace e := cond_eq_or e
                            rcases e with ⟨hq13, e⟩ | ⟨hq13, e⟩
                            · subst hq13
                              injection e with e; subst e; exact p5_insn_checkSlot hU a0 p0 q0 n0 k0 A0 hR0 y1 hq0 hq1 hq2 hq3 hq4 hq5 hq6 e_r0 hq8 hq9 hq10 hq11 hq12 e_r1
                            · subst hq13
                              injection e with e; subst e; exact p6_insn_checkSlot hU a0 p0 q0 n0 k0 A0 hR0 y1 hq0 hq1 hq2 hq3 hq4 hq5 hq6 e_r0 hq8 hq9 hq10 hq11 hq12 e_r1
                          · injection e with e; subst e; exact p7_insn_checkSlot hU a0 p0 q0 n0 k0 A0 hR0 y1 hq0 hq1 hq2 hq3 hq4 hq5 hq6 e_r0 hq8 hq9 hq10 hq11 hq12
                    · replace e := cond_eq_or e
                      rcases e with ⟨hq10, e⟩ | ⟨hq10, e⟩
                      · replace e := bindO_eq e
                        obtain ⟨r1, e_r1, e⟩ := e
                        try dsimp only at e
                        replace e := cond_eq_or e
                        rcases e with ⟨hq11, e⟩ | ⟨hq11, e⟩
                        · subst hq11
                          injection e with e; subst e; exact p8_insn_checkSlot hU a0 p0 q0 n0 k0 A0 hR0 y1 hq0 hq1 hq2 hq3 hq4 hq5 hq6 e_r0 hq8 hq9 hq10 e_r1
                        · subst hq11
                          injection e with e; subst e; exact p9_insn_checkSlot hU a0 p0 q0 n0 k0 A0 hR0 y1 hq0 hq1 hq2 hq3 hq4 hq5 hq6 e_r0 hq8 hq9 hq10 e_r1
                      · injection e with e; subst e; exact p10_insn_checkSlot hU a0 p0 q0 n0 k0 A0 hR0 y1 hq0 hq1 hq2 hq3 hq4 hq5 hq6 e_r0 hq8 hq9 hq10
                  · replace e := cond_eq_or e
                    rcases e with ⟨hq9, e⟩ | ⟨hq9, e⟩
                    · replace e := bindO_eq e
                      obtain ⟨r1, e_r1, e⟩ := e
                      try dsimp only at e
                      replace e := cond_eq_or e
                      rcases e with ⟨hq10, e⟩ | ⟨hq10, e⟩
                      · subst hq10
                        injection e with e; subst e; exact p11_insn_checkSlot hU a0 p0 q0 n0 k0 A0 hR0 y1 hq0 hq1 hq2 hq3 hq4 hq5 hq6 e_r0 hq8 hq9 e_r1
                      · subst hq10
                        injection e with e; subst e; exact p12_insn_checkSlot hU a0 p0 q0 n0 k0 A0 hR0 y1 hq0 hq1 hq2 hq3 hq4 hq5 hq6 e_r0 hq8 hq9 e_r1
                    · injection e with e; subst e; exact p13_insn_checkSlot hU a0 p0 q0 n0 k0 A0 hR0 y1 hq0 hq1 hq2 hq3 hq4 hq5 hq6 e_r0 hq8 hq9
                · subst hq7
                  injection e with e; subst e; exact p14_insn_checkSlot hU a0 p0 q0 n0 k0 A0 hR0 y1 hq0 hq1 hq2 hq3 hq4 hq5 hq6 e_r0
              · replace e := cond_eq_or e
                rcases e with ⟨hq7, e⟩ | ⟨hq7, e⟩
                · replace e := cond_eq_or e
                  rcases e with ⟨hq8, e⟩ | ⟨hq8, e⟩
                  · replace e := cond_eq_or e
                    rcases e with ⟨hq9, e⟩ | ⟨hq9, e⟩
                    · injection e with e; subst e; exact p15_insn_checkSlot hU a0 p0 q0 n0 k0 A0 hR0 y1 hq0 hq1 hq2 hq3 hq4 hq5 hq6 hq7 hq8 hq9
                    · replace e := cond_eq_or e
                      rcases e with ⟨hq10, e⟩ | ⟨hq10, e⟩
                      · injection e with e; subst e; exact p16_insn_checkSlot hU a0 p0 q0 n0 k0 A0 hR0 y1 hq0 hq1 hq2 hq3 hq4 hq5 hq6 hq7 hq8 hq9 hq10
                      · replace e := cond_eq_or e
                        rcases e with ⟨hq11, e⟩ | ⟨hq11, e⟩
                        · replace e := bindO_eq e
                          obtain ⟨r0, e_r0, e⟩ := e
                          try dsimp only at e
                          replace e := cond_eq_or e
                          rcases e with ⟨hq12, e⟩ | ⟨hq12, e⟩
                          · subst hq12
                            injection e with e; subst e; exact p17_insn_checkSlot hU a0 p0 q0 n0 k0 A0 hR0 y1 hq0 hq1 hq2 hq3 hq4 hq5 hq6 hq7 hq8 hq9 hq10 hq11 e_r0
                          · subst hq12
                            injection e with e; subst e; exact p18_insn_checkSlot hU a0 p0 q0 n0 k0 A0 hR0 y1 hq0 hq1 hq2 hq3 hq4 hq5 hq6 hq7 hq8 hq9 hq10 hq11 e_r0
                        · injection e with e; subst e; exact p19_insn_checkSlot hU a0 p0 q0 n0 k0 A0 hR0 y1 hq0 hq1 hq2 hq3 hq4 hq5 hq6 hq7 hq8 hq9 hq10 hq11
                  · replace e := cond_eq_or e
                    rcases e with ⟨hq9, e⟩ | ⟨hq9, e⟩
                    · replace e := bindO_eq e
                      obtain ⟨r0, e_r0, e⟩ := e
                      try dsimp only at e
                      replace e := cond_eq_or e
                      rcases e with ⟨hq10, e⟩ | ⟨hq10, e⟩
                      · subst hq10
                        injection e with e; subst e; exact p20_insn_checkSlot hU a0 p0 q0 n0 k0 A0 hR0 y1 hq0 hq1 hq2 hq3 hq4 hq5 hq6 hq7 hq8 hq9 e_r0
                      · subst hq10
                        injection e with e; subst e; exact p21_insn_checkSlot hU a0 p0 q0 n0 k0 A0 hR0 y1 hq0 hq1 hq2 hq3 hq4 hq5 hq6 hq7 hq8 hq9 e_r0
                    · injection e with e; subst e; exact p22_insn_checkSlot hU a0 p0 q0 n0 k0 A0 hR0 y1 hq0 hq1 hq2 hq3 hq4 hq5 hq6 hq7 hq8 hq9
                · replace e := cond_eq_or e
                  rcases e with ⟨hq8, e⟩ | ⟨hq8, e⟩
                  · replace e := bindO_eq e
                    obtain ⟨r0, e_r0, e⟩ := e
                    try dsimp only at e
                    replace e := cond_eq_or e
                    rcases e with ⟨hq9, e⟩ | ⟨hq9, e⟩
                    · subst hq9
                      injection e with e; subst e; exact p23_insn_checkSlot hU a0 p0 q0 n0 k0 A0 hR0 y1 hq0 hq1 hq2 hq3 hq4 hq5 hq6 hq7 hq8 e_r0
                    · subst hq9
                      injection e with e; subst e; exact p24_insn_checkSlot hU a0 p0 q0 n0 k0 A0 hR0 y1 hq0 hq1 hq2 hq3 hq4 hq5 hq6 hq7 hq8 e_r0
                  · injection e with e; subst e; exact p25_insn_checkSlot hU a0 p0 q0 n0 k0 A0 hR0 y1 hq0 hq1 hq2 hq3 hq4 hq5 hq6 hq7 hq8
          · replace e := cond_eq_or e
            rcases e with ⟨hq5, e⟩ | ⟨hq5, e⟩
            · replace e := bindO_eq e
              obtain ⟨r0, e_r0, e⟩ := e
              try dsimp only at e
              replace e := cond_eq_or e
              rcases e with ⟨hq6, e⟩ | ⟨hq6, e⟩
              · subst hq6
                replace e := cond_eq_or e
                rcases e with ⟨hq7, e⟩ | ⟨hq7, e⟩
                · replace e := cond_eq_or e
                  rcases e with ⟨hq8, e⟩ | ⟨hq8, e⟩
                  · replace e := cond_eq_or e
                    rcases e with ⟨hq9, e⟩ | ⟨hq9, e⟩
                    · injection e with e; subst e; exact p26_insn_checkSlot hU a0 p0 q0 n0 k0 A0 hR0 y1 hq0 hq1 hq2 hq3 hq4 hq5 e_r0 hq7 hq8 hq9
                    · replace e := cond_eq_or e
                      rcases e with ⟨hq10, e⟩ | ⟨hq10, e⟩
                      · injection e with e; subst e; exact p27_insn_checkSlot hU a0 p0 q0 n0 k0 A0 hR0 y1 hq0 hq1 hq2 hq3 hq4 hq5 e_r0 hq7 hq8 hq9 hq10
                      · replace e := cond_eq_or e
                        rcases e with ⟨hq11, e⟩ | ⟨hq11, e⟩
                        · replace e := bindO_eq e
                          obtain ⟨r1, e_r1, e⟩ := e
                          try dsimp only at e
                          replace e := cond_eq_or e
                          rcases e with ⟨hq12, e⟩ | ⟨hq12, e⟩
                          · subst hq12
                            injection e with e; subst e; exact p28_insn_checkSlot hU a0 p0 q0 n0 k0 A0 hR0 y1 hq0 hq1 hq2 hq3 hq4 hq5 e_r0 hq7 hq8 hq9 hq10 hq11 e_r1
                          · subst hq12
                            injection e with e; subst e; exact p29_insn_checkSlot hU a0 p0 q0 n0 k0 A0 hR0 y1 hq0 hq1 hq2 hq3 hq4 hq5 e_r0 hq7 hq8 hq9 hq10 hq11 e_r1
                        · injection e with e; subst e; exact p30_insn_checkSlot hU a0 p0 q0 n0 k0 A0 hR0 y1 hq0 hq1 hq2 hq3 hq4 hq5 e_r0 hq7 hq8 hq9 hq10 hq11
                  · replace e := cond_eq_or e
                    rcases e with ⟨hq9, e⟩ | ⟨hq9, e⟩
                    · replace e := bindO_eq e
                      obtain ⟨r1, e_r1, e⟩ := e
                      try dsimp only at e
                      replace e := cond_eq_or e
                      rcases e with ⟨hq10, e⟩ | ⟨hq10, e⟩
                      · subst hq10
                        injection e with e; subst e; exact p31_insn_checkSlot hU a0 p0 q0 n0 k0 A0 hR0 y1 hq0 hq1 hq2 hq3 hq4 hq5 e_r0 hq7 hq8 hq9 e_r1
                      · subst hq10
                        injection e with e; subst e; exact p32_insn_checkSlot hU a0 p0 q0 n0 k0 A0 hR0 y1 hq0 hq1 hq2 hq3 hq4 hq5 e_r0 hq7 hq8 hq9 e_r1
                    · injection e with e; subst e; exact p33_insn_checkSlot hU a0 p0 q0 n0 k0 A0 hR0 y1 hq0 hq1 hq2 hq3 hq4 hq5 e_r0 hq7 hq8 hq9
                · replace e := cond_eq_or e
                  rcases e with ⟨hq8, e⟩ | ⟨hq8, e⟩
                  · replace e := bindO_eq e
                    obtain ⟨r1, e_r1, e⟩ := e
                    try dsimp only at e
                    replace e := cond_eq_or e
                    rcases e with ⟨hq9, e⟩ | ⟨hq9, e⟩
                    · subst hq9
                      injection e with e; subst e; exact p34_insn_checkSlot hU a0 p0 q0 n0 k0 A0 hR0 y1 hq0 hq1 hq2 hq3 hq4 hq5 e_r0 hq7 hq8 e_r1
                    · subst hq9
                      injection e with e; subst e; exact p35_insn_checkSlot hU a0 p0 q0 n0 k0 A0 hR0 y1 hq0 hq1 hq2 hq3 hq4 hq5 e_r0 hq7 hq8 e_r1
                  · injection e with e; subst e; exact p36_insn_checkSlot hU a0 p0 q0 n0 k0 A0 hR0 y1 hq0 hq1 hq2 hq3 hq4 hq5 e_r0 hq7 hq8
              · subst hq6
                injection e with e; subst e; exact p37_insn_checkSlot hU a0 p0 q0 n0 k0 A0 hR0 y1 hq0 hq1 hq2 hq3 hq4 hq5 e_r0
            · replace e := cond_eq_or e
              rcases e with ⟨hq6, e⟩ | ⟨hq6, e⟩
              · replace e := cond_eq_or e
                rcases e with ⟨hq7, e⟩ | ⟨hq7, e⟩
                · replace e := cond_eq_or e
                  rcases e with ⟨hq8, e⟩ | ⟨hq8, e⟩
                  · injection e with e; subst e; exact p38_insn_checkSlot hU a0 p0 q0 n0 k0 A0 hR0 y1 hq0 hq1 hq2 hq3 hq4 hq5 hq6 hq7 hq8
                  · replace e := cond_eq_or e
                    rcases e with ⟨hq9, e⟩ | ⟨hq9, e⟩
                    · injection e with e; subst e; exact p39_insn_checkSlot hU a0 p0 q0 n0 k0 A0 hR0 y1 hq0 hq1 hq2 hq3 hq4 hq5 hq6 hq7 hq8 hq9
                    · replace e := cond_eq_or e
                      rcases e with ⟨hq10, e⟩ | ⟨hq10, e⟩
                      · replace e := bindO_eq e
                        obtain ⟨r0, e_r0, e⟩ := e
                        try dsimp only at e
                        replace e := cond_eq_or e
                        rcases e with ⟨hq11, e⟩ | ⟨hq11, e⟩
                        · subst hq11
                          injection e with e; subst e; exact p40_insn_checkSlot hU a0 p0 q0 n0 k0 A0 hR0 y1 hq0 hq1 hq2 hq3 hq4 hq5 hq6 hq7 hq8 hq9 hq10 e_r0
                        · subst hq11
                          injection e with e; subst e; exact p41_insn_checkSlot hU a0 p0 q0 n0 k0 A0 hR0 y1 hq0 hq1 hq2 hq3 hq4 hq5 hq6 hq7 hq8 hq9 hq10 e_r0
                      · injection e with e; subst e; exact p42_insn_checkSlot hU a0 p0 q0 n0 k0 A0 hR0 y1 hq0 hq1 hq2 hq3 hq4 hq5 hq6 hq7 hq8 hq9 hq10
                · replace e := cond_eq_or e
                  rcases e with ⟨hq8, e⟩ | ⟨hq8, e⟩
                  · replace e := bindO_eq e
                    obtain ⟨r0, e_r0, e⟩ := e
                    try dsimp only at e
                    replace e := cond_eq_or e
                    rcases e with ⟨hq9, e⟩ | ⟨hq9, e⟩
                    · subst hq9
                      injection e with e; subst e; exact p43_insn_checkSlot hU a0 p0 q0 n0 k0 A0 hR0 y1 hq0 hq1 hq2 hq3 hq4 hq5 hq6 hq7 hq8 e_r0
                    · subst hq9
                      injection e with e; subst e; exact p44_insn_checkSlot hU a0 p0 q0 n0 k0 A0 hR0 y1 hq0 hq1 hq2 hq3 hq4 hq5 hq6 hq7 hq8 e_r0
                  · injection e with e; subst e; exact p45_insn_checkSlot hU a0 p0 q0 n0 k0 A0 hR0 y1 hq0 hq1 hq2 hq3 hq4 hq5 hq6 hq7 hq8
              · replace e := cond_eq_or e
                rcases e with ⟨hq7, e⟩ | ⟨hq7, e⟩
                · replace e := bindO_eq e
                  obtain ⟨r0, e_r0, e⟩ := e
                  try dsimp only at e
                  replace e := cond_eq_or e
                  rcases e with ⟨hq8, e⟩ | ⟨hq8, e⟩
                  · subst hq8
                    injection e with e; subst e; exact p46_insn_checkSlot hU a0 p0 q0 n0 k0 A0 hR0 y1 hq0 hq1 hq2 hq3 hq4 hq5 hq6 hq7 e_r0
                  · subst hq8
                    injection e with e; subst e; exact p47_insn_checkSlot hU a0 p0 q0 n0 k0 A0 hR0 y1 hq0 hq1 hq2 hq3 hq4 hq5 hq6 hq7 e_r0
                · injection e with e; subst e; exact p48_insn_checkSlot hU a0 p0 q0 n0 k0 A0 hR0 y1 hq0 hq1 hq2 hq3 hq4 hq5 hq6 hq7
    · injection e with e; subst e; exact p49_insn_checkSlot hU a0 p0 q0 n0 k0 A0 hR0 y1 hq0 hq1
  · exact none_some e
end

end Go.Proofs.Ytmlkiamemkfdlaa
