/-
  Instructions: subprograms, jumps.
-/
import Derived.Test.YtmlkiamemkfdlaaS1AB
namespace Go.Proofs.Ytmlkiamemkfdlaa
open Go.RowKit
set_option linter.unusedVariables false
set_option linter.unusedSimpArgs false
set_option linter.unusedSectionVars false
set_option maxRecDepth 100000
set_option maxHeartbeats 4000000
structure Part where
  fFrom : Int
  fTo : Int
abbrev c_Part (x : Part) : List Value := [.int .i64 (x.fFrom), .int .i64 (x.fTo)]
def v_Part (x : Part) : Value := .agg #[.int .i64 (x.fFrom), .int .i64 (x.fTo)]
theorem c_Part_len (x : Part) : (c_Part x).length = 2 := rfl
theorem c_Part_one (x : Part) : ((c_Part x).all fun u => u.oneCell') = true := rfl
def vt0 (r : (Int) × (Bool)) : Value := .tuple #[(.int .i64 (r.1)), (.bool (r.2))]
noncomputable def zr41 : Value := (Try.prog.info? 49).bind TypeInfo.zero |>.getD undef
theorem rt41 : RowT Try.prog 41 49 ((Try.prog.info? 49).getD default) zr41 2 16 := ⟨by kernel_rfl, by kernel_rfl, by kernel_rfl, by kernel_rfl, by kernel_rfl, by kernel_rfl, by decide⟩
def vt1 (r : (Int) × (Int)) : Value := .tuple #[(.int .i64 (r.1)), (.int .i64 (r.2))]
def vt2 (r : (BitVec 64) × (Bool)) : Value := .tuple #[(.int .u64 (nn r.1)), (.bool (r.2))]
noncomputable def m_insn_ends (n0 : Nat) (A0 : Nat → Insn) (y1 : Part) : Option ((Int) × (Bool)) :=
  (m_op_IsSecond n0 A0 (IntKind.i64.wrap (y1.fTo - 1))).bind fun r0 =>
  bif r0 then
    (bif inR (IntKind.i64.wrap ((IntKind.i64.wrap (y1.fTo - 1)) - 1)) n0 then
      (bif ((A0 ((IntKind.i64.wrap ((IntKind.i64.wrap (y1.fTo - 1)) - 1))).toNat)).fOp == 149#8 then
        (some ((IntKind.i64.wrap ((IntKind.i64.wrap (y1.fTo - 1)) - 1)), true))
      else (some ((IntKind.i64.wrap ((IntKind.i64.wrap (y1.fTo - 1)) - 1)), (((A0 ((IntKind.i64.wrap ((IntKind.i64.wrap (y1.fTo - 1)) - 1))).toNat)).fOp == 5#8))))
    else (none))
  else (bif inR (IntKind.i64.wrap (y1.fTo - 1)) n0 then
    (bif ((A0 ((IntKind.i64.wrap (y1.fTo - 1))).toNat)).fOp == 149#8 then
      (some ((IntKind.i64.wrap (y1.fTo - 1)), true))
    else (some ((IntKind.i64.wrap (y1.fTo - 1)), (((A0 ((IntKind.i64.wrap (y1.fTo - 1))).toNat)).fOp == 5#8))))
  else (none))
section
variable {M : Nat → Prop} {B0 : Nat} {S : World → Prop} (hU : Up M B0 S) (a0 : Option Addr) (p0 : Nat) (q0 : Nat) (n0 : Nat) (k0 : Nat) (A0 : Nat → Insn) (hR0 : Ro S c_Insn 5 a0 p0 q0 n0 A0) (y1 : Part) (e_r0 : m_op_IsSecond n0 A0 (IntKind.i64.wrap (y1.fTo - 1)) = some true) (h0 : (inR (IntKind.i64.wrap ((IntKind.i64.wrap (y1.fTo - 1)) - 1)) n0) = true)
include hU a0 p0 q0 n0 k0 A0 hR0 y1 e_r0 h0
theorem p0_insn_ends (h1 : (((A0 ((IntKind.i64.wrap ((IntKind.i64.wrap (y1.fTo - 1)) - 1))).toNat)).fOp == 149#8) = true) : ConG Try.prog S 34 #[.slice a0 n0 (n0 + k0), (v_Part y1)] (vt0 ((IntKind.i64.wrap ((IntKind.i64.wrap (y1.fTo - 1)) - 1)), true)) :=
  fn_conG hU (P := Try.prog) Try.func34 (fun xs w => by kernel_rfl) [.slice a0 n0 (n0 + k0), (v_Part y1)] (vt0 ((IntKind.i64.wrap ((IntKind.i64.wrap (y1.fTo - 1)) - 1)), true))
    [.o, .o, .o, .o, .a 0, .o, .o, .o, .o, .cg (ok_op_IsSecond hU a0 p0 q0 n0 k0 A0 hR0 (IntKind.i64.wrap (y1.fTo - 1)) true e_r0), .o, .o, .o, .r [0, 1, 2, 3, 4, 5, 6, 7, 8, 9, 10, 11, 12, 13, 14, 15, 16] [] [], .o, .o, .o, .q (ixRo_ok (kd := .i64) (T := 22) (x := (IntKind.i64.wrap ((IntKind.i64.wrap (y1.fTo - 1)) - 1))) (sz := 5) rfl (fun w => by kernel_rfl) hR0 h0), .o, .l (accRo hR0 c_Insn_len (inR_nat h0) 0 [.int .u8 (nn ((A0 ((IntKind.i64.wrap ((IntKind.i64.wrap (y1.fTo - 1)) - 1))).toNat)).fOp)] rfl), .t (u_eq ((A0 ((IntKind.i64.wrap ((IntKind.i64.wrap (y1.fTo - 1)) - 1))).toNat)).fOp (149#8)) h1, .o, .o, .o, .o]
    [] (fun b => by kernel_rfl)
theorem p1_insn_ends (h1 : (((A0 ((IntKind.i64.wrap ((IntKind.i64.wrap (y1.fTo - 1)) - 1))).toNat)).fOp == 149#8) = false) : ConG Try.prog S 34 #[.slice a0 n0 (n0 + k0), (v_Part y1)] (vt0 ((IntKind.i64.wrap ((IntKind.i64.wrap (y1.fTo - 1)) - 1)), (((A0 ((IntKind.i64.wrap ((IntKind.i64.wrap (y1.fTo - 1)) - 1))).toNat)).fOp == 5#8))) :=
  fn_conG hU (P := Try.prog) Try.func34 (fun xs w => by kernel_rfl) [.slice a0 n0 (n0 + k0), (v_Part y1)] (vt0 ((IntKind.i64.wrap ((IntKind.i64.wrap (y1.fTo - 1)) - 1)), (((A0 ((IntKind.i64.wrap ((IntKind.i64.wrap (y1.fTo - 1)) - 1))).toNat)).fOp == 5#8)))
    [.o, .o, .o, .o, .a 0, .o, .o, .o, .o, .cg (ok_op_IsSecond hU a0 p0 q0 n0 k0 A0 hR0 (IntKind.i64.wrap (y1.fTo - 1)) true e_r0), .o, .o, .o, .r [0, 1, 2, 3, 4, 5, 6, 7, 8, 9, 10, 11, 12, 13, 14, 15, 16] [] [], .o, .o, .o, .q (ixRo_ok (kd := .i64) (T := 22) (x := (IntKind.i64.wrap ((IntKind.i64.wrap (y1.fTo - 1)) - 1))) (sz := 5) rfl (fun w => by kernel_rfl) hR0 h0), .o, .l (accRo hR0 c_Insn_len (inR_nat h0) 0 [.int .u8 (nn ((A0 ((IntKind.i64.wrap ((IntKind.i64.wrap (y1.fTo - 1)) - 1))).toNat)).fOp)] rfl), .t (u_eq ((A0 ((IntKind.i64.wrap ((IntKind.i64.wrap (y1.fTo - 1)) - 1))).toNat)).fOp (149#8)) h1, .o, .o, .o, .q (ixRo_ok (kd := .i64) (T := 22) (x := (IntKind.i64.wrap ((IntKind.i64.wrap (y1.fTo - 1)) - 1))) (sz := 5) rfl (fun w => by kernel_rfl) hR0 h0), .o, .l (accRo hR0 c_Insn_len (inR_nat h0) 0 [.int .u8 (nn ((A0 ((IntKind.i64.wrap ((IntKind.i64.wrap (y1.fTo - 1)) - 1))).toNat)).fOp)] rfl), .t (u_eq ((A0 ((IntKind.i64.wrap ((IntKind.i64.wrap (y1.fTo - 1)) - 1))).toNat)).fOp (5#8)) rfl, .o, .o, .o]
    [] (fun b => by kernel_rfl)
end
section
variable {M : Nat → Prop} {B0 : Nat} {S : World → Prop} (hU : Up M B0 S) (a0 : Option Addr) (p0 : Nat) (q0 : Nat) (n0 : Nat) (k0 : Nat) (A0 : Nat → Insn) (hR0 : Ro S c_Insn 5 a0 p0 q0 n0 A0) (y1 : Part) (e_r0 : m_op_IsSecond n0 A0 (IntKind.i64.wrap (y1.fTo - 1)) = some false) (h0 : (inR (IntKind.i64.wrap (y1.fTo - 1)) n0) = true)
include hU a0 p0 q0 n0 k0 A0 hR0 y1 e_r0 h0
theorem p3_insn_ends (h1 : (((A0 ((IntKind.i64.wrap (y1.fTo - 1))).toNat)).fOp == 149#8) = true) : ConG Try.prog S 34 #[.slice a0 n0 (n0 + k0), (v_Part y1)] (vt0 ((IntKind.i64.wrap (y1.fTo - 1)), true)) :=
  fn_conG hU (P := Try.prog) Try.func34 (fun xs w => by kernel_rfl) [.slice a0 n0 (n0 + k0), (v_Part y1)] (vt0 ((IntKind.i64.wrap (y1.fTo - 1)), true))
    [.o, .o, .o, .o, .a 0, .o, .o, .o, .o, .cg (ok_op_IsSecond hU a0 p0 q0 n0 k0 A0 hR0 (IntKind.i64.wrap (y1.fTo - 1)) false e_r0), .r [0, 1, 2, 3, 4, 5, 6, 7, 8, 9, 10, 11, 12, 13, 14, 15, 16] [] [], .o, .o, .o, .q (ixRo_ok (kd := .i64) (T := 22) (x := (IntKind.i64.wrap (y1.fTo - 1))) (sz := 5) rfl (fun w => by kernel_rfl) hR0 h0), .o, .l (accRo hR0 c_Insn_len (inR_nat h0) 0 [.int .u8 (nn ((A0 ((IntKind.i64.wrap (y1.fTo - 1))).toNat)).fOp)] rfl), .t (u_eq ((A0 ((IntKind.i64.wrap (y1.fTo - 1))).toNat)).fOp (149#8)) h1, .o, .o, .o, .o]
    [] (fun b => by kernel_rfl)
theorem p4_insn_ends (h1 : (((A0 ((IntKind.i64.wrap (y1.fTo - 1))).toNat)).fOp == 149#8) = false) : ConG Try.prog S 34 #[.slice a0 n0 (n0 + k0), (v_Part y1)] (vt0 ((IntKind.i64.wrap (y1.fTo - 1)), (((A0 ((IntKind.i64.wrap (y1.fTo - 1))).toNat)).fOp == 5#8))) :=
  fn_conG hU (P := Try.prog) Try.func34 (fun xs w => by kernel_rfl) [.slice a0 n0 (n0 + k0), (v_Part y1)] (vt0 ((IntKind.i64.wrap (y1.fTo - 1)), (((A0 ((IntKind.i64.wrap (y1.fTo - 1))).toNat)).fOp == 5#8)))
    [.o, .o, .o, .o, .a 0, .o, .o, .o, .o, .cg (ok_op_IsSecond hU a0 p0 q0 n0 k0 A0 hR0 (IntKind.i64.wrap (y1.fTo - 1)) false e_r0), .r [0, 1, 2, 3, 4, 5, 6, 7, 8, 9, 10, 11, 12, 13, 14, 15, 16] [] [], .o, .o, .o, .q (ixRo_ok (kd := .i64) (T := 22) (x := (IntKind.i64.wrap (y1.fTo - 1))) (sz := 5) rfl (fun w => by kernel_rfl) hR0 h0), .o, .l (accRo hR0 c_Insn_len (inR_nat h0) 0 [.int .u8 (nn ((A0 ((IntKind.i64.wrap (y1.fTo - 1))).toNat)).fOp)] rfl), .t (u_eq ((A0 ((IntKind.i64.wrap (y1.fTo - 1))).toNat)).fOp (149#8)) h1, .o, .o, .o, .q (ixRo_ok (kd := .i64) (T := 22) (x := (IntKind.i64.wrap (y1.fTo - 1))) (sz := 5) rfl (fun w => by kernel_rfl) hR0 h0), .o, .l (accRo hR0 c_Insn_len (inR_nat h0) 0 [.int .u8 (nn ((A0 ((IntKind.i64.wrap (y1.fTo - 1))).toNat)).fOp)] rfl), .t (u_eq ((A0 ((IntKind.i64.wrap (y1.fTo - 1))).toNat)).fOp (5#8)) rfl, .o, .o, .o]
    [] (fun b => by kernel_rfl)
end
section
variable {M : Nat → Prop} {B0 : Nat} {S : World → Prop} (hU : Up M B0 S) (a0 : Option Addr) (p0 : Nat) (q0 : Nat) (n0 : Nat) (k0 : Nat) (A0 : Nat → Insn) (hR0 : Ro S c_Insn 5 a0 p0 q0 n0 A0) (y1 : Part)
include hU a0 p0 q0 n0 k0 A0 hR0 y1
theorem ok_insn_ends (r : (Int) × (Bool)) (e : m_insn_ends n0 A0 y1 = some r) : ConG Try.prog S 34 #[.slice a0 n0 (n0 + k0), (v_Part y1)] (vt0 r) := by
  unfold m_insn_ends at e
  replace e := bindO_eq e
  obtain ⟨r0, e_r0, e⟩ := e
  try dsimp only at e
  replace e := cond_eq_or e
  rcases e with ⟨hq0, e⟩ | ⟨hq0, e⟩
  · subst hq0
    replace e := cond_eq_or e
    rcases e with ⟨hq1, e⟩ | ⟨hq1, e⟩
    · replace e := cond_eq_or e
      rcases e with ⟨hq2, e⟩ | ⟨hq2, e⟩
      · injection e with e; subst e; exact p0_insn_ends hU a0 p0 q0 n0 k0 A0 hR0 y1 e_r0 hq1 hq2
      · injection e with e; subst e; exact p1_insn_ends hU a0 p0 q0 n0 k0 A0 hR0 y1 e_r0 hq1 hq2
    · exact none_some e
  · subst hq0
    replace e := cond_eq_or e
    rcases e with ⟨hq1, e⟩ | ⟨hq1, e⟩
    · replace e := cond_eq_or e
      rcases e with ⟨hq2, e⟩ | ⟨hq2, e⟩
      · injection e with e; subst e; exact p3_insn_ends hU a0 p0 q0 n0 k0 A0 hR0 y1 e_r0 hq1 hq2
      · injection e with e; subst e; exact p4_insn_ends hU a0 p0 q0 n0 k0 A0 hR0 y1 e_r0 hq1 hq2
    · exact none_some e
inductive Sh_insn_jumpsStay_L0 where
  | c0 (s0_0 : Int)
inductive Ex_insn_jumpsStay_L0 where
  | e0 
  | e1 (c1_0 : Int)
noncomputable def st_insn_jumpsStay_L0 (n0 : Nat) (A0 : Nat → Insn) (y1 : Part) : Sh_insn_jumpsStay_L0 → Option (Sh_insn_jumpsStay_L0 ⊕ Ex_insn_jumpsStay_L0)
  | .c0 s0_0 =>
    bif decide (s0_0 < y1.fTo) then
      (bif inR s0_0 n0 then
        (bif m_op_Jumps ((A0 (s0_0).toNat)) then
          (bif decide ((IntKind.i64.wrap ((IntKind.i64.wrap (s0_0 + 1)) + (ii ((A0 (s0_0).toNat)).fOff))) < y1.fFrom) then
            (some (.inr (.e1 s0_0)))
          else (bif decide (y1.fTo ≤ (IntKind.i64.wrap ((IntKind.i64.wrap (s0_0 + 1)) + (ii ((A0 (s0_0).toNat)).fOff)))) then
            (some (.inr (.e1 s0_0)))
          else ((m_op_IsSecond n0 A0 (IntKind.i64.wrap ((IntKind.i64.wrap (s0_0 + 1)) + (ii ((A0 (s0_0).toNat)).fOff)))).bind fun rb0 =>
          bif rb0 then
            (some (.inr (.e1 s0_0)))
          else (bindT (m_op_Width ((A0 (s0_0).toNat))) fun rb1 =>
          some (.inl (.c0 (IntKind.i64.wrap (s0_0 + rb1))))))))
        else (bindT (m_op_Width ((A0 (s0_0).toNat))) fun rb0 =>
        some (.inl (.c0 (IntKind.i64.wrap (s0_0 + rb0))))))
      else (none))
    else (some (.inr (.e0 )))
noncomputable def bd_insn_jumpsStay_L0 : Code := codeOf Try.f25 [1, 0, 1, 0, 0]
def fr_insn_jumpsStay_L0 (a0 : Option Addr) (p0 : Nat) (q0 : Nat) (n0 : Nat) (k0 : Nat) (A0 : Nat → Insn) (y1 : Part) : Sh_insn_jumpsStay_L0 → List L1 → List Value
  | .c0 s0_0, ls => [.slice a0 n0 (n0 + k0), ((lget ls 1).u 1), ((lget ls 1).u 2), .pointer (some ⟨(lget ls 0).n, 0, none⟩), .int .i64 (0), .bool false, .int .i64 (s0_0), ((lget ls 1).u 7), ((lget ls 1).u 8), ((lget ls 1).u 9), ((lget ls 1).u 10), ((lget ls 1).u 11), ((lget ls 1).u 12), ((lget ls 1).u 13), ((lget ls 1).u 14), ((lget ls 1).u 15), ((lget ls 1).u 16), ((lget ls 1).u 17), ((lget ls 1).u 18), ((lget ls 1).u 19), ((lget ls 1).u 20), ((lget ls 1).u 21), ((lget ls 1).u 22), ((lget ls 1).u 23), ((lget ls 1).u 24), ((lget ls 1).u 25), ((lget ls 1).u 26), ((lget ls 1).u 27), ((lget ls 1).u 28), ((lget ls 1).u 29), ((lget ls 1).u 30), ((lget ls 1).u 31), ((lget ls 1).u 32), ((lget ls 1).u 33), ((lget ls 1).u 34), ((lget ls 1).u 35), ((lget ls 1).u 36), ((lget ls 1).u 37), ((lget ls 1).u 38), ((lget ls 1).u 39), ((lget ls 1).u 40), ((lget ls 1).u 41), ((lget ls 1).u 42), ((lget ls 1).u 43), ((lget ls 1).u 44), ((lget ls 1).u 45), ((lget ls 1).u 46), ((lget ls 1).u 47), ((lget ls 1).u 48), ((lget ls 1).u 49), ((lget ls 1).u 50), ((lget ls 1).u 51)]
def Hs_insn_jumpsStay_L0 (a0 : Option Addr) (p0 : Nat) (q0 : Nat) (n0 : Nat) (k0 : Nat) (A0 : Nat → Insn) (y1 : Part) : Sh_insn_jumpsStay_L0 → List L1 → List Obj
  | .c0 s0_0, ls => [.cells #[.int .i64 (y1.fFrom), .int .i64 (y1.fTo)] 49, unb]
def vf_insn_jumpsStay_L0 (a0 : Option Addr) (p0 : Nat) (q0 : Nat) (n0 : Nat) (k0 : Nat) (A0 : Nat → Insn) (y1 : Part) : Ex_insn_jumpsStay_L0 → List L1 → List Value
  | .e0 , ls => [.slice a0 n0 (n0 + k0), ((lget ls 1).u 1), ((lget ls 1).u 2), .pointer (some ⟨(lget ls 0).n, 0, none⟩), .int .i64 (0), .bool false, ((lget ls 1).u 6), ((lget ls 1).u 7), ((lget ls 1).u 8), ((lget ls 1).u 9), ((lget ls 1).u 10), ((lget ls 1).u 11), ((lget ls 1).u 12), ((lget ls 1).u 13), ((lget ls 1).u 14), ((lget ls 1).u 15), ((lget ls 1).u 16), ((lget ls 1).u 17), ((lget ls 1).u 18), ((lget ls 1).u 19), ((lget ls 1).u 20), ((lget ls 1).u 21), ((lget ls 1).u 22), ((lget ls 1).u 23), ((lget ls 1).u 24), ((lget ls 1).u 25), ((lget ls 1).u 26), ((lget ls 1).u 27), ((lget ls 1).u 28), ((lget ls 1).u 29), ((lget ls 1).u 30), ((lget ls 1).u 31), ((lget ls 1).u 32), ((lget ls 1).u 33), ((lget ls 1).u 34), ((lget ls 1).u 35), ((lget ls 1).u 36), ((lget ls 1).u 37), ((lget ls 1).u 38), ((lget ls 1).u 39), ((lget ls 1).u 40), ((lget ls 1).u 41), ((lget ls 1).u 42), ((lget ls 1).u 43), ((lget ls 1).u 44), ((lget ls 1).u 45), ((lget ls 1).u 46), ((lget ls 1).u 47), ((lget ls 1).u 48), ((lget ls 1).u 49), ((lget ls 1).u 50), ((lget ls 1).u 51)]
  | .e1 c1_0, ls => [.slice a0 n0 (n0 + k0), ((lget ls 1).u 1), ((lget ls 1).u 2), .pointer (some ⟨(lget ls 0).n, 0, none⟩), .int .i64 (c1_0), .bool false, ((lget ls 1).u 6), ((lget ls 1).u 7), ((lget ls 1).u 8), ((lget ls 1).u 9), ((lget ls 1).u 10), ((lget ls 1).u 11), ((lget ls 1).u 12), ((lget ls 1).u 13), ((lget ls 1).u 14), ((lget ls 1).u 15), ((lget ls 1).u 16), ((lget ls 1).u 17), ((lget ls 1).u 18), ((lget ls 1).u 19), ((lget ls 1).u 20), ((lget ls 1).u 21), ((lget ls 1).u 22), ((lget ls 1).u 23), ((lget ls 1).u 24), ((lget ls 1).u 25), ((lget ls 1).u 26), ((lget ls 1).u 27), ((lget ls 1).u 28), ((lget ls 1).u 29), ((lget ls 1).u 30), ((lget ls 1).u 31), ((lget ls 1).u 32), ((lget ls 1).u 33), ((lget ls 1).u 34), ((lget ls 1).u 35), ((lget ls 1).u 36), ((lget ls 1).u 37), ((lget ls 1).u 38), ((lget ls 1).u 39), ((lget ls 1).u 40), ((lget ls 1).u 41), ((lget ls 1).u 42), ((lget ls 1).u 43), ((lget ls 1).u 44), ((lget ls 1).u 45), ((lget ls 1).u 46), ((lget ls 1).u 47), ((lget ls 1).u 48), ((lget ls 1).u 49), ((lget ls 1).u 50), ((lget ls 1).u 51)]
def Hf_insn_jumpsStay_L0 (a0 : Option Addr) (p0 : Nat) (q0 : Nat) (n0 : Nat) (k0 : Nat) (A0 : Nat → Insn) (y1 : Part) : Ex_insn_jumpsStay_L0 → List L1 → List Obj
  | .e0 , ls => [.cells #[.int .i64 (y1.fFrom), .int .i64 (y1.fTo)] 49, unb]
  | .e1 c1_0, ls => [.cells #[.int .i64 (y1.fFrom), .int .i64 (y1.fTo)] 49, unb]
def ex_insn_jumpsStay_L0 : Ex_insn_jumpsStay_L0 → Ex
  | .e0  => (.exit 0)
  | .e1 _ => .ret
theorem w0_0_insn_jumpsStay_L0 (s0_0 : Int) (h0 : (decide (s0_0 < y1.fTo)) = true) (h1 : (inR s0_0 n0) = true) (h2 : (m_op_Jumps ((A0 (s0_0).toNat))) = true) (h3 : (decide ((IntKind.i64.wrap ((IntKind.i64.wrap (s0_0 + 1)) + (ii ((A0 (s0_0).toNat)).fOff))) < y1.fFrom)) = true) : GoesG Try.prog M B0 S bd_insn_jumpsStay_L0 2 (fr_insn_jumpsStay_L0 a0 p0 q0 n0 k0 A0 y1 (.c0 s0_0)) (Hs_insn_jumpsStay_L0 a0 p0 q0 n0 k0 A0 y1 (.c0 s0_0)) .ret 1 (vf_insn_jumpsStay_L0 a0 p0 q0 n0 k0 A0 y1 (.e1 s0_0)) (Hf_insn_jumpsStay_L0 a0 p0 q0 n0 k0 A0 y1 (.e1 s0_0)) 2 :=
  goes_runG hU [.o, .o, .a 0, .b (z_lssT h0), .o, .o, .q (ixRo_ok (kd := .i64) (T := 22) (x := s0_0) (sz := 5) rfl (fun w => by kernel_rfl) hR0 h1), .l (accRo hR0 c_Insn_len (inR_nat h1) 0 [.int .u8 (nn ((A0 (s0_0).toNat)).fOp), .int .u8 (nn ((A0 (s0_0).toNat)).fDst), .int .u8 (nn ((A0 (s0_0).toNat)).fSrc), .int .i16 (ii ((A0 (s0_0).toNat)).fOff), .int .i32 (ii ((A0 (s0_0).toNat)).fImm)] rfl), .cg (ok_op_Jumps hU ((A0 (s0_0).toNat)) true h2), .o, .o, .o, .o, .o, .q (ixRo_ok (kd := .i64) (T := 22) (x := s0_0) (sz := 5) rfl (fun w => by kernel_rfl) hR0 h1), .o, .l (accRo hR0 c_Insn_len (inR_nat h1) 3 [.int .i16 (ii ((A0 (s0_0).toNat)).fOff)] rfl), .v .i64 (z_of_ii (by decide) ((A0 (s0_0).toNat)).fOff), .o, .o, .o, .o, .a 0, .b (z_lssT h3), .o, .o, .o, .o, .o, .o, .o] [0] (fun b => rfl) (by decide) rfl (fun b => by kernel_rfl)
theorem w0_1_insn_jumpsStay_L0 (s0_0 : Int) (h0 : (decide (s0_0 < y1.fTo)) = true) (h1 : (inR s0_0 n0) = true) (h2 : (m_op_Jumps ((A0 (s0_0).toNat))) = true) (h3 : (decide ((IntKind.i64.wrap ((IntKind.i64.wrap (s0_0 + 1)) + (ii ((A0 (s0_0).toNat)).fOff))) < y1.fFrom)) = false) (h4 : (decide (y1.fTo ≤ (IntKind.i64.wrap ((IntKind.i64.wrap (s0_0 + 1)) + (ii ((A0 (s0_0).toNat)).fOff))))) = true) : GoesG Try.prog M B0 S bd_insn_jumpsStay_L0 2 (fr_insn_jumpsStay_L0 a0 p0 q0 n0 k0 A0 y1 (.c0 s0_0)) (Hs_insn_jumpsStay_L0 a0 p0 q0 n0 k0 A0 y1 (.c0 s0_0)) .ret 1 (vf_insn_jumpsStay_L0 a0 p0 q0 n0 k0 A0 y1 (.e1 s0_0)) (Hf_insn_jumpsStay_L0 a0 p0 q0 n0 k0 A0 y1 (.e1 s0_0)) 2 :=
  goes_runG hU [.o, .o, .a 0, .b (z_lssT h0), .o, .o, .q (ixRo_ok (kd := .i64) (T := 22) (x := s0_0) (sz := 5) rfl (fun w => by kernel_rfl) hR0 h1), .l (accRo hR0 c_Insn_len (inR_nat h1) 0 [.int .u8 (nn ((A0 (s0_0).toNat)).fOp), .int .u8 (nn ((A0 (s0_0).toNat)).fDst), .int .u8 (nn ((A0 (s0_0).toNat)).fSrc), .int .i16 (ii ((A0 (s0_0).toNat)).fOff), .int .i32 (ii ((A0 (s0_0).toNat)).fImm)] rfl), .cg (ok_op_Jumps hU ((A0 (s0_0).toNat)) true h2), .o, .o, .o, .o, .o, .q (ixRo_ok (kd := .i64) (T := 22) (x := s0_0) (sz := 5) rfl (fun w => by kernel_rfl) hR0 h1), .o, .l (accRo hR0 c_Insn_len (inR_nat h1) 3 [.int .i16 (ii ((A0 (s0_0).toNat)).fOff)] rfl), .v .i64 (z_of_ii (by decide) ((A0 (s0_0).toNat)).fOff), .o, .o, .o, .o, .a 0, .b (z_lssF h3), .o, .o, .o, .a 0, .b (z_geqT h4), .o, .o, .o, .o, .o, .o] [0] (fun b => rfl) (by decide) rfl (fun b => by kernel_rfl)
theorem w0_2_insn_jumpsStay_L0 (s0_0 : Int) (h0 : (decide (s0_0 < y1.fTo)) = true) (h1 : (inR s0_0 n0) = true) (h2 : (m_op_Jumps ((A0 (s0_0).toNat))) = true) (h3 : (decide ((IntKind.i64.wrap ((IntKind.i64.wrap (s0_0 + 1)) + (ii ((A0 (s0_0).toNat)).fOff))) < y1.fFrom)) = false) (h4 : (decide (y1.fTo ≤ (IntKind.i64.wrap ((IntKind.i64.wrap (s0_0 + 1)) + (ii ((A0 (s0_0).toNat)).fOff))))) = false) (e_rb0 : m_op_IsSecond n0 A0 (IntKind.i64.wrap ((IntKind.i64.wrap (s0_0 + 1)) + (ii ((A0 (s0_0).toNat)).fOff))) = some true) : GoesG Try.prog M B0 S bd_insn_jumpsStay_L0 2 (fr_insn_jumpsStay_L0 a0 p0 q0 n0 k0 A0 y1 (.c0 s0_0)) (Hs_insn_jumpsStay_L0 a0 p0 q0 n0 k0 A0 y1 (.c0 s0_0)) .ret 1 (vf_insn_jumpsStay_L0 a0 p0 q0 n0 k0 A0 y1 (.e1 s0_0)) (Hf_insn_jumpsStay_L0 a0 p0 q0 n0 k0 A0 y1 (.e1 s0_0)) 2 :=
  goes_runG hU [.o, .o, .a 0, .b (z_lssT h0), .o, .o, .q (ixRo_ok (kd := .i64) (T := 22) (x := s0_0) (sz := 5) rfl (fun w => by kernel_rfl) hR0 h1), .l (accRo hR0 c_Insn_len (inR_nat h1) 0 [.int .u8 (nn ((A0 (s0_0).toNat)).fOp), .int .u8 (nn ((A0 (s0_0).toNat)).fDst), .int .u8 (nn ((A0 (s0_0).toNat)).fSrc), .int .i16 (ii ((A0 (s0_0).toNat)).fOff), .int .i32 (ii ((A0 (s0_0).toNat)).fImm)] rfl), .cg (ok_op_Jumps hU ((A0 (s0_0).toNat)) true h2), .o, .o, .o, .o, .o, .q (ixRo_ok (kd := .i64) (T := 22) (x := s0_0) (sz := 5) rfl (fun w => by kernel_rfl) hR0 h1), .o, .l (accRo hR0 c_Insn_len (inR_nat h1) 3 [.int .i16 (ii ((A0 (s0_0).toNat)).fOff)] rfl), .v .i64 (z_of_ii (by decide) ((A0 (s0_0).toNat)).fOff), .o, .o, .o, .o, .a 0, .b (z_lssF h3), .o, .o, .o, .a 0, .b (z_geqF h4), .o, .o, .o, .o, .cg (ok_op_IsSecond hU a0 p0 q0 n0 k0 A0 hR0 (IntKind.i64.wrap ((IntKind.i64.wrap (s0_0 + 1)) + (ii ((A0 (s0_0).toNat)).fOff))) true e_rb0), .o, .o, .o, .o] [0] (fun b => rfl) (by decide) rfl (fun b => by kernel_rfl)
theorem w0_3_insn_jumpsStay_L0 (s0_0 : Int) (h0 : (decide (s0_0 < y1.fTo)) = true) (h1 : (inR s0_0 n0) = true) (h2 : (m_op_Jumps ((A0 (s0_0).toNat))) = true) (h3 : (decide ((IntKind.i64.wrap ((IntKind.i64.wrap (s0_0 + 1)) + (ii ((A0 (s0_0).toNat)).fOff))) < y1.fFrom)) = false) (h4 : (decide (y1.fTo ≤ (IntKind.i64.wrap ((IntKind.i64.wrap (s0_0 + 1)) + (ii ((A0 (s0_0).toNat)).fOff))))) = false) (e_rb0 : m_op_IsSecond n0 A0 (IntKind.i64.wrap ((IntKind.i64.wrap (s0_0 + 1)) + (ii ((A0 (s0_0).toNat)).fOff))) = some false) (rb1 : Int) (e_rb1 : m_op_Width ((A0 (s0_0).toNat)) = rb1) : GoesG Try.prog M B0 S bd_insn_jumpsStay_L0 2 (fr_insn_jumpsStay_L0 a0 p0 q0 n0 k0 A0 y1 (.c0 s0_0)) (Hs_insn_jumpsStay_L0 a0 p0 q0 n0 k0 A0 y1 (.c0 s0_0)) .normal 1 (fr_insn_jumpsStay_L0 a0 p0 q0 n0 k0 A0 y1 (.c0 (IntKind.i64.wrap (s0_0 + rb1)))) (Hs_insn_jumpsStay_L0 a0 p0 q0 n0 k0 A0 y1 (.c0 (IntKind.i64.wrap (s0_0 + rb1)))) 2 :=
  goes_runG hU [.o, .o, .a 0, .b (z_lssT h0), .o, .o, .q (ixRo_ok (kd := .i64) (T := 22) (x := s0_0) (sz := 5) rfl (fun w => by kernel_rfl) hR0 h1), .l (accRo hR0 c_Insn_len (inR_nat h1) 0 [.int .u8 (nn ((A0 (s0_0).toNat)).fOp), .int .u8 (nn ((A0 (s0_0).toNat)).fDst), .int .u8 (nn ((A0 (s0_0).toNat)).fSrc), .int .i16 (ii ((A0 (s0_0).toNat)).fOff), .int .i32 (ii ((A0 (s0_0).toNat)).fImm)] rfl), .cg (ok_op_Jumps hU ((A0 (s0_0).toNat)) true h2), .o, .o, .o, .o, .o, .q (ixRo_ok (kd := .i64) (T := 22) (x := s0_0) (sz := 5) rfl (fun w => by kernel_rfl) hR0 h1), .o, .l (accRo hR0 c_Insn_len (inR_nat h1) 3 [.int .i16 (ii ((A0 (s0_0).toNat)).fOff)] rfl), .v .i64 (z_of_ii (by decide) ((A0 (s0_0).toNat)).fOff), .o, .o, .o, .o, .a 0, .b (z_lssF h3), .o, .o, .o, .a 0, .b (z_geqF h4), .o, .o, .o, .o, .cg (ok_op_IsSecond hU a0 p0 q0 n0 k0 A0 hR0 (IntKind.i64.wrap ((IntKind.i64.wrap (s0_0 + 1)) + (ii ((A0 (s0_0).toNat)).fOff))) false e_rb0), .o, .o, .o, .o, .q (ixRo_ok (kd := .i64) (T := 22) (x := s0_0) (sz := 5) rfl (fun w => by kernel_rfl) hR0 h1), .l (accRo hR0 c_Insn_len (inR_nat h1) 0 [.int .u8 (nn ((A0 (s0_0).toNat)).fOp), .int .u8 (nn ((A0 (s0_0).toNat)).fDst), .int .u8 (nn ((A0 (s0_0).toNat)).fSrc), .int .i16 (ii ((A0 (s0_0).toNat)).fOff), .int .i32 (ii ((A0 (s0_0).toNat)).fImm)] rfl), .cg (ok_op_Width hU ((A0 (s0_0).toNat)) rb1 e_rb1), .o, .o] [0] (fun b => rfl) (by decide) rfl (fun b => by kernel_rfl)
theorem w0_4_insn_jumpsStay_L0 (s0_0 : Int) (h0 : (decide (s0_0 < y1.fTo)) = true) (h1 : (inR s0_0 n0) = true) (h2 : (m_op_Jumps ((A0 (s0_0).toNat))) = false) (rb0 : Int) (e_rb0 : m_op_Width ((A0 (s0_0).toNat)) = rb0) : GoesG Try.prog M B0 S bd_insn_jumpsStay_L0 2 (fr_insn_jumpsStay_L0 a0 p0 q0 n0 k0 A0 y1 (.c0 s0_0)) (Hs_insn_jumpsStay_L0 a0 p0 q0 n0 k0 A0 y1 (.c0 s0_0)) .normal 1 (fr_insn_jumpsStay_L0 a0 p0 q0 n0 k0 A0 y1 (.c0 (IntKind.i64.wrap (s0_0 + rb0)))) (Hs_insn_jumpsStay_L0 a0 p0 q0 n0 k0 A0 y1 (.c0 (IntKind.i64.wrap (s0_0 + rb0)))) 2 :=
  goes_runG hU [.o, .o, .a 0, .b (z_lssT h0), .o, .o, .q (ixRo_ok (kd := .i64) (T := 22) (x := s0_0) (sz := 5) rfl (fun w => by kernel_rfl) hR0 h1), .l (accRo hR0 c_Insn_len (inR_nat h1) 0 [.int .u8 (nn ((A0 (s0_0).toNat)).fOp), .int .u8 (nn ((A0 (s0_0).toNat)).fDst), .int .u8 (nn ((A0 (s0_0).toNat)).fSrc), .int .i16 (ii ((A0 (s0_0).toNat)).fOff), .int .i32 (ii ((A0 (s0_0).toNat)).fImm)] rfl), .cg (ok_op_Jumps hU ((A0 (s0_0).toNat)) false h2), .o, .o, .o, .o, .q (ixRo_ok (kd := .i64) (T := 22) (x := s0_0) (sz := 5) rfl (fun w => by kernel_rfl) hR0 h1), .l (accRo hR0 c_Insn_len (inR_nat h1) 0 [.int .u8 (nn ((A0 (s0_0).toNat)).fOp), .int .u8 (nn ((A0 (s0_0).toNat)).fDst), .int .u8 (nn ((A0 (s0_0).toNat)).fSrc), .int .i16 (ii ((A0 (s0_0).toNat)).fOff), .int .i32 (ii ((A0 (s0_0).toNat)).fImm)] rfl), .cg (ok_op_Width hU ((A0 (s0_0).toNat)) rb0 e_rb0), .o, .o] [0] (fun b => rfl) (by decide) rfl (fun b => by kernel_rfl)
theorem w0_6_insn_jumpsStay_L0 (s0_0 : Int) (h0 : (decide (s0_0 < y1.fTo)) = false) : GoesG Try.prog M B0 S bd_insn_jumpsStay_L0 2 (fr_insn_jumpsStay_L0 a0 p0 q0 n0 k0 A0 y1 (.c0 s0_0)) (Hs_insn_jumpsStay_L0 a0 p0 q0 n0 k0 A0 y1 (.c0 s0_0)) (.exit 0) 1 (vf_insn_jumpsStay_L0 a0 p0 q0 n0 k0 A0 y1 (.e0 )) (Hf_insn_jumpsStay_L0 a0 p0 q0 n0 k0 A0 y1 (.e0 )) 2 :=
  goes_runG hU [.o, .o, .a 0, .b (z_lssF h0)] [0] (fun b => rfl) (by decide) rfl (fun b => by kernel_rfl)
theorem go_insn_jumpsStay_L0 (s : Sh_insn_jumpsStay_L0) (r : Ex_insn_jumpsStay_L0) (h : lpO (st_insn_jumpsStay_L0 n0 A0 y1) s = some r) : GoesG Try.prog M B0 S (.loop bd_insn_jumpsStay_L0) 2 (fr_insn_jumpsStay_L0 a0 p0 q0 n0 k0 A0 y1 s) (Hs_insn_jumpsStay_L0 a0 p0 q0 n0 k0 A0 y1 s) (ex_insn_jumpsStay_L0 r) 1 (vf_insn_jumpsStay_L0 a0 p0 q0 n0 k0 A0 y1 r) (Hf_insn_jumpsStay_L0 a0 p0 q0 n0 k0 A0 y1 r) 2 :=
  goes_lpO (fun s q e => by
    cases s with
    | c0 s0_0 =>
      unfold st_insn_jumpsStay_L0 at e
      dsimp only at e
      replace e := cond_eq_or e
      rcases e with ⟨hq0, e⟩ | ⟨hq0, e⟩
      · replace e := cond_eq_or e
        rcases e with ⟨hq1, e⟩ | ⟨hq1, e⟩
        · replace e := cond_eq_or e
          rcases e with ⟨hq2, e⟩ | ⟨hq2, e⟩
          · replace e := cond_eq_or e
            rcases e with ⟨hq3, e⟩ | ⟨hq3, e⟩
            · cases e; exact ⟨ne_ret, w0_0_insn_jumpsStay_L0 hU a0 p0 q0 n0 k0 A0 hR0 y1 s0_0 hq0 hq1 hq2 hq3⟩
            · replace e := cond_eq_or e
              rcases e with ⟨hq4, e⟩ | ⟨hq4, e⟩
              · cases e; exact ⟨ne_ret, w0_1_insn_jumpsStay_L0 hU a0 p0 q0 n0 k0 A0 hR0 y1 s0_0 hq0 hq1 hq2 hq3 hq4⟩
              · replace e := bindO_eq e
                obtain ⟨rb0, e_rb0, e⟩ := e
                try dsimp only at e
                replace e := cond_eq_or e
                rcases e with ⟨hq5, e⟩ | ⟨hq5, e⟩
                · subst hq5
                  cases e; exact ⟨ne_ret, w0_2_insn_jumpsStay_L0 hU a0 p0 q0 n0 k0 A0 hR0 y1 s0_0 hq0 hq1 hq2 hq3 hq4 e_rb0⟩
                · subst hq5
                  replace e := bindT_eq e
                  obtain ⟨rb1, e_rb1, e⟩ := e
                  try dsimp only at e
                  cases e; exact w0_3_insn_jumpsStay_L0 hU a0 p0 q0 n0 k0 A0 hR0 y1 s0_0 hq0 hq1 hq2 hq3 hq4 e_rb0 rb1 e_rb1
          · replace e := bindT_eq e
            obtain ⟨rb0, e_rb0, e⟩ := e
            try dsimp only at e
            cases e; exact w0_4_insn_jumpsStay_L0 hU a0 p0 q0 n0 k0 A0 hR0 y1 s0_0 hq0 hq1 hq2 rb0 e_rb0
        · exact none_some e
      · cases e; exact ⟨ne_exit 0, w0_6_insn_jumpsStay_L0 hU a0 p0 q0 n0 k0 A0 hR0 y1 s0_0 hq0⟩) s r h
def t0_insn_jumpsStay_L0_0 (a0 : Option Addr) (p0 : Nat) (q0 : Nat) (n0 : Nat) (k0 : Nat) (A0 : Nat → Insn) (y1 : Part) (s0_0 : Int) (ls : List L1) : List Value := [.slice a0 n0 (n0 + k0), (v_Part y1), undef, .pointer (some ⟨(lget ls 0).n, 0, none⟩), .int .i64 (0), .bool false, .int .i64 (s0_0), undef, .pointer (some ⟨(lget ls 0).n, 0, none⟩), .int .i64 (y1.fFrom), undef, undef, undef, undef, undef, undef, undef, undef, undef, undef, undef, undef, undef, undef, undef, undef, undef, undef, undef, undef, undef, undef, undef, undef, undef, undef, undef, undef, undef, undef, undef, undef, undef, undef, undef, undef, undef, undef, undef, undef, undef, undef]
def pre_insn_jumpsStay_L0_0 (a0 : Option Addr) (p0 : Nat) (q0 : Nat) (n0 : Nat) (k0 : Nat) (A0 : Nat → Insn) (y1 : Part) (s0_0 : Int) (ls : List L1) : List Obj := [.cells #[.int .i64 (y1.fFrom), .int .i64 (y1.fTo)] 49]
theorem sp0_insn_jumpsStay_L0_0_ok (s0_0 : Int) (h : lpO (st_insn_jumpsStay_L0 n0 A0 y1) (.c0 s0_0) = some (.e0 )) : SpcG Try.prog M B0 S ⟨fun ls => .code (.loop bd_insn_jumpsStay_L0) (t0_insn_jumpsStay_L0_0 a0 p0 q0 n0 k0 A0 y1 s0_0 ls), pre_insn_jumpsStay_L0_0 a0 p0 q0 n0 k0 A0 y1 s0_0, 1, (.exit 0), fun ls => vf_insn_jumpsStay_L0 a0 p0 q0 n0 k0 A0 y1 (.e0 ) (ls.take 1 ++ ls.drop 1), fun ls => (Hf_insn_jumpsStay_L0 a0 p0 q0 n0 k0 A0 y1 (.e0 ) (ls.take 1 ++ ls.drop 1)).take 1 ++ List.replicate 0 unb, fun ls => (Hf_insn_jumpsStay_L0 a0 p0 q0 n0 k0 A0 y1 (.e0 ) (ls.take 1 ++ ls.drop 1)).drop 1⟩ :=
  spc_of_goesG hU 0 (k0 := 1) (go_insn_jumpsStay_L0 hU a0 p0 q0 n0 k0 A0 hR0 y1 _ _ h) (t0_insn_jumpsStay_L0_0 a0 p0 q0 n0 k0 A0 y1 s0_0) (pre_insn_jumpsStay_L0_0 a0 p0 q0 n0 k0 A0 y1 s0_0) (fun _ => rfl) (fun ls h => by match ls, h with | [l0], _ => rfl) (fun ls h => by match ls, h with | [l0], _ => rfl) (by decide) (by decide) (fun ls => rfl)
theorem sp1_insn_jumpsStay_L0_0_ok (s0_0 : Int) (c1_0 : Int) (h : lpO (st_insn_jumpsStay_L0 n0 A0 y1) (.c0 s0_0) = some (.e1 c1_0)) : SpcG Try.prog M B0 S ⟨fun ls => .code (.loop bd_insn_jumpsStay_L0) (t0_insn_jumpsStay_L0_0 a0 p0 q0 n0 k0 A0 y1 s0_0 ls), pre_insn_jumpsStay_L0_0 a0 p0 q0 n0 k0 A0 y1 s0_0, 1, .ret, fun ls => vf_insn_jumpsStay_L0 a0 p0 q0 n0 k0 A0 y1 (.e1 c1_0) (ls.take 1 ++ ls.drop 1), fun ls => (Hf_insn_jumpsStay_L0 a0 p0 q0 n0 k0 A0 y1 (.e1 c1_0) (ls.take 1 ++ ls.drop 1)).take 1 ++ List.replicate 0 unb, fun ls => (Hf_insn_jumpsStay_L0 a0 p0 q0 n0 k0 A0 y1 (.e1 c1_0) (ls.take 1 ++ ls.drop 1)).drop 1⟩ :=
  spc_of_goesG hU 0 (k0 := 1) (go_insn_jumpsStay_L0 hU a0 p0 q0 n0 k0 A0 hR0 y1 _ _ h) (t0_insn_jumpsStay_L0_0 a0 p0 q0 n0 k0 A0 y1 s0_0) (pre_insn_jumpsStay_L0_0 a0 p0 q0 n0 k0 A0 y1 s0_0) (fun _ => rfl) (fun ls h => by match ls, h with | [l0], _ => rfl) (fun ls h => by match ls, h with | [l0], _ => rfl) (by decide) (by decide) (fun ls => rfl)
noncomputable def m_insn_jumpsStay (n0 : Nat) (A0 : Nat → Insn) (y1 : Part) : Option ((Int) × (Bool)) :=
  (lpO (st_insn_jumpsStay_L0 n0 A0 y1) (.c0 y1.fFrom)).bind fun g0 => match g0 with
  | .e0  => (some (0, true))
  | .e1 g0_0 => (some (g0_0, false))
theorem p0_insn_jumpsStay (e_g0 : lpO (st_insn_jumpsStay_L0 n0 A0 y1) (.c0 y1.fFrom) = some (.e0 )) : ConG Try.prog S 25 #[.slice a0 n0 (n0 + k0), (v_Part y1)] (vt0 (0, true)) :=
  fn_conG hU (P := Try.prog) Try.func25 (fun xs w => by kernel_rfl) [.slice a0 n0 (n0 + k0), (v_Part y1)] (vt0 (0, true))
    [.o, .o, .o, .o, .a 0, .o, .cp, .cx (sp0_insn_jumpsStay_L0_0_ok hU a0 p0 q0 n0 k0 A0 hR0 y1 y1.fFrom  e_g0) [0], .o, .o]
    [] (fun b => by kernel_rfl)
theorem p1_insn_jumpsStay (g0_0 : Int) (e_g0 : lpO (st_insn_jumpsStay_L0 n0 A0 y1) (.c0 y1.fFrom) = some (.e1 g0_0)) : ConG Try.prog S 25 #[.slice a0 n0 (n0 + k0), (v_Part y1)] (vt0 (g0_0, false)) :=
  fn_conG hU (P := Try.prog) Try.func25 (fun xs w => by kernel_rfl) [.slice a0 n0 (n0 + k0), (v_Part y1)] (vt0 (g0_0, false))
    [.o, .o, .o, .o, .a 0, .o, .cp, .cx (sp1_insn_jumpsStay_L0_0_ok hU a0 p0 q0 n0 k0 A0 hR0 y1 y1.fFrom g0_0 e_g0) [0]]
    [] (fun b => by kernel_rfl)
theorem ok_insn_jumpsStay (r : (Int) × (Bool)) (e : m_insn_jumpsStay n0 A0 y1 = some r) : ConG Try.prog S 25 #[.slice a0 n0 (n0 + k0), (v_Part y1)] (vt0 r) := by
  unfold m_insn_jumpsStay at e
  replace e := bindO_eq e
  obtain ⟨g0, e_g0, e⟩ := e
  rcases g0 with _ | ⟨g0_0⟩
  · try dsimp only at e
    injection e with e; subst e; exact p0_insn_jumpsStay hU a0 p0 q0 n0 k0 A0 hR0 y1 e_g0
  · try dsimp only at e
    injection e with e; subst e; exact p1_insn_jumpsStay hU a0 p0 q0 n0 k0 A0 hR0 y1 g0_0 e_g0
inductive Sh_insn_split_L0 where
  | c0 (s0_0 : Nat → Bool) (s0_1 : Int)
inductive Ex_insn_split_L0 where
  | e0 (c0_0 : Nat → Bool)
noncomputable def st_insn_split_L0 (n0 : Nat) (A0 : Nat → Insn) : Sh_insn_split_L0 → Option (Sh_insn_split_L0 ⊕ Ex_insn_split_L0)
  | .c0 s0_0 s0_1 =>
    bif decide (s0_1 < (n0 : Int)) then
      (bif inR s0_1 n0 then
        (bif m_insn_names ((A0 (s0_1).toNat)) then
          (bif inR (IntKind.i64.wrap ((IntKind.i64.wrap (s0_1 + 1)) + (ii ((A0 (s0_1).toNat)).fImm))) 4096 then
            (bindT (updF s0_0 ((IntKind.i64.wrap ((IntKind.i64.wrap (s0_1 + 1)) + (ii ((A0 (s0_1).toNat)).fImm)))).toNat true) fun rb0 =>
            bindT (m_op_Width ((A0 (s0_1).toNat))) fun rb1 =>
            some (.inl (.c0 rb0 (IntKind.i64.wrap (s0_1 + rb1)))))
          else (none))
        else (bindT (m_op_Width ((A0 (s0_1).toNat))) fun rb0 =>
        some (.inl (.c0 s0_0 (IntKind.i64.wrap (s0_1 + rb0))))))
      else (none))
    else (some (.inr (.e0 s0_0)))
noncomputable def bd_insn_split_L0 : Code := codeOf Try.f33 [1, 1, 1, 0, 1, 0, 0]
def fr_insn_split_L0 (a0 : Option Addr) (p0 : Nat) (q0 : Nat) (n0 : Nat) (k0 : Nat) (A0 : Nat → Insn) : Sh_insn_split_L0 → List L1 → List Value
  | .c0 s0_0 s0_1, ls => [.slice a0 n0 (n0 + k0), ((lget ls 1).u 1), .slice none 0 0, .pointer (some ⟨(lget ls 0).n, 0, none⟩), .int .i64 (s0_1), undef, undef, ((lget ls 1).u 7), ((lget ls 1).u 8), ((lget ls 1).u 9), ((lget ls 1).u 10), ((lget ls 1).u 11), ((lget ls 1).u 12), ((lget ls 1).u 13), ((lget ls 1).u 14), ((lget ls 1).u 15), ((lget ls 1).u 16), ((lget ls 1).u 17), ((lget ls 1).u 18), ((lget ls 1).u 19), ((lget ls 1).u 20), ((lget ls 1).u 21), ((lget ls 1).u 22), ((lget ls 1).u 23), ((lget ls 1).u 24), ((lget ls 1).u 25), ((lget ls 1).u 26), ((lget ls 1).u 27), ((lget ls 1).u 28), ((lget ls 1).u 29), ((lget ls 1).u 30), ((lget ls 1).u 31), ((lget ls 1).u 32), ((lget ls 1).u 33), undef, undef, undef, undef, undef, undef, undef, undef, undef, undef, undef, undef, undef, undef, undef, undef, undef, undef, undef, undef, undef, undef, undef]
def Hs_insn_split_L0 (a0 : Option Addr) (p0 : Nat) (q0 : Nat) (n0 : Nat) (k0 : Nat) (A0 : Nat → Insn) : Sh_insn_split_L0 → List L1 → List Obj
  | .c0 s0_0 s0_1, ls => [.cells ⟨esG cB 4096 s0_0⟩ 77, unb]
def vf_insn_split_L0 (a0 : Option Addr) (p0 : Nat) (q0 : Nat) (n0 : Nat) (k0 : Nat) (A0 : Nat → Insn) : Ex_insn_split_L0 → List L1 → List Value
  | .e0 c0_0, ls => [.slice a0 n0 (n0 + k0), ((lget ls 1).u 1), .slice none 0 0, .pointer (some ⟨(lget ls 0).n, 0, none⟩), ((lget ls 1).u 4), undef, undef, ((lget ls 1).u 7), ((lget ls 1).u 8), ((lget ls 1).u 9), ((lget ls 1).u 10), ((lget ls 1).u 11), ((lget ls 1).u 12), ((lget ls 1).u 13), ((lget ls 1).u 14), ((lget ls 1).u 15), ((lget ls 1).u 16), ((lget ls 1).u 17), ((lget ls 1).u 18), ((lget ls 1).u 19), ((lget ls 1).u 20), ((lget ls 1).u 21), ((lget ls 1).u 22), ((lget ls 1).u 23), ((lget ls 1).u 24), ((lget ls 1).u 25), ((lget ls 1).u 26), ((lget ls 1).u 27), ((lget ls 1).u 28), ((lget ls 1).u 29), ((lget ls 1).u 30), ((lget ls 1).u 31), ((lget ls 1).u 32), ((lget ls 1).u 33), undef, undef, undef, undef, undef, undef, undef, undef, undef, undef, undef, undef, undef, undef, undef, undef, undef, undef, undef, undef, undef, undef, undef]
def Hf_insn_split_L0 (a0 : Option Addr) (p0 : Nat) (q0 : Nat) (n0 : Nat) (k0 : Nat) (A0 : Nat → Insn) : Ex_insn_split_L0 → List L1 → List Obj
  | .e0 c0_0, ls => [.cells ⟨esG cB 4096 c0_0⟩ 77, unb]
def ex_insn_split_L0 : Ex_insn_split_L0 → Ex
  | .e0 _ => (.exit 0)
end
section
variable {M : Nat → Prop} {B0 : Nat} {S : World → Prop} (hU : Up M B0 S) (a0 : Option Addr) (p0 : Nat) (q0 : Nat) (n0 : Nat) (k0 : Nat) (A0 : Nat → Insn) (hR0 : Ro S c_Insn 5 a0 p0 q0 n0 A0) (s0_0 : Nat → Bool) (s0_1 : Int) (h0 : (decide (s0_1 < (n0 : Int))) = true) (h1 : (inR s0_1 n0) = true)
include hU a0 p0 q0 n0 k0 A0 hR0 s0_0 s0_1 h0 h1
theorem w0_0_insn_split_L0 (h2 : (m_insn_names ((A0 (s0_1).toNat))) = true) (h3 : (inR (IntKind.i64.wrap ((IntKind.i64.wrap (s0_1 + 1)) + (ii ((A0 (s0_1).toNat)).fImm))) 4096) = true) (rb0 : Nat → Bool) (e_rb0 : updF s0_0 ((IntKind.i64.wrap ((IntKind.i64.wrap (s0_1 + 1)) + (ii ((A0 (s0_1).toNat)).fImm)))).toNat true = rb0) (rb1 : Int) (e_rb1 : m_op_Width ((A0 (s0_1).toNat)) = rb1) : GoesG Try.prog M B0 S bd_insn_split_L0 2 (fr_insn_split_L0 a0 p0 q0 n0 k0 A0 (.c0 s0_0 s0_1)) (Hs_insn_split_L0 a0 p0 q0 n0 k0 A0 (.c0 s0_0 s0_1)) .normal 1 (fr_insn_split_L0 a0 p0 q0 n0 k0 A0 (.c0 rb0 (IntKind.i64.wrap (s0_1 + rb1)))) (Hs_insn_split_L0 a0 p0 q0 n0 k0 A0 (.c0 rb0 (IntKind.i64.wrap (s0_1 + rb1)))) 2 :=
  goes_runG hU [.o, .o, .o, .b (z_lssT h0), .o, .o, .q (ixRo_ok (kd := .i64) (T := 22) (x := s0_1) (sz := 5) rfl (fun w => by kernel_rfl) hR0 h1), .l (accRo hR0 c_Insn_len (inR_nat h1) 0 [.int .u8 (nn ((A0 (s0_1).toNat)).fOp), .int .u8 (nn ((A0 (s0_1).toNat)).fDst), .int .u8 (nn ((A0 (s0_1).toNat)).fSrc), .int .i16 (ii ((A0 (s0_1).toNat)).fOff), .int .i32 (ii ((A0 (s0_1).toNat)).fImm)] rfl), .cg (ok_insn_names hU ((A0 (s0_1).toNat)) true h2), .o, .o, .o, .o, .q (ixRo_ok (kd := .i64) (T := 22) (x := s0_1) (sz := 5) rfl (fun w => by kernel_rfl) hR0 h1), .o, .l (accRo hR0 c_Insn_len (inR_nat h1) 4 [.int .i32 (ii ((A0 (s0_1).toNat)).fImm)] rfl), .v .i64 (z_of_ii (by decide) ((A0 (s0_1).toNat)).fImm), .o, .q (ixA_ok (kd := .i64) (T := 77) (x := (IntKind.i64.wrap ((IntKind.i64.wrap (s0_1 + 1)) + (ii ((A0 (s0_1).toNat)).fImm)))) (sz := 1) (N := 4096) rfl rfl (fun w => by kernel_rfl) h3), .x (sqStFr_ok (T := 4) (e := 77) (f := cB) (A := s0_0) (v := true) 0 (.bool true) cB_len cB_one rfl rfl (fun w => by kernel_rfl) (inR_nat h3) e_rb0) [0], .o, .o, .o, .q (ixRo_ok (kd := .i64) (T := 22) (x := s0_1) (sz := 5) rfl (fun w => by kernel_rfl) hR0 h1), .l (accRo hR0 c_Insn_len (inR_nat h1) 0 [.int .u8 (nn ((A0 (s0_1).toNat)).fOp), .int .u8 (nn ((A0 (s0_1).toNat)).fDst), .int .u8 (nn ((A0 (s0_1).toNat)).fSrc), .int .i16 (ii ((A0 (s0_1).toNat)).fOff), .int .i32 (ii ((A0 (s0_1).toNat)).fImm)] rfl), .cg (ok_op_Width hU ((A0 (s0_1).toNat)) rb1 e_rb1), .o, .o] [0] (fun b => rfl) (by decide) rfl (fun b => by kernel_rfl)
theorem w0_2_insn_split_L0 (h2 : (m_insn_names ((A0 (s0_1).toNat))) = false) (rb0 : Int) (e_rb0 : m_op_Width ((A0 (s0_1).toNat)) = rb0) : GoesG Try.prog M B0 S bd_insn_split_L0 2 (fr_insn_split_L0 a0 p0 q0 n0 k0 A0 (.c0 s0_0 s0_1)) (Hs_insn_split_L0 a0 p0 q0 n0 k0 A0 (.c0 s0_0 s0_1)) .normal 1 (fr_insn_split_L0 a0 p0 q0 n0 k0 A0 (.c0 s0_0 (IntKind.i64.wrap (s0_1 + rb0)))) (Hs_insn_split_L0 a0 p0 q0 n0 k0 A0 (.c0 s0_0 (IntKind.i64.wrap (s0_1 + rb0)))) 2 :=
  goes_runG hU [.o, .o, .o, .b (z_lssT h0), .o, .o, .q (ixRo_ok (kd := .i64) (T := 22) (x := s0_1) (sz := 5) rfl (fun w => by kernel_rfl) hR0 h1), .l (accRo hR0 c_Insn_len (inR_nat h1) 0 [.int .u8 (nn ((A0 (s0_1).toNat)).fOp), .int .u8 (nn ((A0 (s0_1).toNat)).fDst), .int .u8 (nn ((A0 (s0_1).toNat)).fSrc), .int .i16 (ii ((A0 (s0_1).toNat)).fOff), .int .i32 (ii ((A0 (s0_1).toNat)).fImm)] rfl), .cg (ok_insn_names hU ((A0 (s0_1).toNat)) false h2), .o, .o, .o, .q (ixRo_ok (kd := .i64) (T := 22) (x := s0_1) (sz := 5) rfl (fun w => by kernel_rfl) hR0 h1), .l (accRo hR0 c_Insn_len (inR_nat h1) 0 [.int .u8 (nn ((A0 (s0_1).toNat)).fOp), .int .u8 (nn ((A0 (s0_1).toNat)).fDst), .int .u8 (nn ((A0 (s0_1).toNat)).fSrc), .int .i16 (ii ((A0 (s0_1).toNat)).fOff), .int .i32 (ii ((A0 (s0_1).toNat)).fImm)] rfl), .cg (ok_op_Width hU ((A0 (s0_1).toNat)) rb0 e_rb0), .o, .o] [0] (fun b => rfl) (by decide) rfl (fun b => by kernel_rfl)
end
section
variable {M : Nat → Prop} {B0 : Nat} {S : World → Prop} (hU : Up M B0 S) (a0 : Option Addr) (p0 : Nat) (q0 : Nat) (n0 : Nat) (k0 : Nat) (A0 : Nat → Insn) (hR0 : Ro S c_Insn 5 a0 p0 q0 n0 A0)
include hU a0 p0 q0 n0 k0 A0 hR0
theorem w0_4_insn_split_L0 (s0_0 : Nat → Bool) (s0_1 : Int) (h0 : (decide (s0_1 < (n0 : Int))) = false) : GoesG Try.prog M B0 S bd_insn_split_L0 2 (fr_insn_split_L0 a0 p0 q0 n0 k0 A0 (.c0 s0_0 s0_1)) (Hs_insn_split_L0 a0 p0 q0 n0 k0 A0 (.c0 s0_0 s0_1)) (.exit 0) 1 (vf_insn_split_L0 a0 p0 q0 n0 k0 A0 (.e0 s0_0)) (Hf_insn_split_L0 a0 p0 q0 n0 k0 A0 (.e0 s0_0)) 2 :=
  goes_runG hU [.o, .o, .o, .b (z_lssF h0)] [0] (fun b => rfl) (by decide) rfl (fun b => by kernel_rfl)
theorem go_insn_split_L0 (s : Sh_insn_split_L0) (r : Ex_insn_split_L0) (h : lpO (st_insn_split_L0 n0 A0) s = some r) : GoesG Try.prog M B0 S (.loop bd_insn_split_L0) 2 (fr_insn_split_L0 a0 p0 q0 n0 k0 A0 s) (Hs_insn_split_L0 a0 p0 q0 n0 k0 A0 s) (ex_insn_split_L0 r) 1 (vf_insn_split_L0 a0 p0 q0 n0 k0 A0 r) (Hf_insn_split_L0 a0 p0 q0 n0 k0 A0 r) 2 :=
  goes_lpO (fun s q e => by
    cases s with
    | c0 s0_0 s0_1 =>
      unfold st_insn_split_L0 at e
      dsimp only at e
      replace e := cond_eq_or e
      rcases e with ⟨hq0, e⟩ | ⟨hq0, e⟩
      · replace e := cond_eq_or e
        rcases e with ⟨hq1, e⟩ | ⟨hq1, e⟩
        · replace e := cond_eq_or e
          rcases e with ⟨hq2, e⟩ | ⟨hq2, e⟩
          · replace e := cond_eq_or e
            rcases e with ⟨hq3, e⟩ | ⟨hq3, e⟩
            · replace e := bindT_eq e
              obtain ⟨rb0, e_rb0, e⟩ := e
              try dsimp only at e
              replace e := bindT_eq e
              obtain ⟨rb1, e_rb1, e⟩ := e
              try dsimp only at e
              cases e; exact w0_0_insn_split_L0 hU a0 p0 q0 n0 k0 A0 hR0 s0_0 s0_1 hq0 hq1 hq2 hq3 rb0 e_rb0 rb1 e_rb1
            · exact none_some e
          · replace e := bindT_eq e
            obtain ⟨rb0, e_rb0, e⟩ := e
            try dsimp only at e
            cases e; exact w0_2_insn_split_L0 hU a0 p0 q0 n0 k0 A0 hR0 s0_0 s0_1 hq0 hq1 hq2 rb0 e_rb0
        · exact none_some e
      · cases e; exact ⟨ne_exit 0, w0_4_insn_split_L0 hU a0 p0 q0 n0 k0 A0 hR0 s0_0 s0_1 hq0⟩) s r h
def t0_insn_split_L0_0 (a0 : Option Addr) (p0 : Nat) (q0 : Nat) (n0 : Nat) (k0 : Nat) (A0 : Nat → Insn) (s0_0 : Nat → Bool) (s0_1 : Int) (ls : List L1) : List Value := [.slice a0 n0 (n0 + k0), undef, .slice none 0 0, .pointer (some ⟨(lget ls 0).n, 0, none⟩), .int .i64 (s0_1), undef, undef, .pointer (some ⟨(lget ls 0).n, 0 + 0 * 1, none⟩), undef, undef, undef, undef, undef, undef, undef, undef, undef, undef, undef, undef, undef, undef, undef, undef, undef, undef, undef, undef, undef, undef, undef, undef, undef, undef, undef, undef, undef, undef, undef, undef, undef, undef, undef, undef, undef, undef, undef, undef, undef, undef, undef, undef, undef, undef, undef, undef, undef]
def pre_insn_split_L0_0 (a0 : Option Addr) (p0 : Nat) (q0 : Nat) (n0 : Nat) (k0 : Nat) (A0 : Nat → Insn) (s0_0 : Nat → Bool) (s0_1 : Int) (ls : List L1) : List Obj := [.cells ⟨esG cB 4096 s0_0⟩ 77]
theorem sp0_insn_split_L0_0_ok (s0_0 : Nat → Bool) (s0_1 : Int) (c0_0 : Nat → Bool) (h : lpO (st_insn_split_L0 n0 A0) (.c0 s0_0 s0_1) = some (.e0 c0_0)) : SpcG Try.prog M B0 S ⟨fun ls => .code (.loop bd_insn_split_L0) (t0_insn_split_L0_0 a0 p0 q0 n0 k0 A0 s0_0 s0_1 ls), pre_insn_split_L0_0 a0 p0 q0 n0 k0 A0 s0_0 s0_1, 1, (.exit 0), fun ls => vf_insn_split_L0 a0 p0 q0 n0 k0 A0 (.e0 c0_0) (ls.take 1 ++ ls.drop 1), fun ls => (Hf_insn_split_L0 a0 p0 q0 n0 k0 A0 (.e0 c0_0) (ls.take 1 ++ ls.drop 1)).take 1 ++ List.replicate 0 unb, fun ls => (Hf_insn_split_L0 a0 p0 q0 n0 k0 A0 (.e0 c0_0) (ls.take 1 ++ ls.drop 1)).drop 1⟩ :=
  spc_of_goesG hU 0 (k0 := 1) (go_insn_split_L0 hU a0 p0 q0 n0 k0 A0 hR0 _ _ h) (t0_insn_split_L0_0 a0 p0 q0 n0 k0 A0 s0_0 s0_1) (pre_insn_split_L0_0 a0 p0 q0 n0 k0 A0 s0_0 s0_1) (fun _ => rfl) (fun ls h => by match ls, h with | [l0], _ => rfl) (fun ls h => by match ls, h with | [l0], _ => rfl) (by decide) (by decide) (fun ls => rfl)
inductive Sh_insn_split_L1 where
  | c0 
  | c1 (s0_0 : Nat) (s0_1 : Nat → Part) (s0_2 : Int)
inductive Ex_insn_split_L1 where
  | e0 
  | e1 (c1_0 : Nat) (c1_1 : Nat → Part)
noncomputable def st_insn_split_L1 (n0 : Nat) (g0_0 : Nat → Bool) : Sh_insn_split_L1 → Option (Sh_insn_split_L1 ⊕ Ex_insn_split_L1)
  | .c0  =>
    bif decide (0 < (n0 : Int)) then
      (bif (g0_0 0) then
        (some (.inl (.c1 1 (updF (fun _ => (⟨0, 0⟩ : Part)) 0 (⟨0, 1⟩ : Part)) 1)))
      else (none))
    else (some (.inr (.e0 )))
  | .c1 s0_0 s0_1 s0_2 =>
    bif decide (s0_2 < (n0 : Int)) then
      (bif inR s0_2 4096 then
        (bif (g0_0 (s0_2).toNat) then
          (bif decide (s0_0 ≤ 1000000) then
            (bif inR (IntKind.i64.wrap (((s0_0 + 1) : Int) - 1)) (s0_0 + 1) then
              (bindT (updF (updF s0_1 s0_0 (⟨s0_2, 0⟩ : Part)) ((IntKind.i64.wrap (((s0_0 + 1) : Int) - 1))).toNat (⟨(((updF s0_1 s0_0 (⟨s0_2, 0⟩ : Part)) ((IntKind.i64.wrap (((s0_0 + 1) : Int) - 1))).toNat)).fFrom, (IntKind.i64.wrap (s0_2 + 1))⟩ : Part)) fun rb0 =>
              some (.inl (.c1 (s0_0 + 1) rb0 (IntKind.i64.wrap (s0_2 + 1)))))
            else (none))
          else (none))
        else (bif inR (IntKind.i64.wrap ((s0_0 : Int) - 1)) s0_0 then
          (bindT (updF s0_1 ((IntKind.i64.wrap ((s0_0 : Int) - 1))).toNat (⟨((s0_1 ((IntKind.i64.wrap ((s0_0 : Int) - 1))).toNat)).fFrom, (IntKind.i64.wrap (s0_2 + 1))⟩ : Part)) fun rb0 =>
          some (.inl (.c1 s0_0 rb0 (IntKind.i64.wrap (s0_2 + 1)))))
        else (none)))
      else (none))
    else (some (.inr (.e1 s0_0 s0_1)))
noncomputable def bd_insn_split_L1 : Code := codeOf Try.f33 [1, 1, 1, 1, 1, 0, 1, 0, 0]
def fr_insn_split_L1 (a0 : Option Addr) (p0 : Nat) (q0 : Nat) (n0 : Nat) (k0 : Nat) (A0 : Nat → Insn) (g0_0 : Nat → Bool) : Sh_insn_split_L1 → List L1 → List Value
  | .c0 , ls => [((lget ls 3).u 0), ((lget ls 3).u 1), .slice none 0 0, .pointer (some ⟨(lget ls 0).n, 0, none⟩), ((lget ls 3).u 4), .slice none 0 0, ((lget ls 3).u 6), ((lget ls 3).u 7), ((lget ls 3).u 8), ((lget ls 3).u 9), ((lget ls 3).u 10), ((lget ls 3).u 11), ((lget ls 3).u 12), ((lget ls 3).u 13), ((lget ls 3).u 14), ((lget ls 3).u 15), ((lget ls 3).u 16), ((lget ls 3).u 17), ((lget ls 3).u 18), ((lget ls 3).u 19), ((lget ls 3).u 20), ((lget ls 3).u 21), ((lget ls 3).u 22), ((lget ls 3).u 23), ((lget ls 3).u 24), ((lget ls 3).u 25), ((lget ls 3).u 26), ((lget ls 3).u 27), ((lget ls 3).u 28), ((lget ls 3).u 29), ((lget ls 3).u 30), ((lget ls 3).u 31), ((lget ls 3).u 32), ((lget ls 3).u 33), ((lget ls 3).u 34), .int .i64 ((n0 : Int)), .int .i64 (0), ((lget ls 3).u 37), ((lget ls 3).u 38), ((lget ls 3).u 39), ((lget ls 3).u 40), ((lget ls 3).u 41), ((lget ls 3).u 42), ((lget ls 3).u 43), ((lget ls 3).u 44), ((lget ls 3).u 45), ((lget ls 3).u 46), ((lget ls 3).u 47), ((lget ls 3).u 48), ((lget ls 3).u 49), ((lget ls 3).u 50), ((lget ls 3).u 51), ((lget ls 3).u 52), ((lget ls 3).u 53), ((lget ls 3).u 54), ((lget ls 3).u 55), undef]
  | .c1 s0_0 s0_1 s0_2, ls => [((lget ls 3).u 0), ((lget ls 3).u 1), .slice none 0 0, .pointer (some ⟨(lget ls 0).n, 0, none⟩), ((lget ls 3).u 4), (rowV (lget ls 2) s0_0 2), ((lget ls 3).u 6), ((lget ls 3).u 7), ((lget ls 3).u 8), ((lget ls 3).u 9), ((lget ls 3).u 10), ((lget ls 3).u 11), ((lget ls 3).u 12), ((lget ls 3).u 13), ((lget ls 3).u 14), ((lget ls 3).u 15), ((lget ls 3).u 16), ((lget ls 3).u 17), ((lget ls 3).u 18), ((lget ls 3).u 19), ((lget ls 3).u 20), ((lget ls 3).u 21), ((lget ls 3).u 22), ((lget ls 3).u 23), ((lget ls 3).u 24), ((lget ls 3).u 25), ((lget ls 3).u 26), ((lget ls 3).u 27), ((lget ls 3).u 28), ((lget ls 3).u 29), ((lget ls 3).u 30), ((lget ls 3).u 31), ((lget ls 3).u 32), ((lget ls 3).u 33), ((lget ls 3).u 34), .int .i64 ((n0 : Int)), .int .i64 (s0_2), ((lget ls 3).u 37), ((lget ls 3).u 38), ((lget ls 3).u 39), ((lget ls 3).u 40), ((lget ls 3).u 41), ((lget ls 3).u 42), ((lget ls 3).u 43), ((lget ls 3).u 44), ((lget ls 3).u 45), ((lget ls 3).u 46), ((lget ls 3).u 47), ((lget ls 3).u 48), ((lget ls 3).u 49), ((lget ls 3).u 50), ((lget ls 3).u 51), ((lget ls 3).u 52), ((lget ls 3).u 53), ((lget ls 3).u 54), ((lget ls 3).u 55), undef]
def Hs_insn_split_L1 (a0 : Option Addr) (p0 : Nat) (q0 : Nat) (n0 : Nat) (k0 : Nat) (A0 : Nat → Insn) (g0_0 : Nat → Bool) : Sh_insn_split_L1 → List L1 → List Obj
  | .c0 , ls => [.cells ⟨esG cB 4096 g0_0⟩ 77, unb, unb, unb]
  | .c1 s0_0 s0_1 s0_2, ls => [.cells ⟨esG cB 4096 g0_0⟩ 77, unb, rowO (lget ls 2) (esG c_Part s0_0 s0_1) 49 s0_0 2, unb]
def vf_insn_split_L1 (a0 : Option Addr) (p0 : Nat) (q0 : Nat) (n0 : Nat) (k0 : Nat) (A0 : Nat → Insn) (g0_0 : Nat → Bool) : Ex_insn_split_L1 → List L1 → List Value
  | .e0 , ls => [((lget ls 3).u 0), ((lget ls 3).u 1), .slice none 0 0, .pointer (some ⟨(lget ls 0).n, 0, none⟩), ((lget ls 3).u 4), .slice none 0 0, ((lget ls 3).u 6), ((lget ls 3).u 7), ((lget ls 3).u 8), ((lget ls 3).u 9), ((lget ls 3).u 10), ((lget ls 3).u 11), ((lget ls 3).u 12), ((lget ls 3).u 13), ((lget ls 3).u 14), ((lget ls 3).u 15), ((lget ls 3).u 16), ((lget ls 3).u 17), ((lget ls 3).u 18), ((lget ls 3).u 19), ((lget ls 3).u 20), ((lget ls 3).u 21), ((lget ls 3).u 22), ((lget ls 3).u 23), ((lget ls 3).u 24), ((lget ls 3).u 25), ((lget ls 3).u 26), ((lget ls 3).u 27), ((lget ls 3).u 28), ((lget ls 3).u 29), ((lget ls 3).u 30), ((lget ls 3).u 31), ((lget ls 3).u 32), ((lget ls 3).u 33), ((lget ls 3).u 34), .int .i64 ((n0 : Int)), ((lget ls 3).u 36), ((lget ls 3).u 37), ((lget ls 3).u 38), ((lget ls 3).u 39), ((lget ls 3).u 40), ((lget ls 3).u 41), ((lget ls 3).u 42), ((lget ls 3).u 43), ((lget ls 3).u 44), ((lget ls 3).u 45), ((lget ls 3).u 46), ((lget ls 3).u 47), ((lget ls 3).u 48), ((lget ls 3).u 49), ((lget ls 3).u 50), ((lget ls 3).u 51), ((lget ls 3).u 52), ((lget ls 3).u 53), ((lget ls 3).u 54), ((lget ls 3).u 55), undef]
  | .e1 c1_0 c1_1, ls => [((lget ls 3).u 0), ((lget ls 3).u 1), .slice none 0 0, .pointer (some ⟨(lget ls 0).n, 0, none⟩), ((lget ls 3).u 4), (rowV (lget ls 2) c1_0 2), ((lget ls 3).u 6), ((lget ls 3).u 7), ((lget ls 3).u 8), ((lget ls 3).u 9), ((lget ls 3).u 10), ((lget ls 3).u 11), ((lget ls 3).u 12), ((lget ls 3).u 13), ((lget ls 3).u 14), ((lget ls 3).u 15), ((lget ls 3).u 16), ((lget ls 3).u 17), ((lget ls 3).u 18), ((lget ls 3).u 19), ((lget ls 3).u 20), ((lget ls 3).u 21), ((lget ls 3).u 22), ((lget ls 3).u 23), ((lget ls 3).u 24), ((lget ls 3).u 25), ((lget ls 3).u 26), ((lget ls 3).u 27), ((lget ls 3).u 28), ((lget ls 3).u 29), ((lget ls 3).u 30), ((lget ls 3).u 31), ((lget ls 3).u 32), ((lget ls 3).u 33), ((lget ls 3).u 34), .int .i64 ((n0 : Int)), ((lget ls 3).u 36), ((lget ls 3).u 37), ((lget ls 3).u 38), ((lget ls 3).u 39), ((lget ls 3).u 40), ((lget ls 3).u 41), ((lget ls 3).u 42), ((lget ls 3).u 43), ((lget ls 3).u 44), ((lget ls 3).u 45), ((lget ls 3).u 46), ((lget ls 3).u 47), ((lget ls 3).u 48), ((lget ls 3).u 49), ((lget ls 3).u 50), ((lget ls 3).u 51), ((lget ls 3).u 52), ((lget ls 3).u 53), ((lget ls 3).u 54), ((lget ls 3).u 55), undef]
def Hf_insn_split_L1 (a0 : Option Addr) (p0 : Nat) (q0 : Nat) (n0 : Nat) (k0 : Nat) (A0 : Nat → Insn) (g0_0 : Nat → Bool) : Ex_insn_split_L1 → List L1 → List Obj
  | .e0 , ls => [.cells ⟨esG cB 4096 g0_0⟩ 77, unb, unb, unb]
  | .e1 c1_0 c1_1, ls => [.cells ⟨esG cB 4096 g0_0⟩ 77, unb, rowO (lget ls 2) (esG c_Part c1_0 c1_1) 49 c1_0 2, unb]
def ex_insn_split_L1 : Ex_insn_split_L1 → Ex
  | .e0  => (.exit 2)
  | .e1 _ _ => (.exit 2)
theorem w0_0_insn_split_L1 (g0_0 : Nat → Bool) (h0 : (decide (0 < (n0 : Int))) = true) (h1 : ((g0_0 0)) = true) : GoesG Try.prog M B0 S bd_insn_split_L1 4 (fr_insn_split_L1 a0 p0 q0 n0 k0 A0 g0_0 (.c0 )) (Hs_insn_split_L1 a0 p0 q0 n0 k0 A0 g0_0 (.c0 )) .normal 2 (fr_insn_split_L1 a0 p0 q0 n0 k0 A0 g0_0 (.c1 1 (updF (fun _ => (⟨0, 0⟩ : Part)) 0 (⟨0, 1⟩ : Part)) 1)) (Hs_insn_split_L1 a0 p0 q0 n0 k0 A0 g0_0 (.c1 1 (updF (fun _ => (⟨0, 0⟩ : Part)) 0 (⟨0, 1⟩ : Part)) 1)) 4 :=
  goes_runG hU [.b (z_lssT h0), .o, .o, .o, .q (ixA_ok (kd := .i64) (T := 77) (x := 0) (sz := 1) (N := 4096) rfl rfl (fun w => by kernel_rfl) (show inR 0 4096 = true from by decide)), .l (accF (i := 0) (f := cB) (A := g0_0) (k := 0) 0 [.bool true] cB_len (inR_nat (show inR 0 4096 = true from by decide)) (congrArg (fun b => [Value.bool b]) h1)), .o, .o, .o, .o, .x (sqAppL1_ok (ty := 41) rt41 #[false, false] (f := c_Part) (c := 1) (⟨0, 0⟩ : Part) (T' := 49) c_Part_len c_Part_one (by decide)) [4], .o, .o, .o, .o, .o, .o, .o, .q (ixM_ok (kd := .i64) (T := 41) (x := 0) (N := 1) (sz := 2) rfl (fun w => by kernel_rfl) (show inR 0 1 = true from by decide)), .o, .x (sqStG_ok (T := 3) (e := 49) (f := c_Part) (A := (fun _ => (⟨0, 0⟩ : Part))) (v := (⟨0, 1⟩ : Part)) 1 (.int .i64 (1)) c_Part_len c_Part_one rfl rfl (fun w => by kernel_rfl) (inR_nat (show inR 0 1 = true from by decide))) [5], .o, .o] [0, 1, 5] (fun b => rfl) (by decide) rfl (fun b => by kernel_rfl)
theorem w0_2_insn_split_L1 (g0_0 : Nat → Bool) (h0 : (decide (0 < (n0 : Int))) = false) : GoesG Try.prog M B0 S bd_insn_split_L1 4 (fr_insn_split_L1 a0 p0 q0 n0 k0 A0 g0_0 (.c0 )) (Hs_insn_split_L1 a0 p0 q0 n0 k0 A0 g0_0 (.c0 )) (.exit 2) 2 (vf_insn_split_L1 a0 p0 q0 n0 k0 A0 g0_0 (.e0 )) (Hf_insn_split_L1 a0 p0 q0 n0 k0 A0 g0_0 (.e0 )) 4 :=
  goes_runG hU [.b (z_lssF h0)] [0, 1, 2] (fun b => rfl) (by decide) rfl (fun b => by kernel_rfl)
theorem w1_0_insn_split_L1 (g0_0 : Nat → Bool) (s0_0 : Nat) (s0_1 : Nat → Part) (s0_2 : Int) (h0 : (decide (s0_2 < (n0 : Int))) = true) (h1 : (inR s0_2 4096) = true) (h2 : ((g0_0 (s0_2).toNat)) = true) (h3 : (decide (s0_0 ≤ 1000000)) = true) (h4 : (inR (IntKind.i64.wrap (((s0_0 + 1) : Int) - 1)) (s0_0 + 1)) = true) (rb0 : Nat → Part) (e_rb0 : updF (updF s0_1 s0_0 (⟨s0_2, 0⟩ : Part)) ((IntKind.i64.wrap (((s0_0 + 1) : Int) - 1))).toNat (⟨(((updF s0_1 s0_0 (⟨s0_2, 0⟩ : Part)) ((IntKind.i64.wrap (((s0_0 + 1) : Int) - 1))).toNat)).fFrom, (IntKind.i64.wrap (s0_2 + 1))⟩ : Part) = rb0) : GoesG Try.prog M B0 S bd_insn_split_L1 4 (fr_insn_split_L1 a0 p0 q0 n0 k0 A0 g0_0 (.c1 s0_0 s0_1 s0_2)) (Hs_insn_split_L1 a0 p0 q0 n0 k0 A0 g0_0 (.c1 s0_0 s0_1 s0_2)) .normal 2 (fr_insn_split_L1 a0 p0 q0 n0 k0 A0 g0_0 (.c1 (s0_0 + 1) rb0 (IntKind.i64.wrap (s0_2 + 1)))) (Hs_insn_split_L1 a0 p0 q0 n0 k0 A0 g0_0 (.c1 (s0_0 + 1) rb0 (IntKind.i64.wrap (s0_2 + 1)))) 4 :=
  goes_runG hU [.b (z_lssT h0), .o, .o, .o, .q (ixA_ok (kd := .i64) (T := 77) (x := s0_2) (sz := 1) (N := 4096) rfl rfl (fun w => by kernel_rfl) h1), .l (accF (i := 0) (f := cB) (A := g0_0) (k := (s0_2).toNat) 0 [.bool true] cB_len (inR_nat h1) (congrArg (fun b => [Value.bool b]) h2)), .o, .o, .o, .o, .x (sqAppL_ok (ty := 41) rt41 #[false, false] (f := c_Part) (N := s0_0) (A := s0_1) (c := 1) [(⟨s0_2, 0⟩ : Part)] (T' := 49) .row c_Part_len c_Part_one h3 rfl (by decide)) [2, 4], .o, .o, .o, .o, .o, .o, .o, .q (ixM_ok (kd := .i64) (T := 41) (x := (IntKind.i64.wrap (((s0_0 + 1) : Int) - 1))) (N := (s0_0 + 1)) (sz := 2) rfl (fun w => by kernel_rfl) h4), .o, .x (sqStGr_ok (T := 3) (e := 49) (f := c_Part) (A := updF s0_1 s0_0 (⟨s0_2, 0⟩ : Part)) (v := (⟨(((updF s0_1 s0_0 (⟨s0_2, 0⟩ : Part)) ((IntKind.i64.wrap (((s0_0 + 1) : Int) - 1))).toNat)).fFrom, (IntKind.i64.wrap (s0_2 + 1))⟩ : Part)) 1 (.int .i64 ((IntKind.i64.wrap (s0_2 + 1)))) c_Part_len c_Part_one rfl rfl (fun w => by kernel_rfl) (inR_nat h4) e_rb0) [5], .o, .o] [0, 1, 5] (fun b => rfl) (by decide) rfl (fun b => by kernel_rfl)
theorem w1_3_insn_split_L1 (g0_0 : Nat → Bool) (s0_0 : Nat) (s0_1 : Nat → Part) (s0_2 : Int) (h0 : (decide (s0_2 < (n0 : Int))) = true) (h1 : (inR s0_2 4096) = true) (h2 : ((g0_0 (s0_2).toNat)) = false) (h3 : (inR (IntKind.i64.wrap ((s0_0 : Int) - 1)) s0_0) = true) (rb0 : Nat → Part) (e_rb0 : updF s0_1 ((IntKind.i64.wrap ((s0_0 : Int) - 1))).toNat (⟨((s0_1 ((IntKind.i64.wrap ((s0_0 : Int) - 1))).toNat)).fFrom, (IntKind.i64.wrap (s0_2 + 1))⟩ : Part) = rb0) : GoesG Try.prog M B0 S bd_insn_split_L1 4 (fr_insn_split_L1 a0 p0 q0 n0 k0 A0 g0_0 (.c1 s0_0 s0_1 s0_2)) (Hs_insn_split_L1 a0 p0 q0 n0 k0 A0 g0_0 (.c1 s0_0 s0_1 s0_2)) .normal 2 (fr_insn_split_L1 a0 p0 q0 n0 k0 A0 g0_0 (.c1 s0_0 rb0 (IntKind.i64.wrap (s0_2 + 1)))) (Hs_insn_split_L1 a0 p0 q0 n0 k0 A0 g0_0 (.c1 s0_0 rb0 (IntKind.i64.wrap (s0_2 + 1)))) 4 :=
  goes_runG hU [.b (z_lssT h0), .o, .o, .o, .q (ixA_ok (kd := .i64) (T := 77) (x := s0_2) (sz := 1) (N := 4096) rfl rfl (fun w => by kernel_rfl) h1), .l (accF (i := 0) (f := cB) (A := g0_0) (k := (s0_2).toNat) 0 [.bool false] cB_len (inR_nat h1) (congrArg (fun b => [Value.bool b]) h2)), .o, .o, .o, .o, .o, .o, .q (ixM_ok (kd := .i64) (T := 41) (x := (IntKind.i64.wrap ((s0_0 : Int) - 1))) (N := s0_0) (sz := 2) rfl (fun w => by kernel_rfl) h3), .o, .x (sqStGr_ok (T := 3) (e := 49) (f := c_Part) (A := s0_1) (v := (⟨((s0_1 ((IntKind.i64.wrap ((s0_0 : Int) - 1))).toNat)).fFrom, (IntKind.i64.wrap (s0_2 + 1))⟩ : Part)) 1 (.int .i64 ((IntKind.i64.wrap (s0_2 + 1)))) c_Part_len c_Part_one rfl rfl (fun w => by kernel_rfl) (inR_nat h3) e_rb0) [2], .o, .o] [0, 1, 2] (fun b => rfl) (by decide) rfl (fun b => by kernel_rfl)
theorem w1_6_insn_split_L1 (g0_0 : Nat → Bool) (s0_0 : Nat) (s0_1 : Nat → Part) (s0_2 : Int) (h0 : (decide (s0_2 < (n0 : Int))) = false) : GoesG Try.prog M B0 S bd_insn_split_L1 4 (fr_insn_split_L1 a0 p0 q0 n0 k0 A0 g0_0 (.c1 s0_0 s0_1 s0_2)) (Hs_insn_split_L1 a0 p0 q0 n0 k0 A0 g0_0 (.c1 s0_0 s0_1 s0_2)) (.exit 2) 2 (vf_insn_split_L1 a0 p0 q0 n0 k0 A0 g0_0 (.e1 s0_0 s0_1)) (Hf_insn_split_L1 a0 p0 q0 n0 k0 A0 g0_0 (.e1 s0_0 s0_1)) 4 :=
  goes_runG hU [.b (z_lssF h0)] [0, 1, 2] (fun b => rfl) (by decide) rfl (fun b => by kernel_rfl)
theorem go_insn_split_L1 (g0_0 : Nat → Bool) (s : Sh_insn_split_L1) (r : Ex_insn_split_L1) (h : lpO (st_insn_split_L1 n0 g0_0) s = some r) : GoesG Try.prog M B0 S (.loop bd_insn_split_L1) 4 (fr_insn_split_L1 a0 p0 q0 n0 k0 A0 g0_0 s) (Hs_insn_split_L1 a0 p0 q0 n0 k0 A0 g0_0 s) (ex_insn_split_L1 r) 2 (vf_insn_split_L1 a0 p0 q0 n0 k0 A0 g0_0 r) (Hf_insn_split_L1 a0 p0 q0 n0 k0 A0 g0_0 r) 4 :=
  goes_lpO (fun s q e => by
    cases s with
    | c0  =>
      unfold st_insn_split_L1 at e
      dsimp only at e
      replace e := cond_eq_or e
      rcases e with ⟨hq0, e⟩ | ⟨hq0, e⟩
      · replace e := cond_eq_or e
        rcases e with ⟨hq1, e⟩ | ⟨hq1, e⟩
        · cases e; exact w0_0_insn_split_L1 hU a0 p0 q0 n0 k0 A0 hR0 g0_0  hq0 hq1
        · exact none_some e
      · cases e; exact ⟨ne_exit 2, w0_2_insn_split_L1 hU a0 p0 q0 n0 k0 A0 hR0 g0_0  hq0⟩
    | c1 s0_0 s0_1 s0_2 =>
      unfold st_insn_split_L1 at e
      dsimp only at e
      replace e := cond_eq_or e
      rcases e with ⟨hq0, e⟩ | ⟨hq0, e⟩
      · replace e := cond_eq_or e
        rcases e with ⟨hq1, e⟩ | ⟨hq1, e⟩
        · replace e := cond_eq_or e
          rcases e with ⟨hq2, e⟩ | ⟨hq2, e⟩
          · replace e := cond_eq_or e
            rcases e with ⟨hq3, e⟩ | ⟨hq3, e⟩
            · replace e := cond_eq_or e
              rcases e with ⟨hq4, e⟩ | ⟨hq4, e⟩
              · replace e := bindT_eq e
                obtain ⟨rb0, e_rb0, e⟩ := e
                try dsimp only at e
                cases e; exact w1_0_insn_split_L1 hU a0 p0 q0 n0 k0 A0 hR0 g0_0 s0_0 s0_1 s0_2 hq0 hq1 hq2 hq3 hq4 rb0 e_rb0
              · exact none_some e
            · exact none_some e
          · replace e := cond_eq_or e
            rcases e with ⟨hq3, e⟩ | ⟨hq3, e⟩
            · replace e := bindT_eq e
              obtain ⟨rb0, e_rb0, e⟩ := e
              try dsimp only at e
              cases e; exact w1_3_insn_split_L1 hU a0 p0 q0 n0 k0 A0 hR0 g0_0 s0_0 s0_1 s0_2 hq0 hq1 hq2 hq3 rb0 e_rb0
            · exact none_some e
        · exact none_some e
      · cases e; exact ⟨ne_exit 2, w1_6_insn_split_L1 hU a0 p0 q0 n0 k0 A0 hR0 g0_0 s0_0 s0_1 s0_2 hq0⟩) s r h
def t0_insn_split_L1_0 (a0 : Option Addr) (p0 : Nat) (q0 : Nat) (n0 : Nat) (k0 : Nat) (A0 : Nat → Insn) (g0_0 : Nat → Bool)  (ls : List L1) : List Value := [.slice a0 n0 (n0 + k0), ((lget ls 1).u 1), .slice none 0 0, .pointer (some ⟨(lget ls 0).n, 0, none⟩), ((lget ls 1).u 4), .slice none 0 0, undef, ((lget ls 1).u 7), ((lget ls 1).u 8), ((lget ls 1).u 9), ((lget ls 1).u 10), ((lget ls 1).u 11), ((lget ls 1).u 12), ((lget ls 1).u 13), ((lget ls 1).u 14), ((lget ls 1).u 15), ((lget ls 1).u 16), ((lget ls 1).u 17), ((lget ls 1).u 18), ((lget ls 1).u 19), ((lget ls 1).u 20), ((lget ls 1).u 21), ((lget ls 1).u 22), ((lget ls 1).u 23), ((lget ls 1).u 24), ((lget ls 1).u 25), ((lget ls 1).u 26), ((lget ls 1).u 27), ((lget ls 1).u 28), ((lget ls 1).u 29), ((lget ls 1).u 30), ((lget ls 1).u 31), ((lget ls 1).u 32), ((lget ls 1).u 33), .slice a0 n0 (n0 + k0), .int .i64 ((n0 : Int)), .int .i64 (0), undef, undef, undef, undef, undef, undef, undef, undef, undef, undef, undef, undef, undef, undef, undef, undef, undef, undef, undef, undef]
def pre_insn_split_L1_0 (a0 : Option Addr) (p0 : Nat) (q0 : Nat) (n0 : Nat) (k0 : Nat) (A0 : Nat → Insn) (g0_0 : Nat → Bool)  (ls : List L1) : List Obj := [.cells ⟨esG cB 4096 g0_0⟩ 77, unb]
theorem sp0_insn_split_L1_0_ok (g0_0 : Nat → Bool) (h : lpO (st_insn_split_L1 n0 g0_0) (.c0) = some (.e0 )) : SpcG Try.prog M B0 S ⟨fun ls => .code (.loop bd_insn_split_L1) (t0_insn_split_L1_0 a0 p0 q0 n0 k0 A0 g0_0  ls), pre_insn_split_L1_0 a0 p0 q0 n0 k0 A0 g0_0 , 2, (.exit 2), fun ls => vf_insn_split_L1 a0 p0 q0 n0 k0 A0 g0_0 (.e0 ) (ls.take 2 ++ ls.drop 2), fun ls => (Hf_insn_split_L1 a0 p0 q0 n0 k0 A0 g0_0 (.e0 ) (ls.take 2 ++ ls.drop 2)).take 2 ++ List.replicate 0 unb, fun ls => (Hf_insn_split_L1 a0 p0 q0 n0 k0 A0 g0_0 (.e0 ) (ls.take 2 ++ ls.drop 2)).drop 2⟩ :=
  spc_of_goesG hU 1 (k0 := 2) (go_insn_split_L1 hU a0 p0 q0 n0 k0 A0 hR0 g0_0 _ _ h) (t0_insn_split_L1_0 a0 p0 q0 n0 k0 A0 g0_0 ) (pre_insn_split_L1_0 a0 p0 q0 n0 k0 A0 g0_0 ) (fun _ => rfl) (fun ls h => by match ls, h with | [l0, l1], _ => rfl) (fun ls h => by match ls, h with | [l0, l1], _ => rfl) (by decide) (by decide) (fun ls => rfl)
theorem sp1_insn_split_L1_0_ok (g0_0 : Nat → Bool) (c1_0 : Nat) (c1_1 : Nat → Part) (h : lpO (st_insn_split_L1 n0 g0_0) (.c0) = some (.e1 c1_0 c1_1)) : SpcG Try.prog M B0 S ⟨fun ls => .code (.loop bd_insn_split_L1) (t0_insn_split_L1_0 a0 p0 q0 n0 k0 A0 g0_0  ls), pre_insn_split_L1_0 a0 p0 q0 n0 k0 A0 g0_0 , 2, (.exit 2), fun ls => vf_insn_split_L1 a0 p0 q0 n0 k0 A0 g0_0 (.e1 c1_0 c1_1) (ls.take 2 ++ ls.drop 2), fun ls => (Hf_insn_split_L1 a0 p0 q0 n0 k0 A0 g0_0 (.e1 c1_0 c1_1) (ls.take 2 ++ ls.drop 2)).take 2 ++ List.replicate 0 unb, fun ls => (Hf_insn_split_L1 a0 p0 q0 n0 k0 A0 g0_0 (.e1 c1_0 c1_1) (ls.take 2 ++ ls.drop 2)).drop 2⟩ :=
  spc_of_goesG hU 1 (k0 := 2) (go_insn_split_L1 hU a0 p0 q0 n0 k0 A0 hR0 g0_0 _ _ h) (t0_insn_split_L1_0 a0 p0 q0 n0 k0 A0 g0_0 ) (pre_insn_split_L1_0 a0 p0 q0 n0 k0 A0 g0_0 ) (fun _ => rfl) (fun ls h => by match ls, h with | [l0, l1], _ => rfl) (fun ls h => by match ls, h with | [l0, l1], _ => rfl) (by decide) (by decide) (fun ls => rfl)
inductive R_insn_split where
  | e0 
  | e1 (c1_0 : Nat) (c1_1 : Nat → Part)
noncomputable def m_insn_split (n0 : Nat) (A0 : Nat → Insn) : Option R_insn_split :=
  (lpO (st_insn_split_L0 n0 A0) (.c0 (updF (fun _ => false) 0 true) 0)).bind fun g0 => match g0 with
  | .e0 g0_0 =>
  (lpO (st_insn_split_L1 n0 g0_0) (.c0)).bind fun g1 => match g1 with
  | .e0  => (some (.e0))
  | .e1 g1_0 g1_1 => (some (.e1 g1_0 g1_1))
def sq0_insn_split (a0 : Option Addr) (p0 : Nat) (q0 : Nat) (n0 : Nat) (k0 : Nat) (A0 : Nat → Insn)  : Spc := ⟨fun ls => .call 33 #[.slice a0 n0 (n0 + k0)], fun ls => [], 0, .normal, fun ls => [.slice none 0 0], fun ls => [], fun ls => []⟩
def sq1_insn_split (a0 : Option Addr) (p0 : Nat) (q0 : Nat) (n0 : Nat) (k0 : Nat) (A0 : Nat → Insn) (c1_0 : Nat) (c1_1 : Nat → Part) : Spc := ⟨fun ls => .call 33 #[.slice a0 n0 (n0 + k0)], fun ls => [], 1, .normal, fun ls => [(rowV (lget ls 0) c1_0 2)], fun ls => [], fun ls => [rowO (lget ls 0) (esG c_Part c1_0 c1_1) 49 c1_0 2]⟩
theorem p0_insn_split (g0_0 : Nat → Bool) (e_g0 : lpO (st_insn_split_L0 n0 A0) (.c0 (updF (fun _ => false) 0 true) 0) = some (.e0 g0_0)) (e_g1 : lpO (st_insn_split_L1 n0 g0_0) (.c0) = some (.e0 )) : SpcG Try.prog M B0 S (sq0_insn_split a0 p0 q0 n0 k0 A0 ) :=
  fn_specG hU (P := Try.prog) Try.func33 (fun xs w => by kernel_rfl) 0 _ _ (fun _ => rfl) _ _ _ []
    [.o, .o, .q (ixA_ok (kd := .i64) (T := 77) (x := 0) (sz := 1) (N := 4096) rfl rfl (fun w => by kernel_rfl) (show inR 0 4096 = true from by decide)), .x (sqStF_ok (T := 4) (e := 77) (f := cB) (A := (fun _ => false)) (v := true) 0 (.bool true) cB_len cB_one rfl rfl (fun w => by kernel_rfl) (inR_nat (show inR 0 4096 = true from by decide))) [0], .o, .cp, .cx (sp0_insn_split_L0_0_ok hU a0 p0 q0 n0 k0 A0 hR0 (updF (fun _ => false) 0 true) 0 g0_0 e_g0) [0], .o, .o, .o, .o, .cp, .cx (sp0_insn_split_L1_0_ok hU a0 p0 q0 n0 k0 A0 hR0 g0_0   e_g1) [0, 1], .o, .o]
    [] (fun b => by kernel_rfl)
theorem p1_insn_split (g0_0 : Nat → Bool) (e_g0 : lpO (st_insn_split_L0 n0 A0) (.c0 (updF (fun _ => false) 0 true) 0) = some (.e0 g0_0)) (g1_0 : Nat) (g1_1 : Nat → Part) (e_g1 : lpO (st_insn_split_L1 n0 g0_0) (.c0) = some (.e1 g1_0 g1_1)) : SpcG Try.prog M B0 S (sq1_insn_split a0 p0 q0 n0 k0 A0 g1_0 g1_1) :=
  fn_specG hU (P := Try.prog) Try.func33 (fun xs w => by kernel_rfl) 0 _ _ (fun _ => rfl) _ _ _ [2]
    [.o, .o, .q (ixA_ok (kd := .i64) (T := 77) (x := 0) (sz := 1) (N := 4096) rfl rfl (fun w => by kernel_rfl) (show inR 0 4096 = true from by decide)), .x (sqStF_ok (T := 4) (e := 77) (f := cB) (A := (fun _ => false)) (v := true) 0 (.bool true) cB_len cB_one rfl rfl (fun w => by kernel_rfl) (inR_nat (show inR 0 4096 = true from by decide))) [0], .o, .cp, .cx (sp0_insn_split_L0_0_ok hU a0 p0 q0 n0 k0 A0 hR0 (updF (fun _ => false) 0 true) 0 g0_0 e_g0) [0], .o, .o, .o, .o, .cp, .cx (sp1_insn_split_L1_0_ok hU a0 p0 q0 n0 k0 A0 hR0 g0_0  g1_0 g1_1 e_g1) [0, 1], .o, .o]
    [] (fun b => by kernel_rfl)
theorem ok0_insn_split (e : m_insn_split n0 A0 = some (.e0 )) : SpcG Try.prog M B0 S (sq0_insn_split a0 p0 q0 n0 k0 A0 ) := by
  unfold m_insn_split at e
  replace e := bindO_eq e
  obtain ⟨g0, e_g0, e⟩ := e
  obtain ⟨g0_0⟩ := g0
  try dsimp only at e
  replace e := bindO_eq e
  obtain ⟨g1, e_g1, e⟩ := e
  rcases g1 with _ | ⟨g1_0, g1_1⟩
  · try dsimp only at e
    exact p0_insn_split hU a0 p0 q0 n0 k0 A0 hR0 g0_0 e_g0 e_g1
  · try dsimp only at e
    cases e
theorem ok1_insn_split (c1_0 : Nat) (c1_1 : Nat → Part) (e : m_insn_split n0 A0 = some (.e1 c1_0 c1_1)) : SpcG Try.prog M B0 S (sq1_insn_split a0 p0 q0 n0 k0 A0 c1_0 c1_1) := by
  unfold m_insn_split at e
  replace e := bindO_eq e
  obtain ⟨g0, e_g0, e⟩ := e
  obtain ⟨g0_0⟩ := g0
  try dsimp only at e
  replace e := bindO_eq e
  obtain ⟨g1, e_g1, e⟩ := e
  rcases g1 with _ | ⟨g1_0, g1_1⟩
  · try dsimp only at e
    cases e
  · try dsimp only at e
    injection e with e; injection e with i0 i1; subst i0 i1; exact p1_insn_split hU a0 p0 q0 n0 k0 A0 hR0 g0_0 e_g0 g1_0 g1_1 e_g1
inductive Sh_insn_Subs_L0 where
  | c0 (s0_0 : Int)
inductive Ex_insn_Subs_L0 where
  | e0 
  | e1 (c1_0 : Int) (c1_1 : Int)
noncomputable def st_insn_Subs_L0 (n0 : Nat) (A0 : Nat → Insn) : Sh_insn_Subs_L0 → Option (Sh_insn_Subs_L0 ⊕ Ex_insn_Subs_L0)
  | .c0 s0_0 =>
    bif decide (s0_0 < (n0 : Int)) then
      ((m_insn_checkSlot n0 A0 s0_0).bind fun rb0 =>
      bif rb0 == 0 then
        (bif inR s0_0 n0 then
          (bindT (m_op_Width ((A0 (s0_0).toNat))) fun rb1 =>
          some (.inl (.c0 (IntKind.i64.wrap (s0_0 + rb1)))))
        else (none))
      else (some (.inr (.e1 s0_0 rb0))))
    else (some (.inr (.e0 )))
noncomputable def bd_insn_Subs_L0 : Code := codeOf Try.f19 [1, 1, 0, 1, 0, 0]
def fr_insn_Subs_L0 (a0 : Option Addr) (p0 : Nat) (q0 : Nat) (n0 : Nat) (k0 : Nat) (A0 : Nat → Insn) : Sh_insn_Subs_L0 → List L1 → List Value
  | .c0 s0_0, ls => [.slice a0 n0 (n0 + k0), ((lget ls 0).u 1), .slice none 0 0, .int .i64 (0), .int .i64 (0), .int .i64 (s0_0), ((lget ls 0).u 6), undef, ((lget ls 0).u 8), undef, undef, undef, ((lget ls 0).u 12), ((lget ls 0).u 13), ((lget ls 0).u 14), ((lget ls 0).u 15), ((lget ls 0).u 16), ((lget ls 0).u 17), ((lget ls 0).u 18), ((lget ls 0).u 19), ((lget ls 0).u 20), ((lget ls 0).u 21), ((lget ls 0).u 22), ((lget ls 0).u 23), ((lget ls 0).u 24), ((lget ls 0).u 25), ((lget ls 0).u 26), ((lget ls 0).u 27), ((lget ls 0).u 28), ((lget ls 0).u 29), ((lget ls 0).u 30), ((lget ls 0).u 31), ((lget ls 0).u 32), ((lget ls 0).u 33), ((lget ls 0).u 34), ((lget ls 0).u 35), ((lget ls 0).u 36), ((lget ls 0).u 37), undef, undef, undef, undef, undef, undef, undef, undef, undef, undef, undef, undef, undef, undef, undef, undef, undef, undef, undef, undef, undef, undef]
def Hs_insn_Subs_L0 (a0 : Option Addr) (p0 : Nat) (q0 : Nat) (n0 : Nat) (k0 : Nat) (A0 : Nat → Insn) : Sh_insn_Subs_L0 → List L1 → List Obj
  | .c0 s0_0, ls => [unb]
def vf_insn_Subs_L0 (a0 : Option Addr) (p0 : Nat) (q0 : Nat) (n0 : Nat) (k0 : Nat) (A0 : Nat → Insn) : Ex_insn_Subs_L0 → List L1 → List Value
  | .e0 , ls => [.slice a0 n0 (n0 + k0), ((lget ls 0).u 1), .slice none 0 0, .int .i64 (0), .int .i64 (0), ((lget ls 0).u 5), ((lget ls 0).u 6), undef, ((lget ls 0).u 8), undef, undef, undef, ((lget ls 0).u 12), ((lget ls 0).u 13), ((lget ls 0).u 14), ((lget ls 0).u 15), ((lget ls 0).u 16), ((lget ls 0).u 17), ((lget ls 0).u 18), ((lget ls 0).u 19), ((lget ls 0).u 20), ((lget ls 0).u 21), ((lget ls 0).u 22), ((lget ls 0).u 23), ((lget ls 0).u 24), ((lget ls 0).u 25), ((lget ls 0).u 26), ((lget ls 0).u 27), ((lget ls 0).u 28), ((lget ls 0).u 29), ((lget ls 0).u 30), ((lget ls 0).u 31), ((lget ls 0).u 32), ((lget ls 0).u 33), ((lget ls 0).u 34), ((lget ls 0).u 35), ((lget ls 0).u 36), ((lget ls 0).u 37), undef, undef, undef, undef, undef, undef, undef, undef, undef, undef, undef, undef, undef, undef, undef, undef, undef, undef, undef, undef, undef, undef]
  | .e1 c1_0 c1_1, ls => [.slice a0 n0 (n0 + k0), ((lget ls 0).u 1), .slice none 0 0, .int .i64 (c1_0), .int .i64 (c1_1), ((lget ls 0).u 5), ((lget ls 0).u 6), undef, ((lget ls 0).u 8), undef, undef, undef, ((lget ls 0).u 12), ((lget ls 0).u 13), ((lget ls 0).u 14), ((lget ls 0).u 15), ((lget ls 0).u 16), ((lget ls 0).u 17), ((lget ls 0).u 18), ((lget ls 0).u 19), ((lget ls 0).u 20), ((lget ls 0).u 21), ((lget ls 0).u 22), ((lget ls 0).u 23), ((lget ls 0).u 24), ((lget ls 0).u 25), ((lget ls 0).u 26), ((lget ls 0).u 27), ((lget ls 0).u 28), ((lget ls 0).u 29), ((lget ls 0).u 30), ((lget ls 0).u 31), ((lget ls 0).u 32), ((lget ls 0).u 33), ((lget ls 0).u 34), ((lget ls 0).u 35), ((lget ls 0).u 36), ((lget ls 0).u 37), undef, undef, undef, undef, undef, undef, undef, undef, undef, undef, undef, undef, undef, undef, undef, undef, undef, undef, undef, undef, undef, undef]
def Hf_insn_Subs_L0 (a0 : Option Addr) (p0 : Nat) (q0 : Nat) (n0 : Nat) (k0 : Nat) (A0 : Nat → Insn) : Ex_insn_Subs_L0 → List L1 → List Obj
  | .e0 , ls => [unb]
  | .e1 c1_0 c1_1, ls => [unb]
def ex_insn_Subs_L0 : Ex_insn_Subs_L0 → Ex
  | .e0  => (.exit 0)
  | .e1 _ _ => .ret
theorem w0_0_insn_Subs_L0 (s0_0 : Int) (h0 : (decide (s0_0 < (n0 : Int))) = true) (rb0 : Int) (e_rb0 : m_insn_checkSlot n0 A0 s0_0 = some rb0) (h1 : (rb0 == 0) = true) (h2 : (inR s0_0 n0) = true) (rb1 : Int) (e_rb1 : m_op_Width ((A0 (s0_0).toNat)) = rb1) : GoesG Try.prog M B0 S bd_insn_Subs_L0 1 (fr_insn_Subs_L0 a0 p0 q0 n0 k0 A0 (.c0 s0_0)) (Hs_insn_Subs_L0 a0 p0 q0 n0 k0 A0 (.c0 s0_0)) .normal 0 (fr_insn_Subs_L0 a0 p0 q0 n0 k0 A0 (.c0 (IntKind.i64.wrap (s0_0 + rb1)))) (Hs_insn_Subs_L0 a0 p0 q0 n0 k0 A0 (.c0 (IntKind.i64.wrap (s0_0 + rb1)))) 1 :=
  goes_runG hU [.o, .o, .o, .b (z_lssT h0), .o, .o, .cg (ok_insn_checkSlot hU a0 p0 q0 n0 k0 A0 hR0 s0_0 rb0 e_rb0), .o, .o, .b (z_neqT h1), .o, .o, .o, .q (ixRo_ok (kd := .i64) (T := 22) (x := s0_0) (sz := 5) rfl (fun w => by kernel_rfl) hR0 h2), .l (accRo hR0 c_Insn_len (inR_nat h2) 0 [.int .u8 (nn ((A0 (s0_0).toNat)).fOp), .int .u8 (nn ((A0 (s0_0).toNat)).fDst), .int .u8 (nn ((A0 (s0_0).toNat)).fSrc), .int .i16 (ii ((A0 (s0_0).toNat)).fOff), .int .i32 (ii ((A0 (s0_0).toNat)).fImm)] rfl), .cg (ok_op_Width hU ((A0 (s0_0).toNat)) rb1 e_rb1), .o, .o] [] (fun b => rfl) (by decide) rfl (fun b => by kernel_rfl)
theorem w0_2_insn_Subs_L0 (s0_0 : Int) (h0 : (decide (s0_0 < (n0 : Int))) = true) (rb0 : Int) (e_rb0 : m_insn_checkSlot n0 A0 s0_0 = some rb0) (h1 : (rb0 == 0) = false) : GoesG Try.prog M B0 S bd_insn_Subs_L0 1 (fr_insn_Subs_L0 a0 p0 q0 n0 k0 A0 (.c0 s0_0)) (Hs_insn_Subs_L0 a0 p0 q0 n0 k0 A0 (.c0 s0_0)) .ret 0 (vf_insn_Subs_L0 a0 p0 q0 n0 k0 A0 (.e1 s0_0 rb0)) (Hf_insn_Subs_L0 a0 p0 q0 n0 k0 A0 (.e1 s0_0 rb0)) 1 :=
  goes_runG hU [.o, .o, .o, .b (z_lssT h0), .o, .o, .cg (ok_insn_checkSlot hU a0 p0 q0 n0 k0 A0 hR0 s0_0 rb0 e_rb0), .o, .o, .b (z_neqF h1), .o, .o, .o, .o, .o] [] (fun b => rfl) (by decide) rfl (fun b => by kernel_rfl)
theorem w0_3_insn_Subs_L0 (s0_0 : Int) (h0 : (decide (s0_0 < (n0 : Int))) = false) : GoesG Try.prog M B0 S bd_insn_Subs_L0 1 (fr_insn_Subs_L0 a0 p0 q0 n0 k0 A0 (.c0 s0_0)) (Hs_insn_Subs_L0 a0 p0 q0 n0 k0 A0 (.c0 s0_0)) (.exit 0) 0 (vf_insn_Subs_L0 a0 p0 q0 n0 k0 A0 (.e0 )) (Hf_insn_Subs_L0 a0 p0 q0 n0 k0 A0 (.e0 )) 1 :=
  goes_runG hU [.o, .o, .o, .b (z_lssF h0)] [] (fun b => rfl) (by decide) rfl (fun b => by kernel_rfl)
theorem go_insn_Subs_L0 (s : Sh_insn_Subs_L0) (r : Ex_insn_Subs_L0) (h : lpO (st_insn_Subs_L0 n0 A0) s = some r) : GoesG Try.prog M B0 S (.loop bd_insn_Subs_L0) 1 (fr_insn_Subs_L0 a0 p0 q0 n0 k0 A0 s) (Hs_insn_Subs_L0 a0 p0 q0 n0 k0 A0 s) (ex_insn_Subs_L0 r) 0 (vf_insn_Subs_L0 a0 p0 q0 n0 k0 A0 r) (Hf_insn_Subs_L0 a0 p0 q0 n0 k0 A0 r) 1 :=
  goes_lpO (fun s q e => by
    cases s with
    | c0 s0_0 =>
      unfold st_insn_Subs_L0 at e
      dsimp only at e
      replace e := cond_eq_or e
      rcases e with ⟨hq0, e⟩ | ⟨hq0, e⟩
      · replace e := bindO_eq e
        obtain ⟨rb0, e_rb0, e⟩ := e
        try dsimp only at e
        replace e := cond_eq_or e
        rcases e with ⟨hq1, e⟩ | ⟨hq1, e⟩
        · replace e := cond_eq_or e
          rcases e with ⟨hq2, e⟩ | ⟨hq2, e⟩
          · replace e := bindT_eq e
            obtain ⟨rb1, e_rb1, e⟩ := e
            try dsimp only at e
            cases e; exact w0_0_insn_Subs_L0 hU a0 p0 q0 n0 k0 A0 hR0 s0_0 hq0 rb0 e_rb0 hq1 hq2 rb1 e_rb1
          · exact none_some e
        · cases e; exact ⟨ne_ret, w0_2_insn_Subs_L0 hU a0 p0 q0 n0 k0 A0 hR0 s0_0 hq0 rb0 e_rb0 hq1⟩
      · cases e; exact ⟨ne_exit 0, w0_3_insn_Subs_L0 hU a0 p0 q0 n0 k0 A0 hR0 s0_0 hq0⟩) s r h
def t0_insn_Subs_L0_0 (a0 : Option Addr) (p0 : Nat) (q0 : Nat) (n0 : Nat) (k0 : Nat) (A0 : Nat → Insn) (s0_0 : Int) (ls : List L1) : List Value := [.slice a0 n0 (n0 + k0), undef, .slice none 0 0, .int .i64 (0), .int .i64 (0), .int .i64 (s0_0), undef, undef, undef, undef, undef, undef, .slice a0 n0 (n0 + k0), .int .i64 ((n0 : Int)), .bool false, .bool false, .slice a0 n0 (n0 + k0), .int .i64 ((n0 : Int)), .bool false, .bool false, undef, undef, undef, undef, undef, undef, undef, undef, undef, undef, undef, undef, undef, undef, undef, undef, undef, undef, undef, undef, undef, undef, undef, undef, undef, undef, undef, undef, undef, undef, undef, undef, undef, undef, undef, undef, undef, undef, undef, undef]
def pre_insn_Subs_L0_0 (a0 : Option Addr) (p0 : Nat) (q0 : Nat) (n0 : Nat) (k0 : Nat) (A0 : Nat → Insn) (s0_0 : Int) (ls : List L1) : List Obj := []
theorem sp0_insn_Subs_L0_0_ok (s0_0 : Int) (h : lpO (st_insn_Subs_L0 n0 A0) (.c0 s0_0) = some (.e0 )) : SpcG Try.prog M B0 S ⟨fun ls => .code (.loop bd_insn_Subs_L0) (t0_insn_Subs_L0_0 a0 p0 q0 n0 k0 A0 s0_0 ls), pre_insn_Subs_L0_0 a0 p0 q0 n0 k0 A0 s0_0, 1, (.exit 0), fun ls => vf_insn_Subs_L0 a0 p0 q0 n0 k0 A0 (.e0 ) (ls.take 0 ++ ls.drop 0), fun ls => (Hf_insn_Subs_L0 a0 p0 q0 n0 k0 A0 (.e0 ) (ls.take 0 ++ ls.drop 0)).take 0 ++ List.replicate 0 unb, fun ls => (Hf_insn_Subs_L0 a0 p0 q0 n0 k0 A0 (.e0 ) (ls.take 0 ++ ls.drop 0)).drop 0⟩ :=
  spc_of_goesG hU 0 (k0 := 0) (go_insn_Subs_L0 hU a0 p0 q0 n0 k0 A0 hR0 _ _ h) (t0_insn_Subs_L0_0 a0 p0 q0 n0 k0 A0 s0_0) (pre_insn_Subs_L0_0 a0 p0 q0 n0 k0 A0 s0_0) (fun _ => rfl) (fun ls h => by match ls, h with | [], _ => rfl) (fun ls h => by match ls, h with | [], _ => rfl) (by decide) (by decide) (fun ls => rfl)
theorem sp1_insn_Subs_L0_0_ok (s0_0 : Int) (c1_0 : Int) (c1_1 : Int) (h : lpO (st_insn_Subs_L0 n0 A0) (.c0 s0_0) = some (.e1 c1_0 c1_1)) : SpcG Try.prog M B0 S ⟨fun ls => .code (.loop bd_insn_Subs_L0) (t0_insn_Subs_L0_0 a0 p0 q0 n0 k0 A0 s0_0 ls), pre_insn_Subs_L0_0 a0 p0 q0 n0 k0 A0 s0_0, 1, .ret, fun ls => vf_insn_Subs_L0 a0 p0 q0 n0 k0 A0 (.e1 c1_0 c1_1) (ls.take 0 ++ ls.drop 0), fun ls => (Hf_insn_Subs_L0 a0 p0 q0 n0 k0 A0 (.e1 c1_0 c1_1) (ls.take 0 ++ ls.drop 0)).take 0 ++ List.replicate 0 unb, fun ls => (Hf_insn_Subs_L0 a0 p0 q0 n0 k0 A0 (.e1 c1_0 c1_1) (ls.take 0 ++ ls.drop 0)).drop 0⟩ :=
  spc_of_goesG hU 0 (k0 := 0) (go_insn_Subs_L0 hU a0 p0 q0 n0 k0 A0 hR0 _ _ h) (t0_insn_Subs_L0_0 a0 p0 q0 n0 k0 A0 s0_0) (pre_insn_Subs_L0_0 a0 p0 q0 n0 k0 A0 s0_0) (fun _ => rfl) (fun ls h => by match ls, h with | [], _ => rfl) (fun ls h => by match ls, h with | [], _ => rfl) (by decide) (by decide) (fun ls => rfl)
inductive Sh_insn_Subs_L1 where
  | c0 (s0_0 : Int)
inductive Ex_insn_Subs_L1 where
  | e0 
  | e1 (c1_0 : Int)
noncomputable def st_insn_Subs_L1 (n0 : Nat) (A0 : Nat → Insn) (g1_0 : Nat) (g1_1 : Nat → Part) : Sh_insn_Subs_L1 → Option (Sh_insn_Subs_L1 ⊕ Ex_insn_Subs_L1)
  | .c0 s0_0 =>
    bif decide (s0_0 < (g1_0 : Int)) then
      (bif inR s0_0 g1_0 then
        ((m_insn_ends n0 A0 ((g1_1 (s0_0).toNat))).bind fun rb0 =>
        bif rb0.2 then
          (some (.inl (.c0 (IntKind.i64.wrap (s0_0 + 1)))))
        else (some (.inr (.e1 rb0.1))))
      else (none))
    else (some (.inr (.e0 )))
noncomputable def bd_insn_Subs_L1 : Code := codeOf Try.f19 [1, 1, 1, 1, 1, 0, 1, 0, 0]
def fr_insn_Subs_L1 (a0 : Option Addr) (p0 : Nat) (q0 : Nat) (n0 : Nat) (k0 : Nat) (A0 : Nat → Insn) (g1_0 : Nat) (g1_1 : Nat → Part) : Sh_insn_Subs_L1 → List L1 → List Value
  | .c0 s0_0, ls => [.slice a0 n0 (n0 + k0), ((lget ls 2).u 1), .slice none 0 0, .int .i64 (0), .int .i64 (0), ((lget ls 2).u 5), ((lget ls 2).u 6), (rowV (lget ls 1) g1_0 2), ((lget ls 2).u 8), ((lget ls 2).u 9), ((lget ls 2).u 10), ((lget ls 2).u 11), ((lget ls 2).u 12), ((lget ls 2).u 13), ((lget ls 2).u 14), ((lget ls 2).u 15), ((lget ls 2).u 16), ((lget ls 2).u 17), ((lget ls 2).u 18), ((lget ls 2).u 19), ((lget ls 2).u 20), ((lget ls 2).u 21), ((lget ls 2).u 22), ((lget ls 2).u 23), ((lget ls 2).u 24), ((lget ls 2).u 25), ((lget ls 2).u 26), ((lget ls 2).u 27), ((lget ls 2).u 28), ((lget ls 2).u 29), ((lget ls 2).u 30), ((lget ls 2).u 31), ((lget ls 2).u 32), ((lget ls 2).u 33), ((lget ls 2).u 34), ((lget ls 2).u 35), ((lget ls 2).u 36), ((lget ls 2).u 37), ((lget ls 2).u 38), ((lget ls 2).u 39), ((lget ls 2).u 40), ((lget ls 2).u 41), ((lget ls 2).u 42), (rowV (lget ls 1) g1_0 2), .int .i64 ((g1_0 : Int)), .int .i64 (s0_0), ((lget ls 2).u 46), ((lget ls 2).u 47), ((lget ls 2).u 48), ((lget ls 2).u 49), ((lget ls 2).u 50), ((lget ls 2).u 51), ((lget ls 2).u 52), ((lget ls 2).u 53), ((lget ls 2).u 54), ((lget ls 2).u 55), ((lget ls 2).u 56), ((lget ls 2).u 57), ((lget ls 2).u 58), undef]
def Hs_insn_Subs_L1 (a0 : Option Addr) (p0 : Nat) (q0 : Nat) (n0 : Nat) (k0 : Nat) (A0 : Nat → Insn) (g1_0 : Nat) (g1_1 : Nat → Part) : Sh_insn_Subs_L1 → List L1 → List Obj
  | .c0 s0_0, ls => [unb, rowO (lget ls 1) (esG c_Part g1_0 g1_1) 49 g1_0 2, unb]
def vf_insn_Subs_L1 (a0 : Option Addr) (p0 : Nat) (q0 : Nat) (n0 : Nat) (k0 : Nat) (A0 : Nat → Insn) (g1_0 : Nat) (g1_1 : Nat → Part) : Ex_insn_Subs_L1 → List L1 → List Value
  | .e0 , ls => [.slice a0 n0 (n0 + k0), ((lget ls 2).u 1), .slice none 0 0, .int .i64 (0), .int .i64 (0), ((lget ls 2).u 5), ((lget ls 2).u 6), (rowV (lget ls 1) g1_0 2), ((lget ls 2).u 8), ((lget ls 2).u 9), ((lget ls 2).u 10), ((lget ls 2).u 11), ((lget ls 2).u 12), ((lget ls 2).u 13), ((lget ls 2).u 14), ((lget ls 2).u 15), ((lget ls 2).u 16), ((lget ls 2).u 17), ((lget ls 2).u 18), ((lget ls 2).u 19), ((lget ls 2).u 20), ((lget ls 2).u 21), ((lget ls 2).u 22), ((lget ls 2).u 23), ((lget ls 2).u 24), ((lget ls 2).u 25), ((lget ls 2).u 26), ((lget ls 2).u 27), ((lget ls 2).u 28), ((lget ls 2).u 29), ((lget ls 2).u 30), ((lget ls 2).u 31), ((lget ls 2).u 32), ((lget ls 2).u 33), ((lget ls 2).u 34), ((lget ls 2).u 35), ((lget ls 2).u 36), ((lget ls 2).u 37), ((lget ls 2).u 38), ((lget ls 2).u 39), ((lget ls 2).u 40), ((lget ls 2).u 41), ((lget ls 2).u 42), (rowV (lget ls 1) g1_0 2), .int .i64 ((g1_0 : Int)), ((lget ls 2).u 45), ((lget ls 2).u 46), ((lget ls 2).u 47), ((lget ls 2).u 48), ((lget ls 2).u 49), ((lget ls 2).u 50), ((lget ls 2).u 51), ((lget ls 2).u 52), ((lget ls 2).u 53), ((lget ls 2).u 54), ((lget ls 2).u 55), ((lget ls 2).u 56), ((lget ls 2).u 57), ((lget ls 2).u 58), undef]
  | .e1 c1_0, ls => [.slice a0 n0 (n0 + k0), ((lget ls 2).u 1), .slice none 0 0, .int .i64 (c1_0), .int .i64 (16), ((lget ls 2).u 5), ((lget ls 2).u 6), (rowV (lget ls 1) g1_0 2), ((lget ls 2).u 8), ((lget ls 2).u 9), ((lget ls 2).u 10), ((lget ls 2).u 11), ((lget ls 2).u 12), ((lget ls 2).u 13), ((lget ls 2).u 14), ((lget ls 2).u 15), ((lget ls 2).u 16), ((lget ls 2).u 17), ((lget ls 2).u 18), ((lget ls 2).u 19), ((lget ls 2).u 20), ((lget ls 2).u 21), ((lget ls 2).u 22), ((lget ls 2).u 23), ((lget ls 2).u 24), ((lget ls 2).u 25), ((lget ls 2).u 26), ((lget ls 2).u 27), ((lget ls 2).u 28), ((lget ls 2).u 29), ((lget ls 2).u 30), ((lget ls 2).u 31), ((lget ls 2).u 32), ((lget ls 2).u 33), ((lget ls 2).u 34), ((lget ls 2).u 35), ((lget ls 2).u 36), ((lget ls 2).u 37), ((lget ls 2).u 38), ((lget ls 2).u 39), ((lget ls 2).u 40), ((lget ls 2).u 41), ((lget ls 2).u 42), (rowV (lget ls 1) g1_0 2), .int .i64 ((g1_0 : Int)), ((lget ls 2).u 45), ((lget ls 2).u 46), ((lget ls 2).u 47), ((lget ls 2).u 48), ((lget ls 2).u 49), ((lget ls 2).u 50), ((lget ls 2).u 51), ((lget ls 2).u 52), ((lget ls 2).u 53), ((lget ls 2).u 54), ((lget ls 2).u 55), ((lget ls 2).u 56), ((lget ls 2).u 57), ((lget ls 2).u 58), undef]
def Hf_insn_Subs_L1 (a0 : Option Addr) (p0 : Nat) (q0 : Nat) (n0 : Nat) (k0 : Nat) (A0 : Nat → Insn) (g1_0 : Nat) (g1_1 : Nat → Part) : Ex_insn_Subs_L1 → List L1 → List Obj
  | .e0 , ls => [unb, rowO (lget ls 1) (esG c_Part g1_0 g1_1) 49 g1_0 2, unb]
  | .e1 c1_0, ls => [unb, rowO (lget ls 1) (esG c_Part g1_0 g1_1) 49 g1_0 2, unb]
def ex_insn_Subs_L1 : Ex_insn_Subs_L1 → Ex
  | .e0  => (.exit 2)
  | .e1 _ => .ret
theorem w0_0_insn_Subs_L1 (g1_0 : Nat) (g1_1 : Nat → Part) (s0_0 : Int) (h0 : (decide (s0_0 < (g1_0 : Int))) = true) (h1 : (inR s0_0 g1_0) = true) (rb0 : (Int) × (Bool)) (e_rb0 : m_insn_ends n0 A0 ((g1_1 (s0_0).toNat)) = some rb0) (h2 : (rb0.2) = true) : GoesG Try.prog M B0 S bd_insn_Subs_L1 3 (fr_insn_Subs_L1 a0 p0 q0 n0 k0 A0 g1_0 g1_1 (.c0 s0_0)) (Hs_insn_Subs_L1 a0 p0 q0 n0 k0 A0 g1_0 g1_1 (.c0 s0_0)) .normal 2 (fr_insn_Subs_L1 a0 p0 q0 n0 k0 A0 g1_0 g1_1 (.c0 (IntKind.i64.wrap (s0_0 + 1)))) (Hs_insn_Subs_L1 a0 p0 q0 n0 k0 A0 g1_0 g1_1 (.c0 (IntKind.i64.wrap (s0_0 + 1)))) 3 :=
  goes_runG hU [.b (z_lssT h0), .q (ixM_ok (kd := .i64) (T := 41) (x := s0_0) (N := g1_0) (sz := 2) rfl (fun w => by kernel_rfl) h1), .l (accG (i := 1) (f := c_Part) (A := g1_1) (k := (s0_0).toNat) 0 [.int .i64 (((g1_1 (s0_0).toNat)).fFrom), .int .i64 (((g1_1 (s0_0).toNat)).fTo)] c_Part_len (inR_nat h1) rfl), .o, .a 3, .o, .a 3, .cg (ok_insn_ends hU a0 p0 q0 n0 k0 A0 hR0 ((g1_1 (s0_0).toNat)) rb0 e_rb0), .o, .o, .b h2, .o, .o, .o, .o, .o, .o] [0, 1] (fun b => rfl) (by decide) rfl (fun b => by kernel_rfl)
theorem w0_1_insn_Subs_L1 (g1_0 : Nat) (g1_1 : Nat → Part) (s0_0 : Int) (h0 : (decide (s0_0 < (g1_0 : Int))) = true) (h1 : (inR s0_0 g1_0) = true) (rb0 : (Int) × (Bool)) (e_rb0 : m_insn_ends n0 A0 ((g1_1 (s0_0).toNat)) = some rb0) (h2 : (rb0.2) = false) : GoesG Try.prog M B0 S bd_insn_Subs_L1 3 (fr_insn_Subs_L1 a0 p0 q0 n0 k0 A0 g1_0 g1_1 (.c0 s0_0)) (Hs_insn_Subs_L1 a0 p0 q0 n0 k0 A0 g1_0 g1_1 (.c0 s0_0)) .ret 2 (vf_insn_Subs_L1 a0 p0 q0 n0 k0 A0 g1_0 g1_1 (.e1 rb0.1)) (Hf_insn_Subs_L1 a0 p0 q0 n0 k0 A0 g1_0 g1_1 (.e1 rb0.1)) 3 :=
  goes_runG hU [.b (z_lssT h0), .q (ixM_ok (kd := .i64) (T := 41) (x := s0_0) (N := g1_0) (sz := 2) rfl (fun w => by kernel_rfl) h1), .l (accG (i := 1) (f := c_Part) (A := g1_1) (k := (s0_0).toNat) 0 [.int .i64 (((g1_1 (s0_0).toNat)).fFrom), .int .i64 (((g1_1 (s0_0).toNat)).fTo)] c_Part_len (inR_nat h1) rfl), .o, .a 3, .o, .a 3, .cg (ok_insn_ends hU a0 p0 q0 n0 k0 A0 hR0 ((g1_1 (s0_0).toNat)) rb0 e_rb0), .o, .o, .b h2, .o, .o, .o, .o, .o, .o, .o, .o] [0, 1] (fun b => rfl) (by decide) rfl (fun b => by kernel_rfl)
theorem w0_3_insn_Subs_L1 (g1_0 : Nat) (g1_1 : Nat → Part) (s0_0 : Int) (h0 : (decide (s0_0 < (g1_0 : Int))) = false) : GoesG Try.prog M B0 S bd_insn_Subs_L1 3 (fr_insn_Subs_L1 a0 p0 q0 n0 k0 A0 g1_0 g1_1 (.c0 s0_0)) (Hs_insn_Subs_L1 a0 p0 q0 n0 k0 A0 g1_0 g1_1 (.c0 s0_0)) (.exit 2) 2 (vf_insn_Subs_L1 a0 p0 q0 n0 k0 A0 g1_0 g1_1 (.e0 )) (Hf_insn_Subs_L1 a0 p0 q0 n0 k0 A0 g1_0 g1_1 (.e0 )) 3 :=
  goes_runG hU [.b (z_lssF h0)] [0, 1] (fun b => rfl) (by decide) rfl (fun b => by kernel_rfl)
theorem go_insn_Subs_L1 (g1_0 : Nat) (g1_1 : Nat → Part) (s : Sh_insn_Subs_L1) (r : Ex_insn_Subs_L1) (h : lpO (st_insn_Subs_L1 n0 A0 g1_0 g1_1) s = some r) : GoesG Try.prog M B0 S (.loop bd_insn_Subs_L1) 3 (fr_insn_Subs_L1 a0 p0 q0 n0 k0 A0 g1_0 g1_1 s) (Hs_insn_Subs_L1 a0 p0 q0 n0 k0 A0 g1_0 g1_1 s) (ex_insn_Subs_L1 r) 2 (vf_insn_Subs_L1 a0 p0 q0 n0 k0 A0 g1_0 g1_1 r) (Hf_insn_Subs_L1 a0 p0 q0 n0 k0 A0 g1_0 g1_1 r) 3 :=
  goes_lpO (fun s q e => by
    cases s with
    | c0 s0_0 =>
      unfold st_insn_Subs_L1 at e
      dsimp only at e
      replace e := cond_eq_or e
      rcases e with ⟨hq0, e⟩ | ⟨hq0, e⟩
      · replace e := cond_eq_or e
        rcases e with ⟨hq1, e⟩ | ⟨hq1, e⟩
        · replace e := bindO_eq e
          obtain ⟨rb0, e_rb0, e⟩ := e
          try dsimp only at e
          replace e := cond_eq_or e
          rcases e with ⟨hq2, e⟩ | ⟨hq2, e⟩
          · cases e; exact w0_0_insn_Subs_L1 hU a0 p0 q0 n0 k0 A0 hR0 g1_0 g1_1 s0_0 hq0 hq1 rb0 e_rb0 hq2
          · cases e; exact ⟨ne_ret, w0_1_insn_Subs_L1 hU a0 p0 q0 n0 k0 A0 hR0 g1_0 g1_1 s0_0 hq0 hq1 rb0 e_rb0 hq2⟩
        · exact none_some e
      · cases e; exact ⟨ne_exit 2, w0_3_insn_Subs_L1 hU a0 p0 q0 n0 k0 A0 hR0 g1_0 g1_1 s0_0 hq0⟩) s r h
def t0_insn_Subs_L1_0 (a0 : Option Addr) (p0 : Nat) (q0 : Nat) (n0 : Nat) (k0 : Nat) (A0 : Nat → Insn) (g1_0 : Nat) (g1_1 : Nat → Part) (s0_0 : Int) (ls : List L1) : List Value := [.slice a0 n0 (n0 + k0), ((lget ls 0).u 1), .slice none 0 0, .int .i64 (0), .int .i64 (0), ((lget ls 0).u 5), ((lget ls 0).u 6), (rowV (lget ls 1) g1_0 2), ((lget ls 0).u 8), undef, undef, undef, ((lget ls 0).u 12), ((lget ls 0).u 13), ((lget ls 0).u 14), ((lget ls 0).u 15), ((lget ls 0).u 16), ((lget ls 0).u 17), ((lget ls 0).u 18), ((lget ls 0).u 19), ((lget ls 0).u 20), ((lget ls 0).u 21), ((lget ls 0).u 22), ((lget ls 0).u 23), ((lget ls 0).u 24), ((lget ls 0).u 25), ((lget ls 0).u 26), ((lget ls 0).u 27), ((lget ls 0).u 28), ((lget ls 0).u 29), ((lget ls 0).u 30), ((lget ls 0).u 31), ((lget ls 0).u 32), ((lget ls 0).u 33), ((lget ls 0).u 34), ((lget ls 0).u 35), ((lget ls 0).u 36), ((lget ls 0).u 37), .slice a0 n0 (n0 + k0), (rowV (lget ls 1) g1_0 2), (rowV (lget ls 1) g1_0 2), .int .i64 ((g1_0 : Int)), .bool false, (rowV (lget ls 1) g1_0 2), .int .i64 ((g1_0 : Int)), .int .i64 (s0_0), undef, undef, undef, undef, undef, undef, undef, undef, undef, undef, undef, undef, undef, undef]
def pre_insn_Subs_L1_0 (a0 : Option Addr) (p0 : Nat) (q0 : Nat) (n0 : Nat) (k0 : Nat) (A0 : Nat → Insn) (g1_0 : Nat) (g1_1 : Nat → Part) (s0_0 : Int) (ls : List L1) : List Obj := [unb, rowO (lget ls 1) (esG c_Part g1_0 g1_1) 49 g1_0 2]
theorem sp0_insn_Subs_L1_0_ok (g1_0 : Nat) (g1_1 : Nat → Part) (s0_0 : Int) (h : lpO (st_insn_Subs_L1 n0 A0 g1_0 g1_1) (.c0 s0_0) = some (.e0 )) : SpcG Try.prog M B0 S ⟨fun ls => .code (.loop bd_insn_Subs_L1) (t0_insn_Subs_L1_0 a0 p0 q0 n0 k0 A0 g1_0 g1_1 s0_0 ls), pre_insn_Subs_L1_0 a0 p0 q0 n0 k0 A0 g1_0 g1_1 s0_0, 1, (.exit 2), fun ls => vf_insn_Subs_L1 a0 p0 q0 n0 k0 A0 g1_0 g1_1 (.e0 ) (ls.take 2 ++ ls.drop 2), fun ls => (Hf_insn_Subs_L1 a0 p0 q0 n0 k0 A0 g1_0 g1_1 (.e0 ) (ls.take 2 ++ ls.drop 2)).take 2 ++ List.replicate 0 unb, fun ls => (Hf_insn_Subs_L1 a0 p0 q0 n0 k0 A0 g1_0 g1_1 (.e0 ) (ls.take 2 ++ ls.drop 2)).drop 2⟩ :=
  spc_of_goesG hU 0 (k0 := 2) (go_insn_Subs_L1 hU a0 p0 q0 n0 k0 A0 hR0 g1_0 g1_1 _ _ h) (t0_insn_Subs_L1_0 a0 p0 q0 n0 k0 A0 g1_0 g1_1 s0_0) (pre_insn_Subs_L1_0 a0 p0 q0 n0 k0 A0 g1_0 g1_1 s0_0) (fun _ => rfl) (fun ls h => by match ls, h with | [l0, l1], _ => rfl) (fun ls h => by match ls, h with | [l0, l1], _ => rfl) (by decide) (by decide) (fun ls => rfl)
theorem sp1_insn_Subs_L1_0_ok (g1_0 : Nat) (g1_1 : Nat → Part) (s0_0 : Int) (c1_0 : Int) (h : lpO (st_insn_Subs_L1 n0 A0 g1_0 g1_1) (.c0 s0_0) = some (.e1 c1_0)) : SpcG Try.prog M B0 S ⟨fun ls => .code (.loop bd_insn_Subs_L1) (t0_insn_Subs_L1_0 a0 p0 q0 n0 k0 A0 g1_0 g1_1 s0_0 ls), pre_insn_Subs_L1_0 a0 p0 q0 n0 k0 A0 g1_0 g1_1 s0_0, 1, .ret, fun ls => vf_insn_Subs_L1 a0 p0 q0 n0 k0 A0 g1_0 g1_1 (.e1 c1_0) (ls.take 2 ++ ls.drop 2), fun ls => (Hf_insn_Subs_L1 a0 p0 q0 n0 k0 A0 g1_0 g1_1 (.e1 c1_0) (ls.take 2 ++ ls.drop 2)).take 2 ++ List.replicate 0 unb, fun ls => (Hf_insn_Subs_L1 a0 p0 q0 n0 k0 A0 g1_0 g1_1 (.e1 c1_0) (ls.take 2 ++ ls.drop 2)).drop 2⟩ :=
  spc_of_goesG hU 0 (k0 := 2) (go_insn_Subs_L1 hU a0 p0 q0 n0 k0 A0 hR0 g1_0 g1_1 _ _ h) (t0_insn_Subs_L1_0 a0 p0 q0 n0 k0 A0 g1_0 g1_1 s0_0) (pre_insn_Subs_L1_0 a0 p0 q0 n0 k0 A0 g1_0 g1_1 s0_0) (fun _ => rfl) (fun ls h => by match ls, h with | [l0, l1], _ => rfl) (fun ls h => by match ls, h with | [l0, l1], _ => rfl) (by decide) (by decide) (fun ls => rfl)
inductive R_insn_Subs where
  | e0 (c0_0 : Int) (c0_1 : Int)
  | e1 (c1_0 : Nat) (c1_1 : Nat → Part)
noncomputable def m_insn_Subs (n0 : Nat) (A0 : Nat → Insn) : Option R_insn_Subs :=
  bif (n0 : Int) == 0 then
    (some (.e0 0 10))
  else (bif decide (4096 < (n0 : Int)) then
    (some (.e0 0 10))
  else ((lpO (st_insn_Subs_L0 n0 A0) (.c0 0)).bind fun g0 => match g0 with
  | .e0  => ((m_insn_split n0 A0).bind fun g1 => match g1 with
    | .e0  => (some (.e0 0 0))
    | .e1 g1_0 g1_1 => (bif decide (64 < (g1_0 : Int)) then
        (some (.e0 0 17))
      else ((lpO (st_insn_Subs_L1 n0 A0 g1_0 g1_1) (.c0 0)).bind fun g2 => match g2 with
      | .e0  => (some (.e1 g1_0 g1_1))
      | .e1 g2_0 => (some (.e0 g2_0 16)))))
  | .e1 g0_0 g0_1 => (some (.e0 g0_0 g0_1))))
def sq0_insn_Subs (a0 : Option Addr) (p0 : Nat) (q0 : Nat) (n0 : Nat) (k0 : Nat) (A0 : Nat → Insn) (c0_0 : Int) (c0_1 : Int) : Spc := ⟨fun ls => .call 19 #[.slice a0 n0 (n0 + k0)], fun ls => [], 0, .normal, fun ls => [.tuple #[.slice none 0 0, .int .i64 (c0_0), .int .i64 (c0_1)]], fun ls => [], fun ls => []⟩
def sq1_insn_Subs (a0 : Option Addr) (p0 : Nat) (q0 : Nat) (n0 : Nat) (k0 : Nat) (A0 : Nat → Insn) (c1_0 : Nat) (c1_1 : Nat → Part) : Spc := ⟨fun ls => .call 19 #[.slice a0 n0 (n0 + k0)], fun ls => [], 1, .normal, fun ls => [.tuple #[(rowV (lget ls 0) c1_0 2), .int .i64 (0), .int .i64 (0)]], fun ls => [], fun ls => [rowO (lget ls 0) (esG c_Part c1_0 c1_1) 49 c1_0 2]⟩
theorem p0_insn_Subs (h0 : ((n0 : Int) == 0) = true) : SpcG Try.prog M B0 S (sq0_insn_Subs a0 p0 q0 n0 k0 A0 0 10) :=
  fn_specG hU (P := Try.prog) Try.func19 (fun xs w => by kernel_rfl) 0 _ _ (fun _ => rfl) _ _ _ []
    [.o, .o, .o, .o, .o, .b (z_eqlT h0), .o, .o, .o, .o, .o]
    [] (fun b => by kernel_rfl)
theorem p1_insn_Subs (h0 : ((n0 : Int) == 0) = false) (h1 : (decide (4096 < (n0 : Int))) = true) : SpcG Try.prog M B0 S (sq0_insn_Subs a0 p0 q0 n0 k0 A0 0 10) :=
  fn_specG hU (P := Try.prog) Try.func19 (fun xs w => by kernel_rfl) 0 _ _ (fun _ => rfl) _ _ _ []
    [.o, .o, .o, .o, .o, .b (z_eqlF h0), .o, .o, .o, .b (z_gtrT h1), .o, .o, .o, .o]
    [] (fun b => by kernel_rfl)
theorem p2_insn_Subs (h0 : ((n0 : Int) == 0) = false) (h1 : (decide (4096 < (n0 : Int))) = false) (e_g0 : lpO (st_insn_Subs_L0 n0 A0) (.c0 0) = some (.e0 )) (e_g1 : m_insn_split n0 A0 = some (.e0 )) : SpcG Try.prog M B0 S (sq0_insn_Subs a0 p0 q0 n0 k0 A0 0 0) :=
  fn_specG hU (P := Try.prog) Try.func19 (fun xs w => by kernel_rfl) 0 _ _ (fun _ => rfl) _ _ _ []
    [.o, .o, .o, .o, .o, .b (z_eqlF h0), .o, .o, .o, .b (z_gtrF h1), .o, .o, .cp, .cx (sp0_insn_Subs_L0_0_ok hU a0 p0 q0 n0 k0 A0 hR0 0  e_g0) [], .o, .xg (ok0_insn_split hU a0 p0 q0 n0 k0 A0 hR0  e_g1) [], .o, .o, .o, .o, .o, .o, .o, .o, .o, .o, .o, .o]
    [] (fun b => by kernel_rfl)
theorem p3_insn_Subs (h0 : ((n0 : Int) == 0) = false) (h1 : (decide (4096 < (n0 : Int))) = false) (e_g0 : lpO (st_insn_Subs_L0 n0 A0) (.c0 0) = some (.e0 )) (g1_0 : Nat) (g1_1 : Nat → Part) (e_g1 : m_insn_split n0 A0 = some (.e1 g1_0 g1_1)) (h2 : (decide (64 < (g1_0 : Int))) = true) : SpcG Try.prog M B0 S (sq0_insn_Subs a0 p0 q0 n0 k0 A0 0 17) :=
  fn_specG hU (P := Try.prog) Try.func19 (fun xs w => by kernel_rfl) 0 _ _ (fun _ => rfl) _ _ _ []
    [.o, .o, .o, .o, .o, .b (z_eqlF h0), .o, .o, .o, .b (z_gtrF h1), .o, .o, .cp, .cx (sp0_insn_Subs_L0_0_ok hU a0 p0 q0 n0 k0 A0 hR0 0  e_g0) [], .o, .xg (ok1_insn_split hU a0 p0 q0 n0 k0 A0 hR0 g1_0 g1_1 e_g1) [], .o, .o, .o, .b (z_gtrT h2), .o, .o, .o]
    [] (fun b => by kernel_rfl)
theorem p4_insn_Subs (h0 : ((n0 : Int) == 0) = false) (h1 : (decide (4096 < (n0 : Int))) = false) (e_g0 : lpO (st_insn_Subs_L0 n0 A0) (.c0 0) = some (.e0 )) (g1_0 : Nat) (g1_1 : Nat → Part) (e_g1 : m_insn_split n0 A0 = some (.e1 g1_0 g1_1)) (h2 : (decide (64 < (g1_0 : Int))) = false) (e_g2 : lpO (st_insn_Subs_L1 n0 A0 g1_0 g1_1) (.c0 0) = some (.e0 )) : SpcG Try.prog M B0 S (sq1_insn_Subs a0 p0 q0 n0 k0 A0 g1_0 g1_1) :=
  fn_specG hU (P := Try.prog) Try.func19 (fun xs w => by kernel_rfl) 0 _ _ (fun _ => rfl) _ _ _ [1]
    [.o, .o, .o, .o, .o, .b (z_eqlF h0), .o, .o, .o, .b (z_gtrF h1), .o, .o, .cp, .cx (sp0_insn_Subs_L0_0_ok hU a0 p0 q0 n0 k0 A0 hR0 0  e_g0) [], .o, .xg (ok1_insn_split hU a0 p0 q0 n0 k0 A0 hR0 g1_0 g1_1 e_g1) [], .o, .o, .o, .b (z_gtrF h2), .o, .o, .o, .cp, .cx (sp0_insn_Subs_L1_0_ok hU a0 p0 q0 n0 k0 A0 hR0 g1_0 g1_1 0  e_g2) [0, 1], .o, .o, .o, .o]
    [] (fun b => by kernel_rfl)
theorem p5_insn_Subs (h0 : ((n0 : Int) == 0) = false) (h1 : (decide (4096 < (n0 : Int))) = false) (e_g0 : lpO (st_insn_Subs_L0 n0 A0) (.c0 0) = some (.e0 )) (g1_0 : Nat) (g1_1 : Nat → Part) (e_g1 : m_insn_split n0 A0 = some (.e1 g1_0 g1_1)) (h2 : (decide (64 < (g1_0 : Int))) = false) (g2_0 : Int) (e_g2 : lpO (st_insn_Subs_L1 n0 A0 g1_0 g1_1) (.c0 0) = some (.e1 g2_0)) : SpcG Try.prog M B0 S (sq0_insn_Subs a0 p0 q0 n0 k0 A0 g2_0 16) :=
  fn_specG hU (P := Try.prog) Try.func19 (fun xs w => by kernel_rfl) 0 _ _ (fun _ => rfl) _ _ _ []
    [.o, .o, .o, .o, .o, .b (z_eqlF h0), .o, .o, .o, .b (z_gtrF h1), .o, .o, .cp, .cx (sp0_insn_Subs_L0_0_ok hU a0 p0 q0 n0 k0 A0 hR0 0  e_g0) [], .o, .xg (ok1_insn_split hU a0 p0 q0 n0 k0 A0 hR0 g1_0 g1_1 e_g1) [], .o, .o, .o, .b (z_gtrF h2), .o, .o, .o, .cp, .cx (sp1_insn_Subs_L1_0_ok hU a0 p0 q0 n0 k0 A0 hR0 g1_0 g1_1 0 g2_0 e_g2) [0, 1]]
    [] (fun b => by kernel_rfl)
theorem p6_insn_Subs (h0 : ((n0 : Int) == 0) = false) (h1 : (decide (4096 < (n0 : Int))) = false) (g0_0 : Int) (g0_1 : Int) (e_g0 : lpO (st_insn_Subs_L0 n0 A0) (.c0 0) = some (.e1 g0_0 g0_1)) : SpcG Try.prog M B0 S (sq0_insn_Subs a0 p0 q0 n0 k0 A0 g0_0 g0_1) :=
  fn_specG hU (P := Try.prog) Try.func19 (fun xs w => by kernel_rfl) 0 _ _ (fun _ => rfl) _ _ _ []
    [.o, .o, .o, .o, .o, .b (z_eqlF h0), .o, .o, .o, .b (z_gtrF h1), .o, .o, .cp, .cx (sp1_insn_Subs_L0_0_ok hU a0 p0 q0 n0 k0 A0 hR0 0 g0_0 g0_1 e_g0) []]
    [] (fun b => by kernel_rfl)
theorem ok0_insn_Subs (c0_0 : Int) (c0_1 : Int) (e : m_insn_Subs n0 A0 = some (.e0 c0_0 c0_1)) : SpcG Try.prog M B0 S (sq0_insn_Subs a0 p0 q0 n0 k0 A0 c0_0 c0_1) := by
  unfold m_insn_Subs at e
  replace e := cond_eq_or e
  rcases e with ⟨hq0, e⟩ | ⟨hq0, e⟩
  · injection e with e; injection e with i0 i1; subst i0 i1; exact p0_insn_Subs hU a0 p0 q0 n0 k0 A0 hR0 hq0
  · replace e := cond_eq_or e
    rcases e with ⟨hq1, e⟩ | ⟨hq1, e⟩
    · injection e with e; injection e with i0 i1; subst i0 i1; exact p1_insn_Subs hU a0 p0 q0 n0 k0 A0 hR0 hq0 hq1
    · replace e := bindO_eq e
      obtain ⟨g0, e_g0, e⟩ := e
      rcases g0 with _ | ⟨g0_0, g0_1⟩
      · try dsimp only at e
        replace e := bindO_eq e
        obtain ⟨g1, e_g1, e⟩ := e
        rcases g1 with _ | ⟨g1_0, g1_1⟩
        · try dsimp only at e
          injection e with e; injection e with i0 i1; subst i0 i1; exact p2_insn_Subs hU a0 p0 q0 n0 k0 A0 hR0 hq0 hq1 e_g0 e_g1
        · try dsimp only at e
          replace e := cond_eq_or e
          rcases e with ⟨hq2, e⟩ | ⟨hq2, e⟩
          · injection e with e; injection e with i0 i1; subst i0 i1; exact p3_insn_Subs hU a0 p0 q0 n0 k0 A0 hR0 hq0 hq1 e_g0 g1_0 g1_1 e_g1 hq2
          · replace e := bindO_eq e
            obtain ⟨g2, e_g2, e⟩ := e
            rcases g2 with _ | ⟨g2_0⟩
            · try dsimp only at e
              cases e
            · try dsimp only at e
              injection e with e; injection e with i0 i1; subst i0 i1; exact p5_insn_Subs hU a0 p0 q0 n0 k0 A0 hR0 hq0 hq1 e_g0 g1_0 g1_1 e_g1 hq2 g2_0 e_g2
      · try dsimp only at e
        injection e with e; injection e with i0 i1; subst i0 i1; exact p6_insn_Subs hU a0 p0 q0 n0 k0 A0 hR0 hq0 hq1 g0_0 g0_1 e_g0
theorem ok1_insn_Subs (c1_0 : Nat) (c1_1 : Nat → Part) (e : m_insn_Subs n0 A0 = some (.e1 c1_0 c1_1)) : SpcG Try.prog M B0 S (sq1_insn_Subs a0 p0 q0 n0 k0 A0 c1_0 c1_1) := by
  unfold m_insn_Subs at e
  replace e := cond_eq_or e
  rcases e with ⟨hq0, e⟩ | ⟨hq0, e⟩
  · cases e
  · replace e := cond_eq_or e
    rcases e with ⟨hq1, e⟩ | ⟨hq1, e⟩
    · cases e
    · replace e := bindO_eq e
      obtain ⟨g0, e_g0, e⟩ := e
      rcases g0 with _ | ⟨g0_0, g0_1⟩
      · try dsimp only at e
        replace e := bindO_eq e
        obtain ⟨g1, e_g1, e⟩ := e
        rcases g1 with _ | ⟨g1_0, g1_1⟩
        · try dsimp only at e
          cases e
        · try dsimp only at e
          replace e := cond_eq_or e
          rcases e with ⟨hq2, e⟩ | ⟨hq2, e⟩
          · cases e
          · replace e := bindO_eq e
            obtain ⟨g2, e_g2, e⟩ := e
            rcases g2 with _ | ⟨g2_0⟩
            · try dsimp only at e
              injection e with e; injection e with i0 i1; subst i0 i1; exact p4_insn_Subs hU a0 p0 q0 n0 k0 A0 hR0 hq0 hq1 e_g0 g1_0 g1_1 e_g1 hq2 e_g2
            · try dsimp only at e
              cases e
      · try dsimp only at e
        cases e
inductive Sh_insn_Check_L0 where
  | c0 (s0_0 : Int)
inductive Ex_insn_Check_L0 where
  | e0 
  | e1 (c1_0 : Int)
noncomputable def st_insn_Check_L0 (n0 : Nat) (A0 : Nat → Insn) (g0_0 : Nat) (g0_1 : Nat → Part) : Sh_insn_Check_L0 → Option (Sh_insn_Check_L0 ⊕ Ex_insn_Check_L0)
  | .c0 s0_0 =>
    bif decide (s0_0 < (g0_0 : Int)) then
      (bif inR s0_0 g0_0 then
        ((m_insn_jumpsStay n0 A0 ((g0_1 (s0_0).toNat))).bind fun rb0 =>
        bif rb0.2 then
          (some (.inl (.c0 (IntKind.i64.wrap (s0_0 + 1)))))
        else (some (.inr (.e1 rb0.1))))
      else (none))
    else (some (.inr (.e0 )))
noncomputable def bd_insn_Check_L0 : Code := codeOf Try.f17 [1, 1, 1, 0, 1, 0, 0]
def fr_insn_Check_L0 (a0 : Option Addr) (p0 : Nat) (q0 : Nat) (n0 : Nat) (k0 : Nat) (A0 : Nat → Insn) (g0_0 : Nat) (g0_1 : Nat → Part) : Sh_insn_Check_L0 → List L1 → List Value
  | .c0 s0_0, ls => [.slice a0 n0 (n0 + k0), ((lget ls 1).u 1), .int .i64 (0), .int .i64 (0), ((lget ls 1).u 4), ((lget ls 1).u 5), ((lget ls 1).u 6), ((lget ls 1).u 7), ((lget ls 1).u 8), ((lget ls 1).u 9), ((lget ls 1).u 10), ((lget ls 1).u 11), ((lget ls 1).u 12), ((lget ls 1).u 13), ((lget ls 1).u 14), ((lget ls 1).u 15), ((lget ls 1).u 16), ((lget ls 1).u 17), ((lget ls 1).u 18), ((lget ls 1).u 19), ((lget ls 1).u 20), (rowV (lget ls 0) g0_0 2), .int .i64 ((g0_0 : Int)), .int .i64 (s0_0), ((lget ls 1).u 24), ((lget ls 1).u 25), ((lget ls 1).u 26), ((lget ls 1).u 27), ((lget ls 1).u 28), ((lget ls 1).u 29), ((lget ls 1).u 30), ((lget ls 1).u 31), ((lget ls 1).u 32), ((lget ls 1).u 33), ((lget ls 1).u 34), ((lget ls 1).u 35), ((lget ls 1).u 36)]
def Hs_insn_Check_L0 (a0 : Option Addr) (p0 : Nat) (q0 : Nat) (n0 : Nat) (k0 : Nat) (A0 : Nat → Insn) (g0_0 : Nat) (g0_1 : Nat → Part) : Sh_insn_Check_L0 → List L1 → List Obj
  | .c0 s0_0, ls => [rowO (lget ls 0) (esG c_Part g0_0 g0_1) 49 g0_0 2, unb]
def vf_insn_Check_L0 (a0 : Option Addr) (p0 : Nat) (q0 : Nat) (n0 : Nat) (k0 : Nat) (A0 : Nat → Insn) (g0_0 : Nat) (g0_1 : Nat → Part) : Ex_insn_Check_L0 → List L1 → List Value
  | .e0 , ls => [.slice a0 n0 (n0 + k0), ((lget ls 1).u 1), .int .i64 (0), .int .i64 (0), ((lget ls 1).u 4), ((lget ls 1).u 5), ((lget ls 1).u 6), ((lget ls 1).u 7), ((lget ls 1).u 8), ((lget ls 1).u 9), ((lget ls 1).u 10), ((lget ls 1).u 11), ((lget ls 1).u 12), ((lget ls 1).u 13), ((lget ls 1).u 14), ((lget ls 1).u 15), ((lget ls 1).u 16), ((lget ls 1).u 17), ((lget ls 1).u 18), ((lget ls 1).u 19), ((lget ls 1).u 20), (rowV (lget ls 0) g0_0 2), .int .i64 ((g0_0 : Int)), ((lget ls 1).u 23), ((lget ls 1).u 24), ((lget ls 1).u 25), ((lget ls 1).u 26), ((lget ls 1).u 27), ((lget ls 1).u 28), ((lget ls 1).u 29), ((lget ls 1).u 30), ((lget ls 1).u 31), ((lget ls 1).u 32), ((lget ls 1).u 33), ((lget ls 1).u 34), ((lget ls 1).u 35), ((lget ls 1).u 36)]
  | .e1 c1_0, ls => [.slice a0 n0 (n0 + k0), ((lget ls 1).u 1), .int .i64 (c1_0), .int .i64 (15), ((lget ls 1).u 4), ((lget ls 1).u 5), ((lget ls 1).u 6), ((lget ls 1).u 7), ((lget ls 1).u 8), ((lget ls 1).u 9), ((lget ls 1).u 10), ((lget ls 1).u 11), ((lget ls 1).u 12), ((lget ls 1).u 13), ((lget ls 1).u 14), ((lget ls 1).u 15), ((lget ls 1).u 16), ((lget ls 1).u 17), ((lget ls 1).u 18), ((lget ls 1).u 19), ((lget ls 1).u 20), (rowV (lget ls 0) g0_0 2), .int .i64 ((g0_0 : Int)), ((lget ls 1).u 23), ((lget ls 1).u 24), ((lget ls 1).u 25), ((lget ls 1).u 26), ((lget ls 1).u 27), ((lget ls 1).u 28), ((lget ls 1).u 29), ((lget ls 1).u 30), ((lget ls 1).u 31), ((lget ls 1).u 32), ((lget ls 1).u 33), ((lget ls 1).u 34), ((lget ls 1).u 35), ((lget ls 1).u 36)]
def Hf_insn_Check_L0 (a0 : Option Addr) (p0 : Nat) (q0 : Nat) (n0 : Nat) (k0 : Nat) (A0 : Nat → Insn) (g0_0 : Nat) (g0_1 : Nat → Part) : Ex_insn_Check_L0 → List L1 → List Obj
  | .e0 , ls => [rowO (lget ls 0) (esG c_Part g0_0 g0_1) 49 g0_0 2, unb]
  | .e1 c1_0, ls => [rowO (lget ls 0) (esG c_Part g0_0 g0_1) 49 g0_0 2, unb]
def ex_insn_Check_L0 : Ex_insn_Check_L0 → Ex
  | .e0  => (.exit 0)
  | .e1 _ => .ret
theorem w0_0_insn_Check_L0 (g0_0 : Nat) (g0_1 : Nat → Part) (s0_0 : Int) (h0 : (decide (s0_0 < (g0_0 : Int))) = true) (h1 : (inR s0_0 g0_0) = true) (rb0 : (Int) × (Bool)) (e_rb0 : m_insn_jumpsStay n0 A0 ((g0_1 (s0_0).toNat)) = some rb0) (h2 : (rb0.2) = true) : GoesG Try.prog M B0 S bd_insn_Check_L0 2 (fr_insn_Check_L0 a0 p0 q0 n0 k0 A0 g0_0 g0_1 (.c0 s0_0)) (Hs_insn_Check_L0 a0 p0 q0 n0 k0 A0 g0_0 g0_1 (.c0 s0_0)) .normal 1 (fr_insn_Check_L0 a0 p0 q0 n0 k0 A0 g0_0 g0_1 (.c0 (IntKind.i64.wrap (s0_0 + 1)))) (Hs_insn_Check_L0 a0 p0 q0 n0 k0 A0 g0_0 g0_1 (.c0 (IntKind.i64.wrap (s0_0 + 1)))) 2 :=
  goes_runG hU [.b (z_lssT h0), .q (ixM_ok (kd := .i64) (T := 41) (x := s0_0) (N := g0_0) (sz := 2) rfl (fun w => by kernel_rfl) h1), .l (accG (i := 0) (f := c_Part) (A := g0_1) (k := (s0_0).toNat) 0 [.int .i64 (((g0_1 (s0_0).toNat)).fFrom), .int .i64 (((g0_1 (s0_0).toNat)).fTo)] c_Part_len (inR_nat h1) rfl), .o, .a 2, .o, .a 2, .cg (ok_insn_jumpsStay hU a0 p0 q0 n0 k0 A0 hR0 ((g0_1 (s0_0).toNat)) rb0 e_rb0), .o, .o, .b h2, .o, .o, .o, .o, .o, .o] [0] (fun b => rfl) (by decide) rfl (fun b => by kernel_rfl)
theorem w0_1_insn_Check_L0 (g0_0 : Nat) (g0_1 : Nat → Part) (s0_0 : Int) (h0 : (decide (s0_0 < (g0_0 : Int))) = true) (h1 : (inR s0_0 g0_0) = true) (rb0 : (Int) × (Bool)) (e_rb0 : m_insn_jumpsStay n0 A0 ((g0_1 (s0_0).toNat)) = some rb0) (h2 : (rb0.2) = false) : GoesG Try.prog M B0 S bd_insn_Check_L0 2 (fr_insn_Check_L0 a0 p0 q0 n0 k0 A0 g0_0 g0_1 (.c0 s0_0)) (Hs_insn_Check_L0 a0 p0 q0 n0 k0 A0 g0_0 g0_1 (.c0 s0_0)) .ret 1 (vf_insn_Check_L0 a0 p0 q0 n0 k0 A0 g0_0 g0_1 (.e1 rb0.1)) (Hf_insn_Check_L0 a0 p0 q0 n0 k0 A0 g0_0 g0_1 (.e1 rb0.1)) 2 :=
  goes_runG hU [.b (z_lssT h0), .q (ixM_ok (kd := .i64) (T := 41) (x := s0_0) (N := g0_0) (sz := 2) rfl (fun w => by kernel_rfl) h1), .l (accG (i := 0) (f := c_Part) (A := g0_1) (k := (s0_0).toNat) 0 [.int .i64 (((g0_1 (s0_0).toNat)).fFrom), .int .i64 (((g0_1 (s0_0).toNat)).fTo)] c_Part_len (inR_nat h1) rfl), .o, .a 2, .o, .a 2, .cg (ok_insn_jumpsStay hU a0 p0 q0 n0 k0 A0 hR0 ((g0_1 (s0_0).toNat)) rb0 e_rb0), .o, .o, .b h2, .o, .o, .o, .o, .o, .o, .o] [0] (fun b => rfl) (by decide) rfl (fun b => by kernel_rfl)
theorem w0_3_insn_Check_L0 (g0_0 : Nat) (g0_1 : Nat → Part) (s0_0 : Int) (h0 : (decide (s0_0 < (g0_0 : Int))) = false) : GoesG Try.prog M B0 S bd_insn_Check_L0 2 (fr_insn_Check_L0 a0 p0 q0 n0 k0 A0 g0_0 g0_1 (.c0 s0_0)) (Hs_insn_Check_L0 a0 p0 q0 n0 k0 A0 g0_0 g0_1 (.c0 s0_0)) (.exit 0) 1 (vf_insn_Check_L0 a0 p0 q0 n0 k0 A0 g0_0 g0_1 (.e0 )) (Hf_insn_Check_L0 a0 p0 q0 n0 k0 A0 g0_0 g0_1 (.e0 )) 2 :=
  goes_runG hU [.b (z_lssF h0)] [0] (fun b => rfl) (by decide) rfl (fun b => by kernel_rfl)
theorem go_insn_Check_L0 (g0_0 : Nat) (g0_1 : Nat → Part) (s : Sh_insn_Check_L0) (r : Ex_insn_Check_L0) (h : lpO (st_insn_Check_L0 n0 A0 g0_0 g0_1) s = some r) : GoesG Try.prog M B0 S (.loop bd_insn_Check_L0) 2 (fr_insn_Check_L0 a0 p0 q0 n0 k0 A0 g0_0 g0_1 s) (Hs_insn_Check_L0 a0 p0 q0 n0 k0 A0 g0_0 g0_1 s) (ex_insn_Check_L0 r) 1 (vf_insn_Check_L0 a0 p0 q0 n0 k0 A0 g0_0 g0_1 r) (Hf_insn_Check_L0 a0 p0 q0 n0 k0 A0 g0_0 g0_1 r) 2 :=
  goes_lpO (fun s q e => by
    cases s with
    | c0 s0_0 =>
      unfold st_insn_Check_L0 at e
      dsimp only at e
      replace e := cond_eq_or e
      rcases e with ⟨hq0, e⟩ | ⟨hq0, e⟩
      · replace e := cond_eq_or e
        rcases e with ⟨hq1, e⟩ | ⟨hq1, e⟩
        · replace e := bindO_eq e
          obtain ⟨rb0, e_rb0, e⟩ := e
          try dsimp only at e
          replace e := cond_eq_or e
          rcases e with ⟨hq2, e⟩ | ⟨hq2, e⟩
          · cases e; exact w0_0_insn_Check_L0 hU a0 p0 q0 n0 k0 A0 hR0 g0_0 g0_1 s0_0 hq0 hq1 rb0 e_rb0 hq2
          · cases e; exact ⟨ne_ret, w0_1_insn_Check_L0 hU a0 p0 q0 n0 k0 A0 hR0 g0_0 g0_1 s0_0 hq0 hq1 rb0 e_rb0 hq2⟩
        · exact none_some e
      · cases e; exact ⟨ne_exit 0, w0_3_insn_Check_L0 hU a0 p0 q0 n0 k0 A0 hR0 g0_0 g0_1 s0_0 hq0⟩) s r h
def t0_insn_Check_L0_0 (a0 : Option Addr) (p0 : Nat) (q0 : Nat) (n0 : Nat) (k0 : Nat) (A0 : Nat → Insn) (g0_0 : Nat) (g0_1 : Nat → Part) (s0_0 : Int) (ls : List L1) : List Value := [.slice a0 n0 (n0 + k0), undef, .int .i64 (0), .int .i64 (0), (rowV (lget ls 0) g0_0 2), .int .i64 (0), .int .i64 (0), undef, undef, undef, undef, .tuple #[(rowV (lget ls 0) g0_0 2), .int .i64 (0), .int .i64 (0)], .slice a0 n0 (n0 + k0), .tuple #[(rowV (lget ls 0) g0_0 2), .int .i64 (0), .int .i64 (0)], (rowV (lget ls 0) g0_0 2), .int .i64 (0), .int .i64 (0), .int .i64 (0), .bool false, undef, undef, (rowV (lget ls 0) g0_0 2), .int .i64 ((g0_0 : Int)), .int .i64 (s0_0), undef, undef, undef, undef, undef, undef, undef, undef, undef, undef, undef, undef, undef]
def pre_insn_Check_L0_0 (a0 : Option Addr) (p0 : Nat) (q0 : Nat) (n0 : Nat) (k0 : Nat) (A0 : Nat → Insn) (g0_0 : Nat) (g0_1 : Nat → Part) (s0_0 : Int) (ls : List L1) : List Obj := [rowO (lget ls 0) (esG c_Part g0_0 g0_1) 49 g0_0 2]
theorem sp0_insn_Check_L0_0_ok (g0_0 : Nat) (g0_1 : Nat → Part) (s0_0 : Int) (h : lpO (st_insn_Check_L0 n0 A0 g0_0 g0_1) (.c0 s0_0) = some (.e0 )) : SpcG Try.prog M B0 S ⟨fun ls => .code (.loop bd_insn_Check_L0) (t0_insn_Check_L0_0 a0 p0 q0 n0 k0 A0 g0_0 g0_1 s0_0 ls), pre_insn_Check_L0_0 a0 p0 q0 n0 k0 A0 g0_0 g0_1 s0_0, 1, (.exit 0), fun ls => vf_insn_Check_L0 a0 p0 q0 n0 k0 A0 g0_0 g0_1 (.e0 ) (ls.take 1 ++ ls.drop 1), fun ls => (Hf_insn_Check_L0 a0 p0 q0 n0 k0 A0 g0_0 g0_1 (.e0 ) (ls.take 1 ++ ls.drop 1)).take 1 ++ List.replicate 0 unb, fun ls => (Hf_insn_Check_L0 a0 p0 q0 n0 k0 A0 g0_0 g0_1 (.e0 ) (ls.take 1 ++ ls.drop 1)).drop 1⟩ :=
  spc_of_goesG hU 0 (k0 := 1) (go_insn_Check_L0 hU a0 p0 q0 n0 k0 A0 hR0 g0_0 g0_1 _ _ h) (t0_insn_Check_L0_0 a0 p0 q0 n0 k0 A0 g0_0 g0_1 s0_0) (pre_insn_Check_L0_0 a0 p0 q0 n0 k0 A0 g0_0 g0_1 s0_0) (fun _ => rfl) (fun ls h => by match ls, h with | [l0], _ => rfl) (fun ls h => by match ls, h with | [l0], _ => rfl) (by decide) (by decide) (fun ls => rfl)
theorem sp1_insn_Check_L0_0_ok (g0_0 : Nat) (g0_1 : Nat → Part) (s0_0 : Int) (c1_0 : Int) (h : lpO (st_insn_Check_L0 n0 A0 g0_0 g0_1) (.c0 s0_0) = some (.e1 c1_0)) : SpcG Try.prog M B0 S ⟨fun ls => .code (.loop bd_insn_Check_L0) (t0_insn_Check_L0_0 a0 p0 q0 n0 k0 A0 g0_0 g0_1 s0_0 ls), pre_insn_Check_L0_0 a0 p0 q0 n0 k0 A0 g0_0 g0_1 s0_0, 1, .ret, fun ls => vf_insn_Check_L0 a0 p0 q0 n0 k0 A0 g0_0 g0_1 (.e1 c1_0) (ls.take 1 ++ ls.drop 1), fun ls => (Hf_insn_Check_L0 a0 p0 q0 n0 k0 A0 g0_0 g0_1 (.e1 c1_0) (ls.take 1 ++ ls.drop 1)).take 1 ++ List.replicate 0 unb, fun ls => (Hf_insn_Check_L0 a0 p0 q0 n0 k0 A0 g0_0 g0_1 (.e1 c1_0) (ls.take 1 ++ ls.drop 1)).drop 1⟩ :=
  spc_of_goesG hU 0 (k0 := 1) (go_insn_Check_L0 hU a0 p0 q0 n0 k0 A0 hR0 g0_0 g0_1 _ _ h) (t0_insn_Check_L0_0 a0 p0 q0 n0 k0 A0 g0_0 g0_1 s0_0) (pre_insn_Check_L0_0 a0 p0 q0 n0 k0 A0 g0_0 g0_1 s0_0) (fun _ => rfl) (fun ls h => by match ls, h with | [l0], _ => rfl) (fun ls h => by match ls, h with | [l0], _ => rfl) (by decide) (by decide) (fun ls => rfl)
noncomputable def m_insn_Check (n0 : Nat) (A0 : Nat → Insn) : Option ((Int) × (Int)) :=
  (m_insn_Subs n0 A0).bind fun g0 => match g0 with
  | .e0 g0_0 g0_1 => (bif g0_1 == 0 then
      (some (0, 0))
    else (some (g0_0, g0_1)))
  | .e1 g0_0 g0_1 => ((lpO (st_insn_Check_L0 n0 A0 g0_0 g0_1) (.c0 0)).bind fun g1 => match g1 with
    | .e0  => (some (0, 0))
    | .e1 g1_0 => (some (g1_0, 15)))
theorem p0_insn_Check (g0_0 : Int) (g0_1 : Int) (e_g0 : m_insn_Subs n0 A0 = some (.e0 g0_0 g0_1)) (h0 : (g0_1 == 0) = true) : ConG Try.prog S 17 #[.slice a0 n0 (n0 + k0)] (vt1 (0, 0)) :=
  fn_conG hU (P := Try.prog) Try.func17 (fun xs w => by kernel_rfl) [.slice a0 n0 (n0 + k0)] (vt1 (0, 0))
    [.o, .o, .o, .xg (ok0_insn_Subs hU a0 p0 q0 n0 k0 A0 hR0 g0_0 g0_1 e_g0) [], .o, .o, .o, .o, .o, .o, .o, .o, .b (z_neqT h0), .o, .o, .o, .o, .o, .o]
    [] (fun b => by kernel_rfl)
theorem p1_insn_Check (g0_0 : Int) (g0_1 : Int) (e_g0 : m_insn_Subs n0 A0 = some (.e0 g0_0 g0_1)) (h0 : (g0_1 == 0) = false) : ConG Try.prog S 17 #[.slice a0 n0 (n0 + k0)] (vt1 (g0_0, g0_1)) :=
  fn_conG hU (P := Try.prog) Try.func17 (fun xs w => by kernel_rfl) [.slice a0 n0 (n0 + k0)] (vt1 (g0_0, g0_1))
    [.o, .o, .o, .xg (ok0_insn_Subs hU a0 p0 q0 n0 k0 A0 hR0 g0_0 g0_1 e_g0) [], .o, .o, .o, .o, .o, .o, .o, .o, .b (z_neqF h0), .o, .o, .o, .o]
    [] (fun b => by kernel_rfl)
theorem p2_insn_Check (g0_0 : Nat) (g0_1 : Nat → Part) (e_g0 : m_insn_Subs n0 A0 = some (.e1 g0_0 g0_1)) (e_g1 : lpO (st_insn_Check_L0 n0 A0 g0_0 g0_1) (.c0 0) = some (.e0 )) : ConG Try.prog S 17 #[.slice a0 n0 (n0 + k0)] (vt1 (0, 0)) :=
  fn_conG hU (P := Try.prog) Try.func17 (fun xs w => by kernel_rfl) [.slice a0 n0 (n0 + k0)] (vt1 (0, 0))
    [.o, .o, .o, .xg (ok1_insn_Subs hU a0 p0 q0 n0 k0 A0 hR0 g0_0 g0_1 e_g0) [], .o, .o, .o, .o, .o, .o, .o, .o, .o, .o, .o, .o, .cp, .cx (sp0_insn_Check_L0_0_ok hU a0 p0 q0 n0 k0 A0 hR0 g0_0 g0_1 0  e_g1) [0], .o, .o]
    [] (fun b => by kernel_rfl)
theorem p3_insn_Check (g0_0 : Nat) (g0_1 : Nat → Part) (e_g0 : m_insn_Subs n0 A0 = some (.e1 g0_0 g0_1)) (g1_0 : Int) (e_g1 : lpO (st_insn_Check_L0 n0 A0 g0_0 g0_1) (.c0 0) = some (.e1 g1_0)) : ConG Try.prog S 17 #[.slice a0 n0 (n0 + k0)] (vt1 (g1_0, 15)) :=
  fn_conG hU (P := Try.prog) Try.func17 (fun xs w => by kernel_rfl) [.slice a0 n0 (n0 + k0)] (vt1 (g1_0, 15))
    [.o, .o, .o, .xg (ok1_insn_Subs hU a0 p0 q0 n0 k0 A0 hR0 g0_0 g0_1 e_g0) [], .o, .o, .o, .o, .o, .o, .o, .o, .o, .o, .o, .o, .cp, .cx (sp1_insn_Check_L0_0_ok hU a0 p0 q0 n0 k0 A0 hR0 g0_0 g0_1 0 g1_0 e_g1) [0]]
    [] (fun b => by kernel_rfl)
theorem ok_insn_Check (r : (Int) × (Int)) (e : m_insn_Check n0 A0 = some r) : ConG Try.prog S 17 #[.slice a0 n0 (n0 + k0)] (vt1 r) := by
  unfold m_insn_Check at e
  replace e := bindO_eq e
  obtain ⟨g0, e_g0, e⟩ := e
  rcases g0 with ⟨g0_0, g0_1⟩ | ⟨g0_0, g0_1⟩
  · try dsimp only at e
    replace e := cond_eq_or e
    rcases e with ⟨hq0, e⟩ | ⟨hq0, e⟩
    · injection e with e; subst e; exact p0_insn_Check hU a0 p0 q0 n0 k0 A0 hR0 g0_0 g0_1 e_g0 hq0
    · injection e with e; subst e; exact p1_insn_Check hU a0 p0 q0 n0 k0 A0 hR0 g0_0 g0_1 e_g0 hq0
  · try dsimp only at e
    replace e := bindO_eq e
    obtain ⟨g1, e_g1, e⟩ := e
    rcases g1 with _ | ⟨g1_0⟩
    · try dsimp only at e
      injection e with e; subst e; exact p2_insn_Check hU a0 p0 q0 n0 k0 A0 hR0 g0_0 g0_1 e_g0 e_g1
    · try dsimp only at e
      injection e with e; subst e; exact p3_insn_Check hU a0 p0 q0 n0 k0 A0 hR0 g0_0 g0_1 e_g0 g1_0 e_g1
noncomputable def m_insn_operation (n0 : Nat) (A0 : Nat → Insn) (y1 : Int) : Option (Bool) :=
  bif decide (0 ≤ y1) then
    (bif decide (y1 < (n0 : Int)) then
      (bif inR y1 n0 then
        (bif m_insn_known ((A0 (y1).toNat)) then
          ((m_op_IsSecond n0 A0 y1).bind fun r0 =>
          bif r0 then
            (some false)
          else (some true))
        else (some false))
      else (none))
    else (some false))
  else (some false)
theorem p0_insn_operation (y1 : Int) (h0 : (decide (0 ≤ y1)) = true) (h1 : (decide (y1 < (n0 : Int))) = true) (h2 : (inR y1 n0) = true) (h3 : (m_insn_known ((A0 (y1).toNat))) = true) (e_r0 : m_op_IsSecond n0 A0 y1 = some true) : ConG Try.prog S 37 #[.slice a0 n0 (n0 + k0), .int .i64 (y1)] (.bool false) :=
  fn_conG hU (P := Try.prog) Try.func37 (fun xs w => by kernel_rfl) [.slice a0 n0 (n0 + k0), .int .i64 (y1)] (.bool false)
    [.o, .o, .b (z_geqT h0), .o, .o, .o, .o, .b (z_lssT h1), .o, .o, .o, .o, .q (ixRo_ok (kd := .i64) (T := 22) (x := y1) (sz := 5) rfl (fun w => by kernel_rfl) hR0 h2), .l (accRo hR0 c_Insn_len (inR_nat h2) 0 [.int .u8 (nn ((A0 (y1).toNat)).fOp), .int .u8 (nn ((A0 (y1).toNat)).fDst), .int .u8 (nn ((A0 (y1).toNat)).fSrc), .int .i16 (ii ((A0 (y1).toNat)).fOff), .int .i32 (ii ((A0 (y1).toNat)).fImm)] rfl), .cg (ok_insn_known hU ((A0 (y1).toNat)) true h3), .o, .o, .o, .o, .cg (ok_op_IsSecond hU a0 p0 q0 n0 k0 A0 hR0 y1 true e_r0), .o, .o, .o]
    [] (fun b => by kernel_rfl)
theorem p1_insn_operation (y1 : Int) (h0 : (decide (0 ≤ y1)) = true) (h1 : (decide (y1 < (n0 : Int))) = true) (h2 : (inR y1 n0) = true) (h3 : (m_insn_known ((A0 (y1).toNat))) = true) (e_r0 : m_op_IsSecond n0 A0 y1 = some false) : ConG Try.prog S 37 #[.slice a0 n0 (n0 + k0), .int .i64 (y1)] (.bool true) :=
  fn_conG hU (P := Try.prog) Try.func37 (fun xs w => by kernel_rfl) [.slice a0 n0 (n0 + k0), .int .i64 (y1)] (.bool true)
    [.o, .o, .b (z_geqT h0), .o, .o, .o, .o, .b (z_lssT h1), .o, .o, .o, .o, .q (ixRo_ok (kd := .i64) (T := 22) (x := y1) (sz := 5) rfl (fun w => by kernel_rfl) hR0 h2), .l (accRo hR0 c_Insn_len (inR_nat h2) 0 [.int .u8 (nn ((A0 (y1).toNat)).fOp), .int .u8 (nn ((A0 (y1).toNat)).fDst), .int .u8 (nn ((A0 (y1).toNat)).fSrc), .int .i16 (ii ((A0 (y1).toNat)).fOff), .int .i32 (ii ((A0 (y1).toNat)).fImm)] rfl), .cg (ok_insn_known hU ((A0 (y1).toNat)) true h3), .o, .o, .o, .o, .cg (ok_op_IsSecond hU a0 p0 q0 n0 k0 A0 hR0 y1 false e_r0), .o, .o, .o]
    [] (fun b => by kernel_rfl)
theorem p2_insn_operation (y1 : Int) (h0 : (decide (0 ≤ y1)) = true) (h1 : (decide (y1 < (n0 : Int))) = true) (h2 : (inR y1 n0) = true) (h3 : (m_insn_known ((A0 (y1).toNat))) = false) : ConG Try.prog S 37 #[.slice a0 n0 (n0 + k0), .int .i64 (y1)] (.bool false) :=
  fn_conG hU (P := Try.prog) Try.func37 (fun xs w => by kernel_rfl) [.slice a0 n0 (n0 + k0), .int .i64 (y1)] (.bool false)
    [.o, .o, .b (z_geqT h0), .o, .o, .o, .o, .b (z_lssT h1), .o, .o, .o, .o, .q (ixRo_ok (kd := .i64) (T := 22) (x := y1) (sz := 5) rfl (fun w => by kernel_rfl) hR0 h2), .l (accRo hR0 c_Insn_len (inR_nat h2) 0 [.int .u8 (nn ((A0 (y1).toNat)).fOp), .int .u8 (nn ((A0 (y1).toNat)).fDst), .int .u8 (nn ((A0 (y1).toNat)).fSrc), .int .i16 (ii ((A0 (y1).toNat)).fOff), .int .i32 (ii ((A0 (y1).toNat)).fImm)] rfl), .cg (ok_insn_known hU ((A0 (y1).toNat)) false h3), .o, .o, .o, .o]
    [] (fun b => by kernel_rfl)
theorem p4_insn_operation (y1 : Int) (h0 : (decide (0 ≤ y1)) = true) (h1 : (decide (y1 < (n0 : Int))) = false) : ConG Try.prog S 37 #[.slice a0 n0 (n0 + k0), .int .i64 (y1)] (.bool false) :=
  fn_conG hU (P := Try.prog) Try.func37 (fun xs w => by kernel_rfl) [.slice a0 n0 (n0 + k0), .int .i64 (y1)] (.bool false)
    [.o, .o, .b (z_geqT h0), .o, .o, .o, .o, .b (z_lssF h1), .o, .o, .o, .o, .o, .o]
    [] (fun b => by kernel_rfl)
theorem p5_insn_operation (y1 : Int) (h0 : (decide (0 ≤ y1)) = false) : ConG Try.prog S 37 #[.slice a0 n0 (n0 + k0), .int .i64 (y1)] (.bool false) :=
  fn_conG hU (P := Try.prog) Try.func37 (fun xs w => by kernel_rfl) [.slice a0 n0 (n0 + k0), .int .i64 (y1)] (.bool false)
    [.o, .o, .b (z_geqF h0), .o, .o, .o, .o, .o, .o, .o]
    [] (fun b => by kernel_rfl)
theorem ok_insn_operation (y1 : Int) (r : Bool) (e : m_insn_operation n0 A0 y1 = some r) : ConG Try.prog S 37 #[.slice a0 n0 (n0 + k0), .int .i64 (y1)] (.bool (r)) := by
  unfold m_insn_operation at e
  replace e := cond_eq_or e
  rcases e with ⟨hq0, e⟩ | ⟨hq0, e⟩
  · replace e := cond_eq_or e
    rcases e with ⟨hq1, e⟩ | ⟨hq1, e⟩
    · replace e := cond_eq_or e
      rcases e with ⟨hq2, e⟩ | ⟨hq2, e⟩
      · replace e := cond_eq_or e
        rcases e with ⟨hq3, e⟩ | ⟨hq3, e⟩
        · replace e := bindO_eq e
          obtain ⟨r0, e_r0, e⟩ := e
          try dsimp only at e
          replace e := cond_eq_or e
          rcases e with ⟨hq4, e⟩ | ⟨hq4, e⟩
          · subst hq4
            injection e with e; subst e; exact p0_insn_operation hU a0 p0 q0 n0 k0 A0 hR0 y1 hq0 hq1 hq2 hq3 e_r0
          · subst hq4
            injection e with e; subst e; exact p1_insn_operation hU a0 p0 q0 n0 k0 A0 hR0 y1 hq0 hq1 hq2 hq3 e_r0
        · injection e with e; subst e; exact p2_insn_operation hU a0 p0 q0 n0 k0 A0 hR0 y1 hq0 hq1 hq2 hq3
      · exact none_some e
    · injection e with e; subst e; exact p4_insn_operation hU a0 p0 q0 n0 k0 A0 hR0 y1 hq0 hq1
  · injection e with e; subst e; exact p5_insn_operation hU a0 p0 q0 n0 k0 A0 hR0 y1 hq0
noncomputable def m_insn_Target (n0 : Nat) (A0 : Nat → Insn) (y1 : Int) : Option ((Int) × (Bool)) :=
  (m_insn_operation n0 A0 y1).bind fun r0 =>
  bif r0 then
    (bif inR y1 n0 then
      (bif m_insn_names ((A0 (y1).toNat)) then
        (bif decide ((IntKind.i64.wrap ((IntKind.i64.wrap (y1 + 1)) + (ii ((A0 (y1).toNat)).fImm))) < 0) then
          (some (0, false))
        else (bif decide ((n0 : Int) ≤ (IntKind.i64.wrap ((IntKind.i64.wrap (y1 + 1)) + (ii ((A0 (y1).toNat)).fImm)))) then
          (some (0, false))
        else (some ((IntKind.i64.wrap ((IntKind.i64.wrap (y1 + 1)) + (ii ((A0 (y1).toNat)).fImm))), true))))
      else (bif m_op_Jumps ((A0 (y1).toNat)) then
        (bif decide ((IntKind.i64.wrap ((IntKind.i64.wrap (y1 + 1)) + (ii ((A0 (y1).toNat)).fOff))) < 0) then
          (some (0, false))
        else (bif decide ((n0 : Int) ≤ (IntKind.i64.wrap ((IntKind.i64.wrap (y1 + 1)) + (ii ((A0 (y1).toNat)).fOff)))) then
          (some (0, false))
        else (some ((IntKind.i64.wrap ((IntKind.i64.wrap (y1 + 1)) + (ii ((A0 (y1).toNat)).fOff))), true))))
      else (some (0, false))))
    else (none))
  else (some (0, false))
theorem p0_insn_Target (y1 : Int) (e_r0 : m_insn_operation n0 A0 y1 = some true) (h0 : (inR y1 n0) = true) (h1 : (m_insn_names ((A0 (y1).toNat))) = true) (h2 : (decide ((IntKind.i64.wrap ((IntKind.i64.wrap (y1 + 1)) + (ii ((A0 (y1).toNat)).fImm))) < 0)) = true) : ConG Try.prog S 22 #[.slice a0 n0 (n0 + k0), .int .i64 (y1)] (vt0 (0, false)) :=
  fn_conG hU (P := Try.prog) Try.func22 (fun xs w => by kernel_rfl) [.slice a0 n0 (n0 + k0), .int .i64 (y1)] (vt0 (0, false))
    [.o, .o, .o, .o, .cg (ok_insn_operation hU a0 p0 q0 n0 k0 A0 hR0 y1 true e_r0), .o, .o, .o, .q (ixRo_ok (kd := .i64) (T := 22) (x := y1) (sz := 5) rfl (fun w => by kernel_rfl) hR0 h0), .l (accRo hR0 c_Insn_len (inR_nat h0) 0 [.int .u8 (nn ((A0 (y1).toNat)).fOp), .int .u8 (nn ((A0 (y1).toNat)).fDst), .int .u8 (nn ((A0 (y1).toNat)).fSrc), .int .i16 (ii ((A0 (y1).toNat)).fOff), .int .i32 (ii ((A0 (y1).toNat)).fImm)] rfl), .o, .a 0, .o, .o, .o, .a 0, .cg (ok_insn_names hU ((A0 (y1).toNat)) true h1), .o, .o, .o, .a 0, .v .i64 (z_of_ii (by decide) ((A0 (y1).toNat)).fImm), .o, .o, .o, .b (z_lssT h2), .o, .o, .o, .o]
    [] (fun b => by kernel_rfl)
theorem p1_insn_Target (y1 : Int) (e_r0 : m_insn_operation n0 A0 y1 = some true) (h0 : (inR y1 n0) = true) (h1 : (m_insn_names ((A0 (y1).toNat))) = true) (h2 : (decide ((IntKind.i64.wrap ((IntKind.i64.wrap (y1 + 1)) + (ii ((A0 (y1).toNat)).fImm))) < 0)) = false) (h3 : (decide ((n0 : Int) ≤ (IntKind.i64.wrap ((IntKind.i64.wrap (y1 + 1)) + (ii ((A0 (y1).toNat)).fImm))))) = true) : ConG Try.prog S 22 #[.slice a0 n0 (n0 + k0), .int .i64 (y1)] (vt0 (0, false)) :=
  fn_conG hU (P := Try.prog) Try.func22 (fun xs w => by kernel_rfl) [.slice a0 n0 (n0 + k0), .int .i64 (y1)] (vt0 (0, false))
    [.o, .o, .o, .o, .cg (ok_insn_operation hU a0 p0 q0 n0 k0 A0 hR0 y1 true e_r0), .o, .o, .o, .q (ixRo_ok (kd := .i64) (T := 22) (x := y1) (sz := 5) rfl (fun w => by kernel_rfl) hR0 h0), .l (accRo hR0 c_Insn_len (inR_nat h0) 0 [.int .u8 (nn ((A0 (y1).toNat)).fOp), .int .u8 (nn ((A0 (y1).toNat)).fDst), .int .u8 (nn ((A0 (y1).toNat)).fSrc), .int .i16 (ii ((A0 (y1).toNat)).fOff), .int .i32 (ii ((A0 (y1).toNat)).fImm)] rfl), .o, .a 0, .o, .o, .o, .a 0, .cg (ok_insn_names hU ((A0 (y1).toNat)) true h1), .o, .o, .o, .a 0, .v .i64 (z_of_ii (by decide) ((A0 (y1).toNat)).fImm), .o, .o, .o, .b (z_lssF h2), .o, .o, .o, .o, .b (z_geqT h3), .o, .o, .o]
    [] (fun b => by kernel_rfl)
theorem p2_insn_Target (y1 : Int) (e_r0 : m_insn_operation n0 A0 y1 = some true) (h0 : (inR y1 n0) = true) (h1 : (m_insn_names ((A0 (y1).toNat))) = true) (h2 : (decide ((IntKind.i64.wrap ((IntKind.i64.wrap (y1 + 1)) + (ii ((A0 (y1).toNat)).fImm))) < 0)) = false) (h3 : (decide ((n0 : Int) ≤ (IntKind.i64.wrap ((IntKind.i64.wrap (y1 + 1)) + (ii ((A0 (y1).toNat)).fImm))))) = false) : ConG Try.prog S 22 #[.slice a0 n0 (n0 + k0), .int .i64 (y1)] (vt0 ((IntKind.i64.wrap ((IntKind.i64.wrap (y1 + 1)) + (ii ((A0 (y1).toNat)).fImm))), true)) :=
  fn_conG hU (P := Try.prog) Try.func22 (fun xs w => by kernel_rfl) [.slice a0 n0 (n0 + k0), .int .i64 (y1)] (vt0 ((IntKind.i64.wrap ((IntKind.i64.wrap (y1 + 1)) + (ii ((A0 (y1).toNat)).fImm))), true))
    [.o, .o, .o, .o, .cg (ok_insn_operation hU a0 p0 q0 n0 k0 A0 hR0 y1 true e_r0), .o, .o, .o, .q (ixRo_ok (kd := .i64) (T := 22) (x := y1) (sz := 5) rfl (fun w => by kernel_rfl) hR0 h0), .l (accRo hR0 c_Insn_len (inR_nat h0) 0 [.int .u8 (nn ((A0 (y1).toNat)).fOp), .int .u8 (nn ((A0 (y1).toNat)).fDst), .int .u8 (nn ((A0 (y1).toNat)).fSrc), .int .i16 (ii ((A0 (y1).toNat)).fOff), .int .i32 (ii ((A0 (y1).toNat)).fImm)] rfl), .o, .a 0, .o, .o, .o, .a 0, .cg (ok_insn_names hU ((A0 (y1).toNat)) true h1), .o, .o, .o, .a 0, .v .i64 (z_of_ii (by decide) ((A0 (y1).toNat)).fImm), .o, .o, .o, .b (z_lssF h2), .o, .o, .o, .o, .b (z_geqF h3), .o, .o, .o, .o]
    [] (fun b => by kernel_rfl)
theorem p3_insn_Target (y1 : Int) (e_r0 : m_insn_operation n0 A0 y1 = some true) (h0 : (inR y1 n0) = true) (h1 : (m_insn_names ((A0 (y1).toNat))) = false) (h2 : (m_op_Jumps ((A0 (y1).toNat))) = true) (h3 : (decide ((IntKind.i64.wrap ((IntKind.i64.wrap (y1 + 1)) + (ii ((A0 (y1).toNat)).fOff))) < 0)) = true) : ConG Try.prog S 22 #[.slice a0 n0 (n0 + k0), .int .i64 (y1)] (vt0 (0, false)) :=
  fn_conG hU (P := Try.prog) Try.func22 (fun xs w => by kernel_rfl) [.slice a0 n0 (n0 + k0), .int .i64 (y1)] (vt0 (0, false))
    [.o, .o, .o, .o, .cg (ok_insn_operation hU a0 p0 q0 n0 k0 A0 hR0 y1 true e_r0), .o, .o, .o, .q (ixRo_ok (kd := .i64) (T := 22) (x := y1) (sz := 5) rfl (fun w => by kernel_rfl) hR0 h0), .l (accRo hR0 c_Insn_len (inR_nat h0) 0 [.int .u8 (nn ((A0 (y1).toNat)).fOp), .int .u8 (nn ((A0 (y1).toNat)).fDst), .int .u8 (nn ((A0 (y1).toNat)).fSrc), .int .i16 (ii ((A0 (y1).toNat)).fOff), .int .i32 (ii ((A0 (y1).toNat)).fImm)] rfl), .o, .a 0, .o, .o, .o, .a 0, .cg (ok_insn_names hU ((A0 (y1).toNat)) false h1), .o, .a 0, .cg (ok_op_Jumps hU ((A0 (y1).toNat)) true h2), .o, .o, .o, .a 0, .v .i64 (z_of_ii (by decide) ((A0 (y1).toNat)).fOff), .o, .o, .o, .b (z_lssT h3), .o, .o, .o, .o]
    [] (fun b => by kernel_rfl)
theorem p4_insn_Target (y1 : Int) (e_r0 : m_insn_operation n0 A0 y1 = some true) (h0 : (inR y1 n0) = true) (h1 : (m_insn_names ((A0 (y1).toNat))) = false) (h2 : (m_op_Jumps ((A0 (y1).toNat))) = true) (h3 : (decide ((IntKind.i64.wrap ((IntKind.i64.wrap (y1 + 1)) + (ii ((A0 (y1).toNat)).fOff))) < 0)) = false) (h4 : (decide ((n0 : Int) ≤ (IntKind.i64.wrap ((IntKind.i64.wrap (y1 + 1)) + (ii ((A0 (y1).toNat)).fOff))))) = true) : ConG Try.prog S 22 #[.slice a0 n0 (n0 + k0), .int .i64 (y1)] (vt0 (0, false)) :=
  fn_conG hU (P := Try.prog) Try.func22 (fun xs w => by kernel_rfl) [.slice a0 n0 (n0 + k0), .int .i64 (y1)] (vt0 (0, false))
    [.o, .o, .o, .o, .cg (ok_insn_operation hU a0 p0 q0 n0 k0 A0 hR0 y1 true e_r0), .o, .o, .o, .q (ixRo_ok (kd := .i64) (T := 22) (x := y1) (sz := 5) rfl (fun w => by kernel_rfl) hR0 h0), .l (accRo hR0 c_Insn_len (inR_nat h0) 0 [.int .u8 (nn ((A0 (y1).toNat)).fOp), .int .u8 (nn ((A0 (y1).toNat)).fDst), .int .u8 (nn ((A0 (y1).toNat)).fSrc), .int .i16 (ii ((A0 (y1).toNat)).fOff), .int .i32 (ii ((A0 (y1).toNat)).fImm)] rfl), .o, .a 0, .o, .o, .o, .a 0, .cg (ok_insn_names hU ((A0 (y1).toNat)) false h1), .o, .a 0, .cg (ok_op_Jumps hU ((A0 (y1).toNat)) true h2), .o, .o, .o, .a 0, .v .i64 (z_of_ii (by decide) ((A0 (y1).toNat)).fOff), .o, .o, .o, .b (z_lssF h3), .o, .o, .o, .o, .b (z_geqT h4), .o, .o, .o]
    [] (fun b => by kernel_rfl)
theorem p5_insn_Target (y1 : Int) (e_r0 : m_insn_operation n0 A0 y1 = some true) (h0 : (inR y1 n0) = true) (h1 : (m_insn_names ((A0 (y1).toNat))) = false) (h2 : (m_op_Jumps ((A0 (y1).toNat))) = true) (h3 : (decide ((IntKind.i64.wrap ((IntKind.i64.wrap (y1 + 1)) + (ii ((A0 (y1).toNat)).fOff))) < 0)) = false) (h4 : (decide ((n0 : Int) ≤ (IntKind.i64.wrap ((IntKind.i64.wrap (y1 + 1)) + (ii ((A0 (y1).toNat)).fOff))))) = false) : ConG Try.prog S 22 #[.slice a0 n0 (n0 + k0), .int .i64 (y1)] (vt0 ((IntKind.i64.wrap ((IntKind.i64.wrap (y1 + 1)) + (ii ((A0 (y1).toNat)).fOff))), true)) :=
  fn_conG hU (P := Try.prog) Try.func22 (fun xs w => by kernel_rfl) [.slice a0 n0 (n0 + k0), .int .i64 (y1)] (vt0 ((IntKind.i64.wrap ((IntKind.i64.wrap (y1 + 1)) + (ii ((A0 (y1).toNat)).fOff))), true))
    [.o, .o, .o, .o, .cg (ok_insn_operation hU a0 p0 q0 n0 k0 A0 hR0 y1 true e_r0), .o, .o, .o, .q (ixRo_ok (kd := .i64) (T := 22) (x := y1) (sz := 5) rfl (fun w => by kernel_rfl) hR0 h0), .l (accRo hR0 c_Insn_len (inR_nat h0) 0 [.int .u8 (nn ((A0 (y1).toNat)).fOp), .int .u8 (nn ((A0 (y1).toNat)).fDst), .int .u8 (nn ((A0 (y1).toNat)).fSrc), .int .i16 (ii ((A0 (y1).toNat)).fOff), .int .i32 (ii ((A0 (y1).toNat)).fImm)] rfl), .o, .a 0, .o, .o, .o, .a 0, .cg (ok_insn_names hU ((A0 (y1).toNat)) false h1), .o, .a 0, .cg (ok_op_Jumps hU ((A0 (y1).toNat)) true h2), .o, .o, .o, .a 0, .v .i64 (z_of_ii (by decide) ((A0 (y1).toNat)).fOff), .o, .o, .o, .b (z_lssF h3), .o, .o, .o, .o, .b (z_geqF h4), .o, .o, .o, .o]
    [] (fun b => by kernel_rfl)
theorem p6_insn_Target (y1 : Int) (e_r0 : m_insn_operation n0 A0 y1 = some true) (h0 : (inR y1 n0) = true) (h1 : (m_insn_names ((A0 (y1).toNat))) = false) (h2 : (m_op_Jumps ((A0 (y1).toNat))) = false) : ConG Try.prog S 22 #[.slice a0 n0 (n0 + k0), .int .i64 (y1)] (vt0 (0, false)) :=
  fn_conG hU (P := Try.prog) Try.func22 (fun xs w => by kernel_rfl) [.slice a0 n0 (n0 + k0), .int .i64 (y1)] (vt0 (0, false))
    [.o, .o, .o, .o, .cg (ok_insn_operation hU a0 p0 q0 n0 k0 A0 hR0 y1 true e_r0), .o, .o, .o, .q (ixRo_ok (kd := .i64) (T := 22) (x := y1) (sz := 5) rfl (fun w => by kernel_rfl) hR0 h0), .l (accRo hR0 c_Insn_len (inR_nat h0) 0 [.int .u8 (nn ((A0 (y1).toNat)).fOp), .int .u8 (nn ((A0 (y1).toNat)).fDst), .int .u8 (nn ((A0 (y1).toNat)).fSrc), .int .i16 (ii ((A0 (y1).toNat)).fOff), .int .i32 (ii ((A0 (y1).toNat)).fImm)] rfl), .o, .a 0, .o, .o, .o, .a 0, .cg (ok_insn_names hU ((A0 (y1).toNat)) false h1), .o, .a 0, .cg (ok_op_Jumps hU ((A0 (y1).toNat)) false h2), .o, .o, .o]
    [] (fun b => by kernel_rfl)
theorem p8_insn_Target (y1 : Int) (e_r0 : m_insn_operation n0 A0 y1 = some false) : ConG Try.prog S 22 #[.slice a0 n0 (n0 + k0), .int .i64 (y1)] (vt0 (0, false)) :=
  fn_conG hU (P := Try.prog) Try.func22 (fun xs w => by kernel_rfl) [.slice a0 n0 (n0 + k0), .int .i64 (y1)] (vt0 (0, false))
    [.o, .o, .o, .o, .cg (ok_insn_operation hU a0 p0 q0 n0 k0 A0 hR0 y1 false e_r0), .o, .o, .o]
    [] (fun b => by kernel_rfl)
theorem ok_insn_Target (y1 : Int) (r : (Int) × (Bool)) (e : m_insn_Target n0 A0 y1 = some r) : ConG Try.prog S 22 #[.slice a0 n0 (n0 + k0), .int .i64 (y1)] (vt0 r) := by
  unfold m_insn_Target at e
  replace e := bindO_eq e
  obtain ⟨r0, e_r0, e⟩ := e
  try dsimp only at e
  replace e := cond_eq_or e
  rcases e with ⟨hq0, e⟩ | ⟨hq0, e⟩
  · subst hq0
    replace e := cond_eq_or e
    rcases e with ⟨hq1, e⟩ | ⟨hq1, e⟩
    · replace e := cond_eq_or e
      rcases e with ⟨hq2, e⟩ | ⟨hq2, e⟩
      · replace e := cond_eq_or e
        rcases e with ⟨hq3, e⟩ | ⟨hq3, e⟩
        · injection e with e; subst e; exact p0_insn_Target hU a0 p0 q0 n0 k0 A0 hR0 y1 e_r0 hq1 hq2 hq3
        · replace e := cond_eq_or e
          rcases e with ⟨hq4, e⟩ | ⟨hq4, e⟩
          · injection e with e; subst e; exact p1_insn_Target hU a0 p0 q0 n0 k0 A0 hR0 y1 e_r0 hq1 hq2 hq3 hq4
          · injection e with e; subst e; exact p2_insn_Target hU a0 p0 q0 n0 k0 A0 hR0 y1 e_r0 hq1 hq2 hq3 hq4
      · replace e := cond_eq_or e
        rcases e with ⟨hq3, e⟩ | ⟨hq3, e⟩
        · replace e := cond_eq_or e
          rcases e with ⟨hq4, e⟩ | ⟨hq4, e⟩
          · injection e with e; subst e; exact p3_insn_Target hU a0 p0 q0 n0 k0 A0 hR0 y1 e_r0 hq1 hq2 hq3 hq4
          · replace e := cond_eq_or e
            rcases e with ⟨hq5, e⟩ | ⟨hq5, e⟩
            · injection e with e; subst e; exact p4_insn_Target hU a0 p0 q0 n0 k0 A0 hR0 y1 e_r0 hq1 hq2 hq3 hq4 hq5
            · injection e with e; subst e; exact p5_insn_Target hU a0 p0 q0 n0 k0 A0 hR0 y1 e_r0 hq1 hq2 hq3 hq4 hq5
        · injection e with e; subst e; exact p6_insn_Target hU a0 p0 q0 n0 k0 A0 hR0 y1 e_r0 hq1 hq2 hq3
    · exact none_some e
  · subst hq0
    injection e with e; subst e; exact p8_insn_Target hU a0 p0 q0 n0 k0 A0 hR0 y1 e_r0
noncomputable def m_insn_Wide (n0 : Nat) (A0 : Nat → Insn) (y1 : Int) : Option ((BitVec 64) × (Bool)) :=
  (m_insn_operation n0 A0 y1).bind fun r0 =>
  bif r0 then
    (bif (IntKind.i64.wrap (y1 + 1)) == (n0 : Int) then
      (some (0#64, false))
    else (bif inR y1 n0 then
      (bif ((A0 (y1).toNat)).fOp == 24#8 then
        (bif ((A0 (y1).toNat)).fSrc == 0#8 then
          (bif inR (IntKind.i64.wrap (y1 + 1)) n0 then
            (some (((((A0 (y1).toNat)).fImm.setWidth 64) ||| ((((A0 ((IntKind.i64.wrap (y1 + 1))).toNat)).fImm.setWidth 64) <<< 32)), true))
          else (none))
        else (some (0#64, false)))
      else (some (0#64, false)))
    else (none)))
  else (some (0#64, false))
theorem p0_insn_Wide (y1 : Int) (e_r0 : m_insn_operation n0 A0 y1 = some true) (h0 : ((IntKind.i64.wrap (y1 + 1)) == (n0 : Int)) = true) : ConG Try.prog S 23 #[.slice a0 n0 (n0 + k0), .int .i64 (y1)] (vt2 (0#64, false)) :=
  fn_conG hU (P := Try.prog) Try.func23 (fun xs w => by kernel_rfl) [.slice a0 n0 (n0 + k0), .int .i64 (y1)] (vt2 (0#64, false))
    [.o, .o, .o, .o, .cg (ok_insn_operation hU a0 p0 q0 n0 k0 A0 hR0 y1 true e_r0), .o, .o, .o, .o, .o, .o, .b (z_eqlT h0), .o, .o, .o]
    [] (fun b => by kernel_rfl)
theorem p1_insn_Wide (y1 : Int) (e_r0 : m_insn_operation n0 A0 y1 = some true) (h0 : ((IntKind.i64.wrap (y1 + 1)) == (n0 : Int)) = false) (h1 : (inR y1 n0) = true) (h2 : (((A0 (y1).toNat)).fOp == 24#8) = true) (h3 : (((A0 (y1).toNat)).fSrc == 0#8) = true) (h4 : (inR (IntKind.i64.wrap (y1 + 1)) n0) = true) : ConG Try.prog S 23 #[.slice a0 n0 (n0 + k0), .int .i64 (y1)] (vt2 (((((A0 (y1).toNat)).fImm.setWidth 64) ||| ((((A0 ((IntKind.i64.wrap (y1 + 1))).toNat)).fImm.setWidth 64) <<< 32)), true)) :=
  fn_conG hU (P := Try.prog) Try.func23 (fun xs w => by kernel_rfl) [.slice a0 n0 (n0 + k0), .int .i64 (y1)] (vt2 (((((A0 (y1).toNat)).fImm.setWidth 64) ||| ((((A0 ((IntKind.i64.wrap (y1 + 1))).toNat)).fImm.setWidth 64) <<< 32)), true))
    [.o, .o, .o, .o, .cg (ok_insn_operation hU a0 p0 q0 n0 k0 A0 hR0 y1 true e_r0), .o, .o, .o, .o, .o, .o, .b (z_eqlF h0), .o, .o, .o, .q (ixRo_ok (kd := .i64) (T := 22) (x := y1) (sz := 5) rfl (fun w => by kernel_rfl) hR0 h1), .l (accRo hR0 c_Insn_len (inR_nat h1) 0 [.int .u8 (nn ((A0 (y1).toNat)).fOp), .int .u8 (nn ((A0 (y1).toNat)).fDst), .int .u8 (nn ((A0 (y1).toNat)).fSrc), .int .i16 (ii ((A0 (y1).toNat)).fOff), .int .i32 (ii ((A0 (y1).toNat)).fImm)] rfl), .o, .a 0, .o, .a 0, .tn (u_ne ((A0 (y1).toNat)).fOp (24#8)) h2, .o, .o, .a 0, .tn (u_ne ((A0 (y1).toNat)).fSrc (0#8)) h3, .o, .r [0, 1, 2, 3, 4, 5, 6, 7, 8, 9, 10, 11, 12, 13, 14, 15] [] [], .o, .a 0, .v .u32 (u32_of_i32 ((A0 (y1).toNat)).fImm), .v .u64 (u64_of_u32 ((A0 (y1).toNat)).fImm), .o, .o, .o, .q (ixRo_ok (kd := .i64) (T := 22) (x := (IntKind.i64.wrap (y1 + 1))) (sz := 5) rfl (fun w => by kernel_rfl) hR0 h4), .o, .l (accRo hR0 c_Insn_len (inR_nat h4) 4 [.int .i32 (ii ((A0 ((IntKind.i64.wrap (y1 + 1))).toNat)).fImm)] rfl), .v .u32 (u32_of_i32 ((A0 ((IntKind.i64.wrap (y1 + 1))).toNat)).fImm), .v .u64 (u64_of_u32 ((A0 ((IntKind.i64.wrap (y1 + 1))).toNat)).fImm), .ov (u64_shl Try.prog 53 (.tmp 41) (.const (.int .u64 (32))) (((A0 ((IntKind.i64.wrap (y1 + 1))).toNat)).fImm.setWidth 64) 32 .u64 rfl), .v .u64 (u64_or (((A0 (y1).toNat)).fImm.setWidth 64) ((((A0 ((IntKind.i64.wrap (y1 + 1))).toNat)).fImm.setWidth 64) <<< 32)), .o, .o]
    [] (fun b => by kernel_rfl)
theorem p3_insn_Wide (y1 : Int) (e_r0 : m_insn_operation n0 A0 y1 = some true) (h0 : ((IntKind.i64.wrap (y1 + 1)) == (n0 : Int)) = false) (h1 : (inR y1 n0) = true) (h2 : (((A0 (y1).toNat)).fOp == 24#8) = true) (h3 : (((A0 (y1).toNat)).fSrc == 0#8) = false) : ConG Try.prog S 23 #[.slice a0 n0 (n0 + k0), .int .i64 (y1)] (vt2 (0#64, false)) :=
  fn_conG hU (P := Try.prog) Try.func23 (fun xs w => by kernel_rfl) [.slice a0 n0 (n0 + k0), .int .i64 (y1)] (vt2 (0#64, false))
    [.o, .o, .o, .o, .cg (ok_insn_operation hU a0 p0 q0 n0 k0 A0 hR0 y1 true e_r0), .o, .o, .o, .o, .o, .o, .b (z_eqlF h0), .o, .o, .o, .q (ixRo_ok (kd := .i64) (T := 22) (x := y1) (sz := 5) rfl (fun w => by kernel_rfl) hR0 h1), .l (accRo hR0 c_Insn_len (inR_nat h1) 0 [.int .u8 (nn ((A0 (y1).toNat)).fOp), .int .u8 (nn ((A0 (y1).toNat)).fDst), .int .u8 (nn ((A0 (y1).toNat)).fSrc), .int .i16 (ii ((A0 (y1).toNat)).fOff), .int .i32 (ii ((A0 (y1).toNat)).fImm)] rfl), .o, .a 0, .o, .a 0, .tn (u_ne ((A0 (y1).toNat)).fOp (24#8)) h2, .o, .o, .a 0, .tn (u_ne ((A0 (y1).toNat)).fSrc (0#8)) h3, .o, .o, .o]
    [] (fun b => by kernel_rfl)
theorem p4_insn_Wide (y1 : Int) (e_r0 : m_insn_operation n0 A0 y1 = some true) (h0 : ((IntKind.i64.wrap (y1 + 1)) == (n0 : Int)) = false) (h1 : (inR y1 n0) = true) (h2 : (((A0 (y1).toNat)).fOp == 24#8) = false) : ConG Try.prog S 23 #[.slice a0 n0 (n0 + k0), .int .i64 (y1)] (vt2 (0#64, false)) :=
  fn_conG hU (P := Try.prog) Try.func23 (fun xs w => by kernel_rfl) [.slice a0 n0 (n0 + k0), .int .i64 (y1)] (vt2 (0#64, false))
    [.o, .o, .o, .o, .cg (ok_insn_operation hU a0 p0 q0 n0 k0 A0 hR0 y1 true e_r0), .o, .o, .o, .o, .o, .o, .b (z_eqlF h0), .o, .o, .o, .q (ixRo_ok (kd := .i64) (T := 22) (x := y1) (sz := 5) rfl (fun w => by kernel_rfl) hR0 h1), .l (accRo hR0 c_Insn_len (inR_nat h1) 0 [.int .u8 (nn ((A0 (y1).toNat)).fOp), .int .u8 (nn ((A0 (y1).toNat)).fDst), .int .u8 (nn ((A0 (y1).toNat)).fSrc), .int .i16 (ii ((A0 (y1).toNat)).fOff), .int .i32 (ii ((A0 (y1).toNat)).fImm)] rfl), .o, .a 0, .o, .a 0, .tn (u_ne ((A0 (y1).toNat)).fOp (24#8)) h2, .o, .o, .o, .o]
    [] (fun b => by kernel_rfl)
theorem p6_insn_Wide (y1 : Int) (e_r0 : m_insn_operation n0 A0 y1 = some false) : ConG Try.prog S 23 #[.slice a0 n0 (n0 + k0), .int .i64 (y1)] (vt2 (0#64, false)) :=
  fn_conG hU (P := Try.prog) Try.func23 (fun xs w => by kernel_rfl) [.slice a0 n0 (n0 + k0), .int .i64 (y1)] (vt2 (0#64, false))
    [.o, .o, .o, .o, .cg (ok_insn_operation hU a0 p0 q0 n0 k0 A0 hR0 y1 false e_r0), .o, .o, .o, .o, .o]
    [] (fun b => by kernel_rfl)
theorem ok_insn_Wide (y1 : Int) (r : (BitVec 64) × (Bool)) (e : m_insn_Wide n0 A0 y1 = some r) : ConG Try.prog S 23 #[.slice a0 n0 (n0 + k0), .int .i64 (y1)] (vt2 r) := by
  unfold m_insn_Wide at e
  replace e := bindO_eq e
  obtain ⟨r0, e_r0, e⟩ := e
  try dsimp only at e
  replace e := cond_eq_or e
  rcases e with ⟨hq0, e⟩ | ⟨hq0, e⟩
  · subst hq0
    replace e := cond_eq_or e
    rcases e with ⟨hq1, e⟩ | ⟨hq1, e⟩
    · injection e with e; subst e; exact p0_insn_Wide hU a0 p0 q0 n0 k0 A0 hR0 y1 e_r0 hq1
    · replace e := cond_eq_or e
      rcases e with ⟨hq2, e⟩ | ⟨hq2, e⟩
      · replace e := cond_eq_or e
        rcases e with ⟨hq3, e⟩ | ⟨hq3, e⟩
        · replace e := cond_eq_or e
          rcases e with ⟨hq4, e⟩ | ⟨hq4, e⟩
          · replace e := cond_eq_or e
            rcases e with ⟨hq5, e⟩ | ⟨hq5, e⟩
            · injection e with e; subst e; exact p1_insn_Wide hU a0 p0 q0 n0 k0 A0 hR0 y1 e_r0 hq1 hq2 hq3 hq4 hq5
            · exact none_some e
          · injection e with e; subst e; exact p3_insn_Wide hU a0 p0 q0 n0 k0 A0 hR0 y1 e_r0 hq1 hq2 hq3 hq4
        · injection e with e; subst e; exact p4_insn_Wide hU a0 p0 q0 n0 k0 A0 hR0 y1 e_r0 hq1 hq2 hq3
      · exact none_some e
  · subst hq0
    injection e with e; subst e; exact p6_insn_Wide hU a0 p0 q0 n0 k0 A0 hR0 y1 e_r0
end

end Go.Proofs.Ytmlkiamemkfdlaa
