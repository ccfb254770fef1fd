/-
  Instructions: what the program says of one slot.
-/
import Derived.Test.YtmlkiamemkfdlaaRxU
import Derived.Test.YtmlkiamemkfdlaaProg
namespace Go.Proofs.Ytmlkiamemkfdlaa
open Go.RowKit
set_option linter.unusedVariables false
set_option linter.unusedSimpArgs false
set_option linter.unusedSectionVars false
set_option maxRecDepth 100000
set_option maxHeartbeats 4000000
structure Insn where
  fOp : BitVec 8
  fDst : BitVec 8
  fSrc : BitVec 8
  fOff : BitVec 16
  fImm : BitVec 32
abbrev c_Insn (x : Insn) : List Value := [.int .u8 (nn x.fOp), .int .u8 (nn x.fDst), .int .u8 (nn x.fSrc), .int .i16 (ii x.fOff), .int .i32 (ii x.fImm)]
def v_Insn (x : Insn) : Value := .agg #[.int .u8 (nn x.fOp), .int .u8 (nn x.fDst), .int .u8 (nn x.fSrc), .int .i16 (ii x.fOff), .int .i32 (ii x.fImm)]
theorem c_Insn_len (x : Insn) : (c_Insn x).length = 5 := rfl
theorem c_Insn_one (x : Insn) : ((c_Insn x).all fun u => u.oneCell') = true := rfl
theorem eqi35 (d : Nat) (a0 b0 : BitVec 8) (a1 b1 : BitVec 8) (a2 b2 : BitVec 8) (a3 b3 : BitVec 16) (a4 b4 : BitVec 32) (w : World) : (Op.equalIn (d + 2) 35 (.agg #[.int .u8 (nn a0), .int .u8 (nn a1), .int .u8 (nn a2), .int .i16 (ii a3), .int .i32 (ii a4)]) (.agg #[.int .u8 (nn b0), .int .u8 (nn b1), .int .u8 (nn b2), .int .i16 (ii b3), .int .i32 (ii b4)])).run Try.prog w = .ok ((a0 == b0) && ((a1 == b1) && ((a2 == b2) && ((a3 == b3) && (a4 == b4))))) w :=
  eqi_of (d := d + 1) (l := [fl Try.prog 35 0, fl Try.prog 35 1, fl Try.prog 35 2, fl Try.prog 35 3, fl Try.prog 35 4]) (by kernel_rfl) (by kernel_rfl) (by kernel_rfl) (eqf_cons (f := fl Try.prog 35 0) (a := .int .u8 (nn a0)) (b := .int .u8 (nn b0)) (by kernel_rfl) (by kernel_rfl) (by kernel_rfl) (eq_u (d := d + 0) (k' := .u8) a0 b0 (by kernel_rfl)) (eqf_cons (f := fl Try.prog 35 1) (a := .int .u8 (nn a1)) (b := .int .u8 (nn b1)) (by kernel_rfl) (by kernel_rfl) (by kernel_rfl) (eq_u (d := d + 0) (k' := .u8) a1 b1 (by kernel_rfl)) (eqf_cons (f := fl Try.prog 35 2) (a := .int .u8 (nn a2)) (b := .int .u8 (nn b2)) (by kernel_rfl) (by kernel_rfl) (by kernel_rfl) (eq_u (d := d + 0) (k' := .u8) a2 b2 (by kernel_rfl)) (eqf_cons (f := fl Try.prog 35 3) (a := .int .i16 (ii a3)) (b := .int .i16 (ii b3)) (by kernel_rfl) (by kernel_rfl) (by kernel_rfl) (eq_i (d := d + 0) (k' := .i16) a3 b3 (by kernel_rfl)) (eqf_last (f := fl Try.prog 35 4) (a := .int .i32 (ii a4)) (b := .int .i32 (ii b4)) (by kernel_rfl) (by kernel_rfl) (by kernel_rfl) (eq_i (d := d + 0) (k' := .i32) a4 b4 (by kernel_rfl)) )))))
noncomputable def m_op_Width (y0 : Insn) : Int :=
  bif y0.fOp == 24#8 then
    (2)
  else (1)
section
variable {M : Nat → Prop} {B0 : Nat} {S : World → Prop} (hU : Up M B0 S) (y0 : Insn)
include hU y0
theorem p0_op_Width (h0 : (y0.fOp == 24#8) = true) : ConG Try.prog S 31 #[(v_Insn y0)] (.int .i64 (2)) :=
  fn_conG hU (P := Try.prog) Try.func31 (fun xs w => by kernel_rfl) [(v_Insn y0)] (.int .i64 (2))
    [.o, .o, .o, .a 0, .t (u_eq y0.fOp (24#8)) h0, .o]
    [] (fun b => by kernel_rfl)
theorem p1_op_Width (h0 : (y0.fOp == 24#8) = false) : ConG Try.prog S 31 #[(v_Insn y0)] (.int .i64 (1)) :=
  fn_conG hU (P := Try.prog) Try.func31 (fun xs w => by kernel_rfl) [(v_Insn y0)] (.int .i64 (1))
    [.o, .o, .o, .a 0, .t (u_eq y0.fOp (24#8)) h0, .o]
    [] (fun b => by kernel_rfl)
theorem ok_op_Width (r : Int) (e : m_op_Width y0 = r) : ConG Try.prog S 31 #[(v_Insn y0)] (.int .i64 (r)) := by
  unfold m_op_Width at e
  replace e := cond_eq_or e
  rcases e with ⟨hq0, e⟩ | ⟨hq0, e⟩
  · subst e; exact p0_op_Width hU y0 hq0
  · subst e; exact p1_op_Width hU y0 hq0
noncomputable def m_insn_plainOperand (y0 : Insn) : Bool :=
  bif (y0.fOp &&& 8#8) == 0#8 then
    ((y0.fSrc == 0#8))
  else ((y0.fImm == 0#32))
theorem p0_insn_plainOperand (h0 : ((y0.fOp &&& 8#8) == 0#8) = true) : ConG Try.prog S 54 #[(v_Insn y0)] (.bool ((y0.fSrc == 0#8))) :=
  fn_conG hU (P := Try.prog) Try.func54 (fun xs w => by kernel_rfl) [(v_Insn y0)] (.bool ((y0.fSrc == 0#8)))
    [.o, .o, .o, .a 0, .v .u8 (u8_and y0.fOp (8#8)), .tn (u_ne (y0.fOp &&& 8#8) (0#8)) h0, .o, .a 0, .t (u_eq y0.fSrc (0#8)) rfl, .o]
    [] (fun b => by kernel_rfl)
theorem p1_insn_plainOperand (h0 : ((y0.fOp &&& 8#8) == 0#8) = false) : ConG Try.prog S 54 #[(v_Insn y0)] (.bool ((y0.fImm == 0#32))) :=
  fn_conG hU (P := Try.prog) Try.func54 (fun xs w => by kernel_rfl) [(v_Insn y0)] (.bool ((y0.fImm == 0#32)))
    [.o, .o, .o, .a 0, .v .u8 (u8_and y0.fOp (8#8)), .tn (u_ne (y0.fOp &&& 8#8) (0#8)) h0, .o, .a 0, .t (i_eq y0.fImm (0#32)) rfl, .o]
    [] (fun b => by kernel_rfl)
theorem ok_insn_plainOperand (r : Bool) (e : m_insn_plainOperand y0 = r) : ConG Try.prog S 54 #[(v_Insn y0)] (.bool (r)) := by
  unfold m_insn_plainOperand at e
  replace e := cond_eq_or e
  rcases e with ⟨hq0, e⟩ | ⟨hq0, e⟩
  · subst e; exact p0_insn_plainOperand hU y0 hq0
  · subst e; exact p1_insn_plainOperand hU y0 hq0
noncomputable def m_insn_compares (y0 : Insn) : Bool :=
  bif (y0.fOp &&& 7#8) == 5#8 then
    (bif (y0.fOp >>> 4) == 1#8 then
      (true)
    else (bif (y0.fOp >>> 4) == 2#8 then
      (true)
    else (bif (y0.fOp >>> 4) == 3#8 then
      (true)
    else (bif (y0.fOp >>> 4) == 4#8 then
      (true)
    else (bif (y0.fOp >>> 4) == 5#8 then
      (true)
    else (bif (y0.fOp >>> 4) == 6#8 then
      (true)
    else (bif (y0.fOp >>> 4) == 7#8 then
      (true)
    else (bif (y0.fOp >>> 4) == 10#8 then
      (true)
    else (bif (y0.fOp >>> 4) == 11#8 then
      (true)
    else (bif (y0.fOp >>> 4) == 12#8 then
      (true)
    else (bif (y0.fOp >>> 4) == 13#8 then
      (true)
    else (false))))))))))))
  else (bif (y0.fOp &&& 7#8) == 6#8 then
    (bif (y0.fOp >>> 4) == 1#8 then
      (true)
    else (bif (y0.fOp >>> 4) == 2#8 then
      (true)
    else (bif (y0.fOp >>> 4) == 3#8 then
      (true)
    else (bif (y0.fOp >>> 4) == 4#8 then
      (true)
    else (bif (y0.fOp >>> 4) == 5#8 then
      (true)
    else (bif (y0.fOp >>> 4) == 6#8 then
      (true)
    else (bif (y0.fOp >>> 4) == 7#8 then
      (true)
    else (bif (y0.fOp >>> 4) == 10#8 then
      (true)
    else (bif (y0.fOp >>> 4) == 11#8 then
      (true)
    else (bif (y0.fOp >>> 4) == 12#8 then
      (true)
    else (bif (y0.fOp >>> 4) == 13#8 then
      (true)
    else (false))))))))))))
  else (false))
theorem p0_insn_compares (h0 : ((y0.fOp &&& 7#8) == 5#8) = true) (h1 : ((y0.fOp >>> 4) == 1#8) = true) : ConG Try.prog S 53 #[(v_Insn y0)] (.bool true) :=
  fn_conG hU (P := Try.prog) Try.func53 (fun xs w => by kernel_rfl) [(v_Insn y0)] (.bool true)
    [.o, .o, .o, .a 0, .v .u8 (u8_and y0.fOp (7#8)), .t (u_eq (y0.fOp &&& 7#8) (5#8)) h0, .o, .o, .a 0, .ov (u8_shr Try.prog 5 (.tmp 10) (.const (.int .u64 (4))) y0.fOp 4 .u64 rfl), .t (u_eq (y0.fOp >>> 4) (1#8)) h1, .o, .o]
    [] (fun b => by kernel_rfl)
end
section
variable {M : Nat → Prop} {B0 : Nat} {S : World → Prop} (hU : Up M B0 S) (y0 : Insn) (h0 : ((y0.fOp &&& 7#8) == 5#8) = true) (h1 : ((y0.fOp >>> 4) == 1#8) = false)
include hU y0 h0 h1
theorem p1_insn_compares (h2 : ((y0.fOp >>> 4) == 2#8) = true) : ConG Try.prog S 53 #[(v_Insn y0)] (.bool true) :=
  fn_conG hU (P := Try.prog) Try.func53 (fun xs w => by kernel_rfl) [(v_Insn y0)] (.bool true)
    [.o, .o, .o, .a 0, .v .u8 (u8_and y0.fOp (7#8)), .t (u_eq (y0.fOp &&& 7#8) (5#8)) h0, .o, .o, .a 0, .ov (u8_shr Try.prog 5 (.tmp 10) (.const (.int .u64 (4))) y0.fOp 4 .u64 rfl), .t (u_eq (y0.fOp >>> 4) (1#8)) h1, .o, .t (u_eq (y0.fOp >>> 4) (2#8)) h2, .o, .o]
    [] (fun b => by kernel_rfl)
theorem p2_insn_compares (h2 : ((y0.fOp >>> 4) == 2#8) = false) (h3 : ((y0.fOp >>> 4) == 3#8) = true) : ConG Try.prog S 53 #[(v_Insn y0)] (.bool true) :=
  fn_conG hU (P := Try.prog) Try.func53 (fun xs w => by kernel_rfl) [(v_Insn y0)] (.bool true)
    [.o, .o, .o, .a 0, .v .u8 (u8_and y0.fOp (7#8)), .t (u_eq (y0.fOp &&& 7#8) (5#8)) h0, .o, .o, .a 0, .ov (u8_shr Try.prog 5 (.tmp 10) (.const (.int .u64 (4))) y0.fOp 4 .u64 rfl), .t (u_eq (y0.fOp >>> 4) (1#8)) h1, .o, .t (u_eq (y0.fOp >>> 4) (2#8)) h2, .o, .t (u_eq (y0.fOp >>> 4) (3#8)) h3, .o, .o]
    [] (fun b => by kernel_rfl)
theorem p3_insn_compares (h2 : ((y0.fOp >>> 4) == 2#8) = false) (h3 : ((y0.fOp >>> 4) == 3#8) = false) (h4 : ((y0.fOp >>> 4) == 4#8) = true) : ConG Try.prog S 53 #[(v_Insn y0)] (.bool true) :=
  fn_conG hU (P := Try.prog) Try.func53 (fun xs w => by kernel_rfl) [(v_Insn y0)] (.bool true)
    [.o, .o, .o, .a 0, .v .u8 (u8_and y0.fOp (7#8)), .t (u_eq (y0.fOp &&& 7#8) (5#8)) h0, .o, .o, .a 0, .ov (u8_shr Try.prog 5 (.tmp 10) (.const (.int .u64 (4))) y0.fOp 4 .u64 rfl), .t (u_eq (y0.fOp >>> 4) (1#8)) h1, .o, .t (u_eq (y0.fOp >>> 4) (2#8)) h2, .o, .t (u_eq (y0.fOp >>> 4) (3#8)) h3, .o, .t (u_eq (y0.fOp >>> 4) (4#8)) h4, .o, .o]
    [] (fun b => by kernel_rfl)
theorem p4_insn_compares (h2 : ((y0.fOp >>> 4) == 2#8) = false) (h3 : ((y0.fOp >>> 4) == 3#8) = false) (h4 : ((y0.fOp >>> 4) == 4#8) = false) (h5 : ((y0.fOp >>> 4) == 5#8) = true) : ConG Try.prog S 53 #[(v_Insn y0)] (.bool true) :=
  fn_conG hU (P := Try.prog) Try.func53 (fun xs w => by kernel_rfl) [(v_Insn y0)] (.bool true)
    [.o, .o, .o, .a 0, .v .u8 (u8_and y0.fOp (7#8)), .t (u_eq (y0.fOp &&& 7#8) (5#8)) h0, .o, .o, .a 0, .ov (u8_shr Try.prog 5 (.tmp 10) (.const (.int .u64 (4))) y0.fOp 4 .u64 rfl), .t (u_eq (y0.fOp >>> 4) (1#8)) h1, .o, .t (u_eq (y0.fOp >>> 4) (2#8)) h2, .o, .t (u_eq (y0.fOp >>> 4) (3#8)) h3, .o, .t (u_eq (y0.fOp >>> 4) (4#8)) h4, .o, .t (u_eq (y0.fOp >>> 4) (5#8)) h5, .o, .o]
    [] (fun b => by kernel_rfl)
theorem p5_insn_compares (h2 : ((y0.fOp >>> 4) == 2#8) = false) (h3 : ((y0.fOp >>> 4) == 3#8) = false) (h4 : ((y0.fOp >>> 4) == 4#8) = false) (h5 : ((y0.fOp >>> 4) == 5#8) = false) (h6 : ((y0.fOp >>> 4) == 6#8) = true) : ConG Try.prog S 53 #[(v_Insn y0)] (.bool true) :=
  fn_conG hU (P := Try.prog) Try.func53 (fun xs w => by kernel_rfl) [(v_Insn y0)] (.bool true)
    [.o, .o, .o, .a 0, .v .u8 (u8_and y0.fOp (7#8)), .t (u_eq (y0.fOp &&& 7#8) (5#8)) h0, .o, .o, .a 0, .ov (u8_shr Try.prog 5 (.tmp 10) (.const (.int .u64 (4))) y0.fOp 4 .u64 rfl), .t (u_eq (y0.fOp >>> 4) (1#8)) h1, .o, .t (u_eq (y0.fOp >>> 4) (2#8)) h2, .o, .t (u_eq (y0.fOp >>> 4) (3#8)) h3, .o, .t (u_eq (y0.fOp >>> 4) (4#8)) h4, .o, .t (u_eq (y0.fOp >>> 4) (5#8)) h5, .o, .t (u_eq (y0.fOp >>> 4) (6#8)) h6, .o, .o]
    [] (fun b => by kernel_rfl)
theorem p6_insn_compares (h2 : ((y0.fOp >>> 4) == 2#8) = false) (h3 : ((y0.fOp >>> 4) == 3#8) = false) (h4 : ((y0.fOp >>> 4) == 4#8) = false) (h5 : ((y0.fOp >>> 4) == 5#8) = false) (h6 : ((y0.fOp >>> 4) == 6#8) = false) (h7 : ((y0.fOp >>> 4) == 7#8) = true) : ConG Try.prog S 53 #[(v_Insn y0)] (.bool true) :=
  fn_conG hU (P := Try.prog) Try.func53 (fun xs w => by kernel_rfl) [(v_Insn y0)] (.bool true)
    [.o, .o, .o, .a 0, .v .u8 (u8_and y0.fOp (7#8)), .t (u_eq (y0.fOp &&& 7#8) (5#8)) h0, .o, .o, .a 0, .ov (u8_shr Try.prog 5 (.tmp 10) (.const (.int .u64 (4))) y0.fOp 4 .u64 rfl), .t (u_eq (y0.fOp >>> 4) (1#8)) h1, .o, .t (u_eq (y0.fOp >>> 4) (2#8)) h2, .o, .t (u_eq (y0.fOp >>> 4) (3#8)) h3, .o, .t (u_eq (y0.fOp >>> 4) (4#8)) h4, .o, .t (u_eq (y0.fOp >>> 4) (5#8)) h5, .o, .t (u_eq (y0.fOp >>> 4) (6#8)) h6, .o, .t (u_eq (y0.fOp >>> 4) (7#8)) h7, .o, .o]
    [] (fun b => by kernel_rfl)
theorem p7_insn_compares (h2 : ((y0.fOp >>> 4) == 2#8) = false) (h3 : ((y0.fOp >>> 4) == 3#8) = false) (h4 : ((y0.fOp >>> 4) == 4#8) = false) (h5 : ((y0.fOp >>> 4) == 5#8) = false) (h6 : ((y0.fOp >>> 4) == 6#8) = false) (h7 : ((y0.fOp >>> 4) == 7#8) = false) (h8 : ((y0.fOp >>> 4) == 10#8) = true) : ConG Try.prog S 53 #[(v_Insn y0)] (.bool true) :=
  fn_conG hU (P := Try.prog) Try.func53 (fun xs w => by kernel_rfl) [(v_Insn y0)] (.bool true)
    [.o, .o, .o, .a 0, .v .u8 (u8_and y0.fOp (7#8)), .t (u_eq (y0.fOp &&& 7#8) (5#8)) h0, .o, .o, .a 0, .ov (u8_shr Try.prog 5 (.tmp 10) (.const (.int .u64 (4))) y0.fOp 4 .u64 rfl), .t (u_eq (y0.fOp >>> 4) (1#8)) h1, .o, .t (u_eq (y0.fOp >>> 4) (2#8)) h2, .o, .t (u_eq (y0.fOp >>> 4) (3#8)) h3, .o, .t (u_eq (y0.fOp >>> 4) (4#8)) h4, .o, .t (u_eq (y0.fOp >>> 4) (5#8)) h5, .o, .t (u_eq (y0.fOp >>> 4) (6#8)) h6, .o, .t (u_eq (y0.fOp >>> 4) (7#8)) h7, .o, .t (u_eq (y0.fOp >>> 4) (10#8)) h8, .o, .o]
    [] (fun b => by kernel_rfl)
theorem p8_insn_compares (h2 : ((y0.fOp >>> 4) == 2#8) = false) (h3 : ((y0.fOp >>> 4) == 3#8) = false) (h4 : ((y0.fOp >>> 4) == 4#8) = false) (h5 : ((y0.fOp >>> 4) == 5#8) = false) (h6 : ((y0.fOp >>> 4) == 6#8) = false) (h7 : ((y0.fOp >>> 4) == 7#8) = false) (h8 : ((y0.fOp >>> 4) == 10#8) = false) (h9 : ((y0.fOp >>> 4) == 11#8) = true) : ConG Try.prog S 53 #[(v_Insn y0)] (.bool true) :=
  fn_conG hU (P := Try.prog) Try.func53 (fun xs w => by kernel_rfl) [(v_Insn y0)] (.bool true)
    [.o, .o, .o, .a 0, .v .u8 (u8_and y0.fOp (7#8)), .t (u_eq (y0.fOp &&& 7#8) (5#8)) h0, .o, .o, .a 0, .ov (u8_shr Try.prog 5 (.tmp 10) (.const (.int .u64 (4))) y0.fOp 4 .u64 rfl), .t (u_eq (y0.fOp >>> 4) (1#8)) h1, .o, .t (u_eq (y0.fOp >>> 4) (2#8)) h2, .o, .t (u_eq (y0.fOp >>> 4) (3#8)) h3, .o, .t (u_eq (y0.fOp >>> 4) (4#8)) h4, .o, .t (u_eq (y0.fOp >>> 4) (5#8)) h5, .o, .t (u_eq (y0.fOp >>> 4) (6#8)) h6, .o, .t (u_eq (y0.fOp >>> 4) (7#8)) h7, .o, .t (u_eq (y0.fOp >>> 4) (10#8)) h8, .o, .t (u_eq (y0.fOp >>> 4) (11#8)) h9, .o, .o]
    [] (fun b => by kernel_rfl)
theorem p9_insn_compares (h2 : ((y0.fOp >>> 4) == 2#8) = false) (h3 : ((y0.fOp >>> 4) == 3#8) = false) (h4 : ((y0.fOp >>> 4) == 4#8) = false) (h5 : ((y0.fOp >>> 4) == 5#8) = false) (h6 : ((y0.fOp >>> 4) == 6#8) = false) (h7 : ((y0.fOp >>> 4) == 7#8) = false) (h8 : ((y0.fOp >>> 4) == 10#8) = false) (h9 : ((y0.fOp >>> 4) == 11#8) = false) (h10 : ((y0.fOp >>> 4) == 12#8) = true) : ConG Try.prog S 53 #[(v_Insn y0)] (.bool true) :=
  fn_conG hU (P := Try.prog) Try.func53 (fun xs w => by kernel_rfl) [(v_Insn y0)] (.bool true)
    [.o, .o, .o, .a 0, .v .u8 (u8_and y0.fOp (7#8)), .t (u_eq (y0.fOp &&& 7#8) (5#8)) h0, .o, .o, .a 0, .ov (u8_shr Try.prog 5 (.tmp 10) (.const (.int .u64 (4))) y0.fOp 4 .u64 rfl), .t (u_eq (y0.fOp >>> 4) (1#8)) h1, .o, .t (u_eq (y0.fOp >>> 4) (2#8)) h2, .o, .t (u_eq (y0.fOp >>> 4) (3#8)) h3, .o, .t (u_eq (y0.fOp >>> 4) (4#8)) h4, .o, .t (u_eq (y0.fOp >>> 4) (5#8)) h5, .o, .t (u_eq (y0.fOp >>> 4) (6#8)) h6, .o, .t (u_eq (y0.fOp >>> 4) (7#8)) h7, .o, .t (u_eq (y0.fOp >>> 4) (10#8)) h8, .o, .t (u_eq (y0.fOp >>> 4) (11#8)) h9, .o, .t (u_eq (y0.fOp >>> 4) (12#8)) h10, .o, .o]
    [] (fun b => by kernel_rfl)
theorem p10_insn_compares (h2 : ((y0.fOp >>> 4) == 2#8) = false) (h3 : ((y0.fOp >>> 4) == 3#8) = false) (h4 : ((y0.fOp >>> 4) == 4#8) = false) (h5 : ((y0.fOp >>> 4) == 5#8) = false) (h6 : ((y0.fOp >>> 4) == 6#8) = false) (h7 : ((y0.fOp >>> 4) == 7#8) = false) (h8 : ((y0.fOp >>> 4) == 10#8) = false) (h9 : ((y0.fOp >>> 4) == 11#8) = false) (h10 : ((y0.fOp >>> 4) == 12#8) = false) (h11 : ((y0.fOp >>> 4) == 13#8) = true) : ConG Try.prog S 53 #[(v_Insn y0)] (.bool true) :=
  fn_conG hU (P := Try.prog) Try.func53 (fun xs w => by kernel_rfl) [(v_Insn y0)] (.bool true)
    [.o, .o, .o, .a 0, .v .u8 (u8_and y0.fOp (7#8)), .t (u_eq (y0.fOp &&& 7#8) (5#8)) h0, .o, .o, .a 0, .ov (u8_shr Try.prog 5 (.tmp 10) (.const (.int .u64 (4))) y0.fOp 4 .u64 rfl), .t (u_eq (y0.fOp >>> 4) (1#8)) h1, .o, .t (u_eq (y0.fOp >>> 4) (2#8)) h2, .o, .t (u_eq (y0.fOp >>> 4) (3#8)) h3, .o, .t (u_eq (y0.fOp >>> 4) (4#8)) h4, .o, .t (u_eq (y0.fOp >>> 4) (5#8)) h5, .o, .t (u_eq (y0.fOp >>> 4) (6#8)) h6, .o, .t (u_eq (y0.fOp >>> 4) (7#8)) h7, .o, .t (u_eq (y0.fOp >>> 4) (10#8)) h8, .o, .t (u_eq (y0.fOp >>> 4) (11#8)) h9, .o, .t (u_eq (y0.fOp >>> 4) (12#8)) h10, .o, .t (u_eq (y0.fOp >>> 4) (13#8)) h11, .o, .o]
    [] (fun b => by kernel_rfl)
theorem p11_insn_compares (h2 : ((y0.fOp >>> 4) == 2#8) = false) (h3 : ((y0.fOp >>> 4) == 3#8) = false) (h4 : ((y0.fOp >>> 4) == 4#8) = false) (h5 : ((y0.fOp >>> 4) == 5#8) = false) (h6 : ((y0.fOp >>> 4) == 6#8) = false) (h7 : ((y0.fOp >>> 4) == 7#8) = false) (h8 : ((y0.fOp >>> 4) == 10#8) = false) (h9 : ((y0.fOp >>> 4) == 11#8) = false) (h10 : ((y0.fOp >>> 4) == 12#8) = false) (h11 : ((y0.fOp >>> 4) == 13#8) = false) : ConG Try.prog S 53 #[(v_Insn y0)] (.bool false) :=
  fn_conG hU (P := Try.prog) Try.func53 (fun xs w => by kernel_rfl) [(v_Insn y0)] (.bool false)
    [.o, .o, .o, .a 0, .v .u8 (u8_and y0.fOp (7#8)), .t (u_eq (y0.fOp &&& 7#8) (5#8)) h0, .o, .o, .a 0, .ov (u8_shr Try.prog 5 (.tmp 10) (.const (.int .u64 (4))) y0.fOp 4 .u64 rfl), .t (u_eq (y0.fOp >>> 4) (1#8)) h1, .o, .t (u_eq (y0.fOp >>> 4) (2#8)) h2, .o, .t (u_eq (y0.fOp >>> 4) (3#8)) h3, .o, .t (u_eq (y0.fOp >>> 4) (4#8)) h4, .o, .t (u_eq (y0.fOp >>> 4) (5#8)) h5, .o, .t (u_eq (y0.fOp >>> 4) (6#8)) h6, .o, .t (u_eq (y0.fOp >>> 4) (7#8)) h7, .o, .t (u_eq (y0.fOp >>> 4) (10#8)) h8, .o, .t (u_eq (y0.fOp >>> 4) (11#8)) h9, .o, .t (u_eq (y0.fOp >>> 4) (12#8)) h10, .o, .t (u_eq (y0.fOp >>> 4) (13#8)) h11, .o, .o]
    [] (fun b => by kernel_rfl)
end
section
variable {M : Nat → Prop} {B0 : Nat} {S : World → Prop} (hU : Up M B0 S) (y0 : Insn) (h0 : ((y0.fOp &&& 7#8) == 5#8) = false) (h1 : ((y0.fOp &&& 7#8) == 6#8) = true)
include hU y0 h0 h1
theorem p12_insn_compares (h2 : ((y0.fOp >>> 4) == 1#8) = true) : ConG Try.prog S 53 #[(v_Insn y0)] (.bool true) :=
  fn_conG hU (P := Try.prog) Try.func53 (fun xs w => by kernel_rfl) [(v_Insn y0)] (.bool true)
    [.o, .o, .o, .a 0, .v .u8 (u8_and y0.fOp (7#8)), .t (u_eq (y0.fOp &&& 7#8) (5#8)) h0, .o, .t (u_eq (y0.fOp &&& 7#8) (6#8)) h1, .o, .o, .a 0, .ov (u8_shr Try.prog 5 (.tmp 10) (.const (.int .u64 (4))) y0.fOp 4 .u64 rfl), .t (u_eq (y0.fOp >>> 4) (1#8)) h2, .o, .o]
    [] (fun b => by kernel_rfl)
theorem p13_insn_compares (h2 : ((y0.fOp >>> 4) == 1#8) = false) (h3 : ((y0.fOp >>> 4) == 2#8) = true) : ConG Try.prog S 53 #[(v_Insn y0)] (.bool true) :=
  fn_conG hU (P := Try.prog) Try.func53 (fun xs w => by kernel_rfl) [(v_Insn y0)] (.bool true)
    [.o, .o, .o, .a 0, .v .u8 (u8_and y0.fOp (7#8)), .t (u_eq (y0.fOp &&& 7#8) (5#8)) h0, .o, .t (u_eq (y0.fOp &&& 7#8) (6#8)) h1, .o, .o, .a 0, .ov (u8_shr Try.prog 5 (.tmp 10) (.const (.int .u64 (4))) y0.fOp 4 .u64 rfl), .t (u_eq (y0.fOp >>> 4) (1#8)) h2, .o, .t (u_eq (y0.fOp >>> 4) (2#8)) h3, .o, .o]
    [] (fun b => by kernel_rfl)
theorem p14_insn_compares (h2 : ((y0.fOp >>> 4) == 1#8) = false) (h3 : ((y0.fOp >>> 4) == 2#8) = false) (h4 : ((y0.fOp >>> 4) == 3#8) = true) : ConG Try.prog S 53 #[(v_Insn y0)] (.bool true) :=
  fn_conG hU (P := Try.prog) Try.func53 (fun xs w => by kernel_rfl) [(v_Insn y0)] (.bool true)
    [.o, .o, .o, .a 0, .v .u8 (u8_and y0.fOp (7#8)), .t (u_eq (y0.fOp &&& 7#8) (5#8)) h0, .o, .t (u_eq (y0.fOp &&& 7#8) (6#8)) h1, .o, .o, .a 0, .ov (u8_shr Try.prog 5 (.tmp 10) (.const (.int .u64 (4))) y0.fOp 4 .u64 rfl), .t (u_eq (y0.fOp >>> 4) (1#8)) h2, .o, .t (u_eq (y0.fOp >>> 4) (2#8)) h3, .o, .t (u_eq (y0.fOp >>> 4) (3#8)) h4, .o, .o]
    [] (fun b => by kernel_rfl)
theorem p15_insn_compares (h2 : ((y0.fOp >>> 4) == 1#8) = false) (h3 : ((y0.fOp >>> 4) == 2#8) = false) (h4 : ((y0.fOp >>> 4) == 3#8) = false) (h5 : ((y0.fOp >>> 4) == 4#8) = true) : ConG Try.prog S 53 #[(v_Insn y0)] (.bool true) :=
  fn_conG hU (P := Try.prog) Try.func53 (fun xs w => by kernel_rfl) [(v_Insn y0)] (.bool true)
    [.o, .o, .o, .a 0, .v .u8 (u8_and y0.fOp (7#8)), .t (u_eq (y0.fOp &&& 7#8) (5#8)) h0, .o, .t (u_eq (y0.fOp &&& 7#8) (6#8)) h1, .o, .o, .a 0, .ov (u8_shr Try.prog 5 (.tmp 10) (.const (.int .u64 (4))) y0.fOp 4 .u64 rfl), .t (u_eq (y0.fOp >>> 4) (1#8)) h2, .o, .t (u_eq (y0.fOp >>> 4) (2#8)) h3, .o, .t (u_eq (y0.fOp >>> 4) (3#8)) h4, .o, .t (u_eq (y0.fOp >>> 4) (4#8)) h5, .o, .o]
    [] (fun b => by kernel_rfl)
theorem p16_insn_compares (h2 : ((y0.fOp >>> 4) == 1#8) = false) (h3 : ((y0.fOp >>> 4) == 2#8) = false) (h4 : ((y0.fOp >>> 4) == 3#8) = false) (h5 : ((y0.fOp >>> 4) == 4#8) = false) (h6 : ((y0.fOp >>> 4) == 5#8) = true) : ConG Try.prog S 53 #[(v_Insn y0)] (.bool true) :=
  fn_conG hU (P := Try.prog) Try.func53 (fun xs w => by kernel_rfl) [(v_Insn y0)] (.bool true)
    [.o, .o, .o, .a 0, .v .u8 (u8_and y0.fOp (7#8)), .t (u_eq (y0.fOp &&& 7#8) (5#8)) h0, .o, .t (u_eq (y0.fOp &&& 7#8) (6#8)) h1, .o, .o, .a 0, .ov (u8_shr Try.prog 5 (.tmp 10) (.const (.int .u64 (4))) y0.fOp 4 .u64 rfl), .t (u_eq (y0.fOp >>> 4) (1#8)) h2, .o, .t (u_eq (y0.fOp >>> 4) (2#8)) h3, .o, .t (u_eq (y0.fOp >>> 4) (3#8)) h4, .o, .t (u_eq (y0.fOp >>> 4) (4#8)) h5, .o, .t (u_eq (y0.fOp >>> 4) (5#8)) h6, .o, .o]
    [] (fun b => by kernel_rfl)
theorem p17_insn_compares (h2 : ((y0.fOp >>> 4) == 1#8) = false) (h3 : ((y0.fOp >>> 4) == 2#8) = false) (h4 : ((y0.fOp >>> 4) == 3#8) = false) (h5 : ((y0.fOp >>> 4) == 4#8) = false) (h6 : ((y0.fOp >>> 4) == 5#8) = false) (h7 : ((y0.fOp >>> 4) == 6#8) = true) : ConG Try.prog S 53 #[(v_Insn y0)] (.bool true) :=
  fn_conG hU (P := Try.prog) Try.func53 (fun xs w => by kernel_rfl) [(v_Insn y0)] (.bool true)
    [.o, .o, .o, .a 0, .v .u8 (u8_and y0.fOp (7#8)), .t (u_eq (y0.fOp &&& 7#8) (5#8)) h0, .o, .t (u_eq (y0.fOp &&& 7#8) (6#8)) h1, .o, .o, .a 0, .ov (u8_shr Try.prog 5 (.tmp 10) (.const (.int .u64 (4))) y0.fOp 4 .u64 rfl), .t (u_eq (y0.fOp >>> 4) (1#8)) h2, .o, .t (u_eq (y0.fOp >>> 4) (2#8)) h3, .o, .t (u_eq (y0.fOp >>> 4) (3#8)) h4, .o, .t (u_eq (y0.fOp >>> 4) (4#8)) h5, .o, .t (u_eq (y0.fOp >>> 4) (5#8)) h6, .o, .t (u_eq (y0.fOp >>> 4) (6#8)) h7, .o, .o]
    [] (fun b => by kernel_rfl)
theorem p18_insn_compares (h2 : ((y0.fOp >>> 4) == 1#8) = false) (h3 : ((y0.fOp >>> 4) == 2#8) = false) (h4 : ((y0.fOp >>> 4) == 3#8) = false) (h5 : ((y0.fOp >>> 4) == 4#8) = false) (h6 : ((y0.fOp >>> 4) == 5#8) = false) (h7 : ((y0.fOp >>> 4) == 6#8) = false) (h8 : ((y0.fOp >>> 4) == 7#8) = true) : ConG Try.prog S 53 #[(v_Insn y0)] (.bool true) :=
  fn_conG hU (P := Try.prog) Try.func53 (fun xs w => by kernel_rfl) [(v_Insn y0)] (.bool true)
    [.o, .o, .o, .a 0, .v .u8 (u8_and y0.fOp (7#8)), .t (u_eq (y0.fOp &&& 7#8) (5#8)) h0, .o, .t (u_eq (y0.fOp &&& 7#8) (6#8)) h1, .o, .o, .a 0, .ov (u8_shr Try.prog 5 (.tmp 10) (.const (.int .u64 (4))) y0.fOp 4 .u64 rfl), .t (u_eq (y0.fOp >>> 4) (1#8)) h2, .o, .t (u_eq (y0.fOp >>> 4) (2#8)) h3, .o, .t (u_eq (y0.fOp >>> 4) (3#8)) h4, .o, .t (u_eq (y0.fOp >>> 4) (4#8)) h5, .o, .t (u_eq (y0.fOp >>> 4) (5#8)) h6, .o, .t (u_eq (y0.fOp >>> 4) (6#8)) h7, .o, .t (u_eq (y0.fOp >>> 4) (7#8)) h8, .o, .o]
    [] (fun b => by kernel_rfl)
theorem p19_insn_compares (h2 : ((y0.fOp >>> 4) == 1#8) = false) (h3 : ((y0.fOp >>> 4) == 2#8) = false) (h4 : ((y0.fOp >>> 4) == 3#8) = false) (h5 : ((y0.fOp >>> 4) == 4#8) = false) (h6 : ((y0.fOp >>> 4) == 5#8) = false) (h7 : ((y0.fOp >>> 4) == 6#8) = false) (h8 : ((y0.fOp >>> 4) == 7#8) = false) (h9 : ((y0.fOp >>> 4) == 10#8) = true) : ConG Try.prog S 53 #[(v_Insn y0)] (.bool true) :=
  fn_conG hU (P := Try.prog) Try.func53 (fun xs w => by kernel_rfl) [(v_Insn y0)] (.bool true)
    [.o, .o, .o, .a 0, .v .u8 (u8_and y0.fOp (7#8)), .t (u_eq (y0.fOp &&& 7#8) (5#8)) h0, .o, .t (u_eq (y0.fOp &&& 7#8) (6#8)) h1, .o, .o, .a 0, .ov (u8_shr Try.prog 5 (.tmp 10) (.const (.int .u64 (4))) y0.fOp 4 .u64 rfl), .t (u_eq (y0.fOp >>> 4) (1#8)) h2, .o, .t (u_eq (y0.fOp >>> 4) (2#8)) h3, .o, .t (u_eq (y0.fOp >>> 4) (3#8)) h4, .o, .t (u_eq (y0.fOp >>> 4) (4#8)) h5, .o, .t (u_eq (y0.fOp >>> 4) (5#8)) h6, .o, .t (u_eq (y0.fOp >>> 4) (6#8)) h7, .o, .t (u_eq (y0.fOp >>> 4) (7#8)) h8, .o, .t (u_eq (y0.fOp >>> 4) (10#8)) h9, .o, .o]
    [] (fun b => by kernel_rfl)
theorem p20_insn_compares (h2 : ((y0.fOp >>> 4) == 1#8) = false) (h3 : ((y0.fOp >>> 4) == 2#8) = false) (h4 : ((y0.fOp >>> 4) == 3#8) = false) (h5 : ((y0.fOp >>> 4) == 4#8) = false) (h6 : ((y0.fOp >>> 4) == 5#8) = false) (h7 : ((y0.fOp >>> 4) == 6#8) = false) (h8 : ((y0.fOp >>> 4) == 7#8) = false) (h9 : ((y0.fOp >>> 4) == 10#8) = false) (h10 : ((y0.fOp >>> 4) == 11#8) = true) : ConG Try.prog S 53 #[(v_Insn y0)] (.bool true) :=
  fn_conG hU (P := Try.prog) Try.func53 (fun xs w => by kernel_rfl) [(v_Insn y0)] (.bool true)
    [.o, .o, .o, .a 0, .v .u8 (u8_and y0.fOp (7#8)), .t (u_eq (y0.fOp &&& 7#8) (5#8)) h0, .o, .t (u_eq (y0.fOp &&& 7#8) (6#8)) h1, .o, .o, .a 0, .ov (u8_shr Try.prog 5 (.tmp 10) (.const (.int .u64 (4))) y0.fOp 4 .u64 rfl), .t (u_eq (y0.fOp >>> 4) (1#8)) h2, .o, .t (u_eq (y0.fOp >>> 4) (2#8)) h3, .o, .t (u_eq (y0.fOp >>> 4) (3#8)) h4, .o, .t (u_eq (y0.fOp >>> 4) (4#8)) h5, .o, .t (u_eq (y0.fOp >>> 4) (5#8)) h6, .o, .t (u_eq (y0.fOp >>> 4) (6#8)) h7, .o, .t (u_eq (y0.fOp >>> 4) (7#8)) h8, .o, .t (u_eq (y0.fOp >>> 4) (10#8)) h9, .o, .t (u_eq (y0.fOp >>> 4) (11#8)) h10, .o, .o]
    [] (fun b => by kernel_rfl)
theorem p21_insn_compares (h2 : ((y0.fOp >>> 4) == 1#8) = false) (h3 : ((y0.fOp >>> 4) == 2#8) = false) (h4 : ((y0.fOp >>> 4) == 3#8) = false) (h5 : ((y0.fOp >>> 4) == 4#8) = false) (h6 : ((y0.fOp >>> 4) == 5#8) = false) (h7 : ((y0.fOp >>> 4) == 6#8) = false) (h8 : ((y0.fOp >>> 4) == 7#8) = false) (h9 : ((y0.fOp >>> 4) == 10#8) = false) (h10 : ((y0.fOp >>> 4) == 11#8) = false) (h11 : ((y0.fOp >>> 4) == 12#8) = true) : ConG Try.prog S 53 #[(v_Insn y0)] (.bool true) :=
  fn_conG hU (P := Try.prog) Try.func53 (fun xs w => by kernel_rfl) [(v_Insn y0)] (.bool true)
    [.o, .o, .o, .a 0, .v .u8 (u8_and y0.fOp (7#8)), .t (u_eq (y0.fOp &&& 7#8) (5#8)) h0, .o, .t (u_eq (y0.fOp &&& 7#8) (6#8)) h1, .o, .o, .a 0, .ov (u8_shr Try.prog 5 (.tmp 10) (.const (.int .u64 (4))) y0.fOp 4 .u64 rfl), .t (u_eq (y0.fOp >>> 4) (1#8)) h2, .o, .t (u_eq (y0.fOp >>> 4) (2#8)) h3, .o, .t (u_eq (y0.fOp >>> 4) (3#8)) h4, .o, .t (u_eq (y0.fOp >>> 4) (4#8)) h5, .o, .t (u_eq (y0.fOp >>> 4) (5#8)) h6, .o, .t (u_eq (y0.fOp >>> 4) (6#8)) h7, .o, .t (u_eq (y0.fOp >>> 4) (7#8)) h8, .o, .t (u_eq (y0.fOp >>> 4) (10#8)) h9, .o, .t (u_eq (y0.fOp >>> 4) (11#8)) h10, .o, .t (u_eq (y0.fOp >>> 4) (12#8)) h11, .o, .o]
    [] (fun b => by kernel_rfl)
theorem p22_insn_compares (h2 : ((y0.fOp >>> 4) == 1#8) = false) (h3 : ((y0.fOp >>> 4) == 2#8) = false) (h4 : ((y0.fOp >>> 4) == 3#8) = false) (h5 : ((y0.fOp >>> 4) == 4#8) = false) (h6 : ((y0.fOp >>> 4) == 5#8) = false) (h7 : ((y0.fOp >>> 4) == 6#8) = false) (h8 : ((y0.fOp >>> 4) == 7#8) = false) (h9 : ((y0.fOp >>> 4) == 10#8) = false) (h10 : ((y0.fOp >>> 4) == 11#8) = false) (h11 : ((y0.fOp >>> 4) == 12#8) = false) (h12 : ((y0.fOp >>> 4) == 13#8) = true) : ConG Try.prog S 53 #[(v_Insn y0)] (.bool true) :=
  fn_conG hU (P := Try.prog) Try.func53 (fun xs w => by kernel_rfl) [(v_Insn y0)] (.bool true)
    [.o, .o, .o, .a 0, .v .u8 (u8_and y0.fOp (7#8)), .t (u_eq (y0.fOp &&& 7#8) (5#8)) h0, .o, .t (u_eq (y0.fOp &&& 7#8) (6#8)) h1, .o, .o, .a 0, .ov (u8_shr Try.prog 5 (.tmp 10) (.const (.int .u64 (4))) y0.fOp 4 .u64 rfl), .t (u_eq (y0.fOp >>> 4) (1#8)) h2, .o, .t (u_eq (y0.fOp >>> 4) (2#8)) h3, .o, .t (u_eq (y0.fOp >>> 4) (3#8)) h4, .o, .t (u_eq (y0.fOp >>> 4) (4#8)) h5, .o, .t (u_eq (y0.fOp >>> 4) (5#8)) h6, .o, .t (u_eq (y0.fOp >>> 4) (6#8)) h7, .o, .t (u_eq (y0.fOp >>> 4) (7#8)) h8, .o, .t (u_eq (y0.fOp >>> 4) (10#8)) h9, .o, .t (u_eq (y0.fOp >>> 4) (11#8)) h10, .o, .t (u_eq (y0.fOp >>> 4) (12#8)) h11, .o, .t (u_eq (y0.fOp >>> 4) (13#8)) h12, .o, .o]
    [] (fun b => by kernel_rfl)
theorem p23_insn_compares (h2 : ((y0.fOp >>> 4) == 1#8) = false) (h3 : ((y0.fOp >>> 4) == 2#8) = false) (h4 : ((y0.fOp >>> 4) == 3#8) = false) (h5 : ((y0.fOp >>> 4) == 4#8) = false) (h6 : ((y0.fOp >>> 4) == 5#8) = false) (h7 : ((y0.fOp >>> 4) == 6#8) = false) (h8 : ((y0.fOp >>> 4) == 7#8) = false) (h9 : ((y0.fOp >>> 4) == 10#8) = false) (h10 : ((y0.fOp >>> 4) == 11#8) = false) (h11 : ((y0.fOp >>> 4) == 12#8) = false) (h12 : ((y0.fOp >>> 4) == 13#8) = false) : ConG Try.prog S 53 #[(v_Insn y0)] (.bool false) :=
  fn_conG hU (P := Try.prog) Try.func53 (fun xs w => by kernel_rfl) [(v_Insn y0)] (.bool false)
    [.o, .o, .o, .a 0, .v .u8 (u8_and y0.fOp (7#8)), .t (u_eq (y0.fOp &&& 7#8) (5#8)) h0, .o, .t (u_eq (y0.fOp &&& 7#8) (6#8)) h1, .o, .o, .a 0, .ov (u8_shr Try.prog 5 (.tmp 10) (.const (.int .u64 (4))) y0.fOp 4 .u64 rfl), .t (u_eq (y0.fOp >>> 4) (1#8)) h2, .o, .t (u_eq (y0.fOp >>> 4) (2#8)) h3, .o, .t (u_eq (y0.fOp >>> 4) (3#8)) h4, .o, .t (u_eq (y0.fOp >>> 4) (4#8)) h5, .o, .t (u_eq (y0.fOp >>> 4) (5#8)) h6, .o, .t (u_eq (y0.fOp >>> 4) (6#8)) h7, .o, .t (u_eq (y0.fOp >>> 4) (7#8)) h8, .o, .t (u_eq (y0.fOp >>> 4) (10#8)) h9, .o, .t (u_eq (y0.fOp >>> 4) (11#8)) h10, .o, .t (u_eq (y0.fOp >>> 4) (12#8)) h11, .o, .t (u_eq (y0.fOp >>> 4) (13#8)) h12, .o, .o]
    [] (fun b => by kernel_rfl)
end
section
variable {M : Nat → Prop} {B0 : Nat} {S : World → Prop} (hU : Up M B0 S) (y0 : Insn)
include hU y0
theorem p24_insn_compares (h0 : ((y0.fOp &&& 7#8) == 5#8) = false) (h1 : ((y0.fOp &&& 7#8) == 6#8) = false) : ConG Try.prog S 53 #[(v_Insn y0)] (.bool false) :=
  fn_conG hU (P := Try.prog) Try.func53 (fun xs w => by kernel_rfl) [(v_Insn y0)] (.bool false)
    [.o, .o, .o, .a 0, .v .u8 (u8_and y0.fOp (7#8)), .t (u_eq (y0.fOp &&& 7#8) (5#8)) h0, .o, .t (u_eq (y0.fOp &&& 7#8) (6#8)) h1, .o, .o]
    [] (fun b => by kernel_rfl)
theorem ok_insn_compares (r : Bool) (e : m_insn_compares y0 = r) : ConG Try.prog S 53 #[(v_Insn y0)] (.bool (r)) := by
  unfold m_insn_compares at e
  replace e := cond_eq_or e
  rcases e with ⟨hq0, e⟩ | ⟨hq0, e⟩
  · replace e := cond_eq_or e
    rcases e with ⟨hq1, e⟩ | ⟨hq1, e⟩
    · subst e; exact p0_insn_compares hU y0 hq0 hq1
    · replace e := cond_eq_or e
      rcases e with ⟨hq2, e⟩ | ⟨hq2, e⟩
      · subst e; exact p1_insn_compares hU y0 hq0 hq1 hq2
      · replace e := cond_eq_or e
        rcases e with ⟨hq3, e⟩ | ⟨hq3, e⟩
        · subst e; exact p2_insn_compares hU y0 hq0 hq1 hq2 hq3
        · replace e := cond_eq_or e
          rcases e with ⟨hq4, e⟩ | ⟨hq4, e⟩
          · subst e; exact p3_insn_compares hU y0 hq0 hq1 hq2 hq3 hq4
          · replace e := cond_eq_or e
            rcases e with ⟨hq5, e⟩ | ⟨hq5, e⟩
            · subst e; exact p4_insn_compares hU y0 hq0 hq1 hq2 hq3 hq4 hq5
            · replace e := cond_eq_or e
              rcases e with ⟨hq6, e⟩ | ⟨hq6, e⟩
              · subst e; exact p5_insn_compares hU y0 hq0 hq1 hq2 hq3 hq4 hq5 hq6
              · replace e := cond_eq_or e
                rcases e with ⟨hq7, e⟩ | ⟨hq7, e⟩
                · subst e; exact p6_insn_compares hU y0 hq0 hq1 hq2 hq3 hq4 hq5 hq6 hq7
                · replace e := cond_eq_or e
                  rcases e with ⟨hq8, e⟩ | ⟨hq8, e⟩
                  · subst e; exact p7_insn_compares hU y0 hq0 hq1 hq2 hq3 hq4 hq5 hq6 hq7 hq8
                  · replace e := cond_eq_or e
                    rcases e with ⟨hq9, e⟩ | ⟨hq9, e⟩
                    · subst e; exact p8_insn_compares hU y0 hq0 hq1 hq2 hq3 hq4 hq5 hq6 hq7 hq8 hq9
                    · replace e := cond_eq_or e
                      rcases e with ⟨hq10, e⟩ | ⟨hq10, e⟩
                      · subst e; exact p9_insn_compares hU y0 hq0 hq1 hq2 hq3 hq4 hq5 hq6 hq7 hq8 hq9 hq10
                      · replace e := cond_eq_or e
                        rcases e with ⟨hq11, e⟩ | ⟨hq11, e⟩
                        · subst e; exact p10_insn_compares hU y0 hq0 hq1 hq2 hq3 hq4 hq5 hq6 hq7 hq8 hq9 hq10 hq11
                        · subst e; exact p11_insn_compares hU y0 hq0 hq1 hq2 hq3 hq4 hq5 hq6 hq7 hq8 hq9 hq10 hq11
  · replace e := cond_eq_or e
    rcases e with ⟨hq1, e⟩ | ⟨hq1, e⟩
    · replace e := cond_eq_or e
      rcases e with ⟨hq2, e⟩ | ⟨hq2, e⟩
      · subst e; exact p12_insn_compares hU y0 hq0 hq1 hq2
      · replace e := cond_eq_or e
        rcases e with ⟨hq3, e⟩ | ⟨hq3, e⟩
        · subst e; exact p13_insn_compares hU y0 hq0 hq1 hq2 hq3
        · replace e := cond_eq_or e
          rcases e with ⟨hq4, e⟩ | ⟨hq4, e⟩
          · subst e; exact p14_insn_compares hU y0 hq0 hq1 hq2 hq3 hq4
          · replace e := cond_eq_or e
            rcases e with ⟨hq5, e⟩ | ⟨hq5, e⟩
            · subst e; exact p15_insn_compares hU y0 hq0 hq1 hq2 hq3 hq4 hq5
            · replace e := cond_eq_or e
              rcases e with ⟨hq6, e⟩ | ⟨hq6, e⟩
              · subst e; exact p16_insn_compares hU y0 hq0 hq1 hq2 hq3 hq4 hq5 hq6
              · replace e := cond_eq_or e
                rcases e with ⟨hq7, e⟩ | ⟨hq7, e⟩
                · subst e; exact p17_insn_compares hU y0 hq0 hq1 hq2 hq3 hq4 hq5 hq6 hq7
                · replace e := cond_eq_or e
                  rcases e with ⟨hq8, e⟩ | ⟨hq8, e⟩
                  · subst e; exact p18_insn_compares hU y0 hq0 hq1 hq2 hq3 hq4 hq5 hq6 hq7 hq8
                  · replace e := cond_eq_or e
                    rcases e with ⟨hq9, e⟩ | ⟨hq9, e⟩
                    · subst e; exact p19_insn_compares hU y0 hq0 hq1 hq2 hq3 hq4 hq5 hq6 hq7 hq8 hq9
                    · replace e := cond_eq_or e
                      rcases e with ⟨hq10, e⟩ | ⟨hq10, e⟩
                      · subst e; exact p20_insn_compares hU y0 hq0 hq1 hq2 hq3 hq4 hq5 hq6 hq7 hq8 hq9 hq10
                      · replace e := cond_eq_or e
                        rcases e with ⟨hq11, e⟩ | ⟨hq11, e⟩
                        · subst e; exact p21_insn_compares hU y0 hq0 hq1 hq2 hq3 hq4 hq5 hq6 hq7 hq8 hq9 hq10 hq11
                        · replace e := cond_eq_or e
                          rcases e with ⟨hq12, e⟩ | ⟨hq12, e⟩
                          · subst e; exact p22_insn_compares hU y0 hq0 hq1 hq2 hq3 hq4 hq5 hq6 hq7 hq8 hq9 hq10 hq11 hq12
                          · subst e; exact p23_insn_compares hU y0 hq0 hq1 hq2 hq3 hq4 hq5 hq6 hq7 hq8 hq9 hq10 hq11 hq12
    · subst e; exact p24_insn_compares hU y0 hq0 hq1
noncomputable def m_insn_knownAlu (y0 : Insn) : Bool :=
  bif (y0.fOp &&& 8#8) == 0#8 then
    (bif (y0.fOp >>> 4) == 8#8 then
      (bif y0.fSrc == 0#8 then
        (bif y0.fOff == 0#16 then
          ((y0.fImm == 0#32))
        else (false))
      else (false))
    else (bif (y0.fOp >>> 4) == 13#8 then
      (bif y0.fSrc == 0#8 then
        (bif y0.fOff == 0#16 then
          (bif y0.fImm == 16#32 then
            (true)
          else (bif y0.fImm == 32#32 then
            (true)
          else ((y0.fImm == 64#32))))
        else (false))
      else (false))
    else (bif (y0.fOp >>> 4) == 0#8 then
      (bif y0.fOff == 0#16 then
        (bindT (m_insn_plainOperand y0) fun r0 =>
        r0)
      else (false))
    else (bif (y0.fOp >>> 4) == 1#8 then
      (bif y0.fOff == 0#16 then
        (bindT (m_insn_plainOperand y0) fun r0 =>
        r0)
      else (false))
    else (bif (y0.fOp >>> 4) == 2#8 then
      (bif y0.fOff == 0#16 then
        (bindT (m_insn_plainOperand y0) fun r0 =>
        r0)
      else (false))
    else (bif (y0.fOp >>> 4) == 3#8 then
      (bif y0.fOff == 0#16 then
        (bindT (m_insn_plainOperand y0) fun r0 =>
        r0)
      else (false))
    else (bif (y0.fOp >>> 4) == 4#8 then
      (bif y0.fOff == 0#16 then
        (bindT (m_insn_plainOperand y0) fun r0 =>
        r0)
      else (false))
    else (bif (y0.fOp >>> 4) == 5#8 then
      (bif y0.fOff == 0#16 then
        (bindT (m_insn_plainOperand y0) fun r0 =>
        r0)
      else (false))
    else (bif (y0.fOp >>> 4) == 6#8 then
      (bif y0.fOff == 0#16 then
        (bindT (m_insn_plainOperand y0) fun r0 =>
        r0)
      else (false))
    else (bif (y0.fOp >>> 4) == 7#8 then
      (bif y0.fOff == 0#16 then
        (bindT (m_insn_plainOperand y0) fun r0 =>
        r0)
      else (false))
    else (bif (y0.fOp >>> 4) == 9#8 then
      (bif y0.fOff == 0#16 then
        (bindT (m_insn_plainOperand y0) fun r0 =>
        r0)
      else (false))
    else (bif (y0.fOp >>> 4) == 10#8 then
      (bif y0.fOff == 0#16 then
        (bindT (m_insn_plainOperand y0) fun r0 =>
        r0)
      else (false))
    else (bif (y0.fOp >>> 4) == 11#8 then
      (bif y0.fOff == 0#16 then
        (bindT (m_insn_plainOperand y0) fun r0 =>
        r0)
      else (false))
    else (bif (y0.fOp >>> 4) == 12#8 then
      (bif y0.fOff == 0#16 then
        (bindT (m_insn_plainOperand y0) fun r0 =>
        r0)
      else (false))
    else (false)))))))))))))))
  else (bif (y0.fOp >>> 4) == 8#8 then
    (false)
  else (bif (y0.fOp >>> 4) == 13#8 then
    (bif (y0.fOp &&& 7#8) == 7#8 then
      (false)
    else (bif y0.fSrc == 0#8 then
      (bif y0.fOff == 0#16 then
        (bif y0.fImm == 16#32 then
          (true)
        else (bif y0.fImm == 32#32 then
          (true)
        else ((y0.fImm == 64#32))))
      else (false))
    else (false)))
  else (bif (y0.fOp >>> 4) == 0#8 then
    (bif y0.fOff == 0#16 then
      (bindT (m_insn_plainOperand y0) fun r0 =>
      r0)
    else (false))
  else (bif (y0.fOp >>> 4) == 1#8 then
    (bif y0.fOff == 0#16 then
      (bindT (m_insn_plainOperand y0) fun r0 =>
      r0)
    else (false))
  else (bif (y0.fOp >>> 4) == 2#8 then
    (bif y0.fOff == 0#16 then
      (bindT (m_insn_plainOperand y0) fun r0 =>
      r0)
    else (false))
  else (bif (y0.fOp >>> 4) == 3#8 then
    (bif y0.fOff == 0#16 then
      (bindT (m_insn_plainOperand y0) fun r0 =>
      r0)
    else (false))
  else (bif (y0.fOp >>> 4) == 4#8 then
    (bif y0.fOff == 0#16 then
      (bindT (m_insn_plainOperand y0) fun r0 =>
      r0)
    else (false))
  else (bif (y0.fOp >>> 4) == 5#8 then
    (bif y0.fOff == 0#16 then
      (bindT (m_insn_plainOperand y0) fun r0 =>
      r0)
    else (false))
  else (bif (y0.fOp >>> 4) == 6#8 then
    (bif y0.fOff == 0#16 then
      (bindT (m_insn_plainOperand y0) fun r0 =>
      r0)
    else (false))
  else (bif (y0.fOp >>> 4) == 7#8 then
    (bif y0.fOff == 0#16 then
      (bindT (m_insn_plainOperand y0) fun r0 =>
      r0)
    else (false))
  else (bif (y0.fOp >>> 4) == 9#8 then
    (bif y0.fOff == 0#16 then
      (bindT (m_insn_plainOperand y0) fun r0 =>
      r0)
    else (false))
  else (bif (y0.fOp >>> 4) == 10#8 then
    (bif y0.fOff == 0#16 then
      (bindT (m_insn_plainOperand y0) fun r0 =>
      r0)
    else (false))
  else (bif (y0.fOp >>> 4) == 11#8 then
    (bif y0.fOff == 0#16 then
      (bindT (m_insn_plainOperand y0) fun r0 =>
      r0)
    else (false))
  else (bif (y0.fOp >>> 4) == 12#8 then
    (bif y0.fOff == 0#16 then
      (bindT (m_insn_plainOperand y0) fun r0 =>
      r0)
    else (false))
  else (false)))))))))))))))
end
section
variable {M : Nat → Prop} {B0 : Nat} {S : World → Prop} (hU : Up M B0 S) (y0 : Insn) (h0 : ((y0.fOp &&& 8#8) == 0#8) = true) (h1 : ((y0.fOp >>> 4) == 8#8) = true) (h2 : (y0.fSrc == 0#8) = true)
include hU y0 h0 h1 h2
theorem p0_insn_knownAlu (h3 : (y0.fOff == 0#16) = true) : ConG Try.prog S 52 #[(v_Insn y0)] (.bool ((y0.fImm == 0#32))) :=
  fn_conG hU (P := Try.prog) Try.func52 (fun xs w => by kernel_rfl) [(v_Insn y0)] (.bool ((y0.fImm == 0#32)))
    [.o, .o, .o, .a 0, .v .u8 (u8_and y0.fOp (8#8)), .tn (u_ne (y0.fOp &&& 8#8) (0#8)) h0, .o, .o, .a 0, .ov (u8_shr Try.prog 5 (.tmp 9) (.const (.int .u64 (4))) y0.fOp 4 .u64 rfl), .t (u_eq (y0.fOp >>> 4) (8#8)) h1, .o, .o, .o, .o, .o, .a 0, .t (u_eq y0.fSrc (0#8)) h2, .o, .o, .o, .a 0, .t (i_eq y0.fOff (0#16)) h3, .o, .o, .o, .a 0, .t (i_eq y0.fImm (0#32)) rfl, .o, .o]
    [] (fun b => by kernel_rfl)
theorem p1_insn_knownAlu (h3 : (y0.fOff == 0#16) = false) : ConG Try.prog S 52 #[(v_Insn y0)] (.bool false) :=
  fn_conG hU (P := Try.prog) Try.func52 (fun xs w => by kernel_rfl) [(v_Insn y0)] (.bool false)
    [.o, .o, .o, .a 0, .v .u8 (u8_and y0.fOp (8#8)), .tn (u_ne (y0.fOp &&& 8#8) (0#8)) h0, .o, .o, .a 0, .ov (u8_shr Try.prog 5 (.tmp 9) (.const (.int .u64 (4))) y0.fOp 4 .u64 rfl), .t (u_eq (y0.fOp >>> 4) (8#8)) h1, .o, .o, .o, .o, .o, .a 0, .t (u_eq y0.fSrc (0#8)) h2, .o, .o, .o, .a 0, .t (i_eq y0.fOff (0#16)) h3, .o, .o, .o, .o]
    [] (fun b => by kernel_rfl)
end
section
variable {M : Nat → Prop} {B0 : Nat} {S : World → Prop} (hU : Up M B0 S) (y0 : Insn) (h0 : ((y0.fOp &&& 8#8) == 0#8) = true)
include hU y0 h0
theorem p2_insn_knownAlu (h1 : ((y0.fOp >>> 4) == 8#8) = true) (h2 : (y0.fSrc == 0#8) = false) : ConG Try.prog S 52 #[(v_Insn y0)] (.bool false) :=
  fn_conG hU (P := Try.prog) Try.func52 (fun xs w => by kernel_rfl) [(v_Insn y0)] (.bool false)
    [.o, .o, .o, .a 0, .v .u8 (u8_and y0.fOp (8#8)), .tn (u_ne (y0.fOp &&& 8#8) (0#8)) h0, .o, .o, .a 0, .ov (u8_shr Try.prog 5 (.tmp 9) (.const (.int .u64 (4))) y0.fOp 4 .u64 rfl), .t (u_eq (y0.fOp >>> 4) (8#8)) h1, .o, .o, .o, .o, .o, .a 0, .t (u_eq y0.fSrc (0#8)) h2, .o, .o, .o, .o, .o, .o]
    [] (fun b => by kernel_rfl)
theorem p3_insn_knownAlu (h1 : ((y0.fOp >>> 4) == 8#8) = false) (h2 : ((y0.fOp >>> 4) == 13#8) = true) (h3 : (y0.fSrc == 0#8) = true) (h4 : (y0.fOff == 0#16) = true) (h5 : (y0.fImm == 16#32) = true) : ConG Try.prog S 52 #[(v_Insn y0)] (.bool true) :=
  fn_conG hU (P := Try.prog) Try.func52 (fun xs w => by kernel_rfl) [(v_Insn y0)] (.bool true)
    [.o, .o, .o, .a 0, .v .u8 (u8_and y0.fOp (8#8)), .tn (u_ne (y0.fOp &&& 8#8) (0#8)) h0, .o, .o, .a 0, .ov (u8_shr Try.prog 5 (.tmp 9) (.const (.int .u64 (4))) y0.fOp 4 .u64 rfl), .t (u_eq (y0.fOp >>> 4) (8#8)) h1, .o, .t (u_eq (y0.fOp >>> 4) (13#8)) h2, .o, .o, .o, .o, .o, .a 0, .t (u_eq y0.fSrc (0#8)) h3, .o, .o, .a 0, .t (i_eq y0.fOff (0#16)) h4, .o, .o, .o, .a 0, .t (i_eq y0.fImm (16#32)) h5, .o, .o, .o, .o, .o, .o]
    [] (fun b => by kernel_rfl)
theorem p4_insn_knownAlu (h1 : ((y0.fOp >>> 4) == 8#8) = false) (h2 : ((y0.fOp >>> 4) == 13#8) = true) (h3 : (y0.fSrc == 0#8) = true) (h4 : (y0.fOff == 0#16) = true) (h5 : (y0.fImm == 16#32) = false) (h6 : (y0.fImm == 32#32) = true) : ConG Try.prog S 52 #[(v_Insn y0)] (.bool true) :=
  fn_conG hU (P := Try.prog) Try.func52 (fun xs w => by kernel_rfl) [(v_Insn y0)] (.bool true)
    [.o, .o, .o, .a 0, .v .u8 (u8_and y0.fOp (8#8)), .tn (u_ne (y0.fOp &&& 8#8) (0#8)) h0, .o, .o, .a 0, .ov (u8_shr Try.prog 5 (.tmp 9) (.const (.int .u64 (4))) y0.fOp 4 .u64 rfl), .t (u_eq (y0.fOp >>> 4) (8#8)) h1, .o, .t (u_eq (y0.fOp >>> 4) (13#8)) h2, .o, .o, .o, .o, .o, .a 0, .t (u_eq y0.fSrc (0#8)) h3, .o, .o, .a 0, .t (i_eq y0.fOff (0#16)) h4, .o, .o, .o, .a 0, .t (i_eq y0.fImm (16#32)) h5, .o, .o, .a 0, .t (i_eq y0.fImm (32#32)) h6, .o, .o, .o, .o, .o]
    [] (fun b => by kernel_rfl)
theorem p5_insn_knownAlu (h1 : ((y0.fOp >>> 4) == 8#8) = false) (h2 : ((y0.fOp >>> 4) == 13#8) = true) (h3 : (y0.fSrc == 0#8) = true) (h4 : (y0.fOff == 0#16) = true) (h5 : (y0.fImm == 16#32) = false) (h6 : (y0.fImm == 32#32) = false) : ConG Try.prog S 52 #[(v_Insn y0)] (.bool ((y0.fImm == 64#32))) :=
  fn_conG hU (P := Try.prog) Try.func52 (fun xs w => by kernel_rfl) [(v_Insn y0)] (.bool ((y0.fImm == 64#32)))
    [.o, .o, .o, .a 0, .v .u8 (u8_and y0.fOp (8#8)), .tn (u_ne (y0.fOp &&& 8#8) (0#8)) h0, .o, .o, .a 0, .ov (u8_shr Try.prog 5 (.tmp 9) (.const (.int .u64 (4))) y0.fOp 4 .u64 rfl), .t (u_eq (y0.fOp >>> 4) (8#8)) h1, .o, .t (u_eq (y0.fOp >>> 4) (13#8)) h2, .o, .o, .o, .o, .o, .a 0, .t (u_eq y0.fSrc (0#8)) h3, .o, .o, .a 0, .t (i_eq y0.fOff (0#16)) h4, .o, .o, .o, .a 0, .t (i_eq y0.fImm (16#32)) h5, .o, .o, .a 0, .t (i_eq y0.fImm (32#32)) h6, .o, .o, .o, .a 0, .t (i_eq y0.fImm (64#32)) rfl, .o, .o, .o]
    [] (fun b => by kernel_rfl)
theorem p6_insn_knownAlu (h1 : ((y0.fOp >>> 4) == 8#8) = false) (h2 : ((y0.fOp >>> 4) == 13#8) = true) (h3 : (y0.fSrc == 0#8) = true) (h4 : (y0.fOff == 0#16) = false) : ConG Try.prog S 52 #[(v_Insn y0)] (.bool false) :=
  fn_conG hU (P := Try.prog) Try.func52 (fun xs w => by kernel_rfl) [(v_Insn y0)] (.bool false)
    [.o, .o, .o, .a 0, .v .u8 (u8_and y0.fOp (8#8)), .tn (u_ne (y0.fOp &&& 8#8) (0#8)) h0, .o, .o, .a 0, .ov (u8_shr Try.prog 5 (.tmp 9) (.const (.int .u64 (4))) y0.fOp 4 .u64 rfl), .t (u_eq (y0.fOp >>> 4) (8#8)) h1, .o, .t (u_eq (y0.fOp >>> 4) (13#8)) h2, .o, .o, .o, .o, .o, .a 0, .t (u_eq y0.fSrc (0#8)) h3, .o, .o, .a 0, .t (i_eq y0.fOff (0#16)) h4, .o, .o, .o, .o]
    [] (fun b => by kernel_rfl)
theorem p7_insn_knownAlu (h1 : ((y0.fOp >>> 4) == 8#8) = false) (h2 : ((y0.fOp >>> 4) == 13#8) = true) (h3 : (y0.fSrc == 0#8) = false) : ConG Try.prog S 52 #[(v_Insn y0)] (.bool false) :=
  fn_conG hU (P := Try.prog) Try.func52 (fun xs w => by kernel_rfl) [(v_Insn y0)] (.bool false)
    [.o, .o, .o, .a 0, .v .u8 (u8_and y0.fOp (8#8)), .tn (u_ne (y0.fOp &&& 8#8) (0#8)) h0, .o, .o, .a 0, .ov (u8_shr Try.prog 5 (.tmp 9) (.const (.int .u64 (4))) y0.fOp 4 .u64 rfl), .t (u_eq (y0.fOp >>> 4) (8#8)) h1, .o, .t (u_eq (y0.fOp >>> 4) (13#8)) h2, .o, .o, .o, .o, .o, .a 0, .t (u_eq y0.fSrc (0#8)) h3, .o, .o, .o, .o, .o]
    [] (fun b => by kernel_rfl)
theorem p8_insn_knownAlu (h1 : ((y0.fOp >>> 4) == 8#8) = false) (h2 : ((y0.fOp >>> 4) == 13#8) = false) (h3 : ((y0.fOp >>> 4) == 0#8) = true) (h4 : (y0.fOff == 0#16) = true) (r0 : Bool) (e_r0 : m_insn_plainOperand y0 = r0) : ConG Try.prog S 52 #[(v_Insn y0)] (.bool (r0)) :=
  fn_conG hU (P := Try.prog) Try.func52 (fun xs w => by kernel_rfl) [(v_Insn y0)] (.bool (r0))
    [.o, .o, .o, .a 0, .v .u8 (u8_and y0.fOp (8#8)), .tn (u_ne (y0.fOp &&& 8#8) (0#8)) h0, .o, .o, .a 0, .ov (u8_shr Try.prog 5 (.tmp 9) (.const (.int .u64 (4))) y0.fOp 4 .u64 rfl), .t (u_eq (y0.fOp >>> 4) (8#8)) h1, .o, .t (u_eq (y0.fOp >>> 4) (13#8)) h2, .o, .t (u_eq (y0.fOp >>> 4) (0#8)) h3, .o, .o, .a 0, .t (i_eq y0.fOff (0#16)) h4, .o, .a 0, .cg (ok_insn_plainOperand hU y0 r0 e_r0), .o, .o]
    [] (fun b => by kernel_rfl)
theorem p9_insn_knownAlu (h1 : ((y0.fOp >>> 4) == 8#8) = false) (h2 : ((y0.fOp >>> 4) == 13#8) = false) (h3 : ((y0.fOp >>> 4) == 0#8) = true) (h4 : (y0.fOff == 0#16) = false) : ConG Try.prog S 52 #[(v_Insn y0)] (.bool false) :=
  fn_conG hU (P := Try.prog) Try.func52 (fun xs w => by kernel_rfl) [(v_Insn y0)] (.bool false)
    [.o, .o, .o, .a 0, .v .u8 (u8_and y0.fOp (8#8)), .tn (u_ne (y0.fOp &&& 8#8) (0#8)) h0, .o, .o, .a 0, .ov (u8_shr Try.prog 5 (.tmp 9) (.const (.int .u64 (4))) y0.fOp 4 .u64 rfl), .t (u_eq (y0.fOp >>> 4) (8#8)) h1, .o, .t (u_eq (y0.fOp >>> 4) (13#8)) h2, .o, .t (u_eq (y0.fOp >>> 4) (0#8)) h3, .o, .o, .a 0, .t (i_eq y0.fOff (0#16)) h4, .o, .o, .o]
    [] (fun b => by kernel_rfl)
theorem p10_insn_knownAlu (h1 : ((y0.fOp >>> 4) == 8#8) = false) (h2 : ((y0.fOp >>> 4) == 13#8) = false) (h3 : ((y0.fOp >>> 4) == 0#8) = false) (h4 : ((y0.fOp >>> 4) == 1#8) = true) (h5 : (y0.fOff == 0#16) = true) (r0 : Bool) (e_r0 : m_insn_plainOperand y0 = r0) : ConG Try.prog S 52 #[(v_Insn y0)] (.bool (r0)) :=
  fn_conG hU (P := Try.prog) Try.func52 (fun xs w => by kernel_rfl) [(v_Insn y0)] (.bool (r0))
    [.o, .o, .o, .a 0, .v .u8 (u8_and y0.fOp (8#8)), .tn (u_ne (y0.fOp &&& 8#8) (0#8)) h0, .o, .o, .a 0, .ov (u8_shr Try.prog 5 (.tmp 9) (.const (.int .u64 (4))) y0.fOp 4 .u64 rfl), .t (u_eq (y0.fOp >>> 4) (8#8)) h1, .o, .t (u_eq (y0.fOp >>> 4) (13#8)) h2, .o, .t (u_eq (y0.fOp >>> 4) (0#8)) h3, .o, .t (u_eq (y0.fOp >>> 4) (1#8)) h4, .o, .o, .a 0, .t (i_eq y0.fOff (0#16)) h5, .o, .a 0, .cg (ok_insn_plainOperand hU y0 r0 e_r0), .o, .o]
    [] (fun b => by kernel_rfl)
theorem p11_insn_knownAlu (h1 : ((y0.fOp >>> 4) == 8#8) = false) (h2 : ((y0.fOp >>> 4) == 13#8) = false) (h3 : ((y0.fOp >>> 4) == 0#8) = false) (h4 : ((y0.fOp >>> 4) == 1#8) = true) (h5 : (y0.fOff == 0#16) = false) : ConG Try.prog S 52 #[(v_Insn y0)] (.bool false) :=
  fn_conG hU (P := Try.prog) Try.func52 (fun xs w => by kernel_rfl) [(v_Insn y0)] (.bool false)
    [.o, .o, .o, .a 0, .v .u8 (u8_and y0.fOp (8#8)), .tn (u_ne (y0.fOp &&& 8#8) (0#8)) h0, .o, .o, .a 0, .ov (u8_shr Try.prog 5 (.tmp 9) (.const (.int .u64 (4))) y0.fOp 4 .u64 rfl), .t (u_eq (y0.fOp >>> 4) (8#8)) h1, .o, .t (u_eq (y0.fOp >>> 4) (13#8)) h2, .o, .t (u_eq (y0.fOp >>> 4) (0#8)) h3, .o, .t (u_eq (y0.fOp >>> 4) (1#8)) h4, .o, .o, .a 0, .t (i_eq y0.fOff (0#16)) h5, .o, .o, .o]
    [] (fun b => by kernel_rfl)
theorem p12_insn_knownAlu (h1 : ((y0.fOp >>> 4) == 8#8) = false) (h2 : ((y0.fOp >>> 4) == 13#8) = false) (h3 : ((y0.fOp >>> 4) == 0#8) = false) (h4 : ((y0.fOp >>> 4) == 1#8) = false) (h5 : ((y0.fOp >>> 4) == 2#8) = true) (h6 : (y0.fOff == 0#16) = true) (r0 : Bool) (e_r0 : m_insn_plainOperand y0 = r0) : ConG Try.prog S 52 #[(v_Insn y0)] (.bool (r0)) :=
  fn_conG hU (P := Try.prog) Try.func52 (fun xs w => by kernel_rfl) [(v_Insn y0)] (.bool (r0))
    [.o, .o, .o, .a 0, .v .u8 (u8_and y0.fOp (8#8)), .tn (u_ne (y0.fOp &&& 8#8) (0#8)) h0, .o, .o, .a 0, .ov (u8_shr Try.prog 5 (.tmp 9) (.const (.int .u64 (4))) y0.fOp 4 .u64 rfl), .t (u_eq (y0.fOp >>> 4) (8#8)) h1, .o, .t (u_eq (y0.fOp >>> 4) (13#8)) h2, .o, .t (u_eq (y0.fOp >>> 4) (0#8)) h3, .o, .t (u_eq (y0.fOp >>> 4) (1#8)) h4, .o, .t (u_eq (y0.fOp >>> 4) (2#8)) h5, .o, .o, .a 0, .t (i_eq y0.fOff (0#16)) h6, .o, .a 0, .cg (ok_insn_plainOperand hU y0 r0 e_r0), .o, .o]
    [] (fun b => by kernel_rfl)
theorem p13_insn_knownAlu (h1 : ((y0.fOp >>> 4) == 8#8) = false) (h2 : ((y0.fOp >>> 4) == 13#8) = false) (h3 : ((y0.fOp >>> 4) == 0#8) = false) (h4 : ((y0.fOp >>> 4) == 1#8) = false) (h5 : ((y0.fOp >>> 4) == 2#8) = true) (h6 : (y0.fOff == 0#16) = false) : ConG Try.prog S 52 #[(v_Insn y0)] (.bool false) :=
  fn_conG hU (P := Try.prog) Try.func52 (fun xs w => by kernel_rfl) [(v_Insn y0)] (.bool false)
    [.o, .o, .o, .a 0, .v .u8 (u8_and y0.fOp (8#8)), .tn (u_ne (y0.fOp &&& 8#8) (0#8)) h0, .o, .o, .a 0, .ov (u8_shr Try.prog 5 (.tmp 9) (.const (.int .u64 (4))) y0.fOp 4 .u64 rfl), .t (u_eq (y0.fOp >>> 4) (8#8)) h1, .o, .t (u_eq (y0.fOp >>> 4) (13#8)) h2, .o, .t (u_eq (y0.fOp >>> 4) (0#8)) h3, .o, .t (u_eq (y0.fOp >>> 4) (1#8)) h4, .o, .t (u_eq (y0.fOp >>> 4) (2#8)) h5, .o, .o, .a 0, .t (i_eq y0.fOff (0#16)) h6, .o, .o, .o]
    [] (fun b => by kernel_rfl)
theorem p14_insn_knownAlu (h1 : ((y0.fOp >>> 4) == 8#8) = false) (h2 : ((y0.fOp >>> 4) == 13#8) = false) (h3 : ((y0.fOp >>> 4) == 0#8) = false) (h4 : ((y0.fOp >>> 4) == 1#8) = false) (h5 : ((y0.fOp >>> 4) == 2#8) = false) (h6 : ((y0.fOp >>> 4) == 3#8) = true) (h7 : (y0.fOff == 0#16) = true) (r0 : Bool) (e_r0 : m_insn_plainOperand y0 = r0) : ConG Try.prog S 52 #[(v_Insn y0)] (.bool (r0)) :=
  fn_conG hU (P := Try.prog) Try.func52 (fun xs w => by kernel_rfl) [(v_Insn y0)] (.bool (r0))
    [.o, .o, .o, .a 0, .v .u8 (u8_and y0.fOp (8#8)), .tn (u_ne (y0.fOp &&& 8#8) (0#8)) h0, .o, .o, .a 0, .ov (u8_shr Try.prog 5 (.tmp 9) (.const (.int .u64 (4))) y0.fOp 4 .u64 rfl), .t (u_eq (y0.fOp >>> 4) (8#8)) h1, .o, .t (u_eq (y0.fOp >>> 4) (13#8)) h2, .o, .t (u_eq (y0.fOp >>> 4) (0#8)) h3, .o, .t (u_eq (y0.fOp >>> 4) (1#8)) h4, .o, .t (u_eq (y0.fOp >>> 4) (2#8)) h5, .o, .t (u_eq (y0.fOp >>> 4) (3#8)) h6, .o, .o, .a 0, .t (i_eq y0.fOff (0#16)) h7, .o, .a 0, .cg (ok_insn_plainOperand hU y0 r0 e_r0), .o, .o]
    [] (fun b => by kernel_rfl)
theorem p15_insn_knownAlu (h1 : ((y0.fOp >>> 4) == 8#8) = false) (h2 : ((y0.fOp >>> 4) == 13#8) = false) (h3 : ((y0.fOp >>> 4) == 0#8) = false) (h4 : ((y0.fOp >>> 4) == 1#8) = false) (h5 : ((y0.fOp >>> 4) == 2#8) = false) (h6 : ((y0.fOp >>> 4) == 3#8) = true) (h7 : (y0.fOff == 0#16) = false) : ConG Try.prog S 52 #[(v_Insn y0)] (.bool false) :=
  fn_conG hU (P := Try.prog) Try.func52 (fun xs w => by kernel_rfl) [(v_Insn y0)] (.bool false)
    [.o, .o, .o, .a 0, .v .u8 (u8_and y0.fOp (8#8)), .tn (u_ne (y0.fOp &&& 8#8) (0#8)) h0, .o, .o, .a 0, .ov (u8_shr Try.prog 5 (.tmp 9) (.const (.int .u64 (4))) y0.fOp 4 .u64 rfl), .t (u_eq (y0.fOp >>> 4) (8#8)) h1, .o, .t (u_eq (y0.fOp >>> 4) (13#8)) h2, .o, .t (u_eq (y0.fOp >>> 4) (0#8)) h3, .o, .t (u_eq (y0.fOp >>> 4) (1#8)) h4, .o, .t (u_eq (y0.fOp >>> 4) (2#8)) h5, .o, .t (u_eq (y0.fOp >>> 4) (3#8)) h6, .o, .o, .a 0, .t (i_eq y0.fOff (0#16)) h7, .o, .o, .o]
    [] (fun b => by kernel_rfl)
theorem p16_insn_knownAlu (h1 : ((y0.fOp >>> 4) == 8#8) = false) (h2 : ((y0.fOp >>> 4) == 13#8) = false) (h3 : ((y0.fOp >>> 4) == 0#8) = false) (h4 : ((y0.fOp >>> 4) == 1#8) = false) (h5 : ((y0.fOp >>> 4) == 2#8) = false) (h6 : ((y0.fOp >>> 4) == 3#8) = false) (h7 : ((y0.fOp >>> 4) == 4#8) = true) (h8 : (y0.fOff == 0#16) = true) (r0 : Bool) (e_r0 : m_insn_plainOperand y0 = r0) : ConG Try.prog S 52 #[(v_Insn y0)] (.bool (r0)) :=
  fn_conG hU (P := Try.prog) Try.func52 (fun xs w => by kernel_rfl) [(v_Insn y0)] (.bool (r0))
    [.o, .o, .o, .a 0, .v .u8 (u8_and y0.fOp (8#8)), .tn (u_ne (y0.fOp &&& 8#8) (0#8)) h0, .o, .o, .a 0, .ov (u8_shr Try.prog 5 (.tmp 9) (.const (.int .u64 (4))) y0.fOp 4 .u64 rfl), .t (u_eq (y0.fOp >>> 4) (8#8)) h1, .o, .t (u_eq (y0.fOp >>> 4) (13#8)) h2, .o, .t (u_eq (y0.fOp >>> 4) (0#8)) h3, .o, .t (u_eq (y0.fOp >>> 4) (1#8)) h4, .o, .t (u_eq (y0.fOp >>> 4) (2#8)) h5, .o, .t (u_eq (y0.fOp >>> 4) (3#8)) h6, .o, .t (u_eq (y0.fOp >>> 4) (4#8)) h7, .o, .o, .a 0, .t (i_eq y0.fOff (0#16)) h8, .o, .a 0, .cg (ok_insn_plainOperand hU y0 r0 e_r0), .o, .o]
    [] (fun b => by kernel_rfl)
theorem p17_insn_knownAlu (h1 : ((y0.fOp >>> 4) == 8#8) = false) (h2 : ((y0.fOp >>> 4) == 13#8) = false) (h3 : ((y0.fOp >>> 4) == 0#8) = false) (h4 : ((y0.fOp >>> 4) == 1#8) = false) (h5 : ((y0.fOp >>> 4) == 2#8) = false) (h6 : ((y0.fOp >>> 4) == 3#8) = false) (h7 : ((y0.fOp >>> 4) == 4#8) = true) (h8 : (y0.fOff == 0#16) = false) : ConG Try.prog S 52 #[(v_Insn y0)] (.bool false) :=
  fn_conG hU (P := Try.prog) Try.func52 (fun xs w => by kernel_rfl) [(v_Insn y0)] (.bool false)
    [.o, .o, .o, .a 0, .v .u8 (u8_and y0.fOp (8#8)), .tn (u_ne (y0.fOp &&& 8#8) (0#8)) h0, .o, .o, .a 0, .ov (u8_shr Try.prog 5 (.tmp 9) (.const (.int .u64 (4))) y0.fOp 4 .u64 rfl), .t (u_eq (y0.fOp >>> 4) (8#8)) h1, .o, .t (u_eq (y0.fOp >>> 4) (13#8)) h2, .o, .t (u_eq (y0.fOp >>> 4) (0#8)) h3, .o, .t (u_eq (y0.fOp >>> 4) (1#8)) h4, .o, .t (u_eq (y0.fOp >>> 4) (2#8)) h5, .o, .t (u_eq (y0.fOp >>> 4) (3#8)) h6, .o, .t (u_eq (y0.fOp >>> 4) (4#8)) h7, .o, .o, .a 0, .t (i_eq y0.fOff (0#16)) h8, .o, .o, .o]
    [] (fun b => by kernel_rfl)
theorem p18_insn_knownAlu (h1 : ((y0.fOp >>> 4) == 8#8) = false) (h2 : ((y0.fOp >>> 4) == 13#8) = false) (h3 : ((y0.fOp >>> 4) == 0#8) = false) (h4 : ((y0.fOp >>> 4) == 1#8) = false) (h5 : ((y0.fOp >>> 4) == 2#8) = false) (h6 : ((y0.fOp >>> 4) == 3#8) = false) (h7 : ((y0.fOp >>> 4) == 4#8) = false) (h8 : ((y0.fOp >>> 4) == 5#8) = true) (h9 : (y0.fOff == 0#16) = true) (r0 : Bool) (e_r0 : m_insn_plainOperand y0 = r0) : ConG Try.prog S 52 #[(v_Insn y0)] (.bool (r0)) :=
  fn_conG hU (P := Try.prog) Try.func52 (fun xs w => by kernel_rfl) [(v_Insn y0)] (.bool (r0))
    [.o, .o, .o, .a 0, .v .u8 (u8_and y0.fOp (8#8)), .tn (u_ne (y0.fOp &&& 8#8) (0#8)) h0, .o, .o, .a 0, .ov (u8_shr Try.prog 5 (.tmp 9) (.const (.int .u64 (4))) y0.fOp 4 .u64 rfl), .t (u_eq (y0.fOp >>> 4) (8#8)) h1, .o, .t (u_eq (y0.fOp >>> 4) (13#8)) h2, .o, .t (u_eq (y0.fOp >>> 4) (0#8)) h3, .o, .t (u_eq (y0.fOp >>> 4) (1#8)) h4, .o, .t (u_eq (y0.fOp >>> 4) (2#8)) h5, .o, .t (u_eq (y0.fOp >>> 4) (3#8)) h6, .o, .t (u_eq (y0.fOp >>> 4) (4#8)) h7, .o, .t (u_eq (y0.fOp >>> 4) (5#8)) h8, .o, .o, .a 0, .t (i_eq y0.fOff (0#16)) h9, .o, .a 0, .cg (ok_insn_plainOperand hU y0 r0 e_r0), .o, .o]
    [] (fun b => by kernel_rfl)
theorem p19_insn_knownAlu (h1 : ((y0.fOp >>> 4) == 8#8) = false) (h2 : ((y0.fOp >>> 4) == 13#8) = false) (h3 : ((y0.fOp >>> 4) == 0#8) = false) (h4 : ((y0.fOp >>> 4) == 1#8) = false) (h5 : ((y0.fOp >>> 4) == 2#8) = false) (h6 : ((y0.fOp >>> 4) == 3#8) = false) (h7 : ((y0.fOp >>> 4) == 4#8) = false) (h8 : ((y0.fOp >>> 4) == 5#8) = true) (h9 : (y0.fOff == 0#16) = false) : ConG Try.prog S 52 #[(v_Insn y0)] (.bool false) :=
  fn_conG hU (P := Try.prog) Try.func52 (fun xs w => by kernel_rfl) [(v_Insn y0)] (.bool false)
    [.o, .o, .o, .a 0, .v .u8 (u8_and y0.fOp (8#8)), .tn (u_ne (y0.fOp &&& 8#8) (0#8)) h0, .o, .o, .a 0, .ov (u8_shr Try.prog 5 (.tmp 9) (.const (.int .u64 (4))) y0.fOp 4 .u64 rfl), .t (u_eq (y0.fOp >>> 4) (8#8)) h1, .o, .t (u_eq (y0.fOp >>> 4) (13#8)) h2, .o, .t (u_eq (y0.fOp >>> 4) (0#8)) h3, .o, .t (u_eq (y0.fOp >>> 4) (1#8)) h4, .o, .t (u_eq (y0.fOp >>> 4) (2#8)) h5, .o, .t (u_eq (y0.fOp >>> 4) (3#8)) h6, .o, .t (u_eq (y0.fOp >>> 4) (4#8)) h7, .o, .t (u_eq (y0.fOp >>> 4) (5#8)) h8, .o, .o, .a 0, .t (i_eq y0.fOff (0#16)) h9, .o, .o, .o]
    [] (fun b => by kernel_rfl)
theorem p20_insn_knownAlu (h1 : ((y0.fOp >>> 4) == 8#8) = false) (h2 : ((y0.fOp >>> 4) == 13#8) = false) (h3 : ((y0.fOp >>> 4) == 0#8) = false) (h4 : ((y0.fOp >>> 4) == 1#8) = false) (h5 : ((y0.fOp >>> 4) == 2#8) = false) (h6 : ((y0.fOp >>> 4) == 3#8) = false) (h7 : ((y0.fOp >>> 4) == 4#8) = false) (h8 : ((y0.fOp >>> 4) == 5#8) = false) (h9 : ((y0.fOp >>> 4) == 6#8) = true) (h10 : (y0.fOff == 0#16) = true) (r0 : Bool) (e_r0 : m_insn_plainOperand y0 = r0) : ConG Try.prog S 52 #[(v_Insn y0)] (.bool (r0)) :=
  fn_conG hU (P := Try.prog) Try.func52 (fun xs w => by kernel_rfl) [(v_Insn y0)] (.bool (r0))
    [.o, .o, .o, .a 0, .v .u8 (u8_and y0.fOp (8#8)), .tn (u_ne (y0.fOp &&& 8#8) (0#8)) h0, .o, .o, .a 0, .ov (u8_shr Try.prog 5 (.tmp 9) (.const (.int .u64 (4))) y0.fOp 4 .u64 rfl), .t (u_eq (y0.fOp >>> 4) (8#8)) h1, .o, .t (u_eq (y0.fOp >>> 4) (13#8)) h2, .o, .t (u_eq (y0.fOp >>> 4) (0#8)) h3, .o, .t (u_eq (y0.fOp >>> 4) (1#8)) h4, .o, .t (u_eq (y0.fOp >>> 4) (2#8)) h5, .o, .t (u_eq (y0.fOp >>> 4) (3#8)) h6, .o, .t (u_eq (y0.fOp >>> 4) (4#8)) h7, .o, .t (u_eq (y0.fOp >>> 4) (5#8)) h8, .o, .t (u_eq (y0.fOp >>> 4) (6#8)) h9, .o, .o, .a 0, .t (i_eq y0.fOff (0#16)) h10, .o, .a 0, .cg (ok_insn_plainOperand hU y0 r0 e_r0), .o, .o]
    [] (fun b => by kernel_rfl)
theorem p21_insn_knownAlu (h1 : ((y0.fOp >>> 4) == 8#8) = false) (h2 : ((y0.fOp >>> 4) == 13#8) = false) (h3 : ((y0.fOp >>> 4) == 0#8) = false) (h4 : ((y0.fOp >>> 4) == 1#8) = false) (h5 : ((y0.fOp >>> 4) == 2#8) = false) (h6 : ((y0.fOp >>> 4) == 3#8) = false) (h7 : ((y0.fOp >>> 4) == 4#8) = false) (h8 : ((y0.fOp >>> 4) == 5#8) = false) (h9 : ((y0.fOp >>> 4) == 6#8) = true) (h10 : (y0.fOff == 0#16) = false) : ConG Try.prog S 52 #[(v_Insn y0)] (.bool false) :=
  fn_conG hU (P := Try.prog) Try.func52 (fun xs w => by kernel_rfl) [(v_Insn y0)] (.bool false)
    [.o, .o, .o, .a 0, .v .u8 (u8_and y0.fOp (8#8)), .tn (u_ne (y0.fOp &&& 8#8) (0#8)) h0, .o, .o, .a 0, .ov (u8_shr Try.prog 5 (.tmp 9) (.const (.int .u64 (4))) y0.fOp 4 .u64 rfl), .t (u_eq (y0.fOp >>> 4) (8#8)) h1, .o, .t (u_eq (y0.fOp >>> 4) (13#8)) h2, .o, .t (u_eq (y0.fOp >>> 4) (0#8)) h3, .o, .t (u_eq (y0.fOp >>> 4) (1#8)) h4, .o, .t (u_eq (y0.fOp >>> 4) (2#8)) h5, .o, .t (u_eq (y0.fOp >>> 4) (3#8)) h6, .o, .t (u_eq (y0.fOp >>> 4) (4#8)) h7, .o, .t (u_eq (y0.fOp >>> 4) (5#8)) h8, .o, .t (u_eq (y0.fOp >>> 4) (6#8)) h9, .o, .o, .a 0, .t (i_eq y0.fOff (0#16)) h10, .o, .o, .o]
    [] (fun b => by kernel_rfl)
theorem p22_insn_knownAlu (h1 : ((y0.fOp >>> 4) == 8#8) = false) (h2 : ((y0.fOp >>> 4) == 13#8) = false) (h3 : ((y0.fOp >>> 4) == 0#8) = false) (h4 : ((y0.fOp >>> 4) == 1#8) = false) (h5 : ((y0.fOp >>> 4) == 2#8) = false) (h6 : ((y0.fOp >>> 4) == 3#8) = false) (h7 : ((y0.fOp >>> 4) == 4#8) = false) (h8 : ((y0.fOp >>> 4) == 5#8) = false) (h9 : ((y0.fOp >>> 4) == 6#8) = false) (h10 : ((y0.fOp >>> 4) == 7#8) = true) (h11 : (y0.fOff == 0#16) = true) (r0 : Bool) (e_r0 : m_insn_plainOperand y0 = r0) : ConG Try.prog S 52 #[(v_Insn y0)] (.bool (r0)) :=
  fn_conG hU (P := Try.prog) Try.func52 (fun xs w => by kernel_rfl) [(v_Insn y0)] (.bool (r0))
    [.o, .o, .o, .a 0, .v .u8 (u8_and y0.fOp (8#8)), .tn (u_ne (y0.fOp &&& 8#8) (0#8)) h0, .o, .o, .a 0, .ov (u8_shr Try.prog 5 (.tmp 9) (.const (.int .u64 (4))) y0.fOp 4 .u64 rfl), .t (u_eq (y0.fOp >>> 4) (8#8)) h1, .o, .t (u_eq (y0.fOp >>> 4) (13#8)) h2, .o, .t (u_eq (y0.fOp >>> 4) (0#8)) h3, .o, .t (u_eq (y0.fOp >>> 4) (1#8)) h4, .o, .t (u_eq (y0.fOp >>> 4) (2#8)) h5, .o, .t (u_eq (y0.fOp >>> 4) (3#8)) h6, .o, .t (u_eq (y0.fOp >>> 4) (4#8)) h7, .o, .t (u_eq (y0.fOp >>> 4) (5#8)) h8, .o, .t (u_eq (y0.fOp >>> 4) (6#8)) h9, .o, .t (u_eq (y0.fOp >>> 4) (7#8)) h10, .o, .o, .a 0, .t (i_eq y0.fOff (0#16)) h11, .o, .a 0, .cg (ok_insn_plainOperand hU y0 r0 e_r0), .o, .o]
    [] (fun b => by kernel_rfl)
theorem p23_insn_knownAlu (h1 : ((y0.fOp >>> 4) == 8#8) = false) (h2 : ((y0.fOp >>> 4) == 13#8) = false) (h3 : ((y0.fOp >>> 4) == 0#8) = false) (h4 : ((y0.fOp >>> 4) == 1#8) = false) (h5 : ((y0.fOp >>> 4) == 2#8) = false) (h6 : ((y0.fOp >>> 4) == 3#8) = false) (h7 : ((y0.fOp >>> 4) == 4#8) = false) (h8 : ((y0.fOp >>> 4) == 5#8) = false) (h9 : ((y0.fOp >>> 4) == 6#8) = false) (h10 : ((y0.fOp >>> 4) == 7#8) = true) (h11 : (y0.fOff == 0#16) = false) : ConG Try.prog S 52 #[(v_Insn y0)] (.bool false) :=
  fn_conG hU (P := Try.prog) Try.func52 (fun xs w => by kernel_rfl) [(v_Insn y0)] (.bool false)
    [.o, .o, .o, .a 0, .v .u8 (u8_and y0.fOp (8#8)), .tn (u_ne (y0.fOp &&& 8#8) (0#8)) h0, .o, .o, .a 0, .ov (u8_shr Try.prog 5 (.tmp 9) (.const (.int .u64 (4))) y0.fOp 4 .u64 rfl), .t (u_eq (y0.fOp >>> 4) (8#8)) h1, .o, .t (u_eq (y0.fOp >>> 4) (13#8)) h2, .o, .t (u_eq (y0.fOp >>> 4) (0#8)) h3, .o, .t (u_eq (y0.fOp >>> 4) (1#8)) h4, .o, .t (u_eq (y0.fOp >>> 4) (2#8)) h5, .o, .t (u_eq (y0.fOp >>> 4) (3#8)) h6, .o, .t (u_eq (y0.fOp >>> 4) (4#8)) h7, .o, .t (u_eq (y0.fOp >>> 4) (5#8)) h8, .o, .t (u_eq (y0.fOp >>> 4) (6#8)) h9, .o, .t (u_eq (y0.fOp >>> 4) (7#8)) h10, .o, .o, .a 0, .t (i_eq y0.fOff (0#16)) h11, .o, .o, .o]
    [] (fun b => by kernel_rfl)
theorem p24_insn_knownAlu (h1 : ((y0.fOp >>> 4) == 8#8) = false) (h2 : ((y0.fOp >>> 4) == 13#8) = false) (h3 : ((y0.fOp >>> 4) == 0#8) = false) (h4 : ((y0.fOp >>> 4) == 1#8) = false) (h5 : ((y0.fOp >>> 4) == 2#8) = false) (h6 : ((y0.fOp >>> 4) == 3#8) = false) (h7 : ((y0.fOp >>> 4) == 4#8) = false) (h8 : ((y0.fOp >>> 4) == 5#8) = false) (h9 : ((y0.fOp >>> 4) == 6#8) = false) (h10 : ((y0.fOp >>> 4) == 7#8) = false) (h11 : ((y0.fOp >>> 4) == 9#8) = true) (h12 : (y0.fOff == 0#16) = true) (r0 : Bool) (e_r0 : m_insn_plainOperand y0 = r0) : ConG Try.prog S 52 #[(v_Insn y0)] (.bool (r0)) :=
  fn_conG hU (P := Try.prog) Try.func52 (fun xs w => by kernel_rfl) [(v_Insn y0)] (.bool (r0))
    [.o, .o, .o, .a 0, .v .u8 (u8_and y0.fOp (8#8)), .tn (u_ne (y0.fOp &&& 8#8) (0#8)) h0, .o, .o, .a 0, .ov (u8_shr Try.prog 5 (.tmp 9) (.const (.int .u64 (4))) y0.fOp 4 .u64 rfl), .t (u_eq (y0.fOp >>> 4) (8#8)) h1, .o, .t (u_eq (y0.fOp >>> 4) (13#8)) h2, .o, .t (u_eq (y0.fOp >>> 4) (0#8)) h3, .o, .t (u_eq (y0.fOp >>> 4) (1#8)) h4, .o, .t (u_eq (y0.fOp >>> 4) (2#8)) h5, .o, .t (u_eq (y0.fOp >>> 4) (3#8)) h6, .o, .t (u_eq (y0.fOp >>> 4) (4#8)) h7, .o, .t (u_eq (y0.fOp >>> 4) (5#8)) h8, .o, .t (u_eq (y0.fOp >>> 4) (6#8)) h9, .o, .t (u_eq (y0.fOp >>> 4) (7#8)) h10, .o, .t (u_eq (y0.fOp >>> 4) (9#8)) h11, .o, .o, .a 0, .t (i_eq y0.fOff (0#16)) h12, .o, .a 0, .cg (ok_insn_plainOperand hU y0 r0 e_r0), .o, .o]
    [] (fun b => by kernel_rfl)
theorem p25_insn_knownAlu (h1 : ((y0.fOp >>> 4) == 8#8) = false) (h2 : ((y0.fOp >>> 4) == 13#8) = false) (h3 : ((y0.fOp >>> 4) == 0#8) = false) (h4 : ((y0.fOp >>> 4) == 1#8) = false) (h5 : ((y0.fOp >>> 4) == 2#8) = false) (h6 : ((y0.fOp >>> 4) == 3#8) = false) (h7 : ((y0.fOp >>> 4) == 4#8) = false) (h8 : ((y0.fOp >>> 4) == 5#8) = false) (h9 : ((y0.fOp >>> 4) == 6#8) = false) (h10 : ((y0.fOp >>> 4) == 7#8) = false) (h11 : ((y0.fOp >>> 4) == 9#8) = true) (h12 : (y0.fOff == 0#16) = false) : ConG Try.prog S 52 #[(v_Insn y0)] (.bool false) :=
  fn_conG hU (P := Try.prog) Try.func52 (fun xs w => by kernel_rfl) [(v_Insn y0)] (.bool false)
    [.o, .o, .o, .a 0, .v .u8 (u8_and y0.fOp (8#8)), .tn (u_ne (y0.fOp &&& 8#8) (0#8)) h0, .o, .o, .a 0, .ov (u8_shr Try.prog 5 (.tmp 9) (.const (.int .u64 (4))) y0.fOp 4 .u64 rfl), .t (u_eq (y0.fOp >>> 4) (8#8)) h1, .o, .t (u_eq (y0.fOp >>> 4) (13#8)) h2, .o, .t (u_eq (y0.fOp >>> 4) (0#8)) h3, .o, .t (u_eq (y0.fOp >>> 4) (1#8)) h4, .o, .t (u_eq (y0.fOp >>> 4) (2#8)) h5, .o, .t (u_eq (y0.fOp >>> 4) (3#8)) h6, .o, .t (u_eq (y0.fOp >>> 4) (4#8)) h7, .o, .t (u_eq (y0.fOp >>> 4) (5#8)) h8, .o, .t (u_eq (y0.fOp >>> 4) (6#8)) h9, .o, .t (u_eq (y0.fOp >>> 4) (7#8)) h10, .o, .t (u_eq (y0.fOp >>> 4) (9#8)) h11, .o, .o, .a 0, .t (i_eq y0.fOff (0#16)) h12, .o, .o, .o]
    [] (fun b => by kernel_rfl)
theorem p26_insn_knownAlu (h1 : ((y0.fOp >>> 4) == 8#8) = false) (h2 : ((y0.fOp >>> 4) == 13#8) = false) (h3 : ((y0.fOp >>> 4) == 0#8) = false) (h4 : ((y0.fOp >>> 4) == 1#8) = false) (h5 : ((y0.fOp >>> 4) == 2#8) = false) (h6 : ((y0.fOp >>> 4) == 3#8) = false) (h7 : ((y0.fOp >>> 4) == 4#8) = false) (h8 : ((y0.fOp >>> 4) == 5#8) = false) (h9 : ((y0.fOp >>> 4) == 6#8) = false) (h10 : ((y0.fOp >>> 4) == 7#8) = false) (h11 : ((y0.fOp >>> 4) == 9#8) = false) (h12 : ((y0.fOp >>> 4) == 10#8) = true) (h13 : (y0.fOff == 0#16) = true) (r0 : Bool) (e_r0 : m_insn_plainOperand y0 = r0) : ConG Try.prog S 52 #[(v_Insn y0)] (.bool (r0)) :=
  fn_conG hU (P := Try.prog) Try.func52 (fun xs w => by kernel_rfl) [(v_Insn y0)] (.bool (r0))
    [.o, .o, .o, .a 0, .v .u8 (u8_and y0.fOp (8#8)), .tn (u_ne (y0.fOp &&& 8#8) (0#8)) h0, .o, .o, .a 0, .ov (u8_shr Try.prog 5 (.tmp 9) (.const (.int .u64 (4))) y0.fOp 4 .u64 rfl), .t (u_eq (y0.fOp >>> 4) (8#8)) h1, .o, .t (u_eq (y0.fOp >>> 4) (13#8)) h2, .o, .t (u_eq (y0.fOp >>> 4) (0#8)) h3, .o, .t (u_eq (y0.fOp >>> 4) (1#8)) h4, .o, .t (u_eq (y0.fOp >>> 4) (2#8)) h5, .o, .t (u_eq (y0.fOp >>> 4) (3#8)) h6, .o, .t (u_eq (y0.fOp >>> 4) (4#8)) h7, .o, .t (u_eq (y0.fOp >>> 4) (5#8)) h8, .o, .t (u_eq (y0.fOp >>> 4) (6#8)) h9, .o, .t (u_eq (y0.fOp >>> 4) (7#8)) h10, .o, .t (u_eq (y0.fOp >>> 4) (9#8)) h11, .o, .t (u_eq (y0.fOp >>> 4) (10#8)) h12, .o, .o, .a 0, .t (i_eq y0.fOff (0#16)) h13, .o, .a 0, .cg (ok_insn_plainOperand hU y0 r0 e_r0), .o, .o]
    [] (fun b => by kernel_rfl)
theorem p27_insn_knownAlu (h1 : ((y0.fOp >>> 4) == 8#8) = false) (h2 : ((y0.fOp >>> 4) == 13#8) = false) (h3 : ((y0.fOp >>> 4) == 0#8) = false) (h4 : ((y0.fOp >>> 4) == 1#8) = false) (h5 : ((y0.fOp >>> 4) == 2#8) = false) (h6 : ((y0.fOp >>> 4) == 3#8) = false) (h7 : ((y0.fOp >>> 4) == 4#8) = false) (h8 : ((y0.fOp >>> 4) == 5#8) = false) (h9 : ((y0.fOp >>> 4) == 6#8) = false) (h10 : ((y0.fOp >>> 4) == 7#8) = false) (h11 : ((y0.fOp >>> 4) == 9#8) = false) (h12 : ((y0.fOp >>> 4) == 10#8) = true) (h13 : (y0.fOff == 0#16) = false) : ConG Try.prog S 52 #[(v_Insn y0)] (.bool false) :=
  fn_conG hU (P := Try.prog) Try.func52 (fun xs w => by kernel_rfl) [(v_Insn y0)] (.bool false)
    [.o, .o, .o, .a 0, .v .u8 (u8_and y0.fOp (8#8)), .tn (u_ne (y0.fOp &&& 8#8) (0#8)) h0, .o, .o, .a 0, .ov (u8_shr Try.prog 5 (.tmp 9) (.const (.int .u64 (4))) y0.fOp 4 .u64 rfl), .t (u_eq (y0.fOp >>> 4) (8#8)) h1, .o, .t (u_eq (y0.fOp >>> 4) (13#8)) h2, .o, .t (u_eq (y0.fOp >>> 4) (0#8)) h3, .o, .t (u_eq (y0.fOp >>> 4) (1#8)) h4, .o, .t (u_eq (y0.fOp >>> 4) (2#8)) h5, .o, .t (u_eq (y0.fOp >>> 4) (3#8)) h6, .o, .t (u_eq (y0.fOp >>> 4) (4#8)) h7, .o, .t (u_eq (y0.fOp >>> 4) (5#8)) h8, .o, .t (u_eq (y0.fOp >>> 4) (6#8)) h9, .o, .t (u_eq (y0.fOp >>> 4) (7#8)) h10, .o, .t (u_eq (y0.fOp >>> 4) (9#8)) h11, .o, .t (u_eq (y0.fOp >>> 4) (10#8)) h12, .o, .o, .a 0, .t (i_eq y0.fOff (0#16)) h13, .o, .o, .o]
    [] (fun b => by kernel_rfl)
theorem p28_insn_knownAlu (h1 : ((y0.fOp >>> 4) == 8#8) = false) (h2 : ((y0.fOp >>> 4) == 13#8) = false) (h3 : ((y0.fOp >>> 4) == 0#8) = false) (h4 : ((y0.fOp >>> 4) == 1#8) = false) (h5 : ((y0.fOp >>> 4) == 2#8) = false) (h6 : ((y0.fOp >>> 4) == 3#8) = false) (h7 : ((y0.fOp >>> 4) == 4#8) = false) (h8 : ((y0.fOp >>> 4) == 5#8) = false) (h9 : ((y0.fOp >>> 4) == 6#8) = false) (h10 : ((y0.fOp >>> 4) == 7#8) = false) (h11 : ((y0.fOp >>> 4) == 9#8) = false) (h12 : ((y0.fOp >>> 4) == 10#8) = false) (h13 : ((y0.fOp >>> 4) == 11#8) = true) (h14 : (y0.fOff == 0#16) = true) (r0 : Bool) (e_r0 : m_insn_plainOperand y0 = r0) : ConG Try.prog S 52 #[(v_Insn y0)] (.bool (r0)) :=
  fn_conG hU (P := Try.prog) Try.func52 (fun xs w => by kernel_rfl) [(v_Insn y0)] (.bool (r0))
    [.o, .o, .o, .a 0, .v .u8 (u8_and y0.fOp (8#8)), .tn (u_ne (y0.fOp &&& 8#8) (0#8)) h0, .o, .o, .a 0, .ov (u8_shr Try.prog 5 (.tmp 9) (.const (.int .u64 (4))) y0.fOp 4 .u64 rfl), .t (u_eq (y0.fOp >>> 4) (8#8)) h1, .o, .t (u_eq (y0.fOp >>> 4) (13#8)) h2, .o, .t (u_eq (y0.fOp >>> 4) (0#8)) h3, .o, .t (u_eq (y0.fOp >>> 4) (1#8)) h4, .o, .t (u_eq (y0.fOp >>> 4) (2#8)) h5, .o, .t (u_eq (y0.fOp >>> 4) (3#8)) h6, .o, .t (u_eq (y0.fOp >>> 4) (4#8)) h7, .o, .t (u_eq (y0.fOp >>> 4) (5#8)) h8, .o, .t (u_eq (y0.fOp >>> 4) (6#8)) h9, .o, .t (u_eq (y0.fOp >>> 4) (7#8)) h10, .o, .t (u_eq (y0.fOp >>> 4) (9#8)) h11, .o, .t (u_eq (y0.fOp >>> 4) (10#8)) h12, .o, .t (u_eq (y0.fOp >>> 4) (11#8)) h13, .o, .o, .a 0, .t (i_eq y0.fOff (0#16)) h14, .o, .a 0, .cg (ok_insn_plainOperand hU y0 r0 e_r0), .o, .o]
    [] (fun b => by kernel_rfl)
theorem p29_insn_knownAlu (h1 : ((y0.fOp >>> 4) == 8#8) = false) (h2 : ((y0.fOp >>> 4) == 13#8) = false) (h3 : ((y0.fOp >>> 4) == 0#8) = false) (h4 : ((y0.fOp >>> 4) == 1#8) = false) (h5 : ((y0.fOp >>> 4) == 2#8) = false) (h6 : ((y0.fOp >>> 4) == 3#8) = false) (h7 : ((y0.fOp >>> 4) == 4#8) = false) (h8 : ((y0.fOp >>> 4) == 5#8) = false) (h9 : ((y0.fOp >>> 4) == 6#8) = false) (h10 : ((y0.fOp >>> 4) == 7#8) = false) (h11 : ((y0.fOp >>> 4) == 9#8) = false) (h12 : ((y0.fOp >>> 4) == 10#8) = false) (h13 : ((y0.fOp >>> 4) == 11#8) = true) (h14 : (y0.fOff == 0#16) = false) : ConG Try.prog S 52 #[(v_Insn y0)] (.bool false) :=
  fn_conG hU (P := Try.prog) Try.func52 (fun xs w => by kernel_rfl) [(v_Insn y0)] (.bool false)
    [.o, .o, .o, .a 0, .v .u8 (u8_and y0.fOp (8#8)), .tn (u_ne (y0.fOp &&& 8#8) (0#8)) h0, .o, .o, .a 0, .ov (u8_shr Try.prog 5 (.tmp 9) (.const (.int .u64 (4))) y0.fOp 4 .u64 rfl), .t (u_eq (y0.fOp >>> 4) (8#8)) h1, .o, .t (u_eq (y0.fOp >>> 4) (13#8)) h2, .o, .t (u_eq (y0.fOp >>> 4) (0#8)) h3, .o, .t (u_eq (y0.fOp >>> 4) (1#8)) h4, .o, .t (u_eq (y0.fOp >>> 4) (2#8)) h5, .o, .t (u_eq (y0.fOp >>> 4) (3#8)) h6, .o, .t (u_eq (y0.fOp >>> 4) (4#8)) h7, .o, .t (u_eq (y0.fOp >>> 4) (5#8)) h8, .o, .t (u_eq (y0.fOp >>> 4) (6#8)) h9, .o, .t (u_eq (y0.fOp >>> 4) (7#8)) h10, .o, .t (u_eq (y0.fOp >>> 4) (9#8)) h11, .o, .t (u_eq (y0.fOp >>> 4) (10#8)) h12, .o, .t (u_eq (y0.fOp >>> 4) (11#8)) h13, .o, .o, .a 0, .t (i_eq y0.fOff (0#16)) h14, .o, .o, .o]
    [] (fun b => by kernel_rfl)
theorem p30_insn_knownAlu (h1 : ((y0.fOp >>> 4) == 8#8) = false) (h2 : ((y0.fOp >>> 4) == 13#8) = false) (h3 : ((y0.fOp >>> 4) == 0#8) = false) (h4 : ((y0.fOp >>> 4) == 1#8) = false) (h5 : ((y0.fOp >>> 4) == 2#8) = false) (h6 : ((y0.fOp >>> 4) == 3#8) = false) (h7 : ((y0.fOp >>> 4) == 4#8) = false) (h8 : ((y0.fOp >>> 4) == 5#8) = false) (h9 : ((y0.fOp >>> 4) == 6#8) = false) (h10 : ((y0.fOp >>> 4) == 7#8) = false) (h11 : ((y0.fOp >>> 4) == 9#8) = false) (h12 : ((y0.fOp >>> 4) == 10#8) = false) (h13 : ((y0.fOp >>> 4) == 11#8) = false) (h14 : ((y0.fOp >>> 4) == 12#8) = true) (h15 : (y0.fOff == 0#16) = true) (r0 : Bool) (e_r0 : m_insn_plainOperand y0 = r0) : ConG Try.prog S 52 #[(v_Insn y0)] (.bool (r0)) :=
  fn_conG hU (P := Try.prog) Try.func52 (fun xs w => by kernel_rfl) [(v_Insn y0)] (.bool (r0))
    [.o, .o, .o, .a 0, .v .u8 (u8_and y0.fOp (8#8)), .tn (u_ne (y0.fOp &&& 8#8) (0#8)) h0, .o, .o, .a 0, .ov (u8_shr Try.prog 5 (.tmp 9) (.const (.int .u64 (4))) y0.fOp 4 .u64 rfl), .t (u_eq (y0.fOp >>> 4) (8#8)) h1, .o, .t (u_eq (y0.fOp >>> 4) (13#8)) h2, .o, .t (u_eq (y0.fOp >>> 4) (0#8)) h3, .o, .t (u_eq (y0.fOp >>> 4) (1#8)) h4, .o, .t (u_eq (y0.fOp >>> 4) (2#8)) h5, .o, .t (u_eq (y0.fOp >>> 4) (3#8)) h6, .o, .t (u_eq (y0.fOp >>> 4) (4#8)) h7, .o, .t (u_eq (y0.fOp >>> 4) (5#8)) h8, .o, .t (u_eq (y0.fOp >>> 4) (6#8)) h9, .o, .t (u_eq (y0.fOp >>> 4) (7#8)) h10, .o, .t (u_eq (y0.fOp >>> 4) (9#8)) h11, .o, .t (u_eq (y0.fOp >>> 4) (10#8)) h12, .o, .t (u_eq (y0.fOp >>> 4) (11#8)) h13, .o, .t (u_eq (y0.fOp >>> 4) (12#8)) h14, .o, .o, .a 0, .t (i_eq y0.fOff (0#16)) h15, .o, .a 0, .cg (ok_insn_plainOperand hU y0 r0 e_r0), .o, .o]
    [] (fun b => by kernel_rfl)
theorem p31_insn_knownAlu (h1 : ((y0.fOp >>> 4) == 8#8) = false) (h2 : ((y0.fOp >>> 4) == 13#8) = false) (h3 : ((y0.fOp >>> 4) == 0#8) = false) (h4 : ((y0.fOp >>> 4) == 1#8) = false) (h5 : ((y0.fOp >>> 4) == 2#8) = false) (h6 : ((y0.fOp >>> 4) == 3#8) = false) (h7 : ((y0.fOp >>> 4) == 4#8) = false) (h8 : ((y0.fOp >>> 4) == 5#8) = false) (h9 : ((y0.fOp >>> 4) == 6#8) = false) (h10 : ((y0.fOp >>> 4) == 7#8) = false) (h11 : ((y0.fOp >>> 4) == 9#8) = false) (h12 : ((y0.fOp >>> 4) == 10#8) = false) (h13 : ((y0.fOp >>> 4) == 11#8) = false) (h14 : ((y0.fOp >>> 4) == 12#8) = true) (h15 : (y0.fOff == 0#16) = false) : ConG Try.prog S 52 #[(v_Insn y0)] (.bool false) :=
  fn_conG hU (P := Try.prog) Try.func52 (fun xs w => by kernel_rfl) [(v_Insn y0)] (.bool false)
    [.o, .o, .o, .a 0, .v .u8 (u8_and y0.fOp (8#8)), .tn (u_ne (y0.fOp &&& 8#8) (0#8)) h0, .o, .o, .a 0, .ov (u8_shr Try.prog 5 (.tmp 9) (.const (.int .u64 (4))) y0.fOp 4 .u64 rfl), .t (u_eq (y0.fOp >>> 4) (8#8)) h1, .o, .t (u_eq (y0.fOp >>> 4) (13#8)) h2, .o, .t (u_eq (y0.fOp >>> 4) (0#8)) h3, .o, .t (u_eq (y0.fOp >>> 4) (1#8)) h4, .o, .t (u_eq (y0.fOp >>> 4) (2#8)) h5, .o, .t (u_eq (y0.fOp >>> 4) (3#8)) h6, .o, .t (u_eq (y0.fOp >>> 4) (4#8)) h7, .o, .t (u_eq (y0.fOp >>> 4) (5#8)) h8, .o, .t (u_eq (y0.fOp >>> 4) (6#8)) h9, .o, .t (u_eq (y0.fOp >>> 4) (7#8)) h10, .o, .t (u_eq (y0.fOp >>> 4) (9#8)) h11, .o, .t (u_eq (y0.fOp >>> 4) (10#8)) h12, .o, .t (u_eq (y0.fOp >>> 4) (11#8)) h13, .o, .t (u_eq (y0.fOp >>> 4) (12#8)) h14, .o, .o, .a 0, .t (i_eq y0.fOff (0#16)) h15, .o, .o, .o]
    [] (fun b => by kernel_rfl)
theorem p32_insn_knownAlu (h1 : ((y0.fOp >>> 4) == 8#8) = false) (h2 : ((y0.fOp >>> 4) == 13#8) = false) (h3 : ((y0.fOp >>> 4) == 0#8) = false) (h4 : ((y0.fOp >>> 4) == 1#8) = false) (h5 : ((y0.fOp >>> 4) == 2#8) = false) (h6 : ((y0.fOp >>> 4) == 3#8) = false) (h7 : ((y0.fOp >>> 4) == 4#8) = false) (h8 : ((y0.fOp >>> 4) == 5#8) = false) (h9 : ((y0.fOp >>> 4) == 6#8) = false) (h10 : ((y0.fOp >>> 4) == 7#8) = false) (h11 : ((y0.fOp >>> 4) == 9#8) = false) (h12 : ((y0.fOp >>> 4) == 10#8) = false) (h13 : ((y0.fOp >>> 4) == 11#8) = false) (h14 : ((y0.fOp >>> 4) == 12#8) = false) : ConG Try.prog S 52 #[(v_Insn y0)] (.bool false) :=
  fn_conG hU (P := Try.prog) Try.func52 (fun xs w => by kernel_rfl) [(v_Insn y0)] (.bool false)
    [.o, .o, .o, .a 0, .v .u8 (u8_and y0.fOp (8#8)), .tn (u_ne (y0.fOp &&& 8#8) (0#8)) h0, .o, .o, .a 0, .ov (u8_shr Try.prog 5 (.tmp 9) (.const (.int .u64 (4))) y0.fOp 4 .u64 rfl), .t (u_eq (y0.fOp >>> 4) (8#8)) h1, .o, .t (u_eq (y0.fOp >>> 4) (13#8)) h2, .o, .t (u_eq (y0.fOp >>> 4) (0#8)) h3, .o, .t (u_eq (y0.fOp >>> 4) (1#8)) h4, .o, .t (u_eq (y0.fOp >>> 4) (2#8)) h5, .o, .t (u_eq (y0.fOp >>> 4) (3#8)) h6, .o, .t (u_eq (y0.fOp >>> 4) (4#8)) h7, .o, .t (u_eq (y0.fOp >>> 4) (5#8)) h8, .o, .t (u_eq (y0.fOp >>> 4) (6#8)) h9, .o, .t (u_eq (y0.fOp >>> 4) (7#8)) h10, .o, .t (u_eq (y0.fOp >>> 4) (9#8)) h11, .o, .t (u_eq (y0.fOp >>> 4) (10#8)) h12, .o, .t (u_eq (y0.fOp >>> 4) (11#8)) h13, .o, .t (u_eq (y0.fOp >>> 4) (12#8)) h14, .o, .o]
    [] (fun b => by kernel_rfl)
end
section
variable {M : Nat → Prop} {B0 : Nat} {S : World → Prop} (hU : Up M B0 S) (y0 : Insn) (h0 : ((y0.fOp &&& 8#8) == 0#8) = false)
include hU y0 h0
theorem p33_insn_knownAlu (h1 : ((y0.fOp >>> 4) == 8#8) = true) : ConG Try.prog S 52 #[(v_Insn y0)] (.bool false) :=
  fn_conG hU (P := Try.prog) Try.func52 (fun xs w => by kernel_rfl) [(v_Insn y0)] (.bool false)
    [.o, .o, .o, .a 0, .v .u8 (u8_and y0.fOp (8#8)), .tn (u_ne (y0.fOp &&& 8#8) (0#8)) h0, .o, .o, .a 0, .ov (u8_shr Try.prog 5 (.tmp 9) (.const (.int .u64 (4))) y0.fOp 4 .u64 rfl), .t (u_eq (y0.fOp >>> 4) (8#8)) h1, .o, .o, .o, .o, .o, .o, .o, .o, .o, .o]
    [] (fun b => by kernel_rfl)
theorem p34_insn_knownAlu (h1 : ((y0.fOp >>> 4) == 8#8) = false) (h2 : ((y0.fOp >>> 4) == 13#8) = true) (h3 : ((y0.fOp &&& 7#8) == 7#8) = true) : ConG Try.prog S 52 #[(v_Insn y0)] (.bool false) :=
  fn_conG hU (P := Try.prog) Try.func52 (fun xs w => by kernel_rfl) [(v_Insn y0)] (.bool false)
    [.o, .o, .o, .a 0, .v .u8 (u8_and y0.fOp (8#8)), .tn (u_ne (y0.fOp &&& 8#8) (0#8)) h0, .o, .o, .a 0, .ov (u8_shr Try.prog 5 (.tmp 9) (.const (.int .u64 (4))) y0.fOp 4 .u64 rfl), .t (u_eq (y0.fOp >>> 4) (8#8)) h1, .o, .t (u_eq (y0.fOp >>> 4) (13#8)) h2, .o, .o, .o, .o, .a 0, .v .u8 (u8_and y0.fOp (7#8)), .t (u_eq (y0.fOp &&& 7#8) (7#8)) h3, .o, .o]
    [] (fun b => by kernel_rfl)
theorem p35_insn_knownAlu (h1 : ((y0.fOp >>> 4) == 8#8) = false) (h2 : ((y0.fOp >>> 4) == 13#8) = true) (h3 : ((y0.fOp &&& 7#8) == 7#8) = false) (h4 : (y0.fSrc == 0#8) = true) (h5 : (y0.fOff == 0#16) = true) (h6 : (y0.fImm == 16#32) = true) : ConG Try.prog S 52 #[(v_Insn y0)] (.bool true) :=
  fn_conG hU (P := Try.prog) Try.func52 (fun xs w => by kernel_rfl) [(v_Insn y0)] (.bool true)
    [.o, .o, .o, .a 0, .v .u8 (u8_and y0.fOp (8#8)), .tn (u_ne (y0.fOp &&& 8#8) (0#8)) h0, .o, .o, .a 0, .ov (u8_shr Try.prog 5 (.tmp 9) (.const (.int .u64 (4))) y0.fOp 4 .u64 rfl), .t (u_eq (y0.fOp >>> 4) (8#8)) h1, .o, .t (u_eq (y0.fOp >>> 4) (13#8)) h2, .o, .o, .o, .o, .a 0, .v .u8 (u8_and y0.fOp (7#8)), .t (u_eq (y0.fOp &&& 7#8) (7#8)) h3, .o, .o, .a 0, .t (u_eq y0.fSrc (0#8)) h4, .o, .o, .a 0, .t (i_eq y0.fOff (0#16)) h5, .o, .o, .o, .a 0, .t (i_eq y0.fImm (16#32)) h6, .o, .o, .o, .o, .o, .o]
    [] (fun b => by kernel_rfl)
theorem p36_insn_knownAlu (h1 : ((y0.fOp >>> 4) == 8#8) = false) (h2 : ((y0.fOp >>> 4) == 13#8) = true) (h3 : ((y0.fOp &&& 7#8) == 7#8) = false) (h4 : (y0.fSrc == 0#8) = true) (h5 : (y0.fOff == 0#16) = true) (h6 : (y0.fImm == 16#32) = false) (h7 : (y0.fImm == 32#32) = true) : ConG Try.prog S 52 #[(v_Insn y0)] (.bool true) :=
  fn_conG hU (P := Try.prog) Try.func52 (fun xs w => by kernel_rfl) [(v_Insn y0)] (.bool true)
    [.o, .o, .o, .a 0, .v .u8 (u8_and y0.fOp (8#8)), .tn (u_ne (y0.fOp &&& 8#8) (0#8)) h0, .o, .o, .a 0, .ov (u8_shr Try.prog 5 (.tmp 9) (.const (.int .u64 (4))) y0.fOp 4 .u64 rfl), .t (u_eq (y0.fOp >>> 4) (8#8)) h1, .o, .t (u_eq (y0.fOp >>> 4) (13#8)) h2, .o, .o, .o, .o, .a 0, .v .u8 (u8_and y0.fOp (7#8)), .t (u_eq (y0.fOp &&& 7#8) (7#8)) h3, .o, .o, .a 0, .t (u_eq y0.fSrc (0#8)) h4, .o, .o, .a 0, .t (i_eq y0.fOff (0#16)) h5, .o, .o, .o, .a 0, .t (i_eq y0.fImm (16#32)) h6, .o, .o, .a 0, .t (i_eq y0.fImm (32#32)) h7, .o, .o, .o, .o, .o]
    [] (fun b => by kernel_rfl)
theorem p37_insn_knownAlu (h1 : ((y0.fOp >>> 4) == 8#8) = false) (h2 : ((y0.fOp >>> 4) == 13#8) = true) (h3 : ((y0.fOp &&& 7#8) == 7#8) = false) (h4 : (y0.fSrc == 0#8) = true) (h5 : (y0.fOff == 0#16) = true) (h6 : (y0.fImm == 16#32) = false) (h7 : (y0.fImm == 32#32) = false) : ConG Try.prog S 52 #[(v_Insn y0)] (.bool ((y0.fImm == 64#32))) :=
  fn_conG hU (P := Try.prog) Try.func52 (fun xs w => by kernel_rfl) [(v_Insn y0)] (.bool ((y0.fImm == 64#32)))
    [.o, .o, .o, .a 0, .v .u8 (u8_and y0.fOp (8#8)), .tn (u_ne (y0.fOp &&& 8#8) (0#8)) h0, .o, .o, .a 0, .ov (u8_shr Try.prog 5 (.tmp 9) (.const (.int .u64 (4))) y0.fOp 4 .u64 rfl), .t (u_eq (y0.fOp >>> 4) (8#8)) h1, .o, .t (u_eq (y0.fOp >>> 4) (13#8)) h2, .o, .o, .o, .o, .a 0, .v .u8 (u8_and y0.fOp (7#8)), .t (u_eq (y0.fOp &&& 7#8) (7#8)) h3, .o, .o, .a 0, .t (u_eq y0.fSrc (0#8)) h4, .o, .o, .a 0, .t (i_eq y0.fOff (0#16)) h5, .o, .o, .o, .a 0, .t (i_eq y0.fImm (16#32)) h6, .o, .o, .a 0, .t (i_eq y0.fImm (32#32)) h7, .o, .o, .o, .a 0, .t (i_eq y0.fImm (64#32)) rfl, .o, .o, .o]
    [] (fun b => by kernel_rfl)
theorem p38_insn_knownAlu (h1 : ((y0.fOp >>> 4) == 8#8) = false) (h2 : ((y0.fOp >>> 4) == 13#8) = true) (h3 : ((y0.fOp &&& 7#8) == 7#8) = false) (h4 : (y0.fSrc == 0#8) = true) (h5 : (y0.fOff == 0#16) = false) : ConG Try.prog S 52 #[(v_Insn y0)] (.bool false) :=
  fn_conG hU (P := Try.prog) Try.func52 (fun xs w => by kernel_rfl) [(v_Insn y0)] (.bool false)
    [.o, .o, .o, .a 0, .v .u8 (u8_and y0.fOp (8#8)), .tn (u_ne (y0.fOp &&& 8#8) (0#8)) h0, .o, .o, .a 0, .ov (u8_shr Try.prog 5 (.tmp 9) (.const (.int .u64 (4))) y0.fOp 4 .u64 rfl), .t (u_eq (y0.fOp >>> 4) (8#8)) h1, .o, .t (u_eq (y0.fOp >>> 4) (13#8)) h2, .o, .o, .o, .o, .a 0, .v .u8 (u8_and y0.fOp (7#8)), .t (u_eq (y0.fOp &&& 7#8) (7#8)) h3, .o, .o, .a 0, .t (u_eq y0.fSrc (0#8)) h4, .o, .o, .a 0, .t (i_eq y0.fOff (0#16)) h5, .o, .o, .o, .o]
    [] (fun b => by kernel_rfl)
theorem p39_insn_knownAlu (h1 : ((y0.fOp >>> 4) == 8#8) = false) (h2 : ((y0.fOp >>> 4) == 13#8) = true) (h3 : ((y0.fOp &&& 7#8) == 7#8) = false) (h4 : (y0.fSrc == 0#8) = false) : ConG Try.prog S 52 #[(v_Insn y0)] (.bool false) :=
  fn_conG hU (P := Try.prog) Try.func52 (fun xs w => by kernel_rfl) [(v_Insn y0)] (.bool false)
    [.o, .o, .o, .a 0, .v .u8 (u8_and y0.fOp (8#8)), .tn (u_ne (y0.fOp &&& 8#8) (0#8)) h0, .o, .o, .a 0, .ov (u8_shr Try.prog 5 (.tmp 9) (.const (.int .u64 (4))) y0.fOp 4 .u64 rfl), .t (u_eq (y0.fOp >>> 4) (8#8)) h1, .o, .t (u_eq (y0.fOp >>> 4) (13#8)) h2, .o, .o, .o, .o, .a 0, .v .u8 (u8_and y0.fOp (7#8)), .t (u_eq (y0.fOp &&& 7#8) (7#8)) h3, .o, .o, .a 0, .t (u_eq y0.fSrc (0#8)) h4, .o, .o, .o, .o, .o]
    [] (fun b => by kernel_rfl)
theorem p40_insn_knownAlu (h1 : ((y0.fOp >>> 4) == 8#8) = false) (h2 : ((y0.fOp >>> 4) == 13#8) = false) (h3 : ((y0.fOp >>> 4) == 0#8) = true) (h4 : (y0.fOff == 0#16) = true) (r0 : Bool) (e_r0 : m_insn_plainOperand y0 = r0) : ConG Try.prog S 52 #[(v_Insn y0)] (.bool (r0)) :=
  fn_conG hU (P := Try.prog) Try.func52 (fun xs w => by kernel_rfl) [(v_Insn y0)] (.bool (r0))
    [.o, .o, .o, .a 0, .v .u8 (u8_and y0.fOp (8#8)), .tn (u_ne (y0.fOp &&& 8#8) (0#8)) h0, .o, .o, .a 0, .ov (u8_shr Try.prog 5 (.tmp 9) (.const (.int .u64 (4))) y0.fOp 4 .u64 rfl), .t (u_eq (y0.fOp >>> 4) (8#8)) h1, .o, .t (u_eq (y0.fOp >>> 4) (13#8)) h2, .o, .t (u_eq (y0.fOp >>> 4) (0#8)) h3, .o, .o, .a 0, .t (i_eq y0.fOff (0#16)) h4, .o, .a 0, .cg (ok_insn_plainOperand hU y0 r0 e_r0), .o, .o]
    [] (fun b => by kernel_rfl)
theorem p41_insn_knownAlu (h1 : ((y0.fOp >>> 4) == 8#8) = false) (h2 : ((y0.fOp >>> 4) == 13#8) = false) (h3 : ((y0.fOp >>> 4) == 0#8) = true) (h4 : (y0.fOff == 0#16) = false) : ConG Try.prog S 52 #[(v_Insn y0)] (.bool false) :=
  fn_conG hU (P := Try.prog) Try.func52 (fun xs w => by kernel_rfl) [(v_Insn y0)] (.bool false)
    [.o, .o, .o, .a 0, .v .u8 (u8_and y0.fOp (8#8)), .tn (u_ne (y0.fOp &&& 8#8) (0#8)) h0, .o, .o, .a 0, .ov (u8_shr Try.prog 5 (.tmp 9) (.const (.int .u64 (4))) y0.fOp 4 .u64 rfl), .t (u_eq (y0.fOp >>> 4) (8#8)) h1, .o, .t (u_eq (y0.fOp >>> 4) (13#8)) h2, .o, .t (u_eq (y0.fOp >>> 4) (0#8)) h3, .o, .o, .a 0, .t (i_eq y0.fOff (0#16)) h4, .o, .o, .o]
    [] (fun b => by kernel_rfl)
theorem p42_insn_knownAlu (h1 : ((y0.fOp >>> 4) == 8#8) = false) (h2 : ((y0.fOp >>> 4) == 13#8) = false) (h3 : ((y0.fOp >>> 4) == 0#8) = false) (h4 : ((y0.fOp >>> 4) == 1#8) = true) (h5 : (y0.fOff == 0#16) = true) (r0 : Bool) (e_r0 : m_insn_plainOperand y0 = r0) : ConG Try.prog S 52 #[(v_Insn y0)] (.bool (r0)) :=
  fn_conG hU (P := Try.prog) Try.func52 (fun xs w => by kernel_rfl) [(v_Insn y0)] (.bool (r0))
    [.o, .o, .o, .a 0, .v .u8 (u8_and y0.fOp (8#8)), .tn (u_ne (y0.fOp &&& 8#8) (0#8)) h0, .o, .o, .a 0, .ov (u8_shr Try.prog 5 (.tmp 9) (.const (.int .u64 (4))) y0.fOp 4 .u64 rfl), .t (u_eq (y0.fOp >>> 4) (8#8)) h1, .o, .t (u_eq (y0.fOp >>> 4) (13#8)) h2, .o, .t (u_eq (y0.fOp >>> 4) (0#8)) h3, .o, .t (u_eq (y0.fOp >>> 4) (1#8)) h4, .o, .o, .a 0, .t (i_eq y0.fOff (0#16)) h5, .o, .a 0, .cg (ok_insn_plainOperand hU y0 r0 e_r0), .o, .o]
    [] (fun b => by kernel_rfl)
theorem p43_insn_knownAlu (h1 : ((y0.fOp >>> 4) == 8#8) = false) (h2 : ((y0.fOp >>> 4) == 13#8) = false) (h3 : ((y0.fOp >>> 4) == 0#8) = false) (h4 : ((y0.fOp >>> 4) == 1#8) = true) (h5 : (y0.fOff == 0#16) = false) : ConG Try.prog S 52 #[(v_Insn y0)] (.bool false) :=
  fn_conG hU (P := Try.prog) Try.func52 (fun xs w => by kernel_rfl) [(v_Insn y0)] (.bool false)
    [.o, .o, .o, .a 0, .v .u8 (u8_and y0.fOp (8#8)), .tn (u_ne (y0.fOp &&& 8#8) (0#8)) h0, .o, .o, .a 0, .ov (u8_shr Try.prog 5 (.tmp 9) (.const (.int .u64 (4))) y0.fOp 4 .u64 rfl), .t (u_eq (y0.fOp >>> 4) (8#8)) h1, .o, .t (u_eq (y0.fOp >>> 4) (13#8)) h2, .o, .t (u_eq (y0.fOp >>> 4) (0#8)) h3, .o, .t (u_eq (y0.fOp >>> 4) (1#8)) h4, .o, .o, .a 0, .t (i_eq y0.fOff (0#16)) h5, .o, .o, .o]
    [] (fun b => by kernel_rfl)
theorem p44_insn_knownAlu (h1 : ((y0.fOp >>> 4) == 8#8) = false) (h2 : ((y0.fOp >>> 4) == 13#8) = false) (h3 : ((y0.fOp >>> 4) == 0#8) = false) (h4 : ((y0.fOp >>> 4) == 1#8) = false) (h5 : ((y0.fOp >>> 4) == 2#8) = true) (h6 : (y0.fOff == 0#16) = true) (r0 : Bool) (e_r0 : m_insn_plainOperand y0 = r0) : ConG Try.prog S 52 #[(v_Insn y0)] (.bool (r0)) :=
  fn_conG hU (P := Try.prog) Try.func52 (fun xs w => by kernel_rfl) [(v_Insn y0)] (.bool (r0))
    [.o, .o, .o, .a 0, .v .u8 (u8_and y0.fOp (8#8)), .tn (u_ne (y0.fOp &&& 8#8) (0#8)) h0, .o, .o, .a 0, .ov (u8_shr Try.prog 5 (.tmp 9) (.const (.int .u64 (4))) y0.fOp 4 .u64 rfl), .t (u_eq (y0.fOp >>> 4) (8#8)) h1, .o, .t (u_eq (y0.fOp >>> 4) (13#8)) h2, .o, .t (u_eq (y0.fOp >>> 4) (0#8)) h3, .o, .t (u_eq (y0.fOp >>> 4) (1#8)) h4, .o, .t (u_eq (y0.fOp >>> 4) (2#8)) h5, .o, .o, .a 0, .t (i_eq y0.fOff (0#16)) h6, .o, .a 0, .cg (ok_insn_plainOperand hU y0 r0 e_r0), .o, .o]
    [] (fun b => by kernel_rfl)
theorem p45_insn_knownAlu (h1 : ((y0.fOp >>> 4) == 8#8) = false) (h2 : ((y0.fOp >>> 4) == 13#8) = false) (h3 : ((y0.fOp >>> 4) == 0#8) = false) (h4 : ((y0.fOp >>> 4) == 1#8) = false) (h5 : ((y0.fOp >>> 4) == 2#8) = true) (h6 : (y0.fOff == 0#16) = false) : ConG Try.prog S 52 #[(v_Insn y0)] (.bool false) :=
  fn_conG hU (P := Try.prog) Try.func52 (fun xs w => by kernel_rfl) [(v_Insn y0)] (.bool false)
    [.o, .o, .o, .a 0, .v .u8 (u8_and y0.fOp (8#8)), .tn (u_ne (y0.fOp &&& 8#8) (0#8)) h0, .o, .o, .a 0, .ov (u8_shr Try.prog 5 (.tmp 9) (.const (.int .u64 (4))) y0.fOp 4 .u64 rfl), .t (u_eq (y0.fOp >>> 4) (8#8)) h1, .o, .t (u_eq (y0.fOp >>> 4) (13#8)) h2, .o, .t (u_eq (y0.fOp >>> 4) (0#8)) h3, .o, .t (u_eq (y0.fOp >>> 4) (1#8)) h4, .o, .t (u_eq (y0.fOp >>> 4) (2#8)) h5, .o, .o, .a 0, .t (i_eq y0.fOff (0#16)) h6, .o, .o, .o]
    [] (fun b => by kernel_rfl)
theorem p46_insn_knownAlu (h1 : ((y0.fOp >>> 4) == 8#8) = false) (h2 : ((y0.fOp >>> 4) == 13#8) = false) (h3 : ((y0.fOp >>> 4) == 0#8) = false) (h4 : ((y0.fOp >>> 4) == 1#8) = false) (h5 : ((y0.fOp >>> 4) == 2#8) = false) (h6 : ((y0.fOp >>> 4) == 3#8) = true) (h7 : (y0.fOff == 0#16) = true) (r0 : Bool) (e_r0 : m_insn_plainOperand y0 = r0) : ConG Try.prog S 52 #[(v_Insn y0)] (.bool (r0)) :=
  fn_conG hU (P := Try.prog) Try.func52 (fun xs w => by kernel_rfl) [(v_Insn y0)] (.bool (r0))
    [.o, .o, .o, .a 0, .v .u8 (u8_and y0.fOp (8#8)), .tn (u_ne (y0.fOp &&& 8#8) (0#8)) h0, .o, .o, .a 0, .ov (u8_shr Try.prog 5 (.tmp 9) (.const (.int .u64 (4))) y0.fOp 4 .u64 rfl), .t (u_eq (y0.fOp >>> 4) (8#8)) h1, .o, .t (u_eq (y0.fOp >>> 4) (13#8)) h2, .o, .t (u_eq (y0.fOp >>> 4) (0#8)) h3, .o, .t (u_eq (y0.fOp >>> 4) (1#8)) h4, .o, .t (u_eq (y0.fOp >>> 4) (2#8)) h5, .o, .t (u_eq (y0.fOp >>> 4) (3#8)) h6, .o, .o, .a 0, .t (i_eq y0.fOff (0#16)) h7, .o, .a 0, .cg (ok_insn_plainOperand hU y0 r0 e_r0), .o, .o]
    [] (fun b => by kernel_rfl)
theorem p47_insn_knownAlu (h1 : ((y0.fOp >>> 4) == 8#8) = false) (h2 : ((y0.fOp >>> 4) == 13#8) = false) (h3 : ((y0.fOp >>> 4) == 0#8) = false) (h4 : ((y0.fOp >>> 4) == 1#8) = false) (h5 : ((y0.fOp >>> 4) == 2#8) = false) (h6 : ((y0.fOp >>> 4) == 3#8) = true) (h7 : (y0.fOff == 0#16) = false) : ConG Try.prog S 52 #[(v_Insn y0)] (.bool false) :=
  fn_conG hU (P := Try.prog) Try.func52 (fun xs w => by kernel_rfl) [(v_Insn y0)] (.bool false)
    [.o, .o, .o, .a 0, .v .u8 (u8_and y0.fOp (8#8)), .tn (u_ne (y0.fOp &&& 8#8) (0#8)) h0, .o, .o, .a 0, .ov (u8_shr Try.prog 5 (.tmp 9) (.const (.int .u64 (4))) y0.fOp 4 .u64 rfl), .t (u_eq (y0.fOp >>> 4) (8#8)) h1, .o, .t (u_eq (y0.fOp >>> 4) (13#8)) h2, .o, .t (u_eq (y0.fOp >>> 4) (0#8)) h3, .o, .t (u_eq (y0.fOp >>> 4) (1#8)) h4, .o, .t (u_eq (y0.fOp >>> 4) (2#8)) h5, .o, .t (u_eq (y0.fOp >>> 4) (3#8)) h6, .o, .o, .a 0, .t (i_eq y0.fOff (0#16)) h7, .o, .o, .o]
    [] (fun b => by kernel_rfl)
theorem p48_insn_knownAlu (h1 : ((y0.fOp >>> 4) == 8#8) = false) (h2 : ((y0.fOp >>> 4) == 13#8) = false) (h3 : ((y0.fOp >>> 4) == 0#8) = false) (h4 : ((y0.fOp >>> 4) == 1#8) = false) (h5 : ((y0.fOp >>> 4) == 2#8) = false) (h6 : ((y0.fOp >>> 4) == 3#8) = false) (h7 : ((y0.fOp >>> 4) == 4#8) = true) (h8 : (y0.fOff == 0#16) = true) (r0 : Bool) (e_r0 : m_insn_plainOperand y0 = r0) : ConG Try.prog S 52 #[(v_Insn y0)] (.bool (r0)) :=
  fn_conG hU (P := Try.prog) Try.func52 (fun xs w => by kernel_rfl) [(v_Insn y0)] (.bool (r0))
    [.o, .o, .o, .a 0, .v .u8 (u8_and y0.fOp (8#8)), .tn (u_ne (y0.fOp &&& 8#8) (0#8)) h0, .o, .o, .a 0, .ov (u8_shr Try.prog 5 (.tmp 9) (.const (.int .u64 (4))) y0.fOp 4 .u64 rfl), .t (u_eq (y0.fOp >>> 4) (8#8)) h1, .o, .t (u_eq (y0.fOp >>> 4) (13#8)) h2, .o, .t (u_eq (y0.fOp >>> 4) (0#8)) h3, .o, .t (u_eq (y0.fOp >>> 4) (1#8)) h4, .o, .t (u_eq (y0.fOp >>> 4) (2#8)) h5, .o, .t (u_eq (y0.fOp >>> 4) (3#8)) h6, .o, .t (u_eq (y0.fOp >>> 4) (4#8)) h7, .o, .o, .a 0, .t (i_eq y0.fOff (0#16)) h8, .o, .a 0, .cg (ok_insn_plainOperand hU y0 r0 e_r0), .o, .o]
    [] (fun b => by kernel_rfl)
theorem p49_insn_knownAlu (h1 : ((y0.fOp >>> 4) == 8#8) = false) (h2 : ((y0.fOp >>> 4) == 13#8) = false) (h3 : ((y0.fOp >>> 4) == 0#8) = false) (h4 : ((y0.fOp >>> 4) == 1#8) = false) (h5 : ((y0.fOp >>> 4) == 2#8) = false) (h6 : ((y0.fOp >>> 4) == 3#8) = false) (h7 : ((y0.fOp >>> 4) == 4#8) = true) (h8 : (y0.fOff == 0#16) = false) : ConG Try.prog S 52 #[(v_Insn y0)] (.bool false) :=
  fn_conG hU (P := Try.prog) Try.func52 (fun xs w => by kernel_rfl) [(v_Insn y0)] (.bool false)
    [.o, .o, .o, .a 0, .v .u8 (u8_and y0.fOp (8#8)), .tn (u_ne (y0.fOp &&& 8#8) (0#8)) h0, .o, .o, .a 0, .ov (u8_shr Try.prog 5 (.tmp 9) (.const (.int .u64 (4))) y0.fOp 4 .u64 rfl), .t (u_eq (y0.fOp >>> 4) (8#8)) h1, .o, .t (u_eq (y0.fOp >>> 4) (13#8)) h2, .o, .t (u_eq (y0.fOp >>> 4) (0#8)) h3, .o, .t (u_eq (y0.fOp >>> 4) (1#8)) h4, .o, .t (u_eq (y0.fOp >>> 4) (2#8)) h5, .o, .t (u_eq (y0.fOp >>> 4) (3#8)) h6, .o, .t (u_eq (y0.fOp >>> 4) (4#8)) h7, .o, .o, .a 0, .t (i_eq y0.fOff (0#16)) h8, .o, .o, .o]
    [] (fun b => by kernel_rfl)
theorem p50_insn_knownAlu (h1 : ((y0.fOp >>> 4) == 8#8) = false) (h2 : ((y0.fOp >>> 4) == 13#8) = false) (h3 : ((y0.fOp >>> 4) == 0#8) = false) (h4 : ((y0.fOp >>> 4) == 1#8) = false) (h5 : ((y0.fOp >>> 4) == 2#8) = false) (h6 : ((y0.fOp >>> 4) == 3#8) = false) (h7 : ((y0.fOp >>> 4) == 4#8) = false) (h8 : ((y0.fOp >>> 4) == 5#8) = true) (h9 : (y0.fOff == 0#16) = true) (r0 : Bool) (e_r0 : m_insn_plainOperand y0 = r0) : ConG Try.prog S 52 #[(v_Insn y0)] (.bool (r0)) :=
  fn_conG hU (P := Try.prog) Try.func52 (fun xs w => by kernel_rfl) [(v_Insn y0)] (.bool (r0))
    [.o, .o, .o, .a 0, .v .u8 (u8_and y0.fOp (8#8)), .tn (u_ne (y0.fOp &&& 8#8) (0#8)) h0, .o, .o, .a 0, .ov (u8_shr Try.prog 5 (.tmp 9) (.const (.int .u64 (4))) y0.fOp 4 .u64 rfl), .t (u_eq (y0.fOp >>> 4) (8#8)) h1, .o, .t (u_eq (y0.fOp >>> 4) (13#8)) h2, .o, .t (u_eq (y0.fOp >>> 4) (0#8)) h3, .o, .t (u_eq (y0.fOp >>> 4) (1#8)) h4, .o, .t (u_eq (y0.fOp >>> 4) (2#8)) h5, .o, .t (u_eq (y0.fOp >>> 4) (3#8)) h6, .o, .t (u_eq (y0.fOp >>> 4) (4#8)) h7, .o, .t (u_eq (y0.fOp >>> 4) (5#8)) h8, .o, .o, .a 0, .t (i_eq y0.fOff (0#16)) h9, .o, .a 0, .cg (ok_insn_plainOperand hU y0 r0 e_r0), .o, .o]
    [] (fun b => by kernel_rfl)
theorem p51_insn_knownAlu (h1 : ((y0.fOp >>> 4) == 8#8) = false) (h2 : ((y0.fOp >>> 4) == 13#8) = false) (h3 : ((y0.fOp >>> 4) == 0#8) = false) (h4 : ((y0.fOp >>> 4) == 1#8) = false) (h5 : ((y0.fOp >>> 4) == 2#8) = false) (h6 : ((y0.fOp >>> 4) == 3#8) = false) (h7 : ((y0.fOp >>> 4) == 4#8) = false) (h8 : ((y0.fOp >>> 4) == 5#8) = true) (h9 : (y0.fOff == 0#16) = false) : ConG Try.prog S 52 #[(v_Insn y0)] (.bool false) :=
  fn_conG hU (P := Try.prog) Try.func52 (fun xs w => by kernel_rfl) [(v_Insn y0)] (.bool false)
    [.o, .o, .o, .a 0, .v .u8 (u8_and y0.fOp (8#8)), .tn (u_ne (y0.fOp &&& 8#8) (0#8)) h0, .o, .o, .a 0, .ov (u8_shr Try.prog 5 (.tmp 9) (.const (.int .u64 (4))) y0.fOp 4 .u64 rfl), .t (u_eq (y0.fOp >>> 4) (8#8)) h1, .o, .t (u_eq (y0.fOp >>> 4) (13#8)) h2, .o, .t (u_eq (y0.fOp >>> 4) (0#8)) h3, .o, .t (u_eq (y0.fOp >>> 4) (1#8)) h4, .o, .t (u_eq (y0.fOp >>> 4) (2#8)) h5, .o, .t (u_eq (y0.fOp >>> 4) (3#8)) h6, .o, .t (u_eq (y0.fOp >>> 4) (4#8)) h7, .o, .t (u_eq (y0.fOp >>> 4) (5#8)) h8, .o, .o, .a 0, .t (i_eq y0.fOff (0#16)) h9, .o, .o, .o]
    [] (fun b => by kernel_rfl)
theorem p52_insn_knownAlu (h1 : ((y0.fOp >>> 4) == 8#8) = false) (h2 : ((y0.fOp >>> 4) == 13#8) = false) (h3 : ((y0.fOp >>> 4) == 0#8) = false) (h4 : ((y0.fOp >>> 4) == 1#8) = false) (h5 : ((y0.fOp >>> 4) == 2#8) = false) (h6 : ((y0.fOp >>> 4) == 3#8) = false) (h7 : ((y0.fOp >>> 4) == 4#8) = false) (h8 : ((y0.fOp >>> 4) == 5#8) = false) (h9 : ((y0.fOp >>> 4) == 6#8) = true) (h10 : (y0.fOff == 0#16) = true) (r0 : Bool) (e_r0 : m_insn_plainOperand y0 = r0) : ConG Try.prog S 52 #[(v_Insn y0)] (.bool (r0)) :=
  fn_conG hU (P := Try.prog) Try.func52 (fun xs w => by kernel_rfl) [(v_Insn y0)] (.bool (r0))
    [.o, .o, .o, .a 0, .v .u8 (u8_and y0.fOp (8#8)), .tn (u_ne (y0.fOp &&& 8#8) (0#8)) h0, .o, .o, .a 0, .ov (u8_shr Try.prog 5 (.tmp 9) (.const (.int .u64 (4))) y0.fOp 4 .u64 rfl), .t (u_eq (y0.fOp >>> 4) (8#8)) h1, .o, .t (u_eq (y0.fOp >>> 4) (13#8)) h2, .o, .t (u_eq (y0.fOp >>> 4) (0#8)) h3, .o, .t (u_eq (y0.fOp >>> 4) (1#8)) h4, .o, .t (u_eq (y0.fOp >>> 4) (2#8)) h5, .o, .t (u_eq (y0.fOp >>> 4) (3#8)) h6, .o, .t (u_eq (y0.fOp >>> 4) (4#8)) h7, .o, .t (u_eq (y0.fOp >>> 4) (5#8)) h8, .o, .t (u_eq (y0.fOp >>> 4) (6#8)) h9, .o, .o, .a 0, .t (i_eq y0.fOff (0#16)) h10, .o, .a 0, .cg (ok_insn_plainOperand hU y0 r0 e_r0), .o, .o]
    [] (fun b => by kernel_rfl)
theorem p53_insn_knownAlu (h1 : ((y0.fOp >>> 4) == 8#8) = false) (h2 : ((y0.fOp >>> 4) == 13#8) = false) (h3 : ((y0.fOp >>> 4) == 0#8) = false) (h4 : ((y0.fOp >>> 4) == 1#8) = false) (h5 : ((y0.fOp >>> 4) == 2#8) = false) (h6 : ((y0.fOp >>> 4) == 3#8) = false) (h7 : ((y0.fOp >>> 4) == 4#8) = false) (h8 : ((y0.fOp >>> 4) == 5#8) = false) (h9 : ((y0.fOp >>> 4) == 6#8) = true) (h10 : (y0.fOff == 0#16) = false) : ConG Try.prog S 52 #[(v_Insn y0)] (.bool false) :=
  fn_conG hU (P := Try.prog) Try.func52 (fun xs w => by kernel_rfl) [(v_Insn y0)] (.bool false)
    [.o, .o, .o, .a 0, .v .u8 (u8_and y0.fOp (8#8)), .tn (u_ne (y0.fOp &&& 8#8) (0#8)) h0, .o, .o, .a 0, .ov (u8_shr Try.prog 5 (.tmp 9) (.const (.int .u64 (4))) y0.fOp 4 .u64 rfl), .t (u_eq (y0.fOp >>> 4) (8#8)) h1, .o, .t (u_eq (y0.fOp >>> 4) (13#8)) h2, .o, .t (u_eq (y0.fOp >>> 4) (0#8)) h3, .o, .t (u_eq (y0.fOp >>> 4) (1#8)) h4, .o, .t (u_eq (y0.fOp >>> 4) (2#8)) h5, .o, .t (u_eq (y0.fOp >>> 4) (3#8)) h6, .o, .t (u_eq (y0.fOp >>> 4) (4#8)) h7, .o, .t (u_eq (y0.fOp >>> 4) (5#8)) h8, .o, .t (u_eq (y0.fOp >>> 4) (6#8)) h9, .o, .o, .a 0, .t (i_eq y0.fOff (0#16)) h10, .o, .o, .o]
    [] (fun b => by kernel_rfl)
theorem p54_insn_knownAlu (h1 : ((y0.fOp >>> 4) == 8#8) = false) (h2 : ((y0.fOp >>> 4) == 13#8) = false) (h3 : ((y0.fOp >>> 4) == 0#8) = false) (h4 : ((y0.fOp >>> 4) == 1#8) = false) (h5 : ((y0.fOp >>> 4) == 2#8) = false) (h6 : ((y0.fOp >>> 4) == 3#8) = false) (h7 : ((y0.fOp >>> 4) == 4#8) = false) (h8 : ((y0.fOp >>> 4) == 5#8) = false) (h9 : ((y0.fOp >>> 4) == 6#8) = false) (h10 : ((y0.fOp >>> 4) == 7#8) = true) (h11 : (y0.fOff == 0#16) = true) (r0 : Bool) (e_r0 : m_insn_plainOperand y0 = r0) : ConG Try.prog S 52 #[(v_Insn y0)] (.bool (r0)) :=
  fn_conG hU (P := Try.prog) Try.func52 (fun xs w => by kernel_rfl) [(v_Insn y0)] (.bool (r0))
    [.o, .o, .o, .a 0, .v .u8 (u8_and y0.fOp (8#8)), .tn (u_ne (y0.fOp &&& 8#8) (0#8)) h0, .o, .o, .a 0, .ov (u8_shr Try.prog 5 (.tmp 9) (.const (.int .u64 (4))) y0.fOp 4 .u64 rfl), .t (u_eq (y0.fOp >>> 4) (8#8)) h1, .o, .t (u_eq (y0.fOp >>> 4) (13#8)) h2, .o, .t (u_eq (y0.fOp >>> 4) (0#8)) h3, .o, .t (u_eq (y0.fOp >>> 4) (1#8)) h4, .o, .t (u_eq (y0.fOp >>> 4) (2#8)) h5, .o, .t (u_eq (y0.fOp >>> 4) (3#8)) h6, .o, .t (u_eq (y0.fOp >>> 4) (4#8)) h7, .o, .t (u_eq (y0.fOp >>> 4) (5#8)) h8, .o, .t (u_eq (y0.fOp >>> 4) (6#8)) h9, .o, .t (u_eq (y0.fOp >>> 4) (7#8)) h10, .o, .o, .a 0, .t (i_eq y0.fOff (0#16)) h11, .o, .a 0, .cg (ok_insn_plainOperand hU y0 r0 e_r0), .o, .o]
    [] (fun b => by kernel_rfl)
theorem p55_insn_knownAlu (h1 : ((y0.fOp >>> 4) == 8#8) = false) (h2 : ((y0.fOp >>> 4) == 13#8) = false) (h3 : ((y0.fOp >>> 4) == 0#8) = false) (h4 : ((y0.fOp >>> 4) == 1#8) = false) (h5 : ((y0.fOp >>> 4) == 2#8) = false) (h6 : ((y0.fOp >>> 4) == 3#8) = false) (h7 : ((y0.fOp >>> 4) == 4#8) = false) (h8 : ((y0.fOp >>> 4) == 5#8) = false) (h9 : ((y0.fOp >>> 4) == 6#8) = false) (h10 : ((y0.fOp >>> 4) == 7#8) = true) (h11 : (y0.fOff == 0#16) = false) : ConG Try.prog S 52 #[(v_Insn y0)] (.bool false) :=
  fn_conG hU (P := Try.prog) Try.func52 (fun xs w => by kernel_rfl) [(v_Insn y0)] (.bool false)
    [.o, .o, .o, .a 0, .v .u8 (u8_and y0.fOp (8#8)), .tn (u_ne (y0.fOp &&& 8#8) (0#8)) h0, .o, .o, .a 0, .ov (u8_shr Try.prog 5 (.tmp 9) (.const (.int .u64 (4))) y0.fOp 4 .u64 rfl), .t (u_eq (y0.fOp >>> 4) (8#8)) h1, .o, .t (u_eq (y0.fOp >>> 4) (13#8)) h2, .o, .t (u_eq (y0.fOp >>> 4) (0#8)) h3, .o, .t (u_eq (y0.fOp >>> 4) (1#8)) h4, .o, .t (u_eq (y0.fOp >>> 4) (2#8)) h5, .o, .t (u_eq (y0.fOp >>> 4) (3#8)) h6, .o, .t (u_eq (y0.fOp >>> 4) (4#8)) h7, .o, .t (u_eq (y0.fOp >>> 4) (5#8)) h8, .o, .t (u_eq (y0.fOp >>> 4) (6#8)) h9, .o, .t (u_eq (y0.fOp >>> 4) (7#8)) h10, .o, .o, .a 0, .t (i_eq y0.fOff (0#16)) h11, .o, .o, .o]
    [] (fun b => by kernel_rfl)
theorem p56_insn_knownAlu (h1 : ((y0.fOp >>> 4) == 8#8) = false) (h2 : ((y0.fOp >>> 4) == 13#8) = false) (h3 : ((y0.fOp >>> 4) == 0#8) = false) (h4 : ((y0.fOp >>> 4) == 1#8) = false) (h5 : ((y0.fOp >>> 4) == 2#8) = false) (h6 : ((y0.fOp >>> 4) == 3#8) = false) (h7 : ((y0.fOp >>> 4) == 4#8) = false) (h8 : ((y0.fOp >>> 4) == 5#8) = false) (h9 : ((y0.fOp >>> 4) == 6#8) = false) (h10 : ((y0.fOp >>> 4) == 7#8) = false) (h11 : ((y0.fOp >>> 4) == 9#8) = true) (h12 : (y0.fOff == 0#16) = true) (r0 : Bool) (e_r0 : m_insn_plainOperand y0 = r0) : ConG Try.prog S 52 #[(v_Insn y0)] (.bool (r0)) :=
  fn_conG hU (P := Try.prog) Try.func52 (fun xs w => by kernel_rfl) [(v_Insn y0)] (.bool (r0))
    [.o, .o, .o, .a 0, .v .u8 (u8_and y0.fOp (8#8)), .tn (u_ne (y0.fOp &&& 8#8) (0#8)) h0, .o, .o, .a 0, .ov (u8_shr Try.prog 5 (.tmp 9) (.const (.int .u64 (4))) y0.fOp 4 .u64 rfl), .t (u_eq (y0.fOp >>> 4) (8#8)) h1, .o, .t (u_eq (y0.fOp >>> 4) (13#8)) h2, .o, .t (u_eq (y0.fOp >>> 4) (0#8)) h3, .o, .t (u_eq (y0.fOp >>> 4) (1#8)) h4, .o, .t (u_eq (y0.fOp >>> 4) (2#8)) h5, .o, .t (u_eq (y0.fOp >>> 4) (3#8)) h6, .o, .t (u_eq (y0.fOp >>> 4) (4#8)) h7, .o, .t (u_eq (y0.fOp >>> 4) (5#8)) h8, .o, .t (u_eq (y0.fOp >>> 4) (6#8)) h9, .o, .t (u_eq (y0.fOp >>> 4) (7#8)) h10, .o, .t (u_eq (y0.fOp >>> 4) (9#8)) h11, .o, .o, .a 0, .t (i_eq y0.fOff (0#16)) h12, .o, .a 0, .cg (ok_insn_plainOperand hU y0 r0 e_r0), .o, .o]
    [] (fun b => by kernel_rfl)
theorem p57_insn_knownAlu (h1 : ((y0.fOp >>> 4) == 8#8) = false) (h2 : ((y0.fOp >>> 4) == 13#8) = false) (h3 : ((y0.fOp >>> 4) == 0#8) = false) (h4 : ((y0.fOp >>> 4) == 1#8) = false) (h5 : ((y0.fOp >>> 4) == 2#8) = false) (h6 : ((y0.fOp >>> 4) == 3#8) = false) (h7 : ((y0.fOp >>> 4) == 4#8) = false) (h8 : ((y0.fOp >>> 4) == 5#8) = false) (h9 : ((y0.fOp >>> 4) == 6#8) = false) (h10 : ((y0.fOp >>> 4) == 7#8) = false) (h11 : ((y0.fOp >>> 4) == 9#8) = true) (h12 : (y0.fOff == 0#16) = false) : ConG Try.prog S 52 #[(v_Insn y0)] (.bool false) :=
  fn_conG hU (P := Try.prog) Try.func52 (fun xs w => by kernel_rfl) [(v_Insn y0)] (.bool false)
    [.o, .o, .o, .a 0, .v .u8 (u8_and y0.fOp (8#8)), .tn (u_ne (y0.fOp &&& 8#8) (0#8)) h0, .o, .o, .a 0, .ov (u8_shr Try.prog 5 (.tmp 9) (.const (.int .u64 (4))) y0.fOp 4 .u64 rfl), .t (u_eq (y0.fOp >>> 4) (8#8)) h1, .o, .t (u_eq (y0.fOp >>> 4) (13#8)) h2, .o, .t (u_eq (y0.fOp >>> 4) (0#8)) h3, .o, .t (u_eq (y0.fOp >>> 4) (1#8)) h4, .o, .t (u_eq (y0.fOp >>> 4) (2#8)) h5, .o, .t (u_eq (y0.fOp >>> 4) (3#8)) h6, .o, .t (u_eq (y0.fOp >>> 4) (4#8)) h7, .o, .t (u_eq (y0.fOp >>> 4) (5#8)) h8, .o, .t (u_eq (y0.fOp >>> 4) (6#8)) h9, .o, .t (u_eq (y0.fOp >>> 4) (7#8)) h10, .o, .t (u_eq (y0.fOp >>> 4) (9#8)) h11, .o, .o, .a 0, .t (i_eq y0.fOff (0#16)) h12, .o, .o, .o]
    [] (fun b => by kernel_rfl)
theorem p58_insn_knownAlu (h1 : ((y0.fOp >>> 4) == 8#8) = false) (h2 : ((y0.fOp >>> 4) == 13#8) = false) (h3 : ((y0.fOp >>> 4) == 0#8) = false) (h4 : ((y0.fOp >>> 4) == 1#8) = false) (h5 : ((y0.fOp >>> 4) == 2#8) = false) (h6 : ((y0.fOp >>> 4) == 3#8) = false) (h7 : ((y0.fOp >>> 4) == 4#8) = false) (h8 : ((y0.fOp >>> 4) == 5#8) = false) (h9 : ((y0.fOp >>> 4) == 6#8) = false) (h10 : ((y0.fOp >>> 4) == 7#8) = false) (h11 : ((y0.fOp >>> 4) == 9#8) = false) (h12 : ((y0.fOp >>> 4) == 10#8) = true) (h13 : (y0.fOff == 0#16) = true) (r0 : Bool) (e_r0 : m_insn_plainOperand y0 = r0) : ConG Try.prog S 52 #[(v_Insn y0)] (.bool (r0)) :=
  fn_conG hU (P := Try.prog) Try.func52 (fun xs w => by kernel_rfl) [(v_Insn y0)] (.bool (r0))
    [.o, .o, .o, .a 0, .v .u8 (u8_and y0.fOp (8#8)), .tn (u_ne (y0.fOp &&& 8#8) (0#8)) h0, .o, .o, .a 0, .ov (u8_shr Try.prog 5 (.tmp 9) (.const (.int .u64 (4))) y0.fOp 4 .u64 rfl), .t (u_eq (y0.fOp >>> 4) (8#8)) h1, .o, .t (u_eq (y0.fOp >>> 4) (13#8)) h2, .o, .t (u_eq (y0.fOp >>> 4) (0#8)) h3, .o, .t (u_eq (y0.fOp >>> 4) (1#8)) h4, .o, .t (u_eq (y0.fOp >>> 4) (2#8)) h5, .o, .t (u_eq (y0.fOp >>> 4) (3#8)) h6, .o, .t (u_eq (y0.fOp >>> 4) (4#8)) h7, .o, .t (u_eq (y0.fOp >>> 4) (5#8)) h8, .o, .t (u_eq (y0.fOp >>> 4) (6#8)) h9, .o, .t (u_eq (y0.fOp >>> 4) (7#8)) h10, .o, .t (u_eq (y0.fOp >>> 4) (9#8)) h11, .o, .t (u_eq (y0.fOp >>> 4) (10#8)) h12, .o, .o, .a 0, .t (i_eq y0.fOff (0#16)) h13, .o, .a 0, .cg (ok_insn_plainOperand hU y0 r0 e_r0), .o, .o]
    [] (fun b => by kernel_rfl)
theorem p59_insn_knownAlu (h1 : ((y0.fOp >>> 4) == 8#8) = false) (h2 : ((y0.fOp >>> 4) == 13#8) = false) (h3 : ((y0.fOp >>> 4) == 0#8) = false) (h4 : ((y0.fOp >>> 4) == 1#8) = false) (h5 : ((y0.fOp >>> 4) == 2#8) = false) (h6 : ((y0.fOp >>> 4) == 3#8) = false) (h7 : ((y0.fOp >>> 4) == 4#8) = false) (h8 : ((y0.fOp >>> 4) == 5#8) = false) (h9 : ((y0.fOp >>> 4) == 6#8) = false) (h10 : ((y0.fOp >>> 4) == 7#8) = false) (h11 : ((y0.fOp >>> 4) == 9#8) = false) (h12 : ((y0.fOp >>> 4) == 10#8) = true) (h13 : (y0.fOff == 0#16) = false) : ConG Try.prog S 52 #[(v_Insn y0)] (.bool false) :=
  fn_conG hU (P := Try.prog) Try.func52 (fun xs w => by kernel_rfl) [(v_Insn y0)] (.bool false)
    [.o, .o, .o, .a 0, .v .u8 (u8_and y0.fOp (8#8)), .tn (u_ne (y0.fOp &&& 8#8) (0#8)) h0, .o, .o, .a 0, .ov (u8_shr Try.prog 5 (.tmp 9) (.const (.int .u64 (4))) y0.fOp 4 .u64 rfl), .t (u_eq (y0.fOp >>> 4) (8#8)) h1, .o, .t (u_eq (y0.fOp >>> 4) (13#8)) h2, .o, .t (u_eq (y0.fOp >>> 4) (0#8)) h3, .o, .t (u_eq (y0.fOp >>> 4) (1#8)) h4, .o, .t (u_eq (y0.fOp >>> 4) (2#8)) h5, .o, .t (u_eq (y0.fOp >>> 4) (3#8)) h6, .o, .t (u_eq (y0.fOp >>> 4) (4#8)) h7, .o, .t (u_eq (y0.fOp >>> 4) (5#8)) h8, .o, .t (u_eq (y0.fOp >>> 4) (6#8)) h9, .o, .t (u_eq (y0.fOp >>> 4) (7#8)) h10, .o, .t (u_eq (y0.fOp >>> 4) (9#8)) h11, .o, .t (u_eq (y0.fOp >>> 4) (10#8)) h12, .o, .o, .a 0, .t (i_eq y0.fOff (0#16)) h13, .o, .o, .o]
    [] (fun b => by kernel_rfl)
theorem p60_insn_knownAlu (h1 : ((y0.fOp >>> 4) == 8#8) = false) (h2 : ((y0.fOp >>> 4) == 13#8) = false) (h3 : ((y0.fOp >>> 4) == 0#8) = false) (h4 : ((y0.fOp >>> 4) == 1#8) = false) (h5 : ((y0.fOp >>> 4) == 2#8) = false) (h6 : ((y0.fOp >>> 4) == 3#8) = false) (h7 : ((y0.fOp >>> 4) == 4#8) = false) (h8 : ((y0.fOp >>> 4) == 5#8) = false) (h9 : ((y0.fOp >>> 4) == 6#8) = false) (h10 : ((y0.fOp >>> 4) == 7#8) = false) (h11 : ((y0.fOp >>> 4) == 9#8) = false) (h12 : ((y0.fOp >>> 4) == 10#8) = false) (h13 : ((y0.fOp >>> 4) == 11#8) = true) (h14 : (y0.fOff == 0#16) = true) (r0 : Bool) (e_r0 : m_insn_plainOperand y0 = r0) : ConG Try.prog S 52 #[(v_Insn y0)] (.bool (r0)) :=
  fn_conG hU (P := Try.prog) Try.func52 (fun xs w => by kernel_rfl) [(v_Insn y0)] (.bool (r0))
    [.o, .o, .o, .a 0, .v .u8 (u8_and y0.fOp (8#8)), .tn (u_ne (y0.fOp &&& 8#8) (0#8)) h0, .o, .o, .a 0, .ov (u8_shr Try.prog 5 (.tmp 9) (.const (.int .u64 (4))) y0.fOp 4 .u64 rfl), .t (u_eq (y0.fOp >>> 4) (8#8)) h1, .o, .t (u_eq (y0.fOp >>> 4) (13#8)) h2, .o, .t (u_eq (y0.fOp >>> 4) (0#8)) h3, .o, .t (u_eq (y0.fOp >>> 4) (1#8)) h4, .o, .t (u_eq (y0.fOp >>> 4) (2#8)) h5, .o, .t (u_eq (y0.fOp >>> 4) (3#8)) h6, .o, .t (u_eq (y0.fOp >>> 4) (4#8)) h7, .o, .t (u_eq (y0.fOp >>> 4) (5#8)) h8, .o, .t (u_eq (y0.fOp >>> 4) (6#8)) h9, .o, .t (u_eq (y0.fOp >>> 4) (7#8)) h10, .o, .t (u_eq (y0.fOp >>> 4) (9#8)) h11, .o, .t (u_eq (y0.fOp >>> 4) (10#8)) h12, .o, .t (u_eq (y0.fOp >>> 4) (11#8)) h13, .o, .o, .a 0, .t (i_eq y0.fOff (0#16)) h14, .o, .a 0, .cg (ok_insn_plainOperand hU y0 r0 e_r0), .o, .o]
    [] (fun b => by kernel_rfl)
theorem p61_insn_knownAlu (h1 : ((y0.fOp >>> 4) == 8#8) = false) (h2 : ((y0.fOp >>> 4) == 13#8) = false) (h3 : ((y0.fOp >>> 4) == 0#8) = false) (h4 : ((y0.fOp >>> 4) == 1#8) = false) (h5 : ((y0.fOp >>> 4) == 2#8) = false) (h6 : ((y0.fOp >>> 4) == 3#8) = false) (h7 : ((y0.fOp >>> 4) == 4#8) = false) (h8 : ((y0.fOp >>> 4) == 5#8) = false) (h9 : ((y0.fOp >>> 4) == 6#8) = false) (h10 : ((y0.fOp >>> 4) == 7#8) = false) (h11 : ((y0.fOp >>> 4) == 9#8) = false) (h12 : ((y0.fOp >>> 4) == 10#8) = false) (h13 : ((y0.fOp >>> 4) == 11#8) = true) (h14 : (y0.fOff == 0#16) = false) : ConG Try.prog S 52 #[(v_Insn y0)] (.bool false) :=
  fn_conG hU (P := Try.prog) Try.func52 (fun xs w => by kernel_rfl) [(v_Insn y0)] (.bool false)
    [.o, .o, .o, .a 0, .v .u8 (u8_and y0.fOp (8#8)), .tn (u_ne (y0.fOp &&& 8#8) (0#8)) h0, .o, .o, .a 0, .ov (u8_shr Try.prog 5 (.tmp 9) (.const (.int .u64 (4))) y0.fOp 4 .u64 rfl), .t (u_eq (y0.fOp >>> 4) (8#8)) h1, .o, .t (u_eq (y0.fOp >>> 4) (13#8)) h2, .o, .t (u_eq (y0.fOp >>> 4) (0#8)) h3, .o, .t (u_eq (y0.fOp >>> 4) (1#8)) h4, .o, .t (u_eq (y0.fOp >>> 4) (2#8)) h5, .o, .t (u_eq (y0.fOp >>> 4) (3#8)) h6, .o, .t (u_eq (y0.fOp >>> 4) (4#8)) h7, .o, .t (u_eq (y0.fOp >>> 4) (5#8)) h8, .o, .t (u_eq (y0.fOp >>> 4) (6#8)) h9, .o, .t (u_eq (y0.fOp >>> 4) (7#8)) h10, .o, .t (u_eq (y0.fOp >>> 4) (9#8)) h11, .o, .t (u_eq (y0.fOp >>> 4) (10#8)) h12, .o, .t (u_eq (y0.fOp >>> 4) (11#8)) h13, .o, .o, .a 0, .t (i_eq y0.fOff (0#16)) h14, .o, .o, .o]
    [] (fun b => by kernel_rfl)
theorem p62_insn_knownAlu (h1 : ((y0.fOp >>> 4) == 8#8) = false) (h2 : ((y0.fOp >>> 4) == 13#8) = false) (h3 : ((y0.fOp >>> 4) == 0#8) = false) (h4 : ((y0.fOp >>> 4) == 1#8) = false) (h5 : ((y0.fOp >>> 4) == 2#8) = false) (h6 : ((y0.fOp >>> 4) == 3#8) = false) (h7 : ((y0.fOp >>> 4) == 4#8) = false) (h8 : ((y0.fOp >>> 4) == 5#8) = false) (h9 : ((y0.fOp >>> 4) == 6#8) = false) (h10 : ((y0.fOp >>> 4) == 7#8) = false) (h11 : ((y0.fOp >>> 4) == 9#8) = false) (h12 : ((y0.fOp >>> 4) == 10#8) = false) (h13 : ((y0.fOp >>> 4) == 11#8) = false) (h14 : ((y0.fOp >>> 4) == 12#8) = true) (h15 : (y0.fOff == 0#16) = true) (r0 : Bool) (e_r0 : m_insn_plainOperand y0 = r0) : ConG Try.prog S 52 #[(v_Insn y0)] (.bool (r0)) :=
  fn_conG hU (P := Try.prog) Try.func52 (fun xs w => by kernel_rfl) [(v_Insn y0)] (.bool (r0))
    [.o, .o, .o, .a 0, .v .u8 (u8_and y0.fOp (8#8)), .tn (u_ne (y0.fOp &&& 8#8) (0#8)) h0, .o, .o, .a 0, .ov (u8_shr Try.prog 5 (.tmp 9) (.const (.int .u64 (4))) y0.fOp 4 .u64 rfl), .t (u_eq (y0.fOp >>> 4) (8#8)) h1, .o, .t (u_eq (y0.fOp >>> 4) (13#8)) h2, .o, .t (u_eq (y0.fOp >>> 4) (0#8)) h3, .o, .t (u_eq (y0.fOp >>> 4) (1#8)) h4, .o, .t (u_eq (y0.fOp >>> 4) (2#8)) h5, .o, .t (u_eq (y0.fOp >>> 4) (3#8)) h6, .o, .t (u_eq (y0.fOp >>> 4) (4#8)) h7, .o, .t (u_eq (y0.fOp >>> 4) (5#8)) h8, .o, .t (u_eq (y0.fOp >>> 4) (6#8)) h9, .o, .t (u_eq (y0.fOp >>> 4) (7#8)) h10, .o, .t (u_eq (y0.fOp >>> 4) (9#8)) h11, .o, .t (u_eq (y0.fOp >>> 4) (10#8)) h12, .o, .t (u_eq (y0.fOp >>> 4) (11#8)) h13, .o, .t (u_eq (y0.fOp >>> 4) (12#8)) h14, .o, .o, .a 0, .t (i_eq y0.fOff (0#16)) h15, .o, .a 0, .cg (ok_insn_plainOperand hU y0 r0 e_r0), .o, .o]
    [] (fun b => by kernel_rfl)
theorem p63_insn_knownAlu (h1 : ((y0.fOp >>> 4) == 8#8) = false) (h2 : ((y0.fOp >>> 4) == 13#8) = false) (h3 : ((y0.fOp >>> 4) == 0#8) = false) (h4 : ((y0.fOp >>> 4) == 1#8) = false) (h5 : ((y0.fOp >>> 4) == 2#8) = false) (h6 : ((y0.fOp >>> 4) == 3#8) = false) (h7 : ((y0.fOp >>> 4) == 4#8) = false) (h8 : ((y0.fOp >>> 4) == 5#8) = false) (h9 : ((y0.fOp >>> 4) == 6#8) = false) (h10 : ((y0.fOp >>> 4) == 7#8) = false) (h11 : ((y0.fOp >>> 4) == 9#8) = false) (h12 : ((y0.fOp >>> 4) == 10#8) = false) (h13 : ((y0.fOp >>> 4) == 11#8) = false) (h14 : ((y0.fOp >>> 4) == 12#8) = true) (h15 : (y0.fOff == 0#16) = false) : ConG Try.prog S 52 #[(v_Insn y0)] (.bool false) :=
  fn_conG hU (P := Try.prog) Try.func52 (fun xs w => by kernel_rfl) [(v_Insn y0)] (.bool false)
    [.o, .o, .o, .a 0, .v .u8 (u8_and y0.fOp (8#8)), .tn (u_ne (y0.fOp &&& 8#8) (0#8)) h0, .o, .o, .a 0, .ov (u8_shr Try.prog 5 (.tmp 9) (.const (.int .u64 (4))) y0.fOp 4 .u64 rfl), .t (u_eq (y0.fOp >>> 4) (8#8)) h1, .o, .t (u_eq (y0.fOp >>> 4) (13#8)) h2, .o, .t (u_eq (y0.fOp >>> 4) (0#8)) h3, .o, .t (u_eq (y0.fOp >>> 4) (1#8)) h4, .o, .t (u_eq (y0.fOp >>> 4) (2#8)) h5, .o, .t (u_eq (y0.fOp >>> 4) (3#8)) h6, .o, .t (u_eq (y0.fOp >>> 4) (4#8)) h7, .o, .t (u_eq (y0.fOp >>> 4) (5#8)) h8, .o, .t (u_eq (y0.fOp >>> 4) (6#8)) h9, .o, .t (u_eq (y0.fOp >>> 4) (7#8)) h10, .o, .t (u_eq (y0.fOp >>> 4) (9#8)) h11, .o, .t (u_eq (y0.fOp >>> 4) (10#8)) h12, .o, .t (u_eq (y0.fOp >>> 4) (11#8)) h13, .o, .t (u_eq (y0.fOp >>> 4) (12#8)) h14, .o, .o, .a 0, .t (i_eq y0.fOff (0#16)) h15, .o, .o, .o]
    [] (fun b => by kernel_rfl)
theorem p64_insn_knownAlu (h1 : ((y0.fOp >>> 4) == 8#8) = false) (h2 : ((y0.fOp >>> 4) == 13#8) = false) (h3 : ((y0.fOp >>> 4) == 0#8) = false) (h4 : ((y0.fOp >>> 4) == 1#8) = false) (h5 : ((y0.fOp >>> 4) == 2#8) = false) (h6 : ((y0.fOp >>> 4) == 3#8) = false) (h7 : ((y0.fOp >>> 4) == 4#8) = false) (h8 : ((y0.fOp >>> 4) == 5#8) = false) (h9 : ((y0.fOp >>> 4) == 6#8) = false) (h10 : ((y0.fOp >>> 4) == 7#8) = false) (h11 : ((y0.fOp >>> 4) == 9#8) = false) (h12 : ((y0.fOp >>> 4) == 10#8) = false) (h13 : ((y0.fOp >>> 4) == 11#8) = false) (h14 : ((y0.fOp >>> 4) == 12#8) = false) : ConG Try.prog S 52 #[(v_Insn y0)] (.bool false) :=
  fn_conG hU (P := Try.prog) Try.func52 (fun xs w => by kernel_rfl) [(v_Insn y0)] (.bool false)
    [.o, .o, .o, .a 0, .v .u8 (u8_and y0.fOp (8#8)), .tn (u_ne (y0.fOp &&& 8#8) (0#8)) h0, .o, .o, .a 0, .ov (u8_shr Try.prog 5 (.tmp 9) (.const (.int .u64 (4))) y0.fOp 4 .u64 rfl), .t (u_eq (y0.fOp >>> 4) (8#8)) h1, .o, .t (u_eq (y0.fOp >>> 4) (13#8)) h2, .o, .t (u_eq (y0.fOp >>> 4) (0#8)) h3, .o, .t (u_eq (y0.fOp >>> 4) (1#8)) h4, .o, .t (u_eq (y0.fOp >>> 4) (2#8)) h5, .o, .t (u_eq (y0.fOp >>> 4) (3#8)) h6, .o, .t (u_eq (y0.fOp >>> 4) (4#8)) h7, .o, .t (u_eq (y0.fOp >>> 4) (5#8)) h8, .o, .t (u_eq (y0.fOp >>> 4) (6#8)) h9, .o, .t (u_eq (y0.fOp >>> 4) (7#8)) h10, .o, .t (u_eq (y0.fOp >>> 4) (9#8)) h11, .o, .t (u_eq (y0.fOp >>> 4) (10#8)) h12, .o, .t (u_eq (y0.fOp >>> 4) (11#8)) h13, .o, .t (u_eq (y0.fOp >>> 4) (12#8)) h14, .o, .o]
    [] (fun b => by kernel_rfl)
end
section
variable {M : Nat → Prop} {B0 : Nat} {S : World → Prop} (hU : Up M B0 S) (y0 : Insn)
include hU y0
theorem ok_insn_knownAlu (r : Bool) (e : m_insn_knownAlu y0 = r) : ConG Try.prog S 52 #[(v_Insn y0)] (.bool (r)) := by
  unfold m_insn_knownAlu at e
  replace e := cond_eq_or e
  rcases e with ⟨hq0, e⟩ | ⟨hq0, e⟩
  · replace e := cond_eq_or e
    rcases e with ⟨hq1, e⟩ | ⟨hq1, e⟩
    · replace e := cond_eq_or e
      rcases e with ⟨hq2, e⟩ | ⟨hq2, e⟩
      · replace e := cond_eq_or e
        rcases e with ⟨hq3, e⟩ | ⟨hq3, e⟩
        · subst e; exact p0_insn_knownAlu hU y0 hq0 hq1 hq2 hq3
        · subst e; exact p1_insn_knownAlu hU y0 hq0 hq1 hq2 hq3
      · subst e; exact p2_insn_knownAlu hU y0 hq0 hq1 hq2
    · replace e := cond_eq_or e
      rcases e with ⟨hq2, e⟩ | ⟨hq2, e⟩
      · replace e := cond_eq_or e
        rcases e with ⟨hq3, e⟩ | ⟨hq3, e⟩
        · replace e := cond_eq_or e
          rcases e with ⟨hq4, e⟩ | ⟨hq4, e⟩
          · replace e := cond_eq_or e
            rcases e with ⟨hq5, e⟩ | ⟨hq5, e⟩
            · subst e; exact p3_insn_knownAlu hU y0 hq0 hq1 hq2 hq3 hq4 hq5
            · replace e := cond_eq_or e
              rcases e with ⟨hq6, e⟩ | ⟨hq6, e⟩
              · subst e; exact p4_insn_knownAlu hU y0 hq0 hq1 hq2 hq3 hq4 hq5 hq6
              · subst e; exact p5_insn_knownAlu hU y0 hq0 hq1 hq2 hq3 hq4 hq5 hq6
          · subst e; exact p6_insn_knownAlu hU y0 hq0 hq1 hq2 hq3 hq4
        · subst e; exact p7_insn_knownAlu hU y0 hq0 hq1 hq2 hq3
      · replace e := cond_eq_or e
        rcases e with ⟨hq3, e⟩ | ⟨hq3, e⟩
        · replace e := cond_eq_or e
          rcases e with ⟨hq4, e⟩ | ⟨hq4, e⟩
          · replace e := bindT_eq e
            obtain ⟨r0, e_r0, e⟩ := e
            try dsimp only at e
            subst e; exact p8_insn_knownAlu hU y0 hq0 hq1 hq2 hq3 hq4 r0 e_r0
          · subst e; exact p9_insn_knownAlu hU y0 hq0 hq1 hq2 hq3 hq4
        · replace e := cond_eq_or e
          rcases e with ⟨hq4, e⟩ | ⟨hq4, e⟩
          · replace e := cond_eq_or e
            rcases e with ⟨hq5, e⟩ | ⟨hq5, e⟩
            · replace e := bindT_eq e
              obtain ⟨r0, e_r0, e⟩ := e
              try dsimp only at e
              subst e; exact p10_insn_knownAlu hU y0 hq0 hq1 hq2 hq3 hq4 hq5 r0 e_r0
            · subst e; exact p11_insn_knownAlu hU y0 hq0 hq1 hq2 hq3 hq4 hq5
          · replace e := cond_eq_or e
            rcases e with ⟨hq5, e⟩ | ⟨hq5, e⟩
            · replace e := cond_eq_or e
              rcases e with ⟨hq6, e⟩ | ⟨hq6, e⟩
              · replace e := bindT_eq e
                obtain ⟨r0, e_r0, e⟩ := e
                try dsimp only at e
                subst e; exact p12_insn_knownAlu hU y0 hq0 hq1 hq2 hq3 hq4 hq5 hq6 r0 e_r0
              · subst e; exact p13_insn_knownAlu hU y0 hq0 hq1 hq2 hq3 hq4 hq5 hq6
            · replace e := cond_eq_or e
              rcases e with ⟨hq6, e⟩ | ⟨hq6, e⟩
              · replace e := cond_eq_or e
                rcases e with ⟨hq7, e⟩ | ⟨hq7, e⟩
                · replace e := bindT_eq e
                  obtain ⟨r0, e_r0, e⟩ := e
                  try dsimp only at e
                  subst e; exact p14_insn_knownAlu hU y0 hq0 hq1 hq2 hq3 hq4 hq5 hq6 hq7 r0 e_r0
                · subst e; exact p15_insn_knownAlu hU y0 hq0 hq1 hq2 hq3 hq4 hq5 hq6 hq7
              · replace e := cond_eq_or e
                rcases e with ⟨hq7, e⟩ | ⟨hq7, e⟩
                · replace e := cond_eq_or e
                  rcases e with ⟨hq8, e⟩ | ⟨hq8, e⟩
                  · replace e := bindT_eq e
                    obtain ⟨r0, e_r0, e⟩ := e
                    try dsimp only at e
                    subst e; exact p16_insn_knownAlu hU y0 hq0 hq1 hq2 hq3 hq4 hq5 hq6 hq7 hq8 r0 e_r0
                  · subst e; exact p17_insn_knownAlu hU y0 hq0 hq1 hq2 hq3 hq4 hq5 hq6 hq7 hq8
                · replace e := cond_eq_or e
                  rcases e with ⟨hq8, e⟩ | ⟨hq8, e⟩
                  · replace e := cond_eq_or e
                    rcases e with ⟨hq9, e⟩ | ⟨hq9, e⟩
                    · replace e := bindT_eq e
                      obtain ⟨r0, e_r0, e⟩ := e
                      try dsimp only at e
                      subst e; exact p18_insn_knownAlu hU y0 hq0 hq1 hq2 hq3 hq4 hq5 hq6 hq7 hq8 hq9 r0 e_r0
                    · subst e; exact p19_insn_knownAlu hU y0 hq0 hq1 hq2 hq3 hq4 hq5 hq6 hq7 hq8 hq9
                  · replace e := cond_eq_or e
                    rcases e with ⟨hq9, e⟩ | ⟨hq9, e⟩
                    · replace e := cond_eq_or e
                      rcases e with ⟨hq10, e⟩ | ⟨hq10, e⟩
                      · replace e := bindT_eq e
                        obtain ⟨r0, e_r0, e⟩ := e
                        try dsimp only at e
                        subst e; exact p20_insn_knownAlu hU y0 hq0 hq1 hq2 hq3 hq4 hq5 hq6 hq7 hq8 hq9 hq10 r0 e_r0
                      · subst e; exact p21_insn_knownAlu hU y0 hq0 hq1 hq2 hq3 hq4 hq5 hq6 hq7 hq8 hq9 hq10
                    · replace e := cond_eq_or e
                      rcases e with ⟨hq10, e⟩ | ⟨hq10, e⟩
                      · replace e := cond_eq_or e
                        rcases e with ⟨hq11, e⟩ | ⟨hq11, e⟩
                        · replace e := bindT_eq e
                          obtain ⟨r0, e_r0, e⟩ := e
                          try dsimp only at e
                          subst e; exact p22_insn_knownAlu hU y0 hq0 hq1 hq2 hq3 hq4 hq5 hq6 hq7 hq8 hq9 hq10 hq11 r0 e_r0
                        · subst e; exact p23_insn_knownAlu hU y0 hq0 hq1 hq2 hq3 hq4 hq5 hq6 hq7 hq8 hq9 hq10 hq11
                      · replace e := cond_eq_or e
                        rcases e with ⟨hq11, e⟩ | ⟨hq11, e⟩
                        · replace e := cond_eq_or e
                          rcases e with ⟨hq12, e⟩ | ⟨hq12, e⟩
                          · replace e := bindT_eq e
                            obtain ⟨r0, e_r0, e⟩ := e
                            try dsimp only at e
                            subst e; exact p24_insn_knownAlu hU y0 hq0 hq1 hq2 hq3 hq4 hq5 hq6 hq7 hq8 hq9 hq10 hq11 hq12 r0 e_r0
                          · subst e; exact p25_insn_knownAlu hU y0 hq0 hq1 hq2 hq3 hq4 hq5 hq6 hq7 hq8 hq9 hq10 hq11 hq12
                        · replace e := cond_eq_or e
                          rcases e with ⟨hq12, e⟩ | ⟨hq12, e⟩
                          · replace e := cond_eq_or e
                            rcases e with ⟨hq13, e⟩ | ⟨hq13, e⟩
                            · replace e := bindT_eq e
                              obtain ⟨r0, e_r0, e⟩ := e
                              try dsimp only at e
                              subst e; exact p26_insn_knownAlu hU y0 hq0 hq1 hq2 hq3 hq4 hq5 hq6 hq7 hq8 hq9 hq10 hq11 hq12 hq13 r0 e_r0
                            · subst e; exact p27_insn_knownAlu hU y0 hq0 hq1 hq2 hq3 hq4 hq5 hq6 hq7 hq8 hq9 hq10 hq11 hq12 hq13
                          · replace e := cond_eq_or e
                            rcases e with ⟨hq13, e⟩ | ⟨hq13, e⟩
                            · replace e := cond_eq_or e
                              rcases e with ⟨hq14, e⟩ | ⟨hq14, e⟩
                              · replace e := bindT_eq e
                                obtain ⟨r0, e_r0, e⟩ := e
                                try dsimp only at e
                                subst e; exact p28_insn_knownAlu hU y0 hq0 hq1 hq2 hq3 hq4 hq5 hq6 hq7 hq8 hq9 hq10 hq11 hq12 hq13 hq14 r0 e_r0
                              · subst e; exact p29_insn_knownAlu hU y0 hq0 hq1 hq2 hq3 hq4 hq5 hq6 hq7 hq8 hq9 hq10 hq11 hq12 hq13 hq14
                            · replace e := cond_eq_or e
                              rcases e with ⟨hq14, e⟩ | ⟨hq14, e⟩
                              · replace e := cond_eq_or e
                                rcases e with ⟨hq15, e⟩ | ⟨hq15, e⟩
                                · replace e := bindT_eq e
                                  obtain ⟨r0, e_r0, e⟩ := e
                                  try dsimp only at e
                                  subst e; exact p30_insn_knownAlu hU y0 hq0 hq1 hq2 hq3 hq4 hq5 hq6 hq7 hq8 hq9 hq10 hq11 hq12 hq13 hq14 hq15 r0 e_r0
                                · subst e; exact p31_insn_knownAlu hU y0 hq0 hq1 hq2 hq3 hq4 hq5 hq6 hq7 hq8 hq9 hq10 hq11 hq12 hq13 hq14 hq15
                              · subst e; exact p32_insn_knownAlu hU y0 hq0 hq1 hq2 hq3 hq4 hq5 hq6 hq7 hq8 hq9 hq10 hq11 hq12 hq13 hq14
  · replace e := cond_eq_or e
    rcases e with ⟨hq1, e⟩ | ⟨hq1, e⟩
    · subst e; exact p33_insn_knownAlu hU y0 hq0 hq1
    · replace e := cond_eq_or e
      rcases e with ⟨hq2, e⟩ | ⟨hq2, e⟩
      · replace e := cond_eq_or e
        rcases e with ⟨hq3, e⟩ | ⟨hq3, e⟩
        · subst e; exact p34_insn_knownAlu hU y0 hq0 hq1 hq2 hq3
        · replace e := cond_eq_or e
          rcases e with ⟨hq4, e⟩ | ⟨hq4, e⟩
          · replace e := cond_eq_or e
            rcases e with ⟨hq5, e⟩ | ⟨hq5, e⟩
            · replace e := cond_eq_or e
              rcases e with ⟨hq6, e⟩ | ⟨hq6, e⟩
              · subst e; exact p35_insn_knownAlu hU y0 hq0 hq1 hq2 hq3 hq4 hq5 hq6
              · replace e := cond_eq_or e
                rcases e with ⟨hq7, e⟩ | ⟨hq7, e⟩
                · subst e; exact p36_insn_knownAlu hU y0 hq0 hq1 hq2 hq3 hq4 hq5 hq6 hq7
                · subst e; exact p37_insn_knownAlu hU y0 hq0 hq1 hq2 hq3 hq4 hq5 hq6 hq7
            · subst e; exact p38_insn_knownAlu hU y0 hq0 hq1 hq2 hq3 hq4 hq5
          · subst e; exact p39_insn_knownAlu hU y0 hq0 hq1 hq2 hq3 hq4
      · replace e := cond_eq_or e
        rcases e with ⟨hq3, e⟩ | ⟨hq3, e⟩
        · replace e := cond_eq_or e
          rcases e with ⟨hq4, e⟩ | ⟨hq4, e⟩
          · replace e := bindT_eq e
            obtain ⟨r0, e_r0, e⟩ := e
            try dsimp only at e
            subst e; exact p40_insn_knownAlu hU y0 hq0 hq1 hq2 hq3 hq4 r0 e_r0
          · subst e; exact p41_insn_knownAlu hU y0 hq0 hq1 hq2 hq3 hq4
        · replace e := cond_eq_or e
          rcases e with ⟨hq4, e⟩ | ⟨hq4, e⟩
          · replace e := cond_eq_or e
            rcases e with ⟨hq5, e⟩ | ⟨hq5, e⟩
            · replace e := bindT_eq e
              obtain ⟨r0, e_r0, e⟩ := e
              try dsimp only at e
              subst e; exact p42_insn_knownAlu hU y0 hq0 hq1 hq2 hq3 hq4 hq5 r0 e_r0
            · subst e; exact p43_insn_knownAlu hU y0 hq0 hq1 hq2 hq3 hq4 hq5
          · replace e := cond_eq_or e
            rcases e with ⟨hq5, e⟩ | ⟨hq5, e⟩
            · replace e := cond_eq_or e
              rcases e with ⟨hq6, e⟩ | ⟨hq6, e⟩
              · replace e := bindT_eq e
                obtain ⟨r0, e_r0, e⟩ := e
                try dsimp only at e
                subst e; exact p44_insn_knownAlu hU y0 hq0 hq1 hq2 hq3 hq4 hq5 hq6 r0 e_r0
              · subst e; exact p45_insn_knownAlu hU y0 hq0 hq1 hq2 hq3 hq4 hq5 hq6
            · replace e := cond_eq_or e
              rcases e with ⟨hq6, e⟩ | ⟨hq6, e⟩
              · replace e := cond_eq_or e
                rcases e with ⟨hq7, e⟩ | ⟨hq7, e⟩
                · replace e := bindT_eq e
                  obtain ⟨r0, e_r0, e⟩ := e
                  try dsimp only at e
                  subst e; exact p46_insn_knownAlu hU y0 hq0 hq1 hq2 hq3 hq4 hq5 hq6 hq7 r0 e_r0
                · subst e; exact p47_insn_knownAlu hU y0 hq0 hq1 hq2 hq3 hq4 hq5 hq6 hq7
              · replace e := cond_eq_or e
                rcases e with ⟨hq7, e⟩ | ⟨hq7, e⟩
                · replace e := cond_eq_or e
                  rcases e with ⟨hq8, e⟩ | ⟨hq8, e⟩
                  · replace e := bindT_eq e
                    obtain ⟨r0, e_r0, e⟩ := e
                    try dsimp only at e
                    subst e; exact p48_insn_knownAlu hU y0 hq0 hq1 hq2 hq3 hq4 hq5 hq6 hq7 hq8 r0 e_r0
                  · subst e; exact p49_insn_knownAlu hU y0 hq0 hq1 hq2 hq3 hq4 hq5 hq6 hq7 hq8
                · replace e := cond_eq_or e
                  rcases e with ⟨hq8, e⟩ | ⟨hq8, e⟩
                  · replace e := cond_eq_or e
                    rcases e with ⟨hq9, e⟩ | ⟨hq9, e⟩
                    · replace e := bindT_eq e
                      obtain ⟨r0, e_r0, e⟩ := e
                      try dsimp only at e
                      subst e; exact p50_insn_knownAlu hU y0 hq0 hq1 hq2 hq3 hq4 hq5 hq6 hq7 hq8 hq9 r0 e_r0
                    · subst e; exact p51_insn_knownAlu hU y0 hq0 hq1 hq2 hq3 hq4 hq5 hq6 hq7 hq8 hq9
                  · replace e := cond_eq_or e
                    rcases e with ⟨hq9, e⟩ | ⟨hq9, e⟩
                    · replace e := cond_eq_or e
                      rcases e with ⟨hq10, e⟩ | ⟨hq10, e⟩
                      · replace e := bindT_eq e
                        obtain ⟨r0, e_r0, e⟩ := e
                        try dsimp only at e
                        subst e; exact p52_insn_knownAlu hU y0 hq0 hq1 hq2 hq3 hq4 hq5 hq6 hq7 hq8 hq9 hq10 r0 e_r0
                      · subst e; exact p53_insn_knownAlu hU y0 hq0 hq1 hq2 hq3 hq4 hq5 hq6 hq7 hq8 hq9 hq10
                    · replace e := cond_eq_or e
                      rcases e with ⟨hq10, e⟩ | ⟨hq10, e⟩
                      · replace e := cond_eq_or e
                        rcases e with ⟨hq11, e⟩ | ⟨hq11, e⟩
                        · replace e := bindT_eq e
                          obtain ⟨r0, e_r0, e⟩ := e
                          try dsimp only at e
                          subst e; exact p54_insn_knownAlu hU y0 hq0 hq1 hq2 hq3 hq4 hq5 hq6 hq7 hq8 hq9 hq10 hq11 r0 e_r0
                        · subst e; exact p55_insn_knownAlu hU y0 hq0 hq1 hq2 hq3 hq4 hq5 hq6 hq7 hq8 hq9 hq10 hq11
                      · replace e := cond_eq_or e
                        rcases e with ⟨hq11, e⟩ | ⟨hq11, e⟩
                        · replace e := cond_eq_or e
                          rcases e with ⟨hq12, e⟩ | ⟨hq12, e⟩
                          · replace e := bindT_eq e
                            obtain ⟨r0, e_r0, e⟩ := e
                            try dsimp only at e
                            subst e; exact p56_insn_knownAlu hU y0 hq0 hq1 hq2 hq3 hq4 hq5 hq6 hq7 hq8 hq9 hq10 hq11 hq12 r0 e_r0
                          · subst e; exact p57_insn_knownAlu hU y0 hq0 hq1 hq2 hq3 hq4 hq5 hq6 hq7 hq8 hq9 hq10 hq11 hq12
                        · replace e := cond_eq_or e
                          rcases e with ⟨hq12, e⟩ | ⟨hq12, e⟩
                          · replace e := cond_eq_or e
                            rcases e with ⟨hq13, e⟩ | ⟨hq13, e⟩
                            · replace e := bindT_eq e
                              obtain ⟨r0, e_r0, e⟩ := e
                              try dsimp only at e
                              subst e; exact p58_insn_knownAlu hU y0 hq0 hq1 hq2 hq3 hq4 hq5 hq6 hq7 hq8 hq9 hq10 hq11 hq12 hq13 r0 e_r0
                            · subst e; exact p59_insn_knownAlu hU y0 hq0 hq1 hq2 hq3 hq4 hq5 hq6 hq7 hq8 hq9 hq10 hq11 hq12 hq13
                          · replace e := cond_eq_or e
                            rcases e with ⟨hq13, e⟩ | ⟨hq13, e⟩
                            · replace e := cond_eq_or e
                              rcases e with ⟨hq14, e⟩ | ⟨hq14, e⟩
                              · replace e := bindT_eq e
                                obtain ⟨r0, e_r0, e⟩ := e
                                try dsimp only at e
                                subst e; exact p60_insn_knownAlu hU y0 hq0 hq1 hq2 hq3 hq4 hq5 hq6 hq7 hq8 hq9 hq10 hq11 hq12 hq13 hq14 r0 e_r0
                              · subst e; exact p61_insn_knownAlu hU y0 hq0 hq1 hq2 hq3 hq4 hq5 hq6 hq7 hq8 hq9 hq10 hq11 hq12 hq13 hq14
                            · replace e := cond_eq_or e
                              rcases e with ⟨hq14, e⟩ | ⟨hq14, e⟩
                              · replace e := cond_eq_or e
                                rcases e with ⟨hq15, e⟩ | ⟨hq15, e⟩
                                · replace e := bindT_eq e
                                  obtain ⟨r0, e_r0, e⟩ := e
                                  try dsimp only at e
                                  subst e; exact p62_insn_knownAlu hU y0 hq0 hq1 hq2 hq3 hq4 hq5 hq6 hq7 hq8 hq9 hq10 hq11 hq12 hq13 hq14 hq15 r0 e_r0
                                · subst e; exact p63_insn_knownAlu hU y0 hq0 hq1 hq2 hq3 hq4 hq5 hq6 hq7 hq8 hq9 hq10 hq11 hq12 hq13 hq14 hq15
                              · subst e; exact p64_insn_knownAlu hU y0 hq0 hq1 hq2 hq3 hq4 hq5 hq6 hq7 hq8 hq9 hq10 hq11 hq12 hq13 hq14
noncomputable def m_insn_known (y0 : Insn) : Bool :=
  bif y0.fOp == 24#8 then
    (bif y0.fOff == 0#16 then
      (bif y0.fSrc == 0#8 then
        (true)
      else (bif y0.fSrc == 1#8 then
        (true)
      else ((y0.fSrc == 4#8))))
    else (false))
  else (bif y0.fOp == 98#8 then
    ((y0.fSrc == 0#8))
  else (bif y0.fOp == 106#8 then
    ((y0.fSrc == 0#8))
  else (bif y0.fOp == 114#8 then
    ((y0.fSrc == 0#8))
  else (bif y0.fOp == 122#8 then
    ((y0.fSrc == 0#8))
  else (bif y0.fOp == 97#8 then
    ((y0.fImm == 0#32))
  else (bif y0.fOp == 105#8 then
    ((y0.fImm == 0#32))
  else (bif y0.fOp == 113#8 then
    ((y0.fImm == 0#32))
  else (bif y0.fOp == 121#8 then
    ((y0.fImm == 0#32))
  else (bif y0.fOp == 99#8 then
    ((y0.fImm == 0#32))
  else (bif y0.fOp == 107#8 then
    ((y0.fImm == 0#32))
  else (bif y0.fOp == 115#8 then
    ((y0.fImm == 0#32))
  else (bif y0.fOp == 123#8 then
    ((y0.fImm == 0#32))
  else (bif y0.fOp == 5#8 then
    (((y0.fOp == 5#8) && ((y0.fDst == 0#8) && ((y0.fSrc == 0#8) && ((y0.fOff == y0.fOff) && (y0.fImm == 0#32))))))
  else (bif y0.fOp == 133#8 then
    (bif y0.fDst == 0#8 then
      (bif y0.fOff == 0#16 then
        (bif y0.fSrc == 0#8 then
          (true)
        else ((y0.fSrc == 1#8)))
      else (false))
    else (false))
  else (bif y0.fOp == 149#8 then
    (((y0.fOp == 149#8) && ((y0.fDst == 0#8) && ((y0.fSrc == 0#8) && ((y0.fOff == 0#16) && (y0.fImm == 0#32))))))
  else (bif (y0.fOp &&& 7#8) == 4#8 then
    (bindT (m_insn_knownAlu y0) fun r0 =>
    r0)
  else (bif (y0.fOp &&& 7#8) == 7#8 then
    (bindT (m_insn_knownAlu y0) fun r0 =>
    r0)
  else (bif (y0.fOp &&& 7#8) == 5#8 then
    (bif m_insn_compares y0 then
      (bindT (m_insn_plainOperand y0) fun r0 =>
      r0)
    else (false))
  else (bif (y0.fOp &&& 7#8) == 6#8 then
    (bif m_insn_compares y0 then
      (bindT (m_insn_plainOperand y0) fun r0 =>
      r0)
    else (false))
  else (false))))))))))))))))))))
end
section
variable {M : Nat → Prop} {B0 : Nat} {S : World → Prop} (hU : Up M B0 S) (y0 : Insn) (h0 : (y0.fOp == 24#8) = true) (h1 : (y0.fOff == 0#16) = true)
include hU y0 h0 h1
theorem p0_insn_known (h2 : (y0.fSrc == 0#8) = true) : ConG Try.prog S 44 #[(v_Insn y0)] (.bool true) :=
  fn_conG hU (P := Try.prog) Try.func44 (fun xs w => by kernel_rfl) [(v_Insn y0)] (.bool true)
    [.o, .o, .o, .a 0, .t (u_eq y0.fOp (24#8)) h0, .o, .o, .a 0, .t (i_eq y0.fOff (0#16)) h1, .o, .o, .a 0, .t (u_eq y0.fSrc (0#8)) h2, .o, .o, .o, .o, .o, .o]
    [] (fun b => by kernel_rfl)
theorem p1_insn_known (h2 : (y0.fSrc == 0#8) = false) (h3 : (y0.fSrc == 1#8) = true) : ConG Try.prog S 44 #[(v_Insn y0)] (.bool true) :=
  fn_conG hU (P := Try.prog) Try.func44 (fun xs w => by kernel_rfl) [(v_Insn y0)] (.bool true)
    [.o, .o, .o, .a 0, .t (u_eq y0.fOp (24#8)) h0, .o, .o, .a 0, .t (i_eq y0.fOff (0#16)) h1, .o, .o, .a 0, .t (u_eq y0.fSrc (0#8)) h2, .o, .o, .a 0, .t (u_eq y0.fSrc (1#8)) h3, .o, .o, .o, .o, .o]
    [] (fun b => by kernel_rfl)
theorem p2_insn_known (h2 : (y0.fSrc == 0#8) = false) (h3 : (y0.fSrc == 1#8) = false) : ConG Try.prog S 44 #[(v_Insn y0)] (.bool ((y0.fSrc == 4#8))) :=
  fn_conG hU (P := Try.prog) Try.func44 (fun xs w => by kernel_rfl) [(v_Insn y0)] (.bool ((y0.fSrc == 4#8)))
    [.o, .o, .o, .a 0, .t (u_eq y0.fOp (24#8)) h0, .o, .o, .a 0, .t (i_eq y0.fOff (0#16)) h1, .o, .o, .a 0, .t (u_eq y0.fSrc (0#8)) h2, .o, .o, .a 0, .t (u_eq y0.fSrc (1#8)) h3, .o, .o, .o, .a 0, .t (u_eq y0.fSrc (4#8)) rfl, .o, .o, .o]
    [] (fun b => by kernel_rfl)
end
section
variable {M : Nat → Prop} {B0 : Nat} {S : World → Prop} (hU : Up M B0 S) (y0 : Insn)
include hU y0
theorem p3_insn_known (h0 : (y0.fOp == 24#8) = true) (h1 : (y0.fOff == 0#16) = false) : ConG Try.prog S 44 #[(v_Insn y0)] (.bool false) :=
  fn_conG hU (P := Try.prog) Try.func44 (fun xs w => by kernel_rfl) [(v_Insn y0)] (.bool false)
    [.o, .o, .o, .a 0, .t (u_eq y0.fOp (24#8)) h0, .o, .o, .a 0, .t (i_eq y0.fOff (0#16)) h1, .o, .o, .o]
    [] (fun b => by kernel_rfl)
theorem p4_insn_known (h0 : (y0.fOp == 24#8) = false) (h1 : (y0.fOp == 98#8) = true) : ConG Try.prog S 44 #[(v_Insn y0)] (.bool ((y0.fSrc == 0#8))) :=
  fn_conG hU (P := Try.prog) Try.func44 (fun xs w => by kernel_rfl) [(v_Insn y0)] (.bool ((y0.fSrc == 0#8)))
    [.o, .o, .o, .a 0, .t (u_eq y0.fOp (24#8)) h0, .o, .t (u_eq y0.fOp (98#8)) h1, .o, .o, .a 0, .t (u_eq y0.fSrc (0#8)) rfl, .o]
    [] (fun b => by kernel_rfl)
end
section
variable {M : Nat → Prop} {B0 : Nat} {S : World → Prop} (hU : Up M B0 S) (y0 : Insn) (h0 : (y0.fOp == 24#8) = false) (h1 : (y0.fOp == 98#8) = false)
include hU y0 h0 h1
theorem p5_insn_known (h2 : (y0.fOp == 106#8) = true) : ConG Try.prog S 44 #[(v_Insn y0)] (.bool ((y0.fSrc == 0#8))) :=
  fn_conG hU (P := Try.prog) Try.func44 (fun xs w => by kernel_rfl) [(v_Insn y0)] (.bool ((y0.fSrc == 0#8)))
    [.o, .o, .o, .a 0, .t (u_eq y0.fOp (24#8)) h0, .o, .t (u_eq y0.fOp (98#8)) h1, .o, .t (u_eq y0.fOp (106#8)) h2, .o, .o, .a 0, .t (u_eq y0.fSrc (0#8)) rfl, .o]
    [] (fun b => by kernel_rfl)
theorem p6_insn_known (h2 : (y0.fOp == 106#8) = false) (h3 : (y0.fOp == 114#8) = true) : ConG Try.prog S 44 #[(v_Insn y0)] (.bool ((y0.fSrc == 0#8))) :=
  fn_conG hU (P := Try.prog) Try.func44 (fun xs w => by kernel_rfl) [(v_Insn y0)] (.bool ((y0.fSrc == 0#8)))
    [.o, .o, .o, .a 0, .t (u_eq y0.fOp (24#8)) h0, .o, .t (u_eq y0.fOp (98#8)) h1, .o, .t (u_eq y0.fOp (106#8)) h2, .o, .t (u_eq y0.fOp (114#8)) h3, .o, .o, .a 0, .t (u_eq y0.fSrc (0#8)) rfl, .o]
    [] (fun b => by kernel_rfl)
theorem p7_insn_known (h2 : (y0.fOp == 106#8) = false) (h3 : (y0.fOp == 114#8) = false) (h4 : (y0.fOp == 122#8) = true) : ConG Try.prog S 44 #[(v_Insn y0)] (.bool ((y0.fSrc == 0#8))) :=
  fn_conG hU (P := Try.prog) Try.func44 (fun xs w => by kernel_rfl) [(v_Insn y0)] (.bool ((y0.fSrc == 0#8)))
    [.o, .o, .o, .a 0, .t (u_eq y0.fOp (24#8)) h0, .o, .t (u_eq y0.fOp (98#8)) h1, .o, .t (u_eq y0.fOp (106#8)) h2, .o, .t (u_eq y0.fOp (114#8)) h3, .o, .t (u_eq y0.fOp (122#8)) h4, .o, .o, .a 0, .t (u_eq y0.fSrc (0#8)) rfl, .o]
    [] (fun b => by kernel_rfl)
theorem p8_insn_known (h2 : (y0.fOp == 106#8) = false) (h3 : (y0.fOp == 114#8) = false) (h4 : (y0.fOp == 122#8) = false) (h5 : (y0.fOp == 97#8) = true) : ConG Try.prog S 44 #[(v_Insn y0)] (.bool ((y0.fImm == 0#32))) :=
  fn_conG hU (P := Try.prog) Try.func44 (fun xs w => by kernel_rfl) [(v_Insn y0)] (.bool ((y0.fImm == 0#32)))
    [.o, .o, .o, .a 0, .t (u_eq y0.fOp (24#8)) h0, .o, .t (u_eq y0.fOp (98#8)) h1, .o, .t (u_eq y0.fOp (106#8)) h2, .o, .t (u_eq y0.fOp (114#8)) h3, .o, .t (u_eq y0.fOp (122#8)) h4, .o, .t (u_eq y0.fOp (97#8)) h5, .o, .o, .a 0, .t (i_eq y0.fImm (0#32)) rfl, .o]
    [] (fun b => by kernel_rfl)
theorem p9_insn_known (h2 : (y0.fOp == 106#8) = false) (h3 : (y0.fOp == 114#8) = false) (h4 : (y0.fOp == 122#8) = false) (h5 : (y0.fOp == 97#8) = false) (h6 : (y0.fOp == 105#8) = true) : ConG Try.prog S 44 #[(v_Insn y0)] (.bool ((y0.fImm == 0#32))) :=
  fn_conG hU (P := Try.prog) Try.func44 (fun xs w => by kernel_rfl) [(v_Insn y0)] (.bool ((y0.fImm == 0#32)))
    [.o, .o, .o, .a 0, .t (u_eq y0.fOp (24#8)) h0, .o, .t (u_eq y0.fOp (98#8)) h1, .o, .t (u_eq y0.fOp (106#8)) h2, .o, .t (u_eq y0.fOp (114#8)) h3, .o, .t (u_eq y0.fOp (122#8)) h4, .o, .t (u_eq y0.fOp (97#8)) h5, .o, .t (u_eq y0.fOp (105#8)) h6, .o, .o, .a 0, .t (i_eq y0.fImm (0#32)) rfl, .o]
    [] (fun b => by kernel_rfl)
theorem p10_insn_known (h2 : (y0.fOp == 106#8) = false) (h3 : (y0.fOp == 114#8) = false) (h4 : (y0.fOp == 122#8) = false) (h5 : (y0.fOp == 97#8) = false) (h6 : (y0.fOp == 105#8) = false) (h7 : (y0.fOp == 113#8) = true) : ConG Try.prog S 44 #[(v_Insn y0)] (.bool ((y0.fImm == 0#32))) :=
  fn_conG hU (P := Try.prog) Try.func44 (fun xs w => by kernel_rfl) [(v_Insn y0)] (.bool ((y0.fImm == 0#32)))
    [.o, .o, .o, .a 0, .t (u_eq y0.fOp (24#8)) h0, .o, .t (u_eq y0.fOp (98#8)) h1, .o, .t (u_eq y0.fOp (106#8)) h2, .o, .t (u_eq y0.fOp (114#8)) h3, .o, .t (u_eq y0.fOp (122#8)) h4, .o, .t (u_eq y0.fOp (97#8)) h5, .o, .t (u_eq y0.fOp (105#8)) h6, .o, .t (u_eq y0.fOp (113#8)) h7, .o, .o, .a 0, .t (i_eq y0.fImm (0#32)) rfl, .o]
    [] (fun b => by kernel_rfl)
theorem p11_insn_known (h2 : (y0.fOp == 106#8) = false) (h3 : (y0.fOp == 114#8) = false) (h4 : (y0.fOp == 122#8) = false) (h5 : (y0.fOp == 97#8) = false) (h6 : (y0.fOp == 105#8) = false) (h7 : (y0.fOp == 113#8) = false) (h8 : (y0.fOp == 121#8) = true) : ConG Try.prog S 44 #[(v_Insn y0)] (.bool ((y0.fImm == 0#32))) :=
  fn_conG hU (P := Try.prog) Try.func44 (fun xs w => by kernel_rfl) [(v_Insn y0)] (.bool ((y0.fImm == 0#32)))
    [.o, .o, .o, .a 0, .t (u_eq y0.fOp (24#8)) h0, .o, .t (u_eq y0.fOp (98#8)) h1, .o, .t (u_eq y0.fOp (106#8)) h2, .o, .t (u_eq y0.fOp (114#8)) h3, .o, .t (u_eq y0.fOp (122#8)) h4, .o, .t (u_eq y0.fOp (97#8)) h5, .o, .t (u_eq y0.fOp (105#8)) h6, .o, .t (u_eq y0.fOp (113#8)) h7, .o, .t (u_eq y0.fOp (121#8)) h8, .o, .o, .a 0, .t (i_eq y0.fImm (0#32)) rfl, .o]
    [] (fun b => by kernel_rfl)
theorem p12_insn_known (h2 : (y0.fOp == 106#8) = false) (h3 : (y0.fOp == 114#8) = false) (h4 : (y0.fOp == 122#8) = false) (h5 : (y0.fOp == 97#8) = false) (h6 : (y0.fOp == 105#8) = false) (h7 : (y0.fOp == 113#8) = false) (h8 : (y0.fOp == 121#8) = false) (h9 : (y0.fOp == 99#8) = true) : ConG Try.prog S 44 #[(v_Insn y0)] (.bool ((y0.fImm == 0#32))) :=
  fn_conG hU (P := Try.prog) Try.func44 (fun xs w => by kernel_rfl) [(v_Insn y0)] (.bool ((y0.fImm == 0#32)))
    [.o, .o, .o, .a 0, .t (u_eq y0.fOp (24#8)) h0, .o, .t (u_eq y0.fOp (98#8)) h1, .o, .t (u_eq y0.fOp (106#8)) h2, .o, .t (u_eq y0.fOp (114#8)) h3, .o, .t (u_eq y0.fOp (122#8)) h4, .o, .t (u_eq y0.fOp (97#8)) h5, .o, .t (u_eq y0.fOp (105#8)) h6, .o, .t (u_eq y0.fOp (113#8)) h7, .o, .t (u_eq y0.fOp (121#8)) h8, .o, .t (u_eq y0.fOp (99#8)) h9, .o, .o, .a 0, .t (i_eq y0.fImm (0#32)) rfl, .o]
    [] (fun b => by kernel_rfl)
theorem p13_insn_known (h2 : (y0.fOp == 106#8) = false) (h3 : (y0.fOp == 114#8) = false) (h4 : (y0.fOp == 122#8) = false) (h5 : (y0.fOp == 97#8) = false) (h6 : (y0.fOp == 105#8) = false) (h7 : (y0.fOp == 113#8) = false) (h8 : (y0.fOp == 121#8) = false) (h9 : (y0.fOp == 99#8) = false) (h10 : (y0.fOp == 107#8) = true) : ConG Try.prog S 44 #[(v_Insn y0)] (.bool ((y0.fImm == 0#32))) :=
  fn_conG hU (P := Try.prog) Try.func44 (fun xs w => by kernel_rfl) [(v_Insn y0)] (.bool ((y0.fImm == 0#32)))
    [.o, .o, .o, .a 0, .t (u_eq y0.fOp (24#8)) h0, .o, .t (u_eq y0.fOp (98#8)) h1, .o, .t (u_eq y0.fOp (106#8)) h2, .o, .t (u_eq y0.fOp (114#8)) h3, .o, .t (u_eq y0.fOp (122#8)) h4, .o, .t (u_eq y0.fOp (97#8)) h5, .o, .t (u_eq y0.fOp (105#8)) h6, .o, .t (u_eq y0.fOp (113#8)) h7, .o, .t (u_eq y0.fOp (121#8)) h8, .o, .t (u_eq y0.fOp (99#8)) h9, .o, .t (u_eq y0.fOp (107#8)) h10, .o, .o, .a 0, .t (i_eq y0.fImm (0#32)) rfl, .o]
    [] (fun b => by kernel_rfl)
theorem p14_insn_known (h2 : (y0.fOp == 106#8) = false) (h3 : (y0.fOp == 114#8) = false) (h4 : (y0.fOp == 122#8) = false) (h5 : (y0.fOp == 97#8) = false) (h6 : (y0.fOp == 105#8) = false) (h7 : (y0.fOp == 113#8) = false) (h8 : (y0.fOp == 121#8) = false) (h9 : (y0.fOp == 99#8) = false) (h10 : (y0.fOp == 107#8) = false) (h11 : (y0.fOp == 115#8) = true) : ConG Try.prog S 44 #[(v_Insn y0)] (.bool ((y0.fImm == 0#32))) :=
  fn_conG hU (P := Try.prog) Try.func44 (fun xs w => by kernel_rfl) [(v_Insn y0)] (.bool ((y0.fImm == 0#32)))
    [.o, .o, .o, .a 0, .t (u_eq y0.fOp (24#8)) h0, .o, .t (u_eq y0.fOp (98#8)) h1, .o, .t (u_eq y0.fOp (106#8)) h2, .o, .t (u_eq y0.fOp (114#8)) h3, .o, .t (u_eq y0.fOp (122#8)) h4, .o, .t (u_eq y0.fOp (97#8)) h5, .o, .t (u_eq y0.fOp (105#8)) h6, .o, .t (u_eq y0.fOp (113#8)) h7, .o, .t (u_eq y0.fOp (121#8)) h8, .o, .t (u_eq y0.fOp (99#8)) h9, .o, .t (u_eq y0.fOp (107#8)) h10, .o, .t (u_eq y0.fOp (115#8)) h11, .o, .o, .a 0, .t (i_eq y0.fImm (0#32)) rfl, .o]
    [] (fun b => by kernel_rfl)
theorem p15_insn_known (h2 : (y0.fOp == 106#8) = false) (h3 : (y0.fOp == 114#8) = false) (h4 : (y0.fOp == 122#8) = false) (h5 : (y0.fOp == 97#8) = false) (h6 : (y0.fOp == 105#8) = false) (h7 : (y0.fOp == 113#8) = false) (h8 : (y0.fOp == 121#8) = false) (h9 : (y0.fOp == 99#8) = false) (h10 : (y0.fOp == 107#8) = false) (h11 : (y0.fOp == 115#8) = false) (h12 : (y0.fOp == 123#8) = true) : ConG Try.prog S 44 #[(v_Insn y0)] (.bool ((y0.fImm == 0#32))) :=
  fn_conG hU (P := Try.prog) Try.func44 (fun xs w => by kernel_rfl) [(v_Insn y0)] (.bool ((y0.fImm == 0#32)))
    [.o, .o, .o, .a 0, .t (u_eq y0.fOp (24#8)) h0, .o, .t (u_eq y0.fOp (98#8)) h1, .o, .t (u_eq y0.fOp (106#8)) h2, .o, .t (u_eq y0.fOp (114#8)) h3, .o, .t (u_eq y0.fOp (122#8)) h4, .o, .t (u_eq y0.fOp (97#8)) h5, .o, .t (u_eq y0.fOp (105#8)) h6, .o, .t (u_eq y0.fOp (113#8)) h7, .o, .t (u_eq y0.fOp (121#8)) h8, .o, .t (u_eq y0.fOp (99#8)) h9, .o, .t (u_eq y0.fOp (107#8)) h10, .o, .t (u_eq y0.fOp (115#8)) h11, .o, .t (u_eq y0.fOp (123#8)) h12, .o, .o, .a 0, .t (i_eq y0.fImm (0#32)) rfl, .o]
    [] (fun b => by kernel_rfl)
theorem p16_insn_known (h2 : (y0.fOp == 106#8) = false) (h3 : (y0.fOp == 114#8) = false) (h4 : (y0.fOp == 122#8) = false) (h5 : (y0.fOp == 97#8) = false) (h6 : (y0.fOp == 105#8) = false) (h7 : (y0.fOp == 113#8) = false) (h8 : (y0.fOp == 121#8) = false) (h9 : (y0.fOp == 99#8) = false) (h10 : (y0.fOp == 107#8) = false) (h11 : (y0.fOp == 115#8) = false) (h12 : (y0.fOp == 123#8) = false) (h13 : (y0.fOp == 5#8) = true) : ConG Try.prog S 44 #[(v_Insn y0)] (.bool (((y0.fOp == 5#8) && ((y0.fDst == 0#8) && ((y0.fSrc == 0#8) && ((y0.fOff == y0.fOff) && (y0.fImm == 0#32))))))) :=
  fn_conG hU (P := Try.prog) Try.func44 (fun xs w => by kernel_rfl) [(v_Insn y0)] (.bool (((y0.fOp == 5#8) && ((y0.fDst == 0#8) && ((y0.fSrc == 0#8) && ((y0.fOff == y0.fOff) && (y0.fImm == 0#32)))))))
    [.o, .o, .o, .a 0, .t (u_eq y0.fOp (24#8)) h0, .o, .t (u_eq y0.fOp (98#8)) h1, .o, .t (u_eq y0.fOp (106#8)) h2, .o, .t (u_eq y0.fOp (114#8)) h3, .o, .t (u_eq y0.fOp (122#8)) h4, .o, .t (u_eq y0.fOp (97#8)) h5, .o, .t (u_eq y0.fOp (105#8)) h6, .o, .t (u_eq y0.fOp (113#8)) h7, .o, .t (u_eq y0.fOp (121#8)) h8, .o, .t (u_eq y0.fOp (99#8)) h9, .o, .t (u_eq y0.fOp (107#8)) h10, .o, .t (u_eq y0.fOp (115#8)) h11, .o, .t (u_eq y0.fOp (123#8)) h12, .o, .t (u_eq y0.fOp (5#8)) h13, .o, .a 0, .o, .a 0, .o, .ov (fun w => (run_aggeq 35 #[.int .u8 (nn y0.fOp), .int .u8 (nn y0.fDst), .int .u8 (nn y0.fSrc), .int .i16 (ii y0.fOff), .int .i32 (ii y0.fImm)] #[.int .u8 (5), .int .u8 (0), .int .u8 (0), .int .i16 (ii y0.fOff), .int .i32 (0)] _ (by kernel_rfl) (fun w => eqi35 9998 y0.fOp (5#8) y0.fDst (0#8) y0.fSrc (0#8) y0.fOff y0.fOff y0.fImm (0#32) w) (.tmp 52) (.tmp 55) w).1), .o]
    [] (fun b => by kernel_rfl)
theorem p17_insn_known (h2 : (y0.fOp == 106#8) = false) (h3 : (y0.fOp == 114#8) = false) (h4 : (y0.fOp == 122#8) = false) (h5 : (y0.fOp == 97#8) = false) (h6 : (y0.fOp == 105#8) = false) (h7 : (y0.fOp == 113#8) = false) (h8 : (y0.fOp == 121#8) = false) (h9 : (y0.fOp == 99#8) = false) (h10 : (y0.fOp == 107#8) = false) (h11 : (y0.fOp == 115#8) = false) (h12 : (y0.fOp == 123#8) = false) (h13 : (y0.fOp == 5#8) = false) (h14 : (y0.fOp == 133#8) = true) (h15 : (y0.fDst == 0#8) = true) (h16 : (y0.fOff == 0#16) = true) (h17 : (y0.fSrc == 0#8) = true) : ConG Try.prog S 44 #[(v_Insn y0)] (.bool true) :=
  fn_conG hU (P := Try.prog) Try.func44 (fun xs w => by kernel_rfl) [(v_Insn y0)] (.bool true)
    [.o, .o, .o, .a 0, .t (u_eq y0.fOp (24#8)) h0, .o, .t (u_eq y0.fOp (98#8)) h1, .o, .t (u_eq y0.fOp (106#8)) h2, .o, .t (u_eq y0.fOp (114#8)) h3, .o, .t (u_eq y0.fOp (122#8)) h4, .o, .t (u_eq y0.fOp (97#8)) h5, .o, .t (u_eq y0.fOp (105#8)) h6, .o, .t (u_eq y0.fOp (113#8)) h7, .o, .t (u_eq y0.fOp (121#8)) h8, .o, .t (u_eq y0.fOp (99#8)) h9, .o, .t (u_eq y0.fOp (107#8)) h10, .o, .t (u_eq y0.fOp (115#8)) h11, .o, .t (u_eq y0.fOp (123#8)) h12, .o, .t (u_eq y0.fOp (5#8)) h13, .o, .t (u_eq y0.fOp (133#8)) h14, .o, .o, .a 0, .t (u_eq y0.fDst (0#8)) h15, .o, .o, .a 0, .t (i_eq y0.fOff (0#16)) h16, .o, .o, .o, .a 0, .t (u_eq y0.fSrc (0#8)) h17, .o, .o, .o, .o]
    [] (fun b => by kernel_rfl)
theorem p18_insn_known (h2 : (y0.fOp == 106#8) = false) (h3 : (y0.fOp == 114#8) = false) (h4 : (y0.fOp == 122#8) = false) (h5 : (y0.fOp == 97#8) = false) (h6 : (y0.fOp == 105#8) = false) (h7 : (y0.fOp == 113#8) = false) (h8 : (y0.fOp == 121#8) = false) (h9 : (y0.fOp == 99#8) = false) (h10 : (y0.fOp == 107#8) = false) (h11 : (y0.fOp == 115#8) = false) (h12 : (y0.fOp == 123#8) = false) (h13 : (y0.fOp == 5#8) = false) (h14 : (y0.fOp == 133#8) = true) (h15 : (y0.fDst == 0#8) = true) (h16 : (y0.fOff == 0#16) = true) (h17 : (y0.fSrc == 0#8) = false) : ConG Try.prog S 44 #[(v_Insn y0)] (.bool ((y0.fSrc == 1#8))) :=
  fn_conG hU (P := Try.prog) Try.func44 (fun xs w => by kernel_rfl) [(v_Insn y0)] (.bool ((y0.fSrc == 1#8)))
    [.o, .o, .o, .a 0, .t (u_eq y0.fOp (24#8)) h0, .o, .t (u_eq y0.fOp (98#8)) h1, .o, .t (u_eq y0.fOp (106#8)) h2, .o, .t (u_eq y0.fOp (114#8)) h3, .o, .t (u_eq y0.fOp (122#8)) h4, .o, .t (u_eq y0.fOp (97#8)) h5, .o, .t (u_eq y0.fOp (105#8)) h6, .o, .t (u_eq y0.fOp (113#8)) h7, .o, .t (u_eq y0.fOp (121#8)) h8, .o, .t (u_eq y0.fOp (99#8)) h9, .o, .t (u_eq y0.fOp (107#8)) h10, .o, .t (u_eq y0.fOp (115#8)) h11, .o, .t (u_eq y0.fOp (123#8)) h12, .o, .t (u_eq y0.fOp (5#8)) h13, .o, .t (u_eq y0.fOp (133#8)) h14, .o, .o, .a 0, .t (u_eq y0.fDst (0#8)) h15, .o, .o, .a 0, .t (i_eq y0.fOff (0#16)) h16, .o, .o, .o, .a 0, .t (u_eq y0.fSrc (0#8)) h17, .o, .o, .a 0, .t (u_eq y0.fSrc (1#8)) rfl, .o, .o, .o]
    [] (fun b => by kernel_rfl)
theorem p19_insn_known (h2 : (y0.fOp == 106#8) = false) (h3 : (y0.fOp == 114#8) = false) (h4 : (y0.fOp == 122#8) = false) (h5 : (y0.fOp == 97#8) = false) (h6 : (y0.fOp == 105#8) = false) (h7 : (y0.fOp == 113#8) = false) (h8 : (y0.fOp == 121#8) = false) (h9 : (y0.fOp == 99#8) = false) (h10 : (y0.fOp == 107#8) = false) (h11 : (y0.fOp == 115#8) = false) (h12 : (y0.fOp == 123#8) = false) (h13 : (y0.fOp == 5#8) = false) (h14 : (y0.fOp == 133#8) = true) (h15 : (y0.fDst == 0#8) = true) (h16 : (y0.fOff == 0#16) = false) : ConG Try.prog S 44 #[(v_Insn y0)] (.bool false) :=
  fn_conG hU (P := Try.prog) Try.func44 (fun xs w => by kernel_rfl) [(v_Insn y0)] (.bool false)
    [.o, .o, .o, .a 0, .t (u_eq y0.fOp (24#8)) h0, .o, .t (u_eq y0.fOp (98#8)) h1, .o, .t (u_eq y0.fOp (106#8)) h2, .o, .t (u_eq y0.fOp (114#8)) h3, .o, .t (u_eq y0.fOp (122#8)) h4, .o, .t (u_eq y0.fOp (97#8)) h5, .o, .t (u_eq y0.fOp (105#8)) h6, .o, .t (u_eq y0.fOp (113#8)) h7, .o, .t (u_eq y0.fOp (121#8)) h8, .o, .t (u_eq y0.fOp (99#8)) h9, .o, .t (u_eq y0.fOp (107#8)) h10, .o, .t (u_eq y0.fOp (115#8)) h11, .o, .t (u_eq y0.fOp (123#8)) h12, .o, .t (u_eq y0.fOp (5#8)) h13, .o, .t (u_eq y0.fOp (133#8)) h14, .o, .o, .a 0, .t (u_eq y0.fDst (0#8)) h15, .o, .o, .a 0, .t (i_eq y0.fOff (0#16)) h16, .o, .o, .o, .o]
    [] (fun b => by kernel_rfl)
theorem p20_insn_known (h2 : (y0.fOp == 106#8) = false) (h3 : (y0.fOp == 114#8) = false) (h4 : (y0.fOp == 122#8) = false) (h5 : (y0.fOp == 97#8) = false) (h6 : (y0.fOp == 105#8) = false) (h7 : (y0.fOp == 113#8) = false) (h8 : (y0.fOp == 121#8) = false) (h9 : (y0.fOp == 99#8) = false) (h10 : (y0.fOp == 107#8) = false) (h11 : (y0.fOp == 115#8) = false) (h12 : (y0.fOp == 123#8) = false) (h13 : (y0.fOp == 5#8) = false) (h14 : (y0.fOp == 133#8) = true) (h15 : (y0.fDst == 0#8) = false) : ConG Try.prog S 44 #[(v_Insn y0)] (.bool false) :=
  fn_conG hU (P := Try.prog) Try.func44 (fun xs w => by kernel_rfl) [(v_Insn y0)] (.bool false)
    [.o, .o, .o, .a 0, .t (u_eq y0.fOp (24#8)) h0, .o, .t (u_eq y0.fOp (98#8)) h1, .o, .t (u_eq y0.fOp (106#8)) h2, .o, .t (u_eq y0.fOp (114#8)) h3, .o, .t (u_eq y0.fOp (122#8)) h4, .o, .t (u_eq y0.fOp (97#8)) h5, .o, .t (u_eq y0.fOp (105#8)) h6, .o, .t (u_eq y0.fOp (113#8)) h7, .o, .t (u_eq y0.fOp (121#8)) h8, .o, .t (u_eq y0.fOp (99#8)) h9, .o, .t (u_eq y0.fOp (107#8)) h10, .o, .t (u_eq y0.fOp (115#8)) h11, .o, .t (u_eq y0.fOp (123#8)) h12, .o, .t (u_eq y0.fOp (5#8)) h13, .o, .t (u_eq y0.fOp (133#8)) h14, .o, .o, .a 0, .t (u_eq y0.fDst (0#8)) h15, .o, .o, .o, .o, .o]
    [] (fun b => by kernel_rfl)
theorem p21_insn_known (h2 : (y0.fOp == 106#8) = false) (h3 : (y0.fOp == 114#8) = false) (h4 : (y0.fOp == 122#8) = false) (h5 : (y0.fOp == 97#8) = false) (h6 : (y0.fOp == 105#8) = false) (h7 : (y0.fOp == 113#8) = false) (h8 : (y0.fOp == 121#8) = false) (h9 : (y0.fOp == 99#8) = false) (h10 : (y0.fOp == 107#8) = false) (h11 : (y0.fOp == 115#8) = false) (h12 : (y0.fOp == 123#8) = false) (h13 : (y0.fOp == 5#8) = false) (h14 : (y0.fOp == 133#8) = false) (h15 : (y0.fOp == 149#8) = true) : ConG Try.prog S 44 #[(v_Insn y0)] (.bool (((y0.fOp == 149#8) && ((y0.fDst == 0#8) && ((y0.fSrc == 0#8) && ((y0.fOff == 0#16) && (y0.fImm == 0#32))))))) :=
  fn_conG hU (P := Try.prog) Try.func44 (fun xs w => by kernel_rfl) [(v_Insn y0)] (.bool (((y0.fOp == 149#8) && ((y0.fDst == 0#8) && ((y0.fSrc == 0#8) && ((y0.fOff == 0#16) && (y0.fImm == 0#32)))))))
    [.o, .o, .o, .a 0, .t (u_eq y0.fOp (24#8)) h0, .o, .t (u_eq y0.fOp (98#8)) h1, .o, .t (u_eq y0.fOp (106#8)) h2, .o, .t (u_eq y0.fOp (114#8)) h3, .o, .t (u_eq y0.fOp (122#8)) h4, .o, .t (u_eq y0.fOp (97#8)) h5, .o, .t (u_eq y0.fOp (105#8)) h6, .o, .t (u_eq y0.fOp (113#8)) h7, .o, .t (u_eq y0.fOp (121#8)) h8, .o, .t (u_eq y0.fOp (99#8)) h9, .o, .t (u_eq y0.fOp (107#8)) h10, .o, .t (u_eq y0.fOp (115#8)) h11, .o, .t (u_eq y0.fOp (123#8)) h12, .o, .t (u_eq y0.fOp (5#8)) h13, .o, .t (u_eq y0.fOp (133#8)) h14, .o, .t (u_eq y0.fOp (149#8)) h15, .o, .a 0, .o, .ov (fun w => (run_aggeq 35 #[.int .u8 (nn y0.fOp), .int .u8 (nn y0.fDst), .int .u8 (nn y0.fSrc), .int .i16 (ii y0.fOff), .int .i32 (ii y0.fImm)] #[.int .u8 (149), .int .u8 (0), .int .u8 (0), .int .i16 (0), .int .i32 (0)] _ (by kernel_rfl) (fun w => eqi35 9998 y0.fOp (149#8) y0.fDst (0#8) y0.fSrc (0#8) y0.fOff (0#16) y0.fImm (0#32) w) (.tmp 75) (.tmp 76) w).1), .o]
    [] (fun b => by kernel_rfl)
theorem p22_insn_known (h2 : (y0.fOp == 106#8) = false) (h3 : (y0.fOp == 114#8) = false) (h4 : (y0.fOp == 122#8) = false) (h5 : (y0.fOp == 97#8) = false) (h6 : (y0.fOp == 105#8) = false) (h7 : (y0.fOp == 113#8) = false) (h8 : (y0.fOp == 121#8) = false) (h9 : (y0.fOp == 99#8) = false) (h10 : (y0.fOp == 107#8) = false) (h11 : (y0.fOp == 115#8) = false) (h12 : (y0.fOp == 123#8) = false) (h13 : (y0.fOp == 5#8) = false) (h14 : (y0.fOp == 133#8) = false) (h15 : (y0.fOp == 149#8) = false) (h16 : ((y0.fOp &&& 7#8) == 4#8) = true) (r0 : Bool) (e_r0 : m_insn_knownAlu y0 = r0) : ConG Try.prog S 44 #[(v_Insn y0)] (.bool (r0)) :=
  fn_conG hU (P := Try.prog) Try.func44 (fun xs w => by kernel_rfl) [(v_Insn y0)] (.bool (r0))
    [.o, .o, .o, .a 0, .t (u_eq y0.fOp (24#8)) h0, .o, .t (u_eq y0.fOp (98#8)) h1, .o, .t (u_eq y0.fOp (106#8)) h2, .o, .t (u_eq y0.fOp (114#8)) h3, .o, .t (u_eq y0.fOp (122#8)) h4, .o, .t (u_eq y0.fOp (97#8)) h5, .o, .t (u_eq y0.fOp (105#8)) h6, .o, .t (u_eq y0.fOp (113#8)) h7, .o, .t (u_eq y0.fOp (121#8)) h8, .o, .t (u_eq y0.fOp (99#8)) h9, .o, .t (u_eq y0.fOp (107#8)) h10, .o, .t (u_eq y0.fOp (115#8)) h11, .o, .t (u_eq y0.fOp (123#8)) h12, .o, .t (u_eq y0.fOp (5#8)) h13, .o, .t (u_eq y0.fOp (133#8)) h14, .o, .t (u_eq y0.fOp (149#8)) h15, .o, .o, .a 0, .v .u8 (u8_and y0.fOp (7#8)), .t (u_eq (y0.fOp &&& 7#8) (4#8)) h16, .o, .a 0, .cg (ok_insn_knownAlu hU y0 r0 e_r0), .o]
    [] (fun b => by kernel_rfl)
theorem p23_insn_known (h2 : (y0.fOp == 106#8) = false) (h3 : (y0.fOp == 114#8) = false) (h4 : (y0.fOp == 122#8) = false) (h5 : (y0.fOp == 97#8) = false) (h6 : (y0.fOp == 105#8) = false) (h7 : (y0.fOp == 113#8) = false) (h8 : (y0.fOp == 121#8) = false) (h9 : (y0.fOp == 99#8) = false) (h10 : (y0.fOp == 107#8) = false) (h11 : (y0.fOp == 115#8) = false) (h12 : (y0.fOp == 123#8) = false) (h13 : (y0.fOp == 5#8) = false) (h14 : (y0.fOp == 133#8) = false) (h15 : (y0.fOp == 149#8) = false) (h16 : ((y0.fOp &&& 7#8) == 4#8) = false) (h17 : ((y0.fOp &&& 7#8) == 7#8) = true) (r0 : Bool) (e_r0 : m_insn_knownAlu y0 = r0) : ConG Try.prog S 44 #[(v_Insn y0)] (.bool (r0)) :=
  fn_conG hU (P := Try.prog) Try.func44 (fun xs w => by kernel_rfl) [(v_Insn y0)] (.bool (r0))
    [.o, .o, .o, .a 0, .t (u_eq y0.fOp (24#8)) h0, .o, .t (u_eq y0.fOp (98#8)) h1, .o, .t (u_eq y0.fOp (106#8)) h2, .o, .t (u_eq y0.fOp (114#8)) h3, .o, .t (u_eq y0.fOp (122#8)) h4, .o, .t (u_eq y0.fOp (97#8)) h5, .o, .t (u_eq y0.fOp (105#8)) h6, .o, .t (u_eq y0.fOp (113#8)) h7, .o, .t (u_eq y0.fOp (121#8)) h8, .o, .t (u_eq y0.fOp (99#8)) h9, .o, .t (u_eq y0.fOp (107#8)) h10, .o, .t (u_eq y0.fOp (115#8)) h11, .o, .t (u_eq y0.fOp (123#8)) h12, .o, .t (u_eq y0.fOp (5#8)) h13, .o, .t (u_eq y0.fOp (133#8)) h14, .o, .t (u_eq y0.fOp (149#8)) h15, .o, .o, .a 0, .v .u8 (u8_and y0.fOp (7#8)), .t (u_eq (y0.fOp &&& 7#8) (4#8)) h16, .o, .t (u_eq (y0.fOp &&& 7#8) (7#8)) h17, .o, .a 0, .cg (ok_insn_knownAlu hU y0 r0 e_r0), .o]
    [] (fun b => by kernel_rfl)
theorem p24_insn_known (h2 : (y0.fOp == 106#8) = false) (h3 : (y0.fOp == 114#8) = false) (h4 : (y0.fOp == 122#8) = false) (h5 : (y0.fOp == 97#8) = false) (h6 : (y0.fOp == 105#8) = false) (h7 : (y0.fOp == 113#8) = false) (h8 : (y0.fOp == 121#8) = false) (h9 : (y0.fOp == 99#8) = false) (h10 : (y0.fOp == 107#8) = false) (h11 : (y0.fOp == 115#8) = false) (h12 : (y0.fOp == 123#8) = false) (h13 : (y0.fOp == 5#8) = false) (h14 : (y0.fOp == 133#8) = false) (h15 : (y0.fOp == 149#8) = false) (h16 : ((y0.fOp &&& 7#8) == 4#8) = false) (h17 : ((y0.fOp &&& 7#8) == 7#8) = false) (h18 : ((y0.fOp &&& 7#8) == 5#8) = true) (h19 : (m_insn_compares y0) = true) (r0 : Bool) (e_r0 : m_insn_plainOperand y0 = r0) : ConG Try.prog S 44 #[(v_Insn y0)] (.bool (r0)) :=
  fn_conG hU (P := Try.prog) Try.func44 (fun xs w => by kernel_rfl) [(v_Insn y0)] (.bool (r0))
    [.o, .o, .o, .a 0, .t (u_eq y0.fOp (24#8)) h0, .o, .t (u_eq y0.fOp (98#8)) h1, .o, .t (u_eq y0.fOp (106#8)) h2, .o, .t (u_eq y0.fOp (114#8)) h3, .o, .t (u_eq y0.fOp (122#8)) h4, .o, .t (u_eq y0.fOp (97#8)) h5, .o, .t (u_eq y0.fOp (105#8)) h6, .o, .t (u_eq y0.fOp (113#8)) h7, .o, .t (u_eq y0.fOp (121#8)) h8, .o, .t (u_eq y0.fOp (99#8)) h9, .o, .t (u_eq y0.fOp (107#8)) h10, .o, .t (u_eq y0.fOp (115#8)) h11, .o, .t (u_eq y0.fOp (123#8)) h12, .o, .t (u_eq y0.fOp (5#8)) h13, .o, .t (u_eq y0.fOp (133#8)) h14, .o, .t (u_eq y0.fOp (149#8)) h15, .o, .o, .a 0, .v .u8 (u8_and y0.fOp (7#8)), .t (u_eq (y0.fOp &&& 7#8) (4#8)) h16, .o, .t (u_eq (y0.fOp &&& 7#8) (7#8)) h17, .o, .t (u_eq (y0.fOp &&& 7#8) (5#8)) h18, .o, .a 0, .cg (ok_insn_compares hU y0 true h19), .o, .a 0, .cg (ok_insn_plainOperand hU y0 r0 e_r0), .o, .o]
    [] (fun b => by kernel_rfl)
theorem p25_insn_known (h2 : (y0.fOp == 106#8) = false) (h3 : (y0.fOp == 114#8) = false) (h4 : (y0.fOp == 122#8) = false) (h5 : (y0.fOp == 97#8) = false) (h6 : (y0.fOp == 105#8) = false) (h7 : (y0.fOp == 113#8) = false) (h8 : (y0.fOp == 121#8) = false) (h9 : (y0.fOp == 99#8) = false) (h10 : (y0.fOp == 107#8) = false) (h11 : (y0.fOp == 115#8) = false) (h12 : (y0.fOp == 123#8) = false) (h13 : (y0.fOp == 5#8) = false) (h14 : (y0.fOp == 133#8) = false) (h15 : (y0.fOp == 149#8) = false) (h16 : ((y0.fOp &&& 7#8) == 4#8) = false) (h17 : ((y0.fOp &&& 7#8) == 7#8) = false) (h18 : ((y0.fOp &&& 7#8) == 5#8) = true) (h19 : (m_insn_compares y0) = false) : ConG Try.prog S 44 #[(v_Insn y0)] (.bool false) :=
  fn_conG hU (P := Try.prog) Try.func44 (fun xs w => by kernel_rfl) [(v_Insn y0)] (.bool false)
    [.o, .o, .o, .a 0, .t (u_eq y0.fOp (24#8)) h0, .o, .t (u_eq y0.fOp (98#8)) h1, .o, .t (u_eq y0.fOp (106#8)) h2, .o, .t (u_eq y0.fOp (114#8)) h3, .o, .t (u_eq y0.fOp (122#8)) h4, .o, .t (u_eq y0.fOp (97#8)) h5, .o, .t (u_eq y0.fOp (105#8)) h6, .o, .t (u_eq y0.fOp (113#8)) h7, .o, .t (u_eq y0.fOp (121#8)) h8, .o, .t (u_eq y0.fOp (99#8)) h9, .o, .t (u_eq y0.fOp (107#8)) h10, .o, .t (u_eq y0.fOp (115#8)) h11, .o, .t (u_eq y0.fOp (123#8)) h12, .o, .t (u_eq y0.fOp (5#8)) h13, .o, .t (u_eq y0.fOp (133#8)) h14, .o, .t (u_eq y0.fOp (149#8)) h15, .o, .o, .a 0, .v .u8 (u8_and y0.fOp (7#8)), .t (u_eq (y0.fOp &&& 7#8) (4#8)) h16, .o, .t (u_eq (y0.fOp &&& 7#8) (7#8)) h17, .o, .t (u_eq (y0.fOp &&& 7#8) (5#8)) h18, .o, .a 0, .cg (ok_insn_compares hU y0 false h19), .o, .o, .o]
    [] (fun b => by kernel_rfl)
theorem p26_insn_known (h2 : (y0.fOp == 106#8) = false) (h3 : (y0.fOp == 114#8) = false) (h4 : (y0.fOp == 122#8) = false) (h5 : (y0.fOp == 97#8) = false) (h6 : (y0.fOp == 105#8) = false) (h7 : (y0.fOp == 113#8) = false) (h8 : (y0.fOp == 121#8) = false) (h9 : (y0.fOp == 99#8) = false) (h10 : (y0.fOp == 107#8) = false) (h11 : (y0.fOp == 115#8) = false) (h12 : (y0.fOp == 123#8) = false) (h13 : (y0.fOp == 5#8) = false) (h14 : (y0.fOp == 133#8) = false) (h15 : (y0.fOp == 149#8) = false) (h16 : ((y0.fOp &&& 7#8) == 4#8) = false) (h17 : ((y0.fOp &&& 7#8) == 7#8) = false) (h18 : ((y0.fOp &&& 7#8) == 5#8) = false) (h19 : ((y0.fOp &&& 7#8) == 6#8) = true) (h20 : (m_insn_compares y0) = true) (r0 : Bool) (e_r0 : m_insn_plainOperand y0 = r0) : ConG Try.prog S 44 #[(v_Insn y0)] (.bool (r0)) :=
  fn_conG hU (P := Try.prog) Try.func44 (fun xs w => by kernel_rfl) [(v_Insn y0)] (.bool (r0))
    [.o, .o, .o, .a 0, .t (u_eq y0.fOp (24#8)) h0, .o, .t (u_eq y0.fOp (98#8)) h1, .o, .t (u_eq y0.fOp (106#8)) h2, .o, .t (u_eq y0.fOp (114#8)) h3, .o, .t (u_eq y0.fOp (122#8)) h4, .o, .t (u_eq y0.fOp (97#8)) h5, .o, .t (u_eq y0.fOp (105#8)) h6, .o, .t (u_eq y0.fOp (113#8)) h7, .o, .t (u_eq y0.fOp (121#8)) h8, .o, .t (u_eq y0.fOp (99#8)) h9, .o, .t (u_eq y0.fOp (107#8)) h10, .o, .t (u_eq y0.fOp (115#8)) h11, .o, .t (u_eq y0.fOp (123#8)) h12, .o, .t (u_eq y0.fOp (5#8)) h13, .o, .t (u_eq y0.fOp (133#8)) h14, .o, .t (u_eq y0.fOp (149#8)) h15, .o, .o, .a 0, .v .u8 (u8_and y0.fOp (7#8)), .t (u_eq (y0.fOp &&& 7#8) (4#8)) h16, .o, .t (u_eq (y0.fOp &&& 7#8) (7#8)) h17, .o, .t (u_eq (y0.fOp &&& 7#8) (5#8)) h18, .o, .t (u_eq (y0.fOp &&& 7#8) (6#8)) h19, .o, .a 0, .cg (ok_insn_compares hU y0 true h20), .o, .a 0, .cg (ok_insn_plainOperand hU y0 r0 e_r0), .o, .o]
    [] (fun b => by kernel_rfl)
theorem p27_insn_known (h2 : (y0.fOp == 106#8) = false) (h3 : (y0.fOp == 114#8) = false) (h4 : (y0.fOp == 122#8) = false) (h5 : (y0.fOp == 97#8) = false) (h6 : (y0.fOp == 105#8) = false) (h7 : (y0.fOp == 113#8) = false) (h8 : (y0.fOp == 121#8) = false) (h9 : (y0.fOp == 99#8) = false) (h10 : (y0.fOp == 107#8) = false) (h11 : (y0.fOp == 115#8) = false) (h12 : (y0.fOp == 123#8) = false) (h13 : (y0.fOp == 5#8) = false) (h14 : (y0.fOp == 133#8) = false) (h15 : (y0.fOp == 149#8) = false) (h16 : ((y0.fOp &&& 7#8) == 4#8) = false) (h17 : ((y0.fOp &&& 7#8) == 7#8) = false) (h18 : ((y0.fOp &&& 7#8) == 5#8) = false) (h19 : ((y0.fOp &&& 7#8) == 6#8) = true) (h20 : (m_insn_compares y0) = false) : ConG Try.prog S 44 #[(v_Insn y0)] (.bool false) :=
  fn_conG hU (P := Try.prog) Try.func44 (fun xs w => by kernel_rfl) [(v_Insn y0)] (.bool false)
    [.o, .o, .o, .a 0, .t (u_eq y0.fOp (24#8)) h0, .o, .t (u_eq y0.fOp (98#8)) h1, .o, .t (u_eq y0.fOp (106#8)) h2, .o, .t (u_eq y0.fOp (114#8)) h3, .o, .t (u_eq y0.fOp (122#8)) h4, .o, .t (u_eq y0.fOp (97#8)) h5, .o, .t (u_eq y0.fOp (105#8)) h6, .o, .t (u_eq y0.fOp (113#8)) h7, .o, .t (u_eq y0.fOp (121#8)) h8, .o, .t (u_eq y0.fOp (99#8)) h9, .o, .t (u_eq y0.fOp (107#8)) h10, .o, .t (u_eq y0.fOp (115#8)) h11, .o, .t (u_eq y0.fOp (123#8)) h12, .o, .t (u_eq y0.fOp (5#8)) h13, .o, .t (u_eq y0.fOp (133#8)) h14, .o, .t (u_eq y0.fOp (149#8)) h15, .o, .o, .a 0, .v .u8 (u8_and y0.fOp (7#8)), .t (u_eq (y0.fOp &&& 7#8) (4#8)) h16, .o, .t (u_eq (y0.fOp &&& 7#8) (7#8)) h17, .o, .t (u_eq (y0.fOp &&& 7#8) (5#8)) h18, .o, .t (u_eq (y0.fOp &&& 7#8) (6#8)) h19, .o, .a 0, .cg (ok_insn_compares hU y0 false h20), .o, .o, .o]
    [] (fun b => by kernel_rfl)
theorem p28_insn_known (h2 : (y0.fOp == 106#8) = false) (h3 : (y0.fOp == 114#8) = false) (h4 : (y0.fOp == 122#8) = false) (h5 : (y0.fOp == 97#8) = false) (h6 : (y0.fOp == 105#8) = false) (h7 : (y0.fOp == 113#8) = false) (h8 : (y0.fOp == 121#8) = false) (h9 : (y0.fOp == 99#8) = false) (h10 : (y0.fOp == 107#8) = false) (h11 : (y0.fOp == 115#8) = false) (h12 : (y0.fOp == 123#8) = false) (h13 : (y0.fOp == 5#8) = false) (h14 : (y0.fOp == 133#8) = false) (h15 : (y0.fOp == 149#8) = false) (h16 : ((y0.fOp &&& 7#8) == 4#8) = false) (h17 : ((y0.fOp &&& 7#8) == 7#8) = false) (h18 : ((y0.fOp &&& 7#8) == 5#8) = false) (h19 : ((y0.fOp &&& 7#8) == 6#8) = false) : ConG Try.prog S 44 #[(v_Insn y0)] (.bool false) :=
  fn_conG hU (P := Try.prog) Try.func44 (fun xs w => by kernel_rfl) [(v_Insn y0)] (.bool false)
    [.o, .o, .o, .a 0, .t (u_eq y0.fOp (24#8)) h0, .o, .t (u_eq y0.fOp (98#8)) h1, .o, .t (u_eq y0.fOp (106#8)) h2, .o, .t (u_eq y0.fOp (114#8)) h3, .o, .t (u_eq y0.fOp (122#8)) h4, .o, .t (u_eq y0.fOp (97#8)) h5, .o, .t (u_eq y0.fOp (105#8)) h6, .o, .t (u_eq y0.fOp (113#8)) h7, .o, .t (u_eq y0.fOp (121#8)) h8, .o, .t (u_eq y0.fOp (99#8)) h9, .o, .t (u_eq y0.fOp (107#8)) h10, .o, .t (u_eq y0.fOp (115#8)) h11, .o, .t (u_eq y0.fOp (123#8)) h12, .o, .t (u_eq y0.fOp (5#8)) h13, .o, .t (u_eq y0.fOp (133#8)) h14, .o, .t (u_eq y0.fOp (149#8)) h15, .o, .o, .a 0, .v .u8 (u8_and y0.fOp (7#8)), .t (u_eq (y0.fOp &&& 7#8) (4#8)) h16, .o, .t (u_eq (y0.fOp &&& 7#8) (7#8)) h17, .o, .t (u_eq (y0.fOp &&& 7#8) (5#8)) h18, .o, .t (u_eq (y0.fOp &&& 7#8) (6#8)) h19, .o, .o]
    [] (fun b => by kernel_rfl)
end
section
variable {M : Nat → Prop} {B0 : Nat} {S : World → Prop} (hU : Up M B0 S)
include hU
theorem ok_insn_known (y0 : Insn) (r : Bool) (e : m_insn_known y0 = r) : ConG Try.prog S 44 #[(v_Insn y0)] (.bool (r)) := by
  unfold m_insn_known at e
  replace e := cond_eq_or e
  rcases e with ⟨hq0, e⟩ | ⟨hq0, e⟩
  · replace e := cond_eq_or e
    rcases e with ⟨hq1, e⟩ | ⟨hq1, e⟩
    · replace e := cond_eq_or e
      rcases e with ⟨hq2, e⟩ | ⟨hq2, e⟩
      · subst e; exact p0_insn_known hU y0 hq0 hq1 hq2
      · replace e := cond_eq_or e
        rcases e with ⟨hq3, e⟩ | ⟨hq3, e⟩
        · subst e; exact p1_insn_known hU y0 hq0 hq1 hq2 hq3
        · subst e; exact p2_insn_known hU y0 hq0 hq1 hq2 hq3
    · subst e; exact p3_insn_known hU y0 hq0 hq1
  · replace e := cond_eq_or e
    rcases e with ⟨hq1, e⟩ | ⟨hq1, e⟩
    · subst e; exact p4_insn_known hU y0 hq0 hq1
    · replace e := cond_eq_or e
      rcases e with ⟨hq2, e⟩ | ⟨hq2, e⟩
      · subst e; exact p5_insn_known hU y0 hq0 hq1 hq2
      · replace e := cond_eq_or e
        rcases e with ⟨hq3, e⟩ | ⟨hq3, e⟩
        · subst e; exact p6_insn_known hU y0 hq0 hq1 hq2 hq3
        · replace e := cond_eq_or e
          rcases e with ⟨hq4, e⟩ | ⟨hq4, e⟩
          · subst e; exact p7_insn_known hU y0 hq0 hq1 hq2 hq3 hq4
          · replace e := cond_eq_or e
            rcases e with ⟨hq5, e⟩ | ⟨hq5, e⟩
            · subst e; exact p8_insn_known hU y0 hq0 hq1 hq2 hq3 hq4 hq5
            · replace e := cond_eq_or e
              rcases e with ⟨hq6, e⟩ | ⟨hq6, e⟩
              · subst e; exact p9_insn_known hU y0 hq0 hq1 hq2 hq3 hq4 hq5 hq6
              · replace e := cond_eq_or e
                rcases e with ⟨hq7, e⟩ | ⟨hq7, e⟩
                · subst e; exact p10_insn_known hU y0 hq0 hq1 hq2 hq3 hq4 hq5 hq6 hq7
                · replace e := cond_eq_or e
                  rcases e with ⟨hq8, e⟩ | ⟨hq8, e⟩
                  · subst e; exact p11_insn_known hU y0 hq0 hq1 hq2 hq3 hq4 hq5 hq6 hq7 hq8
                  · replace e := cond_eq_or e
                    rcases e with ⟨hq9, e⟩ | ⟨hq9, e⟩
                    · subst e; exact p12_insn_known hU y0 hq0 hq1 hq2 hq3 hq4 hq5 hq6 hq7 hq8 hq9
                    · replace e := cond_eq_or e
                      rcases e with ⟨hq10, e⟩ | ⟨hq10, e⟩
                      · subst e; exact p13_insn_known hU y0 hq0 hq1 hq2 hq3 hq4 hq5 hq6 hq7 hq8 hq9 hq10
                      · replace e := cond_eq_or e
                        rcases e with ⟨hq11, e⟩ | ⟨hq11, e⟩
                        · subst e; exact p14_insn_known hU y0 hq0 hq1 hq2 hq3 hq4 hq5 hq6 hq7 hq8 hq9 hq10 hq11
                        · replace e := cond_eq_or e
                          rcases e with ⟨hq12, e⟩ | ⟨hq12, e⟩
                          · subst e; exact p15_insn_known hU y0 hq0 hq1 hq2 hq3 hq4 hq5 hq6 hq7 hq8 hq9 hq10 hq11 hq12
                          · replace e := cond_eq_or e
                            rcases e with ⟨hq13, e⟩ | ⟨hq13, e⟩
                            · subst e; exact p16_insn_known hU y0 hq0 hq1 hq2 hq3 hq4 hq5 hq6 hq7 hq8 hq9 hq10 hq11 hq12 hq13
                            · replace e := cond_eq_or e
                              rcases e with ⟨hq14, e⟩ | ⟨hq14, e⟩
                              · replace e := cond_eq_or e
                                rcases e with ⟨hq15, e⟩ | ⟨hq15, e⟩
                                · replace e := cond_eq_or e
                                  rcases e with ⟨hq16, e⟩ | ⟨hq16, e⟩
                                  · replace e := cond_eq_or e
                                    rcases e with ⟨hq17, e⟩ | ⟨hq17, e⟩
                                    · subst e; exact p17_insn_known hU y0 hq0 hq1 hq2 hq3 hq4 hq5 hq6 hq7 hq8 hq9 hq10 hq11 hq12 hq13 hq14 hq15 hq16 hq17
                                    · subst e; exact p18_insn_known hU y0 hq0 hq1 hq2 hq3 hq4 hq5 hq6 hq7 hq8 hq9 hq10 hq11 hq12 hq13 hq14 hq15 hq16 hq17
                                  · subst e; exact p19_insn_known hU y0 hq0 hq1 hq2 hq3 hq4 hq5 hq6 hq7 hq8 hq9 hq10 hq11 hq12 hq13 hq14 hq15 hq16
                                · subst e; exact p20_insn_known hU y0 hq0 hq1 hq2 hq3 hq4 hq5 hq6 hq7 hq8 hq9 hq10 hq11 hq12 hq13 hq14 hq15
                              · replace e := cond_eq_or e
                                rcases e with ⟨hq15, e⟩ | ⟨hq15, e⟩
                                · subst e; exact p21_insn_known hU y0 hq0 hq1 hq2 hq3 hq4 hq5 hq6 hq7 hq8 hq9 hq10 hq11 hq12 hq13 hq14 hq15
                                · replace e := cond_eq_or e
                                  rcases e with ⟨hq16, e⟩ | ⟨hq16, e⟩
                                  · replace e := bindT_eq e
                                    obtain ⟨r0, e_r0, e⟩ := e
                                    try dsimp only at e
                                    subst e; exact p22_insn_known hU y0 hq0 hq1 hq2 hq3 hq4 hq5 hq6 hq7 hq8 hq9 hq10 hq11 hq12 hq13 hq14 hq15 hq16 r0 e_r0
                                  · replace e := cond_eq_or e
                                    rcases e with ⟨hq17, e⟩ | ⟨hq17, e⟩
                                    · replace e := bindT_eq e
                                      obtain ⟨r0, e_r0, e⟩ := e
                                      try dsimp only at e
                                      subst e; exact p23_insn_known hU y0 hq0 hq1 hq2 hq3 hq4 hq5 hq6 hq7 hq8 hq9 hq10 hq11 hq12 hq13 hq14 hq15 hq16 hq17 r0 e_r0
                                    · replace e := cond_eq_or e
                                      rcases e with ⟨hq18, e⟩ | ⟨hq18, e⟩
                                      · replace e := cond_eq_or e
                                        rcases e with ⟨hq19, e⟩ | ⟨hq19, e⟩
                                        · replace e := bindT_eq e
                                          obtain ⟨r0, e_r0, e⟩ := e
                                          try dsimp only at e
                                          subst e; exact p24_insn_known hU y0 hq0 hq1 hq2 hq3 hq4 hq5 hq6 hq7 hq8 hq9 hq10 hq11 hq12 hq13 hq14 hq15 hq16 hq17 hq18 hq19 r0 e_r0
                                        · subst e; exact p25_insn_known hU y0 hq0 hq1 hq2 hq3 hq4 hq5 hq6 hq7 hq8 hq9 hq10 hq11 hq12 hq13 hq14 hq15 hq16 hq17 hq18 hq19
                                      · replace e := cond_eq_or e
                                        rcases e with ⟨hq19, e⟩ | ⟨hq19, e⟩
                                        · replace e := cond_eq_or e
                                          rcases e with ⟨hq20, e⟩ | ⟨hq20, e⟩
                                          · replace e := bindT_eq e
                                            obtain ⟨r0, e_r0, e⟩ := e
                                            try dsimp only at e
                                            subst e; exact p26_insn_known hU y0 hq0 hq1 hq2 hq3 hq4 hq5 hq6 hq7 hq8 hq9 hq10 hq11 hq12 hq13 hq14 hq15 hq16 hq17 hq18 hq19 hq20 r0 e_r0
                                          · subst e; exact p27_insn_known hU y0 hq0 hq1 hq2 hq3 hq4 hq5 hq6 hq7 hq8 hq9 hq10 hq11 hq12 hq13 hq14 hq15 hq16 hq17 hq18 hq19 hq20
                                        · subst e; exact p28_insn_known hU y0 hq0 hq1 hq2 hq3 hq4 hq5 hq6 hq7 hq8 hq9 hq10 hq11 hq12 hq13 hq14 hq15 hq16 hq17 hq18 hq19
end

end Go.Proofs.Ytmlkiamemkfdlaa
