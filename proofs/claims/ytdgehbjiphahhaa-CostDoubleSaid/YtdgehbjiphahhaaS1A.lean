/-
  Instructions: what the program says of one slot.
-/
import Derived.Test.YtdgehbjiphahhaaRyI
import Derived.Test.YtdgehbjiphahhaaRyK
import Derived.Test.YtdgehbjiphahhaaRxH
import Derived.Test.YtdgehbjiphahhaaRxO
import Derived.Test.YtdgehbjiphahhaaProg
namespace Go.Proofs.Ytdgehbjiphahhaa
open Go.RowKit
set_option linter.unusedVariables false
set_option linter.unusedSimpArgs false
set_option linter.unusedSectionVars false
set_option maxRecDepth 100000
set_option maxHeartbeats 4000000
structure Insn where
  fOp : BitVec 8
  fDst : BitVec 8
  fSrc : BitVec 8
  fOff : BitVec 16
  fImm : BitVec 32
abbrev c_Insn (x : Insn) : List Value := [.int .u8 (nn x.fOp), .int .u8 (nn x.fDst), .int .u8 (nn x.fSrc), .int .i16 (ii x.fOff), .int .i32 (ii x.fImm)]
def v_Insn (x : Insn) : Value := .agg #[.int .u8 (nn x.fOp), .int .u8 (nn x.fDst), .int .u8 (nn x.fSrc), .int .i16 (ii x.fOff), .int .i32 (ii x.fImm)]
theorem c_Insn_len (x : Insn) : (c_Insn x).length = 5 := rfl
theorem c_Insn_one (x : Insn) : ((c_Insn x).all fun u => u.oneCell') = true := rfl
theorem eqi25 (d : Nat) (a0 b0 : BitVec 8) (a1 b1 : BitVec 8) (a2 b2 : BitVec 8) (a3 b3 : BitVec 16) (a4 b4 : BitVec 32) (w : World) : (Op.equalIn (d + 2) 25 (.agg #[.int .u8 (nn a0), .int .u8 (nn a1), .int .u8 (nn a2), .int .i16 (ii a3), .int .i32 (ii a4)]) (.agg #[.int .u8 (nn b0), .int .u8 (nn b1), .int .u8 (nn b2), .int .i16 (ii b3), .int .i32 (ii b4)])).run Try.prog w = .ok ((a0 == b0) && ((a1 == b1) && ((a2 == b2) && ((a3 == b3) && (a4 == b4))))) w :=
  eqi_of (d := d + 1) (l := [fl Try.prog 25 0, fl Try.prog 25 1, fl Try.prog 25 2, fl Try.prog 25 3, fl Try.prog 25 4]) (by kernel_rfl) (by kernel_rfl) (by kernel_rfl) (eqf_cons (f := fl Try.prog 25 0) (a := .int .u8 (nn a0)) (b := .int .u8 (nn b0)) (by kernel_rfl) (by kernel_rfl) (by kernel_rfl) (eq_u (d := d + 0) (k' := .u8) a0 b0 (by kernel_rfl)) (eqf_cons (f := fl Try.prog 25 1) (a := .int .u8 (nn a1)) (b := .int .u8 (nn b1)) (by kernel_rfl) (by kernel_rfl) (by kernel_rfl) (eq_u (d := d + 0) (k' := .u8) a1 b1 (by kernel_rfl)) (eqf_cons (f := fl Try.prog 25 2) (a := .int .u8 (nn a2)) (b := .int .u8 (nn b2)) (by kernel_rfl) (by kernel_rfl) (by kernel_rfl) (eq_u (d := d + 0) (k' := .u8) a2 b2 (by kernel_rfl)) (eqf_cons (f := fl Try.prog 25 3) (a := .int .i16 (ii a3)) (b := .int .i16 (ii b3)) (by kernel_rfl) (by kernel_rfl) (by kernel_rfl) (eq_i (d := d + 0) (k' := .i16) a3 b3 (by kernel_rfl)) (eqf_last (f := fl Try.prog 25 4) (a := .int .i32 (ii a4)) (b := .int .i32 (ii b4)) (by kernel_rfl) (by kernel_rfl) (by kernel_rfl) (eq_i (d := d + 0) (k' := .i32) a4 b4 (by kernel_rfl)) )))))
noncomputable def m_op_Width (y0 : Insn) : Int :=
  bif y0.fOp == 24#8 then
    (2)
  else (1)
section
variable {M : Nat → Prop} {B0 : Nat} {S : World → Prop} (hU : Up M B0 S) (y0 : Insn)
include hU y0
theorem ok_op_Width (r : Int) (e : m_op_Width y0 = r) : ConG Try.prog S 50 #[(v_Insn y0)] (.int .i64 (r)) := by
  unfold m_op_Width at e
  replace e := cond_eq_or e
  rcases e with ⟨hq0, e⟩ | ⟨hq0, e⟩
  · subst e; exact fn_conG hU (P := Try.prog) Try.func50 (fun xs w => by kernel_rfl) _ _ [.o, .o, .o, .a 0, .t (u_eq y0.fOp (24#8)) hq0, .o] [] (fun b => by kernel_rfl)
  · subst e; exact fn_conG hU (P := Try.prog) Try.func50 (fun xs w => by kernel_rfl) _ _ [.o, .o, .o, .a 0, .t (u_eq y0.fOp (24#8)) hq0, .o] [] (fun b => by kernel_rfl)
noncomputable def m_insn_plainOperand (y0 : Insn) : Bool :=
  bif (y0.fOp &&& 8#8) == 0#8 then
    ((y0.fSrc == 0#8))
  else ((y0.fImm == 0#32))
theorem ok_insn_plainOperand (r : Bool) (e : m_insn_plainOperand y0 = r) : ConG Try.prog S 82 #[(v_Insn y0)] (.bool (r)) := by
  unfold m_insn_plainOperand at e
  replace e := cond_eq_or e
  rcases e with ⟨hq0, e⟩ | ⟨hq0, e⟩
  · subst e; exact fn_conG hU (P := Try.prog) Try.func82 (fun xs w => by kernel_rfl) _ _ [.o, .o, .o, .a 0, .v .u8 (u8_and y0.fOp (8#8)), .tn (u_ne (y0.fOp &&& 8#8) (0#8)) hq0, .o, .a 0, .t (u_eq y0.fSrc (0#8)) rfl, .o] [] (fun b => by kernel_rfl)
  · subst e; exact fn_conG hU (P := Try.prog) Try.func82 (fun xs w => by kernel_rfl) _ _ [.o, .o, .o, .a 0, .v .u8 (u8_and y0.fOp (8#8)), .tn (u_ne (y0.fOp &&& 8#8) (0#8)) hq0, .o, .a 0, .t (i_eq y0.fImm (0#32)) rfl, .o] [] (fun b => by kernel_rfl)
noncomputable def m_insn_compares (y0 : Insn) : Bool :=
  bif (y0.fOp &&& 7#8) == 5#8 then
    (bif (y0.fOp >>> 4) == 1#8 then
      (true)
    else (bif (y0.fOp >>> 4) == 2#8 then
      (true)
    else (bif (y0.fOp >>> 4) == 3#8 then
      (true)
    else (bif (y0.fOp >>> 4) == 4#8 then
      (true)
    else (bif (y0.fOp >>> 4) == 5#8 then
      (true)
    else (bif (y0.fOp >>> 4) == 6#8 then
      (true)
    else (bif (y0.fOp >>> 4) == 7#8 then
      (true)
    else (bif (y0.fOp >>> 4) == 10#8 then
      (true)
    else (bif (y0.fOp >>> 4) == 11#8 then
      (true)
    else (bif (y0.fOp >>> 4) == 12#8 then
      (true)
    else (bif (y0.fOp >>> 4) == 13#8 then
      (true)
    else (false))))))))))))
  else (bif (y0.fOp &&& 7#8) == 6#8 then
    (bif (y0.fOp >>> 4) == 1#8 then
      (true)
    else (bif (y0.fOp >>> 4) == 2#8 then
      (true)
    else (bif (y0.fOp >>> 4) == 3#8 then
      (true)
    else (bif (y0.fOp >>> 4) == 4#8 then
      (true)
    else (bif (y0.fOp >>> 4) == 5#8 then
      (true)
    else (bif (y0.fOp >>> 4) == 6#8 then
      (true)
    else (bif (y0.fOp >>> 4) == 7#8 then
      (true)
    else (bif (y0.fOp >>> 4) == 10#8 then
      (true)
    else (bif (y0.fOp >>> 4) == 11#8 then
      (true)
    else (bif (y0.fOp >>> 4) == 12#8 then
      (true)
    else (bif (y0.fOp >>> 4) == 13#8 then
      (true)
    else (false))))))))))))
  else (false))
theorem ok_insn_compares (r : Bool) (e : m_insn_compares y0 = r) : ConG Try.prog S 81 #[(v_Insn y0)] (.bool (r)) := by
  unfold m_insn_compares at e
  replace e := cond_eq_or e
  let P1 : List (PG Try.prog M B0 S) := [.o, .o, .o, .a 0, .v .u8 (u8_and y0.fOp (7#8))]
  rcases e with ⟨hq0, e⟩ | ⟨hq0, e⟩
  · replace e := cond_eq_or e
    let P2 : List (PG Try.prog M B0 S) := P1 ++ [.t (u_eq (y0.fOp &&& 7#8) (5#8)) hq0, .o, .o, .a 0, .ov (u8_shr Try.prog 5 (.tmp 10) (.const (.int .u64 (4))) y0.fOp 4 .u64 rfl)]
    rcases e with ⟨hq1, e⟩ | ⟨hq1, e⟩
    · subst e; exact fn_conG hU (P := Try.prog) Try.func81 (fun xs w => by kernel_rfl) _ _ (P2 ++ [.t (u_eq (y0.fOp >>> 4) (1#8)) hq1, .o, .o]) [] (fun b => by kernel_rfl)
    · replace e := cond_eq_or e
      let P3 : List (PG Try.prog M B0 S) := P2 ++ [.t (u_eq (y0.fOp >>> 4) (1#8)) hq1, .o]
      rcases e with ⟨hq2, e⟩ | ⟨hq2, e⟩
      · subst e; exact fn_conG hU (P := Try.prog) Try.func81 (fun xs w => by kernel_rfl) _ _ (P3 ++ [.t (u_eq (y0.fOp >>> 4) (2#8)) hq2, .o, .o]) [] (fun b => by kernel_rfl)
      · replace e := cond_eq_or e
        let P4 : List (PG Try.prog M B0 S) := P3 ++ [.t (u_eq (y0.fOp >>> 4) (2#8)) hq2, .o]
        rcases e with ⟨hq3, e⟩ | ⟨hq3, e⟩
        · subst e; exact fn_conG hU (P := Try.prog) Try.func81 (fun xs w => by kernel_rfl) _ _ (P4 ++ [.t (u_eq (y0.fOp >>> 4) (3#8)) hq3, .o, .o]) [] (fun b => by kernel_rfl)
        · replace e := cond_eq_or e
          let P5 : List (PG Try.prog M B0 S) := P4 ++ [.t (u_eq (y0.fOp >>> 4) (3#8)) hq3, .o]
          rcases e with ⟨hq4, e⟩ | ⟨hq4, e⟩
          · subst e; exact fn_conG hU (P := Try.prog) Try.func81 (fun xs w => by kernel_rfl) _ _ (P5 ++ [.t (u_eq (y0.fOp >>> 4) (4#8)) hq4, .o, .o]) [] (fun b => by kernel_rfl)
          · replace e := cond_eq_or e
            let P6 : List (PG Try.prog M B0 S) := P5 ++ [.t (u_eq (y0.fOp >>> 4) (4#8)) hq4, .o]
            rcases e with ⟨hq5, e⟩ | ⟨hq5, e⟩
            · subst e; exact fn_conG hU (P := Try.prog) Try.func81 (fun xs w => by kernel_rfl) _ _ (P6 ++ [.t (u_eq (y0.fOp >>> 4) (5#8)) hq5, .o, .o]) [] (fun b => by kernel_rfl)
            · replace e := cond_eq_or e
              let P7 : List (PG Try.prog M B0 S) := P6 ++ [.t (u_eq (y0.fOp >>> 4) (5#8)) hq5, .o]
              rcases e with ⟨hq6, e⟩ | ⟨hq6, e⟩
              · subst e; exact fn_conG hU (P := Try.prog) Try.func81 (fun xs w => by kernel_rfl) _ _ (P7 ++ [.t (u_eq (y0.fOp >>> 4) (6#8)) hq6, .o, .o]) [] (fun b => by kernel_rfl)
              · replace e := cond_eq_or e
                let P8 : List (PG Try.prog M B0 S) := P7 ++ [.t (u_eq (y0.fOp >>> 4) (6#8)) hq6, .o]
                rcases e with ⟨hq7, e⟩ | ⟨hq7, e⟩
                · subst e; exact fn_conG hU (P := Try.prog) Try.func81 (fun xs w => by kernel_rfl) _ _ (P8 ++ [.t (u_eq (y0.fOp >>> 4) (7#8)) hq7, .o, .o]) [] (fun b => by kernel_rfl)
                · replace e := cond_eq_or e
                  let P9 : List (PG Try.prog M B0 S) := P8 ++ [.t (u_eq (y0.fOp >>> 4) (7#8)) hq7, .o]
                  rcases e with ⟨hq8, e⟩ | ⟨hq8, e⟩
                  · subst e; exact fn_conG hU (P := Try.prog) Try.func81 (fun xs w => by kernel_rfl) _ _ (P9 ++ [.t (u_eq (y0.fOp >>> 4) (10#8)) hq8, .o, .o]) [] (fun b => by kernel_rfl)
                  · replace e := cond_eq_or e
                    let P10 : List (PG Try.prog M B0 S) := P9 ++ [.t (u_eq (y0.fOp >>> 4) (10#8)) hq8, .o]
                    rcases e with ⟨hq9, e⟩ | ⟨hq9, e⟩
                    · subst e; exact fn_conG hU (P := Try.prog) Try.func81 (fun xs w => by kernel_rfl) _ _ (P10 ++ [.t (u_eq (y0.fOp >>> 4) (11#8)) hq9, .o, .o]) [] (fun b => by kernel_rfl)
                    · replace e := cond_eq_or e
                      rcases e with ⟨hq10, e⟩ | ⟨hq10, e⟩
                      · subst e; exact fn_conG hU (P := Try.prog) Try.func81 (fun xs w => by kernel_rfl) _ _ (P10 ++ [.t (u_eq (y0.fOp >>> 4) (11#8)) hq9, .o, .t (u_eq (y0.fOp >>> 4) (12#8)) hq10, .o, .o]) [] (fun b => by kernel_rfl)
                      · replace e := cond_eq_or e
                        rcases e with ⟨hq11, e⟩ | ⟨hq11, e⟩
                        · subst e; exact fn_conG hU (P := Try.prog) Try.func81 (fun xs w => by kernel_rfl) _ _ (P10 ++ [.t (u_eq (y0.fOp >>> 4) (11#8)) hq9, .o, .t (u_eq (y0.fOp >>> 4) (12#8)) hq10, .o, .t (u_eq (y0.fOp >>> 4) (13#8)) hq11, .o, .o]) [] (fun b => by kernel_rfl)
                        · subst e; exact fn_conG hU (P := Try.prog) Try.func81 (fun xs w => by kernel_rfl) _ _ (P10 ++ [.t (u_eq (y0.fOp >>> 4) (11#8)) hq9, .o, .t (u_eq (y0.fOp >>> 4) (12#8)) hq10, .o, .t (u_eq (y0.fOp >>> 4) (13#8)) hq11, .o, .o]) [] (fun b => by kernel_rfl)
  · replace e := cond_eq_or e
    let P11 : List (PG Try.prog M B0 S) := P1 ++ [.t (u_eq (y0.fOp &&& 7#8) (5#8)) hq0, .o]
    rcases e with ⟨hq1, e⟩ | ⟨hq1, e⟩
    · replace e := cond_eq_or e
      let P12 : List (PG Try.prog M B0 S) := P11 ++ [.t (u_eq (y0.fOp &&& 7#8) (6#8)) hq1, .o, .o, .a 0, .ov (u8_shr Try.prog 5 (.tmp 10) (.const (.int .u64 (4))) y0.fOp 4 .u64 rfl)]
      rcases e with ⟨hq2, e⟩ | ⟨hq2, e⟩
      · subst e; exact fn_conG hU (P := Try.prog) Try.func81 (fun xs w => by kernel_rfl) _ _ (P12 ++ [.t (u_eq (y0.fOp >>> 4) (1#8)) hq2, .o, .o]) [] (fun b => by kernel_rfl)
      · replace e := cond_eq_or e
        let P13 : List (PG Try.prog M B0 S) := P12 ++ [.t (u_eq (y0.fOp >>> 4) (1#8)) hq2, .o]
        rcases e with ⟨hq3, e⟩ | ⟨hq3, e⟩
        · subst e; exact fn_conG hU (P := Try.prog) Try.func81 (fun xs w => by kernel_rfl) _ _ (P13 ++ [.t (u_eq (y0.fOp >>> 4) (2#8)) hq3, .o, .o]) [] (fun b => by kernel_rfl)
        · replace e := cond_eq_or e
          let P14 : List (PG Try.prog M B0 S) := P13 ++ [.t (u_eq (y0.fOp >>> 4) (2#8)) hq3, .o]
          rcases e with ⟨hq4, e⟩ | ⟨hq4, e⟩
          · subst e; exact fn_conG hU (P := Try.prog) Try.func81 (fun xs w => by kernel_rfl) _ _ (P14 ++ [.t (u_eq (y0.fOp >>> 4) (3#8)) hq4, .o, .o]) [] (fun b => by kernel_rfl)
          · replace e := cond_eq_or e
            let P15 : List (PG Try.prog M B0 S) := P14 ++ [.t (u_eq (y0.fOp >>> 4) (3#8)) hq4, .o]
            rcases e with ⟨hq5, e⟩ | ⟨hq5, e⟩
            · subst e; exact fn_conG hU (P := Try.prog) Try.func81 (fun xs w => by kernel_rfl) _ _ (P15 ++ [.t (u_eq (y0.fOp >>> 4) (4#8)) hq5, .o, .o]) [] (fun b => by kernel_rfl)
            · replace e := cond_eq_or e
              let P16 : List (PG Try.prog M B0 S) := P15 ++ [.t (u_eq (y0.fOp >>> 4) (4#8)) hq5, .o]
              rcases e with ⟨hq6, e⟩ | ⟨hq6, e⟩
              · subst e; exact fn_conG hU (P := Try.prog) Try.func81 (fun xs w => by kernel_rfl) _ _ (P16 ++ [.t (u_eq (y0.fOp >>> 4) (5#8)) hq6, .o, .o]) [] (fun b => by kernel_rfl)
              · replace e := cond_eq_or e
                let P17 : List (PG Try.prog M B0 S) := P16 ++ [.t (u_eq (y0.fOp >>> 4) (5#8)) hq6, .o]
                rcases e with ⟨hq7, e⟩ | ⟨hq7, e⟩
                · subst e; exact fn_conG hU (P := Try.prog) Try.func81 (fun xs w => by kernel_rfl) _ _ (P17 ++ [.t (u_eq (y0.fOp >>> 4) (6#8)) hq7, .o, .o]) [] (fun b => by kernel_rfl)
                · replace e := cond_eq_or e
                  let P18 : List (PG Try.prog M B0 S) := P17 ++ [.t (u_eq (y0.fOp >>> 4) (6#8)) hq7, .o]
                  rcases e with ⟨hq8, e⟩ | ⟨hq8, e⟩
                  · subst e; exact fn_conG hU (P := Try.prog) Try.func81 (fun xs w => by kernel_rfl) _ _ (P18 ++ [.t (u_eq (y0.fOp >>> 4) (7#8)) hq8, .o, .o]) [] (fun b => by kernel_rfl)
                  · replace e := cond_eq_or e
                    let P19 : List (PG Try.prog M B0 S) := P18 ++ [.t (u_eq (y0.fOp >>> 4) (7#8)) hq8, .o]
                    rcases e with ⟨hq9, e⟩ | ⟨hq9, e⟩
                    · subst e; exact fn_conG hU (P := Try.prog) Try.func81 (fun xs w => by kernel_rfl) _ _ (P19 ++ [.t (u_eq (y0.fOp >>> 4) (10#8)) hq9, .o, .o]) [] (fun b => by kernel_rfl)
                    · replace e := cond_eq_or e
                      let P20 : List (PG Try.prog M B0 S) := P19 ++ [.t (u_eq (y0.fOp >>> 4) (10#8)) hq9, .o]
                      rcases e with ⟨hq10, e⟩ | ⟨hq10, e⟩
                      · subst e; exact fn_conG hU (P := Try.prog) Try.func81 (fun xs w => by kernel_rfl) _ _ (P20 ++ [.t (u_eq (y0.fOp >>> 4) (11#8)) hq10, .o, .o]) [] (fun b => by kernel_rfl)
                      · replace e := cond_eq_or e
                        rcases e with ⟨hq11, e⟩ | ⟨hq11, e⟩
                        · subst e; exact fn_conG hU (P := Try.prog) Try.func81 (fun xs w => by kernel_rfl) _ _ (P20 ++ [.t (u_eq (y0.fOp >>> 4) (11#8)) hq10, .o, .t (u_eq (y0.fOp >>> 4) (12#8)) hq11, .o, .o]) [] (fun b => by kernel_rfl)
                        · replace e := cond_eq_or e
                          rcases e with ⟨hq12, e⟩ | ⟨hq12, e⟩
                          · subst e; exact fn_conG hU (P := Try.prog) Try.func81 (fun xs w => by kernel_rfl) _ _ (P20 ++ [.t (u_eq (y0.fOp >>> 4) (11#8)) hq10, .o, .t (u_eq (y0.fOp >>> 4) (12#8)) hq11, .o, .t (u_eq (y0.fOp >>> 4) (13#8)) hq12, .o, .o]) [] (fun b => by kernel_rfl)
                          · subst e; exact fn_conG hU (P := Try.prog) Try.func81 (fun xs w => by kernel_rfl) _ _ (P20 ++ [.t (u_eq (y0.fOp >>> 4) (11#8)) hq10, .o, .t (u_eq (y0.fOp >>> 4) (12#8)) hq11, .o, .t (u_eq (y0.fOp >>> 4) (13#8)) hq12, .o, .o]) [] (fun b => by kernel_rfl)
    · subst e; exact fn_conG hU (P := Try.prog) Try.func81 (fun xs w => by kernel_rfl) _ _ (P11 ++ [.t (u_eq (y0.fOp &&& 7#8) (6#8)) hq1, .o, .o]) [] (fun b => by kernel_rfl)
noncomputable def m_insn_knownAlu (y0 : Insn) : Bool :=
  bif (y0.fOp &&& 8#8) == 0#8 then
    (bif (y0.fOp >>> 4) == 8#8 then
      (bif y0.fSrc == 0#8 then
        (bif y0.fOff == 0#16 then
          ((y0.fImm == 0#32))
        else (false))
      else (false))
    else (bif (y0.fOp >>> 4) == 13#8 then
      (bif y0.fSrc == 0#8 then
        (bif y0.fOff == 0#16 then
          (bif y0.fImm == 16#32 then
            (true)
          else (bif y0.fImm == 32#32 then
            (true)
          else ((y0.fImm == 64#32))))
        else (false))
      else (false))
    else (bif (y0.fOp >>> 4) == 0#8 then
      (bif y0.fOff == 0#16 then
        (bindT (m_insn_plainOperand y0) fun r0 =>
        r0)
      else (false))
    else (bif (y0.fOp >>> 4) == 1#8 then
      (bif y0.fOff == 0#16 then
        (bindT (m_insn_plainOperand y0) fun r0 =>
        r0)
      else (false))
    else (bif (y0.fOp >>> 4) == 2#8 then
      (bif y0.fOff == 0#16 then
        (bindT (m_insn_plainOperand y0) fun r0 =>
        r0)
      else (false))
    else (bif (y0.fOp >>> 4) == 3#8 then
      (bif y0.fOff == 0#16 then
        (bindT (m_insn_plainOperand y0) fun r0 =>
        r0)
      else (false))
    else (bif (y0.fOp >>> 4) == 4#8 then
      (bif y0.fOff == 0#16 then
        (bindT (m_insn_plainOperand y0) fun r0 =>
        r0)
      else (false))
    else (bif (y0.fOp >>> 4) == 5#8 then
      (bif y0.fOff == 0#16 then
        (bindT (m_insn_plainOperand y0) fun r0 =>
        r0)
      else (false))
    else (bif (y0.fOp >>> 4) == 6#8 then
      (bif y0.fOff == 0#16 then
        (bindT (m_insn_plainOperand y0) fun r0 =>
        r0)
      else (false))
    else (bif (y0.fOp >>> 4) == 7#8 then
      (bif y0.fOff == 0#16 then
        (bindT (m_insn_plainOperand y0) fun r0 =>
        r0)
      else (false))
    else (bif (y0.fOp >>> 4) == 9#8 then
      (bif y0.fOff == 0#16 then
        (bindT (m_insn_plainOperand y0) fun r0 =>
        r0)
      else (false))
    else (bif (y0.fOp >>> 4) == 10#8 then
      (bif y0.fOff == 0#16 then
        (bindT (m_insn_plainOperand y0) fun r0 =>
        r0)
      else (false))
    else (bif (y0.fOp >>> 4) == 11#8 then
      (bif y0.fOff == 0#16 then
        (bindT (m_insn_plainOperand y0) fun r0 =>
        r0)
      else (false))
    else (bif (y0.fOp >>> 4) == 12#8 then
      (bif y0.fOff == 0#16 then
        (bindT (m_insn_plainOperand y0) fun r0 =>
        r0)
      else (false))
    else (false)))))))))))))))
  else (bif (y0.fOp >>> 4) == 8#8 then
    (false)
  else (bif (y0.fOp >>> 4) == 13#8 then
    (bif (y0.fOp &&& 7#8) == 7#8 then
      (false)
    else (bif y0.fSrc == 0#8 then
      (bif y0.fOff == 0#16 then
        (bif y0.fImm == 16#32 then
          (true)
        else (bif y0.fImm == 32#32 then
          (true)
        else ((y0.fImm == 64#32))))
      else (false))
    else (false)))
  else (bif (y0.fOp >>> 4) == 0#8 then
    (bif y0.fOff == 0#16 then
      (bindT (m_insn_plainOperand y0) fun r0 =>
      r0)
    else (false))
  else (bif (y0.fOp >>> 4) == 1#8 then
    (bif y0.fOff == 0#16 then
      (bindT (m_insn_plainOperand y0) fun r0 =>
      r0)
    else (false))
  else (bif (y0.fOp >>> 4) == 2#8 then
    (bif y0.fOff == 0#16 then
      (bindT (m_insn_plainOperand y0) fun r0 =>
      r0)
    else (false))
  else (bif (y0.fOp >>> 4) == 3#8 then
    (bif y0.fOff == 0#16 then
      (bindT (m_insn_plainOperand y0) fun r0 =>
      r0)
    else (false))
  else (bif (y0.fOp >>> 4) == 4#8 then
    (bif y0.fOff == 0#16 then
      (bindT (m_insn_plainOperand y0) fun r0 =>
      r0)
    else (false))
  else (bif (y0.fOp >>> 4) == 5#8 then
    (bif y0.fOff == 0#16 then
      (bindT (m_insn_plainOperand y0) fun r0 =>
      r0)
    else (false))
  else (bif (y0.fOp >>> 4) == 6#8 then
    (bif y0.fOff == 0#16 then
      (bindT (m_insn_plainOperand y0) fun r0 =>
      r0)
    else (false))
  else (bif (y0.fOp >>> 4) == 7#8 then
    (bif y0.fOff == 0#16 then
      (bindT (m_insn_plainOperand y0) fun r0 =>
      r0)
    else (false))
  else (bif (y0.fOp >>> 4) == 9#8 then
    (bif y0.fOff == 0#16 then
      (bindT (m_insn_plainOperand y0) fun r0 =>
      r0)
    else (false))
  else (bif (y0.fOp >>> 4) == 10#8 then
    (bif y0.fOff == 0#16 then
      (bindT (m_insn_plainOperand y0) fun r0 =>
      r0)
    else (false))
  else (bif (y0.fOp >>> 4) == 11#8 then
    (bif y0.fOff == 0#16 then
      (bindT (m_insn_plainOperand y0) fun r0 =>
      r0)
    else (false))
  else (bif (y0.fOp >>> 4) == 12#8 then
    (bif y0.fOff == 0#16 then
      (bindT (m_insn_plainOperand y0) fun r0 =>
      r0)
    else (false))
  else (false)))))))))))))))
theorem ok_insn_knownAlu (r : Bool) (e : m_insn_knownAlu y0 = r) : ConG Try.prog S 80 #[(v_Insn y0)] (.bool (r)) := by
  unfold m_insn_knownAlu at e
  replace e := cond_eq_or e
  let P1 : List (PG Try.prog M B0 S) := [.o, .o, .o, .a 0, .v .u8 (u8_and y0.fOp (8#8))]
  rcases e with ⟨hq0, e⟩ | ⟨hq0, e⟩
  · replace e := cond_eq_or e
    let P2 : List (PG Try.prog M B0 S) := P1 ++ [.tn (u_ne (y0.fOp &&& 8#8) (0#8)) hq0, .o, .o, .a 0, .ov (u8_shr Try.prog 5 (.tmp 9) (.const (.int .u64 (4))) y0.fOp 4 .u64 rfl)]
    rcases e with ⟨hq1, e⟩ | ⟨hq1, e⟩
    · replace e := cond_eq_or e
      let P3 : List (PG Try.prog M B0 S) := P2 ++ [.t (u_eq (y0.fOp >>> 4) (8#8)) hq1, .o, .o, .o, .o, .o, .a 0]
      rcases e with ⟨hq2, e⟩ | ⟨hq2, e⟩
      · replace e := cond_eq_or e
        rcases e with ⟨hq3, e⟩ | ⟨hq3, e⟩
        · subst e; exact fn_conG hU (P := Try.prog) Try.func80 (fun xs w => by kernel_rfl) _ _ (P3 ++ [.t (u_eq y0.fSrc (0#8)) hq2, .o, .o, .o, .a 0, .t (i_eq y0.fOff (0#16)) hq3, .o, .o, .o, .a 0, .t (i_eq y0.fImm (0#32)) rfl, .o, .o]) [] (fun b => by kernel_rfl)
        · subst e; exact fn_conG hU (P := Try.prog) Try.func80 (fun xs w => by kernel_rfl) _ _ (P3 ++ [.t (u_eq y0.fSrc (0#8)) hq2, .o, .o, .o, .a 0, .t (i_eq y0.fOff (0#16)) hq3, .o, .o, .o, .o]) [] (fun b => by kernel_rfl)
      · subst e; exact fn_conG hU (P := Try.prog) Try.func80 (fun xs w => by kernel_rfl) _ _ (P3 ++ [.t (u_eq y0.fSrc (0#8)) hq2, .o, .o, .o, .o, .o, .o]) [] (fun b => by kernel_rfl)
    · replace e := cond_eq_or e
      let P4 : List (PG Try.prog M B0 S) := P2 ++ [.t (u_eq (y0.fOp >>> 4) (8#8)) hq1, .o]
      rcases e with ⟨hq2, e⟩ | ⟨hq2, e⟩
      · replace e := cond_eq_or e
        let P5 : List (PG Try.prog M B0 S) := P4 ++ [.t (u_eq (y0.fOp >>> 4) (13#8)) hq2, .o, .o, .o, .o, .o, .a 0]
        rcases e with ⟨hq3, e⟩ | ⟨hq3, e⟩
        · replace e := cond_eq_or e
          let P6 : List (PG Try.prog M B0 S) := P5 ++ [.t (u_eq y0.fSrc (0#8)) hq3, .o, .o, .a 0]
          rcases e with ⟨hq4, e⟩ | ⟨hq4, e⟩
          · replace e := cond_eq_or e
            let P7 : List (PG Try.prog M B0 S) := P6 ++ [.t (i_eq y0.fOff (0#16)) hq4, .o, .o, .o, .a 0]
            rcases e with ⟨hq5, e⟩ | ⟨hq5, e⟩
            · subst e; exact fn_conG hU (P := Try.prog) Try.func80 (fun xs w => by kernel_rfl) _ _ (P7 ++ [.t (i_eq y0.fImm (16#32)) hq5, .o, .o, .o, .o, .o, .o]) [] (fun b => by kernel_rfl)
            · replace e := cond_eq_or e
              rcases e with ⟨hq6, e⟩ | ⟨hq6, e⟩
              · subst e; exact fn_conG hU (P := Try.prog) Try.func80 (fun xs w => by kernel_rfl) _ _ (P7 ++ [.t (i_eq y0.fImm (16#32)) hq5, .o, .o, .a 0, .t (i_eq y0.fImm (32#32)) hq6, .o, .o, .o, .o, .o]) [] (fun b => by kernel_rfl)
              · subst e; exact fn_conG hU (P := Try.prog) Try.func80 (fun xs w => by kernel_rfl) _ _ (P7 ++ [.t (i_eq y0.fImm (16#32)) hq5, .o, .o, .a 0, .t (i_eq y0.fImm (32#32)) hq6, .o, .o, .o, .a 0, .t (i_eq y0.fImm (64#32)) rfl, .o, .o, .o]) [] (fun b => by kernel_rfl)
          · subst e; exact fn_conG hU (P := Try.prog) Try.func80 (fun xs w => by kernel_rfl) _ _ (P6 ++ [.t (i_eq y0.fOff (0#16)) hq4, .o, .o, .o, .o]) [] (fun b => by kernel_rfl)
        · subst e; exact fn_conG hU (P := Try.prog) Try.func80 (fun xs w => by kernel_rfl) _ _ (P5 ++ [.t (u_eq y0.fSrc (0#8)) hq3, .o, .o, .o, .o, .o]) [] (fun b => by kernel_rfl)
      · replace e := cond_eq_or e
        let P8 : List (PG Try.prog M B0 S) := P4 ++ [.t (u_eq (y0.fOp >>> 4) (13#8)) hq2, .o]
        rcases e with ⟨hq3, e⟩ | ⟨hq3, e⟩
        · replace e := cond_eq_or e
          rcases e with ⟨hq4, e⟩ | ⟨hq4, e⟩
          · replace e := bindT_eq e
            obtain ⟨r0, e_r0, e⟩ := e
            try dsimp only at e
            subst e; exact fn_conG hU (P := Try.prog) Try.func80 (fun xs w => by kernel_rfl) _ _ (P8 ++ [.t (u_eq (y0.fOp >>> 4) (0#8)) hq3, .o, .o, .a 0, .t (i_eq y0.fOff (0#16)) hq4, .o, .a 0, .cg (ok_insn_plainOperand hU y0 r0 e_r0), .o, .o]) [] (fun b => by kernel_rfl)
          · subst e; exact fn_conG hU (P := Try.prog) Try.func80 (fun xs w => by kernel_rfl) _ _ (P8 ++ [.t (u_eq (y0.fOp >>> 4) (0#8)) hq3, .o, .o, .a 0, .t (i_eq y0.fOff (0#16)) hq4, .o, .o, .o]) [] (fun b => by kernel_rfl)
        · replace e := cond_eq_or e
          let P9 : List (PG Try.prog M B0 S) := P8 ++ [.t (u_eq (y0.fOp >>> 4) (0#8)) hq3, .o]
          rcases e with ⟨hq4, e⟩ | ⟨hq4, e⟩
          · replace e := cond_eq_or e
            rcases e with ⟨hq5, e⟩ | ⟨hq5, e⟩
            · replace e := bindT_eq e
              obtain ⟨r0, e_r0, e⟩ := e
              try dsimp only at e
              subst e; exact fn_conG hU (P := Try.prog) Try.func80 (fun xs w => by kernel_rfl) _ _ (P9 ++ [.t (u_eq (y0.fOp >>> 4) (1#8)) hq4, .o, .o, .a 0, .t (i_eq y0.fOff (0#16)) hq5, .o, .a 0, .cg (ok_insn_plainOperand hU y0 r0 e_r0), .o, .o]) [] (fun b => by kernel_rfl)
            · subst e; exact fn_conG hU (P := Try.prog) Try.func80 (fun xs w => by kernel_rfl) _ _ (P9 ++ [.t (u_eq (y0.fOp >>> 4) (1#8)) hq4, .o, .o, .a 0, .t (i_eq y0.fOff (0#16)) hq5, .o, .o, .o]) [] (fun b => by kernel_rfl)
          · replace e := cond_eq_or e
            let P10 : List (PG Try.prog M B0 S) := P9 ++ [.t (u_eq (y0.fOp >>> 4) (1#8)) hq4, .o]
            rcases e with ⟨hq5, e⟩ | ⟨hq5, e⟩
            · replace e := cond_eq_or e
              rcases e with ⟨hq6, e⟩ | ⟨hq6, e⟩
              · replace e := bindT_eq e
                obtain ⟨r0, e_r0, e⟩ := e
                try dsimp only at e
                subst e; exact fn_conG hU (P := Try.prog) Try.func80 (fun xs w => by kernel_rfl) _ _ (P10 ++ [.t (u_eq (y0.fOp >>> 4) (2#8)) hq5, .o, .o, .a 0, .t (i_eq y0.fOff (0#16)) hq6, .o, .a 0, .cg (ok_insn_plainOperand hU y0 r0 e_r0), .o, .o]) [] (fun b => by kernel_rfl)
              · subst e; exact fn_conG hU (P := Try.prog) Try.func80 (fun xs w => by kernel_rfl) _ _ (P10 ++ [.t (u_eq (y0.fOp >>> 4) (2#8)) hq5, .o, .o, .a 0, .t (i_eq y0.fOff (0#16)) hq6, .o, .o, .o]) [] (fun b => by kernel_rfl)
            · replace e := cond_eq_or e
              let P11 : List (PG Try.prog M B0 S) := P10 ++ [.t (u_eq (y0.fOp >>> 4) (2#8)) hq5, .o]
              rcases e with ⟨hq6, e⟩ | ⟨hq6, e⟩
              · replace e := cond_eq_or e
                rcases e with ⟨hq7, e⟩ | ⟨hq7, e⟩
                · replace e := bindT_eq e
                  obtain ⟨r0, e_r0, e⟩ := e
                  try dsimp only at e
                  subst e; exact fn_conG hU (P := Try.prog) Try.func80 (fun xs w => by kernel_rfl) _ _ (P11 ++ [.t (u_eq (y0.fOp >>> 4) (3#8)) hq6, .o, .o, .a 0, .t (i_eq y0.fOff (0#16)) hq7, .o, .a 0, .cg (ok_insn_plainOperand hU y0 r0 e_r0), .o, .o]) [] (fun b => by kernel_rfl)
                · subst e; exact fn_conG hU (P := Try.prog) Try.func80 (fun xs w => by kernel_rfl) _ _ (P11 ++ [.t (u_eq (y0.fOp >>> 4) (3#8)) hq6, .o, .o, .a 0, .t (i_eq y0.fOff (0#16)) hq7, .o, .o, .o]) [] (fun b => by kernel_rfl)
              · replace e := cond_eq_or e
                let P12 : List (PG Try.prog M B0 S) := P11 ++ [.t (u_eq (y0.fOp >>> 4) (3#8)) hq6, .o]
                rcases e with ⟨hq7, e⟩ | ⟨hq7, e⟩
                · replace e := cond_eq_or e
                  rcases e with ⟨hq8, e⟩ | ⟨hq8, e⟩
                  · replace e := bindT_eq e
                    obtain ⟨r0, e_r0, e⟩ := e
                    try dsimp only at e
                    subst e; exact fn_conG hU (P := Try.prog) Try.func80 (fun xs w => by kernel_rfl) _ _ (P12 ++ [.t (u_eq (y0.fOp >>> 4) (4#8)) hq7, .o, .o, .a 0, .t (i_eq y0.fOff (0#16)) hq8, .o, .a 0, .cg (ok_insn_plainOperand hU y0 r0 e_r0), .o, .o]) [] (fun b => by kernel_rfl)
                  · subst e; exact fn_conG hU (P := Try.prog) Try.func80 (fun xs w => by kernel_rfl) _ _ (P12 ++ [.t (u_eq (y0.fOp >>> 4) (4#8)) hq7, .o, .o, .a 0, .t (i_eq y0.fOff (0#16)) hq8, .o, .o, .o]) [] (fun b => by kernel_rfl)
                · replace e := cond_eq_or e
                  let P13 : List (PG Try.prog M B0 S) := P12 ++ [.t (u_eq (y0.fOp >>> 4) (4#8)) hq7, .o]
                  rcases e with ⟨hq8, e⟩ | ⟨hq8, e⟩
                  · replace e := cond_eq_or e
                    rcases e with ⟨hq9, e⟩ | ⟨hq9, e⟩
                    · replace e := bindT_eq e
                      obtain ⟨r0, e_r0, e⟩ := e
                      try dsimp only at e
                      subst e; exact fn_conG hU (P := Try.prog) Try.func80 (fun xs w => by kernel_rfl) _ _ (P13 ++ [.t (u_eq (y0.fOp >>> 4) (5#8)) hq8, .o, .o, .a 0, .t (i_eq y0.fOff (0#16)) hq9, .o, .a 0, .cg (ok_insn_plainOperand hU y0 r0 e_r0), .o, .o]) [] (fun b => by kernel_rfl)
                    · subst e; exact fn_conG hU (P := Try.prog) Try.func80 (fun xs w => by kernel_rfl) _ _ (P13 ++ [.t (u_eq (y0.fOp >>> 4) (5#8)) hq8, .o, .o, .a 0, .t (i_eq y0.fOff (0#16)) hq9, .o, .o, .o]) [] (fun b => by kernel_rfl)
                  · replace e := cond_eq_or e
                    let P14 : List (PG Try.prog M B0 S) := P13 ++ [.t (u_eq (y0.fOp >>> 4) (5#8)) hq8, .o]
                    rcases e with ⟨hq9, e⟩ | ⟨hq9, e⟩
                    · replace e := cond_eq_or e
                      rcases e with ⟨hq10, e⟩ | ⟨hq10, e⟩
                      · replace e := bindT_eq e
                        obtain ⟨r0, e_r0, e⟩ := e
                        try dsimp only at e
                        subst e; exact fn_conG hU (P := Try.prog) Try.func80 (fun xs w => by kernel_rfl) _ _ (P14 ++ [.t (u_eq (y0.fOp >>> 4) (6#8)) hq9, .o, .o, .a 0, .t (i_eq y0.fOff (0#16)) hq10, .o, .a 0, .cg (ok_insn_plainOperand hU y0 r0 e_r0), .o, .o]) [] (fun b => by kernel_rfl)
                      · subst e; exact fn_conG hU (P := Try.prog) Try.func80 (fun xs w => by kernel_rfl) _ _ (P14 ++ [.t (u_eq (y0.fOp >>> 4) (6#8)) hq9, .o, .o, .a 0, .t (i_eq y0.fOff (0#16)) hq10, .o, .o, .o]) [] (fun b => by kernel_rfl)
                    · replace e := cond_eq_or e
                      let P15 : List (PG Try.prog M B0 S) := P14 ++ [.t (u_eq (y0.fOp >>> 4) (6#8)) hq9, .o]
                      rcases e with ⟨hq10, e⟩ | ⟨hq10, e⟩
                      · replace e := cond_eq_or e
                        rcases e with ⟨hq11, e⟩ | ⟨hq11, e⟩
                        · replace e := bindT_eq e
                          obtain ⟨r0, e_r0, e⟩ := e
                          try dsimp only at e
                          subst e; exact fn_conG hU (P := Try.prog) Try.func80 (fun xs w => by kernel_rfl) _ _ (P15 ++ [.t (u_eq (y0.fOp >>> 4) (7#8)) hq10, .o, .o, .a 0, .t (i_eq y0.fOff (0#16)) hq11, .o, .a 0, .cg (ok_insn_plainOperand hU y0 r0 e_r0), .o, .o]) [] (fun b => by kernel_rfl)
                        · subst e; exact fn_conG hU (P := Try.prog) Try.func80 (fun xs w => by kernel_rfl) _ _ (P15 ++ [.t (u_eq (y0.fOp >>> 4) (7#8)) hq10, .o, .o, .a 0, .t (i_eq y0.fOff (0#16)) hq11, .o, .o, .o]) [] (fun b => by kernel_rfl)
                      · replace e := cond_eq_or e
                        let P16 : List (PG Try.prog M B0 S) := P15 ++ [.t (u_eq (y0.fOp >>> 4) (7#8)) hq10, .o]
                        rcases e with ⟨hq11, e⟩ | ⟨hq11, e⟩
                        · replace e := cond_eq_or e
                          rcases e with ⟨hq12, e⟩ | ⟨hq12, e⟩
                          · replace e := bindT_eq e
                            obtain ⟨r0, e_r0, e⟩ := e
                            try dsimp only at e
                            subst e; exact fn_conG hU (P := Try.prog) Try.func80 (fun xs w => by kernel_rfl) _ _ (P16 ++ [.t (u_eq (y0.fOp >>> 4) (9#8)) hq11, .o, .o, .a 0, .t (i_eq y0.fOff (0#16)) hq12, .o, .a 0, .cg (ok_insn_plainOperand hU y0 r0 e_r0), .o, .o]) [] (fun b => by kernel_rfl)
                          · subst e; exact fn_conG hU (P := Try.prog) Try.func80 (fun xs w => by kernel_rfl) _ _ (P16 ++ [.t (u_eq (y0.fOp >>> 4) (9#8)) hq11, .o, .o, .a 0, .t (i_eq y0.fOff (0#16)) hq12, .o, .o, .o]) [] (fun b => by kernel_rfl)
                        · replace e := cond_eq_or e
                          let P17 : List (PG Try.prog M B0 S) := P16 ++ [.t (u_eq (y0.fOp >>> 4) (9#8)) hq11, .o]
                          rcases e with ⟨hq12, e⟩ | ⟨hq12, e⟩
                          · replace e := cond_eq_or e
                            rcases e with ⟨hq13, e⟩ | ⟨hq13, e⟩
                            · replace e := bindT_eq e
                              obtain ⟨r0, e_r0, e⟩ := e
                              try dsimp only at e
                              subst e; exact fn_conG hU (P := Try.prog) Try.func80 (fun xs w => by kernel_rfl) _ _ (P17 ++ [.t (u_eq (y0.fOp >>> 4) (10#8)) hq12, .o, .o, .a 0, .t (i_eq y0.fOff (0#16)) hq13, .o, .a 0, .cg (ok_insn_plainOperand hU y0 r0 e_r0), .o, .o]) [] (fun b => by kernel_rfl)
                            · subst e; exact fn_conG hU (P := Try.prog) Try.func80 (fun xs w => by kernel_rfl) _ _ (P17 ++ [.t (u_eq (y0.fOp >>> 4) (10#8)) hq12, .o, .o, .a 0, .t (i_eq y0.fOff (0#16)) hq13, .o, .o, .o]) [] (fun b => by kernel_rfl)
                          · replace e := cond_eq_or e
                            let P18 : List (PG Try.prog M B0 S) := P17 ++ [.t (u_eq (y0.fOp >>> 4) (10#8)) hq12, .o]
                            rcases e with ⟨hq13, e⟩ | ⟨hq13, e⟩
                            · replace e := cond_eq_or e
                              rcases e with ⟨hq14, e⟩ | ⟨hq14, e⟩
                              · replace e := bindT_eq e
                                obtain ⟨r0, e_r0, e⟩ := e
                                try dsimp only at e
                                subst e; exact fn_conG hU (P := Try.prog) Try.func80 (fun xs w => by kernel_rfl) _ _ (P18 ++ [.t (u_eq (y0.fOp >>> 4) (11#8)) hq13, .o, .o, .a 0, .t (i_eq y0.fOff (0#16)) hq14, .o, .a 0, .cg (ok_insn_plainOperand hU y0 r0 e_r0), .o, .o]) [] (fun b => by kernel_rfl)
                              · subst e; exact fn_conG hU (P := Try.prog) Try.func80 (fun xs w => by kernel_rfl) _ _ (P18 ++ [.t (u_eq (y0.fOp >>> 4) (11#8)) hq13, .o, .o, .a 0, .t (i_eq y0.fOff (0#16)) hq14, .o, .o, .o]) [] (fun b => by kernel_rfl)
                            · replace e := cond_eq_or e
                              rcases e with ⟨hq14, e⟩ | ⟨hq14, e⟩
                              · replace e := cond_eq_or e
                                let P19 : List (PG Try.prog M B0 S) := P18 ++ [.t (u_eq (y0.fOp >>> 4) (11#8)) hq13, .o, .t (u_eq (y0.fOp >>> 4) (12#8)) hq14, .o, .o, .a 0]
                                rcases e with ⟨hq15, e⟩ | ⟨hq15, e⟩
                                · replace e := bindT_eq e
                                  obtain ⟨r0, e_r0, e⟩ := e
                                  try dsimp only at e
                                  subst e; exact fn_conG hU (P := Try.prog) Try.func80 (fun xs w => by kernel_rfl) _ _ (P19 ++ [.t (i_eq y0.fOff (0#16)) hq15, .o, .a 0, .cg (ok_insn_plainOperand hU y0 r0 e_r0), .o, .o]) [] (fun b => by kernel_rfl)
                                · subst e; exact fn_conG hU (P := Try.prog) Try.func80 (fun xs w => by kernel_rfl) _ _ (P19 ++ [.t (i_eq y0.fOff (0#16)) hq15, .o, .o, .o]) [] (fun b => by kernel_rfl)
                              · subst e; exact fn_conG hU (P := Try.prog) Try.func80 (fun xs w => by kernel_rfl) _ _ (P18 ++ [.t (u_eq (y0.fOp >>> 4) (11#8)) hq13, .o, .t (u_eq (y0.fOp >>> 4) (12#8)) hq14, .o, .o]) [] (fun b => by kernel_rfl)
  · replace e := cond_eq_or e
    let P20 : List (PG Try.prog M B0 S) := P1 ++ [.tn (u_ne (y0.fOp &&& 8#8) (0#8)) hq0, .o, .o, .a 0, .ov (u8_shr Try.prog 5 (.tmp 9) (.const (.int .u64 (4))) y0.fOp 4 .u64 rfl)]
    rcases e with ⟨hq1, e⟩ | ⟨hq1, e⟩
    · subst e; exact fn_conG hU (P := Try.prog) Try.func80 (fun xs w => by kernel_rfl) _ _ (P20 ++ [.t (u_eq (y0.fOp >>> 4) (8#8)) hq1, .o, .o, .o, .o, .o, .o, .o, .o, .o, .o]) [] (fun b => by kernel_rfl)
    · replace e := cond_eq_or e
      let P21 : List (PG Try.prog M B0 S) := P20 ++ [.t (u_eq (y0.fOp >>> 4) (8#8)) hq1, .o]
      rcases e with ⟨hq2, e⟩ | ⟨hq2, e⟩
      · replace e := cond_eq_or e
        let P22 : List (PG Try.prog M B0 S) := P21 ++ [.t (u_eq (y0.fOp >>> 4) (13#8)) hq2, .o, .o, .o, .o, .a 0, .v .u8 (u8_and y0.fOp (7#8))]
        rcases e with ⟨hq3, e⟩ | ⟨hq3, e⟩
        · subst e; exact fn_conG hU (P := Try.prog) Try.func80 (fun xs w => by kernel_rfl) _ _ (P22 ++ [.t (u_eq (y0.fOp &&& 7#8) (7#8)) hq3, .o, .o]) [] (fun b => by kernel_rfl)
        · replace e := cond_eq_or e
          let P23 : List (PG Try.prog M B0 S) := P22 ++ [.t (u_eq (y0.fOp &&& 7#8) (7#8)) hq3, .o, .o, .a 0]
          rcases e with ⟨hq4, e⟩ | ⟨hq4, e⟩
          · replace e := cond_eq_or e
            let P24 : List (PG Try.prog M B0 S) := P23 ++ [.t (u_eq y0.fSrc (0#8)) hq4, .o, .o, .a 0]
            rcases e with ⟨hq5, e⟩ | ⟨hq5, e⟩
            · replace e := cond_eq_or e
              let P25 : List (PG Try.prog M B0 S) := P24 ++ [.t (i_eq y0.fOff (0#16)) hq5, .o, .o, .o, .a 0]
              rcases e with ⟨hq6, e⟩ | ⟨hq6, e⟩
              · subst e; exact fn_conG hU (P := Try.prog) Try.func80 (fun xs w => by kernel_rfl) _ _ (P25 ++ [.t (i_eq y0.fImm (16#32)) hq6, .o, .o, .o, .o, .o, .o]) [] (fun b => by kernel_rfl)
              · replace e := cond_eq_or e
                rcases e with ⟨hq7, e⟩ | ⟨hq7, e⟩
                · subst e; exact fn_conG hU (P := Try.prog) Try.func80 (fun xs w => by kernel_rfl) _ _ (P25 ++ [.t (i_eq y0.fImm (16#32)) hq6, .o, .o, .a 0, .t (i_eq y0.fImm (32#32)) hq7, .o, .o, .o, .o, .o]) [] (fun b => by kernel_rfl)
                · subst e; exact fn_conG hU (P := Try.prog) Try.func80 (fun xs w => by kernel_rfl) _ _ (P25 ++ [.t (i_eq y0.fImm (16#32)) hq6, .o, .o, .a 0, .t (i_eq y0.fImm (32#32)) hq7, .o, .o, .o, .a 0, .t (i_eq y0.fImm (64#32)) rfl, .o, .o, .o]) [] (fun b => by kernel_rfl)
            · subst e; exact fn_conG hU (P := Try.prog) Try.func80 (fun xs w => by kernel_rfl) _ _ (P24 ++ [.t (i_eq y0.fOff (0#16)) hq5, .o, .o, .o, .o]) [] (fun b => by kernel_rfl)
          · subst e; exact fn_conG hU (P := Try.prog) Try.func80 (fun xs w => by kernel_rfl) _ _ (P23 ++ [.t (u_eq y0.fSrc (0#8)) hq4, .o, .o, .o, .o, .o]) [] (fun b => by kernel_rfl)
      · replace e := cond_eq_or e
        let P26 : List (PG Try.prog M B0 S) := P21 ++ [.t (u_eq (y0.fOp >>> 4) (13#8)) hq2, .o]
        rcases e with ⟨hq3, e⟩ | ⟨hq3, e⟩
        · replace e := cond_eq_or e
          rcases e with ⟨hq4, e⟩ | ⟨hq4, e⟩
          · replace e := bindT_eq e
            obtain ⟨r0, e_r0, e⟩ := e
            try dsimp only at e
            subst e; exact fn_conG hU (P := Try.prog) Try.func80 (fun xs w => by kernel_rfl) _ _ (P26 ++ [.t (u_eq (y0.fOp >>> 4) (0#8)) hq3, .o, .o, .a 0, .t (i_eq y0.fOff (0#16)) hq4, .o, .a 0, .cg (ok_insn_plainOperand hU y0 r0 e_r0), .o, .o]) [] (fun b => by kernel_rfl)
          · subst e; exact fn_conG hU (P := Try.prog) Try.func80 (fun xs w => by kernel_rfl) _ _ (P26 ++ [.t (u_eq (y0.fOp >>> 4) (0#8)) hq3, .o, .o, .a 0, .t (i_eq y0.fOff (0#16)) hq4, .o, .o, .o]) [] (fun b => by kernel_rfl)
        · replace e := cond_eq_or e
          let P27 : List (PG Try.prog M B0 S) := P26 ++ [.t (u_eq (y0.fOp >>> 4) (0#8)) hq3, .o]
          rcases e with ⟨hq4, e⟩ | ⟨hq4, e⟩
          · replace e := cond_eq_or e
            rcases e with ⟨hq5, e⟩ | ⟨hq5, e⟩
            · replace e := bindT_eq e
              obtain ⟨r0, e_r0, e⟩ := e
              try dsimp only at e
              subst e; exact fn_conG hU (P := Try.prog) Try.func80 (fun xs w => by kernel_rfl) _ _ (P27 ++ [.t (u_eq (y0.fOp >>> 4) (1#8)) hq4, .o, .o, .a 0, .t (i_eq y0.fOff (0#16)) hq5, .o, .a 0, .cg (ok_insn_plainOperand hU y0 r0 e_r0), .o, .o]) [] (fun b => by kernel_rfl)
            · subst e; exact fn_conG hU (P := Try.prog) Try.func80 (fun xs w => by kernel_rfl) _ _ (P27 ++ [.t (u_eq (y0.fOp >>> 4) (1#8)) hq4, .o, .o, .a 0, .t (i_eq y0.fOff (0#16)) hq5, .o, .o, .o]) [] (fun b => by kernel_rfl)
          · replace e := cond_eq_or e
            let P28 : List (PG Try.prog M B0 S) := P27 ++ [.t (u_eq (y0.fOp >>> 4) (1#8)) hq4, .o]
            rcases e with ⟨hq5, e⟩ | ⟨hq5, e⟩
            · replace e := cond_eq_or e
              rcases e with ⟨hq6, e⟩ | ⟨hq6, e⟩
              · replace e := bindT_eq e
                obtain ⟨r0, e_r0, e⟩ := e
                try dsimp only at e
                subst e; exact fn_conG hU (P := Try.prog) Try.func80 (fun xs w => by kernel_rfl) _ _ (P28 ++ [.t (u_eq (y0.fOp >>> 4) (2#8)) hq5, .o, .o, .a 0, .t (i_eq y0.fOff (0#16)) hq6, .o, .a 0, .cg (ok_insn_plainOperand hU y0 r0 e_r0), .o, .o]) [] (fun b => by kernel_rfl)
              · subst e; exact fn_conG hU (P := Try.prog) Try.func80 (fun xs w => by kernel_rfl) _ _ (P28 ++ [.t (u_eq (y0.fOp >>> 4) (2#8)) hq5, .o, .o, .a 0, .t (i_eq y0.fOff (0#16)) hq6, .o, .o, .o]) [] (fun b => by kernel_rfl)
            · replace e := cond_eq_or e
              let P29 : List (PG Try.prog M B0 S) := P28 ++ [.t (u_eq (y0.fOp >>> 4) (2#8)) hq5, .o]
              rcases e with ⟨hq6, e⟩ | ⟨hq6, e⟩
              · replace e := cond_eq_or e
                rcases e with ⟨hq7, e⟩ | ⟨hq7, e⟩
                · replace e := bindT_eq e
                  obtain ⟨r0, e_r0, e⟩ := e
                  try dsimp only at e
                  subst e; exact fn_conG hU (P := Try.prog) Try.func80 (fun xs w => by kernel_rfl) _ _ (P29 ++ [.t (u_eq (y0.fOp >>> 4) (3#8)) hq6, .o, .o, .a 0, .t (i_eq y0.fOff (0#16)) hq7, .o, .a 0, .cg (ok_insn_plainOperand hU y0 r0 e_r0), .o, .o]) [] (fun b => by kernel_rfl)
                · subst e; exact fn_conG hU (P := Try.prog) Try.func80 (fun xs w => by kernel_rfl) _ _ (P29 ++ [.t (u_eq (y0.fOp >>> 4) (3#8)) hq6, .o, .o, .a 0, .t (i_eq y0.fOff (0#16)) hq7, .o, .o, .o]) [] (fun b => by kernel_rfl)
              · replace e := cond_eq_or e
                let P30 : List (PG Try.prog M B0 S) := P29 ++ [.t (u_eq (y0.fOp >>> 4) (3#8)) hq6, .o]
                rcases e with ⟨hq7, e⟩ | ⟨hq7, e⟩
                · replace e := cond_eq_or e
                  rcases e with ⟨hq8, e⟩ | ⟨hq8, e⟩
                  · replace e := bindT_eq e
                    obtain ⟨r0, e_r0, e⟩ := e
                    try dsimp only at e
                    subst e; exact fn_conG hU (P := Try.prog) Try.func80 (fun xs w => by kernel_rfl) _ _ (P30 ++ [.t (u_eq (y0.fOp >>> 4) (4#8)) hq7, .o, .o, .a 0, .t (i_eq y0.fOff (0#16)) hq8, .o, .a 0, .cg (ok_insn_plainOperand hU y0 r0 e_r0), .o, .o]) [] (fun b => by kernel_rfl)
                  · subst e; exact fn_conG hU (P := Try.prog) Try.func80 (fun xs w => by kernel_rfl) _ _ (P30 ++ [.t (u_eq (y0.fOp >>> 4) (4#8)) hq7, .o, .o, .a 0, .t (i_eq y0.fOff (0#16)) hq8, .o, .o, .o]) [] (fun b => by kernel_rfl)
                · replace e := cond_eq_or e
                  let P31 : List (PG Try.prog M B0 S) := P30 ++ [.t (u_eq (y0.fOp >>> 4) (4#8)) hq7, .o]
                  rcases e with ⟨hq8, e⟩ | ⟨hq8, e⟩
                  · replace e := cond_eq_or e
                    rcases e with ⟨hq9, e⟩ | ⟨hq9, e⟩
                    · replace e := bindT_eq e
                      obtain ⟨r0, e_r0, e⟩ := e
                      try dsimp only at e
                      subst e; exact fn_conG hU (P := Try.prog) Try.func80 (fun xs w => by kernel_rfl) _ _ (P31 ++ [.t (u_eq (y0.fOp >>> 4) (5#8)) hq8, .o, .o, .a 0, .t (i_eq y0.fOff (0#16)) hq9, .o, .a 0, .cg (ok_insn_plainOperand hU y0 r0 e_r0), .o, .o]) [] (fun b => by kernel_rfl)
                    · subst e; exact fn_conG hU (P := Try.prog) Try.func80 (fun xs w => by kernel_rfl) _ _ (P31 ++ [.t (u_eq (y0.fOp >>> 4) (5#8)) hq8, .o, .o, .a 0, .t (i_eq y0.fOff (0#16)) hq9, .o, .o, .o]) [] (fun b => by kernel_rfl)
                  · replace e := cond_eq_or e
                    let P32 : List (PG Try.prog M B0 S) := P31 ++ [.t (u_eq (y0.fOp >>> 4) (5#8)) hq8, .o]
                    rcases e with ⟨hq9, e⟩ | ⟨hq9, e⟩
                    · replace e := cond_eq_or e
                      rcases e with ⟨hq10, e⟩ | ⟨hq10, e⟩
                      · replace e := bindT_eq e
                        obtain ⟨r0, e_r0, e⟩ := e
                        try dsimp only at e
                        subst e; exact fn_conG hU (P := Try.prog) Try.func80 (fun xs w => by kernel_rfl) _ _ (P32 ++ [.t (u_eq (y0.fOp >>> 4) (6#8)) hq9, .o, .o, .a 0, .t (i_eq y0.fOff (0#16)) hq10, .o, .a 0, .cg (ok_insn_plainOperand hU y0 r0 e_r0), .o, .o]) [] (fun b => by kernel_rfl)
                      · subst e; exact fn_conG hU (P := Try.prog) Try.func80 (fun xs w => by kernel_rfl) _ _ (P32 ++ [.t (u_eq (y0.fOp >>> 4) (6#8)) hq9, .o, .o, .a 0, .t (i_eq y0.fOff (0#16)) hq10, .o, .o, .o]) [] (fun b => by kernel_rfl)
                    · replace e := cond_eq_or e
                      let P33 : List (PG Try.prog M B0 S) := P32 ++ [.t (u_eq (y0.fOp >>> 4) (6#8)) hq9, .o]
                      rcases e with ⟨hq10, e⟩ | ⟨hq10, e⟩
                      · replace e := cond_eq_or e
                        rcases e with ⟨hq11, e⟩ | ⟨hq11, e⟩
                        · replace e := bindT_eq e
                          obtain ⟨r0, e_r0, e⟩ := e
                          try dsimp only at e
                          subst e; exact fn_conG hU (P := Try.prog) Try.func80 (fun xs w => by kernel_rfl) _ _ (P33 ++ [.t (u_eq (y0.fOp >>> 4) (7#8)) hq10, .o, .o, .a 0, .t (i_eq y0.fOff (0#16)) hq11, .o, .a 0, .cg (ok_insn_plainOperand hU y0 r0 e_r0), .o, .o]) [] (fun b => by kernel_rfl)
                        · subst e; exact fn_conG hU (P := Try.prog) Try.func80 (fun xs w => by kernel_rfl) _ _ (P33 ++ [.t (u_eq (y0.fOp >>> 4) (7#8)) hq10, .o, .o, .a 0, .t (i_eq y0.fOff (0#16)) hq11, .o, .o, .o]) [] (fun b => by kernel_rfl)
                      · replace e := cond_eq_or e
                        let P34 : List (PG Try.prog M B0 S) := P33 ++ [.t (u_eq (y0.fOp >>> 4) (7#8)) hq10, .o]
                        rcases e with ⟨hq11, e⟩ | ⟨hq11, e⟩
                        · replace e := cond_eq_or e
                          rcases e with ⟨hq12, e⟩ | ⟨hq12, e⟩
                          · replace e := bindT_eq e
                            obtain ⟨r0, e_r0, e⟩ := e
                            try dsimp only at e
                            subst e; exact fn_conG hU (P := Try.prog) Try.func80 (fun xs w => by kernel_rfl) _ _ (P34 ++ [.t (u_eq (y0.fOp >>> 4) (9#8)) hq11, .o, .o, .a 0, .t (i_eq y0.fOff (0#16)) hq12, .o, .a 0, .cg (ok_insn_plainOperand hU y0 r0 e_r0), .o, .o]) [] (fun b => by kernel_rfl)
                          · subst e; exact fn_conG hU (P := Try.prog) Try.func80 (fun xs w => by kernel_rfl) _ _ (P34 ++ [.t (u_eq (y0.fOp >>> 4) (9#8)) hq11, .o, .o, .a 0, .t (i_eq y0.fOff (0#16)) hq12, .o, .o, .o]) [] (fun b => by kernel_rfl)
                        · replace e := cond_eq_or e
                          let P35 : List (PG Try.prog M B0 S) := P34 ++ [.t (u_eq (y0.fOp >>> 4) (9#8)) hq11, .o]
                          rcases e with ⟨hq12, e⟩ | ⟨hq12, e⟩
                          · replace e := cond_eq_or e
                            rcases e with ⟨hq13, e⟩ | ⟨hq13, e⟩
                            · replace e := bindT_eq e
                              obtain ⟨r0, e_r0, e⟩ := e
                              try dsimp only at e
                              subst e; exact fn_conG hU (P := Try.prog) Try.func80 (fun xs w => by kernel_rfl) _ _ (P35 ++ [.t (u_eq (y0.fOp >>> 4) (10#8)) hq12, .o, .o, .a 0, .t (i_eq y0.fOff (0#16)) hq13, .o, .a 0, .cg (ok_insn_plainOperand hU y0 r0 e_r0), .o, .o]) [] (fun b => by kernel_rfl)
                            · subst e; exact fn_conG hU (P := Try.prog) Try.func80 (fun xs w => by kernel_rfl) _ _ (P35 ++ [.t (u_eq (y0.fOp >>> 4) (10#8)) hq12, .o, .o, .a 0, .t (i_eq y0.fOff (0#16)) hq13, .o, .o, .o]) [] (fun b => by kernel_rfl)
                          · replace e := cond_eq_or e
                            let P36 : List (PG Try.prog M B0 S) := P35 ++ [.t (u_eq (y0.fOp >>> 4) (10#8)) hq12, .o]
                            rcases e with ⟨hq13, e⟩ | ⟨hq13, e⟩
                            · replace e := cond_eq_or e
                              rcases e with ⟨hq14, e⟩ | ⟨hq14, e⟩
                              · replace e := bindT_eq e
                                obtain ⟨r0, e_r0, e⟩ := e
                                try dsimp only at e
                                subst e; exact fn_conG hU (P := Try.prog) Try.func80 (fun xs w => by kernel_rfl) _ _ (P36 ++ [.t (u_eq (y0.fOp >>> 4) (11#8)) hq13, .o, .o, .a 0, .t (i_eq y0.fOff (0#16)) hq14, .o, .a 0, .cg (ok_insn_plainOperand hU y0 r0 e_r0), .o, .o]) [] (fun b => by kernel_rfl)
                              · subst e; exact fn_conG hU (P := Try.prog) Try.func80 (fun xs w => by kernel_rfl) _ _ (P36 ++ [.t (u_eq (y0.fOp >>> 4) (11#8)) hq13, .o, .o, .a 0, .t (i_eq y0.fOff (0#16)) hq14, .o, .o, .o]) [] (fun b => by kernel_rfl)
                            · replace e := cond_eq_or e
                              rcases e with ⟨hq14, e⟩ | ⟨hq14, e⟩
                              · replace e := cond_eq_or e
                                let P37 : List (PG Try.prog M B0 S) := P36 ++ [.t (u_eq (y0.fOp >>> 4) (11#8)) hq13, .o, .t (u_eq (y0.fOp >>> 4) (12#8)) hq14, .o, .o, .a 0]
                                rcases e with ⟨hq15, e⟩ | ⟨hq15, e⟩
                                · replace e := bindT_eq e
                                  obtain ⟨r0, e_r0, e⟩ := e
                                  try dsimp only at e
                                  subst e; exact fn_conG hU (P := Try.prog) Try.func80 (fun xs w => by kernel_rfl) _ _ (P37 ++ [.t (i_eq y0.fOff (0#16)) hq15, .o, .a 0, .cg (ok_insn_plainOperand hU y0 r0 e_r0), .o, .o]) [] (fun b => by kernel_rfl)
                                · subst e; exact fn_conG hU (P := Try.prog) Try.func80 (fun xs w => by kernel_rfl) _ _ (P37 ++ [.t (i_eq y0.fOff (0#16)) hq15, .o, .o, .o]) [] (fun b => by kernel_rfl)
                              · subst e; exact fn_conG hU (P := Try.prog) Try.func80 (fun xs w => by kernel_rfl) _ _ (P36 ++ [.t (u_eq (y0.fOp >>> 4) (11#8)) hq13, .o, .t (u_eq (y0.fOp >>> 4) (12#8)) hq14, .o, .o]) [] (fun b => by kernel_rfl)
noncomputable def m_insn_known (y0 : Insn) : Bool :=
  bif y0.fOp == 24#8 then
    (bif y0.fOff == 0#16 then
      (bif y0.fSrc == 0#8 then
        (true)
      else (bif y0.fSrc == 1#8 then
        (true)
      else ((y0.fSrc == 4#8))))
    else (false))
  else (bif y0.fOp == 98#8 then
    ((y0.fSrc == 0#8))
  else (bif y0.fOp == 106#8 then
    ((y0.fSrc == 0#8))
  else (bif y0.fOp == 114#8 then
    ((y0.fSrc == 0#8))
  else (bif y0.fOp == 122#8 then
    ((y0.fSrc == 0#8))
  else (bif y0.fOp == 97#8 then
    ((y0.fImm == 0#32))
  else (bif y0.fOp == 105#8 then
    ((y0.fImm == 0#32))
  else (bif y0.fOp == 113#8 then
    ((y0.fImm == 0#32))
  else (bif y0.fOp == 121#8 then
    ((y0.fImm == 0#32))
  else (bif y0.fOp == 99#8 then
    ((y0.fImm == 0#32))
  else (bif y0.fOp == 107#8 then
    ((y0.fImm == 0#32))
  else (bif y0.fOp == 115#8 then
    ((y0.fImm == 0#32))
  else (bif y0.fOp == 123#8 then
    ((y0.fImm == 0#32))
  else (bif y0.fOp == 5#8 then
    (((y0.fOp == 5#8) && ((y0.fDst == 0#8) && ((y0.fSrc == 0#8) && ((y0.fOff == y0.fOff) && (y0.fImm == 0#32))))))
  else (bif y0.fOp == 133#8 then
    (bif y0.fDst == 0#8 then
      (bif y0.fOff == 0#16 then
        (bif y0.fSrc == 0#8 then
          (true)
        else ((y0.fSrc == 1#8)))
      else (false))
    else (false))
  else (bif y0.fOp == 149#8 then
    (((y0.fOp == 149#8) && ((y0.fDst == 0#8) && ((y0.fSrc == 0#8) && ((y0.fOff == 0#16) && (y0.fImm == 0#32))))))
  else (bif (y0.fOp &&& 7#8) == 4#8 then
    (bindT (m_insn_knownAlu y0) fun r0 =>
    r0)
  else (bif (y0.fOp &&& 7#8) == 7#8 then
    (bindT (m_insn_knownAlu y0) fun r0 =>
    r0)
  else (bif (y0.fOp &&& 7#8) == 5#8 then
    (bif m_insn_compares y0 then
      (bindT (m_insn_plainOperand y0) fun r0 =>
      r0)
    else (false))
  else (bif (y0.fOp &&& 7#8) == 6#8 then
    (bif m_insn_compares y0 then
      (bindT (m_insn_plainOperand y0) fun r0 =>
      r0)
    else (false))
  else (false))))))))))))))))))))
theorem ok_insn_known (r : Bool) (e : m_insn_known y0 = r) : ConG Try.prog S 69 #[(v_Insn y0)] (.bool (r)) := by
  unfold m_insn_known at e
  replace e := cond_eq_or e
  let P1 : List (PG Try.prog M B0 S) := [.o, .o, .o, .a 0]
  rcases e with ⟨hq0, e⟩ | ⟨hq0, e⟩
  · replace e := cond_eq_or e
    let P2 : List (PG Try.prog M B0 S) := P1 ++ [.t (u_eq y0.fOp (24#8)) hq0, .o, .o, .a 0]
    rcases e with ⟨hq1, e⟩ | ⟨hq1, e⟩
    · replace e := cond_eq_or e
      rcases e with ⟨hq2, e⟩ | ⟨hq2, e⟩
      · subst e; exact fn_conG hU (P := Try.prog) Try.func69 (fun xs w => by kernel_rfl) _ _ (P2 ++ [.t (i_eq y0.fOff (0#16)) hq1, .o, .o, .a 0, .t (u_eq y0.fSrc (0#8)) hq2, .o, .o, .o, .o, .o, .o]) [] (fun b => by kernel_rfl)
      · replace e := cond_eq_or e
        rcases e with ⟨hq3, e⟩ | ⟨hq3, e⟩
        · subst e; exact fn_conG hU (P := Try.prog) Try.func69 (fun xs w => by kernel_rfl) _ _ (P2 ++ [.t (i_eq y0.fOff (0#16)) hq1, .o, .o, .a 0, .t (u_eq y0.fSrc (0#8)) hq2, .o, .o, .a 0, .t (u_eq y0.fSrc (1#8)) hq3, .o, .o, .o, .o, .o]) [] (fun b => by kernel_rfl)
        · subst e; exact fn_conG hU (P := Try.prog) Try.func69 (fun xs w => by kernel_rfl) _ _ (P2 ++ [.t (i_eq y0.fOff (0#16)) hq1, .o, .o, .a 0, .t (u_eq y0.fSrc (0#8)) hq2, .o, .o, .a 0, .t (u_eq y0.fSrc (1#8)) hq3, .o, .o, .o, .a 0, .t (u_eq y0.fSrc (4#8)) rfl, .o, .o, .o]) [] (fun b => by kernel_rfl)
    · subst e; exact fn_conG hU (P := Try.prog) Try.func69 (fun xs w => by kernel_rfl) _ _ (P2 ++ [.t (i_eq y0.fOff (0#16)) hq1, .o, .o, .o]) [] (fun b => by kernel_rfl)
  · replace e := cond_eq_or e
    let P3 : List (PG Try.prog M B0 S) := P1 ++ [.t (u_eq y0.fOp (24#8)) hq0, .o]
    rcases e with ⟨hq1, e⟩ | ⟨hq1, e⟩
    · subst e; exact fn_conG hU (P := Try.prog) Try.func69 (fun xs w => by kernel_rfl) _ _ (P3 ++ [.t (u_eq y0.fOp (98#8)) hq1, .o, .o, .a 0, .t (u_eq y0.fSrc (0#8)) rfl, .o]) [] (fun b => by kernel_rfl)
    · replace e := cond_eq_or e
      let P4 : List (PG Try.prog M B0 S) := P3 ++ [.t (u_eq y0.fOp (98#8)) hq1, .o]
      rcases e with ⟨hq2, e⟩ | ⟨hq2, e⟩
      · subst e; exact fn_conG hU (P := Try.prog) Try.func69 (fun xs w => by kernel_rfl) _ _ (P4 ++ [.t (u_eq y0.fOp (106#8)) hq2, .o, .o, .a 0, .t (u_eq y0.fSrc (0#8)) rfl, .o]) [] (fun b => by kernel_rfl)
      · replace e := cond_eq_or e
        let P5 : List (PG Try.prog M B0 S) := P4 ++ [.t (u_eq y0.fOp (106#8)) hq2, .o]
        rcases e with ⟨hq3, e⟩ | ⟨hq3, e⟩
        · subst e; exact fn_conG hU (P := Try.prog) Try.func69 (fun xs w => by kernel_rfl) _ _ (P5 ++ [.t (u_eq y0.fOp (114#8)) hq3, .o, .o, .a 0, .t (u_eq y0.fSrc (0#8)) rfl, .o]) [] (fun b => by kernel_rfl)
        · replace e := cond_eq_or e
          let P6 : List (PG Try.prog M B0 S) := P5 ++ [.t (u_eq y0.fOp (114#8)) hq3, .o]
          rcases e with ⟨hq4, e⟩ | ⟨hq4, e⟩
          · subst e; exact fn_conG hU (P := Try.prog) Try.func69 (fun xs w => by kernel_rfl) _ _ (P6 ++ [.t (u_eq y0.fOp (122#8)) hq4, .o, .o, .a 0, .t (u_eq y0.fSrc (0#8)) rfl, .o]) [] (fun b => by kernel_rfl)
          · replace e := cond_eq_or e
            let P7 : List (PG Try.prog M B0 S) := P6 ++ [.t (u_eq y0.fOp (122#8)) hq4, .o]
            rcases e with ⟨hq5, e⟩ | ⟨hq5, e⟩
            · subst e; exact fn_conG hU (P := Try.prog) Try.func69 (fun xs w => by kernel_rfl) _ _ (P7 ++ [.t (u_eq y0.fOp (97#8)) hq5, .o, .o, .a 0, .t (i_eq y0.fImm (0#32)) rfl, .o]) [] (fun b => by kernel_rfl)
            · replace e := cond_eq_or e
              let P8 : List (PG Try.prog M B0 S) := P7 ++ [.t (u_eq y0.fOp (97#8)) hq5, .o]
              rcases e with ⟨hq6, e⟩ | ⟨hq6, e⟩
              · subst e; exact fn_conG hU (P := Try.prog) Try.func69 (fun xs w => by kernel_rfl) _ _ (P8 ++ [.t (u_eq y0.fOp (105#8)) hq6, .o, .o, .a 0, .t (i_eq y0.fImm (0#32)) rfl, .o]) [] (fun b => by kernel_rfl)
              · replace e := cond_eq_or e
                let P9 : List (PG Try.prog M B0 S) := P8 ++ [.t (u_eq y0.fOp (105#8)) hq6, .o]
                rcases e with ⟨hq7, e⟩ | ⟨hq7, e⟩
                · subst e; exact fn_conG hU (P := Try.prog) Try.func69 (fun xs w => by kernel_rfl) _ _ (P9 ++ [.t (u_eq y0.fOp (113#8)) hq7, .o, .o, .a 0, .t (i_eq y0.fImm (0#32)) rfl, .o]) [] (fun b => by kernel_rfl)
                · replace e := cond_eq_or e
                  let P10 : List (PG Try.prog M B0 S) := P9 ++ [.t (u_eq y0.fOp (113#8)) hq7, .o]
                  rcases e with ⟨hq8, e⟩ | ⟨hq8, e⟩
                  · subst e; exact fn_conG hU (P := Try.prog) Try.func69 (fun xs w => by kernel_rfl) _ _ (P10 ++ [.t (u_eq y0.fOp (121#8)) hq8, .o, .o, .a 0, .t (i_eq y0.fImm (0#32)) rfl, .o]) [] (fun b => by kernel_rfl)
                  · replace e := cond_eq_or e
                    let P11 : List (PG Try.prog M B0 S) := P10 ++ [.t (u_eq y0.fOp (121#8)) hq8, .o]
                    rcases e with ⟨hq9, e⟩ | ⟨hq9, e⟩
                    · subst e; exact fn_conG hU (P := Try.prog) Try.func69 (fun xs w => by kernel_rfl) _ _ (P11 ++ [.t (u_eq y0.fOp (99#8)) hq9, .o, .o, .a 0, .t (i_eq y0.fImm (0#32)) rfl, .o]) [] (fun b => by kernel_rfl)
                    · replace e := cond_eq_or e
                      let P12 : List (PG Try.prog M B0 S) := P11 ++ [.t (u_eq y0.fOp (99#8)) hq9, .o]
                      rcases e with ⟨hq10, e⟩ | ⟨hq10, e⟩
                      · subst e; exact fn_conG hU (P := Try.prog) Try.func69 (fun xs w => by kernel_rfl) _ _ (P12 ++ [.t (u_eq y0.fOp (107#8)) hq10, .o, .o, .a 0, .t (i_eq y0.fImm (0#32)) rfl, .o]) [] (fun b => by kernel_rfl)
                      · replace e := cond_eq_or e
                        let P13 : List (PG Try.prog M B0 S) := P12 ++ [.t (u_eq y0.fOp (107#8)) hq10, .o]
                        rcases e with ⟨hq11, e⟩ | ⟨hq11, e⟩
                        · subst e; exact fn_conG hU (P := Try.prog) Try.func69 (fun xs w => by kernel_rfl) _ _ (P13 ++ [.t (u_eq y0.fOp (115#8)) hq11, .o, .o, .a 0, .t (i_eq y0.fImm (0#32)) rfl, .o]) [] (fun b => by kernel_rfl)
                        · replace e := cond_eq_or e
                          let P14 : List (PG Try.prog M B0 S) := P13 ++ [.t (u_eq y0.fOp (115#8)) hq11, .o]
                          rcases e with ⟨hq12, e⟩ | ⟨hq12, e⟩
                          · subst e; exact fn_conG hU (P := Try.prog) Try.func69 (fun xs w => by kernel_rfl) _ _ (P14 ++ [.t (u_eq y0.fOp (123#8)) hq12, .o, .o, .a 0, .t (i_eq y0.fImm (0#32)) rfl, .o]) [] (fun b => by kernel_rfl)
                          · replace e := cond_eq_or e
                            let P15 : List (PG Try.prog M B0 S) := P14 ++ [.t (u_eq y0.fOp (123#8)) hq12, .o]
                            rcases e with ⟨hq13, e⟩ | ⟨hq13, e⟩
                            · subst e; exact fn_conG hU (P := Try.prog) Try.func69 (fun xs w => by kernel_rfl) _ _ (P15 ++ [.t (u_eq y0.fOp (5#8)) hq13, .o, .a 0, .o, .a 0, .o, .ov (fun w => (run_aggeq 25 #[.int .u8 (nn y0.fOp), .int .u8 (nn y0.fDst), .int .u8 (nn y0.fSrc), .int .i16 (ii y0.fOff), .int .i32 (ii y0.fImm)] #[.int .u8 (5), .int .u8 (0), .int .u8 (0), .int .i16 (ii y0.fOff), .int .i32 (0)] _ (by kernel_rfl) (fun w => eqi25 9998 y0.fOp (5#8) y0.fDst (0#8) y0.fSrc (0#8) y0.fOff y0.fOff y0.fImm (0#32) w) (.tmp 52) (.tmp 55) w).1), .o]) [] (fun b => by kernel_rfl)
                            · replace e := cond_eq_or e
                              let P16 : List (PG Try.prog M B0 S) := P15 ++ [.t (u_eq y0.fOp (5#8)) hq13, .o]
                              rcases e with ⟨hq14, e⟩ | ⟨hq14, e⟩
                              · replace e := cond_eq_or e
                                let P17 : List (PG Try.prog M B0 S) := P16 ++ [.t (u_eq y0.fOp (133#8)) hq14, .o, .o, .a 0]
                                rcases e with ⟨hq15, e⟩ | ⟨hq15, e⟩
                                · replace e := cond_eq_or e
                                  rcases e with ⟨hq16, e⟩ | ⟨hq16, e⟩
                                  · replace e := cond_eq_or e
                                    let P18 : List (PG Try.prog M B0 S) := P17 ++ [.t (u_eq y0.fDst (0#8)) hq15, .o, .o, .a 0, .t (i_eq y0.fOff (0#16)) hq16, .o, .o, .o, .a 0]
                                    rcases e with ⟨hq17, e⟩ | ⟨hq17, e⟩
                                    · subst e; exact fn_conG hU (P := Try.prog) Try.func69 (fun xs w => by kernel_rfl) _ _ (P18 ++ [.t (u_eq y0.fSrc (0#8)) hq17, .o, .o, .o, .o]) [] (fun b => by kernel_rfl)
                                    · subst e; exact fn_conG hU (P := Try.prog) Try.func69 (fun xs w => by kernel_rfl) _ _ (P18 ++ [.t (u_eq y0.fSrc (0#8)) hq17, .o, .o, .a 0, .t (u_eq y0.fSrc (1#8)) rfl, .o, .o, .o]) [] (fun b => by kernel_rfl)
                                  · subst e; exact fn_conG hU (P := Try.prog) Try.func69 (fun xs w => by kernel_rfl) _ _ (P17 ++ [.t (u_eq y0.fDst (0#8)) hq15, .o, .o, .a 0, .t (i_eq y0.fOff (0#16)) hq16, .o, .o, .o, .o]) [] (fun b => by kernel_rfl)
                                · subst e; exact fn_conG hU (P := Try.prog) Try.func69 (fun xs w => by kernel_rfl) _ _ (P17 ++ [.t (u_eq y0.fDst (0#8)) hq15, .o, .o, .o, .o, .o]) [] (fun b => by kernel_rfl)
                              · replace e := cond_eq_or e
                                let P19 : List (PG Try.prog M B0 S) := P16 ++ [.t (u_eq y0.fOp (133#8)) hq14, .o]
                                rcases e with ⟨hq15, e⟩ | ⟨hq15, e⟩
                                · subst e; exact fn_conG hU (P := Try.prog) Try.func69 (fun xs w => by kernel_rfl) _ _ (P19 ++ [.t (u_eq y0.fOp (149#8)) hq15, .o, .a 0, .o, .ov (fun w => (run_aggeq 25 #[.int .u8 (nn y0.fOp), .int .u8 (nn y0.fDst), .int .u8 (nn y0.fSrc), .int .i16 (ii y0.fOff), .int .i32 (ii y0.fImm)] #[.int .u8 (149), .int .u8 (0), .int .u8 (0), .int .i16 (0), .int .i32 (0)] _ (by kernel_rfl) (fun w => eqi25 9998 y0.fOp (149#8) y0.fDst (0#8) y0.fSrc (0#8) y0.fOff (0#16) y0.fImm (0#32) w) (.tmp 75) (.tmp 76) w).1), .o]) [] (fun b => by kernel_rfl)
                                · replace e := cond_eq_or e
                                  let P20 : List (PG Try.prog M B0 S) := P19 ++ [.t (u_eq y0.fOp (149#8)) hq15, .o, .o, .a 0, .v .u8 (u8_and y0.fOp (7#8))]
                                  rcases e with ⟨hq16, e⟩ | ⟨hq16, e⟩
                                  · replace e := bindT_eq e
                                    obtain ⟨r0, e_r0, e⟩ := e
                                    try dsimp only at e
                                    subst e; exact fn_conG hU (P := Try.prog) Try.func69 (fun xs w => by kernel_rfl) _ _ (P20 ++ [.t (u_eq (y0.fOp &&& 7#8) (4#8)) hq16, .o, .a 0, .cg (ok_insn_knownAlu hU y0 r0 e_r0), .o]) [] (fun b => by kernel_rfl)
                                  · replace e := cond_eq_or e
                                    let P21 : List (PG Try.prog M B0 S) := P20 ++ [.t (u_eq (y0.fOp &&& 7#8) (4#8)) hq16, .o]
                                    rcases e with ⟨hq17, e⟩ | ⟨hq17, e⟩
                                    · replace e := bindT_eq e
                                      obtain ⟨r0, e_r0, e⟩ := e
                                      try dsimp only at e
                                      subst e; exact fn_conG hU (P := Try.prog) Try.func69 (fun xs w => by kernel_rfl) _ _ (P21 ++ [.t (u_eq (y0.fOp &&& 7#8) (7#8)) hq17, .o, .a 0, .cg (ok_insn_knownAlu hU y0 r0 e_r0), .o]) [] (fun b => by kernel_rfl)
                                    · replace e := cond_eq_or e
                                      let P22 : List (PG Try.prog M B0 S) := P21 ++ [.t (u_eq (y0.fOp &&& 7#8) (7#8)) hq17, .o]
                                      rcases e with ⟨hq18, e⟩ | ⟨hq18, e⟩
                                      · replace e := cond_eq_or e
                                        rcases e with ⟨hq19, e⟩ | ⟨hq19, e⟩
                                        · replace e := bindT_eq e
                                          obtain ⟨r0, e_r0, e⟩ := e
                                          try dsimp only at e
                                          subst e; exact fn_conG hU (P := Try.prog) Try.func69 (fun xs w => by kernel_rfl) _ _ (P22 ++ [.t (u_eq (y0.fOp &&& 7#8) (5#8)) hq18, .o, .a 0, .cg (ok_insn_compares hU y0 true hq19), .o, .a 0, .cg (ok_insn_plainOperand hU y0 r0 e_r0), .o, .o]) [] (fun b => by kernel_rfl)
                                        · subst e; exact fn_conG hU (P := Try.prog) Try.func69 (fun xs w => by kernel_rfl) _ _ (P22 ++ [.t (u_eq (y0.fOp &&& 7#8) (5#8)) hq18, .o, .a 0, .cg (ok_insn_compares hU y0 false hq19), .o, .o, .o]) [] (fun b => by kernel_rfl)
                                      · replace e := cond_eq_or e
                                        rcases e with ⟨hq19, e⟩ | ⟨hq19, e⟩
                                        · replace e := cond_eq_or e
                                          let P23 : List (PG Try.prog M B0 S) := P22 ++ [.t (u_eq (y0.fOp &&& 7#8) (5#8)) hq18, .o, .t (u_eq (y0.fOp &&& 7#8) (6#8)) hq19, .o, .a 0]
                                          rcases e with ⟨hq20, e⟩ | ⟨hq20, e⟩
                                          · replace e := bindT_eq e
                                            obtain ⟨r0, e_r0, e⟩ := e
                                            try dsimp only at e
                                            subst e; exact fn_conG hU (P := Try.prog) Try.func69 (fun xs w => by kernel_rfl) _ _ (P23 ++ [.cg (ok_insn_compares hU y0 true hq20), .o, .a 0, .cg (ok_insn_plainOperand hU y0 r0 e_r0), .o, .o]) [] (fun b => by kernel_rfl)
                                          · subst e; exact fn_conG hU (P := Try.prog) Try.func69 (fun xs w => by kernel_rfl) _ _ (P23 ++ [.cg (ok_insn_compares hU y0 false hq20), .o, .o, .o]) [] (fun b => by kernel_rfl)
                                        · subst e; exact fn_conG hU (P := Try.prog) Try.func69 (fun xs w => by kernel_rfl) _ _ (P22 ++ [.t (u_eq (y0.fOp &&& 7#8) (5#8)) hq18, .o, .t (u_eq (y0.fOp &&& 7#8) (6#8)) hq19, .o, .o]) [] (fun b => by kernel_rfl)
end

end Go.Proofs.Ytdgehbjiphahhaa


