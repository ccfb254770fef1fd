/-
  Package scalar: Do, by the program's own text.
-/
import Derived.Test.YtmhiiahfjoijgaaGreatL7Cx
namespace Go.Proofs.YtmhiiahfjoijgaaGreat
open Go.RowKit
set_option linter.unusedVariables false
set_option linter.unusedSimpArgs false
set_option maxRecDepth 100000
set_option maxHeartbeats 4000000
-- barbican/scalar.doings
def m_scalar_doings  : Unit :=
  (())
def K_scalar_doings : Value := .agg #[.func (.func 81) #[] #[], .func (.func 82) #[] #[], .func (.func 83) #[] #[], .func (.func 84) #[] #[], .func (.func 85) #[] #[], .func (.func 86) #[] #[], .func (.func 87) #[] #[], .func (.func 88) #[] #[], .func (.func 89) #[] #[], .func (.func 90) #[] #[], .func (.func 91) #[] #[], .func (.func 92) #[] #[], .func (.func 93) #[] #[]]
theorem p0_scalar_doings  : Con Tryz.prog 36 #[] (.agg #[.func (.func 81) #[] #[], .func (.func 82) #[] #[], .func (.func 83) #[] #[], .func (.func 84) #[] #[], .func (.func 85) #[] #[], .func (.func 86) #[] #[], .func (.func 87) #[] #[], .func (.func 88) #[] #[], .func (.func 89) #[] #[], .func (.func 90) #[] #[], .func (.func 91) #[] #[], .func (.func 92) #[] #[], .func (.func 93) #[] #[]]) :=
  fn_conI (P := Tryz.prog) Tryz.func36 (fun xs w => by kernel_rfl) _ _
    [.o, .o, .a 0]
    [0, 0, 0, 0, 0, 0, 0, 0, 0, 0, 0, 0, 0] (fun b => by kernel_rfl)
theorem ok_scalar_doings  : Con Tryz.prog 36 #[] K_scalar_doings := by
  exact p0_scalar_doings  
-- barbican/scalar.low
def m_scalar_low (x0 : S) : S :=
  ((m_scalar_lowest_32 x0))
theorem p0_scalar_low (x0 : S) (ra0 : S) (ea0 : m_scalar_lowest_32 x0 = ra0) : Con Tryz.prog 38 #[(sv (x0))] (sv (ra0)) :=
  fn_conI (P := Tryz.prog) Tryz.func38 (fun xs w => by kernel_rfl) _ _
    [.o, .o, .a 0, .cr sv (ok_scalar_lowest_32 (x0)) ea0, .a 1]
    [1, 1, 1, 1, 1, 1] (fun b => by kernel_rfl)
theorem ok_scalar_low (x0 : S) : Con Tryz.prog 38 #[(sv (x0))] (sv (m_scalar_low x0)) := by
  unfold m_scalar_low
  exact p0_scalar_low x0 _ rfl
-- barbican/scalar.Do
def m_scalar_Do (x0 : BitVec 64) (x1 : Bool) (x2 : S) (x3 : S) : S :=
  (bif BitVec.slt x0 0#64 then
    ((m_scalar_Unknown ))
    else (bif BitVec.slt x0 13#64 then
      (bif x0 == 11#64 then
        (bif x1 then
          ((m_scalar_known x3))
          else ((m_scalar_low (m_scalar_known x3))))
        else (bif m_scalar_isConst (m_scalar_known x2) then
          (bif m_scalar_isConst (m_scalar_known x3) then
            ((m_scalar_Const (m_alu_Do x0 x1 (m_scalar_known x2).umin (m_scalar_known x3).umin).1))
            else (bif x0 == 8#64 then
              ((m_scalar_Const (m_alu_Do (8#64) x1 (m_scalar_known x2).umin (m_scalar_known x3).umin).1))
              else (bif x1 then
                (bif x0 == 0#64 then
                  ((m_scalar_operands_add (⟨(m_scalar_exact (m_scalar_known x2)), (m_scalar_exact (m_scalar_known x3)), 64#64⟩ : OO)))
                  else (bif x0 == 1#64 then
                    ((m_scalar_operands_sub (⟨(m_scalar_exact (m_scalar_known x2)), (m_scalar_exact (m_scalar_known x3)), 64#64⟩ : OO)))
                    else (bif x0 == 2#64 then
                      ((m_scalar_operands_mul (⟨(m_scalar_exact (m_scalar_known x2)), (m_scalar_exact (m_scalar_known x3)), 64#64⟩ : OO)))
                      else (bif x0 == 3#64 then
                        ((m_scalar_operands_div (⟨(m_scalar_exact (m_scalar_known x2)), (m_scalar_exact (m_scalar_known x3)), 64#64⟩ : OO)))
                        else (bif x0 == 4#64 then
                          ((m_scalar_operands_or (⟨(m_scalar_exact (m_scalar_known x2)), (m_scalar_exact (m_scalar_known x3)), 64#64⟩ : OO)))
                          else (bif x0 == 5#64 then
                            ((m_scalar_operands_and (⟨(m_scalar_exact (m_scalar_known x2)), (m_scalar_exact (m_scalar_known x3)), 64#64⟩ : OO)))
                            else (bif x0 == 6#64 then
                              ((m_scalar_operands_lsh (⟨(m_scalar_exact (m_scalar_known x2)), (m_scalar_exact (m_scalar_known x3)), 64#64⟩ : OO)))
                              else (bif x0 == 7#64 then
                                ((m_scalar_operands_rsh (⟨(m_scalar_exact (m_scalar_known x2)), (m_scalar_exact (m_scalar_known x3)), 64#64⟩ : OO)))
                                else (bif x0 == 9#64 then
                                  ((m_scalar_operands_mod (⟨(m_scalar_exact (m_scalar_known x2)), (m_scalar_exact (m_scalar_known x3)), 64#64⟩ : OO)))
                                  else (bif x0 == 10#64 then
                                    ((m_scalar_operands_xor (⟨(m_scalar_exact (m_scalar_known x2)), (m_scalar_exact (m_scalar_known x3)), 64#64⟩ : OO)))
                                    else (bif x0 == 12#64 then
                                      ((m_scalar_operands_arsh (⟨(m_scalar_exact (m_scalar_known x2)), (m_scalar_exact (m_scalar_known x3)), 64#64⟩ : OO)))
                                      else ((⟨(⟨0#64, 0#64⟩ : T), 0#64, 0#64, 0#64, 0#64⟩ : S)))))))))))))
                else (bif x0 == 0#64 then
                  ((m_scalar_low (m_scalar_operands_add (⟨(m_scalar_exact (m_scalar_low (m_scalar_known x2))), (m_scalar_exact (m_scalar_low (m_scalar_known x3))), 32#64⟩ : OO))))
                  else (bif x0 == 1#64 then
                    ((m_scalar_low (m_scalar_operands_sub (⟨(m_scalar_exact (m_scalar_low (m_scalar_known x2))), (m_scalar_exact (m_scalar_low (m_scalar_known x3))), 32#64⟩ : OO))))
                    else (bif x0 == 2#64 then
                      ((m_scalar_low (m_scalar_operands_mul (⟨(m_scalar_exact (m_scalar_low (m_scalar_known x2))), (m_scalar_exact (m_scalar_low (m_scalar_known x3))), 32#64⟩ : OO))))
                      else (bif x0 == 3#64 then
                        ((m_scalar_low (m_scalar_operands_div (⟨(m_scalar_exact (m_scalar_low (m_scalar_known x2))), (m_scalar_exact (m_scalar_low (m_scalar_known x3))), 32#64⟩ : OO))))
                        else (bif x0 == 4#64 then
                          ((m_scalar_low (m_scalar_operands_or (⟨(m_scalar_exact (m_scalar_low (m_scalar_known x2))), (m_scalar_exact (m_scalar_low (m_scalar_known x3))), 32#64⟩ : OO))))
                          else (bif x0 == 5#64 then
                            ((m_scalar_low (m_scalar_operands_and (⟨(m_scalar_exact (m_scalar_low (m_scalar_known x2))), (m_scalar_exact (m_scalar_low (m_scalar_known x3))), 32#64⟩ : OO))))
                            else (bif x0 == 6#64 then
                              ((m_scalar_low (m_scalar_operands_lsh (⟨(m_scalar_exact (m_scalar_low (m_scalar_known x2))), (m_scalar_exact (m_scalar_low (m_scalar_known x3))), 32#64⟩ : OO))))
                              else (bif x0 == 7#64 then
                                ((m_scalar_low (m_scalar_operands_rsh (⟨(m_scalar_exact (m_scalar_low (m_scalar_known x2))), (m_scalar_exact (m_scalar_low (m_scalar_known x3))), 32#64⟩ : OO))))
                                else (bif x0 == 9#64 then
                                  ((m_scalar_low (m_scalar_operands_mod (⟨(m_scalar_exact (m_scalar_low (m_scalar_known x2))), (m_scalar_exact (m_scalar_low (m_scalar_known x3))), 32#64⟩ : OO))))
                                  else (bif x0 == 10#64 then
                                    ((m_scalar_low (m_scalar_operands_xor (⟨(m_scalar_exact (m_scalar_low (m_scalar_known x2))), (m_scalar_exact (m_scalar_low (m_scalar_known x3))), 32#64⟩ : OO))))
                                    else (bif x0 == 12#64 then
                                      ((m_scalar_low (m_scalar_operands_arsh (⟨(m_scalar_exact (m_scalar_low (m_scalar_known x2))), (m_scalar_exact (m_scalar_low (m_scalar_known x3))), 32#64⟩ : OO))))
                                      else ((⟨(⟨0#64, 0#64⟩ : T), 0#64, 0#64, 0#64, 0#64⟩ : S))))))))))))))))
          else (bif x1 then
            (bif x0 == 0#64 then
              ((m_scalar_operands_add (⟨(m_scalar_exact (m_scalar_known x2)), (m_scalar_exact (m_scalar_known x3)), 64#64⟩ : OO)))
              else (bif x0 == 1#64 then
                ((m_scalar_operands_sub (⟨(m_scalar_exact (m_scalar_known x2)), (m_scalar_exact (m_scalar_known x3)), 64#64⟩ : OO)))
                else (bif x0 == 2#64 then
                  ((m_scalar_operands_mul (⟨(m_scalar_exact (m_scalar_known x2)), (m_scalar_exact (m_scalar_known x3)), 64#64⟩ : OO)))
                  else (bif x0 == 3#64 then
                    ((m_scalar_operands_div (⟨(m_scalar_exact (m_scalar_known x2)), (m_scalar_exact (m_scalar_known x3)), 64#64⟩ : OO)))
                    else (bif x0 == 4#64 then
                      ((m_scalar_operands_or (⟨(m_scalar_exact (m_scalar_known x2)), (m_scalar_exact (m_scalar_known x3)), 64#64⟩ : OO)))
                      else (bif x0 == 5#64 then
                        ((m_scalar_operands_and (⟨(m_scalar_exact (m_scalar_known x2)), (m_scalar_exact (m_scalar_known x3)), 64#64⟩ : OO)))
                        else (bif x0 == 6#64 then
                          ((m_scalar_operands_lsh (⟨(m_scalar_exact (m_scalar_known x2)), (m_scalar_exact (m_scalar_known x3)), 64#64⟩ : OO)))
                          else (bif x0 == 7#64 then
                            ((m_scalar_operands_rsh (⟨(m_scalar_exact (m_scalar_known x2)), (m_scalar_exact (m_scalar_known x3)), 64#64⟩ : OO)))
                            else (bif x0 == 8#64 then
                              ((m_scalar_operands_neg (⟨(m_scalar_exact (m_scalar_known x2)), (m_scalar_exact (m_scalar_known x3)), 64#64⟩ : OO)))
                              else (bif x0 == 9#64 then
                                ((m_scalar_operands_mod (⟨(m_scalar_exact (m_scalar_known x2)), (m_scalar_exact (m_scalar_known x3)), 64#64⟩ : OO)))
                                else (bif x0 == 10#64 then
                                  ((m_scalar_operands_xor (⟨(m_scalar_exact (m_scalar_known x2)), (m_scalar_exact (m_scalar_known x3)), 64#64⟩ : OO)))
                                  else (bif x0 == 12#64 then
                                    ((m_scalar_operands_arsh (⟨(m_scalar_exact (m_scalar_known x2)), (m_scalar_exact (m_scalar_known x3)), 64#64⟩ : OO)))
                                    else ((⟨(⟨0#64, 0#64⟩ : T), 0#64, 0#64, 0#64, 0#64⟩ : S))))))))))))))
            else (bif x0 == 0#64 then
              ((m_scalar_low (m_scalar_operands_add (⟨(m_scalar_exact (m_scalar_low (m_scalar_known x2))), (m_scalar_exact (m_scalar_low (m_scalar_known x3))), 32#64⟩ : OO))))
              else (bif x0 == 1#64 then
                ((m_scalar_low (m_scalar_operands_sub (⟨(m_scalar_exact (m_scalar_low (m_scalar_known x2))), (m_scalar_exact (m_scalar_low (m_scalar_known x3))), 32#64⟩ : OO))))
                else (bif x0 == 2#64 then
                  ((m_scalar_low (m_scalar_operands_mul (⟨(m_scalar_exact (m_scalar_low (m_scalar_known x2))), (m_scalar_exact (m_scalar_low (m_scalar_known x3))), 32#64⟩ : OO))))
                  else (bif x0 == 3#64 then
                    ((m_scalar_low (m_scalar_operands_div (⟨(m_scalar_exact (m_scalar_low (m_scalar_known x2))), (m_scalar_exact (m_scalar_low (m_scalar_known x3))), 32#64⟩ : OO))))
                    else (bif x0 == 4#64 then
                      ((m_scalar_low (m_scalar_operands_or (⟨(m_scalar_exact (m_scalar_low (m_scalar_known x2))), (m_scalar_exact (m_scalar_low (m_scalar_known x3))), 32#64⟩ : OO))))
                      else (bif x0 == 5#64 then
                        ((m_scalar_low (m_scalar_operands_and (⟨(m_scalar_exact (m_scalar_low (m_scalar_known x2))), (m_scalar_exact (m_scalar_low (m_scalar_known x3))), 32#64⟩ : OO))))
                        else (bif x0 == 6#64 then
                          ((m_scalar_low (m_scalar_operands_lsh (⟨(m_scalar_exact (m_scalar_low (m_scalar_known x2))), (m_scalar_exact (m_scalar_low (m_scalar_known x3))), 32#64⟩ : OO))))
                          else (bif x0 == 7#64 then
                            ((m_scalar_low (m_scalar_operands_rsh (⟨(m_scalar_exact (m_scalar_low (m_scalar_known x2))), (m_scalar_exact (m_scalar_low (m_scalar_known x3))), 32#64⟩ : OO))))
                            else (bif x0 == 8#64 then
                              ((m_scalar_low (m_scalar_operands_neg (⟨(m_scalar_exact (m_scalar_low (m_scalar_known x2))), (m_scalar_exact (m_scalar_low (m_scalar_known x3))), 32#64⟩ : OO))))
                              else (bif x0 == 9#64 then
                                ((m_scalar_low (m_scalar_operands_mod (⟨(m_scalar_exact (m_scalar_low (m_scalar_known x2))), (m_scalar_exact (m_scalar_low (m_scalar_known x3))), 32#64⟩ : OO))))
                                else (bif x0 == 10#64 then
                                  ((m_scalar_low (m_scalar_operands_xor (⟨(m_scalar_exact (m_scalar_low (m_scalar_known x2))), (m_scalar_exact (m_scalar_low (m_scalar_known x3))), 32#64⟩ : OO))))
                                  else (bif x0 == 12#64 then
                                    ((m_scalar_low (m_scalar_operands_arsh (⟨(m_scalar_exact (m_scalar_low (m_scalar_known x2))), (m_scalar_exact (m_scalar_low (m_scalar_known x3))), 32#64⟩ : OO))))
                                    else ((⟨(⟨0#64, 0#64⟩ : T), 0#64, 0#64, 0#64, 0#64⟩ : S)))))))))))))))))
      else ((m_scalar_Unknown ))))
theorem p0_scalar_Do (x0 : BitVec 64) (x1 : Bool) (x2 : S) (x3 : S) (ra0 : S) (ea0 : m_scalar_Unknown  = ra0) (h0 : (BitVec.slt x0 0#64) = true) : Con Tryz.prog 19 #[(.int .i64 (ii (x0))), (.bool (x1)), (sv (x2)), (sv (x3))] (sv (ra0)) :=
  fn_conI (P := Tryz.prog) Tryz.func19 (fun xs w => by kernel_rfl) _ _
    [.o, .o, .o, .cl ok_scalar_doings  rfl, .o, .a 3, .o, .t (i_lt x0 0#64) h0, .o, .o, .cr sv (ok_scalar_Unknown ) ea0, .a 2]
    [2, 2, 2, 2, 2, 2] (fun b => by kernel_rfl)
theorem p1_scalar_Do (x2 : S) (x3 : S) (ra0 : S) (ea0 : m_scalar_known x2 = ra0) (ra1 : S) (ea1 : m_scalar_known x3 = ra1) (h0 : (BitVec.slt 11#64 0#64) = false) (h1 : (BitVec.slt 11#64 13#64) = true) : Con Tryz.prog 19 #[(.int .i64 (ii (11#64))), (.bool (true)), (sv (x2)), (sv (x3))] (sv (ra1)) :=
  fn_conI (P := Tryz.prog) Tryz.func19 (fun xs w => by kernel_rfl) _ _
    [.o, .o, .o, .cl ok_scalar_doings  rfl, .o, .a 3, .o, .o, .o, .o, .o, .o, .r [0, 1, 2, 3] [] [4, 5], .a 0, .cr sv (ok_scalar_known (x2)) ea0, .a 1, .cr sv (ok_scalar_known (x3)) ea1, .a 0, .a 1, .o, .o, .o, .o, .o, .o, .a 1, .a 2]
    [2, 2, 2, 2, 2, 2] (fun b => by kernel_rfl)
theorem p2_scalar_Do (x2 : S) (x3 : S) (ra0 : S) (ea0 : m_scalar_known x2 = ra0) (ra1 : S) (ea1 : m_scalar_known x3 = ra1) (ra2 : S) (ea2 : m_scalar_low ra1 = ra2) (h0 : (BitVec.slt 11#64 0#64) = false) (h1 : (BitVec.slt 11#64 13#64) = true) : Con Tryz.prog 19 #[(.int .i64 (ii (11#64))), (.bool (false)), (sv (x2)), (sv (x3))] (sv (ra2)) :=
  fn_conI (P := Tryz.prog) Tryz.func19 (fun xs w => by kernel_rfl) _ _
    [.o, .o, .o, .cl ok_scalar_doings  rfl, .o, .a 3, .o, .o, .o, .o, .o, .o, .r [0, 1, 2, 3] [] [4, 5], .a 0, .cr sv (ok_scalar_known (x2)) ea0, .a 1, .cr sv (ok_scalar_known (x3)) ea1, .a 0, .a 1, .o, .o, .o, .o, .o, .o, .o, .o, .o, .a 1, .cr sv (ok_scalar_low (ra1)) ea2, .a 2]
    [2, 2, 2, 2, 2, 2] (fun b => by kernel_rfl)
theorem p3_scalar_Do (x0 : BitVec 64) (x1 : Bool) (x2 : S) (x3 : S) (ra0 : S) (ea0 : m_scalar_known x2 = ra0) (ra1 : S) (ea1 : m_scalar_known x3 = ra1) (ra2 : (BitVec 64) × (Bool)) (ea2 : m_alu_Do x0 x1 ra0.umin ra1.umin = ra2) (ra3 : S) (ea3 : m_scalar_Const ra2.1 = ra3) (h0 : (BitVec.slt x0 0#64) = false) (h1 : (BitVec.slt x0 13#64) = true) (h2 : (x0 == 11#64) = false) (h3 : (m_scalar_isConst ra0) = true) (h4 : (m_scalar_isConst ra1) = true) : Con Tryz.prog 19 #[(.int .i64 (ii (x0))), (.bool (x1)), (sv (x2)), (sv (x3))] (sv (ra3)) :=
  fn_conI (P := Tryz.prog) Tryz.func19 (fun xs w => by kernel_rfl) _ _
    [.o, .o, .o, .cl ok_scalar_doings  rfl, .o, .a 3, .o, .t (i_lt x0 0#64) h0, .o, .o, .tn (i_ge x0 13#64) h1, .o, .r [0, 1, 2, 3] [] [4, 5], .a 0, .cr sv (ok_scalar_known (x2)) ea0, .a 1, .cr sv (ok_scalar_known (x3)) ea1, .a 0, .a 1, .o, .t (i_eq x0 11#64) h2, .o, .o, .o, .o, .t (i_eq x0 11#64) h2, .o, .a 0, .cb (ok_scalar_isConst (ra0)) h3, .o, .a 1, .cb (ok_scalar_isConst (ra1)) h4, .o, .o, .o, .o, .o, .o, .o, .a 0, .o, .a 1, .cr vt1 (ok_alu_Do (x0) (x1) (ra0.umin) (ra1.umin)) ea2, .o, .o, .o, .o, .o, .o, .cr sv (ok_scalar_Const (ra2.1)) ea3, .a 2]
    [2, 2, 2, 2, 2, 2] (fun b => by kernel_rfl)
theorem p4_scalar_Do (x1 : Bool) (x2 : S) (x3 : S) (ra0 : S) (ea0 : m_scalar_known x2 = ra0) (ra1 : S) (ea1 : m_scalar_known x3 = ra1) (ra2 : (BitVec 64) × (Bool)) (ea2 : m_alu_Do (8#64) x1 ra0.umin ra1.umin = ra2) (ra3 : S) (ea3 : m_scalar_Const ra2.1 = ra3) (h0 : (BitVec.slt 8#64 0#64) = false) (h1 : (BitVec.slt 8#64 13#64) = true) (h2 : (8#64 == 11#64) = false) (h3 : (m_scalar_isConst ra0) = true) (h4 : (m_scalar_isConst ra1) = false) : Con Tryz.prog 19 #[(.int .i64 (ii (8#64))), (.bool (x1)), (sv (x2)), (sv (x3))] (sv (ra3)) :=
  fn_conI (P := Tryz.prog) Tryz.func19 (fun xs w => by kernel_rfl) _ _
    [.o, .o, .o, .cl ok_scalar_doings  rfl, .o, .a 3, .o, .o, .o, .o, .o, .o, .r [0, 1, 2, 3] [] [4, 5], .a 0, .cr sv (ok_scalar_known (x2)) ea0, .a 1, .cr sv (ok_scalar_known (x3)) ea1, .a 0, .a 1, .o, .o, .o, .o, .o, .o, .o, .o, .a 0, .cb (ok_scalar_isConst (ra0)) h3, .o, .a 1, .cb (ok_scalar_isConst (ra1)) h4, .o, .o, .o, .o, .o, .o, .o, .o, .o, .a 0, .o, .a 1, .cr vt1 (ok_alu_Do (8#64) (x1) (ra0.umin) (ra1.umin)) ea2, .o, .o, .o, .o, .o, .o, .cr sv (ok_scalar_Const (ra2.1)) ea3, .a 2]
    [2, 2, 2, 2, 2, 2] (fun b => by kernel_rfl)
theorem p5_scalar_Do (x2 : S) (x3 : S) (ra0 : S) (ea0 : m_scalar_known x2 = ra0) (ra1 : S) (ea1 : m_scalar_known x3 = ra1) (ra2 : S) (ea2 : m_scalar_exact ra0 = ra2) (ra3 : S) (ea3 : m_scalar_exact ra1 = ra3) (ra4 : S) (ea4 : m_scalar_operands_add (⟨ra2, ra3, 64#64⟩ : OO) = ra4) (h0 : (BitVec.slt 0#64 0#64) = false) (h1 : (BitVec.slt 0#64 13#64) = true) (h2 : (0#64 == 11#64) = false) (h3 : (m_scalar_isConst ra0) = true) (h4 : (m_scalar_isConst ra1) = false) (h5 : (0#64 == 8#64) = false) : Con Tryz.prog 19 #[(.int .i64 (ii (0#64))), (.bool (true)), (sv (x2)), (sv (x3))] (sv (ra4)) :=
  fn_conI (P := Tryz.prog) Tryz.func19 (fun xs w => by kernel_rfl) _ _
    [.o, .o, .o, .cl ok_scalar_doings  rfl, .o, .a 3, .o, .o, .o, .o, .o, .o, .r [0, 1, 2, 3] [] [4, 5], .a 0, .cr sv (ok_scalar_known (x2)) ea0, .a 1, .cr sv (ok_scalar_known (x3)) ea1, .a 0, .a 1, .o, .o, .o, .o, .o, .o, .o, .o, .a 0, .cb (ok_scalar_isConst (ra0)) h3, .o, .a 1, .cb (ok_scalar_isConst (ra1)) h4, .o, .o, .o, .o, .o, .o, .o, .o, .r [0, 1, 2, 3, 4, 5, 6, 7, 8] [] [9], .o, .o, .a 3, .a 0, .cr sv (ok_scalar_exact (ra0)) ea2, .a 1, .cr sv (ok_scalar_exact (ra1)) ea3, .o, .cr sv (ok_scalar_operands_add ((⟨ra2, ra3, 64#64⟩ : OO))) ea4, .a 2]
    [2, 2, 2, 2, 2, 2] (fun b => by kernel_rfl)
theorem p6_scalar_Do (x2 : S) (x3 : S) (ra0 : S) (ea0 : m_scalar_known x2 = ra0) (ra1 : S) (ea1 : m_scalar_known x3 = ra1) (ra2 : S) (ea2 : m_scalar_exact ra0 = ra2) (ra3 : S) (ea3 : m_scalar_exact ra1 = ra3) (ra4 : S) (ea4 : m_scalar_operands_sub (⟨ra2, ra3, 64#64⟩ : OO) = ra4) (h0 : (BitVec.slt 1#64 0#64) = false) (h1 : (BitVec.slt 1#64 13#64) = true) (h2 : (1#64 == 11#64) = false) (h3 : (m_scalar_isConst ra0) = true) (h4 : (m_scalar_isConst ra1) = false) (h5 : (1#64 == 8#64) = false) (h7 : (1#64 == 0#64) = false) : Con Tryz.prog 19 #[(.int .i64 (ii (1#64))), (.bool (true)), (sv (x2)), (sv (x3))] (sv (ra4)) :=
  fn_conI (P := Tryz.prog) Tryz.func19 (fun xs w => by kernel_rfl) _ _
    [.o, .o, .o, .cl ok_scalar_doings  rfl, .o, .a 3, .o, .o, .o, .o, .o, .o, .r [0, 1, 2, 3] [] [4, 5], .a 0, .cr sv (ok_scalar_known (x2)) ea0, .a 1, .cr sv (ok_scalar_known (x3)) ea1, .a 0, .a 1, .o, .o, .o, .o, .o, .o, .o, .o, .a 0, .cb (ok_scalar_isConst (ra0)) h3, .o, .a 1, .cb (ok_scalar_isConst (ra1)) h4, .o, .o, .o, .o, .o, .o, .o, .o, .r [0, 1, 2, 3, 4, 5, 6, 7, 8] [] [9], .o, .o, .a 3, .a 0, .cr sv (ok_scalar_exact (ra0)) ea2, .a 1, .cr sv (ok_scalar_exact (ra1)) ea3, .o, .cr sv (ok_scalar_operands_sub ((⟨ra2, ra3, 64#64⟩ : OO))) ea4, .a 2]
    [2, 2, 2, 2, 2, 2] (fun b => by kernel_rfl)
theorem p7_scalar_Do (x2 : S) (x3 : S) (ra0 : S) (ea0 : m_scalar_known x2 = ra0) (ra1 : S) (ea1 : m_scalar_known x3 = ra1) (ra2 : S) (ea2 : m_scalar_exact ra0 = ra2) (ra3 : S) (ea3 : m_scalar_exact ra1 = ra3) (ra4 : S) (ea4 : m_scalar_operands_mul (⟨ra2, ra3, 64#64⟩ : OO) = ra4) (h0 : (BitVec.slt 2#64 0#64) = false) (h1 : (BitVec.slt 2#64 13#64) = true) (h2 : (2#64 == 11#64) = false) (h3 : (m_scalar_isConst ra0) = true) (h4 : (m_scalar_isConst ra1) = false) (h5 : (2#64 == 8#64) = false) (h7 : (2#64 == 0#64) = false) (h8 : (2#64 == 1#64) = false) : Con Tryz.prog 19 #[(.int .i64 (ii (2#64))), (.bool (true)), (sv (x2)), (sv (x3))] (sv (ra4)) :=
  fn_conI (P := Tryz.prog) Tryz.func19 (fun xs w => by kernel_rfl) _ _
    [.o, .o, .o, .cl ok_scalar_doings  rfl, .o, .a 3, .o, .o, .o, .o, .o, .o, .r [0, 1, 2, 3] [] [4, 5], .a 0, .cr sv (ok_scalar_known (x2)) ea0, .a 1, .cr sv (ok_scalar_known (x3)) ea1, .a 0, .a 1, .o, .o, .o, .o, .o, .o, .o, .o, .a 0, .cb (ok_scalar_isConst (ra0)) h3, .o, .a 1, .cb (ok_scalar_isConst (ra1)) h4, .o, .o, .o, .o, .o, .o, .o, .o, .r [0, 1, 2, 3, 4, 5, 6, 7, 8] [] [9], .o, .o, .a 3, .a 0, .cr sv (ok_scalar_exact (ra0)) ea2, .a 1, .cr sv (ok_scalar_exact (ra1)) ea3, .o, .cr sv (ok_scalar_operands_mul ((⟨ra2, ra3, 64#64⟩ : OO))) ea4, .a 2]
    [2, 2, 2, 2, 2, 2] (fun b => by kernel_rfl)
theorem p8_scalar_Do (x2 : S) (x3 : S) (ra0 : S) (ea0 : m_scalar_known x2 = ra0) (ra1 : S) (ea1 : m_scalar_known x3 = ra1) (ra2 : S) (ea2 : m_scalar_exact ra0 = ra2) (ra3 : S) (ea3 : m_scalar_exact ra1 = ra3) (ra4 : S) (ea4 : m_scalar_operands_div (⟨ra2, ra3, 64#64⟩ : OO) = ra4) (h0 : (BitVec.slt 3#64 0#64) = false) (h1 : (BitVec.slt 3#64 13#64) = true) (h2 : (3#64 == 11#64) = false) (h3 : (m_scalar_isConst ra0) = true) (h4 : (m_scalar_isConst ra1) = false) (h5 : (3#64 == 8#64) = false) (h7 : (3#64 == 0#64) = false) (h8 : (3#64 == 1#64) = false) (h9 : (3#64 == 2#64) = false) : Con Tryz.prog 19 #[(.int .i64 (ii (3#64))), (.bool (true)), (sv (x2)), (sv (x3))] (sv (ra4)) :=
  fn_conI (P := Tryz.prog) Tryz.func19 (fun xs w => by kernel_rfl) _ _
    [.o, .o, .o, .cl ok_scalar_doings  rfl, .o, .a 3, .o, .o, .o, .o, .o, .o, .r [0, 1, 2, 3] [] [4, 5], .a 0, .cr sv (ok_scalar_known (x2)) ea0, .a 1, .cr sv (ok_scalar_known (x3)) ea1, .a 0, .a 1, .o, .o, .o, .o, .o, .o, .o, .o, .a 0, .cb (ok_scalar_isConst (ra0)) h3, .o, .a 1, .cb (ok_scalar_isConst (ra1)) h4, .o, .o, .o, .o, .o, .o, .o, .o, .r [0, 1, 2, 3, 4, 5, 6, 7, 8] [] [9], .o, .o, .a 3, .a 0, .cr sv (ok_scalar_exact (ra0)) ea2, .a 1, .cr sv (ok_scalar_exact (ra1)) ea3, .o, .cr sv (ok_scalar_operands_div ((⟨ra2, ra3, 64#64⟩ : OO)) (ea3 ▸ exact_le _)) ea4, .a 2]
    [2, 2, 2, 2, 2, 2] (fun b => by kernel_rfl)
theorem p9_scalar_Do (x2 : S) (x3 : S) (ra0 : S) (ea0 : m_scalar_known x2 = ra0) (ra1 : S) (ea1 : m_scalar_known x3 = ra1) (ra2 : S) (ea2 : m_scalar_exact ra0 = ra2) (ra3 : S) (ea3 : m_scalar_exact ra1 = ra3) (ra4 : S) (ea4 : m_scalar_operands_or (⟨ra2, ra3, 64#64⟩ : OO) = ra4) (h0 : (BitVec.slt 4#64 0#64) = false) (h1 : (BitVec.slt 4#64 13#64) = true) (h2 : (4#64 == 11#64) = false) (h3 : (m_scalar_isConst ra0) = true) (h4 : (m_scalar_isConst ra1) = false) (h5 : (4#64 == 8#64) = false) (h7 : (4#64 == 0#64) = false) (h8 : (4#64 == 1#64) = false) (h9 : (4#64 == 2#64) = false) (h10 : (4#64 == 3#64) = false) : Con Tryz.prog 19 #[(.int .i64 (ii (4#64))), (.bool (true)), (sv (x2)), (sv (x3))] (sv (ra4)) :=
  fn_conI (P := Tryz.prog) Tryz.func19 (fun xs w => by kernel_rfl) _ _
    [.o, .o, .o, .cl ok_scalar_doings  rfl, .o, .a 3, .o, .o, .o, .o, .o, .o, .r [0, 1, 2, 3] [] [4, 5], .a 0, .cr sv (ok_scalar_known (x2)) ea0, .a 1, .cr sv (ok_scalar_known (x3)) ea1, .a 0, .a 1, .o, .o, .o, .o, .o, .o, .o, .o, .a 0, .cb (ok_scalar_isConst (ra0)) h3, .o, .a 1, .cb (ok_scalar_isConst (ra1)) h4, .o, .o, .o, .o, .o, .o, .o, .o, .r [0, 1, 2, 3, 4, 5, 6, 7, 8] [] [9], .o, .o, .a 3, .a 0, .cr sv (ok_scalar_exact (ra0)) ea2, .a 1, .cr sv (ok_scalar_exact (ra1)) ea3, .o, .cr sv (ok_scalar_operands_or ((⟨ra2, ra3, 64#64⟩ : OO))) ea4, .a 2]
    [2, 2, 2, 2, 2, 2] (fun b => by kernel_rfl)
theorem p10_scalar_Do (x2 : S) (x3 : S) (ra0 : S) (ea0 : m_scalar_known x2 = ra0) (ra1 : S) (ea1 : m_scalar_known x3 = ra1) (ra2 : S) (ea2 : m_scalar_exact ra0 = ra2) (ra3 : S) (ea3 : m_scalar_exact ra1 = ra3) (ra4 : S) (ea4 : m_scalar_operands_and (⟨ra2, ra3, 64#64⟩ : OO) = ra4) (h0 : (BitVec.slt 5#64 0#64) = false) (h1 : (BitVec.slt 5#64 13#64) = true) (h2 : (5#64 == 11#64) = false) (h3 : (m_scalar_isConst ra0) = true) (h4 : (m_scalar_isConst ra1) = false) (h5 : (5#64 == 8#64) = false) (h7 : (5#64 == 0#64) = false) (h8 : (5#64 == 1#64) = false) (h9 : (5#64 == 2#64) = false) (h10 : (5#64 == 3#64) = false) (h11 : (5#64 == 4#64) = false) : Con Tryz.prog 19 #[(.int .i64 (ii (5#64))), (.bool (true)), (sv (x2)), (sv (x3))] (sv (ra4)) :=
  fn_conI (P := Tryz.prog) Tryz.func19 (fun xs w => by kernel_rfl) _ _
    [.o, .o, .o, .cl ok_scalar_doings  rfl, .o, .a 3, .o, .o, .o, .o, .o, .o, .r [0, 1, 2, 3] [] [4, 5], .a 0, .cr sv (ok_scalar_known (x2)) ea0, .a 1, .cr sv (ok_scalar_known (x3)) ea1, .a 0, .a 1, .o, .o, .o, .o, .o, .o, .o, .o, .a 0, .cb (ok_scalar_isConst (ra0)) h3, .o, .a 1, .cb (ok_scalar_isConst (ra1)) h4, .o, .o, .o, .o, .o, .o, .o, .o, .r [0, 1, 2, 3, 4, 5, 6, 7, 8] [] [9], .o, .o, .a 3, .a 0, .cr sv (ok_scalar_exact (ra0)) ea2, .a 1, .cr sv (ok_scalar_exact (ra1)) ea3, .o, .cr sv (ok_scalar_operands_and ((⟨ra2, ra3, 64#64⟩ : OO))) ea4, .a 2]
    [2, 2, 2, 2, 2, 2] (fun b => by kernel_rfl)
theorem p11_scalar_Do (x2 : S) (x3 : S) (ra0 : S) (ea0 : m_scalar_known x2 = ra0) (ra1 : S) (ea1 : m_scalar_known x3 = ra1) (ra2 : S) (ea2 : m_scalar_exact ra0 = ra2) (ra3 : S) (ea3 : m_scalar_exact ra1 = ra3) (ra4 : S) (ea4 : m_scalar_operands_lsh (⟨ra2, ra3, 64#64⟩ : OO) = ra4) (h0 : (BitVec.slt 6#64 0#64) = false) (h1 : (BitVec.slt 6#64 13#64) = true) (h2 : (6#64 == 11#64) = false) (h3 : (m_scalar_isConst ra0) = true) (h4 : (m_scalar_isConst ra1) = false) (h5 : (6#64 == 8#64) = false) (h7 : (6#64 == 0#64) = false) (h8 : (6#64 == 1#64) = false) (h9 : (6#64 == 2#64) = false) (h10 : (6#64 == 3#64) = false) (h11 : (6#64 == 4#64) = false) (h12 : (6#64 == 5#64) = false) : Con Tryz.prog 19 #[(.int .i64 (ii (6#64))), (.bool (true)), (sv (x2)), (sv (x3))] (sv (ra4)) :=
  fn_conI (P := Tryz.prog) Tryz.func19 (fun xs w => by kernel_rfl) _ _
    [.o, .o, .o, .cl ok_scalar_doings  rfl, .o, .a 3, .o, .o, .o, .o, .o, .o, .r [0, 1, 2, 3] [] [4, 5], .a 0, .cr sv (ok_scalar_known (x2)) ea0, .a 1, .cr sv (ok_scalar_known (x3)) ea1, .a 0, .a 1, .o, .o, .o, .o, .o, .o, .o, .o, .a 0, .cb (ok_scalar_isConst (ra0)) h3, .o, .a 1, .cb (ok_scalar_isConst (ra1)) h4, .o, .o, .o, .o, .o, .o, .o, .o, .r [0, 1, 2, 3, 4, 5, 6, 7, 8] [] [9], .o, .o, .a 3, .a 0, .cr sv (ok_scalar_exact (ra0)) ea2, .a 1, .cr sv (ok_scalar_exact (ra1)) ea3, .o, .cr sv (ok_scalar_operands_lsh ((⟨ra2, ra3, 64#64⟩ : OO)) rfl) ea4, .a 2]
    [2, 2, 2, 2, 2, 2] (fun b => by kernel_rfl)
theorem p12_scalar_Do (x2 : S) (x3 : S) (ra0 : S) (ea0 : m_scalar_known x2 = ra0) (ra1 : S) (ea1 : m_scalar_known x3 = ra1) (ra2 : S) (ea2 : m_scalar_exact ra0 = ra2) (ra3 : S) (ea3 : m_scalar_exact ra1 = ra3) (ra4 : S) (ea4 : m_scalar_operands_rsh (⟨ra2, ra3, 64#64⟩ : OO) = ra4) (h0 : (BitVec.slt 7#64 0#64) = false) (h1 : (BitVec.slt 7#64 13#64) = true) (h2 : (7#64 == 11#64) = false) (h3 : (m_scalar_isConst ra0) = true) (h4 : (m_scalar_isConst ra1) = false) (h5 : (7#64 == 8#64) = false) (h7 : (7#64 == 0#64) = false) (h8 : (7#64 == 1#64) = false) (h9 : (7#64 == 2#64) = false) (h10 : (7#64 == 3#64) = false) (h11 : (7#64 == 4#64) = false) (h12 : (7#64 == 5#64) = false) (h13 : (7#64 == 6#64) = false) : Con Tryz.prog 19 #[(.int .i64 (ii (7#64))), (.bool (true)), (sv (x2)), (sv (x3))] (sv (ra4)) :=
  fn_conI (P := Tryz.prog) Tryz.func19 (fun xs w => by kernel_rfl) _ _
    [.o, .o, .o, .cl ok_scalar_doings  rfl, .o, .a 3, .o, .o, .o, .o, .o, .o, .r [0, 1, 2, 3] [] [4, 5], .a 0, .cr sv (ok_scalar_known (x2)) ea0, .a 1, .cr sv (ok_scalar_known (x3)) ea1, .a 0, .a 1, .o, .o, .o, .o, .o, .o, .o, .o, .a 0, .cb (ok_scalar_isConst (ra0)) h3, .o, .a 1, .cb (ok_scalar_isConst (ra1)) h4, .o, .o, .o, .o, .o, .o, .o, .o, .r [0, 1, 2, 3, 4, 5, 6, 7, 8] [] [9], .o, .o, .a 3, .a 0, .cr sv (ok_scalar_exact (ra0)) ea2, .a 1, .cr sv (ok_scalar_exact (ra1)) ea3, .o, .cr sv (ok_scalar_operands_rsh ((⟨ra2, ra3, 64#64⟩ : OO)) rfl) ea4, .a 2]
    [2, 2, 2, 2, 2, 2] (fun b => by kernel_rfl)
theorem p13_scalar_Do (x2 : S) (x3 : S) (ra0 : S) (ea0 : m_scalar_known x2 = ra0) (ra1 : S) (ea1 : m_scalar_known x3 = ra1) (ra2 : S) (ea2 : m_scalar_exact ra0 = ra2) (ra3 : S) (ea3 : m_scalar_exact ra1 = ra3) (ra4 : S) (ea4 : m_scalar_operands_mod (⟨ra2, ra3, 64#64⟩ : OO) = ra4) (h0 : (BitVec.slt 9#64 0#64) = false) (h1 : (BitVec.slt 9#64 13#64) = true) (h2 : (9#64 == 11#64) = false) (h3 : (m_scalar_isConst ra0) = true) (h4 : (m_scalar_isConst ra1) = false) (h5 : (9#64 == 8#64) = false) (h7 : (9#64 == 0#64) = false) (h8 : (9#64 == 1#64) = false) (h9 : (9#64 == 2#64) = false) (h10 : (9#64 == 3#64) = false) (h11 : (9#64 == 4#64) = false) (h12 : (9#64 == 5#64) = false) (h13 : (9#64 == 6#64) = false) (h14 : (9#64 == 7#64) = false) : Con Tryz.prog 19 #[(.int .i64 (ii (9#64))), (.bool (true)), (sv (x2)), (sv (x3))] (sv (ra4)) :=
  fn_conI (P := Tryz.prog) Tryz.func19 (fun xs w => by kernel_rfl) _ _
    [.o, .o, .o, .cl ok_scalar_doings  rfl, .o, .a 3, .o, .o, .o, .o, .o, .o, .r [0, 1, 2, 3] [] [4, 5], .a 0, .cr sv (ok_scalar_known (x2)) ea0, .a 1, .cr sv (ok_scalar_known (x3)) ea1, .a 0, .a 1, .o, .o, .o, .o, .o, .o, .o, .o, .a 0, .cb (ok_scalar_isConst (ra0)) h3, .o, .a 1, .cb (ok_scalar_isConst (ra1)) h4, .o, .o, .o, .o, .o, .o, .o, .o, .r [0, 1, 2, 3, 4, 5, 6, 7, 8] [] [9], .o, .o, .a 3, .a 0, .cr sv (ok_scalar_exact (ra0)) ea2, .a 1, .cr sv (ok_scalar_exact (ra1)) ea3, .o, .cr sv (ok_scalar_operands_mod ((⟨ra2, ra3, 64#64⟩ : OO))) ea4, .a 2]
    [2, 2, 2, 2, 2, 2] (fun b => by kernel_rfl)
theorem p14_scalar_Do (x2 : S) (x3 : S) (ra0 : S) (ea0 : m_scalar_known x2 = ra0) (ra1 : S) (ea1 : m_scalar_known x3 = ra1) (ra2 : S) (ea2 : m_scalar_exact ra0 = ra2) (ra3 : S) (ea3 : m_scalar_exact ra1 = ra3) (ra4 : S) (ea4 : m_scalar_operands_xor (⟨ra2, ra3, 64#64⟩ : OO) = ra4) (h0 : (BitVec.slt 10#64 0#64) = false) (h1 : (BitVec.slt 10#64 13#64) = true) (h2 : (10#64 == 11#64) = false) (h3 : (m_scalar_isConst ra0) = true) (h4 : (m_scalar_isConst ra1) = false) (h5 : (10#64 == 8#64) = false) (h7 : (10#64 == 0#64) = false) (h8 : (10#64 == 1#64) = false) (h9 : (10#64 == 2#64) = false) (h10 : (10#64 == 3#64) = false) (h11 : (10#64 == 4#64) = false) (h12 : (10#64 == 5#64) = false) (h13 : (10#64 == 6#64) = false) (h14 : (10#64 == 7#64) = false) (h15 : (10#64 == 9#64) = false) : Con Tryz.prog 19 #[(.int .i64 (ii (10#64))), (.bool (true)), (sv (x2)), (sv (x3))] (sv (ra4)) :=
  fn_conI (P := Tryz.prog) Tryz.func19 (fun xs w => by kernel_rfl) _ _
    [.o, .o, .o, .cl ok_scalar_doings  rfl, .o, .a 3, .o, .o, .o, .o, .o, .o, .r [0, 1, 2, 3] [] [4, 5], .a 0, .cr sv (ok_scalar_known (x2)) ea0, .a 1, .cr sv (ok_scalar_known (x3)) ea1, .a 0, .a 1, .o, .o, .o, .o, .o, .o, .o, .o, .a 0, .cb (ok_scalar_isConst (ra0)) h3, .o, .a 1, .cb (ok_scalar_isConst (ra1)) h4, .o, .o, .o, .o, .o, .o, .o, .o, .r [0, 1, 2, 3, 4, 5, 6, 7, 8] [] [9], .o, .o, .a 3, .a 0, .cr sv (ok_scalar_exact (ra0)) ea2, .a 1, .cr sv (ok_scalar_exact (ra1)) ea3, .o, .cr sv (ok_scalar_operands_xor ((⟨ra2, ra3, 64#64⟩ : OO))) ea4, .a 2]
    [2, 2, 2, 2, 2, 2] (fun b => by kernel_rfl)
theorem p15_scalar_Do (x2 : S) (x3 : S) (ra0 : S) (ea0 : m_scalar_known x2 = ra0) (ra1 : S) (ea1 : m_scalar_known x3 = ra1) (ra2 : S) (ea2 : m_scalar_exact ra0 = ra2) (ra3 : S) (ea3 : m_scalar_exact ra1 = ra3) (ra4 : S) (ea4 : m_scalar_operands_arsh (⟨ra2, ra3, 64#64⟩ : OO) = ra4) (h0 : (BitVec.slt 12#64 0#64) = false) (h1 : (BitVec.slt 12#64 13#64) = true) (h2 : (12#64 == 11#64) = false) (h3 : (m_scalar_isConst ra0) = true) (h4 : (m_scalar_isConst ra1) = false) (h5 : (12#64 == 8#64) = false) (h7 : (12#64 == 0#64) = false) (h8 : (12#64 == 1#64) = false) (h9 : (12#64 == 2#64) = false) (h10 : (12#64 == 3#64) = false) (h11 : (12#64 == 4#64) = false) (h12 : (12#64 == 5#64) = false) (h13 : (12#64 == 6#64) = false) (h14 : (12#64 == 7#64) = false) (h15 : (12#64 == 9#64) = false) (h16 : (12#64 == 10#64) = false) : Con Tryz.prog 19 #[(.int .i64 (ii (12#64))), (.bool (true)), (sv (x2)), (sv (x3))] (sv (ra4)) :=
  fn_conI (P := Tryz.prog) Tryz.func19 (fun xs w => by kernel_rfl) _ _
    [.o, .o, .o, .cl ok_scalar_doings  rfl, .o, .a 3, .o, .o, .o, .o, .o, .o, .r [0, 1, 2, 3] [] [4, 5], .a 0, .cr sv (ok_scalar_known (x2)) ea0, .a 1, .cr sv (ok_scalar_known (x3)) ea1, .a 0, .a 1, .o, .o, .o, .o, .o, .o, .o, .o, .a 0, .cb (ok_scalar_isConst (ra0)) h3, .o, .a 1, .cb (ok_scalar_isConst (ra1)) h4, .o, .o, .o, .o, .o, .o, .o, .o, .r [0, 1, 2, 3, 4, 5, 6, 7, 8] [] [9], .o, .o, .a 3, .a 0, .cr sv (ok_scalar_exact (ra0)) ea2, .a 1, .cr sv (ok_scalar_exact (ra1)) ea3, .o, .cr sv (ok_scalar_operands_arsh ((⟨ra2, ra3, 64#64⟩ : OO)) rfl) ea4, .a 2]
    [2, 2, 2, 2, 2, 2] (fun b => by kernel_rfl)
theorem p17_scalar_Do (x2 : S) (x3 : S) (ra0 : S) (ea0 : m_scalar_known x2 = ra0) (ra1 : S) (ea1 : m_scalar_known x3 = ra1) (ra2 : S) (ea2 : m_scalar_low ra0 = ra2) (ra3 : S) (ea3 : m_scalar_exact ra2 = ra3) (ra4 : S) (ea4 : m_scalar_low ra1 = ra4) (ra5 : S) (ea5 : m_scalar_exact ra4 = ra5) (ra6 : S) (ea6 : m_scalar_operands_add (⟨ra3, ra5, 32#64⟩ : OO) = ra6) (ra7 : S) (ea7 : m_scalar_low ra6 = ra7) (h0 : (BitVec.slt 0#64 0#64) = false) (h1 : (BitVec.slt 0#64 13#64) = true) (h2 : (0#64 == 11#64) = false) (h3 : (m_scalar_isConst ra0) = true) (h4 : (m_scalar_isConst ra1) = false) (h5 : (0#64 == 8#64) = false) : Con Tryz.prog 19 #[(.int .i64 (ii (0#64))), (.bool (false)), (sv (x2)), (sv (x3))] (sv (ra7)) :=
  fn_conI (P := Tryz.prog) Tryz.func19 (fun xs w => by kernel_rfl) _ _
    [.o, .o, .o, .cl ok_scalar_doings  rfl, .o, .a 3, .o, .o, .o, .o, .o, .o, .r [0, 1, 2, 3] [] [4, 5], .a 0, .cr sv (ok_scalar_known (x2)) ea0, .a 1, .cr sv (ok_scalar_known (x3)) ea1, .a 0, .a 1, .o, .o, .o, .o, .o, .o, .o, .o, .a 0, .cb (ok_scalar_isConst (ra0)) h3, .o, .a 1, .cb (ok_scalar_isConst (ra1)) h4, .o, .o, .o, .o, .o, .o, .o, .o, .r [0, 1, 2, 3, 4, 5, 6, 7, 8, 9, 10, 11] [] [12], .o, .o, .a 3, .a 0, .cr sv (ok_scalar_low (ra0)) ea2, .cr sv (ok_scalar_exact (ra2)) ea3, .a 1, .cr sv (ok_scalar_low (ra1)) ea4, .cr sv (ok_scalar_exact (ra4)) ea5, .o, .cr sv (ok_scalar_operands_add ((⟨ra3, ra5, 32#64⟩ : OO))) ea6, .cr sv (ok_scalar_low (ra6)) ea7, .a 2]
    [2, 2, 2, 2, 2, 2] (fun b => by kernel_rfl)
theorem p18_scalar_Do (x2 : S) (x3 : S) (ra0 : S) (ea0 : m_scalar_known x2 = ra0) (ra1 : S) (ea1 : m_scalar_known x3 = ra1) (ra2 : S) (ea2 : m_scalar_low ra0 = ra2) (ra3 : S) (ea3 : m_scalar_exact ra2 = ra3) (ra4 : S) (ea4 : m_scalar_low ra1 = ra4) (ra5 : S) (ea5 : m_scalar_exact ra4 = ra5) (ra6 : S) (ea6 : m_scalar_operands_sub (⟨ra3, ra5, 32#64⟩ : OO) = ra6) (ra7 : S) (ea7 : m_scalar_low ra6 = ra7) (h0 : (BitVec.slt 1#64 0#64) = false) (h1 : (BitVec.slt 1#64 13#64) = true) (h2 : (1#64 == 11#64) = false) (h3 : (m_scalar_isConst ra0) = true) (h4 : (m_scalar_isConst ra1) = false) (h5 : (1#64 == 8#64) = false) (h7 : (1#64 == 0#64) = false) : Con Tryz.prog 19 #[(.int .i64 (ii (1#64))), (.bool (false)), (sv (x2)), (sv (x3))] (sv (ra7)) :=
  fn_conI (P := Tryz.prog) Tryz.func19 (fun xs w => by kernel_rfl) _ _
    [.o, .o, .o, .cl ok_scalar_doings  rfl, .o, .a 3, .o, .o, .o, .o, .o, .o, .r [0, 1, 2, 3] [] [4, 5], .a 0, .cr sv (ok_scalar_known (x2)) ea0, .a 1, .cr sv (ok_scalar_known (x3)) ea1, .a 0, .a 1, .o, .o, .o, .o, .o, .o, .o, .o, .a 0, .cb (ok_scalar_isConst (ra0)) h3, .o, .a 1, .cb (ok_scalar_isConst (ra1)) h4, .o, .o, .o, .o, .o, .o, .o, .o, .r [0, 1, 2, 3, 4, 5, 6, 7, 8, 9, 10, 11] [] [12], .o, .o, .a 3, .a 0, .cr sv (ok_scalar_low (ra0)) ea2, .cr sv (ok_scalar_exact (ra2)) ea3, .a 1, .cr sv (ok_scalar_low (ra1)) ea4, .cr sv (ok_scalar_exact (ra4)) ea5, .o, .cr sv (ok_scalar_operands_sub ((⟨ra3, ra5, 32#64⟩ : OO))) ea6, .cr sv (ok_scalar_low (ra6)) ea7, .a 2]
    [2, 2, 2, 2, 2, 2] (fun b => by kernel_rfl)
theorem p19_scalar_Do (x2 : S) (x3 : S) (ra0 : S) (ea0 : m_scalar_known x2 = ra0) (ra1 : S) (ea1 : m_scalar_known x3 = ra1) (ra2 : S) (ea2 : m_scalar_low ra0 = ra2) (ra3 : S) (ea3 : m_scalar_exact ra2 = ra3) (ra4 : S) (ea4 : m_scalar_low ra1 = ra4) (ra5 : S) (ea5 : m_scalar_exact ra4 = ra5) (ra6 : S) (ea6 : m_scalar_operands_mul (⟨ra3, ra5, 32#64⟩ : OO) = ra6) (ra7 : S) (ea7 : m_scalar_low ra6 = ra7) (h0 : (BitVec.slt 2#64 0#64) = false) (h1 : (BitVec.slt 2#64 13#64) = true) (h2 : (2#64 == 11#64) = false) (h3 : (m_scalar_isConst ra0) = true) (h4 : (m_scalar_isConst ra1) = false) (h5 : (2#64 == 8#64) = false) (h7 : (2#64 == 0#64) = false) (h8 : (2#64 == 1#64) = false) : Con Tryz.prog 19 #[(.int .i64 (ii (2#64))), (.bool (false)), (sv (x2)), (sv (x3))] (sv (ra7)) :=
  fn_conI (P := Tryz.prog) Tryz.func19 (fun xs w => by kernel_rfl) _ _
    [.o, .o, .o, .cl ok_scalar_doings  rfl, .o, .a 3, .o, .o, .o, .o, .o, .o, .r [0, 1, 2, 3] [] [4, 5], .a 0, .cr sv (ok_scalar_known (x2)) ea0, .a 1, .cr sv (ok_scalar_known (x3)) ea1, .a 0, .a 1, .o, .o, .o, .o, .o, .o, .o, .o, .a 0, .cb (ok_scalar_isConst (ra0)) h3, .o, .a 1, .cb (ok_scalar_isConst (ra1)) h4, .o, .o, .o, .o, .o, .o, .o, .o, .r [0, 1, 2, 3, 4, 5, 6, 7, 8, 9, 10, 11] [] [12], .o, .o, .a 3, .a 0, .cr sv (ok_scalar_low (ra0)) ea2, .cr sv (ok_scalar_exact (ra2)) ea3, .a 1, .cr sv (ok_scalar_low (ra1)) ea4, .cr sv (ok_scalar_exact (ra4)) ea5, .o, .cr sv (ok_scalar_operands_mul ((⟨ra3, ra5, 32#64⟩ : OO))) ea6, .cr sv (ok_scalar_low (ra6)) ea7, .a 2]
    [2, 2, 2, 2, 2, 2] (fun b => by kernel_rfl)
theorem p20_scalar_Do (x2 : S) (x3 : S) (ra0 : S) (ea0 : m_scalar_known x2 = ra0) (ra1 : S) (ea1 : m_scalar_known x3 = ra1) (ra2 : S) (ea2 : m_scalar_low ra0 = ra2) (ra3 : S) (ea3 : m_scalar_exact ra2 = ra3) (ra4 : S) (ea4 : m_scalar_low ra1 = ra4) (ra5 : S) (ea5 : m_scalar_exact ra4 = ra5) (ra6 : S) (ea6 : m_scalar_operands_div (⟨ra3, ra5, 32#64⟩ : OO) = ra6) (ra7 : S) (ea7 : m_scalar_low ra6 = ra7) (h0 : (BitVec.slt 3#64 0#64) = false) (h1 : (BitVec.slt 3#64 13#64) = true) (h2 : (3#64 == 11#64) = false) (h3 : (m_scalar_isConst ra0) = true) (h4 : (m_scalar_isConst ra1) = false) (h5 : (3#64 == 8#64) = false) (h7 : (3#64 == 0#64) = false) (h8 : (3#64 == 1#64) = false) (h9 : (3#64 == 2#64) = false) : Con Tryz.prog 19 #[(.int .i64 (ii (3#64))), (.bool (false)), (sv (x2)), (sv (x3))] (sv (ra7)) :=
  fn_conI (P := Tryz.prog) Tryz.func19 (fun xs w => by kernel_rfl) _ _
    [.o, .o, .o, .cl ok_scalar_doings  rfl, .o, .a 3, .o, .o, .o, .o, .o, .o, .r [0, 1, 2, 3] [] [4, 5], .a 0, .cr sv (ok_scalar_known (x2)) ea0, .a 1, .cr sv (ok_scalar_known (x3)) ea1, .a 0, .a 1, .o, .o, .o, .o, .o, .o, .o, .o, .a 0, .cb (ok_scalar_isConst (ra0)) h3, .o, .a 1, .cb (ok_scalar_isConst (ra1)) h4, .o, .o, .o, .o, .o, .o, .o, .o, .r [0, 1, 2, 3, 4, 5, 6, 7, 8, 9, 10, 11] [] [12], .o, .o, .a 3, .a 0, .cr sv (ok_scalar_low (ra0)) ea2, .cr sv (ok_scalar_exact (ra2)) ea3, .a 1, .cr sv (ok_scalar_low (ra1)) ea4, .cr sv (ok_scalar_exact (ra4)) ea5, .o, .cr sv (ok_scalar_operands_div ((⟨ra3, ra5, 32#64⟩ : OO)) (ea5 ▸ exact_le _)) ea6, .cr sv (ok_scalar_low (ra6)) ea7, .a 2]
    [2, 2, 2, 2, 2, 2] (fun b => by kernel_rfl)
theorem p21_scalar_Do (x2 : S) (x3 : S) (ra0 : S) (ea0 : m_scalar_known x2 = ra0) (ra1 : S) (ea1 : m_scalar_known x3 = ra1) (ra2 : S) (ea2 : m_scalar_low ra0 = ra2) (ra3 : S) (ea3 : m_scalar_exact ra2 = ra3) (ra4 : S) (ea4 : m_scalar_low ra1 = ra4) (ra5 : S) (ea5 : m_scalar_exact ra4 = ra5) (ra6 : S) (ea6 : m_scalar_operands_or (⟨ra3, ra5, 32#64⟩ : OO) = ra6) (ra7 : S) (ea7 : m_scalar_low ra6 = ra7) (h0 : (BitVec.slt 4#64 0#64) = false) (h1 : (BitVec.slt 4#64 13#64) = true) (h2 : (4#64 == 11#64) = false) (h3 : (m_scalar_isConst ra0) = true) (h4 : (m_scalar_isConst ra1) = false) (h5 : (4#64 == 8#64) = false) (h7 : (4#64 == 0#64) = false) (h8 : (4#64 == 1#64) = false) (h9 : (4#64 == 2#64) = false) (h10 : (4#64 == 3#64) = false) : Con Tryz.prog 19 #[(.int .i64 (ii (4#64))), (.bool (false)), (sv (x2)), (sv (x3))] (sv (ra7)) :=
  fn_conI (P := Tryz.prog) Tryz.func19 (fun xs w => by kernel_rfl) _ _
    [.o, .o, .o, .cl ok_scalar_doings  rfl, .o, .a 3, .o, .o, .o, .o, .o, .o, .r [0, 1, 2, 3] [] [4, 5], .a 0, .cr sv (ok_scalar_known (x2)) ea0, .a 1, .cr sv (ok_scalar_known (x3)) ea1, .a 0, .a 1, .o, .o, .o, .o, .o, .o, .o, .o, .a 0, .cb (ok_scalar_isConst (ra0)) h3, .o, .a 1, .cb (ok_scalar_isConst (ra1)) h4, .o, .o, .o, .o, .o, .o, .o, .o, .r [0, 1, 2, 3, 4, 5, 6, 7, 8, 9, 10, 11] [] [12], .o, .o, .a 3, .a 0, .cr sv (ok_scalar_low (ra0)) ea2, .cr sv (ok_scalar_exact (ra2)) ea3, .a 1, .cr sv (ok_scalar_low (ra1)) ea4, .cr sv (ok_scalar_exact (ra4)) ea5, .o, .cr sv (ok_scalar_operands_or ((⟨ra3, ra5, 32#64⟩ : OO))) ea6, .cr sv (ok_scalar_low (ra6)) ea7, .a 2]
    [2, 2, 2, 2, 2, 2] (fun b => by kernel_rfl)
theorem p22_scalar_Do (x2 : S) (x3 : S) (ra0 : S) (ea0 : m_scalar_known x2 = ra0) (ra1 : S) (ea1 : m_scalar_known x3 = ra1) (ra2 : S) (ea2 : m_scalar_low ra0 = ra2) (ra3 : S) (ea3 : m_scalar_exact ra2 = ra3) (ra4 : S) (ea4 : m_scalar_low ra1 = ra4) (ra5 : S) (ea5 : m_scalar_exact ra4 = ra5) (ra6 : S) (ea6 : m_scalar_operands_and (⟨ra3, ra5, 32#64⟩ : OO) = ra6) (ra7 : S) (ea7 : m_scalar_low ra6 = ra7) (h0 : (BitVec.slt 5#64 0#64) = false) (h1 : (BitVec.slt 5#64 13#64) = true) (h2 : (5#64 == 11#64) = false) (h3 : (m_scalar_isConst ra0) = true) (h4 : (m_scalar_isConst ra1) = false) (h5 : (5#64 == 8#64) = false) (h7 : (5#64 == 0#64) = false) (h8 : (5#64 == 1#64) = false) (h9 : (5#64 == 2#64) = false) (h10 : (5#64 == 3#64) = false) (h11 : (5#64 == 4#64) = false) : Con Tryz.prog 19 #[(.int .i64 (ii (5#64))), (.bool (false)), (sv (x2)), (sv (x3))] (sv (ra7)) :=
  fn_conI (P := Tryz.prog) Tryz.func19 (fun xs w => by kernel_rfl) _ _
    [.o, .o, .o, .cl ok_scalar_doings  rfl, .o, .a 3, .o, .o, .o, .o, .o, .o, .r [0, 1, 2, 3] [] [4, 5], .a 0, .cr sv (ok_scalar_known (x2)) ea0, .a 1, .cr sv (ok_scalar_known (x3)) ea1, .a 0, .a 1, .o, .o, .o, .o, .o, .o, .o, .o, .a 0, .cb (ok_scalar_isConst (ra0)) h3, .o, .a 1, .cb (ok_scalar_isConst (ra1)) h4, .o, .o, .o, .o, .o, .o, .o, .o, .r [0, 1, 2, 3, 4, 5, 6, 7, 8, 9, 10, 11] [] [12], .o, .o, .a 3, .a 0, .cr sv (ok_scalar_low (ra0)) ea2, .cr sv (ok_scalar_exact (ra2)) ea3, .a 1, .cr sv (ok_scalar_low (ra1)) ea4, .cr sv (ok_scalar_exact (ra4)) ea5, .o, .cr sv (ok_scalar_operands_and ((⟨ra3, ra5, 32#64⟩ : OO))) ea6, .cr sv (ok_scalar_low (ra6)) ea7, .a 2]
    [2, 2, 2, 2, 2, 2] (fun b => by kernel_rfl)
theorem p23_scalar_Do (x2 : S) (x3 : S) (ra0 : S) (ea0 : m_scalar_known x2 = ra0) (ra1 : S) (ea1 : m_scalar_known x3 = ra1) (ra2 : S) (ea2 : m_scalar_low ra0 = ra2) (ra3 : S) (ea3 : m_scalar_exact ra2 = ra3) (ra4 : S) (ea4 : m_scalar_low ra1 = ra4) (ra5 : S) (ea5 : m_scalar_exact ra4 = ra5) (ra6 : S) (ea6 : m_scalar_operands_lsh (⟨ra3, ra5, 32#64⟩ : OO) = ra6) (ra7 : S) (ea7 : m_scalar_low ra6 = ra7) (h0 : (BitVec.slt 6#64 0#64) = false) (h1 : (BitVec.slt 6#64 13#64) = true) (h2 : (6#64 == 11#64) = false) (h3 : (m_scalar_isConst ra0) = true) (h4 : (m_scalar_isConst ra1) = false) (h5 : (6#64 == 8#64) = false) (h7 : (6#64 == 0#64) = false) (h8 : (6#64 == 1#64) = false) (h9 : (6#64 == 2#64) = false) (h10 : (6#64 == 3#64) = false) (h11 : (6#64 == 4#64) = false) (h12 : (6#64 == 5#64) = false) : Con Tryz.prog 19 #[(.int .i64 (ii (6#64))), (.bool (false)), (sv (x2)), (sv (x3))] (sv (ra7)) :=
  fn_conI (P := Tryz.prog) Tryz.func19 (fun xs w => by kernel_rfl) _ _
    [.o, .o, .o, .cl ok_scalar_doings  rfl, .o, .a 3, .o, .o, .o, .o, .o, .o, .r [0, 1, 2, 3] [] [4, 5], .a 0, .cr sv (ok_scalar_known (x2)) ea0, .a 1, .cr sv (ok_scalar_known (x3)) ea1, .a 0, .a 1, .o, .o, .o, .o, .o, .o, .o, .o, .a 0, .cb (ok_scalar_isConst (ra0)) h3, .o, .a 1, .cb (ok_scalar_isConst (ra1)) h4, .o, .o, .o, .o, .o, .o, .o, .o, .r [0, 1, 2, 3, 4, 5, 6, 7, 8, 9, 10, 11] [] [12], .o, .o, .a 3, .a 0, .cr sv (ok_scalar_low (ra0)) ea2, .cr sv (ok_scalar_exact (ra2)) ea3, .a 1, .cr sv (ok_scalar_low (ra1)) ea4, .cr sv (ok_scalar_exact (ra4)) ea5, .o, .cr sv (ok_scalar_operands_lsh ((⟨ra3, ra5, 32#64⟩ : OO)) rfl) ea6, .cr sv (ok_scalar_low (ra6)) ea7, .a 2]
    [2, 2, 2, 2, 2, 2] (fun b => by kernel_rfl)
theorem p24_scalar_Do (x2 : S) (x3 : S) (ra0 : S) (ea0 : m_scalar_known x2 = ra0) (ra1 : S) (ea1 : m_scalar_known x3 = ra1) (ra2 : S) (ea2 : m_scalar_low ra0 = ra2) (ra3 : S) (ea3 : m_scalar_exact ra2 = ra3) (ra4 : S) (ea4 : m_scalar_low ra1 = ra4) (ra5 : S) (ea5 : m_scalar_exact ra4 = ra5) (ra6 : S) (ea6 : m_scalar_operands_rsh (⟨ra3, ra5, 32#64⟩ : OO) = ra6) (ra7 : S) (ea7 : m_scalar_low ra6 = ra7) (h0 : (BitVec.slt 7#64 0#64) = false) (h1 : (BitVec.slt 7#64 13#64) = true) (h2 : (7#64 == 11#64) = false) (h3 : (m_scalar_isConst ra0) = true) (h4 : (m_scalar_isConst ra1) = false) (h5 : (7#64 == 8#64) = false) (h7 : (7#64 == 0#64) = false) (h8 : (7#64 == 1#64) = false) (h9 : (7#64 == 2#64) = false) (h10 : (7#64 == 3#64) = false) (h11 : (7#64 == 4#64) = false) (h12 : (7#64 == 5#64) = false) (h13 : (7#64 == 6#64) = false) : Con Tryz.prog 19 #[(.int .i64 (ii (7#64))), (.bool (false)), (sv (x2)), (sv (x3))] (sv (ra7)) :=
  fn_conI (P := Tryz.prog) Tryz.func19 (fun xs w => by kernel_rfl) _ _
    [.o, .o, .o, .cl ok_scalar_doings  rfl, .o, .a 3, .o, .o, .o, .o, .o, .o, .r [0, 1, 2, 3] [] [4, 5], .a 0, .cr sv (ok_scalar_known (x2)) ea0, .a 1, .cr sv (ok_scalar_known (x3)) ea1, .a 0, .a 1, .o, .o, .o, .o, .o, .o, .o, .o, .a 0, .cb (ok_scalar_isConst (ra0)) h3, .o, .a 1, .cb (ok_scalar_isConst (ra1)) h4, .o, .o, .o, .o, .o, .o, .o, .o, .r [0, 1, 2, 3, 4, 5, 6, 7, 8, 9, 10, 11] [] [12], .o, .o, .a 3, .a 0, .cr sv (ok_scalar_low (ra0)) ea2, .cr sv (ok_scalar_exact (ra2)) ea3, .a 1, .cr sv (ok_scalar_low (ra1)) ea4, .cr sv (ok_scalar_exact (ra4)) ea5, .o, .cr sv (ok_scalar_operands_rsh ((⟨ra3, ra5, 32#64⟩ : OO)) rfl) ea6, .cr sv (ok_scalar_low (ra6)) ea7, .a 2]
    [2, 2, 2, 2, 2, 2] (fun b => by kernel_rfl)
theorem p25_scalar_Do (x2 : S) (x3 : S) (ra0 : S) (ea0 : m_scalar_known x2 = ra0) (ra1 : S) (ea1 : m_scalar_known x3 = ra1) (ra2 : S) (ea2 : m_scalar_low ra0 = ra2) (ra3 : S) (ea3 : m_scalar_exact ra2 = ra3) (ra4 : S) (ea4 : m_scalar_low ra1 = ra4) (ra5 : S) (ea5 : m_scalar_exact ra4 = ra5) (ra6 : S) (ea6 : m_scalar_operands_mod (⟨ra3, ra5, 32#64⟩ : OO) = ra6) (ra7 : S) (ea7 : m_scalar_low ra6 = ra7) (h0 : (BitVec.slt 9#64 0#64) = false) (h1 : (BitVec.slt 9#64 13#64) = true) (h2 : (9#64 == 11#64) = false) (h3 : (m_scalar_isConst ra0) = true) (h4 : (m_scalar_isConst ra1) = false) (h5 : (9#64 == 8#64) = false) (h7 : (9#64 == 0#64) = false) (h8 : (9#64 == 1#64) = false) (h9 : (9#64 == 2#64) = false) (h10 : (9#64 == 3#64) = false) (h11 : (9#64 == 4#64) = false) (h12 : (9#64 == 5#64) = false) (h13 : (9#64 == 6#64) = false) (h14 : (9#64 == 7#64) = false) : Con Tryz.prog 19 #[(.int .i64 (ii (9#64))), (.bool (false)), (sv (x2)), (sv (x3))] (sv (ra7)) :=
  fn_conI (P := Tryz.prog) Tryz.func19 (fun xs w => by kernel_rfl) _ _
    [.o, .o, .o, .cl ok_scalar_doings  rfl, .o, .a 3, .o, .o, .o, .o, .o, .o, .r [0, 1, 2, 3] [] [4, 5], .a 0, .cr sv (ok_scalar_known (x2)) ea0, .a 1, .cr sv (ok_scalar_known (x3)) ea1, .a 0, .a 1, .o, .o, .o, .o, .o, .o, .o, .o, .a 0, .cb (ok_scalar_isConst (ra0)) h3, .o, .a 1, .cb (ok_scalar_isConst (ra1)) h4, .o, .o, .o, .o, .o, .o, .o, .o, .r [0, 1, 2, 3, 4, 5, 6, 7, 8, 9, 10, 11] [] [12], .o, .o, .a 3, .a 0, .cr sv (ok_scalar_low (ra0)) ea2, .cr sv (ok_scalar_exact (ra2)) ea3, .a 1, .cr sv (ok_scalar_low (ra1)) ea4, .cr sv (ok_scalar_exact (ra4)) ea5, .o, .cr sv (ok_scalar_operands_mod ((⟨ra3, ra5, 32#64⟩ : OO))) ea6, .cr sv (ok_scalar_low (ra6)) ea7, .a 2]
    [2, 2, 2, 2, 2, 2] (fun b => by kernel_rfl)
theorem p26_scalar_Do (x2 : S) (x3 : S) (ra0 : S) (ea0 : m_scalar_known x2 = ra0) (ra1 : S) (ea1 : m_scalar_known x3 = ra1) (ra2 : S) (ea2 : m_scalar_low ra0 = ra2) (ra3 : S) (ea3 : m_scalar_exact ra2 = ra3) (ra4 : S) (ea4 : m_scalar_low ra1 = ra4) (ra5 : S) (ea5 : m_scalar_exact ra4 = ra5) (ra6 : S) (ea6 : m_scalar_operands_xor (⟨ra3, ra5, 32#64⟩ : OO) = ra6) (ra7 : S) (ea7 : m_scalar_low ra6 = ra7) (h0 : (BitVec.slt 10#64 0#64) = false) (h1 : (BitVec.slt 10#64 13#64) = true) (h2 : (10#64 == 11#64) = false) (h3 : (m_scalar_isConst ra0) = true) (h4 : (m_scalar_isConst ra1) = false) (h5 : (10#64 == 8#64) = false) (h7 : (10#64 == 0#64) = false) (h8 : (10#64 == 1#64) = false) (h9 : (10#64 == 2#64) = false) (h10 : (10#64 == 3#64) = false) (h11 : (10#64 == 4#64) = false) (h12 : (10#64 == 5#64) = false) (h13 : (10#64 == 6#64) = false) (h14 : (10#64 == 7#64) = false) (h15 : (10#64 == 9#64) = false) : Con Tryz.prog 19 #[(.int .i64 (ii (10#64))), (.bool (false)), (sv (x2)), (sv (x3))] (sv (ra7)) :=
  fn_conI (P := Tryz.prog) Tryz.func19 (fun xs w => by kernel_rfl) _ _
    [.o, .o, .o, .cl ok_scalar_doings  rfl, .o, .a 3, .o, .o, .o, .o, .o, .o, .r [0, 1, 2, 3] [] [4, 5], .a 0, .cr sv (ok_scalar_known (x2)) ea0, .a 1, .cr sv (ok_scalar_known (x3)) ea1, .a 0, .a 1, .o, .o, .o, .o, .o, .o, .o, .o, .a 0, .cb (ok_scalar_isConst (ra0)) h3, .o, .a 1, .cb (ok_scalar_isConst (ra1)) h4, .o, .o, .o, .o, .o, .o, .o, .o, .r [0, 1, 2, 3, 4, 5, 6, 7, 8, 9, 10, 11] [] [12], .o, .o, .a 3, .a 0, .cr sv (ok_scalar_low (ra0)) ea2, .cr sv (ok_scalar_exact (ra2)) ea3, .a 1, .cr sv (ok_scalar_low (ra1)) ea4, .cr sv (ok_scalar_exact (ra4)) ea5, .o, .cr sv (ok_scalar_operands_xor ((⟨ra3, ra5, 32#64⟩ : OO))) ea6, .cr sv (ok_scalar_low (ra6)) ea7, .a 2]
    [2, 2, 2, 2, 2, 2] (fun b => by kernel_rfl)
theorem p27_scalar_Do (x2 : S) (x3 : S) (ra0 : S) (ea0 : m_scalar_known x2 = ra0) (ra1 : S) (ea1 : m_scalar_known x3 = ra1) (ra2 : S) (ea2 : m_scalar_low ra0 = ra2) (ra3 : S) (ea3 : m_scalar_exact ra2 = ra3) (ra4 : S) (ea4 : m_scalar_low ra1 = ra4) (ra5 : S) (ea5 : m_scalar_exact ra4 = ra5) (ra6 : S) (ea6 : m_scalar_operands_arsh (⟨ra3, ra5, 32#64⟩ : OO) = ra6) (ra7 : S) (ea7 : m_scalar_low ra6 = ra7) (h0 : (BitVec.slt 12#64 0#64) = false) (h1 : (BitVec.slt 12#64 13#64) = true) (h2 : (12#64 == 11#64) = false) (h3 : (m_scalar_isConst ra0) = true) (h4 : (m_scalar_isConst ra1) = false) (h5 : (12#64 == 8#64) = false) (h7 : (12#64 == 0#64) = false) (h8 : (12#64 == 1#64) = false) (h9 : (12#64 == 2#64) = false) (h10 : (12#64 == 3#64) = false) (h11 : (12#64 == 4#64) = false) (h12 : (12#64 == 5#64) = false) (h13 : (12#64 == 6#64) = false) (h14 : (12#64 == 7#64) = false) (h15 : (12#64 == 9#64) = false) (h16 : (12#64 == 10#64) = false) : Con Tryz.prog 19 #[(.int .i64 (ii (12#64))), (.bool (false)), (sv (x2)), (sv (x3))] (sv (ra7)) :=
  fn_conI (P := Tryz.prog) Tryz.func19 (fun xs w => by kernel_rfl) _ _
    [.o, .o, .o, .cl ok_scalar_doings  rfl, .o, .a 3, .o, .o, .o, .o, .o, .o, .r [0, 1, 2, 3] [] [4, 5], .a 0, .cr sv (ok_scalar_known (x2)) ea0, .a 1, .cr sv (ok_scalar_known (x3)) ea1, .a 0, .a 1, .o, .o, .o, .o, .o, .o, .o, .o, .a 0, .cb (ok_scalar_isConst (ra0)) h3, .o, .a 1, .cb (ok_scalar_isConst (ra1)) h4, .o, .o, .o, .o, .o, .o, .o, .o, .r [0, 1, 2, 3, 4, 5, 6, 7, 8, 9, 10, 11] [] [12], .o, .o, .a 3, .a 0, .cr sv (ok_scalar_low (ra0)) ea2, .cr sv (ok_scalar_exact (ra2)) ea3, .a 1, .cr sv (ok_scalar_low (ra1)) ea4, .cr sv (ok_scalar_exact (ra4)) ea5, .o, .cr sv (ok_scalar_operands_arsh ((⟨ra3, ra5, 32#64⟩ : OO)) rfl) ea6, .cr sv (ok_scalar_low (ra6)) ea7, .a 2]
    [2, 2, 2, 2, 2, 2] (fun b => by kernel_rfl)
theorem p29_scalar_Do (x2 : S) (x3 : S) (ra0 : S) (ea0 : m_scalar_known x2 = ra0) (ra1 : S) (ea1 : m_scalar_known x3 = ra1) (ra2 : S) (ea2 : m_scalar_exact ra0 = ra2) (ra3 : S) (ea3 : m_scalar_exact ra1 = ra3) (ra4 : S) (ea4 : m_scalar_operands_add (⟨ra2, ra3, 64#64⟩ : OO) = ra4) (h0 : (BitVec.slt 0#64 0#64) = false) (h1 : (BitVec.slt 0#64 13#64) = true) (h2 : (0#64 == 11#64) = false) (h3 : (m_scalar_isConst ra0) = false) : Con Tryz.prog 19 #[(.int .i64 (ii (0#64))), (.bool (true)), (sv (x2)), (sv (x3))] (sv (ra4)) :=
  fn_conI (P := Tryz.prog) Tryz.func19 (fun xs w => by kernel_rfl) _ _
    [.o, .o, .o, .cl ok_scalar_doings  rfl, .o, .a 3, .o, .o, .o, .o, .o, .o, .r [0, 1, 2, 3] [] [4, 5], .a 0, .cr sv (ok_scalar_known (x2)) ea0, .a 1, .cr sv (ok_scalar_known (x3)) ea1, .a 0, .a 1, .o, .o, .o, .o, .o, .o, .o, .o, .a 0, .cb (ok_scalar_isConst (ra0)) h3, .o, .o, .o, .o, .o, .r [0, 1, 2, 3, 4, 5, 6, 7, 8] [] [9], .o, .o, .a 3, .a 0, .cr sv (ok_scalar_exact (ra0)) ea2, .a 1, .cr sv (ok_scalar_exact (ra1)) ea3, .o, .cr sv (ok_scalar_operands_add ((⟨ra2, ra3, 64#64⟩ : OO))) ea4, .a 2]
    [2, 2, 2, 2, 2, 2] (fun b => by kernel_rfl)
theorem p30_scalar_Do (x2 : S) (x3 : S) (ra0 : S) (ea0 : m_scalar_known x2 = ra0) (ra1 : S) (ea1 : m_scalar_known x3 = ra1) (ra2 : S) (ea2 : m_scalar_exact ra0 = ra2) (ra3 : S) (ea3 : m_scalar_exact ra1 = ra3) (ra4 : S) (ea4 : m_scalar_operands_sub (⟨ra2, ra3, 64#64⟩ : OO) = ra4) (h0 : (BitVec.slt 1#64 0#64) = false) (h1 : (BitVec.slt 1#64 13#64) = true) (h2 : (1#64 == 11#64) = false) (h3 : (m_scalar_isConst ra0) = false) (h5 : (1#64 == 0#64) = false) : Con Tryz.prog 19 #[(.int .i64 (ii (1#64))), (.bool (true)), (sv (x2)), (sv (x3))] (sv (ra4)) :=
  fn_conI (P := Tryz.prog) Tryz.func19 (fun xs w => by kernel_rfl) _ _
    [.o, .o, .o, .cl ok_scalar_doings  rfl, .o, .a 3, .o, .o, .o, .o, .o, .o, .r [0, 1, 2, 3] [] [4, 5], .a 0, .cr sv (ok_scalar_known (x2)) ea0, .a 1, .cr sv (ok_scalar_known (x3)) ea1, .a 0, .a 1, .o, .o, .o, .o, .o, .o, .o, .o, .a 0, .cb (ok_scalar_isConst (ra0)) h3, .o, .o, .o, .o, .o, .r [0, 1, 2, 3, 4, 5, 6, 7, 8] [] [9], .o, .o, .a 3, .a 0, .cr sv (ok_scalar_exact (ra0)) ea2, .a 1, .cr sv (ok_scalar_exact (ra1)) ea3, .o, .cr sv (ok_scalar_operands_sub ((⟨ra2, ra3, 64#64⟩ : OO))) ea4, .a 2]
    [2, 2, 2, 2, 2, 2] (fun b => by kernel_rfl)
theorem p31_scalar_Do (x2 : S) (x3 : S) (ra0 : S) (ea0 : m_scalar_known x2 = ra0) (ra1 : S) (ea1 : m_scalar_known x3 = ra1) (ra2 : S) (ea2 : m_scalar_exact ra0 = ra2) (ra3 : S) (ea3 : m_scalar_exact ra1 = ra3) (ra4 : S) (ea4 : m_scalar_operands_mul (⟨ra2, ra3, 64#64⟩ : OO) = ra4) (h0 : (BitVec.slt 2#64 0#64) = false) (h1 : (BitVec.slt 2#64 13#64) = true) (h2 : (2#64 == 11#64) = false) (h3 : (m_scalar_isConst ra0) = false) (h5 : (2#64 == 0#64) = false) (h6 : (2#64 == 1#64) = false) : Con Tryz.prog 19 #[(.int .i64 (ii (2#64))), (.bool (true)), (sv (x2)), (sv (x3))] (sv (ra4)) :=
  fn_conI (P := Tryz.prog) Tryz.func19 (fun xs w => by kernel_rfl) _ _
    [.o, .o, .o, .cl ok_scalar_doings  rfl, .o, .a 3, .o, .o, .o, .o, .o, .o, .r [0, 1, 2, 3] [] [4, 5], .a 0, .cr sv (ok_scalar_known (x2)) ea0, .a 1, .cr sv (ok_scalar_known (x3)) ea1, .a 0, .a 1, .o, .o, .o, .o, .o, .o, .o, .o, .a 0, .cb (ok_scalar_isConst (ra0)) h3, .o, .o, .o, .o, .o, .r [0, 1, 2, 3, 4, 5, 6, 7, 8] [] [9], .o, .o, .a 3, .a 0, .cr sv (ok_scalar_exact (ra0)) ea2, .a 1, .cr sv (ok_scalar_exact (ra1)) ea3, .o, .cr sv (ok_scalar_operands_mul ((⟨ra2, ra3, 64#64⟩ : OO))) ea4, .a 2]
    [2, 2, 2, 2, 2, 2] (fun b => by kernel_rfl)
theorem p32_scalar_Do (x2 : S) (x3 : S) (ra0 : S) (ea0 : m_scalar_known x2 = ra0) (ra1 : S) (ea1 : m_scalar_known x3 = ra1) (ra2 : S) (ea2 : m_scalar_exact ra0 = ra2) (ra3 : S) (ea3 : m_scalar_exact ra1 = ra3) (ra4 : S) (ea4 : m_scalar_operands_div (⟨ra2, ra3, 64#64⟩ : OO) = ra4) (h0 : (BitVec.slt 3#64 0#64) = false) (h1 : (BitVec.slt 3#64 13#64) = true) (h2 : (3#64 == 11#64) = false) (h3 : (m_scalar_isConst ra0) = false) (h5 : (3#64 == 0#64) = false) (h6 : (3#64 == 1#64) = false) (h7 : (3#64 == 2#64) = false) : Con Tryz.prog 19 #[(.int .i64 (ii (3#64))), (.bool (true)), (sv (x2)), (sv (x3))] (sv (ra4)) :=
  fn_conI (P := Tryz.prog) Tryz.func19 (fun xs w => by kernel_rfl) _ _
    [.o, .o, .o, .cl ok_scalar_doings  rfl, .o, .a 3, .o, .o, .o, .o, .o, .o, .r [0, 1, 2, 3] [] [4, 5], .a 0, .cr sv (ok_scalar_known (x2)) ea0, .a 1, .cr sv (ok_scalar_known (x3)) ea1, .a 0, .a 1, .o, .o, .o, .o, .o, .o, .o, .o, .a 0, .cb (ok_scalar_isConst (ra0)) h3, .o, .o, .o, .o, .o, .r [0, 1, 2, 3, 4, 5, 6, 7, 8] [] [9], .o, .o, .a 3, .a 0, .cr sv (ok_scalar_exact (ra0)) ea2, .a 1, .cr sv (ok_scalar_exact (ra1)) ea3, .o, .cr sv (ok_scalar_operands_div ((⟨ra2, ra3, 64#64⟩ : OO)) (ea3 ▸ exact_le _)) ea4, .a 2]
    [2, 2, 2, 2, 2, 2] (fun b => by kernel_rfl)
theorem p33_scalar_Do (x2 : S) (x3 : S) (ra0 : S) (ea0 : m_scalar_known x2 = ra0) (ra1 : S) (ea1 : m_scalar_known x3 = ra1) (ra2 : S) (ea2 : m_scalar_exact ra0 = ra2) (ra3 : S) (ea3 : m_scalar_exact ra1 = ra3) (ra4 : S) (ea4 : m_scalar_operands_or (⟨ra2, ra3, 64#64⟩ : OO) = ra4) (h0 : (BitVec.slt 4#64 0#64) = false) (h1 : (BitVec.slt 4#64 13#64) = true) (h2 : (4#64 == 11#64) = false) (h3 : (m_scalar_isConst ra0) = false) (h5 : (4#64 == 0#64) = false) (h6 : (4#64 == 1#64) = false) (h7 : (4#64 == 2#64) = false) (h8 : (4#64 == 3#64) = false) : Con Tryz.prog 19 #[(.int .i64 (ii (4#64))), (.bool (true)), (sv (x2)), (sv (x3))] (sv (ra4)) :=
  fn_conI (P := Tryz.prog) Tryz.func19 (fun xs w => by kernel_rfl) _ _
    [.o, .o, .o, .cl ok_scalar_doings  rfl, .o, .a 3, .o, .o, .o, .o, .o, .o, .r [0, 1, 2, 3] [] [4, 5], .a 0, .cr sv (ok_scalar_known (x2)) ea0, .a 1, .cr sv (ok_scalar_known (x3)) ea1, .a 0, .a 1, .o, .o, .o, .o, .o, .o, .o, .o, .a 0, .cb (ok_scalar_isConst (ra0)) h3, .o, .o, .o, .o, .o, .r [0, 1, 2, 3, 4, 5, 6, 7, 8] [] [9], .o, .o, .a 3, .a 0, .cr sv (ok_scalar_exact (ra0)) ea2, .a 1, .cr sv (ok_scalar_exact (ra1)) ea3, .o, .cr sv (ok_scalar_operands_or ((⟨ra2, ra3, 64#64⟩ : OO))) ea4, .a 2]
    [2, 2, 2, 2, 2, 2] (fun b => by kernel_rfl)
theorem p34_scalar_Do (x2 : S) (x3 : S) (ra0 : S) (ea0 : m_scalar_known x2 = ra0) (ra1 : S) (ea1 : m_scalar_known x3 = ra1) (ra2 : S) (ea2 : m_scalar_exact ra0 = ra2) (ra3 : S) (ea3 : m_scalar_exact ra1 = ra3) (ra4 : S) (ea4 : m_scalar_operands_and (⟨ra2, ra3, 64#64⟩ : OO) = ra4) (h0 : (BitVec.slt 5#64 0#64) = false) (h1 : (BitVec.slt 5#64 13#64) = true) (h2 : (5#64 == 11#64) = false) (h3 : (m_scalar_isConst ra0) = false) (h5 : (5#64 == 0#64) = false) (h6 : (5#64 == 1#64) = false) (h7 : (5#64 == 2#64) = false) (h8 : (5#64 == 3#64) = false) (h9 : (5#64 == 4#64) = false) : Con Tryz.prog 19 #[(.int .i64 (ii (5#64))), (.bool (true)), (sv (x2)), (sv (x3))] (sv (ra4)) :=
  fn_conI (P := Tryz.prog) Tryz.func19 (fun xs w => by kernel_rfl) _ _
    [.o, .o, .o, .cl ok_scalar_doings  rfl, .o, .a 3, .o, .o, .o, .o, .o, .o, .r [0, 1, 2, 3] [] [4, 5], .a 0, .cr sv (ok_scalar_known (x2)) ea0, .a 1, .cr sv (ok_scalar_known (x3)) ea1, .a 0, .a 1, .o, .o, .o, .o, .o, .o, .o, .o, .a 0, .cb (ok_scalar_isConst (ra0)) h3, .o, .o, .o, .o, .o, .r [0, 1, 2, 3, 4, 5, 6, 7, 8] [] [9], .o, .o, .a 3, .a 0, .cr sv (ok_scalar_exact (ra0)) ea2, .a 1, .cr sv (ok_scalar_exact (ra1)) ea3, .o, .cr sv (ok_scalar_operands_and ((⟨ra2, ra3, 64#64⟩ : OO))) ea4, .a 2]
    [2, 2, 2, 2, 2, 2] (fun b => by kernel_rfl)
theorem p35_scalar_Do (x2 : S) (x3 : S) (ra0 : S) (ea0 : m_scalar_known x2 = ra0) (ra1 : S) (ea1 : m_scalar_known x3 = ra1) (ra2 : S) (ea2 : m_scalar_exact ra0 = ra2) (ra3 : S) (ea3 : m_scalar_exact ra1 = ra3) (ra4 : S) (ea4 : m_scalar_operands_lsh (⟨ra2, ra3, 64#64⟩ : OO) = ra4) (h0 : (BitVec.slt 6#64 0#64) = false) (h1 : (BitVec.slt 6#64 13#64) = true) (h2 : (6#64 == 11#64) = false) (h3 : (m_scalar_isConst ra0) = false) (h5 : (6#64 == 0#64) = false) (h6 : (6#64 == 1#64) = false) (h7 : (6#64 == 2#64) = false) (h8 : (6#64 == 3#64) = false) (h9 : (6#64 == 4#64) = false) (h10 : (6#64 == 5#64) = false) : Con Tryz.prog 19 #[(.int .i64 (ii (6#64))), (.bool (true)), (sv (x2)), (sv (x3))] (sv (ra4)) :=
  fn_conI (P := Tryz.prog) Tryz.func19 (fun xs w => by kernel_rfl) _ _
    [.o, .o, .o, .cl ok_scalar_doings  rfl, .o, .a 3, .o, .o, .o, .o, .o, .o, .r [0, 1, 2, 3] [] [4, 5], .a 0, .cr sv (ok_scalar_known (x2)) ea0, .a 1, .cr sv (ok_scalar_known (x3)) ea1, .a 0, .a 1, .o, .o, .o, .o, .o, .o, .o, .o, .a 0, .cb (ok_scalar_isConst (ra0)) h3, .o, .o, .o, .o, .o, .r [0, 1, 2, 3, 4, 5, 6, 7, 8] [] [9], .o, .o, .a 3, .a 0, .cr sv (ok_scalar_exact (ra0)) ea2, .a 1, .cr sv (ok_scalar_exact (ra1)) ea3, .o, .cr sv (ok_scalar_operands_lsh ((⟨ra2, ra3, 64#64⟩ : OO)) rfl) ea4, .a 2]
    [2, 2, 2, 2, 2, 2] (fun b => by kernel_rfl)
theorem p36_scalar_Do (x2 : S) (x3 : S) (ra0 : S) (ea0 : m_scalar_known x2 = ra0) (ra1 : S) (ea1 : m_scalar_known x3 = ra1) (ra2 : S) (ea2 : m_scalar_exact ra0 = ra2) (ra3 : S) (ea3 : m_scalar_exact ra1 = ra3) (ra4 : S) (ea4 : m_scalar_operands_rsh (⟨ra2, ra3, 64#64⟩ : OO) = ra4) (h0 : (BitVec.slt 7#64 0#64) = false) (h1 : (BitVec.slt 7#64 13#64) = true) (h2 : (7#64 == 11#64) = false) (h3 : (m_scalar_isConst ra0) = false) (h5 : (7#64 == 0#64) = false) (h6 : (7#64 == 1#64) = false) (h7 : (7#64 == 2#64) = false) (h8 : (7#64 == 3#64) = false) (h9 : (7#64 == 4#64) = false) (h10 : (7#64 == 5#64) = false) (h11 : (7#64 == 6#64) = false) : Con Tryz.prog 19 #[(.int .i64 (ii (7#64))), (.bool (true)), (sv (x2)), (sv (x3))] (sv (ra4)) :=
  fn_conI (P := Tryz.prog) Tryz.func19 (fun xs w => by kernel_rfl) _ _
    [.o, .o, .o, .cl ok_scalar_doings  rfl, .o, .a 3, .o, .o, .o, .o, .o, .o, .r [0, 1, 2, 3] [] [4, 5], .a 0, .cr sv (ok_scalar_known (x2)) ea0, .a 1, .cr sv (ok_scalar_known (x3)) ea1, .a 0, .a 1, .o, .o, .o, .o, .o, .o, .o, .o, .a 0, .cb (ok_scalar_isConst (ra0)) h3, .o, .o, .o, .o, .o, .r [0, 1, 2, 3, 4, 5, 6, 7, 8] [] [9], .o, .o, .a 3, .a 0, .cr sv (ok_scalar_exact (ra0)) ea2, .a 1, .cr sv (ok_scalar_exact (ra1)) ea3, .o, .cr sv (ok_scalar_operands_rsh ((⟨ra2, ra3, 64#64⟩ : OO)) rfl) ea4, .a 2]
    [2, 2, 2, 2, 2, 2] (fun b => by kernel_rfl)
theorem p37_scalar_Do (x2 : S) (x3 : S) (ra0 : S) (ea0 : m_scalar_known x2 = ra0) (ra1 : S) (ea1 : m_scalar_known x3 = ra1) (ra2 : S) (ea2 : m_scalar_exact ra0 = ra2) (ra3 : S) (ea3 : m_scalar_exact ra1 = ra3) (ra4 : S) (ea4 : m_scalar_operands_neg (⟨ra2, ra3, 64#64⟩ : OO) = ra4) (h0 : (BitVec.slt 8#64 0#64) = false) (h1 : (BitVec.slt 8#64 13#64) = true) (h2 : (8#64 == 11#64) = false) (h3 : (m_scalar_isConst ra0) = false) (h5 : (8#64 == 0#64) = false) (h6 : (8#64 == 1#64) = false) (h7 : (8#64 == 2#64) = false) (h8 : (8#64 == 3#64) = false) (h9 : (8#64 == 4#64) = false) (h10 : (8#64 == 5#64) = false) (h11 : (8#64 == 6#64) = false) (h12 : (8#64 == 7#64) = false) : Con Tryz.prog 19 #[(.int .i64 (ii (8#64))), (.bool (true)), (sv (x2)), (sv (x3))] (sv (ra4)) :=
  fn_conI (P := Tryz.prog) Tryz.func19 (fun xs w => by kernel_rfl) _ _
    [.o, .o, .o, .cl ok_scalar_doings  rfl, .o, .a 3, .o, .o, .o, .o, .o, .o, .r [0, 1, 2, 3] [] [4, 5], .a 0, .cr sv (ok_scalar_known (x2)) ea0, .a 1, .cr sv (ok_scalar_known (x3)) ea1, .a 0, .a 1, .o, .o, .o, .o, .o, .o, .o, .o, .a 0, .cb (ok_scalar_isConst (ra0)) h3, .o, .o, .o, .o, .o, .r [0, 1, 2, 3, 4, 5, 6, 7, 8] [] [9], .o, .o, .a 3, .a 0, .cr sv (ok_scalar_exact (ra0)) ea2, .a 1, .cr sv (ok_scalar_exact (ra1)) ea3, .o, .cr sv (ok_scalar_operands_neg ((⟨ra2, ra3, 64#64⟩ : OO))) ea4, .a 2]
    [2, 2, 2, 2, 2, 2] (fun b => by kernel_rfl)
theorem p38_scalar_Do (x2 : S) (x3 : S) (ra0 : S) (ea0 : m_scalar_known x2 = ra0) (ra1 : S) (ea1 : m_scalar_known x3 = ra1) (ra2 : S) (ea2 : m_scalar_exact ra0 = ra2) (ra3 : S) (ea3 : m_scalar_exact ra1 = ra3) (ra4 : S) (ea4 : m_scalar_operands_mod (⟨ra2, ra3, 64#64⟩ : OO) = ra4) (h0 : (BitVec.slt 9#64 0#64) = false) (h1 : (BitVec.slt 9#64 13#64) = true) (h2 : (9#64 == 11#64) = false) (h3 : (m_scalar_isConst ra0) = false) (h5 : (9#64 == 0#64) = false) (h6 : (9#64 == 1#64) = false) (h7 : (9#64 == 2#64) = false) (h8 : (9#64 == 3#64) = false) (h9 : (9#64 == 4#64) = false) (h10 : (9#64 == 5#64) = false) (h11 : (9#64 == 6#64) = false) (h12 : (9#64 == 7#64) = false) (h13 : (9#64 == 8#64) = false) : Con Tryz.prog 19 #[(.int .i64 (ii (9#64))), (.bool (true)), (sv (x2)), (sv (x3))] (sv (ra4)) :=
  fn_conI (P := Tryz.prog) Tryz.func19 (fun xs w => by kernel_rfl) _ _
    [.o, .o, .o, .cl ok_scalar_doings  rfl, .o, .a 3, .o, .o, .o, .o, .o, .o, .r [0, 1, 2, 3] [] [4, 5], .a 0, .cr sv (ok_scalar_known (x2)) ea0, .a 1, .cr sv (ok_scalar_known (x3)) ea1, .a 0, .a 1, .o, .o, .o, .o, .o, .o, .o, .o, .a 0, .cb (ok_scalar_isConst (ra0)) h3, .o, .o, .o, .o, .o, .r [0, 1, 2, 3, 4, 5, 6, 7, 8] [] [9], .o, .o, .a 3, .a 0, .cr sv (ok_scalar_exact (ra0)) ea2, .a 1, .cr sv (ok_scalar_exact (ra1)) ea3, .o, .cr sv (ok_scalar_operands_mod ((⟨ra2, ra3, 64#64⟩ : OO))) ea4, .a 2]
    [2, 2, 2, 2, 2, 2] (fun b => by kernel_rfl)
theorem p39_scalar_Do (x2 : S) (x3 : S) (ra0 : S) (ea0 : m_scalar_known x2 = ra0) (ra1 : S) (ea1 : m_scalar_known x3 = ra1) (ra2 : S) (ea2 : m_scalar_exact ra0 = ra2) (ra3 : S) (ea3 : m_scalar_exact ra1 = ra3) (ra4 : S) (ea4 : m_scalar_operands_xor (⟨ra2, ra3, 64#64⟩ : OO) = ra4) (h0 : (BitVec.slt 10#64 0#64) = false) (h1 : (BitVec.slt 10#64 13#64) = true) (h2 : (10#64 == 11#64) = false) (h3 : (m_scalar_isConst ra0) = false) (h5 : (10#64 == 0#64) = false) (h6 : (10#64 == 1#64) = false) (h7 : (10#64 == 2#64) = false) (h8 : (10#64 == 3#64) = false) (h9 : (10#64 == 4#64) = false) (h10 : (10#64 == 5#64) = false) (h11 : (10#64 == 6#64) = false) (h12 : (10#64 == 7#64) = false) (h13 : (10#64 == 8#64) = false) (h14 : (10#64 == 9#64) = false) : Con Tryz.prog 19 #[(.int .i64 (ii (10#64))), (.bool (true)), (sv (x2)), (sv (x3))] (sv (ra4)) :=
  fn_conI (P := Tryz.prog) Tryz.func19 (fun xs w => by kernel_rfl) _ _
    [.o, .o, .o, .cl ok_scalar_doings  rfl, .o, .a 3, .o, .o, .o, .o, .o, .o, .r [0, 1, 2, 3] [] [4, 5], .a 0, .cr sv (ok_scalar_known (x2)) ea0, .a 1, .cr sv (ok_scalar_known (x3)) ea1, .a 0, .a 1, .o, .o, .o, .o, .o, .o, .o, .o, .a 0, .cb (ok_scalar_isConst (ra0)) h3, .o, .o, .o, .o, .o, .r [0, 1, 2, 3, 4, 5, 6, 7, 8] [] [9], .o, .o, .a 3, .a 0, .cr sv (ok_scalar_exact (ra0)) ea2, .a 1, .cr sv (ok_scalar_exact (ra1)) ea3, .o, .cr sv (ok_scalar_operands_xor ((⟨ra2, ra3, 64#64⟩ : OO))) ea4, .a 2]
    [2, 2, 2, 2, 2, 2] (fun b => by kernel_rfl)
theorem p40_scalar_Do (x2 : S) (x3 : S) (ra0 : S) (ea0 : m_scalar_known x2 = ra0) (ra1 : S) (ea1 : m_scalar_known x3 = ra1) (ra2 : S) (ea2 : m_scalar_exact ra0 = ra2) (ra3 : S) (ea3 : m_scalar_exact ra1 = ra3) (ra4 : S) (ea4 : m_scalar_operands_arsh (⟨ra2, ra3, 64#64⟩ : OO) = ra4) (h0 : (BitVec.slt 12#64 0#64) = false) (h1 : (BitVec.slt 12#64 13#64) = true) (h2 : (12#64 == 11#64) = false) (h3 : (m_scalar_isConst ra0) = false) (h5 : (12#64 == 0#64) = false) (h6 : (12#64 == 1#64) = false) (h7 : (12#64 == 2#64) = false) (h8 : (12#64 == 3#64) = false) (h9 : (12#64 == 4#64) = false) (h10 : (12#64 == 5#64) = false) (h11 : (12#64 == 6#64) = false) (h12 : (12#64 == 7#64) = false) (h13 : (12#64 == 8#64) = false) (h14 : (12#64 == 9#64) = false) (h15 : (12#64 == 10#64) = false) : Con Tryz.prog 19 #[(.int .i64 (ii (12#64))), (.bool (true)), (sv (x2)), (sv (x3))] (sv (ra4)) :=
  fn_conI (P := Tryz.prog) Tryz.func19 (fun xs w => by kernel_rfl) _ _
    [.o, .o, .o, .cl ok_scalar_doings  rfl, .o, .a 3, .o, .o, .o, .o, .o, .o, .r [0, 1, 2, 3] [] [4, 5], .a 0, .cr sv (ok_scalar_known (x2)) ea0, .a 1, .cr sv (ok_scalar_known (x3)) ea1, .a 0, .a 1, .o, .o, .o, .o, .o, .o, .o, .o, .a 0, .cb (ok_scalar_isConst (ra0)) h3, .o, .o, .o, .o, .o, .r [0, 1, 2, 3, 4, 5, 6, 7, 8] [] [9], .o, .o, .a 3, .a 0, .cr sv (ok_scalar_exact (ra0)) ea2, .a 1, .cr sv (ok_scalar_exact (ra1)) ea3, .o, .cr sv (ok_scalar_operands_arsh ((⟨ra2, ra3, 64#64⟩ : OO)) rfl) ea4, .a 2]
    [2, 2, 2, 2, 2, 2] (fun b => by kernel_rfl)
theorem p42_scalar_Do (x2 : S) (x3 : S) (ra0 : S) (ea0 : m_scalar_known x2 = ra0) (ra1 : S) (ea1 : m_scalar_known x3 = ra1) (ra2 : S) (ea2 : m_scalar_low ra0 = ra2) (ra3 : S) (ea3 : m_scalar_exact ra2 = ra3) (ra4 : S) (ea4 : m_scalar_low ra1 = ra4) (ra5 : S) (ea5 : m_scalar_exact ra4 = ra5) (ra6 : S) (ea6 : m_scalar_operands_add (⟨ra3, ra5, 32#64⟩ : OO) = ra6) (ra7 : S) (ea7 : m_scalar_low ra6 = ra7) (h0 : (BitVec.slt 0#64 0#64) = false) (h1 : (BitVec.slt 0#64 13#64) = true) (h2 : (0#64 == 11#64) = false) (h3 : (m_scalar_isConst ra0) = false) : Con Tryz.prog 19 #[(.int .i64 (ii (0#64))), (.bool (false)), (sv (x2)), (sv (x3))] (sv (ra7)) :=
  fn_conI (P := Tryz.prog) Tryz.func19 (fun xs w => by kernel_rfl) _ _
    [.o, .o, .o, .cl ok_scalar_doings  rfl, .o, .a 3, .o, .o, .o, .o, .o, .o, .r [0, 1, 2, 3] [] [4, 5], .a 0, .cr sv (ok_scalar_known (x2)) ea0, .a 1, .cr sv (ok_scalar_known (x3)) ea1, .a 0, .a 1, .o, .o, .o, .o, .o, .o, .o, .o, .a 0, .cb (ok_scalar_isConst (ra0)) h3, .o, .o, .o, .o, .o, .r [0, 1, 2, 3, 4, 5, 6, 7, 8, 9, 10, 11] [] [12], .o, .o, .a 3, .a 0, .cr sv (ok_scalar_low (ra0)) ea2, .cr sv (ok_scalar_exact (ra2)) ea3, .a 1, .cr sv (ok_scalar_low (ra1)) ea4, .cr sv (ok_scalar_exact (ra4)) ea5, .o, .cr sv (ok_scalar_operands_add ((⟨ra3, ra5, 32#64⟩ : OO))) ea6, .cr sv (ok_scalar_low (ra6)) ea7, .a 2]
    [2, 2, 2, 2, 2, 2] (fun b => by kernel_rfl)
theorem p43_scalar_Do (x2 : S) (x3 : S) (ra0 : S) (ea0 : m_scalar_known x2 = ra0) (ra1 : S) (ea1 : m_scalar_known x3 = ra1) (ra2 : S) (ea2 : m_scalar_low ra0 = ra2) (ra3 : S) (ea3 : m_scalar_exact ra2 = ra3) (ra4 : S) (ea4 : m_scalar_low ra1 = ra4) (ra5 : S) (ea5 : m_scalar_exact ra4 = ra5) (ra6 : S) (ea6 : m_scalar_operands_sub (⟨ra3, ra5, 32#64⟩ : OO) = ra6) (ra7 : S) (ea7 : m_scalar_low ra6 = ra7) (h0 : (BitVec.slt 1#64 0#64) = false) (h1 : (BitVec.slt 1#64 13#64) = true) (h2 : (1#64 == 11#64) = false) (h3 : (m_scalar_isConst ra0) = false) (h5 : (1#64 == 0#64) = false) : Con Tryz.prog 19 #[(.int .i64 (ii (1#64))), (.bool (false)), (sv (x2)), (sv (x3))] (sv (ra7)) :=
  fn_conI (P := Tryz.prog) Tryz.func19 (fun xs w => by kernel_rfl) _ _
    [.o, .o, .o, .cl ok_scalar_doings  rfl, .o, .a 3, .o, .o, .o, .o, .o, .o, .r [0, 1, 2, 3] [] [4, 5], .a 0, .cr sv (ok_scalar_known (x2)) ea0, .a 1, .cr sv (ok_scalar_known (x3)) ea1, .a 0, .a 1, .o, .o, .o, .o, .o, .o, .o, .o, .a 0, .cb (ok_scalar_isConst (ra0)) h3, .o, .o, .o, .o, .o, .r [0, 1, 2, 3, 4, 5, 6, 7, 8, 9, 10, 11] [] [12], .o, .o, .a 3, .a 0, .cr sv (ok_scalar_low (ra0)) ea2, .cr sv (ok_scalar_exact (ra2)) ea3, .a 1, .cr sv (ok_scalar_low (ra1)) ea4, .cr sv (ok_scalar_exact (ra4)) ea5, .o, .cr sv (ok_scalar_operands_sub ((⟨ra3, ra5, 32#64⟩ : OO))) ea6, .cr sv (ok_scalar_low (ra6)) ea7, .a 2]
    [2, 2, 2, 2, 2, 2] (fun b => by kernel_rfl)
theorem p44_scalar_Do (x2 : S) (x3 : S) (ra0 : S) (ea0 : m_scalar_known x2 = ra0) (ra1 : S) (ea1 : m_scalar_known x3 = ra1) (ra2 : S) (ea2 : m_scalar_low ra0 = ra2) (ra3 : S) (ea3 : m_scalar_exact ra2 = ra3) (ra4 : S) (ea4 : m_scalar_low ra1 = ra4) (ra5 : S) (ea5 : m_scalar_exact ra4 = ra5) (ra6 : S) (ea6 : m_scalar_operands_mul (⟨ra3, ra5, 32#64⟩ : OO) = ra6) (ra7 : S) (ea7 : m_scalar_low ra6 = ra7) (h0 : (BitVec.slt 2#64 0#64) = false) (h1 : (BitVec.slt 2#64 13#64) = true) (h2 : (2#64 == 11#64) = false) (h3 : (m_scalar_isConst ra0) = false) (h5 : (2#64 == 0#64) = false) (h6 : (2#64 == 1#64) = false) : Con Tryz.prog 19 #[(.int .i64 (ii (2#64))), (.bool (false)), (sv (x2)), (sv (x3))] (sv (ra7)) :=
  fn_conI (P := Tryz.prog) Tryz.func19 (fun xs w => by kernel_rfl) _ _
    [.o, .o, .o, .cl ok_scalar_doings  rfl, .o, .a 3, .o, .o, .o, .o, .o, .o, .r [0, 1, 2, 3] [] [4, 5], .a 0, .cr sv (ok_scalar_known (x2)) ea0, .a 1, .cr sv (ok_scalar_known (x3)) ea1, .a 0, .a 1, .o, .o, .o, .o, .o, .o, .o, .o, .a 0, .cb (ok_scalar_isConst (ra0)) h3, .o, .o, .o, .o, .o, .r [0, 1, 2, 3, 4, 5, 6, 7, 8, 9, 10, 11] [] [12], .o, .o, .a 3, .a 0, .cr sv (ok_scalar_low (ra0)) ea2, .cr sv (ok_scalar_exact (ra2)) ea3, .a 1, .cr sv (ok_scalar_low (ra1)) ea4, .cr sv (ok_scalar_exact (ra4)) ea5, .o, .cr sv (ok_scalar_operands_mul ((⟨ra3, ra5, 32#64⟩ : OO))) ea6, .cr sv (ok_scalar_low (ra6)) ea7, .a 2]
    [2, 2, 2, 2, 2, 2] (fun b => by kernel_rfl)
theorem p45_scalar_Do (x2 : S) (x3 : S) (ra0 : S) (ea0 : m_scalar_known x2 = ra0) (ra1 : S) (ea1 : m_scalar_known x3 = ra1) (ra2 : S) (ea2 : m_scalar_low ra0 = ra2) (ra3 : S) (ea3 : m_scalar_exact ra2 = ra3) (ra4 : S) (ea4 : m_scalar_low ra1 = ra4) (ra5 : S) (ea5 : m_scalar_exact ra4 = ra5) (ra6 : S) (ea6 : m_scalar_operands_div (⟨ra3, ra5, 32#64⟩ : OO) = ra6) (ra7 : S) (ea7 : m_scalar_low ra6 = ra7) (h0 : (BitVec.slt 3#64 0#64) = false) (h1 : (BitVec.slt 3#64 13#64) = true) (h2 : (3#64 == 11#64) = false) (h3 : (m_scalar_isConst ra0) = false) (h5 : (3#64 == 0#64) = false) (h6 : (3#64 == 1#64) = false) (h7 : (3#64 == 2#64) = false) : Con Tryz.prog 19 #[(.int .i64 (ii (3#64))), (.bool (false)), (sv (x2)), (sv (x3))] (sv (ra7)) :=
  fn_conI (P := Tryz.prog) Tryz.func19 (fun xs w => by kernel_rfl) _ _
    [.o, .o, .o, .cl ok_scalar_doings  rfl, .o, .a 3, .o, .o, .o, .o, .o, .o, .r [0, 1, 2, 3] [] [4, 5], .a 0, .cr sv (ok_scalar_known (x2)) ea0, .a 1, .cr sv (ok_scalar_known (x3)) ea1, .a 0, .a 1, .o, .o, .o, .o, .o, .o, .o, .o, .a 0, .cb (ok_scalar_isConst (ra0)) h3, .o, .o, .o, .o, .o, .r [0, 1, 2, 3, 4, 5, 6, 7, 8, 9, 10, 11] [] [12], .o, .o, .a 3, .a 0, .cr sv (ok_scalar_low (ra0)) ea2, .cr sv (ok_scalar_exact (ra2)) ea3, .a 1, .cr sv (ok_scalar_low (ra1)) ea4, .cr sv (ok_scalar_exact (ra4)) ea5, .o, .cr sv (ok_scalar_operands_div ((⟨ra3, ra5, 32#64⟩ : OO)) (ea5 ▸ exact_le _)) ea6, .cr sv (ok_scalar_low (ra6)) ea7, .a 2]
    [2, 2, 2, 2, 2, 2] (fun b => by kernel_rfl)
theorem p46_scalar_Do (x2 : S) (x3 : S) (ra0 : S) (ea0 : m_scalar_known x2 = ra0) (ra1 : S) (ea1 : m_scalar_known x3 = ra1) (ra2 : S) (ea2 : m_scalar_low ra0 = ra2) (ra3 : S) (ea3 : m_scalar_exact ra2 = ra3) (ra4 : S) (ea4 : m_scalar_low ra1 = ra4) (ra5 : S) (ea5 : m_scalar_exact ra4 = ra5) (ra6 : S) (ea6 : m_scalar_operands_or (⟨ra3, ra5, 32#64⟩ : OO) = ra6) (ra7 : S) (ea7 : m_scalar_low ra6 = ra7) (h0 : (BitVec.slt 4#64 0#64) = false) (h1 : (BitVec.slt 4#64 13#64) = true) (h2 : (4#64 == 11#64) = false) (h3 : (m_scalar_isConst ra0) = false) (h5 : (4#64 == 0#64) = false) (h6 : (4#64 == 1#64) = false) (h7 : (4#64 == 2#64) = false) (h8 : (4#64 == 3#64) = false) : Con Tryz.prog 19 #[(.int .i64 (ii (4#64))), (.bool (false)), (sv (x2)), (sv (x3))] (sv (ra7)) :=
  fn_conI (P := Tryz.prog) Tryz.func19 (fun xs w => by kernel_rfl) _ _
    [.o, .o, .o, .cl ok_scalar_doings  rfl, .o, .a 3, .o, .o, .o, .o, .o, .o, .r [0, 1, 2, 3] [] [4, 5], .a 0, .cr sv (ok_scalar_known (x2)) ea0, .a 1, .cr sv (ok_scalar_known (x3)) ea1, .a 0, .a 1, .o, .o, .o, .o, .o, .o, .o, .o, .a 0, .cb (ok_scalar_isConst (ra0)) h3, .o, .o, .o, .o, .o, .r [0, 1, 2, 3, 4, 5, 6, 7, 8, 9, 10, 11] [] [12], .o, .o, .a 3, .a 0, .cr sv (ok_scalar_low (ra0)) ea2, .cr sv (ok_scalar_exact (ra2)) ea3, .a 1, .cr sv (ok_scalar_low (ra1)) ea4, .cr sv (ok_scalar_exact (ra4)) ea5, .o, .cr sv (ok_scalar_operands_or ((⟨ra3, ra5, 32#64⟩ : OO))) ea6, .cr sv (ok_scalar_low (ra6)) ea7, .a 2]
    [2, 2, 2, 2, 2, 2] (fun b => by kernel_rfl)
theorem p47_scalar_Do (x2 : S) (x3 : S) (ra0 : S) (ea0 : m_scalar_known x2 = ra0) (ra1 : S) (ea1 : m_scalar_known x3 = ra1) (ra2 : S) (ea2 : m_scalar_low ra0 = ra2) (ra3 : S) (ea3 : m_scalar_exact ra2 = ra3) (ra4 : S) (ea4 : m_scalar_low ra1 = ra4) (ra5 : S) (ea5 : m_scalar_exact ra4 = ra5) (ra6 : S) (ea6 : m_scalar_operands_and (⟨ra3, ra5, 32#64⟩ : OO) = ra6) (ra7 : S) (ea7 : m_scalar_low ra6 = ra7) (h0 : (BitVec.slt 5#64 0#64) = false) (h1 : (BitVec.slt 5#64 13#64) = true) (h2 : (5#64 == 11#64) = false) (h3 : (m_scalar_isConst ra0) = false) (h5 : (5#64 == 0#64) = false) (h6 : (5#64 == 1#64) = false) (h7 : (5#64 == 2#64) = false) (h8 : (5#64 == 3#64) = false) (h9 : (5#64 == 4#64) = false) : Con Tryz.prog 19 #[(.int .i64 (ii (5#64))), (.bool (false)), (sv (x2)), (sv (x3))] (sv (ra7)) :=
  fn_conI (P := Tryz.prog) Tryz.func19 (fun xs w => by kernel_rfl) _ _
    [.o, .o, .o, .cl ok_scalar_doings  rfl, .o, .a 3, .o, .o, .o, .o, .o, .o, .r [0, 1, 2, 3] [] [4, 5], .a 0, .cr sv (ok_scalar_known (x2)) ea0, .a 1, .cr sv (ok_scalar_known (x3)) ea1, .a 0, .a 1, .o, .o, .o, .o, .o, .o, .o, .o, .a 0, .cb (ok_scalar_isConst (ra0)) h3, .o, .o, .o, .o, .o, .r [0, 1, 2, 3, 4, 5, 6, 7, 8, 9, 10, 11] [] [12], .o, .o, .a 3, .a 0, .cr sv (ok_scalar_low (ra0)) ea2, .cr sv (ok_scalar_exact (ra2)) ea3, .a 1, .cr sv (ok_scalar_low (ra1)) ea4, .cr sv (ok_scalar_exact (ra4)) ea5, .o, .cr sv (ok_scalar_operands_and ((⟨ra3, ra5, 32#64⟩ : OO))) ea6, .cr sv (ok_scalar_low (ra6)) ea7, .a 2]
    [2, 2, 2, 2, 2, 2] (fun b => by kernel_rfl)
theorem p48_scalar_Do (x2 : S) (x3 : S) (ra0 : S) (ea0 : m_scalar_known x2 = ra0) (ra1 : S) (ea1 : m_scalar_known x3 = ra1) (ra2 : S) (ea2 : m_scalar_low ra0 = ra2) (ra3 : S) (ea3 : m_scalar_exact ra2 = ra3) (ra4 : S) (ea4 : m_scalar_low ra1 = ra4) (ra5 : S) (ea5 : m_scalar_exact ra4 = ra5) (ra6 : S) (ea6 : m_scalar_operands_lsh (⟨ra3, ra5, 32#64⟩ : OO) = ra6) (ra7 : S) (ea7 : m_scalar_low ra6 = ra7) (h0 : (BitVec.slt 6#64 0#64) = false) (h1 : (BitVec.slt 6#64 13#64) = true) (h2 : (6#64 == 11#64) = false) (h3 : (m_scalar_isConst ra0) = false) (h5 : (6#64 == 0#64) = false) (h6 : (6#64 == 1#64) = false) (h7 : (6#64 == 2#64) = false) (h8 : (6#64 == 3#64) = false) (h9 : (6#64 == 4#64) = false) (h10 : (6#64 == 5#64) = false) : Con Tryz.prog 19 #[(.int .i64 (ii (6#64))), (.bool (false)), (sv (x2)), (sv (x3))] (sv (ra7)) :=
  fn_conI (P := Tryz.prog) Tryz.func19 (fun xs w => by kernel_rfl) _ _
    [.o, .o, .o, .cl ok_scalar_doings  rfl, .o, .a 3, .o, .o, .o, .o, .o, .o, .r [0, 1, 2, 3] [] [4, 5], .a 0, .cr sv (ok_scalar_known (x2)) ea0, .a 1, .cr sv (ok_scalar_known (x3)) ea1, .a 0, .a 1, .o, .o, .o, .o, .o, .o, .o, .o, .a 0, .cb (ok_scalar_isConst (ra0)) h3, .o, .o, .o, .o, .o, .r [0, 1, 2, 3, 4, 5, 6, 7, 8, 9, 10, 11] [] [12], .o, .o, .a 3, .a 0, .cr sv (ok_scalar_low (ra0)) ea2, .cr sv (ok_scalar_exact (ra2)) ea3, .a 1, .cr sv (ok_scalar_low (ra1)) ea4, .cr sv (ok_scalar_exact (ra4)) ea5, .o, .cr sv (ok_scalar_operands_lsh ((⟨ra3, ra5, 32#64⟩ : OO)) rfl) ea6, .cr sv (ok_scalar_low (ra6)) ea7, .a 2]
    [2, 2, 2, 2, 2, 2] (fun b => by kernel_rfl)
theorem p49_scalar_Do (x2 : S) (x3 : S) (ra0 : S) (ea0 : m_scalar_known x2 = ra0) (ra1 : S) (ea1 : m_scalar_known x3 = ra1) (ra2 : S) (ea2 : m_scalar_low ra0 = ra2) (ra3 : S) (ea3 : m_scalar_exact ra2 = ra3) (ra4 : S) (ea4 : m_scalar_low ra1 = ra4) (ra5 : S) (ea5 : m_scalar_exact ra4 = ra5) (ra6 : S) (ea6 : m_scalar_operands_rsh (⟨ra3, ra5, 32#64⟩ : OO) = ra6) (ra7 : S) (ea7 : m_scalar_low ra6 = ra7) (h0 : (BitVec.slt 7#64 0#64) = false) (h1 : (BitVec.slt 7#64 13#64) = true) (h2 : (7#64 == 11#64) = false) (h3 : (m_scalar_isConst ra0) = false) (h5 : (7#64 == 0#64) = false) (h6 : (7#64 == 1#64) = false) (h7 : (7#64 == 2#64) = false) (h8 : (7#64 == 3#64) = false) (h9 : (7#64 == 4#64) = false) (h10 : (7#64 == 5#64) = false) (h11 : (7#64 == 6#64) = false) : Con Tryz.prog 19 #[(.int .i64 (ii (7#64))), (.bool (false)), (sv (x2)), (sv (x3))] (sv (ra7)) :=
  fn_conI (P := Tryz.prog) Tryz.func19 (fun xs w => by kernel_rfl) _ _
    [.o, .o, .o, .cl ok_scalar_doings  rfl, .o, .a 3, .o, .o, .o, .o, .o, .o, .r [0, 1, 2, 3] [] [4, 5], .a 0, .cr sv (ok_scalar_known (x2)) ea0, .a 1, .cr sv (ok_scalar_known (x3)) ea1, .a 0, .a 1, .o, .o, .o, .o, .o, .o, .o, .o, .a 0, .cb (ok_scalar_isConst (ra0)) h3, .o, .o, .o, .o, .o, .r [0, 1, 2, 3, 4, 5, 6, 7, 8, 9, 10, 11] [] [12], .o, .o, .a 3, .a 0, .cr sv (ok_scalar_low (ra0)) ea2, .cr sv (ok_scalar_exact (ra2)) ea3, .a 1, .cr sv (ok_scalar_low (ra1)) ea4, .cr sv (ok_scalar_exact (ra4)) ea5, .o, .cr sv (ok_scalar_operands_rsh ((⟨ra3, ra5, 32#64⟩ : OO)) rfl) ea6, .cr sv (ok_scalar_low (ra6)) ea7, .a 2]
    [2, 2, 2, 2, 2, 2] (fun b => by kernel_rfl)
theorem p50_scalar_Do (x2 : S) (x3 : S) (ra0 : S) (ea0 : m_scalar_known x2 = ra0) (ra1 : S) (ea1 : m_scalar_known x3 = ra1) (ra2 : S) (ea2 : m_scalar_low ra0 = ra2) (ra3 : S) (ea3 : m_scalar_exact ra2 = ra3) (ra4 : S) (ea4 : m_scalar_low ra1 = ra4) (ra5 : S) (ea5 : m_scalar_exact ra4 = ra5) (ra6 : S) (ea6 : m_scalar_operands_neg (⟨ra3, ra5, 32#64⟩ : OO) = ra6) (ra7 : S) (ea7 : m_scalar_low ra6 = ra7) (h0 : (BitVec.slt 8#64 0#64) = false) (h1 : (BitVec.slt 8#64 13#64) = true) (h2 : (8#64 == 11#64) = false) (h3 : (m_scalar_isConst ra0) = false) (h5 : (8#64 == 0#64) = false) (h6 : (8#64 == 1#64) = false) (h7 : (8#64 == 2#64) = false) (h8 : (8#64 == 3#64) = false) (h9 : (8#64 == 4#64) = false) (h10 : (8#64 == 5#64) = false) (h11 : (8#64 == 6#64) = false) (h12 : (8#64 == 7#64) = false) : Con Tryz.prog 19 #[(.int .i64 (ii (8#64))), (.bool (false)), (sv (x2)), (sv (x3))] (sv (ra7)) :=
  fn_conI (P := Tryz.prog) Tryz.func19 (fun xs w => by kernel_rfl) _ _
    [.o, .o, .o, .cl ok_scalar_doings  rfl, .o, .a 3, .o, .o, .o, .o, .o, .o, .r [0, 1, 2, 3] [] [4, 5], .a 0, .cr sv (ok_scalar_known (x2)) ea0, .a 1, .cr sv (ok_scalar_known (x3)) ea1, .a 0, .a 1, .o, .o, .o, .o, .o, .o, .o, .o, .a 0, .cb (ok_scalar_isConst (ra0)) h3, .o, .o, .o, .o, .o, .r [0, 1, 2, 3, 4, 5, 6, 7, 8, 9, 10, 11] [] [12], .o, .o, .a 3, .a 0, .cr sv (ok_scalar_low (ra0)) ea2, .cr sv (ok_scalar_exact (ra2)) ea3, .a 1, .cr sv (ok_scalar_low (ra1)) ea4, .cr sv (ok_scalar_exact (ra4)) ea5, .o, .cr sv (ok_scalar_operands_neg ((⟨ra3, ra5, 32#64⟩ : OO))) ea6, .cr sv (ok_scalar_low (ra6)) ea7, .a 2]
    [2, 2, 2, 2, 2, 2] (fun b => by kernel_rfl)
theorem p51_scalar_Do (x2 : S) (x3 : S) (ra0 : S) (ea0 : m_scalar_known x2 = ra0) (ra1 : S) (ea1 : m_scalar_known x3 = ra1) (ra2 : S) (ea2 : m_scalar_low ra0 = ra2) (ra3 : S) (ea3 : m_scalar_exact ra2 = ra3) (ra4 : S) (ea4 : m_scalar_low ra1 = ra4) (ra5 : S) (ea5 : m_scalar_exact ra4 = ra5) (ra6 : S) (ea6 : m_scalar_operands_mod (⟨ra3, ra5, 32#64⟩ : OO) = ra6) (ra7 : S) (ea7 : m_scalar_low ra6 = ra7) (h0 : (BitVec.slt 9#64 0#64) = false) (h1 : (BitVec.slt 9#64 13#64) = true) (h2 : (9#64 == 11#64) = false) (h3 : (m_scalar_isConst ra0) = false) (h5 : (9#64 == 0#64) = false) (h6 : (9#64 == 1#64) = false) (h7 : (9#64 == 2#64) = false) (h8 : (9#64 == 3#64) = false) (h9 : (9#64 == 4#64) = false) (h10 : (9#64 == 5#64) = false) (h11 : (9#64 == 6#64) = false) (h12 : (9#64 == 7#64) = false) (h13 : (9#64 == 8#64) = false) : Con Tryz.prog 19 #[(.int .i64 (ii (9#64))), (.bool (false)), (sv (x2)), (sv (x3))] (sv (ra7)) :=
  fn_conI (P := Tryz.prog) Tryz.func19 (fun xs w => by kernel_rfl) _ _
    [.o, .o, .o, .cl ok_scalar_doings  rfl, .o, .a 3, .o, .o, .o, .o, .o, .o, .r [0, 1, 2, 3] [] [4, 5], .a 0, .cr sv (ok_scalar_known (x2)) ea0, .a 1, .cr sv (ok_scalar_known (x3)) ea1, .a 0, .a 1, .o, .o, .o, .o, .o, .o, .o, .o, .a 0, .cb (ok_scalar_isConst (ra0)) h3, .o, .o, .o, .o, .o, .r [0, 1, 2, 3, 4, 5, 6, 7, 8, 9, 10, 11] [] [12], .o, .o, .a 3, .a 0, .cr sv (ok_scalar_low (ra0)) ea2, .cr sv (ok_scalar_exact (ra2)) ea3, .a 1, .cr sv (ok_scalar_low (ra1)) ea4, .cr sv (ok_scalar_exact (ra4)) ea5, .o, .cr sv (ok_scalar_operands_mod ((⟨ra3, ra5, 32#64⟩ : OO))) ea6, .cr sv (ok_scalar_low (ra6)) ea7, .a 2]
    [2, 2, 2, 2, 2, 2] (fun b => by kernel_rfl)
theorem p52_scalar_Do (x2 : S) (x3 : S) (ra0 : S) (ea0 : m_scalar_known x2 = ra0) (ra1 : S) (ea1 : m_scalar_known x3 = ra1) (ra2 : S) (ea2 : m_scalar_low ra0 = ra2) (ra3 : S) (ea3 : m_scalar_exact ra2 = ra3) (ra4 : S) (ea4 : m_scalar_low ra1 = ra4) (ra5 : S) (ea5 : m_scalar_exact ra4 = ra5) (ra6 : S) (ea6 : m_scalar_operands_xor (⟨ra3, ra5, 32#64⟩ : OO) = ra6) (ra7 : S) (ea7 : m_scalar_low ra6 = ra7) (h0 : (BitVec.slt 10#64 0#64) = false) (h1 : (BitVec.slt 10#64 13#64) = true) (h2 : (10#64 == 11#64) = false) (h3 : (m_scalar_isConst ra0) = false) (h5 : (10#64 == 0#64) = false) (h6 : (10#64 == 1#64) = false) (h7 : (10#64 == 2#64) = false) (h8 : (10#64 == 3#64) = false) (h9 : (10#64 == 4#64) = false) (h10 : (10#64 == 5#64) = false) (h11 : (10#64 == 6#64) = false) (h12 : (10#64 == 7#64) = false) (h13 : (10#64 == 8#64) = false) (h14 : (10#64 == 9#64) = false) : Con Tryz.prog 19 #[(.int .i64 (ii (10#64))), (.bool (false)), (sv (x2)), (sv (x3))] (sv (ra7)) :=
  fn_conI (P := Tryz.prog) Tryz.func19 (fun xs w => by kernel_rfl) _ _
    [.o, .o, .o, .cl ok_scalar_doings  rfl, .o, .a 3, .o, .o, .o, .o, .o, .o, .r [0, 1, 2, 3] [] [4, 5], .a 0, .cr sv (ok_scalar_known (x2)) ea0, .a 1, .cr sv (ok_scalar_known (x3)) ea1, .a 0, .a 1, .o, .o, .o, .o, .o, .o, .o, .o, .a 0, .cb (ok_scalar_isConst (ra0)) h3, .o, .o, .o, .o, .o, .r [0, 1, 2, 3, 4, 5, 6, 7, 8, 9, 10, 11] [] [12], .o, .o, .a 3, .a 0, .cr sv (ok_scalar_low (ra0)) ea2, .cr sv (ok_scalar_exact (ra2)) ea3, .a 1, .cr sv (ok_scalar_low (ra1)) ea4, .cr sv (ok_scalar_exact (ra4)) ea5, .o, .cr sv (ok_scalar_operands_xor ((⟨ra3, ra5, 32#64⟩ : OO))) ea6, .cr sv (ok_scalar_low (ra6)) ea7, .a 2]
    [2, 2, 2, 2, 2, 2] (fun b => by kernel_rfl)
theorem p53_scalar_Do (x2 : S) (x3 : S) (ra0 : S) (ea0 : m_scalar_known x2 = ra0) (ra1 : S) (ea1 : m_scalar_known x3 = ra1) (ra2 : S) (ea2 : m_scalar_low ra0 = ra2) (ra3 : S) (ea3 : m_scalar_exact ra2 = ra3) (ra4 : S) (ea4 : m_scalar_low ra1 = ra4) (ra5 : S) (ea5 : m_scalar_exact ra4 = ra5) (ra6 : S) (ea6 : m_scalar_operands_arsh (⟨ra3, ra5, 32#64⟩ : OO) = ra6) (ra7 : S) (ea7 : m_scalar_low ra6 = ra7) (h0 : (BitVec.slt 12#64 0#64) = false) (h1 : (BitVec.slt 12#64 13#64) = true) (h2 : (12#64 == 11#64) = false) (h3 : (m_scalar_isConst ra0) = false) (h5 : (12#64 == 0#64) = false) (h6 : (12#64 == 1#64) = false) (h7 : (12#64 == 2#64) = false) (h8 : (12#64 == 3#64) = false) (h9 : (12#64 == 4#64) = false) (h10 : (12#64 == 5#64) = false) (h11 : (12#64 == 6#64) = false) (h12 : (12#64 == 7#64) = false) (h13 : (12#64 == 8#64) = false) (h14 : (12#64 == 9#64) = false) (h15 : (12#64 == 10#64) = false) : Con Tryz.prog 19 #[(.int .i64 (ii (12#64))), (.bool (false)), (sv (x2)), (sv (x3))] (sv (ra7)) :=
  fn_conI (P := Tryz.prog) Tryz.func19 (fun xs w => by kernel_rfl) _ _
    [.o, .o, .o, .cl ok_scalar_doings  rfl, .o, .a 3, .o, .o, .o, .o, .o, .o, .r [0, 1, 2, 3] [] [4, 5], .a 0, .cr sv (ok_scalar_known (x2)) ea0, .a 1, .cr sv (ok_scalar_known (x3)) ea1, .a 0, .a 1, .o, .o, .o, .o, .o, .o, .o, .o, .a 0, .cb (ok_scalar_isConst (ra0)) h3, .o, .o, .o, .o, .o, .r [0, 1, 2, 3, 4, 5, 6, 7, 8, 9, 10, 11] [] [12], .o, .o, .a 3, .a 0, .cr sv (ok_scalar_low (ra0)) ea2, .cr sv (ok_scalar_exact (ra2)) ea3, .a 1, .cr sv (ok_scalar_low (ra1)) ea4, .cr sv (ok_scalar_exact (ra4)) ea5, .o, .cr sv (ok_scalar_operands_arsh ((⟨ra3, ra5, 32#64⟩ : OO)) rfl) ea6, .cr sv (ok_scalar_low (ra6)) ea7, .a 2]
    [2, 2, 2, 2, 2, 2] (fun b => by kernel_rfl)
theorem p55_scalar_Do (x0 : BitVec 64) (x1 : Bool) (x2 : S) (x3 : S) (ra0 : S) (ea0 : m_scalar_Unknown  = ra0) (h0 : (BitVec.slt x0 0#64) = false) (h1 : (BitVec.slt x0 13#64) = false) : Con Tryz.prog 19 #[(.int .i64 (ii (x0))), (.bool (x1)), (sv (x2)), (sv (x3))] (sv (ra0)) :=
  fn_conI (P := Tryz.prog) Tryz.func19 (fun xs w => by kernel_rfl) _ _
    [.o, .o, .o, .cl ok_scalar_doings  rfl, .o, .a 3, .o, .t (i_lt x0 0#64) h0, .o, .o, .tn (i_ge x0 13#64) h1, .o, .cr sv (ok_scalar_Unknown ) ea0, .a 2]
    [2, 2, 2, 2, 2, 2] (fun b => by kernel_rfl)
theorem ok_scalar_Do (x0 : BitVec 64) (x1 : Bool) (x2 : S) (x3 : S) : Con Tryz.prog 19 #[(.int .i64 (ii (x0))), (.bool (x1)), (sv (x2)), (sv (x3))] (sv (m_scalar_Do x0 x1 x2 x3)) := by
  unfold m_scalar_Do
  refine Con.cond sv _ _ _ (fun h0 => ?_) (fun h0 => ?_)
  · exact p0_scalar_Do x0 x1 x2 x3 _ rfl h0
  · refine Con.cond sv _ _ _ (fun h1 => ?_) (fun h1 => ?_)
    · refine Con.cond sv _ _ _ (fun h2 => ?_) (fun h2 => ?_)
      · have e2 := eq_of_beq h2; subst e2
        refine Con.cond sv _ _ _ (fun h3 => ?_) (fun h3 => ?_)
        · subst h3
          exact p1_scalar_Do x2 x3 _ rfl _ rfl h0 h1
        · subst h3
          exact p2_scalar_Do x2 x3 _ rfl _ rfl _ rfl h0 h1
      · refine Con.cond sv _ _ _ (fun h3 => ?_) (fun h3 => ?_)
        · refine Con.cond sv _ _ _ (fun h4 => ?_) (fun h4 => ?_)
          · exact p3_scalar_Do x0 x1 x2 x3 _ rfl _ rfl _ rfl _ rfl h0 h1 h2 h3 h4
          · refine Con.cond sv _ _ _ (fun h5 => ?_) (fun h5 => ?_)
            · have e5 := eq_of_beq h5; subst e5
              exact p4_scalar_Do x1 x2 x3 _ rfl _ rfl _ rfl _ rfl h0 h1 h2 h3 h4
            · refine Con.cond sv _ _ _ (fun h6 => ?_) (fun h6 => ?_)
              · subst h6
                refine Con.cond sv _ _ _ (fun h7 => ?_) (fun h7 => ?_)
                · have e7 := eq_of_beq h7; subst e7
                  exact p5_scalar_Do x2 x3 _ rfl _ rfl _ rfl _ rfl _ rfl h0 h1 h2 h3 h4 h5
                · refine Con.cond sv _ _ _ (fun h8 => ?_) (fun h8 => ?_)
                  · have e8 := eq_of_beq h8; subst e8
                    exact p6_scalar_Do x2 x3 _ rfl _ rfl _ rfl _ rfl _ rfl h0 h1 h2 h3 h4 h5 h7
                  · refine Con.cond sv _ _ _ (fun h9 => ?_) (fun h9 => ?_)
                    · have e9 := eq_of_beq h9; subst e9
                      exact p7_scalar_Do x2 x3 _ rfl _ rfl _ rfl _ rfl _ rfl h0 h1 h2 h3 h4 h5 h7 h8
                    · refine Con.cond sv _ _ _ (fun h10 => ?_) (fun h10 => ?_)
                      · have e10 := eq_of_beq h10; subst e10
                        exact p8_scalar_Do x2 x3 _ rfl _ rfl _ rfl _ rfl _ rfl h0 h1 h2 h3 h4 h5 h7 h8 h9
                      · refine Con.cond sv _ _ _ (fun h11 => ?_) (fun h11 => ?_)
                        · have e11 := eq_of_beq h11; subst e11
                          exact p9_scalar_Do x2 x3 _ rfl _ rfl _ rfl _ rfl _ rfl h0 h1 h2 h3 h4 h5 h7 h8 h9 h10
                        · refine Con.cond sv _ _ _ (fun h12 => ?_) (fun h12 => ?_)
                          · have e12 := eq_of_beq h12; subst e12
                            exact p10_scalar_Do x2 x3 _ rfl _ rfl _ rfl _ rfl _ rfl h0 h1 h2 h3 h4 h5 h7 h8 h9 h10 h11
                          · refine Con.cond sv _ _ _ (fun h13 => ?_) (fun h13 => ?_)
                            · have e13 := eq_of_beq h13; subst e13
                              exact p11_scalar_Do x2 x3 _ rfl _ rfl _ rfl _ rfl _ rfl h0 h1 h2 h3 h4 h5 h7 h8 h9 h10 h11 h12
                            · refine Con.cond sv _ _ _ (fun h14 => ?_) (fun h14 => ?_)
                              · have e14 := eq_of_beq h14; subst e14
                                exact p12_scalar_Do x2 x3 _ rfl _ rfl _ rfl _ rfl _ rfl h0 h1 h2 h3 h4 h5 h7 h8 h9 h10 h11 h12 h13
                              · refine Con.cond sv _ _ _ (fun h15 => ?_) (fun h15 => ?_)
                                · have e15 := eq_of_beq h15; subst e15
                                  exact p13_scalar_Do x2 x3 _ rfl _ rfl _ rfl _ rfl _ rfl h0 h1 h2 h3 h4 h5 h7 h8 h9 h10 h11 h12 h13 h14
                                · refine Con.cond sv _ _ _ (fun h16 => ?_) (fun h16 => ?_)
                                  · have e16 := eq_of_beq h16; subst e16
                                    exact p14_scalar_Do x2 x3 _ rfl _ rfl _ rfl _ rfl _ rfl h0 h1 h2 h3 h4 h5 h7 h8 h9 h10 h11 h12 h13 h14 h15
                                  · refine Con.cond sv _ _ _ (fun h17 => ?_) (fun h17 => ?_)
                                    · have e17 := eq_of_beq h17; subst e17
                                      exact p15_scalar_Do x2 x3 _ rfl _ rfl _ rfl _ rfl _ rfl h0 h1 h2 h3 h4 h5 h7 h8 h9 h10 h11 h12 h13 h14 h15 h16
                                    · exact (out_of 13 (by decide) x0 h0 h1 (fun k hk => match k, hk with | 0, _ => h7 | 1, _ => h8 | 2, _ => h9 | 3, _ => h10 | 4, _ => h11 | 5, _ => h12 | 6, _ => h13 | 7, _ => h14 | 8, _ => h5 | 9, _ => h15 | 10, _ => h16 | 11, _ => h2 | 12, _ => h17 | k + 13, hk => absurd hk (by omega))).elim
              · subst h6
                refine Con.cond sv _ _ _ (fun h7 => ?_) (fun h7 => ?_)
                · have e7 := eq_of_beq h7; subst e7
                  exact p17_scalar_Do x2 x3 _ rfl _ rfl _ rfl _ rfl _ rfl _ rfl _ rfl _ rfl h0 h1 h2 h3 h4 h5
                · refine Con.cond sv _ _ _ (fun h8 => ?_) (fun h8 => ?_)
                  · have e8 := eq_of_beq h8; subst e8
                    exact p18_scalar_Do x2 x3 _ rfl _ rfl _ rfl _ rfl _ rfl _ rfl _ rfl _ rfl h0 h1 h2 h3 h4 h5 h7
                  · refine Con.cond sv _ _ _ (fun h9 => ?_) (fun h9 => ?_)
                    · have e9 := eq_of_beq h9; subst e9
                      exact p19_scalar_Do x2 x3 _ rfl _ rfl _ rfl _ rfl _ rfl _ rfl _ rfl _ rfl h0 h1 h2 h3 h4 h5 h7 h8
                    · refine Con.cond sv _ _ _ (fun h10 => ?_) (fun h10 => ?_)
                      · have e10 := eq_of_beq h10; subst e10
                        exact p20_scalar_Do x2 x3 _ rfl _ rfl _ rfl _ rfl _ rfl _ rfl _ rfl _ rfl h0 h1 h2 h3 h4 h5 h7 h8 h9
                      · refine Con.cond sv _ _ _ (fun h11 => ?_) (fun h11 => ?_)
                        · have e11 := eq_of_beq h11; subst e11
                          exact p21_scalar_Do x2 x3 _ rfl _ rfl _ rfl _ rfl _ rfl _ rfl _ rfl _ rfl h0 h1 h2 h3 h4 h5 h7 h8 h9 h10
                        · refine Con.cond sv _ _ _ (fun h12 => ?_) (fun h12 => ?_)
                          · have e12 := eq_of_beq h12; subst e12
                            exact p22_scalar_Do x2 x3 _ rfl _ rfl _ rfl _ rfl _ rfl _ rfl _ rfl _ rfl h0 h1 h2 h3 h4 h5 h7 h8 h9 h10 h11
                          · refine Con.cond sv _ _ _ (fun h13 => ?_) (fun h13 => ?_)
                            · have e13 := eq_of_beq h13; subst e13
                              exact p23_scalar_Do x2 x3 _ rfl _ rfl _ rfl _ rfl _ rfl _ rfl _ rfl _ rfl h0 h1 h2 h3 h4 h5 h7 h8 h9 h10 h11 h12
                            · refine Con.cond sv _ _ _ (fun h14 => ?_) (fun h14 => ?_)
                              · have e14 := eq_of_beq h14; subst e14
                                exact p24_scalar_Do x2 x3 _ rfl _ rfl _ rfl _ rfl _ rfl _ rfl _ rfl _ rfl h0 h1 h2 h3 h4 h5 h7 h8 h9 h10 h11 h12 h13
                              · refine Con.cond sv _ _ _ (fun h15 => ?_) (fun h15 => ?_)
                                · have e15 := eq_of_beq h15; subst e15
                                  exact p25_scalar_Do x2 x3 _ rfl _ rfl _ rfl _ rfl _ rfl _ rfl _ rfl _ rfl h0 h1 h2 h3 h4 h5 h7 h8 h9 h10 h11 h12 h13 h14
                                · refine Con.cond sv _ _ _ (fun h16 => ?_) (fun h16 => ?_)
                                  · have e16 := eq_of_beq h16; subst e16
                                    exact p26_scalar_Do x2 x3 _ rfl _ rfl _ rfl _ rfl _ rfl _ rfl _ rfl _ rfl h0 h1 h2 h3 h4 h5 h7 h8 h9 h10 h11 h12 h13 h14 h15
                                  · refine Con.cond sv _ _ _ (fun h17 => ?_) (fun h17 => ?_)
                                    · have e17 := eq_of_beq h17; subst e17
                                      exact p27_scalar_Do x2 x3 _ rfl _ rfl _ rfl _ rfl _ rfl _ rfl _ rfl _ rfl h0 h1 h2 h3 h4 h5 h7 h8 h9 h10 h11 h12 h13 h14 h15 h16
                                    · exact (out_of 13 (by decide) x0 h0 h1 (fun k hk => match k, hk with | 0, _ => h7 | 1, _ => h8 | 2, _ => h9 | 3, _ => h10 | 4, _ => h11 | 5, _ => h12 | 6, _ => h13 | 7, _ => h14 | 8, _ => h5 | 9, _ => h15 | 10, _ => h16 | 11, _ => h2 | 12, _ => h17 | k + 13, hk => absurd hk (by omega))).elim
        · refine Con.cond sv _ _ _ (fun h4 => ?_) (fun h4 => ?_)
          · subst h4
            refine Con.cond sv _ _ _ (fun h5 => ?_) (fun h5 => ?_)
            · have e5 := eq_of_beq h5; subst e5
              exact p29_scalar_Do x2 x3 _ rfl _ rfl _ rfl _ rfl _ rfl h0 h1 h2 h3
            · refine Con.cond sv _ _ _ (fun h6 => ?_) (fun h6 => ?_)
              · have e6 := eq_of_beq h6; subst e6
                exact p30_scalar_Do x2 x3 _ rfl _ rfl _ rfl _ rfl _ rfl h0 h1 h2 h3 h5
              · refine Con.cond sv _ _ _ (fun h7 => ?_) (fun h7 => ?_)
                · have e7 := eq_of_beq h7; subst e7
                  exact p31_scalar_Do x2 x3 _ rfl _ rfl _ rfl _ rfl _ rfl h0 h1 h2 h3 h5 h6
                · refine Con.cond sv _ _ _ (fun h8 => ?_) (fun h8 => ?_)
                  · have e8 := eq_of_beq h8; subst e8
                    exact p32_scalar_Do x2 x3 _ rfl _ rfl _ rfl _ rfl _ rfl h0 h1 h2 h3 h5 h6 h7
                  · refine Con.cond sv _ _ _ (fun h9 => ?_) (fun h9 => ?_)
                    · have e9 := eq_of_beq h9; subst e9
                      exact p33_scalar_Do x2 x3 _ rfl _ rfl _ rfl _ rfl _ rfl h0 h1 h2 h3 h5 h6 h7 h8
                    · refine Con.cond sv _ _ _ (fun h10 => ?_) (fun h10 => ?_)
                      · have e10 := eq_of_beq h10; subst e10
                        exact p34_scalar_Do x2 x3 _ rfl _ rfl _ rfl _ rfl _ rfl h0 h1 h2 h3 h5 h6 h7 h8 h9
                      · refine Con.cond sv _ _ _ (fun h11 => ?_) (fun h11 => ?_)
                        · have e11 := eq_of_beq h11; subst e11
                          exact p35_scalar_Do x2 x3 _ rfl _ rfl _ rfl _ rfl _ rfl h0 h1 h2 h3 h5 h6 h7 h8 h9 h10
                        · refine Con.cond sv _ _ _ (fun h12 => ?_) (fun h12 => ?_)
                          · have e12 := eq_of_beq h12; subst e12
                            exact p36_scalar_Do x2 x3 _ rfl _ rfl _ rfl _ rfl _ rfl h0 h1 h2 h3 h5 h6 h7 h8 h9 h10 h11
                          · refine Con.cond sv _ _ _ (fun h13 => ?_) (fun h13 => ?_)
                            · have e13 := eq_of_beq h13; subst e13
                              exact p37_scalar_Do x2 x3 _ rfl _ rfl _ rfl _ rfl _ rfl h0 h1 h2 h3 h5 h6 h7 h8 h9 h10 h11 h12
                            · refine Con.cond sv _ _ _ (fun h14 => ?_) (fun h14 => ?_)
                              · have e14 := eq_of_beq h14; subst e14
                                exact p38_scalar_Do x2 x3 _ rfl _ rfl _ rfl _ rfl _ rfl h0 h1 h2 h3 h5 h6 h7 h8 h9 h10 h11 h12 h13
                              · refine Con.cond sv _ _ _ (fun h15 => ?_) (fun h15 => ?_)
                                · have e15 := eq_of_beq h15; subst e15
                                  exact p39_scalar_Do x2 x3 _ rfl _ rfl _ rfl _ rfl _ rfl h0 h1 h2 h3 h5 h6 h7 h8 h9 h10 h11 h12 h13 h14
                                · refine Con.cond sv _ _ _ (fun h16 => ?_) (fun h16 => ?_)
                                  · have e16 := eq_of_beq h16; subst e16
                                    exact p40_scalar_Do x2 x3 _ rfl _ rfl _ rfl _ rfl _ rfl h0 h1 h2 h3 h5 h6 h7 h8 h9 h10 h11 h12 h13 h14 h15
                                  · exact (out_of 13 (by decide) x0 h0 h1 (fun k hk => match k, hk with | 0, _ => h5 | 1, _ => h6 | 2, _ => h7 | 3, _ => h8 | 4, _ => h9 | 5, _ => h10 | 6, _ => h11 | 7, _ => h12 | 8, _ => h13 | 9, _ => h14 | 10, _ => h15 | 11, _ => h2 | 12, _ => h16 | k + 13, hk => absurd hk (by omega))).elim
          · subst h4
            refine Con.cond sv _ _ _ (fun h5 => ?_) (fun h5 => ?_)
            · have e5 := eq_of_beq h5; subst e5
              exact p42_scalar_Do x2 x3 _ rfl _ rfl _ rfl _ rfl _ rfl _ rfl _ rfl _ rfl h0 h1 h2 h3
            · refine Con.cond sv _ _ _ (fun h6 => ?_) (fun h6 => ?_)
              · have e6 := eq_of_beq h6; subst e6
                exact p43_scalar_Do x2 x3 _ rfl _ rfl _ rfl _ rfl _ rfl _ rfl _ rfl _ rfl h0 h1 h2 h3 h5
              · refine Con.cond sv _ _ _ (fun h7 => ?_) (fun h7 => ?_)
                · have e7 := eq_of_beq h7; subst e7
                  exact p44_scalar_Do x2 x3 _ rfl _ rfl _ rfl _ rfl _ rfl _ rfl _ rfl _ rfl h0 h1 h2 h3 h5 h6
                · refine Con.cond sv _ _ _ (fun h8 => ?_) (fun h8 => ?_)
                  · have e8 := eq_of_beq h8; subst e8
                    exact p45_scalar_Do x2 x3 _ rfl _ rfl _ rfl _ rfl _ rfl _ rfl _ rfl _ rfl h0 h1 h2 h3 h5 h6 h7
                  · refine Con.cond sv _ _ _ (fun h9 => ?_) (fun h9 => ?_)
                    · have e9 := eq_of_beq h9; subst e9
                      exact p46_scalar_Do x2 x3 _ rfl _ rfl _ rfl _ rfl _ rfl _ rfl _ rfl _ rfl h0 h1 h2 h3 h5 h6 h7 h8
                    · refine Con.cond sv _ _ _ (fun h10 => ?_) (fun h10 => ?_)
                      · have e10 := eq_of_beq h10; subst e10
                        exact p47_scalar_Do x2 x3 _ rfl _ rfl _ rfl _ rfl _ rfl _ rfl _ rfl _ rfl h0 h1 h2 h3 h5 h6 h7 h8 h9
                      · refine Con.cond sv _ _ _ (fun h11 => ?_) (fun h11 => ?_)
                        · have e11 := eq_of_beq h11; subst e11
                          exact p48_scalar_Do x2 x3 _ rfl _ rfl _ rfl _ rfl _ rfl _ rfl _ rfl _ rfl h0 h1 h2 h3 h5 h6 h7 h8 h9 h10
                        · refine Con.cond sv _ _ _ (fun h12 => ?_) (fun h12 => ?_)
                          · have e12 := eq_of_beq h12; subst e12
                            exact p49_scalar_Do x2 x3 _ rfl _ rfl _ rfl _ rfl _ rfl _ rfl _ rfl _ rfl h0 h1 h2 h3 h5 h6 h7 h8 h9 h10 h11
                          · refine Con.cond sv _ _ _ (fun h13 => ?_) (fun h13 => ?_)
                            · have e13 := eq_of_beq h13; subst e13
                              exact p50_scalar_Do x2 x3 _ rfl _ rfl _ rfl _ rfl _ rfl _ rfl _ rfl _ rfl h0 h1 h2 h3 h5 h6 h7 h8 h9 h10 h11 h12
                            · refine Con.cond sv _ _ _ (fun h14 => ?_) (fun h14 => ?_)
                              · have e14 := eq_of_beq h14; subst e14
                                exact p51_scalar_Do x2 x3 _ rfl _ rfl _ rfl _ rfl _ rfl _ rfl _ rfl _ rfl h0 h1 h2 h3 h5 h6 h7 h8 h9 h10 h11 h12 h13
                              · refine Con.cond sv _ _ _ (fun h15 => ?_) (fun h15 => ?_)
                                · have e15 := eq_of_beq h15; subst e15
                                  exact p52_scalar_Do x2 x3 _ rfl _ rfl _ rfl _ rfl _ rfl _ rfl _ rfl _ rfl h0 h1 h2 h3 h5 h6 h7 h8 h9 h10 h11 h12 h13 h14
                                · refine Con.cond sv _ _ _ (fun h16 => ?_) (fun h16 => ?_)
                                  · have e16 := eq_of_beq h16; subst e16
                                    exact p53_scalar_Do x2 x3 _ rfl _ rfl _ rfl _ rfl _ rfl _ rfl _ rfl _ rfl h0 h1 h2 h3 h5 h6 h7 h8 h9 h10 h11 h12 h13 h14 h15
                                  · exact (out_of 13 (by decide) x0 h0 h1 (fun k hk => match k, hk with | 0, _ => h5 | 1, _ => h6 | 2, _ => h7 | 3, _ => h8 | 4, _ => h9 | 5, _ => h10 | 6, _ => h11 | 7, _ => h12 | 8, _ => h13 | 9, _ => h14 | 10, _ => h15 | 11, _ => h2 | 12, _ => h16 | k + 13, hk => absurd hk (by omega))).elim
    · exact p55_scalar_Do x0 x1 x2 x3 _ rfl h0 h1
end Go.Proofs.YtmhiiahfjoijgaaGreat
