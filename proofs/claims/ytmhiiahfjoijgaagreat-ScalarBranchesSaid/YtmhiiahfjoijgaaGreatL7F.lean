/-
  The test that all laws begin with, a scalar of some numbers.
-/
import Derived.Test.YtmhiiahfjoijgaaGreatL7D
import Derived.Test.YtmhiiahfjoijgaaGreatL7K
namespace Go.Proofs.YtmhiiahfjoijgaaGreat
open Go.RowKit
set_option linter.unusedVariables false
set_option linter.unusedSimpArgs false
set_option maxRecDepth 100000
set_option maxHeartbeats 4000000
-- barbican/barbicanlaw7.known
def m_barbicanlaw7_known  : Bool :=
  (bif (m_scalar_Branch (2#64) true false (m_scalar_Unknown ) (m_scalar_Const (9#64))).2.2 then
    (bif (m_scalar_Do (0#64) true (m_scalar_Between (0#64) (7#64)) (m_scalar_Const (8#64))).umin == 8#64 then
      (bif (m_scalar_Do (0#64) true (m_scalar_Between (0#64) (7#64)) (m_scalar_Const (8#64))).umax == 15#64 then
        (bif (m_scalar_Branch (2#64) true false (m_scalar_Unknown ) (m_scalar_Const (9#64))).1.umin == 0#64 then
          (bif (m_scalar_Branch (2#64) true false (m_scalar_Unknown ) (m_scalar_Const (9#64))).1.umax == 9#64 then
            (bif (m_scalar_Branch (2#64) true false (m_scalar_Unknown ) (m_scalar_Const (9#64))).1.smin == 0#64 then
              ((m_scalar_Branch (2#64) true false (m_scalar_Unknown ) (m_scalar_Const (9#64))).1.smax == 9#64)
              else (false))
            else (false))
          else (false))
        else (false))
      else (false))
    else (false))
theorem p0_barbicanlaw7_known  (ra0 : S) (ea0 : m_scalar_Between (0#64) (7#64) = ra0) (ra1 : S) (ea1 : m_scalar_Const (8#64) = ra1) (ra2 : S) (ea2 : m_scalar_Do (0#64) true ra0 ra1 = ra2) (ra3 : S) (ea3 : m_scalar_Unknown  = ra3) (ra4 : S) (ea4 : m_scalar_Const (9#64) = ra4) (ra5 : (S) × (S) × (Bool)) (ea5 : m_scalar_Branch (2#64) true false ra3 ra4 = ra5) (h0 : (ra5.2.2) = true) (h1 : (ra2.umin == 8#64) = true) (h2 : (ra2.umax == 15#64) = true) (h3 : (ra5.1.umin == 0#64) = true) (h4 : (ra5.1.umax == 9#64) = true) (h5 : (ra5.1.smin == 0#64) = true) : Con Tryz.prog 11 #[] (.bool (ra5.1.smax == 9#64)) :=
  fn_conI (P := Tryz.prog) Tryz.func11 (fun xs w => by kernel_rfl) _ _
    [.o, .cr sv (ok_scalar_Between (0#64) (7#64)) ea0, .cr sv (ok_scalar_Const (8#64)) ea1, .cr sv (ok_scalar_Do (0#64) (true) (ra0) (ra1)) ea2, .o, .a 0, .cr sv (ok_scalar_Unknown ) ea3, .cr sv (ok_scalar_Const (9#64)) ea4, .cr vt7 (ok_scalar_Branch (2#64) (true) (false) (ra3) (ra4)) ea5, .o, .o, .o, .b h0, .o, .o, .a 1, .a 2, .o, .o, .o, .o, .a 0, .t (u_eq ra2.umin 8#64) h1, .o, .o, .o, .a 0, .t (u_eq ra2.umax 15#64) h2, .o, .o, .o, .a 1, .t (u_eq ra5.1.umin 0#64) h3, .o, .o, .o, .a 1, .t (u_eq ra5.1.umax 9#64) h4, .o, .o, .o, .a 1, .t (i_eq ra5.1.smin 0#64) h5, .o, .o, .o, .a 1, .t (i_eq ra5.1.smax 9#64) rfl, .o, .o]
    [] (fun b => by kernel_rfl)
theorem p1_barbicanlaw7_known  (ra0 : S) (ea0 : m_scalar_Between (0#64) (7#64) = ra0) (ra1 : S) (ea1 : m_scalar_Const (8#64) = ra1) (ra2 : S) (ea2 : m_scalar_Do (0#64) true ra0 ra1 = ra2) (ra3 : S) (ea3 : m_scalar_Unknown  = ra3) (ra4 : S) (ea4 : m_scalar_Const (9#64) = ra4) (ra5 : (S) × (S) × (Bool)) (ea5 : m_scalar_Branch (2#64) true false ra3 ra4 = ra5) (h0 : (ra5.2.2) = true) (h1 : (ra2.umin == 8#64) = true) (h2 : (ra2.umax == 15#64) = true) (h3 : (ra5.1.umin == 0#64) = true) (h4 : (ra5.1.umax == 9#64) = true) (h5 : (ra5.1.smin == 0#64) = false) : Con Tryz.prog 11 #[] (.bool (false)) :=
  fn_conI (P := Tryz.prog) Tryz.func11 (fun xs w => by kernel_rfl) _ _
    [.o, .cr sv (ok_scalar_Between (0#64) (7#64)) ea0, .cr sv (ok_scalar_Const (8#64)) ea1, .cr sv (ok_scalar_Do (0#64) (true) (ra0) (ra1)) ea2, .o, .a 0, .cr sv (ok_scalar_Unknown ) ea3, .cr sv (ok_scalar_Const (9#64)) ea4, .cr vt7 (ok_scalar_Branch (2#64) (true) (false) (ra3) (ra4)) ea5, .o, .o, .o, .b h0, .o, .o, .a 1, .a 2, .o, .o, .o, .o, .a 0, .t (u_eq ra2.umin 8#64) h1, .o, .o, .o, .a 0, .t (u_eq ra2.umax 15#64) h2, .o, .o, .o, .a 1, .t (u_eq ra5.1.umin 0#64) h3, .o, .o, .o, .a 1, .t (u_eq ra5.1.umax 9#64) h4, .o, .o, .o, .a 1, .t (i_eq ra5.1.smin 0#64) h5, .o, .o, .o, .o]
    [] (fun b => by kernel_rfl)
theorem p2_barbicanlaw7_known  (ra0 : S) (ea0 : m_scalar_Between (0#64) (7#64) = ra0) (ra1 : S) (ea1 : m_scalar_Const (8#64) = ra1) (ra2 : S) (ea2 : m_scalar_Do (0#64) true ra0 ra1 = ra2) (ra3 : S) (ea3 : m_scalar_Unknown  = ra3) (ra4 : S) (ea4 : m_scalar_Const (9#64) = ra4) (ra5 : (S) × (S) × (Bool)) (ea5 : m_scalar_Branch (2#64) true false ra3 ra4 = ra5) (h0 : (ra5.2.2) = true) (h1 : (ra2.umin == 8#64) = true) (h2 : (ra2.umax == 15#64) = true) (h3 : (ra5.1.umin == 0#64) = true) (h4 : (ra5.1.umax == 9#64) = false) : Con Tryz.prog 11 #[] (.bool (false)) :=
  fn_conI (P := Tryz.prog) Tryz.func11 (fun xs w => by kernel_rfl) _ _
    [.o, .cr sv (ok_scalar_Between (0#64) (7#64)) ea0, .cr sv (ok_scalar_Const (8#64)) ea1, .cr sv (ok_scalar_Do (0#64) (true) (ra0) (ra1)) ea2, .o, .a 0, .cr sv (ok_scalar_Unknown ) ea3, .cr sv (ok_scalar_Const (9#64)) ea4, .cr vt7 (ok_scalar_Branch (2#64) (true) (false) (ra3) (ra4)) ea5, .o, .o, .o, .b h0, .o, .o, .a 1, .a 2, .o, .o, .o, .o, .a 0, .t (u_eq ra2.umin 8#64) h1, .o, .o, .o, .a 0, .t (u_eq ra2.umax 15#64) h2, .o, .o, .o, .a 1, .t (u_eq ra5.1.umin 0#64) h3, .o, .o, .o, .a 1, .t (u_eq ra5.1.umax 9#64) h4, .o, .o, .o, .o, .o, .o]
    [] (fun b => by kernel_rfl)
theorem p3_barbicanlaw7_known  (ra0 : S) (ea0 : m_scalar_Between (0#64) (7#64) = ra0) (ra1 : S) (ea1 : m_scalar_Const (8#64) = ra1) (ra2 : S) (ea2 : m_scalar_Do (0#64) true ra0 ra1 = ra2) (ra3 : S) (ea3 : m_scalar_Unknown  = ra3) (ra4 : S) (ea4 : m_scalar_Const (9#64) = ra4) (ra5 : (S) × (S) × (Bool)) (ea5 : m_scalar_Branch (2#64) true false ra3 ra4 = ra5) (h0 : (ra5.2.2) = true) (h1 : (ra2.umin == 8#64) = true) (h2 : (ra2.umax == 15#64) = true) (h3 : (ra5.1.umin == 0#64) = false) : Con Tryz.prog 11 #[] (.bool (false)) :=
  fn_conI (P := Tryz.prog) Tryz.func11 (fun xs w => by kernel_rfl) _ _
    [.o, .cr sv (ok_scalar_Between (0#64) (7#64)) ea0, .cr sv (ok_scalar_Const (8#64)) ea1, .cr sv (ok_scalar_Do (0#64) (true) (ra0) (ra1)) ea2, .o, .a 0, .cr sv (ok_scalar_Unknown ) ea3, .cr sv (ok_scalar_Const (9#64)) ea4, .cr vt7 (ok_scalar_Branch (2#64) (true) (false) (ra3) (ra4)) ea5, .o, .o, .o, .b h0, .o, .o, .a 1, .a 2, .o, .o, .o, .o, .a 0, .t (u_eq ra2.umin 8#64) h1, .o, .o, .o, .a 0, .t (u_eq ra2.umax 15#64) h2, .o, .o, .o, .a 1, .t (u_eq ra5.1.umin 0#64) h3, .o, .o, .o, .o, .o, .o, .o, .o]
    [] (fun b => by kernel_rfl)
theorem p4_barbicanlaw7_known  (ra0 : S) (ea0 : m_scalar_Between (0#64) (7#64) = ra0) (ra1 : S) (ea1 : m_scalar_Const (8#64) = ra1) (ra2 : S) (ea2 : m_scalar_Do (0#64) true ra0 ra1 = ra2) (ra3 : S) (ea3 : m_scalar_Unknown  = ra3) (ra4 : S) (ea4 : m_scalar_Const (9#64) = ra4) (ra5 : (S) × (S) × (Bool)) (ea5 : m_scalar_Branch (2#64) true false ra3 ra4 = ra5) (h0 : (ra5.2.2) = true) (h1 : (ra2.umin == 8#64) = true) (h2 : (ra2.umax == 15#64) = false) : Con Tryz.prog 11 #[] (.bool (false)) :=
  fn_conI (P := Tryz.prog) Tryz.func11 (fun xs w => by kernel_rfl) _ _
    [.o, .cr sv (ok_scalar_Between (0#64) (7#64)) ea0, .cr sv (ok_scalar_Const (8#64)) ea1, .cr sv (ok_scalar_Do (0#64) (true) (ra0) (ra1)) ea2, .o, .a 0, .cr sv (ok_scalar_Unknown ) ea3, .cr sv (ok_scalar_Const (9#64)) ea4, .cr vt7 (ok_scalar_Branch (2#64) (true) (false) (ra3) (ra4)) ea5, .o, .o, .o, .b h0, .o, .o, .a 1, .a 2, .o, .o, .o, .o, .a 0, .t (u_eq ra2.umin 8#64) h1, .o, .o, .o, .a 0, .t (u_eq ra2.umax 15#64) h2, .o, .o, .o, .o, .o, .o, .o, .o, .o, .o]
    [] (fun b => by kernel_rfl)
theorem p5_barbicanlaw7_known  (ra0 : S) (ea0 : m_scalar_Between (0#64) (7#64) = ra0) (ra1 : S) (ea1 : m_scalar_Const (8#64) = ra1) (ra2 : S) (ea2 : m_scalar_Do (0#64) true ra0 ra1 = ra2) (ra3 : S) (ea3 : m_scalar_Unknown  = ra3) (ra4 : S) (ea4 : m_scalar_Const (9#64) = ra4) (ra5 : (S) × (S) × (Bool)) (ea5 : m_scalar_Branch (2#64) true false ra3 ra4 = ra5) (h0 : (ra5.2.2) = true) (h1 : (ra2.umin == 8#64) = false) : Con Tryz.prog 11 #[] (.bool (false)) :=
  fn_conI (P := Tryz.prog) Tryz.func11 (fun xs w => by kernel_rfl) _ _
    [.o, .cr sv (ok_scalar_Between (0#64) (7#64)) ea0, .cr sv (ok_scalar_Const (8#64)) ea1, .cr sv (ok_scalar_Do (0#64) (true) (ra0) (ra1)) ea2, .o, .a 0, .cr sv (ok_scalar_Unknown ) ea3, .cr sv (ok_scalar_Const (9#64)) ea4, .cr vt7 (ok_scalar_Branch (2#64) (true) (false) (ra3) (ra4)) ea5, .o, .o, .o, .b h0, .o, .o, .a 1, .a 2, .o, .o, .o, .o, .a 0, .t (u_eq ra2.umin 8#64) h1, .o, .o, .o, .o, .o, .o, .o, .o, .o, .o, .o, .o]
    [] (fun b => by kernel_rfl)
theorem p6_barbicanlaw7_known  (ra0 : S) (ea0 : m_scalar_Between (0#64) (7#64) = ra0) (ra1 : S) (ea1 : m_scalar_Const (8#64) = ra1) (ra2 : S) (ea2 : m_scalar_Do (0#64) true ra0 ra1 = ra2) (ra3 : S) (ea3 : m_scalar_Unknown  = ra3) (ra4 : S) (ea4 : m_scalar_Const (9#64) = ra4) (ra5 : (S) × (S) × (Bool)) (ea5 : m_scalar_Branch (2#64) true false ra3 ra4 = ra5) (h0 : (ra5.2.2) = false) : Con Tryz.prog 11 #[] (.bool (false)) :=
  fn_conI (P := Tryz.prog) Tryz.func11 (fun xs w => by kernel_rfl) _ _
    [.o, .cr sv (ok_scalar_Between (0#64) (7#64)) ea0, .cr sv (ok_scalar_Const (8#64)) ea1, .cr sv (ok_scalar_Do (0#64) (true) (ra0) (ra1)) ea2, .o, .a 0, .cr sv (ok_scalar_Unknown ) ea3, .cr sv (ok_scalar_Const (9#64)) ea4, .cr vt7 (ok_scalar_Branch (2#64) (true) (false) (ra3) (ra4)) ea5, .o, .o, .o, .b h0, .o, .o, .a 1, .a 2, .o, .o, .o, .o, .o, .o, .o, .o, .o, .o, .o, .o, .o, .o, .o]
    [] (fun b => by kernel_rfl)
theorem ok_barbicanlaw7_known  : Con Tryz.prog 11 #[] (.bool (m_barbicanlaw7_known )) := by
  unfold m_barbicanlaw7_known
  refine Con.cond (fun r => (Value.bool (r))) _ _ _ (fun h0 => ?_) (fun h0 => ?_)
  · refine Con.cond (fun r => (Value.bool (r))) _ _ _ (fun h1 => ?_) (fun h1 => ?_)
    · refine Con.cond (fun r => (Value.bool (r))) _ _ _ (fun h2 => ?_) (fun h2 => ?_)
      · refine Con.cond (fun r => (Value.bool (r))) _ _ _ (fun h3 => ?_) (fun h3 => ?_)
        · refine Con.cond (fun r => (Value.bool (r))) _ _ _ (fun h4 => ?_) (fun h4 => ?_)
          · refine Con.cond (fun r => (Value.bool (r))) _ _ _ (fun h5 => ?_) (fun h5 => ?_)
            · exact p0_barbicanlaw7_known  _ rfl _ rfl _ rfl _ rfl _ rfl _ rfl h0 h1 h2 h3 h4 h5
            · exact p1_barbicanlaw7_known  _ rfl _ rfl _ rfl _ rfl _ rfl _ rfl h0 h1 h2 h3 h4 h5
          · exact p2_barbicanlaw7_known  _ rfl _ rfl _ rfl _ rfl _ rfl _ rfl h0 h1 h2 h3 h4
        · exact p3_barbicanlaw7_known  _ rfl _ rfl _ rfl _ rfl _ rfl _ rfl h0 h1 h2 h3
      · exact p4_barbicanlaw7_known  _ rfl _ rfl _ rfl _ rfl _ rfl _ rfl h0 h1 h2
    · exact p5_barbicanlaw7_known  _ rfl _ rfl _ rfl _ rfl _ rfl _ rfl h0 h1
  · exact p6_barbicanlaw7_known  _ rfl _ rfl _ rfl _ rfl _ rfl _ rfl h0
end Go.Proofs.YtmhiiahfjoijgaaGreat
