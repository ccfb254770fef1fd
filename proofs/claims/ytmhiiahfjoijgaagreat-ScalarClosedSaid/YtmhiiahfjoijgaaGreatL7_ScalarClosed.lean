/-
  The law ScalarClosed, by the program's own text.
-/
import Derived.Test.YtmhiiahfjoijgaaGreatL7D
namespace Go.Proofs.YtmhiiahfjoijgaaGreat
open Go.RowKit
set_option linter.unusedVariables false
set_option linter.unusedSimpArgs false
set_option maxRecDepth 100000
set_option maxHeartbeats 4000000
-- barbican/barbicanlaw7.ScalarClosed
def m_barbicanlaw7_ScalarClosed (x0 : BitVec 64) (x1 : BitVec 64) (x2 : BitVec 64) : Bool :=
  (bif m_barbicanlaw7_known  then
    (bif BitVec.ult x1 x0 then
      (true)
      else (bif (m_scalar_Branch (3#64) true true (m_scalar_Unknown ) (m_scalar_Const x0)).2.2 then
        (bif (m_scalar_Branch (11#64) true true (m_scalar_Branch (3#64) true true (m_scalar_Unknown ) (m_scalar_Const x0)).1 (m_scalar_Const x1)).2.2 then
          (bif (m_scalar_Branch (11#64) true true (m_scalar_Branch (3#64) true true (m_scalar_Unknown ) (m_scalar_Const x0)).1 (m_scalar_Const x1)).1.umin == x0 then
            (bif (m_scalar_Branch (11#64) true true (m_scalar_Branch (3#64) true true (m_scalar_Unknown ) (m_scalar_Const x0)).1 (m_scalar_Const x1)).1.umax == x1 then
              (bif m_scalar_Has (m_scalar_Branch (11#64) true true (m_scalar_Branch (3#64) true true (m_scalar_Unknown ) (m_scalar_Const x0)).1 (m_scalar_Const x1)).1 x2 then
                (bif BitVec.ult x2 x0 then
                  (false)
                  else (bif BitVec.ult x1 x2 then
                    (false)
                    else (true)))
                else (bif BitVec.ult x2 x0 then
                  (true)
                  else (bif BitVec.ult x1 x2 then
                    (true)
                    else (false))))
              else (false))
            else (false))
          else (false))
        else (false)))
    else (false))
theorem p0_barbicanlaw7_ScalarClosed (x0 : BitVec 64) (x1 : BitVec 64) (x2 : BitVec 64) (h0 : (m_barbicanlaw7_known ) = true) (h1 : (BitVec.ult x1 x0) = true) : Con Tryz.prog 9 #[(.int .u64 (nn (x0))), (.int .u64 (nn (x1))), (.int .u64 (nn (x2)))] (.bool (true)) :=
  fn_conI (P := Tryz.prog) Tryz.func9 (fun xs w => by kernel_rfl) _ _
    [.o, .cb (ok_barbicanlaw7_known ) h0, .o, .o, .o, .t (u_gt x0 x1) h1, .o]
    [] (fun b => by kernel_rfl)
theorem p1_barbicanlaw7_ScalarClosed (x0 : BitVec 64) (x1 : BitVec 64) (x2 : BitVec 64) (ra0 : S) (ea0 : m_scalar_Unknown  = ra0) (ra1 : S) (ea1 : m_scalar_Const x0 = ra1) (ra2 : (S) × (S) × (Bool)) (ea2 : m_scalar_Branch (3#64) true true ra0 ra1 = ra2) (ra3 : S) (ea3 : m_scalar_Const x1 = ra3) (ra4 : (S) × (S) × (Bool)) (ea4 : m_scalar_Branch (11#64) true true ra2.1 ra3 = ra4) (h0 : (m_barbicanlaw7_known ) = true) (h1 : (BitVec.ult x1 x0) = false) (h2 : (ra2.2.2) = true) (h3 : (ra4.2.2) = true) (h4 : (ra4.1.umin == x0) = true) (h5 : (ra4.1.umax == x1) = true) (h6 : (m_scalar_Has ra4.1 x2) = true) (h7 : (BitVec.ult x2 x0) = true) : Con Tryz.prog 9 #[(.int .u64 (nn (x0))), (.int .u64 (nn (x1))), (.int .u64 (nn (x2)))] (.bool (false)) :=
  fn_conI (P := Tryz.prog) Tryz.func9 (fun xs w => by kernel_rfl) _ _
    [.o, .cb (ok_barbicanlaw7_known ) h0, .o, .o, .o, .t (u_gt x0 x1) h1, .cr sv (ok_scalar_Unknown ) ea0, .o, .cr sv (ok_scalar_Const (x0)) ea1, .cr vt7 (ok_scalar_Branch (3#64) (true) (true) (ra0) (ra1)) ea2, .o, .o, .o, .b h2, .o, .o, .a 0, .a 1, .o, .o, .o, .r [0, 1, 2, 3, 4, 5, 6, 7] [8, 9] [10, 11, 12], .a 0, .o, .cr sv (ok_scalar_Const (x1)) ea3, .cr vt7 (ok_scalar_Branch (11#64) (true) (true) (ra2.1) (ra3)) ea4, .o, .o, .o, .b h3, .a 2, .a 3, .o, .o, .o, .o, .o, .a 2, .o, .tn (u_ne ra4.1.umin x0) h4, .o, .o, .o, .a 2, .o, .tn (u_ne ra4.1.umax x1) h5, .o, .a 2, .o, .cb (ok_scalar_Has (ra4.1) (x2)) h6, .o, .o, .tn (u_ge x2 x0) h7, .o, .o, .o, .o]
    [] (fun b => by kernel_rfl)
theorem p2_barbicanlaw7_ScalarClosed (x0 : BitVec 64) (x1 : BitVec 64) (x2 : BitVec 64) (ra0 : S) (ea0 : m_scalar_Unknown  = ra0) (ra1 : S) (ea1 : m_scalar_Const x0 = ra1) (ra2 : (S) × (S) × (Bool)) (ea2 : m_scalar_Branch (3#64) true true ra0 ra1 = ra2) (ra3 : S) (ea3 : m_scalar_Const x1 = ra3) (ra4 : (S) × (S) × (Bool)) (ea4 : m_scalar_Branch (11#64) true true ra2.1 ra3 = ra4) (h0 : (m_barbicanlaw7_known ) = true) (h1 : (BitVec.ult x1 x0) = false) (h2 : (ra2.2.2) = true) (h3 : (ra4.2.2) = true) (h4 : (ra4.1.umin == x0) = true) (h5 : (ra4.1.umax == x1) = true) (h6 : (m_scalar_Has ra4.1 x2) = true) (h7 : (BitVec.ult x2 x0) = false) (h8 : (BitVec.ult x1 x2) = true) : Con Tryz.prog 9 #[(.int .u64 (nn (x0))), (.int .u64 (nn (x1))), (.int .u64 (nn (x2)))] (.bool (false)) :=
  fn_conI (P := Tryz.prog) Tryz.func9 (fun xs w => by kernel_rfl) _ _
    [.o, .cb (ok_barbicanlaw7_known ) h0, .o, .o, .o, .t (u_gt x0 x1) h1, .cr sv (ok_scalar_Unknown ) ea0, .o, .cr sv (ok_scalar_Const (x0)) ea1, .cr vt7 (ok_scalar_Branch (3#64) (true) (true) (ra0) (ra1)) ea2, .o, .o, .o, .b h2, .o, .o, .a 0, .a 1, .o, .o, .o, .r [0, 1, 2, 3, 4, 5, 6, 7] [8, 9] [10, 11, 12], .a 0, .o, .cr sv (ok_scalar_Const (x1)) ea3, .cr vt7 (ok_scalar_Branch (11#64) (true) (true) (ra2.1) (ra3)) ea4, .o, .o, .o, .b h3, .a 2, .a 3, .o, .o, .o, .o, .o, .a 2, .o, .tn (u_ne ra4.1.umin x0) h4, .o, .o, .o, .a 2, .o, .tn (u_ne ra4.1.umax x1) h5, .o, .a 2, .o, .cb (ok_scalar_Has (ra4.1) (x2)) h6, .o, .o, .tn (u_ge x2 x0) h7, .o, .o, .o, .tn (u_le x2 x1) h8, .o, .o, .o]
    [] (fun b => by kernel_rfl)
theorem p3_barbicanlaw7_ScalarClosed (x0 : BitVec 64) (x1 : BitVec 64) (x2 : BitVec 64) (ra0 : S) (ea0 : m_scalar_Unknown  = ra0) (ra1 : S) (ea1 : m_scalar_Const x0 = ra1) (ra2 : (S) × (S) × (Bool)) (ea2 : m_scalar_Branch (3#64) true true ra0 ra1 = ra2) (ra3 : S) (ea3 : m_scalar_Const x1 = ra3) (ra4 : (S) × (S) × (Bool)) (ea4 : m_scalar_Branch (11#64) true true ra2.1 ra3 = ra4) (h0 : (m_barbicanlaw7_known ) = true) (h1 : (BitVec.ult x1 x0) = false) (h2 : (ra2.2.2) = true) (h3 : (ra4.2.2) = true) (h4 : (ra4.1.umin == x0) = true) (h5 : (ra4.1.umax == x1) = true) (h6 : (m_scalar_Has ra4.1 x2) = true) (h7 : (BitVec.ult x2 x0) = false) (h8 : (BitVec.ult x1 x2) = false) : Con Tryz.prog 9 #[(.int .u64 (nn (x0))), (.int .u64 (nn (x1))), (.int .u64 (nn (x2)))] (.bool (true)) :=
  fn_conI (P := Tryz.prog) Tryz.func9 (fun xs w => by kernel_rfl) _ _
    [.o, .cb (ok_barbicanlaw7_known ) h0, .o, .o, .o, .t (u_gt x0 x1) h1, .cr sv (ok_scalar_Unknown ) ea0, .o, .cr sv (ok_scalar_Const (x0)) ea1, .cr vt7 (ok_scalar_Branch (3#64) (true) (true) (ra0) (ra1)) ea2, .o, .o, .o, .b h2, .o, .o, .a 0, .a 1, .o, .o, .o, .r [0, 1, 2, 3, 4, 5, 6, 7] [8, 9] [10, 11, 12], .a 0, .o, .cr sv (ok_scalar_Const (x1)) ea3, .cr vt7 (ok_scalar_Branch (11#64) (true) (true) (ra2.1) (ra3)) ea4, .o, .o, .o, .b h3, .a 2, .a 3, .o, .o, .o, .o, .o, .a 2, .o, .tn (u_ne ra4.1.umin x0) h4, .o, .o, .o, .a 2, .o, .tn (u_ne ra4.1.umax x1) h5, .o, .a 2, .o, .cb (ok_scalar_Has (ra4.1) (x2)) h6, .o, .o, .tn (u_ge x2 x0) h7, .o, .o, .o, .tn (u_le x2 x1) h8, .o, .o, .o]
    [] (fun b => by kernel_rfl)
theorem p4_barbicanlaw7_ScalarClosed (x0 : BitVec 64) (x1 : BitVec 64) (x2 : BitVec 64) (ra0 : S) (ea0 : m_scalar_Unknown  = ra0) (ra1 : S) (ea1 : m_scalar_Const x0 = ra1) (ra2 : (S) × (S) × (Bool)) (ea2 : m_scalar_Branch (3#64) true true ra0 ra1 = ra2) (ra3 : S) (ea3 : m_scalar_Const x1 = ra3) (ra4 : (S) × (S) × (Bool)) (ea4 : m_scalar_Branch (11#64) true true ra2.1 ra3 = ra4) (h0 : (m_barbicanlaw7_known ) = true) (h1 : (BitVec.ult x1 x0) = false) (h2 : (ra2.2.2) = true) (h3 : (ra4.2.2) = true) (h4 : (ra4.1.umin == x0) = true) (h5 : (ra4.1.umax == x1) = true) (h6 : (m_scalar_Has ra4.1 x2) = false) (h7 : (BitVec.ult x2 x0) = true) : Con Tryz.prog 9 #[(.int .u64 (nn (x0))), (.int .u64 (nn (x1))), (.int .u64 (nn (x2)))] (.bool (true)) :=
  fn_conI (P := Tryz.prog) Tryz.func9 (fun xs w => by kernel_rfl) _ _
    [.o, .cb (ok_barbicanlaw7_known ) h0, .o, .o, .o, .t (u_gt x0 x1) h1, .cr sv (ok_scalar_Unknown ) ea0, .o, .cr sv (ok_scalar_Const (x0)) ea1, .cr vt7 (ok_scalar_Branch (3#64) (true) (true) (ra0) (ra1)) ea2, .o, .o, .o, .b h2, .o, .o, .a 0, .a 1, .o, .o, .o, .r [0, 1, 2, 3, 4, 5, 6, 7] [8, 9] [10, 11, 12], .a 0, .o, .cr sv (ok_scalar_Const (x1)) ea3, .cr vt7 (ok_scalar_Branch (11#64) (true) (true) (ra2.1) (ra3)) ea4, .o, .o, .o, .b h3, .a 2, .a 3, .o, .o, .o, .o, .o, .a 2, .o, .tn (u_ne ra4.1.umin x0) h4, .o, .o, .o, .a 2, .o, .tn (u_ne ra4.1.umax x1) h5, .o, .a 2, .o, .cb (ok_scalar_Has (ra4.1) (x2)) h6, .o, .o, .tn (u_ge x2 x0) h7, .o, .o, .o, .o]
    [] (fun b => by kernel_rfl)
theorem p5_barbicanlaw7_ScalarClosed (x0 : BitVec 64) (x1 : BitVec 64) (x2 : BitVec 64) (ra0 : S) (ea0 : m_scalar_Unknown  = ra0) (ra1 : S) (ea1 : m_scalar_Const x0 = ra1) (ra2 : (S) × (S) × (Bool)) (ea2 : m_scalar_Branch (3#64) true true ra0 ra1 = ra2) (ra3 : S) (ea3 : m_scalar_Const x1 = ra3) (ra4 : (S) × (S) × (Bool)) (ea4 : m_scalar_Branch (11#64) true true ra2.1 ra3 = ra4) (h0 : (m_barbicanlaw7_known ) = true) (h1 : (BitVec.ult x1 x0) = false) (h2 : (ra2.2.2) = true) (h3 : (ra4.2.2) = true) (h4 : (ra4.1.umin == x0) = true) (h5 : (ra4.1.umax == x1) = true) (h6 : (m_scalar_Has ra4.1 x2) = false) (h7 : (BitVec.ult x2 x0) = false) (h8 : (BitVec.ult x1 x2) = true) : Con Tryz.prog 9 #[(.int .u64 (nn (x0))), (.int .u64 (nn (x1))), (.int .u64 (nn (x2)))] (.bool (true)) :=
  fn_conI (P := Tryz.prog) Tryz.func9 (fun xs w => by kernel_rfl) _ _
    [.o, .cb (ok_barbicanlaw7_known ) h0, .o, .o, .o, .t (u_gt x0 x1) h1, .cr sv (ok_scalar_Unknown ) ea0, .o, .cr sv (ok_scalar_Const (x0)) ea1, .cr vt7 (ok_scalar_Branch (3#64) (true) (true) (ra0) (ra1)) ea2, .o, .o, .o, .b h2, .o, .o, .a 0, .a 1, .o, .o, .o, .r [0, 1, 2, 3, 4, 5, 6, 7] [8, 9] [10, 11, 12], .a 0, .o, .cr sv (ok_scalar_Const (x1)) ea3, .cr vt7 (ok_scalar_Branch (11#64) (true) (true) (ra2.1) (ra3)) ea4, .o, .o, .o, .b h3, .a 2, .a 3, .o, .o, .o, .o, .o, .a 2, .o, .tn (u_ne ra4.1.umin x0) h4, .o, .o, .o, .a 2, .o, .tn (u_ne ra4.1.umax x1) h5, .o, .a 2, .o, .cb (ok_scalar_Has (ra4.1) (x2)) h6, .o, .o, .tn (u_ge x2 x0) h7, .o, .o, .o, .tn (u_le x2 x1) h8, .o, .o, .o]
    [] (fun b => by kernel_rfl)
theorem p6_barbicanlaw7_ScalarClosed (x0 : BitVec 64) (x1 : BitVec 64) (x2 : BitVec 64) (ra0 : S) (ea0 : m_scalar_Unknown  = ra0) (ra1 : S) (ea1 : m_scalar_Const x0 = ra1) (ra2 : (S) × (S) × (Bool)) (ea2 : m_scalar_Branch (3#64) true true ra0 ra1 = ra2) (ra3 : S) (ea3 : m_scalar_Const x1 = ra3) (ra4 : (S) × (S) × (Bool)) (ea4 : m_scalar_Branch (11#64) true true ra2.1 ra3 = ra4) (h0 : (m_barbicanlaw7_known ) = true) (h1 : (BitVec.ult x1 x0) = false) (h2 : (ra2.2.2) = true) (h3 : (ra4.2.2) = true) (h4 : (ra4.1.umin == x0) = true) (h5 : (ra4.1.umax == x1) = true) (h6 : (m_scalar_Has ra4.1 x2) = false) (h7 : (BitVec.ult x2 x0) = false) (h8 : (BitVec.ult x1 x2) = false) : Con Tryz.prog 9 #[(.int .u64 (nn (x0))), (.int .u64 (nn (x1))), (.int .u64 (nn (x2)))] (.bool (false)) :=
  fn_conI (P := Tryz.prog) Tryz.func9 (fun xs w => by kernel_rfl) _ _
    [.o, .cb (ok_barbicanlaw7_known ) h0, .o, .o, .o, .t (u_gt x0 x1) h1, .cr sv (ok_scalar_Unknown ) ea0, .o, .cr sv (ok_scalar_Const (x0)) ea1, .cr vt7 (ok_scalar_Branch (3#64) (true) (true) (ra0) (ra1)) ea2, .o, .o, .o, .b h2, .o, .o, .a 0, .a 1, .o, .o, .o, .r [0, 1, 2, 3, 4, 5, 6, 7] [8, 9] [10, 11, 12], .a 0, .o, .cr sv (ok_scalar_Const (x1)) ea3, .cr vt7 (ok_scalar_Branch (11#64) (true) (true) (ra2.1) (ra3)) ea4, .o, .o, .o, .b h3, .a 2, .a 3, .o, .o, .o, .o, .o, .a 2, .o, .tn (u_ne ra4.1.umin x0) h4, .o, .o, .o, .a 2, .o, .tn (u_ne ra4.1.umax x1) h5, .o, .a 2, .o, .cb (ok_scalar_Has (ra4.1) (x2)) h6, .o, .o, .tn (u_ge x2 x0) h7, .o, .o, .o, .tn (u_le x2 x1) h8, .o, .o, .o]
    [] (fun b => by kernel_rfl)
theorem p7_barbicanlaw7_ScalarClosed (x0 : BitVec 64) (x1 : BitVec 64) (x2 : BitVec 64) (ra0 : S) (ea0 : m_scalar_Unknown  = ra0) (ra1 : S) (ea1 : m_scalar_Const x0 = ra1) (ra2 : (S) × (S) × (Bool)) (ea2 : m_scalar_Branch (3#64) true true ra0 ra1 = ra2) (ra3 : S) (ea3 : m_scalar_Const x1 = ra3) (ra4 : (S) × (S) × (Bool)) (ea4 : m_scalar_Branch (11#64) true true ra2.1 ra3 = ra4) (h0 : (m_barbicanlaw7_known ) = true) (h1 : (BitVec.ult x1 x0) = false) (h2 : (ra2.2.2) = true) (h3 : (ra4.2.2) = true) (h4 : (ra4.1.umin == x0) = true) (h5 : (ra4.1.umax == x1) = false) : Con Tryz.prog 9 #[(.int .u64 (nn (x0))), (.int .u64 (nn (x1))), (.int .u64 (nn (x2)))] (.bool (false)) :=
  fn_conI (P := Tryz.prog) Tryz.func9 (fun xs w => by kernel_rfl) _ _
    [.o, .cb (ok_barbicanlaw7_known ) h0, .o, .o, .o, .t (u_gt x0 x1) h1, .cr sv (ok_scalar_Unknown ) ea0, .o, .cr sv (ok_scalar_Const (x0)) ea1, .cr vt7 (ok_scalar_Branch (3#64) (true) (true) (ra0) (ra1)) ea2, .o, .o, .o, .b h2, .o, .o, .a 0, .a 1, .o, .o, .o, .r [0, 1, 2, 3, 4, 5, 6, 7] [8, 9] [10, 11, 12], .a 0, .o, .cr sv (ok_scalar_Const (x1)) ea3, .cr vt7 (ok_scalar_Branch (11#64) (true) (true) (ra2.1) (ra3)) ea4, .o, .o, .o, .b h3, .a 2, .a 3, .o, .o, .o, .o, .o, .a 2, .o, .tn (u_ne ra4.1.umin x0) h4, .o, .o, .o, .a 2, .o, .tn (u_ne ra4.1.umax x1) h5, .o, .o]
    [] (fun b => by kernel_rfl)
theorem p8_barbicanlaw7_ScalarClosed (x0 : BitVec 64) (x1 : BitVec 64) (x2 : BitVec 64) (ra0 : S) (ea0 : m_scalar_Unknown  = ra0) (ra1 : S) (ea1 : m_scalar_Const x0 = ra1) (ra2 : (S) × (S) × (Bool)) (ea2 : m_scalar_Branch (3#64) true true ra0 ra1 = ra2) (ra3 : S) (ea3 : m_scalar_Const x1 = ra3) (ra4 : (S) × (S) × (Bool)) (ea4 : m_scalar_Branch (11#64) true true ra2.1 ra3 = ra4) (h0 : (m_barbicanlaw7_known ) = true) (h1 : (BitVec.ult x1 x0) = false) (h2 : (ra2.2.2) = true) (h3 : (ra4.2.2) = true) (h4 : (ra4.1.umin == x0) = false) : Con Tryz.prog 9 #[(.int .u64 (nn (x0))), (.int .u64 (nn (x1))), (.int .u64 (nn (x2)))] (.bool (false)) :=
  fn_conI (P := Tryz.prog) Tryz.func9 (fun xs w => by kernel_rfl) _ _
    [.o, .cb (ok_barbicanlaw7_known ) h0, .o, .o, .o, .t (u_gt x0 x1) h1, .cr sv (ok_scalar_Unknown ) ea0, .o, .cr sv (ok_scalar_Const (x0)) ea1, .cr vt7 (ok_scalar_Branch (3#64) (true) (true) (ra0) (ra1)) ea2, .o, .o, .o, .b h2, .o, .o, .a 0, .a 1, .o, .o, .o, .r [0, 1, 2, 3, 4, 5, 6, 7] [8, 9] [10, 11, 12], .a 0, .o, .cr sv (ok_scalar_Const (x1)) ea3, .cr vt7 (ok_scalar_Branch (11#64) (true) (true) (ra2.1) (ra3)) ea4, .o, .o, .o, .b h3, .a 2, .a 3, .o, .o, .o, .o, .o, .a 2, .o, .tn (u_ne ra4.1.umin x0) h4, .o, .o, .o, .o]
    [] (fun b => by kernel_rfl)
theorem p9_barbicanlaw7_ScalarClosed (x0 : BitVec 64) (x1 : BitVec 64) (x2 : BitVec 64) (ra0 : S) (ea0 : m_scalar_Unknown  = ra0) (ra1 : S) (ea1 : m_scalar_Const x0 = ra1) (ra2 : (S) × (S) × (Bool)) (ea2 : m_scalar_Branch (3#64) true true ra0 ra1 = ra2) (ra3 : S) (ea3 : m_scalar_Const x1 = ra3) (ra4 : (S) × (S) × (Bool)) (ea4 : m_scalar_Branch (11#64) true true ra2.1 ra3 = ra4) (h0 : (m_barbicanlaw7_known ) = true) (h1 : (BitVec.ult x1 x0) = false) (h2 : (ra2.2.2) = true) (h3 : (ra4.2.2) = false) : Con Tryz.prog 9 #[(.int .u64 (nn (x0))), (.int .u64 (nn (x1))), (.int .u64 (nn (x2)))] (.bool (false)) :=
  fn_conI (P := Tryz.prog) Tryz.func9 (fun xs w => by kernel_rfl) _ _
    [.o, .cb (ok_barbicanlaw7_known ) h0, .o, .o, .o, .t (u_gt x0 x1) h1, .cr sv (ok_scalar_Unknown ) ea0, .o, .cr sv (ok_scalar_Const (x0)) ea1, .cr vt7 (ok_scalar_Branch (3#64) (true) (true) (ra0) (ra1)) ea2, .o, .o, .o, .b h2, .o, .o, .a 0, .a 1, .o, .o, .o, .r [0, 1, 2, 3, 4, 5, 6, 7] [8, 9] [10, 11, 12], .a 0, .o, .cr sv (ok_scalar_Const (x1)) ea3, .cr vt7 (ok_scalar_Branch (11#64) (true) (true) (ra2.1) (ra3)) ea4, .o, .o, .o, .b h3, .a 2, .a 3, .o, .o, .o, .o, .o, .o, .o, .o]
    [] (fun b => by kernel_rfl)
theorem p10_barbicanlaw7_ScalarClosed (x0 : BitVec 64) (x1 : BitVec 64) (x2 : BitVec 64) (ra0 : S) (ea0 : m_scalar_Unknown  = ra0) (ra1 : S) (ea1 : m_scalar_Const x0 = ra1) (ra2 : (S) × (S) × (Bool)) (ea2 : m_scalar_Branch (3#64) true true ra0 ra1 = ra2) (h0 : (m_barbicanlaw7_known ) = true) (h1 : (BitVec.ult x1 x0) = false) (h2 : (ra2.2.2) = false) : Con Tryz.prog 9 #[(.int .u64 (nn (x0))), (.int .u64 (nn (x1))), (.int .u64 (nn (x2)))] (.bool (false)) :=
  fn_conI (P := Tryz.prog) Tryz.func9 (fun xs w => by kernel_rfl) _ _
    [.o, .cb (ok_barbicanlaw7_known ) h0, .o, .o, .o, .t (u_gt x0 x1) h1, .cr sv (ok_scalar_Unknown ) ea0, .o, .cr sv (ok_scalar_Const (x0)) ea1, .cr vt7 (ok_scalar_Branch (3#64) (true) (true) (ra0) (ra1)) ea2, .o, .o, .o, .b h2, .o, .o, .a 0, .a 1, .o, .o, .o, .o]
    [] (fun b => by kernel_rfl)
theorem p11_barbicanlaw7_ScalarClosed (x0 : BitVec 64) (x1 : BitVec 64) (x2 : BitVec 64) (h0 : (m_barbicanlaw7_known ) = false) : Con Tryz.prog 9 #[(.int .u64 (nn (x0))), (.int .u64 (nn (x1))), (.int .u64 (nn (x2)))] (.bool (false)) :=
  fn_conI (P := Tryz.prog) Tryz.func9 (fun xs w => by kernel_rfl) _ _
    [.o, .cb (ok_barbicanlaw7_known ) h0, .o, .o]
    [] (fun b => by kernel_rfl)
theorem ok_barbicanlaw7_ScalarClosed (x0 : BitVec 64) (x1 : BitVec 64) (x2 : BitVec 64) : Con Tryz.prog 9 #[(.int .u64 (nn (x0))), (.int .u64 (nn (x1))), (.int .u64 (nn (x2)))] (.bool (m_barbicanlaw7_ScalarClosed x0 x1 x2)) := by
  unfold m_barbicanlaw7_ScalarClosed
  refine Con.cond (fun r => (Value.bool (r))) _ _ _ (fun h0 => ?_) (fun h0 => ?_)
  · refine Con.cond (fun r => (Value.bool (r))) _ _ _ (fun h1 => ?_) (fun h1 => ?_)
    · exact p0_barbicanlaw7_ScalarClosed x0 x1 x2 h0 h1
    · refine Con.cond (fun r => (Value.bool (r))) _ _ _ (fun h2 => ?_) (fun h2 => ?_)
      · refine Con.cond (fun r => (Value.bool (r))) _ _ _ (fun h3 => ?_) (fun h3 => ?_)
        · refine Con.cond (fun r => (Value.bool (r))) _ _ _ (fun h4 => ?_) (fun h4 => ?_)
          · refine Con.cond (fun r => (Value.bool (r))) _ _ _ (fun h5 => ?_) (fun h5 => ?_)
            · refine Con.cond (fun r => (Value.bool (r))) _ _ _ (fun h6 => ?_) (fun h6 => ?_)
              · refine Con.cond (fun r => (Value.bool (r))) _ _ _ (fun h7 => ?_) (fun h7 => ?_)
                · exact p1_barbicanlaw7_ScalarClosed x0 x1 x2 _ rfl _ rfl _ rfl _ rfl _ rfl h0 h1 h2 h3 h4 h5 h6 h7
                · refine Con.cond (fun r => (Value.bool (r))) _ _ _ (fun h8 => ?_) (fun h8 => ?_)
                  · exact p2_barbicanlaw7_ScalarClosed x0 x1 x2 _ rfl _ rfl _ rfl _ rfl _ rfl h0 h1 h2 h3 h4 h5 h6 h7 h8
                  · exact p3_barbicanlaw7_ScalarClosed x0 x1 x2 _ rfl _ rfl _ rfl _ rfl _ rfl h0 h1 h2 h3 h4 h5 h6 h7 h8
              · refine Con.cond (fun r => (Value.bool (r))) _ _ _ (fun h7 => ?_) (fun h7 => ?_)
                · exact p4_barbicanlaw7_ScalarClosed x0 x1 x2 _ rfl _ rfl _ rfl _ rfl _ rfl h0 h1 h2 h3 h4 h5 h6 h7
                · refine Con.cond (fun r => (Value.bool (r))) _ _ _ (fun h8 => ?_) (fun h8 => ?_)
                  · exact p5_barbicanlaw7_ScalarClosed x0 x1 x2 _ rfl _ rfl _ rfl _ rfl _ rfl h0 h1 h2 h3 h4 h5 h6 h7 h8
                  · exact p6_barbicanlaw7_ScalarClosed x0 x1 x2 _ rfl _ rfl _ rfl _ rfl _ rfl h0 h1 h2 h3 h4 h5 h6 h7 h8
            · exact p7_barbicanlaw7_ScalarClosed x0 x1 x2 _ rfl _ rfl _ rfl _ rfl _ rfl h0 h1 h2 h3 h4 h5
          · exact p8_barbicanlaw7_ScalarClosed x0 x1 x2 _ rfl _ rfl _ rfl _ rfl _ rfl h0 h1 h2 h3 h4
        · exact p9_barbicanlaw7_ScalarClosed x0 x1 x2 _ rfl _ rfl _ rfl _ rfl _ rfl h0 h1 h2 h3
      · exact p10_barbicanlaw7_ScalarClosed x0 x1 x2 _ rfl _ rfl _ rfl h0 h1 h2
  · exact p11_barbicanlaw7_ScalarClosed x0 x1 x2 h0
end Go.Proofs.YtmhiiahfjoijgaaGreat
