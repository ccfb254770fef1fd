/-
  The law ScalarMakes, by the program's own text.
-/
import Derived.Test.YtmhiiahfjoijgaaGreatL7G
namespace Go.Proofs.YtmhiiahfjoijgaaGreat
open Go.RowKit
set_option linter.unusedVariables false
set_option linter.unusedSimpArgs false
set_option maxRecDepth 100000
set_option maxHeartbeats 4000000
-- barbican/barbicanlaw7.ScalarMakes
def m_barbicanlaw7_ScalarMakes (x0 : BitVec 64) (x1 : BitVec 64) (x2 : BitVec 64) (x3 : BitVec 64) : Bool :=
  (bif m_barbicanlaw7_known  then
    (bif m_scalar_Is (m_scalar_Const x0) then
      (bif m_scalar_Is (m_scalar_Unknown ) then
        (bif m_scalar_Is (m_scalar_Between x1 x2) then
          (bif m_scalar_Has (m_scalar_Const x0) x3 then
            (bif x3 == x0 then
              (bif m_scalar_Has (m_scalar_Unknown ) x3 then
                (bif BitVec.ult x2 x1 then
                  (decide ((m_scalar_Between x1 x2) = (m_scalar_Unknown )))
                  else (bif m_scalar_Has (m_scalar_Between x1 x2) x3 then
                    (bif BitVec.ult x3 x1 then
                      (false)
                      else (bif BitVec.ult x2 x3 then
                        (false)
                        else (true)))
                    else (bif BitVec.ult x3 x1 then
                      (true)
                      else (bif BitVec.ult x2 x3 then
                        (true)
                        else (false)))))
                else (false))
              else (false))
            else (bif x3 == x0 then
              (false)
              else (bif m_scalar_Has (m_scalar_Unknown ) x3 then
                (bif BitVec.ult x2 x1 then
                  (decide ((m_scalar_Between x1 x2) = (m_scalar_Unknown )))
                  else (bif m_scalar_Has (m_scalar_Between x1 x2) x3 then
                    (bif BitVec.ult x3 x1 then
                      (false)
                      else (bif BitVec.ult x2 x3 then
                        (false)
                        else (true)))
                    else (bif BitVec.ult x3 x1 then
                      (true)
                      else (bif BitVec.ult x2 x3 then
                        (true)
                        else (false)))))
                else (false))))
          else (false))
        else (false))
      else (false))
    else (false))
theorem p0_barbicanlaw7_ScalarMakes (x0 : BitVec 64) (x1 : BitVec 64) (x2 : BitVec 64) (x3 : BitVec 64) (ra0 : S) (ea0 : m_scalar_Const x0 = ra0) (ra1 : S) (ea1 : m_scalar_Unknown  = ra1) (ra2 : S) (ea2 : m_scalar_Between x1 x2 = ra2) (h0 : (m_barbicanlaw7_known ) = true) (h1 : (m_scalar_Is ra0) = true) (h2 : (m_scalar_Is ra1) = true) (h3 : (m_scalar_Is ra2) = true) (h4 : (m_scalar_Has ra0 x3) = true) (h5 : (x3 == x0) = true) (h6 : (m_scalar_Has ra1 x3) = true) (h7 : (BitVec.ult x2 x1) = true) : Con Tryz.prog 3 #[(.int .u64 (nn (x0))), (.int .u64 (nn (x1))), (.int .u64 (nn (x2))), (.int .u64 (nn (x3)))] (.bool (decide (ra2 = ra1))) :=
  fn_conI (P := Tryz.prog) Tryz.func3 (fun xs w => by kernel_rfl) _ _
    [.o, .cb (ok_barbicanlaw7_known ) h0, .o, .o, .cr sv (ok_scalar_Const (x0)) ea0, .cr sv (ok_scalar_Unknown ) ea1, .o, .o, .cr sv (ok_scalar_Between (x1) (x2)) ea2, .o, .o, .o, .a 0, .a 1, .a 2, .a 0, .cb (ok_scalar_Is (ra0)) h1, .o, .o, .a 1, .cb (ok_scalar_Is (ra1)) h2, .o, .o, .o, .a 2, .cb (ok_scalar_Is (ra2)) h3, .o, .o, .o, .a 0, .o, .cb (ok_scalar_Has (ra0) (x3)) h4, .o, .o, .t (u_eq x3 x0) h5, .o, .o, .o, .a 1, .o, .cb (ok_scalar_Has (ra1) (x3)) h6, .o, .o, .o, .o, .t (u_gt x1 x2) h7, .a 2, .a 1, .ov (fun w => (eq27 (ra2) (ra1) _ rfl (.tmp 51) (.tmp 52) w).1), .o]
    [] (fun b => by kernel_rfl)
theorem p1_barbicanlaw7_ScalarMakes (x0 : BitVec 64) (x1 : BitVec 64) (x2 : BitVec 64) (x3 : BitVec 64) (ra0 : S) (ea0 : m_scalar_Const x0 = ra0) (ra1 : S) (ea1 : m_scalar_Unknown  = ra1) (ra2 : S) (ea2 : m_scalar_Between x1 x2 = ra2) (h0 : (m_barbicanlaw7_known ) = true) (h1 : (m_scalar_Is ra0) = true) (h2 : (m_scalar_Is ra1) = true) (h3 : (m_scalar_Is ra2) = true) (h4 : (m_scalar_Has ra0 x3) = true) (h5 : (x3 == x0) = true) (h6 : (m_scalar_Has ra1 x3) = true) (h7 : (BitVec.ult x2 x1) = false) (h8 : (m_scalar_Has ra2 x3) = true) (h9 : (BitVec.ult x3 x1) = true) : Con Tryz.prog 3 #[(.int .u64 (nn (x0))), (.int .u64 (nn (x1))), (.int .u64 (nn (x2))), (.int .u64 (nn (x3)))] (.bool (false)) :=
  fn_conI (P := Tryz.prog) Tryz.func3 (fun xs w => by kernel_rfl) _ _
    [.o, .cb (ok_barbicanlaw7_known ) h0, .o, .o, .cr sv (ok_scalar_Const (x0)) ea0, .cr sv (ok_scalar_Unknown ) ea1, .o, .o, .cr sv (ok_scalar_Between (x1) (x2)) ea2, .o, .o, .o, .a 0, .a 1, .a 2, .a 0, .cb (ok_scalar_Is (ra0)) h1, .o, .o, .a 1, .cb (ok_scalar_Is (ra1)) h2, .o, .o, .o, .a 2, .cb (ok_scalar_Is (ra2)) h3, .o, .o, .o, .a 0, .o, .cb (ok_scalar_Has (ra0) (x3)) h4, .o, .o, .t (u_eq x3 x0) h5, .o, .o, .o, .a 1, .o, .cb (ok_scalar_Has (ra1) (x3)) h6, .o, .o, .o, .o, .t (u_gt x1 x2) h7, .a 2, .o, .cb (ok_scalar_Has (ra2) (x3)) h8, .o, .o, .tn (u_ge x3 x1) h9, .o, .o, .o, .o]
    [] (fun b => by kernel_rfl)
theorem p2_barbicanlaw7_ScalarMakes (x0 : BitVec 64) (x1 : BitVec 64) (x2 : BitVec 64) (x3 : BitVec 64) (ra0 : S) (ea0 : m_scalar_Const x0 = ra0) (ra1 : S) (ea1 : m_scalar_Unknown  = ra1) (ra2 : S) (ea2 : m_scalar_Between x1 x2 = ra2) (h0 : (m_barbicanlaw7_known ) = true) (h1 : (m_scalar_Is ra0) = true) (h2 : (m_scalar_Is ra1) = true) (h3 : (m_scalar_Is ra2) = true) (h4 : (m_scalar_Has ra0 x3) = true) (h5 : (x3 == x0) = true) (h6 : (m_scalar_Has ra1 x3) = true) (h7 : (BitVec.ult x2 x1) = false) (h8 : (m_scalar_Has ra2 x3) = true) (h9 : (BitVec.ult x3 x1) = false) (h10 : (BitVec.ult x2 x3) = true) : Con Tryz.prog 3 #[(.int .u64 (nn (x0))), (.int .u64 (nn (x1))), (.int .u64 (nn (x2))), (.int .u64 (nn (x3)))] (.bool (false)) :=
  fn_conI (P := Tryz.prog) Tryz.func3 (fun xs w => by kernel_rfl) _ _
    [.o, .cb (ok_barbicanlaw7_known ) h0, .o, .o, .cr sv (ok_scalar_Const (x0)) ea0, .cr sv (ok_scalar_Unknown ) ea1, .o, .o, .cr sv (ok_scalar_Between (x1) (x2)) ea2, .o, .o, .o, .a 0, .a 1, .a 2, .a 0, .cb (ok_scalar_Is (ra0)) h1, .o, .o, .a 1, .cb (ok_scalar_Is (ra1)) h2, .o, .o, .o, .a 2, .cb (ok_scalar_Is (ra2)) h3, .o, .o, .o, .a 0, .o, .cb (ok_scalar_Has (ra0) (x3)) h4, .o, .o, .t (u_eq x3 x0) h5, .o, .o, .o, .a 1, .o, .cb (ok_scalar_Has (ra1) (x3)) h6, .o, .o, .o, .o, .t (u_gt x1 x2) h7, .a 2, .o, .cb (ok_scalar_Has (ra2) (x3)) h8, .o, .o, .tn (u_ge x3 x1) h9, .o, .o, .o, .tn (u_le x3 x2) h10, .o, .o, .o]
    [] (fun b => by kernel_rfl)
theorem p3_barbicanlaw7_ScalarMakes (x0 : BitVec 64) (x1 : BitVec 64) (x2 : BitVec 64) (x3 : BitVec 64) (ra0 : S) (ea0 : m_scalar_Const x0 = ra0) (ra1 : S) (ea1 : m_scalar_Unknown  = ra1) (ra2 : S) (ea2 : m_scalar_Between x1 x2 = ra2) (h0 : (m_barbicanlaw7_known ) = true) (h1 : (m_scalar_Is ra0) = true) (h2 : (m_scalar_Is ra1) = true) (h3 : (m_scalar_Is ra2) = true) (h4 : (m_scalar_Has ra0 x3) = true) (h5 : (x3 == x0) = true) (h6 : (m_scalar_Has ra1 x3) = true) (h7 : (BitVec.ult x2 x1) = false) (h8 : (m_scalar_Has ra2 x3) = true) (h9 : (BitVec.ult x3 x1) = false) (h10 : (BitVec.ult x2 x3) = false) : Con Tryz.prog 3 #[(.int .u64 (nn (x0))), (.int .u64 (nn (x1))), (.int .u64 (nn (x2))), (.int .u64 (nn (x3)))] (.bool (true)) :=
  fn_conI (P := Tryz.prog) Tryz.func3 (fun xs w => by kernel_rfl) _ _
    [.o, .cb (ok_barbicanlaw7_known ) h0, .o, .o, .cr sv (ok_scalar_Const (x0)) ea0, .cr sv (ok_scalar_Unknown ) ea1, .o, .o, .cr sv (ok_scalar_Between (x1) (x2)) ea2, .o, .o, .o, .a 0, .a 1, .a 2, .a 0, .cb (ok_scalar_Is (ra0)) h1, .o, .o, .a 1, .cb (ok_scalar_Is (ra1)) h2, .o, .o, .o, .a 2, .cb (ok_scalar_Is (ra2)) h3, .o, .o, .o, .a 0, .o, .cb (ok_scalar_Has (ra0) (x3)) h4, .o, .o, .t (u_eq x3 x0) h5, .o, .o, .o, .a 1, .o, .cb (ok_scalar_Has (ra1) (x3)) h6, .o, .o, .o, .o, .t (u_gt x1 x2) h7, .a 2, .o, .cb (ok_scalar_Has (ra2) (x3)) h8, .o, .o, .tn (u_ge x3 x1) h9, .o, .o, .o, .tn (u_le x3 x2) h10, .o, .o, .o]
    [] (fun b => by kernel_rfl)
theorem p4_barbicanlaw7_ScalarMakes (x0 : BitVec 64) (x1 : BitVec 64) (x2 : BitVec 64) (x3 : BitVec 64) (ra0 : S) (ea0 : m_scalar_Const x0 = ra0) (ra1 : S) (ea1 : m_scalar_Unknown  = ra1) (ra2 : S) (ea2 : m_scalar_Between x1 x2 = ra2) (h0 : (m_barbicanlaw7_known ) = true) (h1 : (m_scalar_Is ra0) = true) (h2 : (m_scalar_Is ra1) = true) (h3 : (m_scalar_Is ra2) = true) (h4 : (m_scalar_Has ra0 x3) = true) (h5 : (x3 == x0) = true) (h6 : (m_scalar_Has ra1 x3) = true) (h7 : (BitVec.ult x2 x1) = false) (h8 : (m_scalar_Has ra2 x3) = false) (h9 : (BitVec.ult x3 x1) = true) : Con Tryz.prog 3 #[(.int .u64 (nn (x0))), (.int .u64 (nn (x1))), (.int .u64 (nn (x2))), (.int .u64 (nn (x3)))] (.bool (true)) :=
  fn_conI (P := Tryz.prog) Tryz.func3 (fun xs w => by kernel_rfl) _ _
    [.o, .cb (ok_barbicanlaw7_known ) h0, .o, .o, .cr sv (ok_scalar_Const (x0)) ea0, .cr sv (ok_scalar_Unknown ) ea1, .o, .o, .cr sv (ok_scalar_Between (x1) (x2)) ea2, .o, .o, .o, .a 0, .a 1, .a 2, .a 0, .cb (ok_scalar_Is (ra0)) h1, .o, .o, .a 1, .cb (ok_scalar_Is (ra1)) h2, .o, .o, .o, .a 2, .cb (ok_scalar_Is (ra2)) h3, .o, .o, .o, .a 0, .o, .cb (ok_scalar_Has (ra0) (x3)) h4, .o, .o, .t (u_eq x3 x0) h5, .o, .o, .o, .a 1, .o, .cb (ok_scalar_Has (ra1) (x3)) h6, .o, .o, .o, .o, .t (u_gt x1 x2) h7, .a 2, .o, .cb (ok_scalar_Has (ra2) (x3)) h8, .o, .o, .tn (u_ge x3 x1) h9, .o, .o, .o, .o]
    [] (fun b => by kernel_rfl)
theorem p5_barbicanlaw7_ScalarMakes (x0 : BitVec 64) (x1 : BitVec 64) (x2 : BitVec 64) (x3 : BitVec 64) (ra0 : S) (ea0 : m_scalar_Const x0 = ra0) (ra1 : S) (ea1 : m_scalar_Unknown  = ra1) (ra2 : S) (ea2 : m_scalar_Between x1 x2 = ra2) (h0 : (m_barbicanlaw7_known ) = true) (h1 : (m_scalar_Is ra0) = true) (h2 : (m_scalar_Is ra1) = true) (h3 : (m_scalar_Is ra2) = true) (h4 : (m_scalar_Has ra0 x3) = true) (h5 : (x3 == x0) = true) (h6 : (m_scalar_Has ra1 x3) = true) (h7 : (BitVec.ult x2 x1) = false) (h8 : (m_scalar_Has ra2 x3) = false) (h9 : (BitVec.ult x3 x1) = false) (h10 : (BitVec.ult x2 x3) = true) : Con Tryz.prog 3 #[(.int .u64 (nn (x0))), (.int .u64 (nn (x1))), (.int .u64 (nn (x2))), (.int .u64 (nn (x3)))] (.bool (true)) :=
  fn_conI (P := Tryz.prog) Tryz.func3 (fun xs w => by kernel_rfl) _ _
    [.o, .cb (ok_barbicanlaw7_known ) h0, .o, .o, .cr sv (ok_scalar_Const (x0)) ea0, .cr sv (ok_scalar_Unknown ) ea1, .o, .o, .cr sv (ok_scalar_Between (x1) (x2)) ea2, .o, .o, .o, .a 0, .a 1, .a 2, .a 0, .cb (ok_scalar_Is (ra0)) h1, .o, .o, .a 1, .cb (ok_scalar_Is (ra1)) h2, .o, .o, .o, .a 2, .cb (ok_scalar_Is (ra2)) h3, .o, .o, .o, .a 0, .o, .cb (ok_scalar_Has (ra0) (x3)) h4, .o, .o, .t (u_eq x3 x0) h5, .o, .o, .o, .a 1, .o, .cb (ok_scalar_Has (ra1) (x3)) h6, .o, .o, .o, .o, .t (u_gt x1 x2) h7, .a 2, .o, .cb (ok_scalar_Has (ra2) (x3)) h8, .o, .o, .tn (u_ge x3 x1) h9, .o, .o, .o, .tn (u_le x3 x2) h10, .o, .o, .o]
    [] (fun b => by kernel_rfl)
theorem p6_barbicanlaw7_ScalarMakes (x0 : BitVec 64) (x1 : BitVec 64) (x2 : BitVec 64) (x3 : BitVec 64) (ra0 : S) (ea0 : m_scalar_Const x0 = ra0) (ra1 : S) (ea1 : m_scalar_Unknown  = ra1) (ra2 : S) (ea2 : m_scalar_Between x1 x2 = ra2) (h0 : (m_barbicanlaw7_known ) = true) (h1 : (m_scalar_Is ra0) = true) (h2 : (m_scalar_Is ra1) = true) (h3 : (m_scalar_Is ra2) = true) (h4 : (m_scalar_Has ra0 x3) = true) (h5 : (x3 == x0) = true) (h6 : (m_scalar_Has ra1 x3) = true) (h7 : (BitVec.ult x2 x1) = false) (h8 : (m_scalar_Has ra2 x3) = false) (h9 : (BitVec.ult x3 x1) = false) (h10 : (BitVec.ult x2 x3) = false) : Con Tryz.prog 3 #[(.int .u64 (nn (x0))), (.int .u64 (nn (x1))), (.int .u64 (nn (x2))), (.int .u64 (nn (x3)))] (.bool (false)) :=
  fn_conI (P := Tryz.prog) Tryz.func3 (fun xs w => by kernel_rfl) _ _
    [.o, .cb (ok_barbicanlaw7_known ) h0, .o, .o, .cr sv (ok_scalar_Const (x0)) ea0, .cr sv (ok_scalar_Unknown ) ea1, .o, .o, .cr sv (ok_scalar_Between (x1) (x2)) ea2, .o, .o, .o, .a 0, .a 1, .a 2, .a 0, .cb (ok_scalar_Is (ra0)) h1, .o, .o, .a 1, .cb (ok_scalar_Is (ra1)) h2, .o, .o, .o, .a 2, .cb (ok_scalar_Is (ra2)) h3, .o, .o, .o, .a 0, .o, .cb (ok_scalar_Has (ra0) (x3)) h4, .o, .o, .t (u_eq x3 x0) h5, .o, .o, .o, .a 1, .o, .cb (ok_scalar_Has (ra1) (x3)) h6, .o, .o, .o, .o, .t (u_gt x1 x2) h7, .a 2, .o, .cb (ok_scalar_Has (ra2) (x3)) h8, .o, .o, .tn (u_ge x3 x1) h9, .o, .o, .o, .tn (u_le x3 x2) h10, .o, .o, .o]
    [] (fun b => by kernel_rfl)
theorem p7_barbicanlaw7_ScalarMakes (x0 : BitVec 64) (x1 : BitVec 64) (x2 : BitVec 64) (x3 : BitVec 64) (ra0 : S) (ea0 : m_scalar_Const x0 = ra0) (ra1 : S) (ea1 : m_scalar_Unknown  = ra1) (ra2 : S) (ea2 : m_scalar_Between x1 x2 = ra2) (h0 : (m_barbicanlaw7_known ) = true) (h1 : (m_scalar_Is ra0) = true) (h2 : (m_scalar_Is ra1) = true) (h3 : (m_scalar_Is ra2) = true) (h4 : (m_scalar_Has ra0 x3) = true) (h5 : (x3 == x0) = true) (h6 : (m_scalar_Has ra1 x3) = false) : Con Tryz.prog 3 #[(.int .u64 (nn (x0))), (.int .u64 (nn (x1))), (.int .u64 (nn (x2))), (.int .u64 (nn (x3)))] (.bool (false)) :=
  fn_conI (P := Tryz.prog) Tryz.func3 (fun xs w => by kernel_rfl) _ _
    [.o, .cb (ok_barbicanlaw7_known ) h0, .o, .o, .cr sv (ok_scalar_Const (x0)) ea0, .cr sv (ok_scalar_Unknown ) ea1, .o, .o, .cr sv (ok_scalar_Between (x1) (x2)) ea2, .o, .o, .o, .a 0, .a 1, .a 2, .a 0, .cb (ok_scalar_Is (ra0)) h1, .o, .o, .a 1, .cb (ok_scalar_Is (ra1)) h2, .o, .o, .o, .a 2, .cb (ok_scalar_Is (ra2)) h3, .o, .o, .o, .a 0, .o, .cb (ok_scalar_Has (ra0) (x3)) h4, .o, .o, .t (u_eq x3 x0) h5, .o, .o, .o, .a 1, .o, .cb (ok_scalar_Has (ra1) (x3)) h6, .o, .o, .o]
    [] (fun b => by kernel_rfl)
theorem p8_barbicanlaw7_ScalarMakes (x0 : BitVec 64) (x1 : BitVec 64) (x2 : BitVec 64) (x3 : BitVec 64) (ra0 : S) (ea0 : m_scalar_Const x0 = ra0) (ra1 : S) (ea1 : m_scalar_Unknown  = ra1) (ra2 : S) (ea2 : m_scalar_Between x1 x2 = ra2) (h0 : (m_barbicanlaw7_known ) = true) (h1 : (m_scalar_Is ra0) = true) (h2 : (m_scalar_Is ra1) = true) (h3 : (m_scalar_Is ra2) = true) (h4 : (m_scalar_Has ra0 x3) = true) (h5 : (x3 == x0) = false) : Con Tryz.prog 3 #[(.int .u64 (nn (x0))), (.int .u64 (nn (x1))), (.int .u64 (nn (x2))), (.int .u64 (nn (x3)))] (.bool (false)) :=
  fn_conI (P := Tryz.prog) Tryz.func3 (fun xs w => by kernel_rfl) _ _
    [.o, .cb (ok_barbicanlaw7_known ) h0, .o, .o, .cr sv (ok_scalar_Const (x0)) ea0, .cr sv (ok_scalar_Unknown ) ea1, .o, .o, .cr sv (ok_scalar_Between (x1) (x2)) ea2, .o, .o, .o, .a 0, .a 1, .a 2, .a 0, .cb (ok_scalar_Is (ra0)) h1, .o, .o, .a 1, .cb (ok_scalar_Is (ra1)) h2, .o, .o, .o, .a 2, .cb (ok_scalar_Is (ra2)) h3, .o, .o, .o, .a 0, .o, .cb (ok_scalar_Has (ra0) (x3)) h4, .o, .o, .t (u_eq x3 x0) h5, .o, .o, .o, .o, .o]
    [] (fun b => by kernel_rfl)
theorem p9_barbicanlaw7_ScalarMakes (x0 : BitVec 64) (x1 : BitVec 64) (x2 : BitVec 64) (x3 : BitVec 64) (ra0 : S) (ea0 : m_scalar_Const x0 = ra0) (ra1 : S) (ea1 : m_scalar_Unknown  = ra1) (ra2 : S) (ea2 : m_scalar_Between x1 x2 = ra2) (h0 : (m_barbicanlaw7_known ) = true) (h1 : (m_scalar_Is ra0) = true) (h2 : (m_scalar_Is ra1) = true) (h3 : (m_scalar_Is ra2) = true) (h4 : (m_scalar_Has ra0 x3) = false) (h5 : (x3 == x0) = true) : Con Tryz.prog 3 #[(.int .u64 (nn (x0))), (.int .u64 (nn (x1))), (.int .u64 (nn (x2))), (.int .u64 (nn (x3)))] (.bool (false)) :=
  fn_conI (P := Tryz.prog) Tryz.func3 (fun xs w => by kernel_rfl) _ _
    [.o, .cb (ok_barbicanlaw7_known ) h0, .o, .o, .cr sv (ok_scalar_Const (x0)) ea0, .cr sv (ok_scalar_Unknown ) ea1, .o, .o, .cr sv (ok_scalar_Between (x1) (x2)) ea2, .o, .o, .o, .a 0, .a 1, .a 2, .a 0, .cb (ok_scalar_Is (ra0)) h1, .o, .o, .a 1, .cb (ok_scalar_Is (ra1)) h2, .o, .o, .o, .a 2, .cb (ok_scalar_Is (ra2)) h3, .o, .o, .o, .a 0, .o, .cb (ok_scalar_Has (ra0) (x3)) h4, .o, .o, .t (u_eq x3 x0) h5, .o, .o, .o, .o, .o]
    [] (fun b => by kernel_rfl)
theorem p10_barbicanlaw7_ScalarMakes (x0 : BitVec 64) (x1 : BitVec 64) (x2 : BitVec 64) (x3 : BitVec 64) (ra0 : S) (ea0 : m_scalar_Const x0 = ra0) (ra1 : S) (ea1 : m_scalar_Unknown  = ra1) (ra2 : S) (ea2 : m_scalar_Between x1 x2 = ra2) (h0 : (m_barbicanlaw7_known ) = true) (h1 : (m_scalar_Is ra0) = true) (h2 : (m_scalar_Is ra1) = true) (h3 : (m_scalar_Is ra2) = true) (h4 : (m_scalar_Has ra0 x3) = false) (h5 : (x3 == x0) = false) (h6 : (m_scalar_Has ra1 x3) = true) (h7 : (BitVec.ult x2 x1) = true) : Con Tryz.prog 3 #[(.int .u64 (nn (x0))), (.int .u64 (nn (x1))), (.int .u64 (nn (x2))), (.int .u64 (nn (x3)))] (.bool (decide (ra2 = ra1))) :=
  fn_conI (P := Tryz.prog) Tryz.func3 (fun xs w => by kernel_rfl) _ _
    [.o, .cb (ok_barbicanlaw7_known ) h0, .o, .o, .cr sv (ok_scalar_Const (x0)) ea0, .cr sv (ok_scalar_Unknown ) ea1, .o, .o, .cr sv (ok_scalar_Between (x1) (x2)) ea2, .o, .o, .o, .a 0, .a 1, .a 2, .a 0, .cb (ok_scalar_Is (ra0)) h1, .o, .o, .a 1, .cb (ok_scalar_Is (ra1)) h2, .o, .o, .o, .a 2, .cb (ok_scalar_Is (ra2)) h3, .o, .o, .o, .a 0, .o, .cb (ok_scalar_Has (ra0) (x3)) h4, .o, .o, .t (u_eq x3 x0) h5, .o, .o, .o, .a 1, .o, .cb (ok_scalar_Has (ra1) (x3)) h6, .o, .o, .o, .o, .t (u_gt x1 x2) h7, .a 2, .a 1, .ov (fun w => (eq27 (ra2) (ra1) _ rfl (.tmp 51) (.tmp 52) w).1), .o]
    [] (fun b => by kernel_rfl)
theorem p11_barbicanlaw7_ScalarMakes (x0 : BitVec 64) (x1 : BitVec 64) (x2 : BitVec 64) (x3 : BitVec 64) (ra0 : S) (ea0 : m_scalar_Const x0 = ra0) (ra1 : S) (ea1 : m_scalar_Unknown  = ra1) (ra2 : S) (ea2 : m_scalar_Between x1 x2 = ra2) (h0 : (m_barbicanlaw7_known ) = true) (h1 : (m_scalar_Is ra0) = true) (h2 : (m_scalar_Is ra1) = true) (h3 : (m_scalar_Is ra2) = true) (h4 : (m_scalar_Has ra0 x3) = false) (h5 : (x3 == x0) = false) (h6 : (m_scalar_Has ra1 x3) = true) (h7 : (BitVec.ult x2 x1) = false) (h8 : (m_scalar_Has ra2 x3) = true) (h9 : (BitVec.ult x3 x1) = true) : Con Tryz.prog 3 #[(.int .u64 (nn (x0))), (.int .u64 (nn (x1))), (.int .u64 (nn (x2))), (.int .u64 (nn (x3)))] (.bool (false)) :=
  fn_conI (P := Tryz.prog) Tryz.func3 (fun xs w => by kernel_rfl) _ _
    [.o, .cb (ok_barbicanlaw7_known ) h0, .o, .o, .cr sv (ok_scalar_Const (x0)) ea0, .cr sv (ok_scalar_Unknown ) ea1, .o, .o, .cr sv (ok_scalar_Between (x1) (x2)) ea2, .o, .o, .o, .a 0, .a 1, .a 2, .a 0, .cb (ok_scalar_Is (ra0)) h1, .o, .o, .a 1, .cb (ok_scalar_Is (ra1)) h2, .o, .o, .o, .a 2, .cb (ok_scalar_Is (ra2)) h3, .o, .o, .o, .a 0, .o, .cb (ok_scalar_Has (ra0) (x3)) h4, .o, .o, .t (u_eq x3 x0) h5, .o, .o, .o, .a 1, .o, .cb (ok_scalar_Has (ra1) (x3)) h6, .o, .o, .o, .o, .t (u_gt x1 x2) h7, .a 2, .o, .cb (ok_scalar_Has (ra2) (x3)) h8, .o, .o, .tn (u_ge x3 x1) h9, .o, .o, .o, .o]
    [] (fun b => by kernel_rfl)
theorem p12_barbicanlaw7_ScalarMakes (x0 : BitVec 64) (x1 : BitVec 64) (x2 : BitVec 64) (x3 : BitVec 64) (ra0 : S) (ea0 : m_scalar_Const x0 = ra0) (ra1 : S) (ea1 : m_scalar_Unknown  = ra1) (ra2 : S) (ea2 : m_scalar_Between x1 x2 = ra2) (h0 : (m_barbicanlaw7_known ) = true) (h1 : (m_scalar_Is ra0) = true) (h2 : (m_scalar_Is ra1) = true) (h3 : (m_scalar_Is ra2) = true) (h4 : (m_scalar_Has ra0 x3) = false) (h5 : (x3 == x0) = false) (h6 : (m_scalar_Has ra1 x3) = true) (h7 : (BitVec.ult x2 x1) = false) (h8 : (m_scalar_Has ra2 x3) = true) (h9 : (BitVec.ult x3 x1) = false) (h10 : (BitVec.ult x2 x3) = true) : Con Tryz.prog 3 #[(.int .u64 (nn (x0))), (.int .u64 (nn (x1))), (.int .u64 (nn (x2))), (.int .u64 (nn (x3)))] (.bool (false)) :=
  fn_conI (P := Tryz.prog) Tryz.func3 (fun xs w => by kernel_rfl) _ _
    [.o, .cb (ok_barbicanlaw7_known ) h0, .o, .o, .cr sv (ok_scalar_Const (x0)) ea0, .cr sv (ok_scalar_Unknown ) ea1, .o, .o, .cr sv (ok_scalar_Between (x1) (x2)) ea2, .o, .o, .o, .a 0, .a 1, .a 2, .a 0, .cb (ok_scalar_Is (ra0)) h1, .o, .o, .a 1, .cb (ok_scalar_Is (ra1)) h2, .o, .o, .o, .a 2, .cb (ok_scalar_Is (ra2)) h3, .o, .o, .o, .a 0, .o, .cb (ok_scalar_Has (ra0) (x3)) h4, .o, .o, .t (u_eq x3 x0) h5, .o, .o, .o, .a 1, .o, .cb (ok_scalar_Has (ra1) (x3)) h6, .o, .o, .o, .o, .t (u_gt x1 x2) h7, .a 2, .o, .cb (ok_scalar_Has (ra2) (x3)) h8, .o, .o, .tn (u_ge x3 x1) h9, .o, .o, .o, .tn (u_le x3 x2) h10, .o, .o, .o]
    [] (fun b => by kernel_rfl)
theorem p13_barbicanlaw7_ScalarMakes (x0 : BitVec 64) (x1 : BitVec 64) (x2 : BitVec 64) (x3 : BitVec 64) (ra0 : S) (ea0 : m_scalar_Const x0 = ra0) (ra1 : S) (ea1 : m_scalar_Unknown  = ra1) (ra2 : S) (ea2 : m_scalar_Between x1 x2 = ra2) (h0 : (m_barbicanlaw7_known ) = true) (h1 : (m_scalar_Is ra0) = true) (h2 : (m_scalar_Is ra1) = true) (h3 : (m_scalar_Is ra2) = true) (h4 : (m_scalar_Has ra0 x3) = false) (h5 : (x3 == x0) = false) (h6 : (m_scalar_Has ra1 x3) = true) (h7 : (BitVec.ult x2 x1) = false) (h8 : (m_scalar_Has ra2 x3) = true) (h9 : (BitVec.ult x3 x1) = false) (h10 : (BitVec.ult x2 x3) = false) : Con Tryz.prog 3 #[(.int .u64 (nn (x0))), (.int .u64 (nn (x1))), (.int .u64 (nn (x2))), (.int .u64 (nn (x3)))] (.bool (true)) :=
  fn_conI (P := Tryz.prog) Tryz.func3 (fun xs w => by kernel_rfl) _ _
    [.o, .cb (ok_barbicanlaw7_known ) h0, .o, .o, .cr sv (ok_scalar_Const (x0)) ea0, .cr sv (ok_scalar_Unknown ) ea1, .o, .o, .cr sv (ok_scalar_Between (x1) (x2)) ea2, .o, .o, .o, .a 0, .a 1, .a 2, .a 0, .cb (ok_scalar_Is (ra0)) h1, .o, .o, .a 1, .cb (ok_scalar_Is (ra1)) h2, .o, .o, .o, .a 2, .cb (ok_scalar_Is (ra2)) h3, .o, .o, .o, .a 0, .o, .cb (ok_scalar_Has (ra0) (x3)) h4, .o, .o, .t (u_eq x3 x0) h5, .o, .o, .o, .a 1, .o, .cb (ok_scalar_Has (ra1) (x3)) h6, .o, .o, .o, .o, .t (u_gt x1 x2) h7, .a 2, .o, .cb (ok_scalar_Has (ra2) (x3)) h8, .o, .o, .tn (u_ge x3 x1) h9, .o, .o, .o, .tn (u_le x3 x2) h10, .o, .o, .o]
    [] (fun b => by kernel_rfl)
theorem p14_barbicanlaw7_ScalarMakes (x0 : BitVec 64) (x1 : BitVec 64) (x2 : BitVec 64) (x3 : BitVec 64) (ra0 : S) (ea0 : m_scalar_Const x0 = ra0) (ra1 : S) (ea1 : m_scalar_Unknown  = ra1) (ra2 : S) (ea2 : m_scalar_Between x1 x2 = ra2) (h0 : (m_barbicanlaw7_known ) = true) (h1 : (m_scalar_Is ra0) = true) (h2 : (m_scalar_Is ra1) = true) (h3 : (m_scalar_Is ra2) = true) (h4 : (m_scalar_Has ra0 x3) = false) (h5 : (x3 == x0) = false) (h6 : (m_scalar_Has ra1 x3) = true) (h7 : (BitVec.ult x2 x1) = false) (h8 : (m_scalar_Has ra2 x3) = false) (h9 : (BitVec.ult x3 x1) = true) : Con Tryz.prog 3 #[(.int .u64 (nn (x0))), (.int .u64 (nn (x1))), (.int .u64 (nn (x2))), (.int .u64 (nn (x3)))] (.bool (true)) :=
  fn_conI (P := Tryz.prog) Tryz.func3 (fun xs w => by kernel_rfl) _ _
    [.o, .cb (ok_barbicanlaw7_known ) h0, .o, .o, .cr sv (ok_scalar_Const (x0)) ea0, .cr sv (ok_scalar_Unknown ) ea1, .o, .o, .cr sv (ok_scalar_Between (x1) (x2)) ea2, .o, .o, .o, .a 0, .a 1, .a 2, .a 0, .cb (ok_scalar_Is (ra0)) h1, .o, .o, .a 1, .cb (ok_scalar_Is (ra1)) h2, .o, .o, .o, .a 2, .cb (ok_scalar_Is (ra2)) h3, .o, .o, .o, .a 0, .o, .cb (ok_scalar_Has (ra0) (x3)) h4, .o, .o, .t (u_eq x3 x0) h5, .o, .o, .o, .a 1, .o, .cb (ok_scalar_Has (ra1) (x3)) h6, .o, .o, .o, .o, .t (u_gt x1 x2) h7, .a 2, .o, .cb (ok_scalar_Has (ra2) (x3)) h8, .o, .o, .tn (u_ge x3 x1) h9, .o, .o, .o, .o]
    [] (fun b => by kernel_rfl)
theorem p15_barbicanlaw7_ScalarMakes (x0 : BitVec 64) (x1 : BitVec 64) (x2 : BitVec 64) (x3 : BitVec 64) (ra0 : S) (ea0 : m_scalar_Const x0 = ra0) (ra1 : S) (ea1 : m_scalar_Unknown  = ra1) (ra2 : S) (ea2 : m_scalar_Between x1 x2 = ra2) (h0 : (m_barbicanlaw7_known ) = true) (h1 : (m_scalar_Is ra0) = true) (h2 : (m_scalar_Is ra1) = true) (h3 : (m_scalar_Is ra2) = true) (h4 : (m_scalar_Has ra0 x3) = false) (h5 : (x3 == x0) = false) (h6 : (m_scalar_Has ra1 x3) = true) (h7 : (BitVec.ult x2 x1) = false) (h8 : (m_scalar_Has ra2 x3) = false) (h9 : (BitVec.ult x3 x1) = false) (h10 : (BitVec.ult x2 x3) = true) : Con Tryz.prog 3 #[(.int .u64 (nn (x0))), (.int .u64 (nn (x1))), (.int .u64 (nn (x2))), (.int .u64 (nn (x3)))] (.bool (true)) :=
  fn_conI (P := Tryz.prog) Tryz.func3 (fun xs w => by kernel_rfl) _ _
    [.o, .cb (ok_barbicanlaw7_known ) h0, .o, .o, .cr sv (ok_scalar_Const (x0)) ea0, .cr sv (ok_scalar_Unknown ) ea1, .o, .o, .cr sv (ok_scalar_Between (x1) (x2)) ea2, .o, .o, .o, .a 0, .a 1, .a 2, .a 0, .cb (ok_scalar_Is (ra0)) h1, .o, .o, .a 1, .cb (ok_scalar_Is (ra1)) h2, .o, .o, .o, .a 2, .cb (ok_scalar_Is (ra2)) h3, .o, .o, .o, .a 0, .o, .cb (ok_scalar_Has (ra0) (x3)) h4, .o, .o, .t (u_eq x3 x0) h5, .o, .o, .o, .a 1, .o, .cb (ok_scalar_Has (ra1) (x3)) h6, .o, .o, .o, .o, .t (u_gt x1 x2) h7, .a 2, .o, .cb (ok_scalar_Has (ra2) (x3)) h8, .o, .o, .tn (u_ge x3 x1) h9, .o, .o, .o, .tn (u_le x3 x2) h10, .o, .o, .o]
    [] (fun b => by kernel_rfl)
theorem p16_barbicanlaw7_ScalarMakes (x0 : BitVec 64) (x1 : BitVec 64) (x2 : BitVec 64) (x3 : BitVec 64) (ra0 : S) (ea0 : m_scalar_Const x0 = ra0) (ra1 : S) (ea1 : m_scalar_Unknown  = ra1) (ra2 : S) (ea2 : m_scalar_Between x1 x2 = ra2) (h0 : (m_barbicanlaw7_known ) = true) (h1 : (m_scalar_Is ra0) = true) (h2 : (m_scalar_Is ra1) = true) (h3 : (m_scalar_Is ra2) = true) (h4 : (m_scalar_Has ra0 x3) = false) (h5 : (x3 == x0) = false) (h6 : (m_scalar_Has ra1 x3) = true) (h7 : (BitVec.ult x2 x1) = false) (h8 : (m_scalar_Has ra2 x3) = false) (h9 : (BitVec.ult x3 x1) = false) (h10 : (BitVec.ult x2 x3) = false) : Con Tryz.prog 3 #[(.int .u64 (nn (x0))), (.int .u64 (nn (x1))), (.int .u64 (nn (x2))), (.int .u64 (nn (x3)))] (.bool (false)) :=
  fn_conI (P := Tryz.prog) Tryz.func3 (fun xs w => by kernel_rfl) _ _
    [.o, .cb (ok_barbicanlaw7_known ) h0, .o, .o, .cr sv (ok_scalar_Const (x0)) ea0, .cr sv (ok_scalar_Unknown ) ea1, .o, .o, .cr sv (ok_scalar_Between (x1) (x2)) ea2, .o, .o, .o, .a 0, .a 1, .a 2, .a 0, .cb (ok_scalar_Is (ra0)) h1, .o, .o, .a 1, .cb (ok_scalar_Is (ra1)) h2, .o, .o, .o, .a 2, .cb (ok_scalar_Is (ra2)) h3, .o, .o, .o, .a 0, .o, .cb (ok_scalar_Has (ra0) (x3)) h4, .o, .o, .t (u_eq x3 x0) h5, .o, .o, .o, .a 1, .o, .cb (ok_scalar_Has (ra1) (x3)) h6, .o, .o, .o, .o, .t (u_gt x1 x2) h7, .a 2, .o, .cb (ok_scalar_Has (ra2) (x3)) h8, .o, .o, .tn (u_ge x3 x1) h9, .o, .o, .o, .tn (u_le x3 x2) h10, .o, .o, .o]
    [] (fun b => by kernel_rfl)
theorem p17_barbicanlaw7_ScalarMakes (x0 : BitVec 64) (x1 : BitVec 64) (x2 : BitVec 64) (x3 : BitVec 64) (ra0 : S) (ea0 : m_scalar_Const x0 = ra0) (ra1 : S) (ea1 : m_scalar_Unknown  = ra1) (ra2 : S) (ea2 : m_scalar_Between x1 x2 = ra2) (h0 : (m_barbicanlaw7_known ) = true) (h1 : (m_scalar_Is ra0) = true) (h2 : (m_scalar_Is ra1) = true) (h3 : (m_scalar_Is ra2) = true) (h4 : (m_scalar_Has ra0 x3) = false) (h5 : (x3 == x0) = false) (h6 : (m_scalar_Has ra1 x3) = false) : Con Tryz.prog 3 #[(.int .u64 (nn (x0))), (.int .u64 (nn (x1))), (.int .u64 (nn (x2))), (.int .u64 (nn (x3)))] (.bool (false)) :=
  fn_conI (P := Tryz.prog) Tryz.func3 (fun xs w => by kernel_rfl) _ _
    [.o, .cb (ok_barbicanlaw7_known ) h0, .o, .o, .cr sv (ok_scalar_Const (x0)) ea0, .cr sv (ok_scalar_Unknown ) ea1, .o, .o, .cr sv (ok_scalar_Between (x1) (x2)) ea2, .o, .o, .o, .a 0, .a 1, .a 2, .a 0, .cb (ok_scalar_Is (ra0)) h1, .o, .o, .a 1, .cb (ok_scalar_Is (ra1)) h2, .o, .o, .o, .a 2, .cb (ok_scalar_Is (ra2)) h3, .o, .o, .o, .a 0, .o, .cb (ok_scalar_Has (ra0) (x3)) h4, .o, .o, .t (u_eq x3 x0) h5, .o, .o, .o, .a 1, .o, .cb (ok_scalar_Has (ra1) (x3)) h6, .o, .o, .o]
    [] (fun b => by kernel_rfl)
theorem p18_barbicanlaw7_ScalarMakes (x0 : BitVec 64) (x1 : BitVec 64) (x2 : BitVec 64) (x3 : BitVec 64) (ra0 : S) (ea0 : m_scalar_Const x0 = ra0) (ra1 : S) (ea1 : m_scalar_Unknown  = ra1) (ra2 : S) (ea2 : m_scalar_Between x1 x2 = ra2) (h0 : (m_barbicanlaw7_known ) = true) (h1 : (m_scalar_Is ra0) = true) (h2 : (m_scalar_Is ra1) = true) (h3 : (m_scalar_Is ra2) = false) : Con Tryz.prog 3 #[(.int .u64 (nn (x0))), (.int .u64 (nn (x1))), (.int .u64 (nn (x2))), (.int .u64 (nn (x3)))] (.bool (false)) :=
  fn_conI (P := Tryz.prog) Tryz.func3 (fun xs w => by kernel_rfl) _ _
    [.o, .cb (ok_barbicanlaw7_known ) h0, .o, .o, .cr sv (ok_scalar_Const (x0)) ea0, .cr sv (ok_scalar_Unknown ) ea1, .o, .o, .cr sv (ok_scalar_Between (x1) (x2)) ea2, .o, .o, .o, .a 0, .a 1, .a 2, .a 0, .cb (ok_scalar_Is (ra0)) h1, .o, .o, .a 1, .cb (ok_scalar_Is (ra1)) h2, .o, .o, .o, .a 2, .cb (ok_scalar_Is (ra2)) h3, .o, .o, .o, .o, .o, .o, .o]
    [] (fun b => by kernel_rfl)
theorem p19_barbicanlaw7_ScalarMakes (x0 : BitVec 64) (x1 : BitVec 64) (x2 : BitVec 64) (x3 : BitVec 64) (ra0 : S) (ea0 : m_scalar_Const x0 = ra0) (ra1 : S) (ea1 : m_scalar_Unknown  = ra1) (ra2 : S) (ea2 : m_scalar_Between x1 x2 = ra2) (h0 : (m_barbicanlaw7_known ) = true) (h1 : (m_scalar_Is ra0) = true) (h2 : (m_scalar_Is ra1) = false) : Con Tryz.prog 3 #[(.int .u64 (nn (x0))), (.int .u64 (nn (x1))), (.int .u64 (nn (x2))), (.int .u64 (nn (x3)))] (.bool (false)) :=
  fn_conI (P := Tryz.prog) Tryz.func3 (fun xs w => by kernel_rfl) _ _
    [.o, .cb (ok_barbicanlaw7_known ) h0, .o, .o, .cr sv (ok_scalar_Const (x0)) ea0, .cr sv (ok_scalar_Unknown ) ea1, .o, .o, .cr sv (ok_scalar_Between (x1) (x2)) ea2, .o, .o, .o, .a 0, .a 1, .a 2, .a 0, .cb (ok_scalar_Is (ra0)) h1, .o, .o, .a 1, .cb (ok_scalar_Is (ra1)) h2, .o, .o, .o, .o, .o, .o, .o, .o, .o]
    [] (fun b => by kernel_rfl)
theorem p20_barbicanlaw7_ScalarMakes (x0 : BitVec 64) (x1 : BitVec 64) (x2 : BitVec 64) (x3 : BitVec 64) (ra0 : S) (ea0 : m_scalar_Const x0 = ra0) (ra1 : S) (ea1 : m_scalar_Unknown  = ra1) (ra2 : S) (ea2 : m_scalar_Between x1 x2 = ra2) (h0 : (m_barbicanlaw7_known ) = true) (h1 : (m_scalar_Is ra0) = false) : Con Tryz.prog 3 #[(.int .u64 (nn (x0))), (.int .u64 (nn (x1))), (.int .u64 (nn (x2))), (.int .u64 (nn (x3)))] (.bool (false)) :=
  fn_conI (P := Tryz.prog) Tryz.func3 (fun xs w => by kernel_rfl) _ _
    [.o, .cb (ok_barbicanlaw7_known ) h0, .o, .o, .cr sv (ok_scalar_Const (x0)) ea0, .cr sv (ok_scalar_Unknown ) ea1, .o, .o, .cr sv (ok_scalar_Between (x1) (x2)) ea2, .o, .o, .o, .a 0, .a 1, .a 2, .a 0, .cb (ok_scalar_Is (ra0)) h1, .o, .o, .o, .o, .o, .o, .o, .o, .o, .o]
    [] (fun b => by kernel_rfl)
theorem p21_barbicanlaw7_ScalarMakes (x0 : BitVec 64) (x1 : BitVec 64) (x2 : BitVec 64) (x3 : BitVec 64) (h0 : (m_barbicanlaw7_known ) = false) : Con Tryz.prog 3 #[(.int .u64 (nn (x0))), (.int .u64 (nn (x1))), (.int .u64 (nn (x2))), (.int .u64 (nn (x3)))] (.bool (false)) :=
  fn_conI (P := Tryz.prog) Tryz.func3 (fun xs w => by kernel_rfl) _ _
    [.o, .cb (ok_barbicanlaw7_known ) h0, .o, .o]
    [] (fun b => by kernel_rfl)
theorem ok_barbicanlaw7_ScalarMakes (x0 : BitVec 64) (x1 : BitVec 64) (x2 : BitVec 64) (x3 : BitVec 64) : Con Tryz.prog 3 #[(.int .u64 (nn (x0))), (.int .u64 (nn (x1))), (.int .u64 (nn (x2))), (.int .u64 (nn (x3)))] (.bool (m_barbicanlaw7_ScalarMakes x0 x1 x2 x3)) := by
  unfold m_barbicanlaw7_ScalarMakes
  refine Con.cond (fun r => (Value.bool (r))) _ _ _ (fun h0 => ?_) (fun h0 => ?_)
  · refine Con.cond (fun r => (Value.bool (r))) _ _ _ (fun h1 => ?_) (fun h1 => ?_)
    · refine Con.cond (fun r => (Value.bool (r))) _ _ _ (fun h2 => ?_) (fun h2 => ?_)
      · refine Con.cond (fun r => (Value.bool (r))) _ _ _ (fun h3 => ?_) (fun h3 => ?_)
        · refine Con.cond (fun r => (Value.bool (r))) _ _ _ (fun h4 => ?_) (fun h4 => ?_)
          · refine Con.cond (fun r => (Value.bool (r))) _ _ _ (fun h5 => ?_) (fun h5 => ?_)
            · refine Con.cond (fun r => (Value.bool (r))) _ _ _ (fun h6 => ?_) (fun h6 => ?_)
              · refine Con.cond (fun r => (Value.bool (r))) _ _ _ (fun h7 => ?_) (fun h7 => ?_)
                · exact p0_barbicanlaw7_ScalarMakes x0 x1 x2 x3 _ rfl _ rfl _ rfl h0 h1 h2 h3 h4 h5 h6 h7
                · refine Con.cond (fun r => (Value.bool (r))) _ _ _ (fun h8 => ?_) (fun h8 => ?_)
                  · refine Con.cond (fun r => (Value.bool (r))) _ _ _ (fun h9 => ?_) (fun h9 => ?_)
                    · exact p1_barbicanlaw7_ScalarMakes x0 x1 x2 x3 _ rfl _ rfl _ rfl h0 h1 h2 h3 h4 h5 h6 h7 h8 h9
                    · refine Con.cond (fun r => (Value.bool (r))) _ _ _ (fun h10 => ?_) (fun h10 => ?_)
                      · exact p2_barbicanlaw7_ScalarMakes x0 x1 x2 x3 _ rfl _ rfl _ rfl h0 h1 h2 h3 h4 h5 h6 h7 h8 h9 h10
                      · exact p3_barbicanlaw7_ScalarMakes x0 x1 x2 x3 _ rfl _ rfl _ rfl h0 h1 h2 h3 h4 h5 h6 h7 h8 h9 h10
                  · refine Con.cond (fun r => (Value.bool (r))) _ _ _ (fun h9 => ?_) (fun h9 => ?_)
                    · exact p4_barbicanlaw7_ScalarMakes x0 x1 x2 x3 _ rfl _ rfl _ rfl h0 h1 h2 h3 h4 h5 h6 h7 h8 h9
                    · refine Con.cond (fun r => (Value.bool (r))) _ _ _ (fun h10 => ?_) (fun h10 => ?_)
                      · exact p5_barbicanlaw7_ScalarMakes x0 x1 x2 x3 _ rfl _ rfl _ rfl h0 h1 h2 h3 h4 h5 h6 h7 h8 h9 h10
                      · exact p6_barbicanlaw7_ScalarMakes x0 x1 x2 x3 _ rfl _ rfl _ rfl h0 h1 h2 h3 h4 h5 h6 h7 h8 h9 h10
              · exact p7_barbicanlaw7_ScalarMakes x0 x1 x2 x3 _ rfl _ rfl _ rfl h0 h1 h2 h3 h4 h5 h6
            · exact p8_barbicanlaw7_ScalarMakes x0 x1 x2 x3 _ rfl _ rfl _ rfl h0 h1 h2 h3 h4 h5
          · refine Con.cond (fun r => (Value.bool (r))) _ _ _ (fun h5 => ?_) (fun h5 => ?_)
            · exact p9_barbicanlaw7_ScalarMakes x0 x1 x2 x3 _ rfl _ rfl _ rfl h0 h1 h2 h3 h4 h5
            · refine Con.cond (fun r => (Value.bool (r))) _ _ _ (fun h6 => ?_) (fun h6 => ?_)
              · refine Con.cond (fun r => (Value.bool (r))) _ _ _ (fun h7 => ?_) (fun h7 => ?_)
                · exact p10_barbicanlaw7_ScalarMakes x0 x1 x2 x3 _ rfl _ rfl _ rfl h0 h1 h2 h3 h4 h5 h6 h7
                · refine Con.cond (fun r => (Value.bool (r))) _ _ _ (fun h8 => ?_) (fun h8 => ?_)
                  · refine Con.cond (fun r => (Value.bool (r))) _ _ _ (fun h9 => ?_) (fun h9 => ?_)
                    · exact p11_barbicanlaw7_ScalarMakes x0 x1 x2 x3 _ rfl _ rfl _ rfl h0 h1 h2 h3 h4 h5 h6 h7 h8 h9
                    · refine Con.cond (fun r => (Value.bool (r))) _ _ _ (fun h10 => ?_) (fun h10 => ?_)
                      · exact p12_barbicanlaw7_ScalarMakes x0 x1 x2 x3 _ rfl _ rfl _ rfl h0 h1 h2 h3 h4 h5 h6 h7 h8 h9 h10
                      · exact p13_barbicanlaw7_ScalarMakes x0 x1 x2 x3 _ rfl _ rfl _ rfl h0 h1 h2 h3 h4 h5 h6 h7 h8 h9 h10
                  · refine Con.cond (fun r => (Value.bool (r))) _ _ _ (fun h9 => ?_) (fun h9 => ?_)
                    · exact p14_barbicanlaw7_ScalarMakes x0 x1 x2 x3 _ rfl _ rfl _ rfl h0 h1 h2 h3 h4 h5 h6 h7 h8 h9
                    · refine Con.cond (fun r => (Value.bool (r))) _ _ _ (fun h10 => ?_) (fun h10 => ?_)
                      · exact p15_barbicanlaw7_ScalarMakes x0 x1 x2 x3 _ rfl _ rfl _ rfl h0 h1 h2 h3 h4 h5 h6 h7 h8 h9 h10
                      · exact p16_barbicanlaw7_ScalarMakes x0 x1 x2 x3 _ rfl _ rfl _ rfl h0 h1 h2 h3 h4 h5 h6 h7 h8 h9 h10
              · exact p17_barbicanlaw7_ScalarMakes x0 x1 x2 x3 _ rfl _ rfl _ rfl h0 h1 h2 h3 h4 h5 h6
        · exact p18_barbicanlaw7_ScalarMakes x0 x1 x2 x3 _ rfl _ rfl _ rfl h0 h1 h2 h3
      · exact p19_barbicanlaw7_ScalarMakes x0 x1 x2 x3 _ rfl _ rfl _ rfl h0 h1 h2
    · exact p20_barbicanlaw7_ScalarMakes x0 x1 x2 x3 _ rfl _ rfl _ rfl h0 h1
  · exact p21_barbicanlaw7_ScalarMakes x0 x1 x2 x3 h0
end Go.Proofs.YtmhiiahfjoijgaaGreat
