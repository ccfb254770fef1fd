/-
  The law ScalarMasked, by the program's own text.
-/
import Derived.Test.YtmhiiahfjoijgaaGreatL7G
namespace Go.Proofs.YtmhiiahfjoijgaaGreat
open Go.RowKit
set_option linter.unusedVariables false
set_option linter.unusedSimpArgs false
set_option maxRecDepth 100000
set_option maxHeartbeats 4000000
-- barbican/barbicanlaw7.ScalarMasked
def m_barbicanlaw7_ScalarMasked (x0 : A4) (x1 : BitVec 64) (x2 : Bool) : Bool :=
  (bif m_barbicanlaw7_known  then
    (bif BitVec.ult x1 (m_scalar_Do (5#64) x2 (m_barbicanlaw7_made_4 x0.a x0.b x0.c x0.d) (m_scalar_Const x1)).umax then
      (false)
      else (bif (m_scalar_Do (5#64) true (m_scalar_Unknown ) (m_scalar_Const x1)).umin == 0#64 then
        (bif (m_scalar_Do (5#64) true (m_scalar_Unknown ) (m_scalar_Const x1)).umax == x1 then
          (bif m_scalar_Has (m_scalar_Do (5#64) true (m_scalar_Unknown ) (m_scalar_Const x1)) x1 then
            (m_scalar_Has (m_scalar_Do (5#64) true (m_scalar_Unknown ) (m_scalar_Const x1)) (0#64))
            else (false))
          else (false))
        else (false)))
    else (false))
theorem p0_barbicanlaw7_ScalarMasked (x0 : A4) (x1 : BitVec 64) (x2 : Bool) (ra0 : S) (ea0 : m_barbicanlaw7_made_4 x0.a x0.b x0.c x0.d = ra0) (ra1 : S) (ea1 : m_scalar_Const x1 = ra1) (ra2 : S) (ea2 : m_scalar_Do (5#64) x2 ra0 ra1 = ra2) (ra3 : S) (ea3 : m_scalar_Unknown  = ra3) (ra4 : S) (ea4 : m_scalar_Const x1 = ra4) (ra5 : S) (ea5 : m_scalar_Do (5#64) true ra3 ra4 = ra5) (h0 : (m_barbicanlaw7_known ) = true) (h1 : (BitVec.ult x1 ra2.umax) = true) : Con Tryz.prog 8 #[(a4v (x0)), (.int .u64 (nn (x1))), (.bool (x2))] (.bool (false)) :=
  fn_conI (P := Tryz.prog) Tryz.func8 (fun xs w => by kernel_rfl) _ _
    [.o, .o, .cb (ok_barbicanlaw7_known ) h0, .o, .o, .x (Sp.val (sq_barbicanlaw7_made_4 x0.a x0.b x0.c x0.d) (ok_barbicanlaw7_made_4 x0.a x0.b x0.c x0.d) (congrArg sv ea0)) [0], .o, .a 1, .r [0, 1, 2, 3, 4] [5] [6], .o, .a 1, .o, .cr sv (ok_scalar_Const (x1)) ea1, .cr sv (ok_scalar_Do (5#64) (x2) (ra0) (ra1)) ea2, .a 2, .cr sv (ok_scalar_Unknown ) ea3, .o, .cr sv (ok_scalar_Const (x1)) ea4, .cr sv (ok_scalar_Do (5#64) (true) (ra3) (ra4)) ea5, .o, .a 3, .o, .a 2, .o, .tn (u_le ra2.umax x1) h1, .o, .o, .o, .o, .o, .o, .o, .o, .o]
    [] (fun b => by kernel_rfl)
theorem p1_barbicanlaw7_ScalarMasked (x0 : A4) (x1 : BitVec 64) (x2 : Bool) (ra0 : S) (ea0 : m_barbicanlaw7_made_4 x0.a x0.b x0.c x0.d = ra0) (ra1 : S) (ea1 : m_scalar_Const x1 = ra1) (ra2 : S) (ea2 : m_scalar_Do (5#64) x2 ra0 ra1 = ra2) (ra3 : S) (ea3 : m_scalar_Unknown  = ra3) (ra4 : S) (ea4 : m_scalar_Const x1 = ra4) (ra5 : S) (ea5 : m_scalar_Do (5#64) true ra3 ra4 = ra5) (h0 : (m_barbicanlaw7_known ) = true) (h1 : (BitVec.ult x1 ra2.umax) = false) (h2 : (ra5.umin == 0#64) = true) (h3 : (ra5.umax == x1) = true) (h4 : (m_scalar_Has ra5 x1) = true) : Con Tryz.prog 8 #[(a4v (x0)), (.int .u64 (nn (x1))), (.bool (x2))] (.bool (m_scalar_Has ra5 (0#64))) :=
  fn_conI (P := Tryz.prog) Tryz.func8 (fun xs w => by kernel_rfl) _ _
    [.o, .o, .cb (ok_barbicanlaw7_known ) h0, .o, .o, .x (Sp.val (sq_barbicanlaw7_made_4 x0.a x0.b x0.c x0.d) (ok_barbicanlaw7_made_4 x0.a x0.b x0.c x0.d) (congrArg sv ea0)) [0], .o, .a 1, .r [0, 1, 2, 3, 4] [5] [6], .o, .a 1, .o, .cr sv (ok_scalar_Const (x1)) ea1, .cr sv (ok_scalar_Do (5#64) (x2) (ra0) (ra1)) ea2, .a 2, .cr sv (ok_scalar_Unknown ) ea3, .o, .cr sv (ok_scalar_Const (x1)) ea4, .cr sv (ok_scalar_Do (5#64) (true) (ra3) (ra4)) ea5, .o, .a 3, .o, .a 2, .o, .tn (u_le ra2.umax x1) h1, .o, .o, .a 3, .t (u_eq ra5.umin 0#64) h2, .o, .o, .o, .a 3, .o, .t (u_eq ra5.umax x1) h3, .o, .o, .a 3, .o, .cb (ok_scalar_Has (ra5) (x1)) h4, .o, .o, .a 3, .cb (ok_scalar_Has (ra5) (0#64)) rfl, .o, .o]
    [] (fun b => by kernel_rfl)
theorem p2_barbicanlaw7_ScalarMasked (x0 : A4) (x1 : BitVec 64) (x2 : Bool) (ra0 : S) (ea0 : m_barbicanlaw7_made_4 x0.a x0.b x0.c x0.d = ra0) (ra1 : S) (ea1 : m_scalar_Const x1 = ra1) (ra2 : S) (ea2 : m_scalar_Do (5#64) x2 ra0 ra1 = ra2) (ra3 : S) (ea3 : m_scalar_Unknown  = ra3) (ra4 : S) (ea4 : m_scalar_Const x1 = ra4) (ra5 : S) (ea5 : m_scalar_Do (5#64) true ra3 ra4 = ra5) (h0 : (m_barbicanlaw7_known ) = true) (h1 : (BitVec.ult x1 ra2.umax) = false) (h2 : (ra5.umin == 0#64) = true) (h3 : (ra5.umax == x1) = true) (h4 : (m_scalar_Has ra5 x1) = false) : Con Tryz.prog 8 #[(a4v (x0)), (.int .u64 (nn (x1))), (.bool (x2))] (.bool (false)) :=
  fn_conI (P := Tryz.prog) Tryz.func8 (fun xs w => by kernel_rfl) _ _
    [.o, .o, .cb (ok_barbicanlaw7_known ) h0, .o, .o, .x (Sp.val (sq_barbicanlaw7_made_4 x0.a x0.b x0.c x0.d) (ok_barbicanlaw7_made_4 x0.a x0.b x0.c x0.d) (congrArg sv ea0)) [0], .o, .a 1, .r [0, 1, 2, 3, 4] [5] [6], .o, .a 1, .o, .cr sv (ok_scalar_Const (x1)) ea1, .cr sv (ok_scalar_Do (5#64) (x2) (ra0) (ra1)) ea2, .a 2, .cr sv (ok_scalar_Unknown ) ea3, .o, .cr sv (ok_scalar_Const (x1)) ea4, .cr sv (ok_scalar_Do (5#64) (true) (ra3) (ra4)) ea5, .o, .a 3, .o, .a 2, .o, .tn (u_le ra2.umax x1) h1, .o, .o, .a 3, .t (u_eq ra5.umin 0#64) h2, .o, .o, .o, .a 3, .o, .t (u_eq ra5.umax x1) h3, .o, .o, .a 3, .o, .cb (ok_scalar_Has (ra5) (x1)) h4, .o, .o, .o, .o]
    [] (fun b => by kernel_rfl)
theorem p3_barbicanlaw7_ScalarMasked (x0 : A4) (x1 : BitVec 64) (x2 : Bool) (ra0 : S) (ea0 : m_barbicanlaw7_made_4 x0.a x0.b x0.c x0.d = ra0) (ra1 : S) (ea1 : m_scalar_Const x1 = ra1) (ra2 : S) (ea2 : m_scalar_Do (5#64) x2 ra0 ra1 = ra2) (ra3 : S) (ea3 : m_scalar_Unknown  = ra3) (ra4 : S) (ea4 : m_scalar_Const x1 = ra4) (ra5 : S) (ea5 : m_scalar_Do (5#64) true ra3 ra4 = ra5) (h0 : (m_barbicanlaw7_known ) = true) (h1 : (BitVec.ult x1 ra2.umax) = false) (h2 : (ra5.umin == 0#64) = true) (h3 : (ra5.umax == x1) = false) : Con Tryz.prog 8 #[(a4v (x0)), (.int .u64 (nn (x1))), (.bool (x2))] (.bool (false)) :=
  fn_conI (P := Tryz.prog) Tryz.func8 (fun xs w => by kernel_rfl) _ _
    [.o, .o, .cb (ok_barbicanlaw7_known ) h0, .o, .o, .x (Sp.val (sq_barbicanlaw7_made_4 x0.a x0.b x0.c x0.d) (ok_barbicanlaw7_made_4 x0.a x0.b x0.c x0.d) (congrArg sv ea0)) [0], .o, .a 1, .r [0, 1, 2, 3, 4] [5] [6], .o, .a 1, .o, .cr sv (ok_scalar_Const (x1)) ea1, .cr sv (ok_scalar_Do (5#64) (x2) (ra0) (ra1)) ea2, .a 2, .cr sv (ok_scalar_Unknown ) ea3, .o, .cr sv (ok_scalar_Const (x1)) ea4, .cr sv (ok_scalar_Do (5#64) (true) (ra3) (ra4)) ea5, .o, .a 3, .o, .a 2, .o, .tn (u_le ra2.umax x1) h1, .o, .o, .a 3, .t (u_eq ra5.umin 0#64) h2, .o, .o, .o, .a 3, .o, .t (u_eq ra5.umax x1) h3, .o, .o, .o, .o, .o, .o]
    [] (fun b => by kernel_rfl)
theorem p4_barbicanlaw7_ScalarMasked (x0 : A4) (x1 : BitVec 64) (x2 : Bool) (ra0 : S) (ea0 : m_barbicanlaw7_made_4 x0.a x0.b x0.c x0.d = ra0) (ra1 : S) (ea1 : m_scalar_Const x1 = ra1) (ra2 : S) (ea2 : m_scalar_Do (5#64) x2 ra0 ra1 = ra2) (ra3 : S) (ea3 : m_scalar_Unknown  = ra3) (ra4 : S) (ea4 : m_scalar_Const x1 = ra4) (ra5 : S) (ea5 : m_scalar_Do (5#64) true ra3 ra4 = ra5) (h0 : (m_barbicanlaw7_known ) = true) (h1 : (BitVec.ult x1 ra2.umax) = false) (h2 : (ra5.umin == 0#64) = false) : Con Tryz.prog 8 #[(a4v (x0)), (.int .u64 (nn (x1))), (.bool (x2))] (.bool (false)) :=
  fn_conI (P := Tryz.prog) Tryz.func8 (fun xs w => by kernel_rfl) _ _
    [.o, .o, .cb (ok_barbicanlaw7_known ) h0, .o, .o, .x (Sp.val (sq_barbicanlaw7_made_4 x0.a x0.b x0.c x0.d) (ok_barbicanlaw7_made_4 x0.a x0.b x0.c x0.d) (congrArg sv ea0)) [0], .o, .a 1, .r [0, 1, 2, 3, 4] [5] [6], .o, .a 1, .o, .cr sv (ok_scalar_Const (x1)) ea1, .cr sv (ok_scalar_Do (5#64) (x2) (ra0) (ra1)) ea2, .a 2, .cr sv (ok_scalar_Unknown ) ea3, .o, .cr sv (ok_scalar_Const (x1)) ea4, .cr sv (ok_scalar_Do (5#64) (true) (ra3) (ra4)) ea5, .o, .a 3, .o, .a 2, .o, .tn (u_le ra2.umax x1) h1, .o, .o, .a 3, .t (u_eq ra5.umin 0#64) h2, .o, .o, .o, .o, .o, .o, .o, .o]
    [] (fun b => by kernel_rfl)
theorem p5_barbicanlaw7_ScalarMasked (x0 : A4) (x1 : BitVec 64) (x2 : Bool) (h0 : (m_barbicanlaw7_known ) = false) : Con Tryz.prog 8 #[(a4v (x0)), (.int .u64 (nn (x1))), (.bool (x2))] (.bool (false)) :=
  fn_conI (P := Tryz.prog) Tryz.func8 (fun xs w => by kernel_rfl) _ _
    [.o, .o, .cb (ok_barbicanlaw7_known ) h0, .o, .o]
    [] (fun b => by kernel_rfl)
theorem ok_barbicanlaw7_ScalarMasked (x0 : A4) (x1 : BitVec 64) (x2 : Bool) : Con Tryz.prog 8 #[(a4v (x0)), (.int .u64 (nn (x1))), (.bool (x2))] (.bool (m_barbicanlaw7_ScalarMasked x0 x1 x2)) := by
  unfold m_barbicanlaw7_ScalarMasked
  refine Con.cond (fun r => (Value.bool (r))) _ _ _ (fun h0 => ?_) (fun h0 => ?_)
  · refine Con.cond (fun r => (Value.bool (r))) _ _ _ (fun h1 => ?_) (fun h1 => ?_)
    · exact p0_barbicanlaw7_ScalarMasked x0 x1 x2 _ rfl _ rfl _ rfl _ rfl _ rfl _ rfl h0 h1
    · refine Con.cond (fun r => (Value.bool (r))) _ _ _ (fun h2 => ?_) (fun h2 => ?_)
      · refine Con.cond (fun r => (Value.bool (r))) _ _ _ (fun h3 => ?_) (fun h3 => ?_)
        · refine Con.cond (fun r => (Value.bool (r))) _ _ _ (fun h4 => ?_) (fun h4 => ?_)
          · exact p1_barbicanlaw7_ScalarMasked x0 x1 x2 _ rfl _ rfl _ rfl _ rfl _ rfl _ rfl h0 h1 h2 h3 h4
          · exact p2_barbicanlaw7_ScalarMasked x0 x1 x2 _ rfl _ rfl _ rfl _ rfl _ rfl _ rfl h0 h1 h2 h3 h4
        · exact p3_barbicanlaw7_ScalarMasked x0 x1 x2 _ rfl _ rfl _ rfl _ rfl _ rfl _ rfl h0 h1 h2 h3
      · exact p4_barbicanlaw7_ScalarMasked x0 x1 x2 _ rfl _ rfl _ rfl _ rfl _ rfl _ rfl h0 h1 h2
  · exact p5_barbicanlaw7_ScalarMasked x0 x1 x2 h0
end Go.Proofs.YtmhiiahfjoijgaaGreat
