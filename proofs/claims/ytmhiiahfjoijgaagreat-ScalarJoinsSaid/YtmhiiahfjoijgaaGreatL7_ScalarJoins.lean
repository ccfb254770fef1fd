/-
  The law ScalarJoins, by the program's own text.
-/
import Derived.Test.YtmhiiahfjoijgaaGreatL7G
namespace Go.Proofs.YtmhiiahfjoijgaaGreat
open Go.RowKit
set_option linter.unusedVariables false
set_option linter.unusedSimpArgs false
set_option maxRecDepth 100000
set_option maxHeartbeats 4000000
-- barbican/barbicanlaw7.ScalarJoins
def m_barbicanlaw7_ScalarJoins (x0 : A4) (x1 : A4) (x2 : BitVec 64) : Bool :=
  (bif m_barbicanlaw7_known  then
    (bif decide ((m_scalar_Join (m_barbicanlaw7_made_4 x0.a x0.b x0.c x0.d) (m_barbicanlaw7_made_4 x1.a x1.b x1.c x1.d)) = (m_scalar_Join (m_barbicanlaw7_made_4 x1.a x1.b x1.c x1.d) (m_barbicanlaw7_made_4 x0.a x0.b x0.c x0.d))) then
      (bif m_scalar_In (m_barbicanlaw7_made_4 x0.a x0.b x0.c x0.d) (m_scalar_Join (m_barbicanlaw7_made_4 x0.a x0.b x0.c x0.d) (m_barbicanlaw7_made_4 x1.a x1.b x1.c x1.d)) then
        (bif m_scalar_In (m_barbicanlaw7_made_4 x1.a x1.b x1.c x1.d) (m_scalar_Join (m_barbicanlaw7_made_4 x0.a x0.b x0.c x0.d) (m_barbicanlaw7_made_4 x1.a x1.b x1.c x1.d)) then
          (bif decide ((m_scalar_Join (m_barbicanlaw7_made_4 x0.a x0.b x0.c x0.d) (m_barbicanlaw7_made_4 x0.a x0.b x0.c x0.d)) = (m_barbicanlaw7_made_4 x0.a x0.b x0.c x0.d)) then
            (bif m_scalar_In (m_barbicanlaw7_made_4 x0.a x0.b x0.c x0.d) (m_barbicanlaw7_made_4 x1.a x1.b x1.c x1.d) then
              (decide ((m_scalar_Join (m_barbicanlaw7_made_4 x0.a x0.b x0.c x0.d) (m_barbicanlaw7_made_4 x1.a x1.b x1.c x1.d)) = (m_barbicanlaw7_made_4 x1.a x1.b x1.c x1.d)))
              else (true))
            else (false))
          else (false))
        else (false))
      else (false))
    else (false))
theorem p0_barbicanlaw7_ScalarJoins (x0 : A4) (x1 : A4) (x2 : BitVec 64) (ra0 : S) (ea0 : m_barbicanlaw7_made_4 x0.a x0.b x0.c x0.d = ra0) (ra1 : S) (ea1 : m_barbicanlaw7_made_4 x1.a x1.b x1.c x1.d = ra1) (ra2 : S) (ea2 : m_scalar_Join ra0 ra1 = ra2) (ra3 : S) (ea3 : m_scalar_Join ra1 ra0 = ra3) (ra4 : S) (ea4 : m_scalar_Join ra0 ra0 = ra4) (h0 : (m_barbicanlaw7_known ) = true) (h1 : (decide (ra2 = ra3)) = true) (h2 : (m_scalar_In ra0 ra2) = true) (h3 : (m_scalar_In ra1 ra2) = true) (h4 : (decide (ra4 = ra0)) = true) (h5 : (m_scalar_In ra0 ra1) = true) : Con Tryz.prog 10 #[(a4v (x0)), (a4v (x1)), (.int .u64 (nn (x2)))] (.bool (decide (ra2 = ra1))) :=
  fn_conI (P := Tryz.prog) Tryz.func10 (fun xs w => by kernel_rfl) _ _
    [.o, .o, .o, .cb (ok_barbicanlaw7_known ) h0, .o, .r [0, 2] [4, 5] [1, 3, 6, 7], .o, .o, .x (Sp.val (sq_barbicanlaw7_made_4 x0.a x0.b x0.c x0.d) (ok_barbicanlaw7_made_4 x0.a x0.b x0.c x0.d) (congrArg sv ea0)) [0], .x (Sp.val (sq_barbicanlaw7_made_4 x1.a x1.b x1.c x1.d) (ok_barbicanlaw7_made_4 x1.a x1.b x1.c x1.d) (congrArg sv ea1)) [1], .a 2, .a 3, .r [0, 1, 2, 3, 4, 5] [6, 7] [8, 9], .a 2, .a 3, .cr sv (ok_scalar_Join (ra0) (ra1)) ea2, .a 3, .a 2, .cr sv (ok_scalar_Join (ra1) (ra0)) ea3, .a 4, .a 5, .r [0, 1, 2, 3, 4, 5, 6, 7, 8, 9, 10, 11, 12, 13, 14, 15, 16, 17, 18, 19, 20, 21] [] [], .a 4, .a 5, .ov (fun w => (eq27 (ra2) (ra3) _ h1 (.tmp 23) (.tmp 24) w).2), .o, .a 2, .a 4, .cb (ok_scalar_In (ra0) (ra2)) h2, .o, .o, .o, .a 3, .a 4, .cb (ok_scalar_In (ra1) (ra2)) h3, .o, .o, .o, .a 2, .a 2, .cr sv (ok_scalar_Join (ra0) (ra0)) ea4, .a 2, .ov (fun w => (eq27 (ra4) (ra0) _ h4 (.tmp 41) (.tmp 42) w).2), .o, .a 2, .a 3, .cb (ok_scalar_In (ra0) (ra1)) h5, .o, .o, .a 4, .a 3, .ov (fun w => (eq27 (ra2) (ra1) _ rfl (.tmp 50) (.tmp 51) w).1), .o, .o]
    [] (fun b => by kernel_rfl)
theorem p1_barbicanlaw7_ScalarJoins (x0 : A4) (x1 : A4) (x2 : BitVec 64) (ra0 : S) (ea0 : m_barbicanlaw7_made_4 x0.a x0.b x0.c x0.d = ra0) (ra1 : S) (ea1 : m_barbicanlaw7_made_4 x1.a x1.b x1.c x1.d = ra1) (ra2 : S) (ea2 : m_scalar_Join ra0 ra1 = ra2) (ra3 : S) (ea3 : m_scalar_Join ra1 ra0 = ra3) (ra4 : S) (ea4 : m_scalar_Join ra0 ra0 = ra4) (h0 : (m_barbicanlaw7_known ) = true) (h1 : (decide (ra2 = ra3)) = true) (h2 : (m_scalar_In ra0 ra2) = true) (h3 : (m_scalar_In ra1 ra2) = true) (h4 : (decide (ra4 = ra0)) = true) (h5 : (m_scalar_In ra0 ra1) = false) : Con Tryz.prog 10 #[(a4v (x0)), (a4v (x1)), (.int .u64 (nn (x2)))] (.bool (true)) :=
  fn_conI (P := Tryz.prog) Tryz.func10 (fun xs w => by kernel_rfl) _ _
    [.o, .o, .o, .cb (ok_barbicanlaw7_known ) h0, .o, .r [0, 2] [4, 5] [1, 3, 6, 7], .o, .o, .x (Sp.val (sq_barbicanlaw7_made_4 x0.a x0.b x0.c x0.d) (ok_barbicanlaw7_made_4 x0.a x0.b x0.c x0.d) (congrArg sv ea0)) [0], .x (Sp.val (sq_barbicanlaw7_made_4 x1.a x1.b x1.c x1.d) (ok_barbicanlaw7_made_4 x1.a x1.b x1.c x1.d) (congrArg sv ea1)) [1], .a 2, .a 3, .r [0, 1, 2, 3, 4, 5] [6, 7] [8, 9], .a 2, .a 3, .cr sv (ok_scalar_Join (ra0) (ra1)) ea2, .a 3, .a 2, .cr sv (ok_scalar_Join (ra1) (ra0)) ea3, .a 4, .a 5, .r [0, 1, 2, 3, 4, 5, 6, 7, 8, 9, 10, 11, 12, 13, 14, 15, 16, 17, 18, 19, 20, 21] [] [], .a 4, .a 5, .ov (fun w => (eq27 (ra2) (ra3) _ h1 (.tmp 23) (.tmp 24) w).2), .o, .a 2, .a 4, .cb (ok_scalar_In (ra0) (ra2)) h2, .o, .o, .o, .a 3, .a 4, .cb (ok_scalar_In (ra1) (ra2)) h3, .o, .o, .o, .a 2, .a 2, .cr sv (ok_scalar_Join (ra0) (ra0)) ea4, .a 2, .ov (fun w => (eq27 (ra4) (ra0) _ h4 (.tmp 41) (.tmp 42) w).2), .o, .a 2, .a 3, .cb (ok_scalar_In (ra0) (ra1)) h5, .o, .o, .o, .o]
    [] (fun b => by kernel_rfl)
theorem p2_barbicanlaw7_ScalarJoins (x0 : A4) (x1 : A4) (x2 : BitVec 64) (ra0 : S) (ea0 : m_barbicanlaw7_made_4 x0.a x0.b x0.c x0.d = ra0) (ra1 : S) (ea1 : m_barbicanlaw7_made_4 x1.a x1.b x1.c x1.d = ra1) (ra2 : S) (ea2 : m_scalar_Join ra0 ra1 = ra2) (ra3 : S) (ea3 : m_scalar_Join ra1 ra0 = ra3) (ra4 : S) (ea4 : m_scalar_Join ra0 ra0 = ra4) (h0 : (m_barbicanlaw7_known ) = true) (h1 : (decide (ra2 = ra3)) = true) (h2 : (m_scalar_In ra0 ra2) = true) (h3 : (m_scalar_In ra1 ra2) = true) (h4 : (decide (ra4 = ra0)) = false) : Con Tryz.prog 10 #[(a4v (x0)), (a4v (x1)), (.int .u64 (nn (x2)))] (.bool (false)) :=
  fn_conI (P := Tryz.prog) Tryz.func10 (fun xs w => by kernel_rfl) _ _
    [.o, .o, .o, .cb (ok_barbicanlaw7_known ) h0, .o, .r [0, 2] [4, 5] [1, 3, 6, 7], .o, .o, .x (Sp.val (sq_barbicanlaw7_made_4 x0.a x0.b x0.c x0.d) (ok_barbicanlaw7_made_4 x0.a x0.b x0.c x0.d) (congrArg sv ea0)) [0], .x (Sp.val (sq_barbicanlaw7_made_4 x1.a x1.b x1.c x1.d) (ok_barbicanlaw7_made_4 x1.a x1.b x1.c x1.d) (congrArg sv ea1)) [1], .a 2, .a 3, .r [0, 1, 2, 3, 4, 5] [6, 7] [8, 9], .a 2, .a 3, .cr sv (ok_scalar_Join (ra0) (ra1)) ea2, .a 3, .a 2, .cr sv (ok_scalar_Join (ra1) (ra0)) ea3, .a 4, .a 5, .r [0, 1, 2, 3, 4, 5, 6, 7, 8, 9, 10, 11, 12, 13, 14, 15, 16, 17, 18, 19, 20, 21] [] [], .a 4, .a 5, .ov (fun w => (eq27 (ra2) (ra3) _ h1 (.tmp 23) (.tmp 24) w).2), .o, .a 2, .a 4, .cb (ok_scalar_In (ra0) (ra2)) h2, .o, .o, .o, .a 3, .a 4, .cb (ok_scalar_In (ra1) (ra2)) h3, .o, .o, .o, .a 2, .a 2, .cr sv (ok_scalar_Join (ra0) (ra0)) ea4, .a 2, .ov (fun w => (eq27 (ra4) (ra0) _ h4 (.tmp 41) (.tmp 42) w).2), .o, .o]
    [] (fun b => by kernel_rfl)
theorem p3_barbicanlaw7_ScalarJoins (x0 : A4) (x1 : A4) (x2 : BitVec 64) (ra0 : S) (ea0 : m_barbicanlaw7_made_4 x0.a x0.b x0.c x0.d = ra0) (ra1 : S) (ea1 : m_barbicanlaw7_made_4 x1.a x1.b x1.c x1.d = ra1) (ra2 : S) (ea2 : m_scalar_Join ra0 ra1 = ra2) (ra3 : S) (ea3 : m_scalar_Join ra1 ra0 = ra3) (h0 : (m_barbicanlaw7_known ) = true) (h1 : (decide (ra2 = ra3)) = true) (h2 : (m_scalar_In ra0 ra2) = true) (h3 : (m_scalar_In ra1 ra2) = false) : Con Tryz.prog 10 #[(a4v (x0)), (a4v (x1)), (.int .u64 (nn (x2)))] (.bool (false)) :=
  fn_conI (P := Tryz.prog) Tryz.func10 (fun xs w => by kernel_rfl) _ _
    [.o, .o, .o, .cb (ok_barbicanlaw7_known ) h0, .o, .r [0, 2] [4, 5] [1, 3, 6, 7], .o, .o, .x (Sp.val (sq_barbicanlaw7_made_4 x0.a x0.b x0.c x0.d) (ok_barbicanlaw7_made_4 x0.a x0.b x0.c x0.d) (congrArg sv ea0)) [0], .x (Sp.val (sq_barbicanlaw7_made_4 x1.a x1.b x1.c x1.d) (ok_barbicanlaw7_made_4 x1.a x1.b x1.c x1.d) (congrArg sv ea1)) [1], .a 2, .a 3, .r [0, 1, 2, 3, 4, 5] [6, 7] [8, 9], .a 2, .a 3, .cr sv (ok_scalar_Join (ra0) (ra1)) ea2, .a 3, .a 2, .cr sv (ok_scalar_Join (ra1) (ra0)) ea3, .a 4, .a 5, .r [0, 1, 2, 3, 4, 5, 6, 7, 8, 9, 10, 11, 12, 13, 14, 15, 16, 17, 18, 19, 20, 21] [] [], .a 4, .a 5, .ov (fun w => (eq27 (ra2) (ra3) _ h1 (.tmp 23) (.tmp 24) w).2), .o, .a 2, .a 4, .cb (ok_scalar_In (ra0) (ra2)) h2, .o, .o, .o, .a 3, .a 4, .cb (ok_scalar_In (ra1) (ra2)) h3, .o, .o, .o, .o, .o]
    [] (fun b => by kernel_rfl)
theorem p4_barbicanlaw7_ScalarJoins (x0 : A4) (x1 : A4) (x2 : BitVec 64) (ra0 : S) (ea0 : m_barbicanlaw7_made_4 x0.a x0.b x0.c x0.d = ra0) (ra1 : S) (ea1 : m_barbicanlaw7_made_4 x1.a x1.b x1.c x1.d = ra1) (ra2 : S) (ea2 : m_scalar_Join ra0 ra1 = ra2) (ra3 : S) (ea3 : m_scalar_Join ra1 ra0 = ra3) (h0 : (m_barbicanlaw7_known ) = true) (h1 : (decide (ra2 = ra3)) = true) (h2 : (m_scalar_In ra0 ra2) = false) : Con Tryz.prog 10 #[(a4v (x0)), (a4v (x1)), (.int .u64 (nn (x2)))] (.bool (false)) :=
  fn_conI (P := Tryz.prog) Tryz.func10 (fun xs w => by kernel_rfl) _ _
    [.o, .o, .o, .cb (ok_barbicanlaw7_known ) h0, .o, .r [0, 2] [4, 5] [1, 3, 6, 7], .o, .o, .x (Sp.val (sq_barbicanlaw7_made_4 x0.a x0.b x0.c x0.d) (ok_barbicanlaw7_made_4 x0.a x0.b x0.c x0.d) (congrArg sv ea0)) [0], .x (Sp.val (sq_barbicanlaw7_made_4 x1.a x1.b x1.c x1.d) (ok_barbicanlaw7_made_4 x1.a x1.b x1.c x1.d) (congrArg sv ea1)) [1], .a 2, .a 3, .r [0, 1, 2, 3, 4, 5] [6, 7] [8, 9], .a 2, .a 3, .cr sv (ok_scalar_Join (ra0) (ra1)) ea2, .a 3, .a 2, .cr sv (ok_scalar_Join (ra1) (ra0)) ea3, .a 4, .a 5, .r [0, 1, 2, 3, 4, 5, 6, 7, 8, 9, 10, 11, 12, 13, 14, 15, 16, 17, 18, 19, 20, 21] [] [], .a 4, .a 5, .ov (fun w => (eq27 (ra2) (ra3) _ h1 (.tmp 23) (.tmp 24) w).2), .o, .a 2, .a 4, .cb (ok_scalar_In (ra0) (ra2)) h2, .o, .o, .o, .o, .o, .o, .o]
    [] (fun b => by kernel_rfl)
theorem p5_barbicanlaw7_ScalarJoins (x0 : A4) (x1 : A4) (x2 : BitVec 64) (ra0 : S) (ea0 : m_barbicanlaw7_made_4 x0.a x0.b x0.c x0.d = ra0) (ra1 : S) (ea1 : m_barbicanlaw7_made_4 x1.a x1.b x1.c x1.d = ra1) (ra2 : S) (ea2 : m_scalar_Join ra0 ra1 = ra2) (ra3 : S) (ea3 : m_scalar_Join ra1 ra0 = ra3) (h0 : (m_barbicanlaw7_known ) = true) (h1 : (decide (ra2 = ra3)) = false) : Con Tryz.prog 10 #[(a4v (x0)), (a4v (x1)), (.int .u64 (nn (x2)))] (.bool (false)) :=
  fn_conI (P := Tryz.prog) Tryz.func10 (fun xs w => by kernel_rfl) _ _
    [.o, .o, .o, .cb (ok_barbicanlaw7_known ) h0, .o, .r [0, 2] [4, 5] [1, 3, 6, 7], .o, .o, .x (Sp.val (sq_barbicanlaw7_made_4 x0.a x0.b x0.c x0.d) (ok_barbicanlaw7_made_4 x0.a x0.b x0.c x0.d) (congrArg sv ea0)) [0], .x (Sp.val (sq_barbicanlaw7_made_4 x1.a x1.b x1.c x1.d) (ok_barbicanlaw7_made_4 x1.a x1.b x1.c x1.d) (congrArg sv ea1)) [1], .a 2, .a 3, .r [0, 1, 2, 3, 4, 5] [6, 7] [8, 9], .a 2, .a 3, .cr sv (ok_scalar_Join (ra0) (ra1)) ea2, .a 3, .a 2, .cr sv (ok_scalar_Join (ra1) (ra0)) ea3, .a 4, .a 5, .r [0, 1, 2, 3, 4, 5, 6, 7, 8, 9, 10, 11, 12, 13, 14, 15, 16, 17, 18, 19, 20, 21] [] [], .a 4, .a 5, .ov (fun w => (eq27 (ra2) (ra3) _ h1 (.tmp 23) (.tmp 24) w).2), .o, .o, .o, .o, .o, .o, .o]
    [] (fun b => by kernel_rfl)
theorem p6_barbicanlaw7_ScalarJoins (x0 : A4) (x1 : A4) (x2 : BitVec 64) (h0 : (m_barbicanlaw7_known ) = false) : Con Tryz.prog 10 #[(a4v (x0)), (a4v (x1)), (.int .u64 (nn (x2)))] (.bool (false)) :=
  fn_conI (P := Tryz.prog) Tryz.func10 (fun xs w => by kernel_rfl) _ _
    [.o, .o, .o, .cb (ok_barbicanlaw7_known ) h0, .o, .o]
    [] (fun b => by kernel_rfl)
theorem ok_barbicanlaw7_ScalarJoins (x0 : A4) (x1 : A4) (x2 : BitVec 64) : Con Tryz.prog 10 #[(a4v (x0)), (a4v (x1)), (.int .u64 (nn (x2)))] (.bool (m_barbicanlaw7_ScalarJoins x0 x1 x2)) := by
  unfold m_barbicanlaw7_ScalarJoins
  refine Con.cond (fun r => (Value.bool (r))) _ _ _ (fun h0 => ?_) (fun h0 => ?_)
  · refine Con.cond (fun r => (Value.bool (r))) _ _ _ (fun h1 => ?_) (fun h1 => ?_)
    · refine Con.cond (fun r => (Value.bool (r))) _ _ _ (fun h2 => ?_) (fun h2 => ?_)
      · refine Con.cond (fun r => (Value.bool (r))) _ _ _ (fun h3 => ?_) (fun h3 => ?_)
        · refine Con.cond (fun r => (Value.bool (r))) _ _ _ (fun h4 => ?_) (fun h4 => ?_)
          · refine Con.cond (fun r => (Value.bool (r))) _ _ _ (fun h5 => ?_) (fun h5 => ?_)
            · exact p0_barbicanlaw7_ScalarJoins x0 x1 x2 _ rfl _ rfl _ rfl _ rfl _ rfl h0 h1 h2 h3 h4 h5
            · exact p1_barbicanlaw7_ScalarJoins x0 x1 x2 _ rfl _ rfl _ rfl _ rfl _ rfl h0 h1 h2 h3 h4 h5
          · exact p2_barbicanlaw7_ScalarJoins x0 x1 x2 _ rfl _ rfl _ rfl _ rfl _ rfl h0 h1 h2 h3 h4
        · exact p3_barbicanlaw7_ScalarJoins x0 x1 x2 _ rfl _ rfl _ rfl _ rfl h0 h1 h2 h3
      · exact p4_barbicanlaw7_ScalarJoins x0 x1 x2 _ rfl _ rfl _ rfl _ rfl h0 h1 h2
    · exact p5_barbicanlaw7_ScalarJoins x0 x1 x2 _ rfl _ rfl _ rfl _ rfl h0 h1
  · exact p6_barbicanlaw7_ScalarJoins x0 x1 x2 h0
end Go.Proofs.YtmhiiahfjoijgaaGreat
