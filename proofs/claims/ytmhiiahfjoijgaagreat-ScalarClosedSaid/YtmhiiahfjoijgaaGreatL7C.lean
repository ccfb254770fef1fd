/-
  Package scalar: operations, by the program's own text.
-/
import Derived.Test.YtmhiiahfjoijgaaGreatL7B
namespace Go.Proofs.YtmhiiahfjoijgaaGreat
open Go.RowKit
set_option linter.unusedVariables false
set_option linter.unusedSimpArgs false
set_option maxRecDepth 100000
set_option maxHeartbeats 4000000
-- barbican/scalar.isConst
def m_scalar_isConst (x0 : S) : Bool :=
  (x0.umin == x0.umax)
theorem p0_scalar_isConst (x0 : S) : Con Tryz.prog 39 #[(sv (x0))] (.bool (x0.umin == x0.umax)) :=
  fn_conI (P := Tryz.prog) Tryz.func39 (fun xs w => by kernel_rfl) _ _
    [.o, .o, .o, .a 0, .o, .a 0, .t (u_eq x0.umin x0.umax) rfl, .o]
    [] (fun b => by kernel_rfl)
theorem ok_scalar_isConst (x0 : S) : Con Tryz.prog 39 #[(sv (x0))] (.bool (m_scalar_isConst x0)) := by
  unfold m_scalar_isConst
  exact p0_scalar_isConst x0 
-- barbican/scalar.atLeast
def m_scalar_atLeast (x0 : T) (x1 : BitVec 64) : (BitVec 64) × (Bool) :=
  (bif (m_scalar_atMost (⟨(~~~(m_tnum_Most x0)), x0.m⟩ : T) (18446744073709551615#64 - x1)).2 then
    (((18446744073709551615#64 - (m_scalar_atMost (⟨(~~~(m_tnum_Most x0)), x0.m⟩ : T) (18446744073709551615#64 - x1)).1), true))
    else ((0#64, false)))
theorem p0_scalar_atLeast (x0 : T) (x1 : BitVec 64) (ra0 : BitVec 64) (ea0 : m_tnum_Most x0 = ra0) (ra1 : (BitVec 64) × (Bool)) (ea1 : m_scalar_atMost (⟨(~~~ra0), x0.m⟩ : T) (18446744073709551615#64 - x1) = ra1) (h0 : (ra1.2) = true) : Con Tryz.prog 138 #[(tv (x0)), (.int .u64 (nn (x1)))] (.tuple #[(.int .u64 (nn ((18446744073709551615#64 - ra1.1)))), (.bool (true))]) :=
  fn_conI (P := Tryz.prog) Tryz.func138 (fun xs w => by kernel_rfl) _ _
    [.o, .o, .o, .r [0, 1, 2, 3, 4, 5, 6, 7, 8, 9, 10, 11, 12, 13] [] [], .a 0, .cr (fun r => (Value.int .u64 (nn (r)))) (ok_tnum_Most (x0)) ea0, .v .u64 (u64_compl (ra0)), .o, .a 0, .o, .o, .v .u64 (u64_sub 18446744073709551615#64 x1), .cr vt1 (ok_scalar_atMost ((⟨(~~~ra0), x0.m⟩ : T)) ((18446744073709551615#64 - x1))) ea1, .o, .o, .b h0, .o, .o, .o, .o, .o, .v .u64 (u64_sub 18446744073709551615#64 ra1.1), .o, .o]
    [] (fun b => by kernel_rfl)
theorem p1_scalar_atLeast (x0 : T) (x1 : BitVec 64) (ra0 : BitVec 64) (ea0 : m_tnum_Most x0 = ra0) (ra1 : (BitVec 64) × (Bool)) (ea1 : m_scalar_atMost (⟨(~~~ra0), x0.m⟩ : T) (18446744073709551615#64 - x1) = ra1) (h0 : (ra1.2) = false) : Con Tryz.prog 138 #[(tv (x0)), (.int .u64 (nn (x1)))] (.tuple #[(.int .u64 (nn (0#64))), (.bool (false))]) :=
  fn_conI (P := Tryz.prog) Tryz.func138 (fun xs w => by kernel_rfl) _ _
    [.o, .o, .o, .r [0, 1, 2, 3, 4, 5, 6, 7, 8, 9, 10, 11, 12, 13] [] [], .a 0, .cr (fun r => (Value.int .u64 (nn (r)))) (ok_tnum_Most (x0)) ea0, .v .u64 (u64_compl (ra0)), .o, .a 0, .o, .o, .v .u64 (u64_sub 18446744073709551615#64 x1), .cr vt1 (ok_scalar_atMost ((⟨(~~~ra0), x0.m⟩ : T)) ((18446744073709551615#64 - x1))) ea1, .o, .o, .b h0, .o, .o, .o, .o, .o, .o]
    [] (fun b => by kernel_rfl)
theorem ok_scalar_atLeast (x0 : T) (x1 : BitVec 64) : Con Tryz.prog 138 #[(tv (x0)), (.int .u64 (nn (x1)))] (vt1 (m_scalar_atLeast x0 x1)) := by
  unfold m_scalar_atLeast
  refine Con.cond vt1 _ _ _ (fun h0 => ?_) (fun h0 => ?_)
  · exact p0_scalar_atLeast x0 x1 _ rfl _ rfl h0
  · exact p1_scalar_atLeast x0 x1 _ rfl _ rfl h0
-- barbican/scalar.members
def m_scalar_members (x0 : S) (x1 : BitVec 64) (x2 : BitVec 64) : Sp :=
  (bif BitVec.slt x2 x1 then
    ((⟨0#64, 0#64, false⟩ : Sp))
    else (bif (m_scalar_atLeast x0.t (uMax x0.umin x1)).2 then
      (bif (m_scalar_atMost x0.t (uMin x0.umax x2)).2 then
        (bif BitVec.ult (uMin x0.umax x2) (m_scalar_atLeast x0.t (uMax x0.umin x1)).1 then
          ((⟨0#64, 0#64, false⟩ : Sp))
          else (bif BitVec.ult (m_scalar_atMost x0.t (uMin x0.umax x2)).1 (uMax x0.umin x1) then
            ((⟨0#64, 0#64, false⟩ : Sp))
            else ((⟨(m_scalar_atLeast x0.t (uMax x0.umin x1)).1, (m_scalar_atMost x0.t (uMin x0.umax x2)).1, true⟩ : Sp))))
        else ((⟨0#64, 0#64, false⟩ : Sp)))
      else (bif (m_scalar_atMost x0.t (uMin x0.umax x2)).2 then
        ((⟨0#64, 0#64, false⟩ : Sp))
        else ((⟨0#64, 0#64, false⟩ : Sp)))))
theorem p0_scalar_members (x0 : S) (x1 : BitVec 64) (x2 : BitVec 64) (h0 : (BitVec.slt x2 x1) = true) : Con Tryz.prog 94 #[(sv (x0)), (.int .i64 (ii (x1))), (.int .i64 (ii (x2)))] (spv ((⟨0#64, 0#64, false⟩ : Sp))) :=
  fn_conI (P := Tryz.prog) Tryz.func94 (fun xs w => by kernel_rfl) _ _
    [.o, .o, .o, .o, .t (i_gt x1 x2) h0, .o, .a 1]
    [1, 1, 1] (fun b => by kernel_rfl)
theorem p1_scalar_members (x0 : S) (x1 : BitVec 64) (x2 : BitVec 64) (ra0 : (BitVec 64) × (Bool)) (ea0 : m_scalar_atLeast x0.t (uMax x0.umin x1) = ra0) (ra1 : (BitVec 64) × (Bool)) (ea1 : m_scalar_atMost x0.t (uMin x0.umax x2) = ra1) (h0 : (BitVec.slt x2 x1) = false) (h1 : (ra0.2) = true) (h2 : (ra1.2) = true) (h3 : (BitVec.ult (uMin x0.umax x2) ra0.1) = true) : Con Tryz.prog 94 #[(sv (x0)), (.int .i64 (ii (x1))), (.int .i64 (ii (x2)))] (spv ((⟨0#64, 0#64, false⟩ : Sp))) :=
  fn_conI (P := Tryz.prog) Tryz.func94 (fun xs w => by kernel_rfl) _ _
    [.o, .o, .o, .o, .t (i_gt x1 x2) h0, .r [0, 1, 2, 3, 4, 5, 6, 7, 8, 9, 10, 11] [] [], .o, .a 0, .o, .v .u64 (u64_of_i64 (x1)), .v .u64 (u_max x0.umin x1), .o, .a 0, .o, .v .u64 (u64_of_i64 (x2)), .v .u64 (u_min x0.umax x2), .o, .o, .o, .a 0, .o, .cr vt1 (ok_scalar_atLeast (x0.t) ((uMax x0.umin x1))) ea0, .o, .o, .b h1, .o, .o, .o, .a 0, .o, .cr vt1 (ok_scalar_atMost (x0.t) ((uMin x0.umax x2))) ea1, .o, .o, .b h2, .o, .o, .o, .o, .o, .o, .o, .o, .o, .o, .o, .t (u_gt ra0.1 (uMin x0.umax x2)) h3, .o, .o, .o, .o, .a 1]
    [1, 1, 1] (fun b => by kernel_rfl)
theorem p2_scalar_members (x0 : S) (x1 : BitVec 64) (x2 : BitVec 64) (ra0 : (BitVec 64) × (Bool)) (ea0 : m_scalar_atLeast x0.t (uMax x0.umin x1) = ra0) (ra1 : (BitVec 64) × (Bool)) (ea1 : m_scalar_atMost x0.t (uMin x0.umax x2) = ra1) (h0 : (BitVec.slt x2 x1) = false) (h1 : (ra0.2) = true) (h2 : (ra1.2) = true) (h3 : (BitVec.ult (uMin x0.umax x2) ra0.1) = false) (h4 : (BitVec.ult ra1.1 (uMax x0.umin x1)) = true) : Con Tryz.prog 94 #[(sv (x0)), (.int .i64 (ii (x1))), (.int .i64 (ii (x2)))] (spv ((⟨0#64, 0#64, false⟩ : Sp))) :=
  fn_conI (P := Tryz.prog) Tryz.func94 (fun xs w => by kernel_rfl) _ _
    [.o, .o, .o, .o, .t (i_gt x1 x2) h0, .r [0, 1, 2, 3, 4, 5, 6, 7, 8, 9, 10, 11] [] [], .o, .a 0, .o, .v .u64 (u64_of_i64 (x1)), .v .u64 (u_max x0.umin x1), .o, .a 0, .o, .v .u64 (u64_of_i64 (x2)), .v .u64 (u_min x0.umax x2), .o, .o, .o, .a 0, .o, .cr vt1 (ok_scalar_atLeast (x0.t) ((uMax x0.umin x1))) ea0, .o, .o, .b h1, .o, .o, .o, .a 0, .o, .cr vt1 (ok_scalar_atMost (x0.t) ((uMin x0.umax x2))) ea1, .o, .o, .b h2, .o, .o, .o, .o, .o, .o, .o, .o, .o, .o, .o, .t (u_gt ra0.1 (uMin x0.umax x2)) h3, .o, .o, .o, .o, .t (u_lt ra1.1 (uMax x0.umin x1)) h4, .o, .o, .a 1]
    [1, 1, 1] (fun b => by kernel_rfl)
theorem p3_scalar_members (x0 : S) (x1 : BitVec 64) (x2 : BitVec 64) (ra0 : (BitVec 64) × (Bool)) (ea0 : m_scalar_atLeast x0.t (uMax x0.umin x1) = ra0) (ra1 : (BitVec 64) × (Bool)) (ea1 : m_scalar_atMost x0.t (uMin x0.umax x2) = ra1) (h0 : (BitVec.slt x2 x1) = false) (h1 : (ra0.2) = true) (h2 : (ra1.2) = true) (h3 : (BitVec.ult (uMin x0.umax x2) ra0.1) = false) (h4 : (BitVec.ult ra1.1 (uMax x0.umin x1)) = false) : Con Tryz.prog 94 #[(sv (x0)), (.int .i64 (ii (x1))), (.int .i64 (ii (x2)))] (spv ((⟨ra0.1, ra1.1, true⟩ : Sp))) :=
  fn_conI (P := Tryz.prog) Tryz.func94 (fun xs w => by kernel_rfl) _ _
    [.o, .o, .o, .o, .t (i_gt x1 x2) h0, .r [0, 1, 2, 3, 4, 5, 6, 7, 8, 9, 10, 11] [] [], .o, .a 0, .o, .v .u64 (u64_of_i64 (x1)), .v .u64 (u_max x0.umin x1), .o, .a 0, .o, .v .u64 (u64_of_i64 (x2)), .v .u64 (u_min x0.umax x2), .o, .o, .o, .a 0, .o, .cr vt1 (ok_scalar_atLeast (x0.t) ((uMax x0.umin x1))) ea0, .o, .o, .b h1, .o, .o, .o, .a 0, .o, .cr vt1 (ok_scalar_atMost (x0.t) ((uMin x0.umax x2))) ea1, .o, .o, .b h2, .o, .o, .o, .o, .o, .o, .o, .o, .o, .o, .o, .t (u_gt ra0.1 (uMin x0.umax x2)) h3, .o, .o, .o, .o, .t (u_lt ra1.1 (uMax x0.umin x1)) h4, .o, .o, .o, .o, .a 1]
    [1, 1, 1] (fun b => by kernel_rfl)
theorem p4_scalar_members (x0 : S) (x1 : BitVec 64) (x2 : BitVec 64) (ra0 : (BitVec 64) × (Bool)) (ea0 : m_scalar_atLeast x0.t (uMax x0.umin x1) = ra0) (ra1 : (BitVec 64) × (Bool)) (ea1 : m_scalar_atMost x0.t (uMin x0.umax x2) = ra1) (h0 : (BitVec.slt x2 x1) = false) (h1 : (ra0.2) = true) (h2 : (ra1.2) = false) : Con Tryz.prog 94 #[(sv (x0)), (.int .i64 (ii (x1))), (.int .i64 (ii (x2)))] (spv ((⟨0#64, 0#64, false⟩ : Sp))) :=
  fn_conI (P := Tryz.prog) Tryz.func94 (fun xs w => by kernel_rfl) _ _
    [.o, .o, .o, .o, .t (i_gt x1 x2) h0, .r [0, 1, 2, 3, 4, 5, 6, 7, 8, 9, 10, 11] [] [], .o, .a 0, .o, .v .u64 (u64_of_i64 (x1)), .v .u64 (u_max x0.umin x1), .o, .a 0, .o, .v .u64 (u64_of_i64 (x2)), .v .u64 (u_min x0.umax x2), .o, .o, .o, .a 0, .o, .cr vt1 (ok_scalar_atLeast (x0.t) ((uMax x0.umin x1))) ea0, .o, .o, .b h1, .o, .o, .o, .a 0, .o, .cr vt1 (ok_scalar_atMost (x0.t) ((uMin x0.umax x2))) ea1, .o, .o, .b h2, .o, .o, .o, .o, .o, .o, .o, .o, .o, .o, .o, .o, .o, .a 1]
    [1, 1, 1] (fun b => by kernel_rfl)
theorem p5_scalar_members (x0 : S) (x1 : BitVec 64) (x2 : BitVec 64) (ra0 : (BitVec 64) × (Bool)) (ea0 : m_scalar_atLeast x0.t (uMax x0.umin x1) = ra0) (ra1 : (BitVec 64) × (Bool)) (ea1 : m_scalar_atMost x0.t (uMin x0.umax x2) = ra1) (h0 : (BitVec.slt x2 x1) = false) (h1 : (ra0.2) = false) (h2 : (ra1.2) = true) : Con Tryz.prog 94 #[(sv (x0)), (.int .i64 (ii (x1))), (.int .i64 (ii (x2)))] (spv ((⟨0#64, 0#64, false⟩ : Sp))) :=
  fn_conI (P := Tryz.prog) Tryz.func94 (fun xs w => by kernel_rfl) _ _
    [.o, .o, .o, .o, .t (i_gt x1 x2) h0, .r [0, 1, 2, 3, 4, 5, 6, 7, 8, 9, 10, 11] [] [], .o, .a 0, .o, .v .u64 (u64_of_i64 (x1)), .v .u64 (u_max x0.umin x1), .o, .a 0, .o, .v .u64 (u64_of_i64 (x2)), .v .u64 (u_min x0.umax x2), .o, .o, .o, .a 0, .o, .cr vt1 (ok_scalar_atLeast (x0.t) ((uMax x0.umin x1))) ea0, .o, .o, .b h1, .o, .o, .o, .a 0, .o, .cr vt1 (ok_scalar_atMost (x0.t) ((uMin x0.umax x2))) ea1, .o, .o, .b h2, .o, .o, .o, .o, .o, .o, .o, .o, .o, .o, .o, .a 1]
    [1, 1, 1] (fun b => by kernel_rfl)
theorem p6_scalar_members (x0 : S) (x1 : BitVec 64) (x2 : BitVec 64) (ra0 : (BitVec 64) × (Bool)) (ea0 : m_scalar_atLeast x0.t (uMax x0.umin x1) = ra0) (ra1 : (BitVec 64) × (Bool)) (ea1 : m_scalar_atMost x0.t (uMin x0.umax x2) = ra1) (h0 : (BitVec.slt x2 x1) = false) (h1 : (ra0.2) = false) (h2 : (ra1.2) = false) : Con Tryz.prog 94 #[(sv (x0)), (.int .i64 (ii (x1))), (.int .i64 (ii (x2)))] (spv ((⟨0#64, 0#64, false⟩ : Sp))) :=
  fn_conI (P := Tryz.prog) Tryz.func94 (fun xs w => by kernel_rfl) _ _
    [.o, .o, .o, .o, .t (i_gt x1 x2) h0, .r [0, 1, 2, 3, 4, 5, 6, 7, 8, 9, 10, 11] [] [], .o, .a 0, .o, .v .u64 (u64_of_i64 (x1)), .v .u64 (u_max x0.umin x1), .o, .a 0, .o, .v .u64 (u64_of_i64 (x2)), .v .u64 (u_min x0.umax x2), .o, .o, .o, .a 0, .o, .cr vt1 (ok_scalar_atLeast (x0.t) ((uMax x0.umin x1))) ea0, .o, .o, .b h1, .o, .o, .o, .a 0, .o, .cr vt1 (ok_scalar_atMost (x0.t) ((uMin x0.umax x2))) ea1, .o, .o, .b h2, .o, .o, .o, .o, .o, .o, .o, .o, .o, .o, .o, .a 1]
    [1, 1, 1] (fun b => by kernel_rfl)
theorem ok_scalar_members (x0 : S) (x1 : BitVec 64) (x2 : BitVec 64) : Con Tryz.prog 94 #[(sv (x0)), (.int .i64 (ii (x1))), (.int .i64 (ii (x2)))] (spv (m_scalar_members x0 x1 x2)) := by
  unfold m_scalar_members
  refine Con.cond spv _ _ _ (fun h0 => ?_) (fun h0 => ?_)
  · exact p0_scalar_members x0 x1 x2 h0
  · refine Con.cond spv _ _ _ (fun h1 => ?_) (fun h1 => ?_)
    · refine Con.cond spv _ _ _ (fun h2 => ?_) (fun h2 => ?_)
      · refine Con.cond spv _ _ _ (fun h3 => ?_) (fun h3 => ?_)
        · exact p1_scalar_members x0 x1 x2 _ rfl _ rfl h0 h1 h2 h3
        · refine Con.cond spv _ _ _ (fun h4 => ?_) (fun h4 => ?_)
          · exact p2_scalar_members x0 x1 x2 _ rfl _ rfl h0 h1 h2 h3 h4
          · exact p3_scalar_members x0 x1 x2 _ rfl _ rfl h0 h1 h2 h3 h4
      · exact p4_scalar_members x0 x1 x2 _ rfl _ rfl h0 h1 h2
    · refine Con.cond spv _ _ _ (fun h2 => ?_) (fun h2 => ?_)
      · exact p5_scalar_members x0 x1 x2 _ rfl _ rfl h0 h1 h2
      · exact p6_scalar_members x0 x1 x2 _ rfl _ rfl h0 h1 h2
-- barbican/scalar.exact
def m_scalar_exact (x0 : S) : S :=
  (bif m_scalar_isConst x0 then
    (x0)
    else (bif (m_scalar_members x0 (sMax x0.smin 0#64) x0.smax).some then
      (bif (m_scalar_members x0 x0.smin (sMin x0.smax 18446744073709551615#64)).some then
        ((m_scalar_settle (⟨x0.t, (m_scalar_members x0 (sMax x0.smin 0#64) x0.smax).least, (m_scalar_members x0 x0.smin (sMin x0.smax 18446744073709551615#64)).most, (m_scalar_members x0 x0.smin (sMin x0.smax 18446744073709551615#64)).least, (m_scalar_members x0 (sMax x0.smin 0#64) x0.smax).most⟩ : S)))
        else ((m_scalar_settle (⟨x0.t, (m_scalar_members x0 (sMax x0.smin 0#64) x0.smax).least, (m_scalar_members x0 (sMax x0.smin 0#64) x0.smax).most, (m_scalar_members x0 (sMax x0.smin 0#64) x0.smax).least, (m_scalar_members x0 (sMax x0.smin 0#64) x0.smax).most⟩ : S))))
      else (bif (m_scalar_members x0 x0.smin (sMin x0.smax 18446744073709551615#64)).some then
        ((m_scalar_settle (⟨x0.t, (m_scalar_members x0 x0.smin (sMin x0.smax 18446744073709551615#64)).least, (m_scalar_members x0 x0.smin (sMin x0.smax 18446744073709551615#64)).most, (m_scalar_members x0 x0.smin (sMin x0.smax 18446744073709551615#64)).least, (m_scalar_members x0 x0.smin (sMin x0.smax 18446744073709551615#64)).most⟩ : S)))
        else ((m_scalar_settle x0)))))
theorem p0_scalar_exact (x0 : S) (h0 : (m_scalar_isConst x0) = true) : Con Tryz.prog 40 #[(sv (x0))] (sv (x0)) :=
  fn_conI (P := Tryz.prog) Tryz.func40 (fun xs w => by kernel_rfl) _ _
    [.o, .o, .a 0, .cb (ok_scalar_isConst (x0)) h0, .a 0, .a 1]
    [1, 1, 1, 1, 1, 1] (fun b => by kernel_rfl)
theorem p1_scalar_exact (x0 : S) (ra0 : Sp) (ea0 : m_scalar_members x0 (sMax x0.smin 0#64) x0.smax = ra0) (ra1 : Sp) (ea1 : m_scalar_members x0 x0.smin (sMin x0.smax 18446744073709551615#64) = ra1) (ra2 : S) (ea2 : m_scalar_settle (⟨x0.t, ra0.least, ra1.most, ra1.least, ra0.most⟩ : S) = ra2) (h0 : (m_scalar_isConst x0) = false) (h1 : (ra0.some) = true) (h2 : (ra1.some) = true) : Con Tryz.prog 40 #[(sv (x0))] (sv (ra2)) :=
  fn_conI (P := Tryz.prog) Tryz.func40 (fun xs w => by kernel_rfl) _ _
    [.o, .o, .a 0, .cb (ok_scalar_isConst (x0)) h0, .a 0, .o, .a 0, .v .i64 (i_max x0.smin 0#64), .o, .a 0, .cl (ok_scalar_members (x0) ((sMax x0.smin 0#64)) (x0.smax)) ((congrArg spv ea0).trans (congrArg (fun c0 => Value.agg #[.int .u64 (nn (ra0.least)), .int .u64 (nn (ra0.most)), .bool c0]) h1)), .o, .a 2, .a 0, .o, .a 0, .o, .a 0, .v .i64 (i_min x0.smax 18446744073709551615#64), .cl (ok_scalar_members (x0) (x0.smin) ((sMin x0.smax 18446744073709551615#64))) ((congrArg spv ea1).trans (congrArg (fun c0 => Value.agg #[.int .u64 (nn (ra1.least)), .int .u64 (nn (ra1.most)), .bool c0]) h2)), .o, .a 3, .a 0, .o, .a 4, .o, .a 2, .o, .o, .a 3, .o, .o, .r [0, 1, 2, 3, 4] [] [5, 6, 7], .o, .a 2, .o, .a 3, .o, .a 4, .o, .a 4, .r [0, 1, 2, 3, 4, 5, 6] [] [7, 8, 9], .o, .a 3, .v .i64 (i64_of_u64 (ra1.least)), .o, .a 2, .v .i64 (i64_of_u64 (ra0.most)), .o, .a 4, .o, .a 4, .a 4, .cr sv (ok_scalar_settle ((⟨x0.t, ra0.least, ra1.most, ra1.least, ra0.most⟩ : S))) ea2, .a 1]
    [1, 1, 1, 1, 1, 1] (fun b => by kernel_rfl)
theorem p2_scalar_exact (x0 : S) (ra0 : Sp) (ea0 : m_scalar_members x0 (sMax x0.smin 0#64) x0.smax = ra0) (ra1 : Sp) (ea1 : m_scalar_members x0 x0.smin (sMin x0.smax 18446744073709551615#64) = ra1) (ra2 : S) (ea2 : m_scalar_settle (⟨x0.t, ra0.least, ra0.most, ra0.least, ra0.most⟩ : S) = ra2) (h0 : (m_scalar_isConst x0) = false) (h1 : (ra0.some) = true) (h2 : (ra1.some) = false) : Con Tryz.prog 40 #[(sv (x0))] (sv (ra2)) :=
  fn_conI (P := Tryz.prog) Tryz.func40 (fun xs w => by kernel_rfl) _ _
    [.o, .o, .a 0, .cb (ok_scalar_isConst (x0)) h0, .a 0, .o, .a 0, .v .i64 (i_max x0.smin 0#64), .o, .a 0, .cl (ok_scalar_members (x0) ((sMax x0.smin 0#64)) (x0.smax)) ((congrArg spv ea0).trans (congrArg (fun c0 => Value.agg #[.int .u64 (nn (ra0.least)), .int .u64 (nn (ra0.most)), .bool c0]) h1)), .o, .a 2, .a 0, .o, .a 0, .o, .a 0, .v .i64 (i_min x0.smax 18446744073709551615#64), .cl (ok_scalar_members (x0) (x0.smin) ((sMin x0.smax 18446744073709551615#64))) ((congrArg spv ea1).trans (congrArg (fun c0 => Value.agg #[.int .u64 (nn (ra1.least)), .int .u64 (nn (ra1.most)), .bool c0]) h2)), .o, .a 3, .a 0, .o, .a 4, .o, .a 2, .o, .o, .a 3, .o, .o, .o, .a 2, .o, .r [0, 1, 2, 3, 4] [] [5, 6, 7], .o, .a 2, .o, .a 2, .o, .a 4, .o, .a 4, .r [0, 1, 2, 3, 4, 5, 6] [] [7, 8, 9], .o, .a 2, .v .i64 (i64_of_u64 (ra0.least)), .o, .a 2, .v .i64 (i64_of_u64 (ra0.most)), .o, .a 4, .o, .a 4, .a 4, .cr sv (ok_scalar_settle ((⟨x0.t, ra0.least, ra0.most, ra0.least, ra0.most⟩ : S))) ea2, .a 1]
    [1, 1, 1, 1, 1, 1] (fun b => by kernel_rfl)
theorem p3_scalar_exact (x0 : S) (ra0 : Sp) (ea0 : m_scalar_members x0 (sMax x0.smin 0#64) x0.smax = ra0) (ra1 : Sp) (ea1 : m_scalar_members x0 x0.smin (sMin x0.smax 18446744073709551615#64) = ra1) (ra2 : S) (ea2 : m_scalar_settle (⟨x0.t, ra1.least, ra1.most, ra1.least, ra1.most⟩ : S) = ra2) (h0 : (m_scalar_isConst x0) = false) (h1 : (ra0.some) = false) (h2 : (ra1.some) = true) : Con Tryz.prog 40 #[(sv (x0))] (sv (ra2)) :=
  fn_conI (P := Tryz.prog) Tryz.func40 (fun xs w => by kernel_rfl) _ _
    [.o, .o, .a 0, .cb (ok_scalar_isConst (x0)) h0, .a 0, .o, .a 0, .v .i64 (i_max x0.smin 0#64), .o, .a 0, .cl (ok_scalar_members (x0) ((sMax x0.smin 0#64)) (x0.smax)) ((congrArg spv ea0).trans (congrArg (fun c0 => Value.agg #[.int .u64 (nn (ra0.least)), .int .u64 (nn (ra0.most)), .bool c0]) h1)), .o, .a 2, .a 0, .o, .a 0, .o, .a 0, .v .i64 (i_min x0.smax 18446744073709551615#64), .cl (ok_scalar_members (x0) (x0.smin) ((sMin x0.smax 18446744073709551615#64))) ((congrArg spv ea1).trans (congrArg (fun c0 => Value.agg #[.int .u64 (nn (ra1.least)), .int .u64 (nn (ra1.most)), .bool c0]) h2)), .o, .a 3, .a 0, .o, .a 4, .o, .a 2, .o, .o, .o, .o, .a 2, .o, .o, .a 3, .o, .r [0, 1, 2, 3, 4] [] [5, 6, 7], .o, .a 3, .o, .a 3, .o, .a 4, .o, .a 4, .r [0, 1, 2, 3, 4, 5, 6] [] [7, 8, 9], .o, .a 3, .v .i64 (i64_of_u64 (ra1.least)), .o, .a 3, .v .i64 (i64_of_u64 (ra1.most)), .o, .a 4, .o, .a 4, .a 4, .cr sv (ok_scalar_settle ((⟨x0.t, ra1.least, ra1.most, ra1.least, ra1.most⟩ : S))) ea2, .a 1]
    [1, 1, 1, 1, 1, 1] (fun b => by kernel_rfl)
theorem p4_scalar_exact (x0 : S) (ra0 : Sp) (ea0 : m_scalar_members x0 (sMax x0.smin 0#64) x0.smax = ra0) (ra1 : Sp) (ea1 : m_scalar_members x0 x0.smin (sMin x0.smax 18446744073709551615#64) = ra1) (ra2 : S) (ea2 : m_scalar_settle x0 = ra2) (h0 : (m_scalar_isConst x0) = false) (h1 : (ra0.some) = false) (h2 : (ra1.some) = false) : Con Tryz.prog 40 #[(sv (x0))] (sv (ra2)) :=
  fn_conI (P := Tryz.prog) Tryz.func40 (fun xs w => by kernel_rfl) _ _
    [.o, .o, .a 0, .cb (ok_scalar_isConst (x0)) h0, .a 0, .o, .a 0, .v .i64 (i_max x0.smin 0#64), .o, .a 0, .cl (ok_scalar_members (x0) ((sMax x0.smin 0#64)) (x0.smax)) ((congrArg spv ea0).trans (congrArg (fun c0 => Value.agg #[.int .u64 (nn (ra0.least)), .int .u64 (nn (ra0.most)), .bool c0]) h1)), .o, .a 2, .a 0, .o, .a 0, .o, .a 0, .v .i64 (i_min x0.smax 18446744073709551615#64), .cl (ok_scalar_members (x0) (x0.smin) ((sMin x0.smax 18446744073709551615#64))) ((congrArg spv ea1).trans (congrArg (fun c0 => Value.agg #[.int .u64 (nn (ra1.least)), .int .u64 (nn (ra1.most)), .bool c0]) h2)), .o, .a 3, .a 0, .o, .a 4, .o, .a 2, .o, .o, .o, .o, .a 2, .o, .o, .a 3, .o, .a 4, .cr sv (ok_scalar_settle (x0)) ea2, .a 1]
    [1, 1, 1, 1, 1, 1] (fun b => by kernel_rfl)
theorem ok_scalar_exact (x0 : S) : Con Tryz.prog 40 #[(sv (x0))] (sv (m_scalar_exact x0)) := by
  unfold m_scalar_exact
  refine Con.cond sv _ _ _ (fun h0 => ?_) (fun h0 => ?_)
  · exact p0_scalar_exact x0 h0
  · refine Con.cond sv _ _ _ (fun h1 => ?_) (fun h1 => ?_)
    · refine Con.cond sv _ _ _ (fun h2 => ?_) (fun h2 => ?_)
      · exact p1_scalar_exact x0 _ rfl _ rfl _ rfl h0 h1 h2
      · exact p2_scalar_exact x0 _ rfl _ rfl _ rfl h0 h1 h2
    · refine Con.cond sv _ _ _ (fun h2 => ?_) (fun h2 => ?_)
      · exact p3_scalar_exact x0 _ rfl _ rfl _ rfl h0 h1 h2
      · exact p4_scalar_exact x0 _ rfl _ rfl _ rfl h0 h1 h2
-- tuples
def vt4 (r : (BitVec 64) × (Bool)) : Value := .tuple #[(.int .i64 (ii (r.1))), (.bool (r.2))]

-- barbican/scalar.addSigned
def m_scalar_addSigned (x0 : BitVec 64) (x1 : BitVec 64) : (BitVec 64) × (Bool) :=
  (bif BitVec.slt x0 0#64 then
    (bif BitVec.slt x1 0#64 then
      (bif BitVec.slt (x0 + x1) 0#64 then
        (((x0 + x1), true))
        else (((x0 + x1), false)))
      else (((x0 + x1), true)))
    else (bif BitVec.slt x1 0#64 then
      (((x0 + x1), true))
      else (bif BitVec.slt (x0 + x1) 0#64 then
        (((x0 + x1), false))
        else (((x0 + x1), true)))))
theorem p0_scalar_addSigned (x0 : BitVec 64) (x1 : BitVec 64) (h0 : (BitVec.slt x0 0#64) = true) (h1 : (BitVec.slt x1 0#64) = true) (h2 : (BitVec.slt (x0 + x1) 0#64) = true) : Con Tryz.prog 126 #[(.int .i64 (ii (x0))), (.int .i64 (ii (x1)))] (.tuple #[(.int .i64 (ii ((x0 + x1)))), (.bool (true))]) :=
  fn_conI (P := Tryz.prog) Tryz.func126 (fun xs w => by kernel_rfl) _ _
    [.o, .o, .o, .o, .v .i64 (i64_add x0 x1), .o, .o, .o, .t (i_lt x0 0#64) h0, .o, .t (i_lt x1 0#64) h1, .o, .o, .o, .t (i_lt (x0 + x1) 0#64) h2, .o, .t (i_lt x0 0#64) h0, .o, .o, .o, .o]
    [] (fun b => by kernel_rfl)
theorem p1_scalar_addSigned (x0 : BitVec 64) (x1 : BitVec 64) (h0 : (BitVec.slt x0 0#64) = true) (h1 : (BitVec.slt x1 0#64) = true) (h2 : (BitVec.slt (x0 + x1) 0#64) = false) : Con Tryz.prog 126 #[(.int .i64 (ii (x0))), (.int .i64 (ii (x1)))] (.tuple #[(.int .i64 (ii ((x0 + x1)))), (.bool (false))]) :=
  fn_conI (P := Tryz.prog) Tryz.func126 (fun xs w => by kernel_rfl) _ _
    [.o, .o, .o, .o, .v .i64 (i64_add x0 x1), .o, .o, .o, .t (i_lt x0 0#64) h0, .o, .t (i_lt x1 0#64) h1, .o, .o, .o, .t (i_lt (x0 + x1) 0#64) h2, .o, .t (i_lt x0 0#64) h0, .o, .o, .o, .o]
    [] (fun b => by kernel_rfl)
theorem p2_scalar_addSigned (x0 : BitVec 64) (x1 : BitVec 64) (h0 : (BitVec.slt x0 0#64) = true) (h1 : (BitVec.slt x1 0#64) = false) : Con Tryz.prog 126 #[(.int .i64 (ii (x0))), (.int .i64 (ii (x1)))] (.tuple #[(.int .i64 (ii ((x0 + x1)))), (.bool (true))]) :=
  fn_conI (P := Tryz.prog) Tryz.func126 (fun xs w => by kernel_rfl) _ _
    [.o, .o, .o, .o, .v .i64 (i64_add x0 x1), .o, .o, .o, .t (i_lt x0 0#64) h0, .o, .t (i_lt x1 0#64) h1, .o, .o, .o, .o, .o]
    [] (fun b => by kernel_rfl)
theorem p3_scalar_addSigned (x0 : BitVec 64) (x1 : BitVec 64) (h0 : (BitVec.slt x0 0#64) = false) (h1 : (BitVec.slt x1 0#64) = true) : Con Tryz.prog 126 #[(.int .i64 (ii (x0))), (.int .i64 (ii (x1)))] (.tuple #[(.int .i64 (ii ((x0 + x1)))), (.bool (true))]) :=
  fn_conI (P := Tryz.prog) Tryz.func126 (fun xs w => by kernel_rfl) _ _
    [.o, .o, .o, .o, .v .i64 (i64_add x0 x1), .o, .o, .o, .t (i_lt x0 0#64) h0, .o, .t (i_lt x1 0#64) h1, .o, .o, .o, .o, .o]
    [] (fun b => by kernel_rfl)
theorem p4_scalar_addSigned (x0 : BitVec 64) (x1 : BitVec 64) (h0 : (BitVec.slt x0 0#64) = false) (h1 : (BitVec.slt x1 0#64) = false) (h2 : (BitVec.slt (x0 + x1) 0#64) = true) : Con Tryz.prog 126 #[(.int .i64 (ii (x0))), (.int .i64 (ii (x1)))] (.tuple #[(.int .i64 (ii ((x0 + x1)))), (.bool (false))]) :=
  fn_conI (P := Tryz.prog) Tryz.func126 (fun xs w => by kernel_rfl) _ _
    [.o, .o, .o, .o, .v .i64 (i64_add x0 x1), .o, .o, .o, .t (i_lt x0 0#64) h0, .o, .t (i_lt x1 0#64) h1, .o, .o, .o, .t (i_lt (x0 + x1) 0#64) h2, .o, .t (i_lt x0 0#64) h0, .o, .o, .o, .o]
    [] (fun b => by kernel_rfl)
theorem p5_scalar_addSigned (x0 : BitVec 64) (x1 : BitVec 64) (h0 : (BitVec.slt x0 0#64) = false) (h1 : (BitVec.slt x1 0#64) = false) (h2 : (BitVec.slt (x0 + x1) 0#64) = false) : Con Tryz.prog 126 #[(.int .i64 (ii (x0))), (.int .i64 (ii (x1)))] (.tuple #[(.int .i64 (ii ((x0 + x1)))), (.bool (true))]) :=
  fn_conI (P := Tryz.prog) Tryz.func126 (fun xs w => by kernel_rfl) _ _
    [.o, .o, .o, .o, .v .i64 (i64_add x0 x1), .o, .o, .o, .t (i_lt x0 0#64) h0, .o, .t (i_lt x1 0#64) h1, .o, .o, .o, .t (i_lt (x0 + x1) 0#64) h2, .o, .t (i_lt x0 0#64) h0, .o, .o, .o, .o]
    [] (fun b => by kernel_rfl)
theorem ok_scalar_addSigned (x0 : BitVec 64) (x1 : BitVec 64) : Con Tryz.prog 126 #[(.int .i64 (ii (x0))), (.int .i64 (ii (x1)))] (vt4 (m_scalar_addSigned x0 x1)) := by
  unfold m_scalar_addSigned
  refine Con.cond vt4 _ _ _ (fun h0 => ?_) (fun h0 => ?_)
  · refine Con.cond vt4 _ _ _ (fun h1 => ?_) (fun h1 => ?_)
    · refine Con.cond vt4 _ _ _ (fun h2 => ?_) (fun h2 => ?_)
      · exact p0_scalar_addSigned x0 x1 h0 h1 h2
      · exact p1_scalar_addSigned x0 x1 h0 h1 h2
    · exact p2_scalar_addSigned x0 x1 h0 h1
  · refine Con.cond vt4 _ _ _ (fun h1 => ?_) (fun h1 => ?_)
    · exact p3_scalar_addSigned x0 x1 h0 h1
    · refine Con.cond vt4 _ _ _ (fun h2 => ?_) (fun h2 => ?_)
      · exact p4_scalar_addSigned x0 x1 h0 h1 h2
      · exact p5_scalar_addSigned x0 x1 h0 h1 h2
-- (barbican/scalar.operands).add
def m_scalar_operands_add (x0 : OO) : S :=
  (bif (addc x0.a.umin x0.b.umin) == (addc x0.a.umax x0.b.umax) then
    (bif (m_scalar_addSigned x0.a.smin x0.b.smin).2 then
      (bif (m_scalar_addSigned x0.a.smax x0.b.smax).2 then
        ((m_scalar_settle (⟨(m_scalar_ofBits (m_tnum_Add x0.a.t x0.b.t)).t, (x0.a.umin + x0.b.umin), (x0.a.umax + x0.b.umax), (m_scalar_addSigned x0.a.smin x0.b.smin).1, (m_scalar_addSigned x0.a.smax x0.b.smax).1⟩ : S)))
        else ((m_scalar_settle (⟨(m_scalar_ofBits (m_tnum_Add x0.a.t x0.b.t)).t, (x0.a.umin + x0.b.umin), (x0.a.umax + x0.b.umax), (m_scalar_ofBits (m_tnum_Add x0.a.t x0.b.t)).smin, (m_scalar_ofBits (m_tnum_Add x0.a.t x0.b.t)).smax⟩ : S))))
      else (bif (m_scalar_addSigned x0.a.smax x0.b.smax).2 then
        ((m_scalar_settle (⟨(m_scalar_ofBits (m_tnum_Add x0.a.t x0.b.t)).t, (x0.a.umin + x0.b.umin), (x0.a.umax + x0.b.umax), (m_scalar_ofBits (m_tnum_Add x0.a.t x0.b.t)).smin, (m_scalar_ofBits (m_tnum_Add x0.a.t x0.b.t)).smax⟩ : S)))
        else ((m_scalar_settle (⟨(m_scalar_ofBits (m_tnum_Add x0.a.t x0.b.t)).t, (x0.a.umin + x0.b.umin), (x0.a.umax + x0.b.umax), (m_scalar_ofBits (m_tnum_Add x0.a.t x0.b.t)).smin, (m_scalar_ofBits (m_tnum_Add x0.a.t x0.b.t)).smax⟩ : S)))))
    else (bif (m_scalar_addSigned x0.a.smin x0.b.smin).2 then
      (bif (m_scalar_addSigned x0.a.smax x0.b.smax).2 then
        ((m_scalar_settle (⟨(m_scalar_ofBits (m_tnum_Add x0.a.t x0.b.t)).t, (m_scalar_ofBits (m_tnum_Add x0.a.t x0.b.t)).umin, (m_scalar_ofBits (m_tnum_Add x0.a.t x0.b.t)).umax, (m_scalar_addSigned x0.a.smin x0.b.smin).1, (m_scalar_addSigned x0.a.smax x0.b.smax).1⟩ : S)))
        else ((m_scalar_settle (m_scalar_ofBits (m_tnum_Add x0.a.t x0.b.t)))))
      else (bif (m_scalar_addSigned x0.a.smax x0.b.smax).2 then
        ((m_scalar_settle (m_scalar_ofBits (m_tnum_Add x0.a.t x0.b.t))))
        else ((m_scalar_settle (m_scalar_ofBits (m_tnum_Add x0.a.t x0.b.t)))))))
theorem p0_scalar_operands_add (x0 : OO) (ra0 : T) (ea0 : m_tnum_Add x0.a.t x0.b.t = ra0) (ra1 : S) (ea1 : m_scalar_ofBits ra0 = ra1) (ra2 : (BitVec 64) × (Bool)) (ea2 : m_scalar_addSigned x0.a.smin x0.b.smin = ra2) (ra3 : (BitVec 64) × (Bool)) (ea3 : m_scalar_addSigned x0.a.smax x0.b.smax = ra3) (ra4 : S) (ea4 : m_scalar_settle (⟨ra1.t, (x0.a.umin + x0.b.umin), (x0.a.umax + x0.b.umax), ra2.1, ra3.1⟩ : S) = ra4) (h0 : ((addc x0.a.umin x0.b.umin) == (addc x0.a.umax x0.b.umax)) = true) (h1 : (ra2.2) = true) (h2 : (ra3.2) = true) : Con Tryz.prog 81 #[(ov (x0))] (sv (ra4)) :=
  fn_conI (P := Tryz.prog) Tryz.func81 (fun xs w => by kernel_rfl) _ _
    [.o, .o, .o, .o, .a 0, .o, .o, .a 0, .cr tv (ok_tnum_Add (x0.a.t) (x0.b.t)) ea0, .cr sv (ok_scalar_ofBits (ra0)) ea1, .o, .a 2, .o, .o, .a 0, .o, .o, .a 0, .w (add64_v x0.a.umin x0.b.umin), .o, .o, .o, .o, .o, .o, .o, .a 0, .o, .o, .a 0, .w (add64_v x0.a.umax x0.b.umax), .o, .o, .o, .o, .o, .o, .o, .t (u_eq (addc x0.a.umin x0.b.umin) (addc x0.a.umax x0.b.umax)) h0, .o, .o, .o, .a 2, .o, .a 2, .o, .o, .a 0, .o, .o, .a 0, .cr vt4 (ok_scalar_addSigned (x0.a.smin) (x0.b.smin)) ea2, .o, .o, .b h1, .o, .o, .o, .o, .a 0, .o, .o, .a 0, .cr vt4 (ok_scalar_addSigned (x0.a.smax) (x0.b.smax)) ea3, .o, .o, .b h2, .o, .o, .o, .o, .o, .o, .o, .o, .o, .a 2, .o, .a 2, .a 2, .cr sv (ok_scalar_settle ((⟨ra1.t, (x0.a.umin + x0.b.umin), (x0.a.umax + x0.b.umax), ra2.1, ra3.1⟩ : S))) ea4, .a 1]
    [1, 1, 1, 1, 1, 1] (fun b => by kernel_rfl)
theorem p1_scalar_operands_add (x0 : OO) (ra0 : T) (ea0 : m_tnum_Add x0.a.t x0.b.t = ra0) (ra1 : S) (ea1 : m_scalar_ofBits ra0 = ra1) (ra2 : (BitVec 64) × (Bool)) (ea2 : m_scalar_addSigned x0.a.smin x0.b.smin = ra2) (ra3 : (BitVec 64) × (Bool)) (ea3 : m_scalar_addSigned x0.a.smax x0.b.smax = ra3) (ra4 : S) (ea4 : m_scalar_settle (⟨ra1.t, (x0.a.umin + x0.b.umin), (x0.a.umax + x0.b.umax), ra1.smin, ra1.smax⟩ : S) = ra4) (h0 : ((addc x0.a.umin x0.b.umin) == (addc x0.a.umax x0.b.umax)) = true) (h1 : (ra2.2) = true) (h2 : (ra3.2) = false) : Con Tryz.prog 81 #[(ov (x0))] (sv (ra4)) :=
  fn_conI (P := Tryz.prog) Tryz.func81 (fun xs w => by kernel_rfl) _ _
    [.o, .o, .o, .o, .a 0, .o, .o, .a 0, .cr tv (ok_tnum_Add (x0.a.t) (x0.b.t)) ea0, .cr sv (ok_scalar_ofBits (ra0)) ea1, .o, .a 2, .o, .o, .a 0, .o, .o, .a 0, .w (add64_v x0.a.umin x0.b.umin), .o, .o, .o, .o, .o, .o, .o, .a 0, .o, .o, .a 0, .w (add64_v x0.a.umax x0.b.umax), .o, .o, .o, .o, .o, .o, .o, .t (u_eq (addc x0.a.umin x0.b.umin) (addc x0.a.umax x0.b.umax)) h0, .o, .o, .o, .a 2, .o, .a 2, .o, .o, .a 0, .o, .o, .a 0, .cr vt4 (ok_scalar_addSigned (x0.a.smin) (x0.b.smin)) ea2, .o, .o, .b h1, .o, .o, .o, .o, .a 0, .o, .o, .a 0, .cr vt4 (ok_scalar_addSigned (x0.a.smax) (x0.b.smax)) ea3, .o, .o, .b h2, .o, .o, .o, .o, .o, .o, .a 2, .cr sv (ok_scalar_settle ((⟨ra1.t, (x0.a.umin + x0.b.umin), (x0.a.umax + x0.b.umax), ra1.smin, ra1.smax⟩ : S))) ea4, .a 1]
    [1, 1, 1, 1, 1, 1] (fun b => by kernel_rfl)
theorem p2_scalar_operands_add (x0 : OO) (ra0 : T) (ea0 : m_tnum_Add x0.a.t x0.b.t = ra0) (ra1 : S) (ea1 : m_scalar_ofBits ra0 = ra1) (ra2 : (BitVec 64) × (Bool)) (ea2 : m_scalar_addSigned x0.a.smin x0.b.smin = ra2) (ra3 : (BitVec 64) × (Bool)) (ea3 : m_scalar_addSigned x0.a.smax x0.b.smax = ra3) (ra4 : S) (ea4 : m_scalar_settle (⟨ra1.t, (x0.a.umin + x0.b.umin), (x0.a.umax + x0.b.umax), ra1.smin, ra1.smax⟩ : S) = ra4) (h0 : ((addc x0.a.umin x0.b.umin) == (addc x0.a.umax x0.b.umax)) = true) (h1 : (ra2.2) = false) (h2 : (ra3.2) = true) : Con Tryz.prog 81 #[(ov (x0))] (sv (ra4)) :=
  fn_conI (P := Tryz.prog) Tryz.func81 (fun xs w => by kernel_rfl) _ _
    [.o, .o, .o, .o, .a 0, .o, .o, .a 0, .cr tv (ok_tnum_Add (x0.a.t) (x0.b.t)) ea0, .cr sv (ok_scalar_ofBits (ra0)) ea1, .o, .a 2, .o, .o, .a 0, .o, .o, .a 0, .w (add64_v x0.a.umin x0.b.umin), .o, .o, .o, .o, .o, .o, .o, .a 0, .o, .o, .a 0, .w (add64_v x0.a.umax x0.b.umax), .o, .o, .o, .o, .o, .o, .o, .t (u_eq (addc x0.a.umin x0.b.umin) (addc x0.a.umax x0.b.umax)) h0, .o, .o, .o, .a 2, .o, .a 2, .o, .o, .a 0, .o, .o, .a 0, .cr vt4 (ok_scalar_addSigned (x0.a.smin) (x0.b.smin)) ea2, .o, .o, .b h1, .o, .o, .o, .o, .a 0, .o, .o, .a 0, .cr vt4 (ok_scalar_addSigned (x0.a.smax) (x0.b.smax)) ea3, .o, .o, .b h2, .o, .o, .o, .o, .o, .a 2, .cr sv (ok_scalar_settle ((⟨ra1.t, (x0.a.umin + x0.b.umin), (x0.a.umax + x0.b.umax), ra1.smin, ra1.smax⟩ : S))) ea4, .a 1]
    [1, 1, 1, 1, 1, 1] (fun b => by kernel_rfl)
theorem p3_scalar_operands_add (x0 : OO) (ra0 : T) (ea0 : m_tnum_Add x0.a.t x0.b.t = ra0) (ra1 : S) (ea1 : m_scalar_ofBits ra0 = ra1) (ra2 : (BitVec 64) × (Bool)) (ea2 : m_scalar_addSigned x0.a.smin x0.b.smin = ra2) (ra3 : (BitVec 64) × (Bool)) (ea3 : m_scalar_addSigned x0.a.smax x0.b.smax = ra3) (ra4 : S) (ea4 : m_scalar_settle (⟨ra1.t, (x0.a.umin + x0.b.umin), (x0.a.umax + x0.b.umax), ra1.smin, ra1.smax⟩ : S) = ra4) (h0 : ((addc x0.a.umin x0.b.umin) == (addc x0.a.umax x0.b.umax)) = true) (h1 : (ra2.2) = false) (h2 : (ra3.2) = false) : Con Tryz.prog 81 #[(ov (x0))] (sv (ra4)) :=
  fn_conI (P := Tryz.prog) Tryz.func81 (fun xs w => by kernel_rfl) _ _
    [.o, .o, .o, .o, .a 0, .o, .o, .a 0, .cr tv (ok_tnum_Add (x0.a.t) (x0.b.t)) ea0, .cr sv (ok_scalar_ofBits (ra0)) ea1, .o, .a 2, .o, .o, .a 0, .o, .o, .a 0, .w (add64_v x0.a.umin x0.b.umin), .o, .o, .o, .o, .o, .o, .o, .a 0, .o, .o, .a 0, .w (add64_v x0.a.umax x0.b.umax), .o, .o, .o, .o, .o, .o, .o, .t (u_eq (addc x0.a.umin x0.b.umin) (addc x0.a.umax x0.b.umax)) h0, .o, .o, .o, .a 2, .o, .a 2, .o, .o, .a 0, .o, .o, .a 0, .cr vt4 (ok_scalar_addSigned (x0.a.smin) (x0.b.smin)) ea2, .o, .o, .b h1, .o, .o, .o, .o, .a 0, .o, .o, .a 0, .cr vt4 (ok_scalar_addSigned (x0.a.smax) (x0.b.smax)) ea3, .o, .o, .b h2, .o, .o, .o, .o, .o, .a 2, .cr sv (ok_scalar_settle ((⟨ra1.t, (x0.a.umin + x0.b.umin), (x0.a.umax + x0.b.umax), ra1.smin, ra1.smax⟩ : S))) ea4, .a 1]
    [1, 1, 1, 1, 1, 1] (fun b => by kernel_rfl)
theorem p4_scalar_operands_add (x0 : OO) (ra0 : T) (ea0 : m_tnum_Add x0.a.t x0.b.t = ra0) (ra1 : S) (ea1 : m_scalar_ofBits ra0 = ra1) (ra2 : (BitVec 64) × (Bool)) (ea2 : m_scalar_addSigned x0.a.smin x0.b.smin = ra2) (ra3 : (BitVec 64) × (Bool)) (ea3 : m_scalar_addSigned x0.a.smax x0.b.smax = ra3) (ra4 : S) (ea4 : m_scalar_settle (⟨ra1.t, ra1.umin, ra1.umax, ra2.1, ra3.1⟩ : S) = ra4) (h0 : ((addc x0.a.umin x0.b.umin) == (addc x0.a.umax x0.b.umax)) = false) (h1 : (ra2.2) = true) (h2 : (ra3.2) = true) : Con Tryz.prog 81 #[(ov (x0))] (sv (ra4)) :=
  fn_conI (P := Tryz.prog) Tryz.func81 (fun xs w => by kernel_rfl) _ _
    [.o, .o, .o, .o, .a 0, .o, .o, .a 0, .cr tv (ok_tnum_Add (x0.a.t) (x0.b.t)) ea0, .cr sv (ok_scalar_ofBits (ra0)) ea1, .o, .a 2, .o, .o, .a 0, .o, .o, .a 0, .w (add64_v x0.a.umin x0.b.umin), .o, .o, .o, .o, .o, .o, .o, .a 0, .o, .o, .a 0, .w (add64_v x0.a.umax x0.b.umax), .o, .o, .o, .o, .o, .o, .o, .t (u_eq (addc x0.a.umin x0.b.umin) (addc x0.a.umax x0.b.umax)) h0, .o, .o, .a 0, .o, .o, .a 0, .cr vt4 (ok_scalar_addSigned (x0.a.smin) (x0.b.smin)) ea2, .o, .o, .b h1, .o, .o, .o, .o, .a 0, .o, .o, .a 0, .cr vt4 (ok_scalar_addSigned (x0.a.smax) (x0.b.smax)) ea3, .o, .o, .b h2, .o, .o, .o, .o, .o, .o, .o, .o, .o, .a 2, .o, .a 2, .a 2, .cr sv (ok_scalar_settle ((⟨ra1.t, ra1.umin, ra1.umax, ra2.1, ra3.1⟩ : S))) ea4, .a 1]
    [1, 1, 1, 1, 1, 1] (fun b => by kernel_rfl)
theorem p5_scalar_operands_add (x0 : OO) (ra0 : T) (ea0 : m_tnum_Add x0.a.t x0.b.t = ra0) (ra1 : S) (ea1 : m_scalar_ofBits ra0 = ra1) (ra2 : (BitVec 64) × (Bool)) (ea2 : m_scalar_addSigned x0.a.smin x0.b.smin = ra2) (ra3 : (BitVec 64) × (Bool)) (ea3 : m_scalar_addSigned x0.a.smax x0.b.smax = ra3) (ra4 : S) (ea4 : m_scalar_settle ra1 = ra4) (h0 : ((addc x0.a.umin x0.b.umin) == (addc x0.a.umax x0.b.umax)) = false) (h1 : (ra2.2) = true) (h2 : (ra3.2) = false) : Con Tryz.prog 81 #[(ov (x0))] (sv (ra4)) :=
  fn_conI (P := Tryz.prog) Tryz.func81 (fun xs w => by kernel_rfl) _ _
    [.o, .o, .o, .o, .a 0, .o, .o, .a 0, .cr tv (ok_tnum_Add (x0.a.t) (x0.b.t)) ea0, .cr sv (ok_scalar_ofBits (ra0)) ea1, .o, .a 2, .o, .o, .a 0, .o, .o, .a 0, .w (add64_v x0.a.umin x0.b.umin), .o, .o, .o, .o, .o, .o, .o, .a 0, .o, .o, .a 0, .w (add64_v x0.a.umax x0.b.umax), .o, .o, .o, .o, .o, .o, .o, .t (u_eq (addc x0.a.umin x0.b.umin) (addc x0.a.umax x0.b.umax)) h0, .o, .o, .a 0, .o, .o, .a 0, .cr vt4 (ok_scalar_addSigned (x0.a.smin) (x0.b.smin)) ea2, .o, .o, .b h1, .o, .o, .o, .o, .a 0, .o, .o, .a 0, .cr vt4 (ok_scalar_addSigned (x0.a.smax) (x0.b.smax)) ea3, .o, .o, .b h2, .o, .o, .o, .o, .o, .o, .a 2, .cr sv (ok_scalar_settle (ra1)) ea4, .a 1]
    [1, 1, 1, 1, 1, 1] (fun b => by kernel_rfl)
theorem p6_scalar_operands_add (x0 : OO) (ra0 : T) (ea0 : m_tnum_Add x0.a.t x0.b.t = ra0) (ra1 : S) (ea1 : m_scalar_ofBits ra0 = ra1) (ra2 : (BitVec 64) × (Bool)) (ea2 : m_scalar_addSigned x0.a.smin x0.b.smin = ra2) (ra3 : (BitVec 64) × (Bool)) (ea3 : m_scalar_addSigned x0.a.smax x0.b.smax = ra3) (ra4 : S) (ea4 : m_scalar_settle ra1 = ra4) (h0 : ((addc x0.a.umin x0.b.umin) == (addc x0.a.umax x0.b.umax)) = false) (h1 : (ra2.2) = false) (h2 : (ra3.2) = true) : Con Tryz.prog 81 #[(ov (x0))] (sv (ra4)) :=
  fn_conI (P := Tryz.prog) Tryz.func81 (fun xs w => by kernel_rfl) _ _
    [.o, .o, .o, .o, .a 0, .o, .o, .a 0, .cr tv (ok_tnum_Add (x0.a.t) (x0.b.t)) ea0, .cr sv (ok_scalar_ofBits (ra0)) ea1, .o, .a 2, .o, .o, .a 0, .o, .o, .a 0, .w (add64_v x0.a.umin x0.b.umin), .o, .o, .o, .o, .o, .o, .o, .a 0, .o, .o, .a 0, .w (add64_v x0.a.umax x0.b.umax), .o, .o, .o, .o, .o, .o, .o, .t (u_eq (addc x0.a.umin x0.b.umin) (addc x0.a.umax x0.b.umax)) h0, .o, .o, .a 0, .o, .o, .a 0, .cr vt4 (ok_scalar_addSigned (x0.a.smin) (x0.b.smin)) ea2, .o, .o, .b h1, .o, .o, .o, .o, .a 0, .o, .o, .a 0, .cr vt4 (ok_scalar_addSigned (x0.a.smax) (x0.b.smax)) ea3, .o, .o, .b h2, .o, .o, .o, .o, .o, .a 2, .cr sv (ok_scalar_settle (ra1)) ea4, .a 1]
    [1, 1, 1, 1, 1, 1] (fun b => by kernel_rfl)
theorem p7_scalar_operands_add (x0 : OO) (ra0 : T) (ea0 : m_tnum_Add x0.a.t x0.b.t = ra0) (ra1 : S) (ea1 : m_scalar_ofBits ra0 = ra1) (ra2 : (BitVec 64) × (Bool)) (ea2 : m_scalar_addSigned x0.a.smin x0.b.smin = ra2) (ra3 : (BitVec 64) × (Bool)) (ea3 : m_scalar_addSigned x0.a.smax x0.b.smax = ra3) (ra4 : S) (ea4 : m_scalar_settle ra1 = ra4) (h0 : ((addc x0.a.umin x0.b.umin) == (addc x0.a.umax x0.b.umax)) = false) (h1 : (ra2.2) = false) (h2 : (ra3.2) = false) : Con Tryz.prog 81 #[(ov (x0))] (sv (ra4)) :=
  fn_conI (P := Tryz.prog) Tryz.func81 (fun xs w => by kernel_rfl) _ _
    [.o, .o, .o, .o, .a 0, .o, .o, .a 0, .cr tv (ok_tnum_Add (x0.a.t) (x0.b.t)) ea0, .cr sv (ok_scalar_ofBits (ra0)) ea1, .o, .a 2, .o, .o, .a 0, .o, .o, .a 0, .w (add64_v x0.a.umin x0.b.umin), .o, .o, .o, .o, .o, .o, .o, .a 0, .o, .o, .a 0, .w (add64_v x0.a.umax x0.b.umax), .o, .o, .o, .o, .o, .o, .o, .t (u_eq (addc x0.a.umin x0.b.umin) (addc x0.a.umax x0.b.umax)) h0, .o, .o, .a 0, .o, .o, .a 0, .cr vt4 (ok_scalar_addSigned (x0.a.smin) (x0.b.smin)) ea2, .o, .o, .b h1, .o, .o, .o, .o, .a 0, .o, .o, .a 0, .cr vt4 (ok_scalar_addSigned (x0.a.smax) (x0.b.smax)) ea3, .o, .o, .b h2, .o, .o, .o, .o, .o, .a 2, .cr sv (ok_scalar_settle (ra1)) ea4, .a 1]
    [1, 1, 1, 1, 1, 1] (fun b => by kernel_rfl)
theorem ok_scalar_operands_add (x0 : OO) : Con Tryz.prog 81 #[(ov (x0))] (sv (m_scalar_operands_add x0)) := by
  unfold m_scalar_operands_add
  refine Con.cond sv _ _ _ (fun h0 => ?_) (fun h0 => ?_)
  · refine Con.cond sv _ _ _ (fun h1 => ?_) (fun h1 => ?_)
    · refine Con.cond sv _ _ _ (fun h2 => ?_) (fun h2 => ?_)
      · exact p0_scalar_operands_add x0 _ rfl _ rfl _ rfl _ rfl _ rfl h0 h1 h2
      · exact p1_scalar_operands_add x0 _ rfl _ rfl _ rfl _ rfl _ rfl h0 h1 h2
    · refine Con.cond sv _ _ _ (fun h2 => ?_) (fun h2 => ?_)
      · exact p2_scalar_operands_add x0 _ rfl _ rfl _ rfl _ rfl _ rfl h0 h1 h2
      · exact p3_scalar_operands_add x0 _ rfl _ rfl _ rfl _ rfl _ rfl h0 h1 h2
  · refine Con.cond sv _ _ _ (fun h1 => ?_) (fun h1 => ?_)
    · refine Con.cond sv _ _ _ (fun h2 => ?_) (fun h2 => ?_)
      · exact p4_scalar_operands_add x0 _ rfl _ rfl _ rfl _ rfl _ rfl h0 h1 h2
      · exact p5_scalar_operands_add x0 _ rfl _ rfl _ rfl _ rfl _ rfl h0 h1 h2
    · refine Con.cond sv _ _ _ (fun h2 => ?_) (fun h2 => ?_)
      · exact p6_scalar_operands_add x0 _ rfl _ rfl _ rfl _ rfl _ rfl h0 h1 h2
      · exact p7_scalar_operands_add x0 _ rfl _ rfl _ rfl _ rfl _ rfl h0 h1 h2
-- barbican/scalar.subSigned
def m_scalar_subSigned (x0 : BitVec 64) (x1 : BitVec 64) : (BitVec 64) × (Bool) :=
  (bif BitVec.slt x0 0#64 then
    (bif BitVec.slt x1 0#64 then
      (((x0 - x1), true))
      else (bif BitVec.slt (x0 - x1) 0#64 then
        (((x0 - x1), true))
        else (((x0 - x1), false))))
    else (bif BitVec.slt x1 0#64 then
      (bif BitVec.slt (x0 - x1) 0#64 then
        (((x0 - x1), false))
        else (((x0 - x1), true)))
      else (((x0 - x1), true))))
theorem p0_scalar_subSigned (x0 : BitVec 64) (x1 : BitVec 64) (h0 : (BitVec.slt x0 0#64) = true) (h1 : (BitVec.slt x1 0#64) = true) : Con Tryz.prog 129 #[(.int .i64 (ii (x0))), (.int .i64 (ii (x1)))] (.tuple #[(.int .i64 (ii ((x0 - x1)))), (.bool (true))]) :=
  fn_conI (P := Tryz.prog) Tryz.func129 (fun xs w => by kernel_rfl) _ _
    [.o, .o, .o, .o, .v .i64 (i64_sub x0 x1), .o, .o, .o, .t (i_lt x0 0#64) h0, .o, .t (i_lt x1 0#64) h1, .o, .o, .o, .o, .o]
    [] (fun b => by kernel_rfl)
theorem p1_scalar_subSigned (x0 : BitVec 64) (x1 : BitVec 64) (h0 : (BitVec.slt x0 0#64) = true) (h1 : (BitVec.slt x1 0#64) = false) (h2 : (BitVec.slt (x0 - x1) 0#64) = true) : Con Tryz.prog 129 #[(.int .i64 (ii (x0))), (.int .i64 (ii (x1)))] (.tuple #[(.int .i64 (ii ((x0 - x1)))), (.bool (true))]) :=
  fn_conI (P := Tryz.prog) Tryz.func129 (fun xs w => by kernel_rfl) _ _
    [.o, .o, .o, .o, .v .i64 (i64_sub x0 x1), .o, .o, .o, .t (i_lt x0 0#64) h0, .o, .t (i_lt x1 0#64) h1, .o, .o, .o, .t (i_lt (x0 - x1) 0#64) h2, .o, .t (i_lt x0 0#64) h0, .o, .o, .o, .o]
    [] (fun b => by kernel_rfl)
theorem p2_scalar_subSigned (x0 : BitVec 64) (x1 : BitVec 64) (h0 : (BitVec.slt x0 0#64) = true) (h1 : (BitVec.slt x1 0#64) = false) (h2 : (BitVec.slt (x0 - x1) 0#64) = false) : Con Tryz.prog 129 #[(.int .i64 (ii (x0))), (.int .i64 (ii (x1)))] (.tuple #[(.int .i64 (ii ((x0 - x1)))), (.bool (false))]) :=
  fn_conI (P := Tryz.prog) Tryz.func129 (fun xs w => by kernel_rfl) _ _
    [.o, .o, .o, .o, .v .i64 (i64_sub x0 x1), .o, .o, .o, .t (i_lt x0 0#64) h0, .o, .t (i_lt x1 0#64) h1, .o, .o, .o, .t (i_lt (x0 - x1) 0#64) h2, .o, .t (i_lt x0 0#64) h0, .o, .o, .o, .o]
    [] (fun b => by kernel_rfl)
theorem p3_scalar_subSigned (x0 : BitVec 64) (x1 : BitVec 64) (h0 : (BitVec.slt x0 0#64) = false) (h1 : (BitVec.slt x1 0#64) = true) (h2 : (BitVec.slt (x0 - x1) 0#64) = true) : Con Tryz.prog 129 #[(.int .i64 (ii (x0))), (.int .i64 (ii (x1)))] (.tuple #[(.int .i64 (ii ((x0 - x1)))), (.bool (false))]) :=
  fn_conI (P := Tryz.prog) Tryz.func129 (fun xs w => by kernel_rfl) _ _
    [.o, .o, .o, .o, .v .i64 (i64_sub x0 x1), .o, .o, .o, .t (i_lt x0 0#64) h0, .o, .t (i_lt x1 0#64) h1, .o, .o, .o, .t (i_lt (x0 - x1) 0#64) h2, .o, .t (i_lt x0 0#64) h0, .o, .o, .o, .o]
    [] (fun b => by kernel_rfl)
theorem p4_scalar_subSigned (x0 : BitVec 64) (x1 : BitVec 64) (h0 : (BitVec.slt x0 0#64) = false) (h1 : (BitVec.slt x1 0#64) = true) (h2 : (BitVec.slt (x0 - x1) 0#64) = false) : Con Tryz.prog 129 #[(.int .i64 (ii (x0))), (.int .i64 (ii (x1)))] (.tuple #[(.int .i64 (ii ((x0 - x1)))), (.bool (true))]) :=
  fn_conI (P := Tryz.prog) Tryz.func129 (fun xs w => by kernel_rfl) _ _
    [.o, .o, .o, .o, .v .i64 (i64_sub x0 x1), .o, .o, .o, .t (i_lt x0 0#64) h0, .o, .t (i_lt x1 0#64) h1, .o, .o, .o, .t (i_lt (x0 - x1) 0#64) h2, .o, .t (i_lt x0 0#64) h0, .o, .o, .o, .o]
    [] (fun b => by kernel_rfl)
theorem p5_scalar_subSigned (x0 : BitVec 64) (x1 : BitVec 64) (h0 : (BitVec.slt x0 0#64) = false) (h1 : (BitVec.slt x1 0#64) = false) : Con Tryz.prog 129 #[(.int .i64 (ii (x0))), (.int .i64 (ii (x1)))] (.tuple #[(.int .i64 (ii ((x0 - x1)))), (.bool (true))]) :=
  fn_conI (P := Tryz.prog) Tryz.func129 (fun xs w => by kernel_rfl) _ _
    [.o, .o, .o, .o, .v .i64 (i64_sub x0 x1), .o, .o, .o, .t (i_lt x0 0#64) h0, .o, .t (i_lt x1 0#64) h1, .o, .o, .o, .o, .o]
    [] (fun b => by kernel_rfl)
theorem ok_scalar_subSigned (x0 : BitVec 64) (x1 : BitVec 64) : Con Tryz.prog 129 #[(.int .i64 (ii (x0))), (.int .i64 (ii (x1)))] (vt4 (m_scalar_subSigned x0 x1)) := by
  unfold m_scalar_subSigned
  refine Con.cond vt4 _ _ _ (fun h0 => ?_) (fun h0 => ?_)
  · refine Con.cond vt4 _ _ _ (fun h1 => ?_) (fun h1 => ?_)
    · exact p0_scalar_subSigned x0 x1 h0 h1
    · refine Con.cond vt4 _ _ _ (fun h2 => ?_) (fun h2 => ?_)
      · exact p1_scalar_subSigned x0 x1 h0 h1 h2
      · exact p2_scalar_subSigned x0 x1 h0 h1 h2
  · refine Con.cond vt4 _ _ _ (fun h1 => ?_) (fun h1 => ?_)
    · refine Con.cond vt4 _ _ _ (fun h2 => ?_) (fun h2 => ?_)
      · exact p3_scalar_subSigned x0 x1 h0 h1 h2
      · exact p4_scalar_subSigned x0 x1 h0 h1 h2
    · exact p5_scalar_subSigned x0 x1 h0 h1
-- (barbican/scalar.operands).sub
def m_scalar_operands_sub (x0 : OO) : S :=
  (bif (subc x0.a.umin x0.b.umax) == (subc x0.a.umax x0.b.umin) then
    (bif (m_scalar_subSigned x0.a.smin x0.b.smax).2 then
      (bif (m_scalar_subSigned x0.a.smax x0.b.smin).2 then
        ((m_scalar_settle (⟨(m_scalar_ofBits (m_tnum_Sub x0.a.t x0.b.t)).t, (x0.a.umin - x0.b.umax), (x0.a.umax - x0.b.umin), (m_scalar_subSigned x0.a.smin x0.b.smax).1, (m_scalar_subSigned x0.a.smax x0.b.smin).1⟩ : S)))
        else ((m_scalar_settle (⟨(m_scalar_ofBits (m_tnum_Sub x0.a.t x0.b.t)).t, (x0.a.umin - x0.b.umax), (x0.a.umax - x0.b.umin), (m_scalar_ofBits (m_tnum_Sub x0.a.t x0.b.t)).smin, (m_scalar_ofBits (m_tnum_Sub x0.a.t x0.b.t)).smax⟩ : S))))
      else (bif (m_scalar_subSigned x0.a.smax x0.b.smin).2 then
        ((m_scalar_settle (⟨(m_scalar_ofBits (m_tnum_Sub x0.a.t x0.b.t)).t, (x0.a.umin - x0.b.umax), (x0.a.umax - x0.b.umin), (m_scalar_ofBits (m_tnum_Sub x0.a.t x0.b.t)).smin, (m_scalar_ofBits (m_tnum_Sub x0.a.t x0.b.t)).smax⟩ : S)))
        else ((m_scalar_settle (⟨(m_scalar_ofBits (m_tnum_Sub x0.a.t x0.b.t)).t, (x0.a.umin - x0.b.umax), (x0.a.umax - x0.b.umin), (m_scalar_ofBits (m_tnum_Sub x0.a.t x0.b.t)).smin, (m_scalar_ofBits (m_tnum_Sub x0.a.t x0.b.t)).smax⟩ : S)))))
    else (bif (m_scalar_subSigned x0.a.smin x0.b.smax).2 then
      (bif (m_scalar_subSigned x0.a.smax x0.b.smin).2 then
        ((m_scalar_settle (⟨(m_scalar_ofBits (m_tnum_Sub x0.a.t x0.b.t)).t, (m_scalar_ofBits (m_tnum_Sub x0.a.t x0.b.t)).umin, (m_scalar_ofBits (m_tnum_Sub x0.a.t x0.b.t)).umax, (m_scalar_subSigned x0.a.smin x0.b.smax).1, (m_scalar_subSigned x0.a.smax x0.b.smin).1⟩ : S)))
        else ((m_scalar_settle (m_scalar_ofBits (m_tnum_Sub x0.a.t x0.b.t)))))
      else (bif (m_scalar_subSigned x0.a.smax x0.b.smin).2 then
        ((m_scalar_settle (m_scalar_ofBits (m_tnum_Sub x0.a.t x0.b.t))))
        else ((m_scalar_settle (m_scalar_ofBits (m_tnum_Sub x0.a.t x0.b.t)))))))
theorem p0_scalar_operands_sub (x0 : OO) (ra0 : T) (ea0 : m_tnum_Sub x0.a.t x0.b.t = ra0) (ra1 : S) (ea1 : m_scalar_ofBits ra0 = ra1) (ra2 : (BitVec 64) × (Bool)) (ea2 : m_scalar_subSigned x0.a.smin x0.b.smax = ra2) (ra3 : (BitVec 64) × (Bool)) (ea3 : m_scalar_subSigned x0.a.smax x0.b.smin = ra3) (ra4 : S) (ea4 : m_scalar_settle (⟨ra1.t, (x0.a.umin - x0.b.umax), (x0.a.umax - x0.b.umin), ra2.1, ra3.1⟩ : S) = ra4) (h0 : ((subc x0.a.umin x0.b.umax) == (subc x0.a.umax x0.b.umin)) = true) (h1 : (ra2.2) = true) (h2 : (ra3.2) = true) : Con Tryz.prog 82 #[(ov (x0))] (sv (ra4)) :=
  fn_conI (P := Tryz.prog) Tryz.func82 (fun xs w => by kernel_rfl) _ _
    [.o, .o, .o, .o, .a 0, .o, .o, .a 0, .cr tv (ok_tnum_Sub (x0.a.t) (x0.b.t)) ea0, .cr sv (ok_scalar_ofBits (ra0)) ea1, .o, .a 2, .o, .o, .a 0, .o, .o, .a 0, .w (sub64_v x0.a.umin x0.b.umax), .o, .o, .o, .o, .o, .o, .o, .a 0, .o, .o, .a 0, .w (sub64_v x0.a.umax x0.b.umin), .o, .o, .o, .o, .o, .o, .o, .t (u_eq (subc x0.a.umin x0.b.umax) (subc x0.a.umax x0.b.umin)) h0, .o, .o, .o, .a 2, .o, .a 2, .o, .o, .a 0, .o, .o, .a 0, .cr vt4 (ok_scalar_subSigned (x0.a.smin) (x0.b.smax)) ea2, .o, .o, .b h1, .o, .o, .o, .o, .a 0, .o, .o, .a 0, .cr vt4 (ok_scalar_subSigned (x0.a.smax) (x0.b.smin)) ea3, .o, .o, .b h2, .o, .o, .o, .o, .o, .o, .o, .o, .o, .a 2, .o, .a 2, .a 2, .cr sv (ok_scalar_settle ((⟨ra1.t, (x0.a.umin - x0.b.umax), (x0.a.umax - x0.b.umin), ra2.1, ra3.1⟩ : S))) ea4, .a 1]
    [1, 1, 1, 1, 1, 1] (fun b => by kernel_rfl)
theorem p1_scalar_operands_sub (x0 : OO) (ra0 : T) (ea0 : m_tnum_Sub x0.a.t x0.b.t = ra0) (ra1 : S) (ea1 : m_scalar_ofBits ra0 = ra1) (ra2 : (BitVec 64) × (Bool)) (ea2 : m_scalar_subSigned x0.a.smin x0.b.smax = ra2) (ra3 : (BitVec 64) × (Bool)) (ea3 : m_scalar_subSigned x0.a.smax x0.b.smin = ra3) (ra4 : S) (ea4 : m_scalar_settle (⟨ra1.t, (x0.a.umin - x0.b.umax), (x0.a.umax - x0.b.umin), ra1.smin, ra1.smax⟩ : S) = ra4) (h0 : ((subc x0.a.umin x0.b.umax) == (subc x0.a.umax x0.b.umin)) = true) (h1 : (ra2.2) = true) (h2 : (ra3.2) = false) : Con Tryz.prog 82 #[(ov (x0))] (sv (ra4)) :=
  fn_conI (P := Tryz.prog) Tryz.func82 (fun xs w => by kernel_rfl) _ _
    [.o, .o, .o, .o, .a 0, .o, .o, .a 0, .cr tv (ok_tnum_Sub (x0.a.t) (x0.b.t)) ea0, .cr sv (ok_scalar_ofBits (ra0)) ea1, .o, .a 2, .o, .o, .a 0, .o, .o, .a 0, .w (sub64_v x0.a.umin x0.b.umax), .o, .o, .o, .o, .o, .o, .o, .a 0, .o, .o, .a 0, .w (sub64_v x0.a.umax x0.b.umin), .o, .o, .o, .o, .o, .o, .o, .t (u_eq (subc x0.a.umin x0.b.umax) (subc x0.a.umax x0.b.umin)) h0, .o, .o, .o, .a 2, .o, .a 2, .o, .o, .a 0, .o, .o, .a 0, .cr vt4 (ok_scalar_subSigned (x0.a.smin) (x0.b.smax)) ea2, .o, .o, .b h1, .o, .o, .o, .o, .a 0, .o, .o, .a 0, .cr vt4 (ok_scalar_subSigned (x0.a.smax) (x0.b.smin)) ea3, .o, .o, .b h2, .o, .o, .o, .o, .o, .o, .a 2, .cr sv (ok_scalar_settle ((⟨ra1.t, (x0.a.umin - x0.b.umax), (x0.a.umax - x0.b.umin), ra1.smin, ra1.smax⟩ : S))) ea4, .a 1]
    [1, 1, 1, 1, 1, 1] (fun b => by kernel_rfl)
theorem p2_scalar_operands_sub (x0 : OO) (ra0 : T) (ea0 : m_tnum_Sub x0.a.t x0.b.t = ra0) (ra1 : S) (ea1 : m_scalar_ofBits ra0 = ra1) (ra2 : (BitVec 64) × (Bool)) (ea2 : m_scalar_subSigned x0.a.smin x0.b.smax = ra2) (ra3 : (BitVec 64) × (Bool)) (ea3 : m_scalar_subSigned x0.a.smax x0.b.smin = ra3) (ra4 : S) (ea4 : m_scalar_settle (⟨ra1.t, (x0.a.umin - x0.b.umax), (x0.a.umax - x0.b.umin), ra1.smin, ra1.smax⟩ : S) = ra4) (h0 : ((subc x0.a.umin x0.b.umax) == (subc x0.a.umax x0.b.umin)) = true) (h1 : (ra2.2) = false) (h2 : (ra3.2) = true) : Con Tryz.prog 82 #[(ov (x0))] (sv (ra4)) :=
  fn_conI (P := Tryz.prog) Tryz.func82 (fun xs w => by kernel_rfl) _ _
    [.o, .o, .o, .o, .a 0, .o, .o, .a 0, .cr tv (ok_tnum_Sub (x0.a.t) (x0.b.t)) ea0, .cr sv (ok_scalar_ofBits (ra0)) ea1, .o, .a 2, .o, .o, .a 0, .o, .o, .a 0, .w (sub64_v x0.a.umin x0.b.umax), .o, .o, .o, .o, .o, .o, .o, .a 0, .o, .o, .a 0, .w (sub64_v x0.a.umax x0.b.umin), .o, .o, .o, .o, .o, .o, .o, .t (u_eq (subc x0.a.umin x0.b.umax) (subc x0.a.umax x0.b.umin)) h0, .o, .o, .o, .a 2, .o, .a 2, .o, .o, .a 0, .o, .o, .a 0, .cr vt4 (ok_scalar_subSigned (x0.a.smin) (x0.b.smax)) ea2, .o, .o, .b h1, .o, .o, .o, .o, .a 0, .o, .o, .a 0, .cr vt4 (ok_scalar_subSigned (x0.a.smax) (x0.b.smin)) ea3, .o, .o, .b h2, .o, .o, .o, .o, .o, .a 2, .cr sv (ok_scalar_settle ((⟨ra1.t, (x0.a.umin - x0.b.umax), (x0.a.umax - x0.b.umin), ra1.smin, ra1.smax⟩ : S))) ea4, .a 1]
    [1, 1, 1, 1, 1, 1] (fun b => by kernel_rfl)
theorem p3_scalar_operands_sub (x0 : OO) (ra0 : T) (ea0 : m_tnum_Sub x0.a.t x0.b.t = ra0) (ra1 : S) (ea1 : m_scalar_ofBits ra0 = ra1) (ra2 : (BitVec 64) × (Bool)) (ea2 : m_scalar_subSigned x0.a.smin x0.b.smax = ra2) (ra3 : (BitVec 64) × (Bool)) (ea3 : m_scalar_subSigned x0.a.smax x0.b.smin = ra3) (ra4 : S) (ea4 : m_scalar_settle (⟨ra1.t, (x0.a.umin - x0.b.umax), (x0.a.umax - x0.b.umin), ra1.smin, ra1.smax⟩ : S) = ra4) (h0 : ((subc x0.a.umin x0.b.umax) == (subc x0.a.umax x0.b.umin)) = true) (h1 : (ra2.2) = false) (h2 : (ra3.2) = false) : Con Tryz.prog 82 #[(ov (x0))] (sv (ra4)) :=
  fn_conI (P := Tryz.prog) Tryz.func82 (fun xs w => by kernel_rfl) _ _
    [.o, .o, .o, .o, .a 0, .o, .o, .a 0, .cr tv (ok_tnum_Sub (x0.a.t) (x0.b.t)) ea0, .cr sv (ok_scalar_ofBits (ra0)) ea1, .o, .a 2, .o, .o, .a 0, .o, .o, .a 0, .w (sub64_v x0.a.umin x0.b.umax), .o, .o, .o, .o, .o, .o, .o, .a 0, .o, .o, .a 0, .w (sub64_v x0.a.umax x0.b.umin), .o, .o, .o, .o, .o, .o, .o, .t (u_eq (subc x0.a.umin x0.b.umax) (subc x0.a.umax x0.b.umin)) h0, .o, .o, .o, .a 2, .o, .a 2, .o, .o, .a 0, .o, .o, .a 0, .cr vt4 (ok_scalar_subSigned (x0.a.smin) (x0.b.smax)) ea2, .o, .o, .b h1, .o, .o, .o, .o, .a 0, .o, .o, .a 0, .cr vt4 (ok_scalar_subSigned (x0.a.smax) (x0.b.smin)) ea3, .o, .o, .b h2, .o, .o, .o, .o, .o, .a 2, .cr sv (ok_scalar_settle ((⟨ra1.t, (x0.a.umin - x0.b.umax), (x0.a.umax - x0.b.umin), ra1.smin, ra1.smax⟩ : S))) ea4, .a 1]
    [1, 1, 1, 1, 1, 1] (fun b => by kernel_rfl)
theorem p4_scalar_operands_sub (x0 : OO) (ra0 : T) (ea0 : m_tnum_Sub x0.a.t x0.b.t = ra0) (ra1 : S) (ea1 : m_scalar_ofBits ra0 = ra1) (ra2 : (BitVec 64) × (Bool)) (ea2 : m_scalar_subSigned x0.a.smin x0.b.smax = ra2) (ra3 : (BitVec 64) × (Bool)) (ea3 : m_scalar_subSigned x0.a.smax x0.b.smin = ra3) (ra4 : S) (ea4 : m_scalar_settle (⟨ra1.t, ra1.umin, ra1.umax, ra2.1, ra3.1⟩ : S) = ra4) (h0 : ((subc x0.a.umin x0.b.umax) == (subc x0.a.umax x0.b.umin)) = false) (h1 : (ra2.2) = true) (h2 : (ra3.2) = true) : Con Tryz.prog 82 #[(ov (x0))] (sv (ra4)) :=
  fn_conI (P := Tryz.prog) Tryz.func82 (fun xs w => by kernel_rfl) _ _
    [.o, .o, .o, .o, .a 0, .o, .o, .a 0, .cr tv (ok_tnum_Sub (x0.a.t) (x0.b.t)) ea0, .cr sv (ok_scalar_ofBits (ra0)) ea1, .o, .a 2, .o, .o, .a 0, .o, .o, .a 0, .w (sub64_v x0.a.umin x0.b.umax), .o, .o, .o, .o, .o, .o, .o, .a 0, .o, .o, .a 0, .w (sub64_v x0.a.umax x0.b.umin), .o, .o, .o, .o, .o, .o, .o, .t (u_eq (subc x0.a.umin x0.b.umax) (subc x0.a.umax x0.b.umin)) h0, .o, .o, .a 0, .o, .o, .a 0, .cr vt4 (ok_scalar_subSigned (x0.a.smin) (x0.b.smax)) ea2, .o, .o, .b h1, .o, .o, .o, .o, .a 0, .o, .o, .a 0, .cr vt4 (ok_scalar_subSigned (x0.a.smax) (x0.b.smin)) ea3, .o, .o, .b h2, .o, .o, .o, .o, .o, .o, .o, .o, .o, .a 2, .o, .a 2, .a 2, .cr sv (ok_scalar_settle ((⟨ra1.t, ra1.umin, ra1.umax, ra2.1, ra3.1⟩ : S))) ea4, .a 1]
    [1, 1, 1, 1, 1, 1] (fun b => by kernel_rfl)
theorem p5_scalar_operands_sub (x0 : OO) (ra0 : T) (ea0 : m_tnum_Sub x0.a.t x0.b.t = ra0) (ra1 : S) (ea1 : m_scalar_ofBits ra0 = ra1) (ra2 : (BitVec 64) × (Bool)) (ea2 : m_scalar_subSigned x0.a.smin x0.b.smax = ra2) (ra3 : (BitVec 64) × (Bool)) (ea3 : m_scalar_subSigned x0.a.smax x0.b.smin = ra3) (ra4 : S) (ea4 : m_scalar_settle ra1 = ra4) (h0 : ((subc x0.a.umin x0.b.umax) == (subc x0.a.umax x0.b.umin)) = false) (h1 : (ra2.2) = true) (h2 : (ra3.2) = false) : Con Tryz.prog 82 #[(ov (x0))] (sv (ra4)) :=
  fn_conI (P := Tryz.prog) Tryz.func82 (fun xs w => by kernel_rfl) _ _
    [.o, .o, .o, .o, .a 0, .o, .o, .a 0, .cr tv (ok_tnum_Sub (x0.a.t) (x0.b.t)) ea0, .cr sv (ok_scalar_ofBits (ra0)) ea1, .o, .a 2, .o, .o, .a 0, .o, .o, .a 0, .w (sub64_v x0.a.umin x0.b.umax), .o, .o, .o, .o, .o, .o, .o, .a 0, .o, .o, .a 0, .w (sub64_v x0.a.umax x0.b.umin), .o, .o, .o, .o, .o, .o, .o, .t (u_eq (subc x0.a.umin x0.b.umax) (subc x0.a.umax x0.b.umin)) h0, .o, .o, .a 0, .o, .o, .a 0, .cr vt4 (ok_scalar_subSigned (x0.a.smin) (x0.b.smax)) ea2, .o, .o, .b h1, .o, .o, .o, .o, .a 0, .o, .o, .a 0, .cr vt4 (ok_scalar_subSigned (x0.a.smax) (x0.b.smin)) ea3, .o, .o, .b h2, .o, .o, .o, .o, .o, .o, .a 2, .cr sv (ok_scalar_settle (ra1)) ea4, .a 1]
    [1, 1, 1, 1, 1, 1] (fun b => by kernel_rfl)
theorem p6_scalar_operands_sub (x0 : OO) (ra0 : T) (ea0 : m_tnum_Sub x0.a.t x0.b.t = ra0) (ra1 : S) (ea1 : m_scalar_ofBits ra0 = ra1) (ra2 : (BitVec 64) × (Bool)) (ea2 : m_scalar_subSigned x0.a.smin x0.b.smax = ra2) (ra3 : (BitVec 64) × (Bool)) (ea3 : m_scalar_subSigned x0.a.smax x0.b.smin = ra3) (ra4 : S) (ea4 : m_scalar_settle ra1 = ra4) (h0 : ((subc x0.a.umin x0.b.umax) == (subc x0.a.umax x0.b.umin)) = false) (h1 : (ra2.2) = false) (h2 : (ra3.2) = true) : Con Tryz.prog 82 #[(ov (x0))] (sv (ra4)) :=
  fn_conI (P := Tryz.prog) Tryz.func82 (fun xs w => by kernel_rfl) _ _
    [.o, .o, .o, .o, .a 0, .o, .o, .a 0, .cr tv (ok_tnum_Sub (x0.a.t) (x0.b.t)) ea0, .cr sv (ok_scalar_ofBits (ra0)) ea1, .o, .a 2, .o, .o, .a 0, .o, .o, .a 0, .w (sub64_v x0.a.umin x0.b.umax), .o, .o, .o, .o, .o, .o, .o, .a 0, .o, .o, .a 0, .w (sub64_v x0.a.umax x0.b.umin), .o, .o, .o, .o, .o, .o, .o, .t (u_eq (subc x0.a.umin x0.b.umax) (subc x0.a.umax x0.b.umin)) h0, .o, .o, .a 0, .o, .o, .a 0, .cr vt4 (ok_scalar_subSigned (x0.a.smin) (x0.b.smax)) ea2, .o, .o, .b h1, .o, .o, .o, .o, .a 0, .o, .o, .a 0, .cr vt4 (ok_scalar_subSigned (x0.a.smax) (x0.b.smin)) ea3, .o, .o, .b h2, .o, .o, .o, .o, .o, .a 2, .cr sv (ok_scalar_settle (ra1)) ea4, .a 1]
    [1, 1, 1, 1, 1, 1] (fun b => by kernel_rfl)
theorem p7_scalar_operands_sub (x0 : OO) (ra0 : T) (ea0 : m_tnum_Sub x0.a.t x0.b.t = ra0) (ra1 : S) (ea1 : m_scalar_ofBits ra0 = ra1) (ra2 : (BitVec 64) × (Bool)) (ea2 : m_scalar_subSigned x0.a.smin x0.b.smax = ra2) (ra3 : (BitVec 64) × (Bool)) (ea3 : m_scalar_subSigned x0.a.smax x0.b.smin = ra3) (ra4 : S) (ea4 : m_scalar_settle ra1 = ra4) (h0 : ((subc x0.a.umin x0.b.umax) == (subc x0.a.umax x0.b.umin)) = false) (h1 : (ra2.2) = false) (h2 : (ra3.2) = false) : Con Tryz.prog 82 #[(ov (x0))] (sv (ra4)) :=
  fn_conI (P := Tryz.prog) Tryz.func82 (fun xs w => by kernel_rfl) _ _
    [.o, .o, .o, .o, .a 0, .o, .o, .a 0, .cr tv (ok_tnum_Sub (x0.a.t) (x0.b.t)) ea0, .cr sv (ok_scalar_ofBits (ra0)) ea1, .o, .a 2, .o, .o, .a 0, .o, .o, .a 0, .w (sub64_v x0.a.umin x0.b.umax), .o, .o, .o, .o, .o, .o, .o, .a 0, .o, .o, .a 0, .w (sub64_v x0.a.umax x0.b.umin), .o, .o, .o, .o, .o, .o, .o, .t (u_eq (subc x0.a.umin x0.b.umax) (subc x0.a.umax x0.b.umin)) h0, .o, .o, .a 0, .o, .o, .a 0, .cr vt4 (ok_scalar_subSigned (x0.a.smin) (x0.b.smax)) ea2, .o, .o, .b h1, .o, .o, .o, .o, .a 0, .o, .o, .a 0, .cr vt4 (ok_scalar_subSigned (x0.a.smax) (x0.b.smin)) ea3, .o, .o, .b h2, .o, .o, .o, .o, .o, .a 2, .cr sv (ok_scalar_settle (ra1)) ea4, .a 1]
    [1, 1, 1, 1, 1, 1] (fun b => by kernel_rfl)
theorem ok_scalar_operands_sub (x0 : OO) : Con Tryz.prog 82 #[(ov (x0))] (sv (m_scalar_operands_sub x0)) := by
  unfold m_scalar_operands_sub
  refine Con.cond sv _ _ _ (fun h0 => ?_) (fun h0 => ?_)
  · refine Con.cond sv _ _ _ (fun h1 => ?_) (fun h1 => ?_)
    · refine Con.cond sv _ _ _ (fun h2 => ?_) (fun h2 => ?_)
      · exact p0_scalar_operands_sub x0 _ rfl _ rfl _ rfl _ rfl _ rfl h0 h1 h2
      · exact p1_scalar_operands_sub x0 _ rfl _ rfl _ rfl _ rfl _ rfl h0 h1 h2
    · refine Con.cond sv _ _ _ (fun h2 => ?_) (fun h2 => ?_)
      · exact p2_scalar_operands_sub x0 _ rfl _ rfl _ rfl _ rfl _ rfl h0 h1 h2
      · exact p3_scalar_operands_sub x0 _ rfl _ rfl _ rfl _ rfl _ rfl h0 h1 h2
  · refine Con.cond sv _ _ _ (fun h1 => ?_) (fun h1 => ?_)
    · refine Con.cond sv _ _ _ (fun h2 => ?_) (fun h2 => ?_)
      · exact p4_scalar_operands_sub x0 _ rfl _ rfl _ rfl _ rfl _ rfl h0 h1 h2
      · exact p5_scalar_operands_sub x0 _ rfl _ rfl _ rfl _ rfl _ rfl h0 h1 h2
    · refine Con.cond sv _ _ _ (fun h2 => ?_) (fun h2 => ?_)
      · exact p6_scalar_operands_sub x0 _ rfl _ rfl _ rfl _ rfl _ rfl h0 h1 h2
      · exact p7_scalar_operands_sub x0 _ rfl _ rfl _ rfl _ rfl _ rfl h0 h1 h2
-- barbican/tnum.of
def m_tnum_of_153 (x1 : T) (x2 : T) : T :=
  ((m_tnum_pair_mul (⟨(m_tnum_known x1), (m_tnum_known x2)⟩ : TT)))
theorem p0_tnum_of_153 (x1 : T) (x2 : T) (ra0 : T) (ea0 : m_tnum_known x1 = ra0) (ra1 : T) (ea1 : m_tnum_known x2 = ra1) (ra2 : T) (ea2 : m_tnum_pair_mul (⟨ra0, ra1⟩ : TT) = ra2) : Con Tryz.prog 140 #[.func (.func 153) #[] #[], (tv (x1)), (tv (x2))] (tv (ra2)) :=
  fn_conI (P := Tryz.prog) Tryz.func140 (fun xs w => by kernel_rfl) _ _
    [.o, .o, .o, .r [0, 1, 2, 3, 4, 5, 6] [] [7], .o, .a 0, .cr tv (ok_tnum_known (x1)) ea0, .a 1, .cr tv (ok_tnum_known (x2)) ea1, .o, .cr tv (ok_tnum_pair_mul ((⟨ra0, ra1⟩ : TT))) ea2, .a 2]
    [2, 2] (fun b => by kernel_rfl)
theorem ok_tnum_of_153 (x1 : T) (x2 : T) : Con Tryz.prog 140 #[.func (.func 153) #[] #[], (tv (x1)), (tv (x2))] (tv (m_tnum_of_153 x1 x2)) := by
  unfold m_tnum_of_153
  exact p0_tnum_of_153 x1 x2 _ rfl _ rfl _ rfl
-- barbican/tnum.Mul
def m_tnum_Mul (x0 : T) (x1 : T) : T :=
  ((m_tnum_of_153 x0 x1))
theorem p0_tnum_Mul (x0 : T) (x1 : T) (ra0 : T) (ea0 : m_tnum_of_153 x0 x1 = ra0) : Con Tryz.prog 130 #[(tv (x0)), (tv (x1))] (tv (ra0)) :=
  fn_conI (P := Tryz.prog) Tryz.func130 (fun xs w => by kernel_rfl) _ _
    [.o, .o, .o, .a 0, .a 1, .cr tv (ok_tnum_of_153 (x0) (x1)) ea0, .a 2]
    [2, 2] (fun b => by kernel_rfl)
theorem ok_tnum_Mul (x0 : T) (x1 : T) : Con Tryz.prog 130 #[(tv (x0)), (tv (x1))] (tv (m_tnum_Mul x0 x1)) := by
  unfold m_tnum_Mul
  exact p0_tnum_Mul x0 x1 _ rfl
-- tuples
def vt5 (r : (BitVec 64) × (BitVec 64)) : Value := .tuple #[(.int .u64 (nn (r.1))), (.int .u64 (nn (r.2)))]

-- math/bits.Mul64
def m_math_bits_Mul64 (x0 : BitVec 64) (x1 : BitVec 64) : (BitVec 64) × (BitVec 64) :=
  ((((((x0 >>> 32) * (x1 >>> 32)) + ((((x0 >>> 32) * (x1 &&& 4294967295#64)) + (((x0 &&& 4294967295#64) * (x1 &&& 4294967295#64)) >>> 32)) >>> 32)) + ((((((x0 >>> 32) * (x1 &&& 4294967295#64)) + (((x0 &&& 4294967295#64) * (x1 &&& 4294967295#64)) >>> 32)) &&& 4294967295#64) + ((x0 &&& 4294967295#64) * (x1 >>> 32))) >>> 32)), (x0 * x1)))
theorem p0_math_bits_Mul64 (x0 : BitVec 64) (x1 : BitVec 64) : Con Tryz.prog 131 #[(.int .u64 (nn (x0))), (.int .u64 (nn (x1)))] (.tuple #[(.int .u64 (nn (((((x0 >>> 32) * (x1 >>> 32)) + ((((x0 >>> 32) * (x1 &&& 4294967295#64)) + (((x0 &&& 4294967295#64) * (x1 &&& 4294967295#64)) >>> 32)) >>> 32)) + ((((((x0 >>> 32) * (x1 &&& 4294967295#64)) + (((x0 &&& 4294967295#64) * (x1 &&& 4294967295#64)) >>> 32)) &&& 4294967295#64) + ((x0 &&& 4294967295#64) * (x1 >>> 32))) >>> 32))))), (.int .u64 (nn ((x0 * x1))))]) :=
  fn_conI (P := Tryz.prog) Tryz.func131 (fun xs w => by kernel_rfl) _ _
    [.o, .o, .o, .v .u64 (u64_and x0 4294967295#64), .o, .o, .ov (u64_shr Tryz.prog 22 (.tmp 16) (.const (.int .u64 ((32)))) (x0) 32 .u64 rfl), .o, .o, .v .u64 (u64_and x1 4294967295#64), .o, .o, .ov (u64_shr Tryz.prog 22 (.tmp 20) (.const (.int .u64 ((32)))) (x1) 32 .u64 rfl), .o, .o, .o, .v .u64 (u64_mul (x0 &&& 4294967295#64) (x1 &&& 4294967295#64)), .o, .o, .o, .v .u64 (u64_mul (x0 >>> 32) (x1 &&& 4294967295#64)), .o, .ov (u64_shr Tryz.prog 22 (.tmp 28) (.const (.int .u64 ((32)))) (((x0 &&& 4294967295#64) * (x1 &&& 4294967295#64))) 32 .u64 rfl), .v .u64 (u64_add ((x0 >>> 32) * (x1 &&& 4294967295#64)) (((x0 &&& 4294967295#64) * (x1 &&& 4294967295#64)) >>> 32)), .o, .o, .v .u64 (u64_and (((x0 >>> 32) * (x1 &&& 4294967295#64)) + (((x0 &&& 4294967295#64) * (x1 &&& 4294967295#64)) >>> 32)) 4294967295#64), .o, .o, .ov (u64_shr Tryz.prog 22 (.tmp 33) (.const (.int .u64 ((32)))) ((((x0 >>> 32) * (x1 &&& 4294967295#64)) + (((x0 &&& 4294967295#64) * (x1 &&& 4294967295#64)) >>> 32))) 32 .u64 rfl), .o, .o, .o, .o, .v .u64 (u64_mul (x0 &&& 4294967295#64) (x1 >>> 32)), .v .u64 (u64_add ((((x0 >>> 32) * (x1 &&& 4294967295#64)) + (((x0 &&& 4294967295#64) * (x1 &&& 4294967295#64)) >>> 32)) &&& 4294967295#64) ((x0 &&& 4294967295#64) * (x1 >>> 32))), .o, .o, .o, .v .u64 (u64_mul (x0 >>> 32) (x1 >>> 32)), .o, .v .u64 (u64_add ((x0 >>> 32) * (x1 >>> 32)) ((((x0 >>> 32) * (x1 &&& 4294967295#64)) + (((x0 &&& 4294967295#64) * (x1 &&& 4294967295#64)) >>> 32)) >>> 32)), .o, .ov (u64_shr Tryz.prog 22 (.tmp 45) (.const (.int .u64 ((32)))) ((((((x0 >>> 32) * (x1 &&& 4294967295#64)) + (((x0 &&& 4294967295#64) * (x1 &&& 4294967295#64)) >>> 32)) &&& 4294967295#64) + ((x0 &&& 4294967295#64) * (x1 >>> 32)))) 32 .u64 rfl), .v .u64 (u64_add (((x0 >>> 32) * (x1 >>> 32)) + ((((x0 >>> 32) * (x1 &&& 4294967295#64)) + (((x0 &&& 4294967295#64) * (x1 &&& 4294967295#64)) >>> 32)) >>> 32)) ((((((x0 >>> 32) * (x1 &&& 4294967295#64)) + (((x0 &&& 4294967295#64) * (x1 &&& 4294967295#64)) >>> 32)) &&& 4294967295#64) + ((x0 &&& 4294967295#64) * (x1 >>> 32))) >>> 32)), .o, .o, .o, .v .u64 (u64_mul x0 x1), .o]
    [] (fun b => by kernel_rfl)
theorem ok_math_bits_Mul64 (x0 : BitVec 64) (x1 : BitVec 64) : Con Tryz.prog 131 #[(.int .u64 (nn (x0))), (.int .u64 (nn (x1)))] (vt5 (m_math_bits_Mul64 x0 x1)) := by
  unfold m_math_bits_Mul64
  exact p0_math_bits_Mul64 x0 x1 
-- (barbican/scalar.operands).mul
def m_scalar_operands_mul (x0 : OO) : S :=
  (bif (m_math_bits_Mul64 x0.a.umax x0.b.umax).1 == 0#64 then
    ((m_scalar_settle (⟨(m_scalar_ofBits (m_tnum_Mul x0.a.t x0.b.t)).t, (x0.a.umin * x0.b.umin), (m_math_bits_Mul64 x0.a.umax x0.b.umax).2, (m_scalar_ofBits (m_tnum_Mul x0.a.t x0.b.t)).smin, (m_scalar_ofBits (m_tnum_Mul x0.a.t x0.b.t)).smax⟩ : S)))
    else ((m_scalar_settle (m_scalar_ofBits (m_tnum_Mul x0.a.t x0.b.t)))))
theorem p0_scalar_operands_mul (x0 : OO) (ra0 : T) (ea0 : m_tnum_Mul x0.a.t x0.b.t = ra0) (ra1 : S) (ea1 : m_scalar_ofBits ra0 = ra1) (ra2 : (BitVec 64) × (BitVec 64)) (ea2 : m_math_bits_Mul64 x0.a.umax x0.b.umax = ra2) (ra3 : S) (ea3 : m_scalar_settle (⟨ra1.t, (x0.a.umin * x0.b.umin), ra2.2, ra1.smin, ra1.smax⟩ : S) = ra3) (h0 : (ra2.1 == 0#64) = true) : Con Tryz.prog 83 #[(ov (x0))] (sv (ra3)) :=
  fn_conI (P := Tryz.prog) Tryz.func83 (fun xs w => by kernel_rfl) _ _
    [.o, .o, .o, .o, .a 0, .o, .o, .a 0, .cr tv (ok_tnum_Mul (x0.a.t) (x0.b.t)) ea0, .cr sv (ok_scalar_ofBits (ra0)) ea1, .o, .a 2, .o, .o, .a 0, .o, .o, .a 0, .cr vt5 (ok_math_bits_Mul64 (x0.a.umax) (x0.b.umax)) ea2, .o, .o, .o, .o, .o, .o, .t (u_eq ra2.1 0#64) h0, .o, .o, .a 0, .o, .o, .a 0, .v .u64 (u64_mul x0.a.umin x0.b.umin), .o, .o, .a 2, .o, .a 2, .a 2, .cr sv (ok_scalar_settle ((⟨ra1.t, (x0.a.umin * x0.b.umin), ra2.2, ra1.smin, ra1.smax⟩ : S))) ea3, .a 1]
    [1, 1, 1, 1, 1, 1] (fun b => by kernel_rfl)
theorem p1_scalar_operands_mul (x0 : OO) (ra0 : T) (ea0 : m_tnum_Mul x0.a.t x0.b.t = ra0) (ra1 : S) (ea1 : m_scalar_ofBits ra0 = ra1) (ra2 : (BitVec 64) × (BitVec 64)) (ea2 : m_math_bits_Mul64 x0.a.umax x0.b.umax = ra2) (ra3 : S) (ea3 : m_scalar_settle ra1 = ra3) (h0 : (ra2.1 == 0#64) = false) : Con Tryz.prog 83 #[(ov (x0))] (sv (ra3)) :=
  fn_conI (P := Tryz.prog) Tryz.func83 (fun xs w => by kernel_rfl) _ _
    [.o, .o, .o, .o, .a 0, .o, .o, .a 0, .cr tv (ok_tnum_Mul (x0.a.t) (x0.b.t)) ea0, .cr sv (ok_scalar_ofBits (ra0)) ea1, .o, .a 2, .o, .o, .a 0, .o, .o, .a 0, .cr vt5 (ok_math_bits_Mul64 (x0.a.umax) (x0.b.umax)) ea2, .o, .o, .o, .o, .o, .o, .t (u_eq ra2.1 0#64) h0, .a 2, .cr sv (ok_scalar_settle (ra1)) ea3, .a 1]
    [1, 1, 1, 1, 1, 1] (fun b => by kernel_rfl)
theorem ok_scalar_operands_mul (x0 : OO) : Con Tryz.prog 83 #[(ov (x0))] (sv (m_scalar_operands_mul x0)) := by
  unfold m_scalar_operands_mul
  refine Con.cond sv _ _ _ (fun h0 => ?_) (fun h0 => ?_)
  · exact p0_scalar_operands_mul x0 _ rfl _ rfl _ rfl _ rfl h0
  · exact p1_scalar_operands_mul x0 _ rfl _ rfl _ rfl _ rfl h0
-- (barbican/scalar.operands).or
def m_scalar_operands_or (x0 : OO) : S :=
  ((m_scalar_settle (⟨(m_scalar_ofBits (m_tnum_Or x0.a.t x0.b.t)).t, (uMax x0.a.umin x0.b.umin), (m_scalar_ofBits (m_tnum_Or x0.a.t x0.b.t)).umax, (m_scalar_ofBits (m_tnum_Or x0.a.t x0.b.t)).smin, (m_scalar_ofBits (m_tnum_Or x0.a.t x0.b.t)).smax⟩ : S)))
theorem p0_scalar_operands_or (x0 : OO) (ra0 : T) (ea0 : m_tnum_Or x0.a.t x0.b.t = ra0) (ra1 : S) (ea1 : m_scalar_ofBits ra0 = ra1) (ra2 : S) (ea2 : m_scalar_settle (⟨ra1.t, (uMax x0.a.umin x0.b.umin), ra1.umax, ra1.smin, ra1.smax⟩ : S) = ra2) : Con Tryz.prog 85 #[(ov (x0))] (sv (ra2)) :=
  fn_conI (P := Tryz.prog) Tryz.func85 (fun xs w => by kernel_rfl) _ _
    [.o, .o, .o, .o, .a 0, .o, .o, .a 0, .cr tv (ok_tnum_Or (x0.a.t) (x0.b.t)) ea0, .cr sv (ok_scalar_ofBits (ra0)) ea1, .o, .a 2, .o, .o, .a 0, .o, .o, .a 0, .v .u64 (u_max x0.a.umin x0.b.umin), .o, .a 2, .a 2, .cr sv (ok_scalar_settle ((⟨ra1.t, (uMax x0.a.umin x0.b.umin), ra1.umax, ra1.smin, ra1.smax⟩ : S))) ea2, .a 1]
    [1, 1, 1, 1, 1, 1] (fun b => by kernel_rfl)
theorem ok_scalar_operands_or (x0 : OO) : Con Tryz.prog 85 #[(ov (x0))] (sv (m_scalar_operands_or x0)) := by
  unfold m_scalar_operands_or
  exact p0_scalar_operands_or x0 _ rfl _ rfl _ rfl
-- (barbican/scalar.operands).and
def m_scalar_operands_and (x0 : OO) : S :=
  ((m_scalar_settle (⟨(m_scalar_ofBits (m_tnum_And x0.a.t x0.b.t)).t, (m_scalar_ofBits (m_tnum_And x0.a.t x0.b.t)).umin, (uMin x0.a.umax x0.b.umax), (m_scalar_ofBits (m_tnum_And x0.a.t x0.b.t)).smin, (m_scalar_ofBits (m_tnum_And x0.a.t x0.b.t)).smax⟩ : S)))
theorem p0_scalar_operands_and (x0 : OO) (ra0 : T) (ea0 : m_tnum_And x0.a.t x0.b.t = ra0) (ra1 : S) (ea1 : m_scalar_ofBits ra0 = ra1) (ra2 : S) (ea2 : m_scalar_settle (⟨ra1.t, ra1.umin, (uMin x0.a.umax x0.b.umax), ra1.smin, ra1.smax⟩ : S) = ra2) : Con Tryz.prog 86 #[(ov (x0))] (sv (ra2)) :=
  fn_conI (P := Tryz.prog) Tryz.func86 (fun xs w => by kernel_rfl) _ _
    [.o, .o, .o, .o, .a 0, .o, .o, .a 0, .cr tv (ok_tnum_And (x0.a.t) (x0.b.t)) ea0, .cr sv (ok_scalar_ofBits (ra0)) ea1, .o, .a 2, .o, .o, .a 0, .o, .o, .a 0, .v .u64 (u_min x0.a.umax x0.b.umax), .o, .a 2, .a 2, .cr sv (ok_scalar_settle ((⟨ra1.t, ra1.umin, (uMin x0.a.umax x0.b.umax), ra1.smin, ra1.smax⟩ : S))) ea2, .a 1]
    [1, 1, 1, 1, 1, 1] (fun b => by kernel_rfl)
theorem ok_scalar_operands_and (x0 : OO) : Con Tryz.prog 86 #[(ov (x0))] (sv (m_scalar_operands_and x0)) := by
  unfold m_scalar_operands_and
  exact p0_scalar_operands_and x0 _ rfl _ rfl _ rfl
-- (barbican/scalar.operands).xor
def m_scalar_operands_xor (x0 : OO) : S :=
  ((m_scalar_settle (m_scalar_ofBits (m_tnum_Xor x0.a.t x0.b.t))))
theorem p0_scalar_operands_xor (x0 : OO) (ra0 : T) (ea0 : m_tnum_Xor x0.a.t x0.b.t = ra0) (ra1 : S) (ea1 : m_scalar_ofBits ra0 = ra1) (ra2 : S) (ea2 : m_scalar_settle ra1 = ra2) : Con Tryz.prog 91 #[(ov (x0))] (sv (ra2)) :=
  fn_conI (P := Tryz.prog) Tryz.func91 (fun xs w => by kernel_rfl) _ _
    [.o, .o, .o, .o, .a 0, .o, .o, .a 0, .cr tv (ok_tnum_Xor (x0.a.t) (x0.b.t)) ea0, .cr sv (ok_scalar_ofBits (ra0)) ea1, .cr sv (ok_scalar_settle (ra1)) ea2, .a 1]
    [1, 1, 1, 1, 1, 1] (fun b => by kernel_rfl)
theorem ok_scalar_operands_xor (x0 : OO) : Con Tryz.prog 91 #[(ov (x0))] (sv (m_scalar_operands_xor x0)) := by
  unfold m_scalar_operands_xor
  exact p0_scalar_operands_xor x0 _ rfl _ rfl _ rfl
-- (barbican/scalar.operands).neg
def m_scalar_operands_neg (x0 : OO) : S :=
  ((m_scalar_operands_sub (⟨(m_scalar_Const (0#64)), x0.a, x0.w⟩ : OO)))
theorem p0_scalar_operands_neg (x0 : OO) (ra0 : S) (ea0 : m_scalar_Const (0#64) = ra0) (ra1 : S) (ea1 : m_scalar_operands_sub (⟨ra0, x0.a, x0.w⟩ : OO) = ra1) : Con Tryz.prog 89 #[(ov (x0))] (sv (ra1)) :=
  fn_conI (P := Tryz.prog) Tryz.func89 (fun xs w => by kernel_rfl) _ _
    [.o, .o, .r [0, 1, 2, 3, 4, 5, 6] [] [7], .cr sv (ok_scalar_Const (0#64)) ea0, .o, .a 0, .o, .a 0, .o, .cr sv (ok_scalar_operands_sub ((⟨ra0, x0.a, x0.w⟩ : OO))) ea1, .a 1]
    [1, 1, 1, 1, 1, 1] (fun b => by kernel_rfl)
theorem ok_scalar_operands_neg (x0 : OO) : Con Tryz.prog 89 #[(ov (x0))] (sv (m_scalar_operands_neg x0)) := by
  unfold m_scalar_operands_neg
  exact p0_scalar_operands_neg x0 _ rfl _ rfl
-- (barbican/scalar.operands).mod
def m_scalar_operands_mod (x0 : OO) : S :=
  (bif x0.b.umax == 0#64 then
    (x0.a)
    else (bif BitVec.ult x0.a.umax x0.b.umin then
      (x0.a)
      else (bif x0.b.umin == 0#64 then
        ((m_scalar_Between (0#64) x0.a.umax))
        else (bif m_scalar_isConst x0.b then
          (bif (x0.b.umin &&& (x0.b.umin - 1#64)) == 0#64 then
            ((m_scalar_operands_and (⟨x0.a, (m_scalar_Const (x0.b.umin - 1#64)), x0.w⟩ : OO)))
            else ((m_scalar_Between (0#64) (uMin x0.a.umax (x0.b.umax - 1#64)))))
          else ((m_scalar_Between (0#64) (uMin x0.a.umax (x0.b.umax - 1#64))))))))
theorem p0_scalar_operands_mod (x0 : OO) (h0 : (x0.b.umax == 0#64) = true) : Con Tryz.prog 90 #[(ov (x0))] (sv (x0.a)) :=
  fn_conI (P := Tryz.prog) Tryz.func90 (fun xs w => by kernel_rfl) _ _
    [.o, .o, .o, .o, .a 0, .o, .o, .o, .a 0, .t (u_eq x0.b.umax 0#64) h0, .o, .o, .o, .o, .a 0, .a 1]
    [1, 1, 1, 1, 1, 1] (fun b => by kernel_rfl)
theorem p1_scalar_operands_mod (x0 : OO) (h0 : (x0.b.umax == 0#64) = false) (h1 : (BitVec.ult x0.a.umax x0.b.umin) = true) : Con Tryz.prog 90 #[(ov (x0))] (sv (x0.a)) :=
  fn_conI (P := Tryz.prog) Tryz.func90 (fun xs w => by kernel_rfl) _ _
    [.o, .o, .o, .o, .a 0, .o, .o, .o, .a 0, .t (u_eq x0.b.umax 0#64) h0, .o, .o, .o, .a 0, .o, .t (u_lt x0.a.umax x0.b.umin) h1, .o, .o, .o, .a 0, .a 1]
    [1, 1, 1, 1, 1, 1] (fun b => by kernel_rfl)
theorem p2_scalar_operands_mod (x0 : OO) (ra0 : S) (ea0 : m_scalar_Between (0#64) x0.a.umax = ra0) (h0 : (x0.b.umax == 0#64) = false) (h1 : (BitVec.ult x0.a.umax x0.b.umin) = false) (h2 : (x0.b.umin == 0#64) = true) : Con Tryz.prog 90 #[(ov (x0))] (sv (ra0)) :=
  fn_conI (P := Tryz.prog) Tryz.func90 (fun xs w => by kernel_rfl) _ _
    [.o, .o, .o, .o, .a 0, .o, .o, .o, .a 0, .t (u_eq x0.b.umax 0#64) h0, .o, .o, .o, .a 0, .o, .t (u_lt x0.a.umax x0.b.umin) h1, .o, .o, .o, .t (u_eq x0.b.umin 0#64) h2, .o, .o, .o, .a 0, .cr sv (ok_scalar_Between (0#64) (x0.a.umax)) ea0, .a 1]
    [1, 1, 1, 1, 1, 1] (fun b => by kernel_rfl)
theorem p3_scalar_operands_mod (x0 : OO) (ra0 : S) (ea0 : m_scalar_Const (x0.b.umin - 1#64) = ra0) (ra1 : S) (ea1 : m_scalar_operands_and (⟨x0.a, ra0, x0.w⟩ : OO) = ra1) (h0 : (x0.b.umax == 0#64) = false) (h1 : (BitVec.ult x0.a.umax x0.b.umin) = false) (h2 : (x0.b.umin == 0#64) = false) (h3 : (m_scalar_isConst x0.b) = true) (h4 : ((x0.b.umin &&& (x0.b.umin - 1#64)) == 0#64) = true) : Con Tryz.prog 90 #[(ov (x0))] (sv (ra1)) :=
  fn_conI (P := Tryz.prog) Tryz.func90 (fun xs w => by kernel_rfl) _ _
    [.o, .o, .o, .o, .a 0, .o, .o, .o, .a 0, .t (u_eq x0.b.umax 0#64) h0, .o, .o, .o, .a 0, .o, .t (u_lt x0.a.umax x0.b.umin) h1, .o, .o, .o, .t (u_eq x0.b.umin 0#64) h2, .o, .o, .a 0, .cb (ok_scalar_isConst (x0.b)) h3, .o, .o, .o, .v .u64 (u64_sub x0.b.umin 1#64), .v .u64 (u64_and x0.b.umin (x0.b.umin - 1#64)), .t (u_eq (x0.b.umin &&& (x0.b.umin - 1#64)) 0#64) h4, .o, .o, .r [0, 1, 2, 3, 4, 5, 6, 7, 8] [] [9], .o, .a 0, .o, .v .u64 (u64_sub x0.b.umin 1#64), .cr sv (ok_scalar_Const ((x0.b.umin - 1#64))) ea0, .o, .a 0, .o, .cr sv (ok_scalar_operands_and ((⟨x0.a, ra0, x0.w⟩ : OO))) ea1, .a 1]
    [1, 1, 1, 1, 1, 1] (fun b => by kernel_rfl)
theorem p4_scalar_operands_mod (x0 : OO) (ra0 : S) (ea0 : m_scalar_Between (0#64) (uMin x0.a.umax (x0.b.umax - 1#64)) = ra0) (h0 : (x0.b.umax == 0#64) = false) (h1 : (BitVec.ult x0.a.umax x0.b.umin) = false) (h2 : (x0.b.umin == 0#64) = false) (h3 : (m_scalar_isConst x0.b) = true) (h4 : ((x0.b.umin &&& (x0.b.umin - 1#64)) == 0#64) = false) : Con Tryz.prog 90 #[(ov (x0))] (sv (ra0)) :=
  fn_conI (P := Tryz.prog) Tryz.func90 (fun xs w => by kernel_rfl) _ _
    [.o, .o, .o, .o, .a 0, .o, .o, .o, .a 0, .t (u_eq x0.b.umax 0#64) h0, .o, .o, .o, .a 0, .o, .t (u_lt x0.a.umax x0.b.umin) h1, .o, .o, .o, .t (u_eq x0.b.umin 0#64) h2, .o, .o, .a 0, .cb (ok_scalar_isConst (x0.b)) h3, .o, .o, .o, .v .u64 (u64_sub x0.b.umin 1#64), .v .u64 (u64_and x0.b.umin (x0.b.umin - 1#64)), .t (u_eq (x0.b.umin &&& (x0.b.umin - 1#64)) 0#64) h4, .o, .o, .o, .o, .a 0, .o, .o, .a 0, .v .u64 (u64_sub x0.b.umax 1#64), .v .u64 (u_min x0.a.umax (x0.b.umax - 1#64)), .cr sv (ok_scalar_Between (0#64) ((uMin x0.a.umax (x0.b.umax - 1#64)))) ea0, .a 1]
    [1, 1, 1, 1, 1, 1] (fun b => by kernel_rfl)
theorem p5_scalar_operands_mod (x0 : OO) (ra0 : S) (ea0 : m_scalar_Between (0#64) (uMin x0.a.umax (x0.b.umax - 1#64)) = ra0) (h0 : (x0.b.umax == 0#64) = false) (h1 : (BitVec.ult x0.a.umax x0.b.umin) = false) (h2 : (x0.b.umin == 0#64) = false) (h3 : (m_scalar_isConst x0.b) = false) : Con Tryz.prog 90 #[(ov (x0))] (sv (ra0)) :=
  fn_conI (P := Tryz.prog) Tryz.func90 (fun xs w => by kernel_rfl) _ _
    [.o, .o, .o, .o, .a 0, .o, .o, .o, .a 0, .t (u_eq x0.b.umax 0#64) h0, .o, .o, .o, .a 0, .o, .t (u_lt x0.a.umax x0.b.umin) h1, .o, .o, .o, .t (u_eq x0.b.umin 0#64) h2, .o, .o, .a 0, .cb (ok_scalar_isConst (x0.b)) h3, .o, .o, .o, .o, .o, .a 0, .o, .o, .a 0, .v .u64 (u64_sub x0.b.umax 1#64), .v .u64 (u_min x0.a.umax (x0.b.umax - 1#64)), .cr sv (ok_scalar_Between (0#64) ((uMin x0.a.umax (x0.b.umax - 1#64)))) ea0, .a 1]
    [1, 1, 1, 1, 1, 1] (fun b => by kernel_rfl)
theorem ok_scalar_operands_mod (x0 : OO) : Con Tryz.prog 90 #[(ov (x0))] (sv (m_scalar_operands_mod x0)) := by
  unfold m_scalar_operands_mod
  refine Con.cond sv _ _ _ (fun h0 => ?_) (fun h0 => ?_)
  · exact p0_scalar_operands_mod x0 h0
  · refine Con.cond sv _ _ _ (fun h1 => ?_) (fun h1 => ?_)
    · exact p1_scalar_operands_mod x0 h0 h1
    · refine Con.cond sv _ _ _ (fun h2 => ?_) (fun h2 => ?_)
      · exact p2_scalar_operands_mod x0 _ rfl h0 h1 h2
      · refine Con.cond sv _ _ _ (fun h3 => ?_) (fun h3 => ?_)
        · refine Con.cond sv _ _ _ (fun h4 => ?_) (fun h4 => ?_)
          · exact p3_scalar_operands_mod x0 _ rfl _ rfl h0 h1 h2 h3 h4
          · exact p4_scalar_operands_mod x0 _ rfl h0 h1 h2 h3 h4
        · exact p5_scalar_operands_mod x0 _ rfl h0 h1 h2 h3
-- (barbican/scalar.operands).mov
def m_scalar_operands_mov (x0 : OO) : S :=
  (x0.b)
theorem p0_scalar_operands_mov (x0 : OO) : Con Tryz.prog 92 #[(ov (x0))] (sv (x0.b)) :=
  fn_conI (P := Tryz.prog) Tryz.func92 (fun xs w => by kernel_rfl) _ _
    [.o, .o, .o, .a 0, .a 1]
    [1, 1, 1, 1, 1, 1] (fun b => by kernel_rfl)
theorem ok_scalar_operands_mov (x0 : OO) : Con Tryz.prog 92 #[(ov (x0))] (sv (m_scalar_operands_mov x0)) := by
  unfold m_scalar_operands_mov
  exact p0_scalar_operands_mov x0 
-- barbican/scalar.shiftLeft
def m_scalar_shiftLeft (x0 : S) (x1 : BitVec 64) : S :=
  (bif BitVec.ult (18446744073709551615#64 >>> (x1).toNat) x0.umax then
    ((m_scalar_ofBits (m_tnum_Lsh x0.t x1)))
    else ((⟨(m_scalar_ofBits (m_tnum_Lsh x0.t x1)).t, (x0.umin <<< (x1).toNat), (x0.umax <<< (x1).toNat), (m_scalar_ofBits (m_tnum_Lsh x0.t x1)).smin, (m_scalar_ofBits (m_tnum_Lsh x0.t x1)).smax⟩ : S)))
theorem p0_scalar_shiftLeft (x0 : S) (x1 : BitVec 64) (ra0 : T) (ea0 : m_tnum_Lsh x0.t x1 = ra0) (ra1 : S) (ea1 : m_scalar_ofBits ra0 = ra1) (g0 : (BitVec.slt x1 0#64) = false) (h0 : (BitVec.ult (18446744073709551615#64 >>> (x1).toNat) x0.umax) = true) : Con Tryz.prog 134 #[(sv (x0)), (.int .i64 (ii (x1)))] (sv (ra1)) :=
  fn_conI (P := Tryz.prog) Tryz.func134 (fun xs w => by kernel_rfl) _ _
    [.o, .o, .o, .a 0, .o, .cr tv (ok_tnum_Lsh (x0.t) (x1)) ea0, .cr sv (ok_scalar_ofBits (ra0)) ea1, .o, .a 2, .r [0, 1, 2, 3, 4] [] [], .o, .a 0, .o, .ov (u64_shr Tryz.prog 22 (.const (.int .u64 ((18446744073709551615)))) (.tmp 13) (18446744073709551615#64) (x1).toNat .i64 (ii_pos g0)), .tn (u_le x0.umax (18446744073709551615#64 >>> (x1).toNat)) h0, .a 2, .a 1]
    [1, 1, 1, 1, 1, 1] (fun b => by kernel_rfl)
theorem p1_scalar_shiftLeft (x0 : S) (x1 : BitVec 64) (ra0 : T) (ea0 : m_tnum_Lsh x0.t x1 = ra0) (ra1 : S) (ea1 : m_scalar_ofBits ra0 = ra1) (g0 : (BitVec.slt x1 0#64) = false) (h0 : (BitVec.ult (18446744073709551615#64 >>> (x1).toNat) x0.umax) = false) : Con Tryz.prog 134 #[(sv (x0)), (.int .i64 (ii (x1)))] (sv ((⟨ra1.t, (x0.umin <<< (x1).toNat), (x0.umax <<< (x1).toNat), ra1.smin, ra1.smax⟩ : S))) :=
  fn_conI (P := Tryz.prog) Tryz.func134 (fun xs w => by kernel_rfl) _ _
    [.o, .o, .o, .a 0, .o, .cr tv (ok_tnum_Lsh (x0.t) (x1)) ea0, .cr sv (ok_scalar_ofBits (ra0)) ea1, .o, .a 2, .r [0, 1, 2, 3, 4] [] [], .o, .a 0, .o, .ov (u64_shr Tryz.prog 22 (.const (.int .u64 ((18446744073709551615)))) (.tmp 13) (18446744073709551615#64) (x1).toNat .i64 (ii_pos g0)), .tn (u_le x0.umax (18446744073709551615#64 >>> (x1).toNat)) h0, .r [0, 1, 2, 3, 4, 5, 6, 7, 8] [] [9, 10, 11], .o, .a 0, .o, .ov (u64_shl Tryz.prog 22 (.tmp 17) (.tmp 18) (x0.umin) (x1).toNat .i64 (ii_pos g0)), .o, .a 0, .o, .ov (u64_shl Tryz.prog 22 (.tmp 21) (.tmp 22) (x0.umax) (x1).toNat .i64 (ii_pos g0)), .o, .a 2, .o, .a 2, .a 2, .a 1]
    [1, 1, 1, 1, 1, 1] (fun b => by kernel_rfl)
theorem ok_scalar_shiftLeft (x0 : S) (x1 : BitVec 64) (g0 : (BitVec.slt x1 0#64) = false) : Con Tryz.prog 134 #[(sv (x0)), (.int .i64 (ii (x1)))] (sv (m_scalar_shiftLeft x0 x1)) := by
  unfold m_scalar_shiftLeft
  refine Con.cond sv _ _ _ (fun h0 => ?_) (fun h0 => ?_)
  · exact p0_scalar_shiftLeft x0 x1 _ rfl _ rfl g0 h0
  · exact p1_scalar_shiftLeft x0 x1 _ rfl _ rfl g0 h0
-- loop 0 of (barbican/scalar.operands).shift: state t25 t10 b4, out b4 t10
def st_scalar_operands_shift_134_L0 (x0 : OO) (x1 : S) (ra0 : T) (ra1 : T) : (BitVec 64) × (Bool) × (S) → ((BitVec 64) × (Bool) × (S)) ⊕ ((S) × (Bool))
  | (s0, s1, s2) =>
    (bif BitVec.slt s0 x0.w then
      (bif m_tnum_Has ra1 s0 then
        (bif BitVec.ult (x0.w - 1#64) x0.b.umax then
          (bif s1 then
            (.inl ((s0 + 1#64), false, (m_scalar_shiftLeft x1 s0)))
            else (.inl ((s0 + 1#64), false, (m_scalar_hull s2 (m_scalar_shiftLeft x1 s0)))))
          else (bif BitVec.ult s0 x0.b.umin then
            (.inl ((s0 + 1#64), s1, s2))
            else (bif BitVec.ult x0.b.umax s0 then
              (.inl ((s0 + 1#64), s1, s2))
              else (bif s1 then
                (.inl ((s0 + 1#64), false, (m_scalar_shiftLeft x1 s0)))
                else (.inl ((s0 + 1#64), false, (m_scalar_hull s2 (m_scalar_shiftLeft x1 s0))))))))
        else (.inl ((s0 + 1#64), s1, s2)))
      else (.inr ((s2, s1))))
def mu_scalar_operands_shift_134_L0 (x0 : OO) (x1 : S) (ra0 : T) (ra1 : T) : (BitVec 64) × (Bool) × (S) → Nat
  | (s0, s1, s2) => (x0.w.toInt - s0.toInt).toNat
def inv_scalar_operands_shift_134_L0 (x0 : OO) (x1 : S) (ra0 : T) (ra1 : T) : (BitVec 64) × (Bool) × (S) → Prop
  | (s0, s1, s2) => (0 : Int) ≤ s0.toInt
def lp_scalar_operands_shift_134_L0 (x0 : OO) (x1 : S) (ra0 : T) (ra1 : T) (s : (BitVec 64) × (Bool) × (S)) : (S) × (Bool) := lp (st_scalar_operands_shift_134_L0 x0 x1 ra0 ra1) (((⟨(⟨0#64, 0#64⟩ : T), 0#64, 0#64, 0#64, 0#64⟩ : S), false)) (mu_scalar_operands_shift_134_L0 x0 x1 ra0 ra1) s
noncomputable def bd_scalar_operands_shift_134_L0 : Code := codeOf Tryz.f133 [1, 1, 1, 1, 1, 0, 1, 0, 0]
def fr_scalar_operands_shift_134_L0 (x0 : OO) (x1 : S) (ra0 : T) (ra1 : T) : (BitVec 64) × (Bool) × (S) → List L1 → List Value
  | (s0, s1, s2), [l0, l1, l2, l3, l4, l5] => [ov (x0), sv (x1), .func (.func 134) #[] #[], (ptrTo l0.n), (ptrTo l1.n), undef, (ptrTo l2.n), .int .u64 (nn ((x0.w - 1#64))), (ptrTo l3.n), (ptrTo l4.n), .bool (s1), (l5.u 11), (l5.u 12), .pointer (some ⟨l0.n, 12, none⟩), .int .i64 (ii (x0.w)), .int .i64 (ii ((x0.w - 1#64))), .int .u64 (nn ((x0.w - 1#64))), .pointer (some ⟨l0.n, 6, none⟩), .pointer (some ⟨l0.n, 6, none⟩), .agg #[.int .u64 (nn (x0.b.t.v)), .int .u64 (nn (x0.b.t.m))], .int .u64 (nn ((x0.w - 1#64))), tv (ra0), tv (ra1), .pointer (some ⟨l0.n, 12, none⟩), .int .i64 (ii (x0.w)), .int .i64 (ii (s0)), (l5.u 26), (l5.u 27), (l5.u 28), (l5.u 29), (l5.u 30), (l5.u 31), (l5.u 32), (l5.u 33), (l5.u 34), (l5.u 35), (l5.u 36), (l5.u 37), (l5.u 38), (l5.u 39), (l5.u 40), (l5.u 41), (l5.u 42), (l5.u 43), (l5.u 44), (l5.u 45), (l5.u 46), (l5.u 47), (l5.u 48), (l5.u 49), (l5.u 50), (l5.u 51), (l5.u 52), (l5.u 53), (l5.u 54), (l5.u 55), (l5.u 56), (l5.u 57), (l5.u 58), (l5.u 59), (l5.u 60), (l5.u 61), (l5.u 62), (l5.u 63), (l5.u 64), (l5.u 65), (l5.u 66), undef, undef, undef, undef]
  | _, _ => []
def Hs_scalar_operands_shift_134_L0 (x0 : OO) (x1 : S) (ra0 : T) (ra1 : T) : (BitVec 64) × (Bool) × (S) → List L1 → List Obj
  | (s0, s1, s2), _ => [.cells #[.int .u64 (nn (x0.a.t.v)), .int .u64 (nn (x0.a.t.m)), .int .u64 (nn (x0.a.umin)), .int .u64 (nn (x0.a.umax)), .int .i64 (ii (x0.a.smin)), .int .i64 (ii (x0.a.smax)), .int .u64 (nn (x0.b.t.v)), .int .u64 (nn (x0.b.t.m)), .int .u64 (nn (x0.b.umin)), .int .u64 (nn (x0.b.umax)), .int .i64 (ii (x0.b.smin)), .int .i64 (ii (x0.b.smax)), .int .i64 (ii (x0.w))] 76, .cells #[.int .u64 (nn (x1.t.v)), .int .u64 (nn (x1.t.m)), .int .u64 (nn (x1.umin)), .int .u64 (nn (x1.umax)), .int .i64 (ii (x1.smin)), .int .i64 (ii (x1.smax))] 27, .cells #[.int .u64 ((0)), .int .u64 ((0)), .int .u64 ((0)), .int .u64 ((0)), .int .i64 ((0)), .int .i64 ((0))] 27, .cells #[.int .u64 (nn (ra1.v)), .int .u64 (nn (ra1.m))] 25, .cells #[.int .u64 (nn (s2.t.v)), .int .u64 (nn (s2.t.m)), .int .u64 (nn (s2.umin)), .int .u64 (nn (s2.umax)), .int .i64 (ii (s2.smin)), .int .i64 (ii (s2.smax))] 27, unb]
def vf0_scalar_operands_shift_134_L0 (x0 : OO) (x1 : S) (ra0 : T) (ra1 : T) (r : (S) × (Bool)) (b1 : Bool) : List L1 → List Value
  | [l0, l1, l2, l3, l4, l5] => [ov (x0), sv (x1), .func (.func 134) #[] #[], (ptrTo l0.n), (ptrTo l1.n), undef, (ptrTo l2.n), .int .u64 (nn ((x0.w - 1#64))), (ptrTo l3.n), (ptrTo l4.n), .bool (b1), (l5.u 11), (l5.u 12), .pointer (some ⟨l0.n, 12, none⟩), .int .i64 (ii (x0.w)), .int .i64 (ii ((x0.w - 1#64))), .int .u64 (nn ((x0.w - 1#64))), .pointer (some ⟨l0.n, 6, none⟩), .pointer (some ⟨l0.n, 6, none⟩), .agg #[.int .u64 (nn (x0.b.t.v)), .int .u64 (nn (x0.b.t.m))], .int .u64 (nn ((x0.w - 1#64))), tv (ra0), tv (ra1), .pointer (some ⟨l0.n, 12, none⟩), .int .i64 (ii (x0.w)), (l5.u 25), (l5.u 26), (l5.u 27), (l5.u 28), (l5.u 29), (l5.u 30), (l5.u 31), (l5.u 32), (l5.u 33), (l5.u 34), (l5.u 35), (l5.u 36), (l5.u 37), (l5.u 38), (l5.u 39), (l5.u 40), (l5.u 41), (l5.u 42), (l5.u 43), (l5.u 44), (l5.u 45), (l5.u 46), (l5.u 47), (l5.u 48), (l5.u 49), (l5.u 50), (l5.u 51), (l5.u 52), (l5.u 53), (l5.u 54), (l5.u 55), (l5.u 56), (l5.u 57), (l5.u 58), (l5.u 59), (l5.u 60), (l5.u 61), (l5.u 62), (l5.u 63), (l5.u 64), (l5.u 65), (l5.u 66), undef, undef, undef, undef]
  | _ => []
def Hf_scalar_operands_shift_134_L0 (x0 : OO) (x1 : S) (ra0 : T) (ra1 : T) (r : (S) × (Bool)) (b1 : Bool) (_ : List L1) : List Obj := [.cells #[.int .u64 (nn (x0.a.t.v)), .int .u64 (nn (x0.a.t.m)), .int .u64 (nn (x0.a.umin)), .int .u64 (nn (x0.a.umax)), .int .i64 (ii (x0.a.smin)), .int .i64 (ii (x0.a.smax)), .int .u64 (nn (x0.b.t.v)), .int .u64 (nn (x0.b.t.m)), .int .u64 (nn (x0.b.umin)), .int .u64 (nn (x0.b.umax)), .int .i64 (ii (x0.b.smin)), .int .i64 (ii (x0.b.smax)), .int .i64 (ii (x0.w))] 76, .cells #[.int .u64 (nn (x1.t.v)), .int .u64 (nn (x1.t.m)), .int .u64 (nn (x1.umin)), .int .u64 (nn (x1.umax)), .int .i64 (ii (x1.smin)), .int .i64 (ii (x1.smax))] 27, .cells #[.int .u64 ((0)), .int .u64 ((0)), .int .u64 ((0)), .int .u64 ((0)), .int .i64 ((0)), .int .i64 ((0))] 27, .cells #[.int .u64 (nn (ra1.v)), .int .u64 (nn (ra1.m))] 25, .cells #[.int .u64 (nn ((r.1).t.v)), .int .u64 (nn ((r.1).t.m)), .int .u64 (nn ((r.1).umin)), .int .u64 (nn ((r.1).umax)), .int .i64 (ii ((r.1).smin)), .int .i64 (ii ((r.1).smax))] 27, unb]
def vf_scalar_operands_shift_134_L0 (x0 : OO) (x1 : S) (ra0 : T) (ra1 : T) (r : (S) × (Bool)) (b1 : Bool) : List L1 → List Value := vf0_scalar_operands_shift_134_L0 x0 x1 ra0 ra1 r b1
def ex_scalar_operands_shift_134_L0 (r : (S) × (Bool)) : Ex := (.exit 0)
theorem w0_scalar_operands_shift_134_L0 (x0 : OO) (x1 : S) (ra0 : T) (ra1 : T) (o0 : (BitVec.ult 64#64 x0.w) = false) (s0 : BitVec 64) (s2 : S) (hI : inv_scalar_operands_shift_134_L0 x0 x1 ra0 ra1 (s0, true, s2)) (f0 : (BitVec.slt s0 0#64) = false) (rb0 : S) (eb0 : m_scalar_shiftLeft x1 s0 = rb0) (h0 : (BitVec.slt s0 x0.w) = true) (h1 : (m_tnum_Has ra1 s0) = true) (h2 : (BitVec.ult (x0.w - 1#64) x0.b.umax) = true) : Goes1 Tryz.prog bd_scalar_operands_shift_134_L0 6 (fr_scalar_operands_shift_134_L0 x0 x1 ra0 ra1 (s0, true, s2)) (Hs_scalar_operands_shift_134_L0 x0 x1 ra0 ra1 (s0, true, s2)) Ex.normal 5 (fr_scalar_operands_shift_134_L0 x0 x1 ra0 ra1 ((s0 + 1#64), false, rb0)) (Hs_scalar_operands_shift_134_L0 x0 x1 ra0 ra1 ((s0 + 1#64), false, rb0)) 6 :=
  goes_runI [.t (i_lt s0 x0.w) h0, .o, .o, .a 3, .o, .v .u64 (u64_of_i64 (s0)), .cb (ok_tnum_Has (ra1) (s0)) h1, .o, .o, .o, .o, .a 0, .o, .tn (u_le x0.b.umax (x0.w - 1#64)) h2, .o, .o, .o, .o, .a 1, .o, .cr sv (ok_scalar_shiftLeft (x1) (s0) f0) eb0, .o, .a 6, .o, .o, .a 6, .a 4, .o, .v .i64 (i64_add s0 1#64), .o] [0, 1, 2, 3, 4] (fun b => rfl) (by decide) rfl (fun b => by kernel_rfl)
theorem w1_scalar_operands_shift_134_L0 (x0 : OO) (x1 : S) (ra0 : T) (ra1 : T) (o0 : (BitVec.ult 64#64 x0.w) = false) (s0 : BitVec 64) (s2 : S) (hI : inv_scalar_operands_shift_134_L0 x0 x1 ra0 ra1 (s0, false, s2)) (f0 : (BitVec.slt s0 0#64) = false) (rb0 : S) (eb0 : m_scalar_shiftLeft x1 s0 = rb0) (rb1 : S) (eb1 : m_scalar_hull s2 rb0 = rb1) (h0 : (BitVec.slt s0 x0.w) = true) (h1 : (m_tnum_Has ra1 s0) = true) (h2 : (BitVec.ult (x0.w - 1#64) x0.b.umax) = true) : Goes1 Tryz.prog bd_scalar_operands_shift_134_L0 6 (fr_scalar_operands_shift_134_L0 x0 x1 ra0 ra1 (s0, false, s2)) (Hs_scalar_operands_shift_134_L0 x0 x1 ra0 ra1 (s0, false, s2)) Ex.normal 5 (fr_scalar_operands_shift_134_L0 x0 x1 ra0 ra1 ((s0 + 1#64), false, rb1)) (Hs_scalar_operands_shift_134_L0 x0 x1 ra0 ra1 ((s0 + 1#64), false, rb1)) 6 :=
  goes_runI [.t (i_lt s0 x0.w) h0, .o, .o, .a 3, .o, .v .u64 (u64_of_i64 (s0)), .cb (ok_tnum_Has (ra1) (s0)) h1, .o, .o, .o, .o, .a 0, .o, .tn (u_le x0.b.umax (x0.w - 1#64)) h2, .o, .o, .o, .o, .a 1, .o, .cr sv (ok_scalar_shiftLeft (x1) (s0) f0) eb0, .o, .a 6, .o, .o, .a 4, .a 6, .cr sv (ok_scalar_hull (s2) (rb0)) eb1, .a 6, .a 6, .a 4, .o, .v .i64 (i64_add s0 1#64), .o] [0, 1, 2, 3, 4] (fun b => rfl) (by decide) rfl (fun b => by kernel_rfl)
theorem w2_scalar_operands_shift_134_L0 (x0 : OO) (x1 : S) (ra0 : T) (ra1 : T) (o0 : (BitVec.ult 64#64 x0.w) = false) (s0 : BitVec 64) (s1 : Bool) (s2 : S) (hI : inv_scalar_operands_shift_134_L0 x0 x1 ra0 ra1 (s0, s1, s2)) (f0 : (BitVec.slt s0 0#64) = false) (h0 : (BitVec.slt s0 x0.w) = true) (h1 : (m_tnum_Has ra1 s0) = true) (h2 : (BitVec.ult (x0.w - 1#64) x0.b.umax) = false) (h3 : (BitVec.ult s0 x0.b.umin) = true) : Goes1 Tryz.prog bd_scalar_operands_shift_134_L0 6 (fr_scalar_operands_shift_134_L0 x0 x1 ra0 ra1 (s0, s1, s2)) (Hs_scalar_operands_shift_134_L0 x0 x1 ra0 ra1 (s0, s1, s2)) Ex.normal 5 (fr_scalar_operands_shift_134_L0 x0 x1 ra0 ra1 ((s0 + 1#64), s1, s2)) (Hs_scalar_operands_shift_134_L0 x0 x1 ra0 ra1 ((s0 + 1#64), s1, s2)) 6 :=
  goes_runI [.t (i_lt s0 x0.w) h0, .o, .o, .a 3, .o, .v .u64 (u64_of_i64 (s0)), .cb (ok_tnum_Has (ra1) (s0)) h1, .o, .o, .o, .o, .a 0, .o, .tn (u_le x0.b.umax (x0.w - 1#64)) h2, .o, .o, .v .u64 (u64_of_i64 (s0)), .o, .o, .a 0, .t (u_lt s0 x0.b.umin) h3, .o, .o, .o, .o, .v .i64 (i64_add s0 1#64), .o] [0, 1, 2, 3, 4] (fun b => rfl) (by decide) rfl (fun b => by kernel_rfl)
theorem w3_scalar_operands_shift_134_L0 (x0 : OO) (x1 : S) (ra0 : T) (ra1 : T) (o0 : (BitVec.ult 64#64 x0.w) = false) (s0 : BitVec 64) (s1 : Bool) (s2 : S) (hI : inv_scalar_operands_shift_134_L0 x0 x1 ra0 ra1 (s0, s1, s2)) (f0 : (BitVec.slt s0 0#64) = false) (h0 : (BitVec.slt s0 x0.w) = true) (h1 : (m_tnum_Has ra1 s0) = true) (h2 : (BitVec.ult (x0.w - 1#64) x0.b.umax) = false) (h3 : (BitVec.ult s0 x0.b.umin) = false) (h4 : (BitVec.ult x0.b.umax s0) = true) : Goes1 Tryz.prog bd_scalar_operands_shift_134_L0 6 (fr_scalar_operands_shift_134_L0 x0 x1 ra0 ra1 (s0, s1, s2)) (Hs_scalar_operands_shift_134_L0 x0 x1 ra0 ra1 (s0, s1, s2)) Ex.normal 5 (fr_scalar_operands_shift_134_L0 x0 x1 ra0 ra1 ((s0 + 1#64), s1, s2)) (Hs_scalar_operands_shift_134_L0 x0 x1 ra0 ra1 ((s0 + 1#64), s1, s2)) 6 :=
  goes_runI [.t (i_lt s0 x0.w) h0, .o, .o, .a 3, .o, .v .u64 (u64_of_i64 (s0)), .cb (ok_tnum_Has (ra1) (s0)) h1, .o, .o, .o, .o, .a 0, .o, .tn (u_le x0.b.umax (x0.w - 1#64)) h2, .o, .o, .v .u64 (u64_of_i64 (s0)), .o, .o, .a 0, .t (u_lt s0 x0.b.umin) h3, .o, .o, .v .u64 (u64_of_i64 (s0)), .o, .o, .a 0, .t (u_gt s0 x0.b.umax) h4, .o, .o, .o, .v .i64 (i64_add s0 1#64), .o] [0, 1, 2, 3, 4] (fun b => rfl) (by decide) rfl (fun b => by kernel_rfl)
theorem w4_scalar_operands_shift_134_L0 (x0 : OO) (x1 : S) (ra0 : T) (ra1 : T) (o0 : (BitVec.ult 64#64 x0.w) = false) (s0 : BitVec 64) (s2 : S) (hI : inv_scalar_operands_shift_134_L0 x0 x1 ra0 ra1 (s0, true, s2)) (f0 : (BitVec.slt s0 0#64) = false) (rb0 : S) (eb0 : m_scalar_shiftLeft x1 s0 = rb0) (h0 : (BitVec.slt s0 x0.w) = true) (h1 : (m_tnum_Has ra1 s0) = true) (h2 : (BitVec.ult (x0.w - 1#64) x0.b.umax) = false) (h3 : (BitVec.ult s0 x0.b.umin) = false) (h4 : (BitVec.ult x0.b.umax s0) = false) : Goes1 Tryz.prog bd_scalar_operands_shift_134_L0 6 (fr_scalar_operands_shift_134_L0 x0 x1 ra0 ra1 (s0, true, s2)) (Hs_scalar_operands_shift_134_L0 x0 x1 ra0 ra1 (s0, true, s2)) Ex.normal 5 (fr_scalar_operands_shift_134_L0 x0 x1 ra0 ra1 ((s0 + 1#64), false, rb0)) (Hs_scalar_operands_shift_134_L0 x0 x1 ra0 ra1 ((s0 + 1#64), false, rb0)) 6 :=
  goes_runI [.t (i_lt s0 x0.w) h0, .o, .o, .a 3, .o, .v .u64 (u64_of_i64 (s0)), .cb (ok_tnum_Has (ra1) (s0)) h1, .o, .o, .o, .o, .a 0, .o, .tn (u_le x0.b.umax (x0.w - 1#64)) h2, .o, .o, .v .u64 (u64_of_i64 (s0)), .o, .o, .a 0, .t (u_lt s0 x0.b.umin) h3, .o, .o, .v .u64 (u64_of_i64 (s0)), .o, .o, .a 0, .t (u_gt s0 x0.b.umax) h4, .o, .o, .o, .o, .a 1, .o, .cr sv (ok_scalar_shiftLeft (x1) (s0) f0) eb0, .o, .a 6, .o, .o, .a 6, .a 4, .o, .v .i64 (i64_add s0 1#64), .o] [0, 1, 2, 3, 4] (fun b => rfl) (by decide) rfl (fun b => by kernel_rfl)
theorem w5_scalar_operands_shift_134_L0 (x0 : OO) (x1 : S) (ra0 : T) (ra1 : T) (o0 : (BitVec.ult 64#64 x0.w) = false) (s0 : BitVec 64) (s2 : S) (hI : inv_scalar_operands_shift_134_L0 x0 x1 ra0 ra1 (s0, false, s2)) (f0 : (BitVec.slt s0 0#64) = false) (rb0 : S) (eb0 : m_scalar_shiftLeft x1 s0 = rb0) (rb1 : S) (eb1 : m_scalar_hull s2 rb0 = rb1) (h0 : (BitVec.slt s0 x0.w) = true) (h1 : (m_tnum_Has ra1 s0) = true) (h2 : (BitVec.ult (x0.w - 1#64) x0.b.umax) = false) (h3 : (BitVec.ult s0 x0.b.umin) = false) (h4 : (BitVec.ult x0.b.umax s0) = false) : Goes1 Tryz.prog bd_scalar_operands_shift_134_L0 6 (fr_scalar_operands_shift_134_L0 x0 x1 ra0 ra1 (s0, false, s2)) (Hs_scalar_operands_shift_134_L0 x0 x1 ra0 ra1 (s0, false, s2)) Ex.normal 5 (fr_scalar_operands_shift_134_L0 x0 x1 ra0 ra1 ((s0 + 1#64), false, rb1)) (Hs_scalar_operands_shift_134_L0 x0 x1 ra0 ra1 ((s0 + 1#64), false, rb1)) 6 :=
  goes_runI [.t (i_lt s0 x0.w) h0, .o, .o, .a 3, .o, .v .u64 (u64_of_i64 (s0)), .cb (ok_tnum_Has (ra1) (s0)) h1, .o, .o, .o, .o, .a 0, .o, .tn (u_le x0.b.umax (x0.w - 1#64)) h2, .o, .o, .v .u64 (u64_of_i64 (s0)), .o, .o, .a 0, .t (u_lt s0 x0.b.umin) h3, .o, .o, .v .u64 (u64_of_i64 (s0)), .o, .o, .a 0, .t (u_gt s0 x0.b.umax) h4, .o, .o, .o, .o, .a 1, .o, .cr sv (ok_scalar_shiftLeft (x1) (s0) f0) eb0, .o, .a 6, .o, .o, .a 4, .a 6, .cr sv (ok_scalar_hull (s2) (rb0)) eb1, .a 6, .a 6, .a 4, .o, .v .i64 (i64_add s0 1#64), .o] [0, 1, 2, 3, 4] (fun b => rfl) (by decide) rfl (fun b => by kernel_rfl)
theorem w6_scalar_operands_shift_134_L0 (x0 : OO) (x1 : S) (ra0 : T) (ra1 : T) (o0 : (BitVec.ult 64#64 x0.w) = false) (s0 : BitVec 64) (s1 : Bool) (s2 : S) (hI : inv_scalar_operands_shift_134_L0 x0 x1 ra0 ra1 (s0, s1, s2)) (f0 : (BitVec.slt s0 0#64) = false) (h0 : (BitVec.slt s0 x0.w) = true) (h1 : (m_tnum_Has ra1 s0) = false) : Goes1 Tryz.prog bd_scalar_operands_shift_134_L0 6 (fr_scalar_operands_shift_134_L0 x0 x1 ra0 ra1 (s0, s1, s2)) (Hs_scalar_operands_shift_134_L0 x0 x1 ra0 ra1 (s0, s1, s2)) Ex.normal 5 (fr_scalar_operands_shift_134_L0 x0 x1 ra0 ra1 ((s0 + 1#64), s1, s2)) (Hs_scalar_operands_shift_134_L0 x0 x1 ra0 ra1 ((s0 + 1#64), s1, s2)) 6 :=
  goes_runI [.t (i_lt s0 x0.w) h0, .o, .o, .a 3, .o, .v .u64 (u64_of_i64 (s0)), .cb (ok_tnum_Has (ra1) (s0)) h1, .o, .o, .o, .v .i64 (i64_add s0 1#64), .o] [0, 1, 2, 3, 4] (fun b => rfl) (by decide) rfl (fun b => by kernel_rfl)
theorem w7_scalar_operands_shift_134_L0 (x0 : OO) (x1 : S) (ra0 : T) (ra1 : T) (o0 : (BitVec.ult 64#64 x0.w) = false) (s0 : BitVec 64) (s1 : Bool) (s2 : S) (hI : inv_scalar_operands_shift_134_L0 x0 x1 ra0 ra1 (s0, s1, s2)) (f0 : (BitVec.slt s0 0#64) = false) (h0 : (BitVec.slt s0 x0.w) = false) : Goes1 Tryz.prog bd_scalar_operands_shift_134_L0 6 (fr_scalar_operands_shift_134_L0 x0 x1 ra0 ra1 (s0, s1, s2)) (Hs_scalar_operands_shift_134_L0 x0 x1 ra0 ra1 (s0, s1, s2)) (.exit 0) 5 (vf_scalar_operands_shift_134_L0 x0 x1 ra0 ra1 ((s2, s1)) (s1)) (Hf_scalar_operands_shift_134_L0 x0 x1 ra0 ra1 ((s2, s1)) (s1)) 6 :=
  goes_runI [.t (i_lt s0 x0.w) h0] [0, 1, 2, 3, 4] (fun b => rfl) (by decide) rfl (fun b => by kernel_rfl)
theorem dec_scalar_operands_shift_134_L0 (x0 : OO) (x1 : S) (ra0 : T) (ra1 : T) (o0 : (BitVec.ult 64#64 x0.w) = false) : Falls (st_scalar_operands_shift_134_L0 x0 x1 ra0 ra1) (mu_scalar_operands_shift_134_L0 x0 x1 ra0 ra1) (inv_scalar_operands_shift_134_L0 x0 x1 ra0 ra1) := ⟨by
  rintro ⟨s0, s1, s2⟩ s' hI e
  simp only [st_scalar_operands_shift_134_L0, Bool.cond_eq_ite] at e
  repeat' (split at e)
  all_goals first
    | (cases e; done)
    | (simp only [Sum.inl.injEq] at e; subst e; simp only [inv_scalar_operands_shift_134_L0, mu_scalar_operands_shift_134_L0] at hI ⊢; have := up2 (s := s0) hI (by assumption); omega)⟩
theorem go_scalar_operands_shift_134_L0 (x0 : OO) (x1 : S) (ra0 : T) (ra1 : T) (o0 : (BitVec.ult 64#64 x0.w) = false) : ∀ s, inv_scalar_operands_shift_134_L0 x0 x1 ra0 ra1 s → Goes1 Tryz.prog (.loop bd_scalar_operands_shift_134_L0) 6 (fr_scalar_operands_shift_134_L0 x0 x1 ra0 ra1 s) (Hs_scalar_operands_shift_134_L0 x0 x1 ra0 ra1 s) (ex_scalar_operands_shift_134_L0 (lp_scalar_operands_shift_134_L0 x0 x1 ra0 ra1 s)) 5 (vf_scalar_operands_shift_134_L0 x0 x1 ra0 ra1 (lp_scalar_operands_shift_134_L0 x0 x1 ra0 ra1 s) (((lp_scalar_operands_shift_134_L0 x0 x1 ra0 ra1 s)).2)) (Hf_scalar_operands_shift_134_L0 x0 x1 ra0 ra1 (lp_scalar_operands_shift_134_L0 x0 x1 ra0 ra1 s) (((lp_scalar_operands_shift_134_L0 x0 x1 ra0 ra1 s)).2)) 6 :=
  goes_lp (ex := ex_scalar_operands_shift_134_L0) (vf := fun r => vf_scalar_operands_shift_134_L0 x0 x1 ra0 ra1 r (r.2)) (Hf := fun r => Hf_scalar_operands_shift_134_L0 x0 x1 ra0 ra1 r (r.2)) _ (dec_scalar_operands_shift_134_L0 x0 x1 ra0 ra1 o0) fun s hI => by
  obtain ⟨s0, s1, s2⟩ := s
  unfold st_scalar_operands_shift_134_L0
  dsimp only
  cases h0 : (BitVec.slt s0 x0.w)
  · exact ⟨ne_exit 0, w7_scalar_operands_shift_134_L0 x0 x1 ra0 ra1 o0 s0 s1 s2 hI (slt0_ge hI) h0⟩
  · cases h1 : (m_tnum_Has ra1 s0)
    · exact w6_scalar_operands_shift_134_L0 x0 x1 ra0 ra1 o0 s0 s1 s2 hI (slt0_ge hI) h0 h1
    · cases h2 : (BitVec.ult (x0.w - 1#64) x0.b.umax)
      · cases h3 : (BitVec.ult s0 x0.b.umin)
        · cases h4 : (BitVec.ult x0.b.umax s0)
          · generalize eb0 : m_scalar_shiftLeft x1 s0 = rb0
            cases s1
            · generalize eb1 : m_scalar_hull s2 rb0 = rb1
              exact w5_scalar_operands_shift_134_L0 x0 x1 ra0 ra1 o0 s0 s2 hI (slt0_ge hI) rb0 eb0 rb1 eb1 h0 h1 h2 h3 h4
            · exact w4_scalar_operands_shift_134_L0 x0 x1 ra0 ra1 o0 s0 s2 hI (slt0_ge hI) rb0 eb0 h0 h1 h2 h3 h4
          · exact w3_scalar_operands_shift_134_L0 x0 x1 ra0 ra1 o0 s0 s1 s2 hI (slt0_ge hI) h0 h1 h2 h3 h4
        · exact w2_scalar_operands_shift_134_L0 x0 x1 ra0 ra1 o0 s0 s1 s2 hI (slt0_ge hI) h0 h1 h2 h3
      · generalize eb0 : m_scalar_shiftLeft x1 s0 = rb0
        cases s1
        · generalize eb1 : m_scalar_hull s2 rb0 = rb1
          exact w1_scalar_operands_shift_134_L0 x0 x1 ra0 ra1 o0 s0 s2 hI (slt0_ge hI) rb0 eb0 rb1 eb1 h0 h1 h2
        · exact w0_scalar_operands_shift_134_L0 x0 x1 ra0 ra1 o0 s0 s2 hI (slt0_ge hI) rb0 eb0 h0 h1 h2
def t0_scalar_operands_shift_134_L0 (x0 : OO) (x1 : S) (ra0 : T) (ra1 : T) (s : (BitVec 64) × (Bool) × (S)) : List L1 → List Value
  | [l0, l1, l2, l3, l4] => [ov (x0), sv (x1), .func (.func 134) #[] #[], (ptrTo l0.n), (ptrTo l1.n), undef, (ptrTo l2.n), .int .u64 (nn ((x0.w - 1#64))), (ptrTo l3.n), (ptrTo l4.n), (.bool (s.2.1)), undef, undef, .pointer (some ⟨l0.n, 12, none⟩), .int .i64 (ii (x0.w)), .int .i64 (ii ((x0.w - 1#64))), .int .u64 (nn ((x0.w - 1#64))), .pointer (some ⟨l0.n, 6, none⟩), .pointer (some ⟨l0.n, 6, none⟩), .agg #[.int .u64 (nn (x0.b.t.v)), .int .u64 (nn (x0.b.t.m))], .int .u64 (nn ((x0.w - 1#64))), tv (ra0), tv (ra1), .pointer (some ⟨l0.n, 12, none⟩), .int .i64 (ii (x0.w)), (.int .i64 (ii (s.1))), undef, undef, undef, undef, undef, undef, undef, undef, undef, undef, undef, undef, undef, undef, undef, undef, undef, undef, undef, undef, undef, undef, undef, undef, undef, undef, undef, undef, undef, undef, undef, undef, undef, undef, undef, undef, undef, undef, undef, undef, undef, undef, undef, undef, undef]
  | _ => []
def pre_scalar_operands_shift_134_L0 (x0 : OO) (x1 : S) (ra0 : T) (ra1 : T) (s : (BitVec 64) × (Bool) × (S)) : List Obj := [.cells #[.int .u64 (nn (x0.a.t.v)), .int .u64 (nn (x0.a.t.m)), .int .u64 (nn (x0.a.umin)), .int .u64 (nn (x0.a.umax)), .int .i64 (ii (x0.a.smin)), .int .i64 (ii (x0.a.smax)), .int .u64 (nn (x0.b.t.v)), .int .u64 (nn (x0.b.t.m)), .int .u64 (nn (x0.b.umin)), .int .u64 (nn (x0.b.umax)), .int .i64 (ii (x0.b.smin)), .int .i64 (ii (x0.b.smax)), .int .i64 (ii (x0.w))] 76, .cells #[.int .u64 (nn (x1.t.v)), .int .u64 (nn (x1.t.m)), .int .u64 (nn (x1.umin)), .int .u64 (nn (x1.umax)), .int .i64 (ii (x1.smin)), .int .i64 (ii (x1.smax))] 27, .cells #[.int .u64 ((0)), .int .u64 ((0)), .int .u64 ((0)), .int .u64 ((0)), .int .i64 ((0)), .int .i64 ((0))] 27, .cells #[.int .u64 (nn (ra1.v)), .int .u64 (nn (ra1.m))] 25, .cells #[.int .u64 (nn (s.2.2.t.v)), .int .u64 (nn (s.2.2.t.m)), .int .u64 (nn (s.2.2.umin)), .int .u64 (nn (s.2.2.umax)), .int .i64 (ii (s.2.2.smin)), .int .i64 (ii (s.2.2.smax))] 27]
noncomputable def sp_scalar_operands_shift_134_L0_0 (x0 : OO) (x1 : S) (ra0 : T) (ra1 : T) (s : (BitVec 64) × (Bool) × (S)) (b1 : Bool) : Spc := ⟨fun ls => .code (.loop bd_scalar_operands_shift_134_L0) (t0_scalar_operands_shift_134_L0 x0 x1 ra0 ra1 s ls), fun _ => pre_scalar_operands_shift_134_L0 x0 x1 ra0 ra1 s, 1, (.exit 0), fun ls => vf0_scalar_operands_shift_134_L0 x0 x1 ra0 ra1 (lp_scalar_operands_shift_134_L0 x0 x1 ra0 ra1 s) b1 (ls.take 5 ++ ls.drop 5), fun ls => (Hf_scalar_operands_shift_134_L0 x0 x1 ra0 ra1 (lp_scalar_operands_shift_134_L0 x0 x1 ra0 ra1 s) b1 (ls.take 5 ++ ls.drop 5)).take 5 ++ List.replicate 0 unb, fun ls => (Hf_scalar_operands_shift_134_L0 x0 x1 ra0 ra1 (lp_scalar_operands_shift_134_L0 x0 x1 ra0 ra1 s) b1 (ls.take 5 ++ ls.drop 5)).drop 5⟩
theorem sp_scalar_operands_shift_134_L0_0_ok (x0 : OO) (x1 : S) (ra0 : T) (ra1 : T) (s : (BitVec 64) × (Bool) × (S)) (b1 : Bool) (o0 : (BitVec.ult 64#64 x0.w) = false) (hI : inv_scalar_operands_shift_134_L0 x0 x1 ra0 ra1 s) (hb1 : (((lp_scalar_operands_shift_134_L0 x0 x1 ra0 ra1 s)).2) = b1) : SpcOk Tryz.prog (fun _ => True) (sp_scalar_operands_shift_134_L0_0 x0 x1 ra0 ra1 s b1) := by
  subst hb1
  have h := go_scalar_operands_shift_134_L0 x0 x1 ra0 ra1 o0 s hI
  exact spc_of_goes (k0 := 5) h (t0_scalar_operands_shift_134_L0 x0 x1 ra0 ra1 s) (fun _ => pre_scalar_operands_shift_134_L0 x0 x1 ra0 ra1 s) (fun _ => rfl) (fun ls h => by match ls, h with | [l0, l1, l2, l3, l4], _ => rfl) (fun ls h => rfl) (by decide) (by decide) (fun ls => rfl)
-- (barbican/scalar.operands).shift
def m_scalar_operands_shift_134 (x0 : OO) (x1 : S) : S :=
  (bif ((lp_scalar_operands_shift_134_L0 x0 x1 (m_tnum_Const (x0.w - 1#64)) (m_tnum_And x0.b.t (m_tnum_Const (x0.w - 1#64))) ((0#64, true, zS)))).2 then
    ((m_scalar_Unknown ))
    else ((m_scalar_settle (((lp_scalar_operands_shift_134_L0 x0 x1 (m_tnum_Const (x0.w - 1#64)) (m_tnum_And x0.b.t (m_tnum_Const (x0.w - 1#64))) ((0#64, true, zS)))).1))))
theorem p0_scalar_operands_shift_134 (x0 : OO) (x1 : S) (ra0 : T) (ea0 : m_tnum_Const (x0.w - 1#64) = ra0) (ra1 : T) (ea1 : m_tnum_And x0.b.t ra0 = ra1) (ra2 : S) (ea2 : m_scalar_Unknown  = ra2) (g0 : (BitVec.ult 64#64 x0.w) = false) (h0 : (((lp_scalar_operands_shift_134_L0 x0 x1 ra0 ra1 ((0#64, true, zS)))).2) = true) : Con Tryz.prog 133 #[(ov (x0)), (sv (x1)), .func (.func 134) #[] #[]] (sv (ra2)) :=
  fn_conI (P := Tryz.prog) Tryz.func133 (fun xs w => by kernel_rfl) _ _
    [.o, .o, .o, .o, .a 0, .v .i64 (i64_sub x0.w 1#64), .v .u64 (u64_of_i64 ((x0.w - 1#64))), .o, .r [0, 1, 2, 3, 4, 5] [6] [7], .o, .o, .a 0, .o, .cr tv (ok_tnum_Const ((x0.w - 1#64))) ea0, .cr tv (ok_tnum_And (x0.b.t) (ra0)) ea1, .a 3, .o, .o, .o, .a 0, .o, .cp, .cx (sp_scalar_operands_shift_134_L0_0_ok x0 x1 ra0 ra1 ((0#64, true, zS)) true g0 (show (0 : Int) ≤ (0#64).toInt from by decide)  h0) [0, 1, 2, 3, 4], .o, .cr sv (ok_scalar_Unknown ) ea2, .a 2]
    [2, 2, 2, 2, 2, 2] (fun b => by kernel_rfl)
theorem p1_scalar_operands_shift_134 (x0 : OO) (x1 : S) (ra0 : T) (ea0 : m_tnum_Const (x0.w - 1#64) = ra0) (ra1 : T) (ea1 : m_tnum_And x0.b.t ra0 = ra1) (ra2 : S) (ea2 : m_scalar_settle (((lp_scalar_operands_shift_134_L0 x0 x1 ra0 ra1 ((0#64, true, zS)))).1) = ra2) (g0 : (BitVec.ult 64#64 x0.w) = false) (h0 : (((lp_scalar_operands_shift_134_L0 x0 x1 ra0 ra1 ((0#64, true, zS)))).2) = false) : Con Tryz.prog 133 #[(ov (x0)), (sv (x1)), .func (.func 134) #[] #[]] (sv (ra2)) :=
  fn_conI (P := Tryz.prog) Tryz.func133 (fun xs w => by kernel_rfl) _ _
    [.o, .o, .o, .o, .a 0, .v .i64 (i64_sub x0.w 1#64), .v .u64 (u64_of_i64 ((x0.w - 1#64))), .o, .r [0, 1, 2, 3, 4, 5] [6] [7], .o, .o, .a 0, .o, .cr tv (ok_tnum_Const ((x0.w - 1#64))) ea0, .cr tv (ok_tnum_And (x0.b.t) (ra0)) ea1, .a 3, .o, .o, .o, .a 0, .o, .cp, .cx (sp_scalar_operands_shift_134_L0_0_ok x0 x1 ra0 ra1 ((0#64, true, zS)) false g0 (show (0 : Int) ≤ (0#64).toInt from by decide)  h0) [0, 1, 2, 3, 4], .o, .a 4, .cr sv (ok_scalar_settle (((lp_scalar_operands_shift_134_L0 x0 x1 ra0 ra1 ((0#64, true, zS)))).1)) ea2, .a 2]
    [2, 2, 2, 2, 2, 2] (fun b => by kernel_rfl)
theorem ok_scalar_operands_shift_134 (x0 : OO) (x1 : S) (g0 : (BitVec.ult 64#64 x0.w) = false) : Con Tryz.prog 133 #[(ov (x0)), (sv (x1)), .func (.func 134) #[] #[]] (sv (m_scalar_operands_shift_134 x0 x1)) := by
  unfold m_scalar_operands_shift_134
  refine Con.cond sv _ _ _ (fun h0 => ?_) (fun h0 => ?_)
  · exact p0_scalar_operands_shift_134 x0 x1 _ rfl _ rfl _ rfl g0 h0
  · exact p1_scalar_operands_shift_134 x0 x1 _ rfl _ rfl _ rfl g0 h0
-- (barbican/scalar.operands).lsh
def m_scalar_operands_lsh (x0 : OO) : S :=
  ((m_scalar_operands_shift_134 x0 x0.a))
theorem p0_scalar_operands_lsh (x0 : OO) (ra0 : S) (ea0 : m_scalar_operands_shift_134 x0 x0.a = ra0) (g0 : (BitVec.ult 64#64 x0.w) = false) : Con Tryz.prog 87 #[(ov (x0))] (sv (ra0)) :=
  fn_conI (P := Tryz.prog) Tryz.func87 (fun xs w => by kernel_rfl) _ _
    [.o, .o, .a 0, .o, .a 0, .cr sv (ok_scalar_operands_shift_134 (x0) (x0.a) g0) ea0, .a 1]
    [1, 1, 1, 1, 1, 1] (fun b => by kernel_rfl)
theorem ok_scalar_operands_lsh (x0 : OO) (g0 : (BitVec.ult 64#64 x0.w) = false) : Con Tryz.prog 87 #[(ov (x0))] (sv (m_scalar_operands_lsh x0)) := by
  unfold m_scalar_operands_lsh
  exact p0_scalar_operands_lsh x0 _ rfl g0
-- barbican/scalar.shiftRight
def m_scalar_shiftRight (x0 : S) (x1 : BitVec 64) : S :=
  ((⟨(m_scalar_ofBits (m_tnum_Rsh x0.t x1)).t, (x0.umin >>> (x1).toNat), (x0.umax >>> (x1).toNat), (m_scalar_ofBits (m_tnum_Rsh x0.t x1)).smin, (m_scalar_ofBits (m_tnum_Rsh x0.t x1)).smax⟩ : S))
theorem p0_scalar_shiftRight (x0 : S) (x1 : BitVec 64) (ra0 : T) (ea0 : m_tnum_Rsh x0.t x1 = ra0) (ra1 : S) (ea1 : m_scalar_ofBits ra0 = ra1) (g0 : (BitVec.slt x1 0#64) = false) : Con Tryz.prog 135 #[(sv (x0)), (.int .i64 (ii (x1)))] (sv ((⟨ra1.t, (x0.umin >>> (x1).toNat), (x0.umax >>> (x1).toNat), ra1.smin, ra1.smax⟩ : S))) :=
  fn_conI (P := Tryz.prog) Tryz.func135 (fun xs w => by kernel_rfl) _ _
    [.o, .o, .o, .a 0, .o, .cr tv (ok_tnum_Rsh (x0.t) (x1)) ea0, .cr sv (ok_scalar_ofBits (ra0)) ea1, .o, .a 2, .r [0, 1, 2, 3, 4, 5, 6, 7, 8] [] [9, 10, 11], .o, .a 0, .o, .ov (u64_shr Tryz.prog 22 (.tmp 12) (.tmp 13) (x0.umin) (x1).toNat .i64 (ii_pos g0)), .o, .a 0, .o, .ov (u64_shr Tryz.prog 22 (.tmp 16) (.tmp 17) (x0.umax) (x1).toNat .i64 (ii_pos g0)), .o, .a 2, .o, .a 2, .a 2, .a 1]
    [1, 1, 1, 1, 1, 1] (fun b => by kernel_rfl)
theorem ok_scalar_shiftRight (x0 : S) (x1 : BitVec 64) (g0 : (BitVec.slt x1 0#64) = false) : Con Tryz.prog 135 #[(sv (x0)), (.int .i64 (ii (x1)))] (sv (m_scalar_shiftRight x0 x1)) := by
  unfold m_scalar_shiftRight
  exact p0_scalar_shiftRight x0 x1 _ rfl _ rfl g0
-- loop 0 of (barbican/scalar.operands).shift: state t25 t10 b4, out b4 t10
def st_scalar_operands_shift_135_L0 (x0 : OO) (x1 : S) (ra0 : T) (ra1 : T) : (BitVec 64) × (Bool) × (S) → ((BitVec 64) × (Bool) × (S)) ⊕ ((S) × (Bool))
  | (s0, s1, s2) =>
    (bif BitVec.slt s0 x0.w then
      (bif m_tnum_Has ra1 s0 then
        (bif BitVec.ult (x0.w - 1#64) x0.b.umax then
          (bif s1 then
            (.inl ((s0 + 1#64), false, (m_scalar_shiftRight x1 s0)))
            else (.inl ((s0 + 1#64), false, (m_scalar_hull s2 (m_scalar_shiftRight x1 s0)))))
          else (bif BitVec.ult s0 x0.b.umin then
            (.inl ((s0 + 1#64), s1, s2))
            else (bif BitVec.ult x0.b.umax s0 then
              (.inl ((s0 + 1#64), s1, s2))
              else (bif s1 then
                (.inl ((s0 + 1#64), false, (m_scalar_shiftRight x1 s0)))
                else (.inl ((s0 + 1#64), false, (m_scalar_hull s2 (m_scalar_shiftRight x1 s0))))))))
        else (.inl ((s0 + 1#64), s1, s2)))
      else (.inr ((s2, s1))))
def mu_scalar_operands_shift_135_L0 (x0 : OO) (x1 : S) (ra0 : T) (ra1 : T) : (BitVec 64) × (Bool) × (S) → Nat
  | (s0, s1, s2) => (x0.w.toInt - s0.toInt).toNat
def inv_scalar_operands_shift_135_L0 (x0 : OO) (x1 : S) (ra0 : T) (ra1 : T) : (BitVec 64) × (Bool) × (S) → Prop
  | (s0, s1, s2) => (0 : Int) ≤ s0.toInt
def lp_scalar_operands_shift_135_L0 (x0 : OO) (x1 : S) (ra0 : T) (ra1 : T) (s : (BitVec 64) × (Bool) × (S)) : (S) × (Bool) := lp (st_scalar_operands_shift_135_L0 x0 x1 ra0 ra1) (((⟨(⟨0#64, 0#64⟩ : T), 0#64, 0#64, 0#64, 0#64⟩ : S), false)) (mu_scalar_operands_shift_135_L0 x0 x1 ra0 ra1) s
noncomputable def bd_scalar_operands_shift_135_L0 : Code := codeOf Tryz.f133 [1, 1, 1, 1, 1, 0, 1, 0, 0]
def fr_scalar_operands_shift_135_L0 (x0 : OO) (x1 : S) (ra0 : T) (ra1 : T) : (BitVec 64) × (Bool) × (S) → List L1 → List Value
  | (s0, s1, s2), [l0, l1, l2, l3, l4, l5] => [ov (x0), sv (x1), .func (.func 135) #[] #[], (ptrTo l0.n), (ptrTo l1.n), undef, (ptrTo l2.n), .int .u64 (nn ((x0.w - 1#64))), (ptrTo l3.n), (ptrTo l4.n), .bool (s1), (l5.u 11), (l5.u 12), .pointer (some ⟨l0.n, 12, none⟩), .int .i64 (ii (x0.w)), .int .i64 (ii ((x0.w - 1#64))), .int .u64 (nn ((x0.w - 1#64))), .pointer (some ⟨l0.n, 6, none⟩), .pointer (some ⟨l0.n, 6, none⟩), .agg #[.int .u64 (nn (x0.b.t.v)), .int .u64 (nn (x0.b.t.m))], .int .u64 (nn ((x0.w - 1#64))), tv (ra0), tv (ra1), .pointer (some ⟨l0.n, 12, none⟩), .int .i64 (ii (x0.w)), .int .i64 (ii (s0)), (l5.u 26), (l5.u 27), (l5.u 28), (l5.u 29), (l5.u 30), (l5.u 31), (l5.u 32), (l5.u 33), (l5.u 34), (l5.u 35), (l5.u 36), (l5.u 37), (l5.u 38), (l5.u 39), (l5.u 40), (l5.u 41), (l5.u 42), (l5.u 43), (l5.u 44), (l5.u 45), (l5.u 46), (l5.u 47), (l5.u 48), (l5.u 49), (l5.u 50), (l5.u 51), (l5.u 52), (l5.u 53), (l5.u 54), (l5.u 55), (l5.u 56), (l5.u 57), (l5.u 58), (l5.u 59), (l5.u 60), (l5.u 61), (l5.u 62), (l5.u 63), (l5.u 64), (l5.u 65), (l5.u 66), undef, undef, undef, undef]
  | _, _ => []
def Hs_scalar_operands_shift_135_L0 (x0 : OO) (x1 : S) (ra0 : T) (ra1 : T) : (BitVec 64) × (Bool) × (S) → List L1 → List Obj
  | (s0, s1, s2), _ => [.cells #[.int .u64 (nn (x0.a.t.v)), .int .u64 (nn (x0.a.t.m)), .int .u64 (nn (x0.a.umin)), .int .u64 (nn (x0.a.umax)), .int .i64 (ii (x0.a.smin)), .int .i64 (ii (x0.a.smax)), .int .u64 (nn (x0.b.t.v)), .int .u64 (nn (x0.b.t.m)), .int .u64 (nn (x0.b.umin)), .int .u64 (nn (x0.b.umax)), .int .i64 (ii (x0.b.smin)), .int .i64 (ii (x0.b.smax)), .int .i64 (ii (x0.w))] 76, .cells #[.int .u64 (nn (x1.t.v)), .int .u64 (nn (x1.t.m)), .int .u64 (nn (x1.umin)), .int .u64 (nn (x1.umax)), .int .i64 (ii (x1.smin)), .int .i64 (ii (x1.smax))] 27, .cells #[.int .u64 ((0)), .int .u64 ((0)), .int .u64 ((0)), .int .u64 ((0)), .int .i64 ((0)), .int .i64 ((0))] 27, .cells #[.int .u64 (nn (ra1.v)), .int .u64 (nn (ra1.m))] 25, .cells #[.int .u64 (nn (s2.t.v)), .int .u64 (nn (s2.t.m)), .int .u64 (nn (s2.umin)), .int .u64 (nn (s2.umax)), .int .i64 (ii (s2.smin)), .int .i64 (ii (s2.smax))] 27, unb]
def vf0_scalar_operands_shift_135_L0 (x0 : OO) (x1 : S) (ra0 : T) (ra1 : T) (r : (S) × (Bool)) (b1 : Bool) : List L1 → List Value
  | [l0, l1, l2, l3, l4, l5] => [ov (x0), sv (x1), .func (.func 135) #[] #[], (ptrTo l0.n), (ptrTo l1.n), undef, (ptrTo l2.n), .int .u64 (nn ((x0.w - 1#64))), (ptrTo l3.n), (ptrTo l4.n), .bool (b1), (l5.u 11), (l5.u 12), .pointer (some ⟨l0.n, 12, none⟩), .int .i64 (ii (x0.w)), .int .i64 (ii ((x0.w - 1#64))), .int .u64 (nn ((x0.w - 1#64))), .pointer (some ⟨l0.n, 6, none⟩), .pointer (some ⟨l0.n, 6, none⟩), .agg #[.int .u64 (nn (x0.b.t.v)), .int .u64 (nn (x0.b.t.m))], .int .u64 (nn ((x0.w - 1#64))), tv (ra0), tv (ra1), .pointer (some ⟨l0.n, 12, none⟩), .int .i64 (ii (x0.w)), (l5.u 25), (l5.u 26), (l5.u 27), (l5.u 28), (l5.u 29), (l5.u 30), (l5.u 31), (l5.u 32), (l5.u 33), (l5.u 34), (l5.u 35), (l5.u 36), (l5.u 37), (l5.u 38), (l5.u 39), (l5.u 40), (l5.u 41), (l5.u 42), (l5.u 43), (l5.u 44), (l5.u 45), (l5.u 46), (l5.u 47), (l5.u 48), (l5.u 49), (l5.u 50), (l5.u 51), (l5.u 52), (l5.u 53), (l5.u 54), (l5.u 55), (l5.u 56), (l5.u 57), (l5.u 58), (l5.u 59), (l5.u 60), (l5.u 61), (l5.u 62), (l5.u 63), (l5.u 64), (l5.u 65), (l5.u 66), undef, undef, undef, undef]
  | _ => []
def Hf_scalar_operands_shift_135_L0 (x0 : OO) (x1 : S) (ra0 : T) (ra1 : T) (r : (S) × (Bool)) (b1 : Bool) (_ : List L1) : List Obj := [.cells #[.int .u64 (nn (x0.a.t.v)), .int .u64 (nn (x0.a.t.m)), .int .u64 (nn (x0.a.umin)), .int .u64 (nn (x0.a.umax)), .int .i64 (ii (x0.a.smin)), .int .i64 (ii (x0.a.smax)), .int .u64 (nn (x0.b.t.v)), .int .u64 (nn (x0.b.t.m)), .int .u64 (nn (x0.b.umin)), .int .u64 (nn (x0.b.umax)), .int .i64 (ii (x0.b.smin)), .int .i64 (ii (x0.b.smax)), .int .i64 (ii (x0.w))] 76, .cells #[.int .u64 (nn (x1.t.v)), .int .u64 (nn (x1.t.m)), .int .u64 (nn (x1.umin)), .int .u64 (nn (x1.umax)), .int .i64 (ii (x1.smin)), .int .i64 (ii (x1.smax))] 27, .cells #[.int .u64 ((0)), .int .u64 ((0)), .int .u64 ((0)), .int .u64 ((0)), .int .i64 ((0)), .int .i64 ((0))] 27, .cells #[.int .u64 (nn (ra1.v)), .int .u64 (nn (ra1.m))] 25, .cells #[.int .u64 (nn ((r.1).t.v)), .int .u64 (nn ((r.1).t.m)), .int .u64 (nn ((r.1).umin)), .int .u64 (nn ((r.1).umax)), .int .i64 (ii ((r.1).smin)), .int .i64 (ii ((r.1).smax))] 27, unb]
def vf_scalar_operands_shift_135_L0 (x0 : OO) (x1 : S) (ra0 : T) (ra1 : T) (r : (S) × (Bool)) (b1 : Bool) : List L1 → List Value := vf0_scalar_operands_shift_135_L0 x0 x1 ra0 ra1 r b1
def ex_scalar_operands_shift_135_L0 (r : (S) × (Bool)) : Ex := (.exit 0)
theorem w0_scalar_operands_shift_135_L0 (x0 : OO) (x1 : S) (ra0 : T) (ra1 : T) (o0 : (BitVec.ult 64#64 x0.w) = false) (s0 : BitVec 64) (s2 : S) (hI : inv_scalar_operands_shift_135_L0 x0 x1 ra0 ra1 (s0, true, s2)) (f0 : (BitVec.slt s0 0#64) = false) (rb0 : S) (eb0 : m_scalar_shiftRight x1 s0 = rb0) (h0 : (BitVec.slt s0 x0.w) = true) (h1 : (m_tnum_Has ra1 s0) = true) (h2 : (BitVec.ult (x0.w - 1#64) x0.b.umax) = true) : Goes1 Tryz.prog bd_scalar_operands_shift_135_L0 6 (fr_scalar_operands_shift_135_L0 x0 x1 ra0 ra1 (s0, true, s2)) (Hs_scalar_operands_shift_135_L0 x0 x1 ra0 ra1 (s0, true, s2)) Ex.normal 5 (fr_scalar_operands_shift_135_L0 x0 x1 ra0 ra1 ((s0 + 1#64), false, rb0)) (Hs_scalar_operands_shift_135_L0 x0 x1 ra0 ra1 ((s0 + 1#64), false, rb0)) 6 :=
  goes_runI [.t (i_lt s0 x0.w) h0, .o, .o, .a 3, .o, .v .u64 (u64_of_i64 (s0)), .cb (ok_tnum_Has (ra1) (s0)) h1, .o, .o, .o, .o, .a 0, .o, .tn (u_le x0.b.umax (x0.w - 1#64)) h2, .o, .o, .o, .o, .a 1, .o, .cr sv (ok_scalar_shiftRight (x1) (s0) f0) eb0, .o, .a 6, .o, .o, .a 6, .a 4, .o, .v .i64 (i64_add s0 1#64), .o] [0, 1, 2, 3, 4] (fun b => rfl) (by decide) rfl (fun b => by kernel_rfl)
theorem w1_scalar_operands_shift_135_L0 (x0 : OO) (x1 : S) (ra0 : T) (ra1 : T) (o0 : (BitVec.ult 64#64 x0.w) = false) (s0 : BitVec 64) (s2 : S) (hI : inv_scalar_operands_shift_135_L0 x0 x1 ra0 ra1 (s0, false, s2)) (f0 : (BitVec.slt s0 0#64) = false) (rb0 : S) (eb0 : m_scalar_shiftRight x1 s0 = rb0) (rb1 : S) (eb1 : m_scalar_hull s2 rb0 = rb1) (h0 : (BitVec.slt s0 x0.w) = true) (h1 : (m_tnum_Has ra1 s0) = true) (h2 : (BitVec.ult (x0.w - 1#64) x0.b.umax) = true) : Goes1 Tryz.prog bd_scalar_operands_shift_135_L0 6 (fr_scalar_operands_shift_135_L0 x0 x1 ra0 ra1 (s0, false, s2)) (Hs_scalar_operands_shift_135_L0 x0 x1 ra0 ra1 (s0, false, s2)) Ex.normal 5 (fr_scalar_operands_shift_135_L0 x0 x1 ra0 ra1 ((s0 + 1#64), false, rb1)) (Hs_scalar_operands_shift_135_L0 x0 x1 ra0 ra1 ((s0 + 1#64), false, rb1)) 6 :=
  goes_runI [.t (i_lt s0 x0.w) h0, .o, .o, .a 3, .o, .v .u64 (u64_of_i64 (s0)), .cb (ok_tnum_Has (ra1) (s0)) h1, .o, .o, .o, .o, .a 0, .o, .tn (u_le x0.b.umax (x0.w - 1#64)) h2, .o, .o, .o, .o, .a 1, .o, .cr sv (ok_scalar_shiftRight (x1) (s0) f0) eb0, .o, .a 6, .o, .o, .a 4, .a 6, .cr sv (ok_scalar_hull (s2) (rb0)) eb1, .a 6, .a 6, .a 4, .o, .v .i64 (i64_add s0 1#64), .o] [0, 1, 2, 3, 4] (fun b => rfl) (by decide) rfl (fun b => by kernel_rfl)
theorem w2_scalar_operands_shift_135_L0 (x0 : OO) (x1 : S) (ra0 : T) (ra1 : T) (o0 : (BitVec.ult 64#64 x0.w) = false) (s0 : BitVec 64) (s1 : Bool) (s2 : S) (hI : inv_scalar_operands_shift_135_L0 x0 x1 ra0 ra1 (s0, s1, s2)) (f0 : (BitVec.slt s0 0#64) = false) (h0 : (BitVec.slt s0 x0.w) = true) (h1 : (m_tnum_Has ra1 s0) = true) (h2 : (BitVec.ult (x0.w - 1#64) x0.b.umax) = false) (h3 : (BitVec.ult s0 x0.b.umin) = true) : Goes1 Tryz.prog bd_scalar_operands_shift_135_L0 6 (fr_scalar_operands_shift_135_L0 x0 x1 ra0 ra1 (s0, s1, s2)) (Hs_scalar_operands_shift_135_L0 x0 x1 ra0 ra1 (s0, s1, s2)) Ex.normal 5 (fr_scalar_operands_shift_135_L0 x0 x1 ra0 ra1 ((s0 + 1#64), s1, s2)) (Hs_scalar_operands_shift_135_L0 x0 x1 ra0 ra1 ((s0 + 1#64), s1, s2)) 6 :=
  goes_runI [.t (i_lt s0 x0.w) h0, .o, .o, .a 3, .o, .v .u64 (u64_of_i64 (s0)), .cb (ok_tnum_Has (ra1) (s0)) h1, .o, .o, .o, .o, .a 0, .o, .tn (u_le x0.b.umax (x0.w - 1#64)) h2, .o, .o, .v .u64 (u64_of_i64 (s0)), .o, .o, .a 0, .t (u_lt s0 x0.b.umin) h3, .o, .o, .o, .o, .v .i64 (i64_add s0 1#64), .o] [0, 1, 2, 3, 4] (fun b => rfl) (by decide) rfl (fun b => by kernel_rfl)
theorem w3_scalar_operands_shift_135_L0 (x0 : OO) (x1 : S) (ra0 : T) (ra1 : T) (o0 : (BitVec.ult 64#64 x0.w) = false) (s0 : BitVec 64) (s1 : Bool) (s2 : S) (hI : inv_scalar_operands_shift_135_L0 x0 x1 ra0 ra1 (s0, s1, s2)) (f0 : (BitVec.slt s0 0#64) = false) (h0 : (BitVec.slt s0 x0.w) = true) (h1 : (m_tnum_Has ra1 s0) = true) (h2 : (BitVec.ult (x0.w - 1#64) x0.b.umax) = false) (h3 : (BitVec.ult s0 x0.b.umin) = false) (h4 : (BitVec.ult x0.b.umax s0) = true) : Goes1 Tryz.prog bd_scalar_operands_shift_135_L0 6 (fr_scalar_operands_shift_135_L0 x0 x1 ra0 ra1 (s0, s1, s2)) (Hs_scalar_operands_shift_135_L0 x0 x1 ra0 ra1 (s0, s1, s2)) Ex.normal 5 (fr_scalar_operands_shift_135_L0 x0 x1 ra0 ra1 ((s0 + 1#64), s1, s2)) (Hs_scalar_operands_shift_135_L0 x0 x1 ra0 ra1 ((s0 + 1#64), s1, s2)) 6 :=
  goes_runI [.t (i_lt s0 x0.w) h0, .o, .o, .a 3, .o, .v .u64 (u64_of_i64 (s0)), .cb (ok_tnum_Has (ra1) (s0)) h1, .o, .o, .o, .o, .a 0, .o, .tn (u_le x0.b.umax (x0.w - 1#64)) h2, .o, .o, .v .u64 (u64_of_i64 (s0)), .o, .o, .a 0, .t (u_lt s0 x0.b.umin) h3, .o, .o, .v .u64 (u64_of_i64 (s0)), .o, .o, .a 0, .t (u_gt s0 x0.b.umax) h4, .o, .o, .o, .v .i64 (i64_add s0 1#64), .o] [0, 1, 2, 3, 4] (fun b => rfl) (by decide) rfl (fun b => by kernel_rfl)
theorem w4_scalar_operands_shift_135_L0 (x0 : OO) (x1 : S) (ra0 : T) (ra1 : T) (o0 : (BitVec.ult 64#64 x0.w) = false) (s0 : BitVec 64) (s2 : S) (hI : inv_scalar_operands_shift_135_L0 x0 x1 ra0 ra1 (s0, true, s2)) (f0 : (BitVec.slt s0 0#64) = false) (rb0 : S) (eb0 : m_scalar_shiftRight x1 s0 = rb0) (h0 : (BitVec.slt s0 x0.w) = true) (h1 : (m_tnum_Has ra1 s0) = true) (h2 : (BitVec.ult (x0.w - 1#64) x0.b.umax) = false) (h3 : (BitVec.ult s0 x0.b.umin) = false) (h4 : (BitVec.ult x0.b.umax s0) = false) : Goes1 Tryz.prog bd_scalar_operands_shift_135_L0 6 (fr_scalar_operands_shift_135_L0 x0 x1 ra0 ra1 (s0, true, s2)) (Hs_scalar_operands_shift_135_L0 x0 x1 ra0 ra1 (s0, true, s2)) Ex.normal 5 (fr_scalar_operands_shift_135_L0 x0 x1 ra0 ra1 ((s0 + 1#64), false, rb0)) (Hs_scalar_operands_shift_135_L0 x0 x1 ra0 ra1 ((s0 + 1#64), false, rb0)) 6 :=
  goes_runI [.t (i_lt s0 x0.w) h0, .o, .o, .a 3, .o, .v .u64 (u64_of_i64 (s0)), .cb (ok_tnum_Has (ra1) (s0)) h1, .o, .o, .o, .o, .a 0, .o, .tn (u_le x0.b.umax (x0.w - 1#64)) h2, .o, .o, .v .u64 (u64_of_i64 (s0)), .o, .o, .a 0, .t (u_lt s0 x0.b.umin) h3, .o, .o, .v .u64 (u64_of_i64 (s0)), .o, .o, .a 0, .t (u_gt s0 x0.b.umax) h4, .o, .o, .o, .o, .a 1, .o, .cr sv (ok_scalar_shiftRight (x1) (s0) f0) eb0, .o, .a 6, .o, .o, .a 6, .a 4, .o, .v .i64 (i64_add s0 1#64), .o] [0, 1, 2, 3, 4] (fun b => rfl) (by decide) rfl (fun b => by kernel_rfl)
theorem w5_scalar_operands_shift_135_L0 (x0 : OO) (x1 : S) (ra0 : T) (ra1 : T) (o0 : (BitVec.ult 64#64 x0.w) = false) (s0 : BitVec 64) (s2 : S) (hI : inv_scalar_operands_shift_135_L0 x0 x1 ra0 ra1 (s0, false, s2)) (f0 : (BitVec.slt s0 0#64) = false) (rb0 : S) (eb0 : m_scalar_shiftRight x1 s0 = rb0) (rb1 : S) (eb1 : m_scalar_hull s2 rb0 = rb1) (h0 : (BitVec.slt s0 x0.w) = true) (h1 : (m_tnum_Has ra1 s0) = true) (h2 : (BitVec.ult (x0.w - 1#64) x0.b.umax) = false) (h3 : (BitVec.ult s0 x0.b.umin) = false) (h4 : (BitVec.ult x0.b.umax s0) = false) : Goes1 Tryz.prog bd_scalar_operands_shift_135_L0 6 (fr_scalar_operands_shift_135_L0 x0 x1 ra0 ra1 (s0, false, s2)) (Hs_scalar_operands_shift_135_L0 x0 x1 ra0 ra1 (s0, false, s2)) Ex.normal 5 (fr_scalar_operands_shift_135_L0 x0 x1 ra0 ra1 ((s0 + 1#64), false, rb1)) (Hs_scalar_operands_shift_135_L0 x0 x1 ra0 ra1 ((s0 + 1#64), false, rb1)) 6 :=
  goes_runI [.t (i_lt s0 x0.w) h0, .o, .o, .a 3, .o, .v .u64 (u64_of_i64 (s0)), .cb (ok_tnum_Has (ra1) (s0)) h1, .o, .o, .o, .o, .a 0, .o, .tn (u_le x0.b.umax (x0.w - 1#64)) h2, .o, .o, .v .u64 (u64_of_i64 (s0)), .o, .o, .a 0, .t (u_lt s0 x0.b.umin) h3, .o, .o, .v .u64 (u64_of_i64 (s0)), .o, .o, .a 0, .t (u_gt s0 x0.b.umax) h4, .o, .o, .o, .o, .a 1, .o, .cr sv (ok_scalar_shiftRight (x1) (s0) f0) eb0, .o, .a 6, .o, .o, .a 4, .a 6, .cr sv (ok_scalar_hull (s2) (rb0)) eb1, .a 6, .a 6, .a 4, .o, .v .i64 (i64_add s0 1#64), .o] [0, 1, 2, 3, 4] (fun b => rfl) (by decide) rfl (fun b => by kernel_rfl)
theorem w6_scalar_operands_shift_135_L0 (x0 : OO) (x1 : S) (ra0 : T) (ra1 : T) (o0 : (BitVec.ult 64#64 x0.w) = false) (s0 : BitVec 64) (s1 : Bool) (s2 : S) (hI : inv_scalar_operands_shift_135_L0 x0 x1 ra0 ra1 (s0, s1, s2)) (f0 : (BitVec.slt s0 0#64) = false) (h0 : (BitVec.slt s0 x0.w) = true) (h1 : (m_tnum_Has ra1 s0) = false) : Goes1 Tryz.prog bd_scalar_operands_shift_135_L0 6 (fr_scalar_operands_shift_135_L0 x0 x1 ra0 ra1 (s0, s1, s2)) (Hs_scalar_operands_shift_135_L0 x0 x1 ra0 ra1 (s0, s1, s2)) Ex.normal 5 (fr_scalar_operands_shift_135_L0 x0 x1 ra0 ra1 ((s0 + 1#64), s1, s2)) (Hs_scalar_operands_shift_135_L0 x0 x1 ra0 ra1 ((s0 + 1#64), s1, s2)) 6 :=
  goes_runI [.t (i_lt s0 x0.w) h0, .o, .o, .a 3, .o, .v .u64 (u64_of_i64 (s0)), .cb (ok_tnum_Has (ra1) (s0)) h1, .o, .o, .o, .v .i64 (i64_add s0 1#64), .o] [0, 1, 2, 3, 4] (fun b => rfl) (by decide) rfl (fun b => by kernel_rfl)
theorem w7_scalar_operands_shift_135_L0 (x0 : OO) (x1 : S) (ra0 : T) (ra1 : T) (o0 : (BitVec.ult 64#64 x0.w) = false) (s0 : BitVec 64) (s1 : Bool) (s2 : S) (hI : inv_scalar_operands_shift_135_L0 x0 x1 ra0 ra1 (s0, s1, s2)) (f0 : (BitVec.slt s0 0#64) = false) (h0 : (BitVec.slt s0 x0.w) = false) : Goes1 Tryz.prog bd_scalar_operands_shift_135_L0 6 (fr_scalar_operands_shift_135_L0 x0 x1 ra0 ra1 (s0, s1, s2)) (Hs_scalar_operands_shift_135_L0 x0 x1 ra0 ra1 (s0, s1, s2)) (.exit 0) 5 (vf_scalar_operands_shift_135_L0 x0 x1 ra0 ra1 ((s2, s1)) (s1)) (Hf_scalar_operands_shift_135_L0 x0 x1 ra0 ra1 ((s2, s1)) (s1)) 6 :=
  goes_runI [.t (i_lt s0 x0.w) h0] [0, 1, 2, 3, 4] (fun b => rfl) (by decide) rfl (fun b => by kernel_rfl)
theorem dec_scalar_operands_shift_135_L0 (x0 : OO) (x1 : S) (ra0 : T) (ra1 : T) (o0 : (BitVec.ult 64#64 x0.w) = false) : Falls (st_scalar_operands_shift_135_L0 x0 x1 ra0 ra1) (mu_scalar_operands_shift_135_L0 x0 x1 ra0 ra1) (inv_scalar_operands_shift_135_L0 x0 x1 ra0 ra1) := ⟨by
  rintro ⟨s0, s1, s2⟩ s' hI e
  simp only [st_scalar_operands_shift_135_L0, Bool.cond_eq_ite] at e
  repeat' (split at e)
  all_goals first
    | (cases e; done)
    | (simp only [Sum.inl.injEq] at e; subst e; simp only [inv_scalar_operands_shift_135_L0, mu_scalar_operands_shift_135_L0] at hI ⊢; have := up2 (s := s0) hI (by assumption); omega)⟩
theorem go_scalar_operands_shift_135_L0 (x0 : OO) (x1 : S) (ra0 : T) (ra1 : T) (o0 : (BitVec.ult 64#64 x0.w) = false) : ∀ s, inv_scalar_operands_shift_135_L0 x0 x1 ra0 ra1 s → Goes1 Tryz.prog (.loop bd_scalar_operands_shift_135_L0) 6 (fr_scalar_operands_shift_135_L0 x0 x1 ra0 ra1 s) (Hs_scalar_operands_shift_135_L0 x0 x1 ra0 ra1 s) (ex_scalar_operands_shift_135_L0 (lp_scalar_operands_shift_135_L0 x0 x1 ra0 ra1 s)) 5 (vf_scalar_operands_shift_135_L0 x0 x1 ra0 ra1 (lp_scalar_operands_shift_135_L0 x0 x1 ra0 ra1 s) (((lp_scalar_operands_shift_135_L0 x0 x1 ra0 ra1 s)).2)) (Hf_scalar_operands_shift_135_L0 x0 x1 ra0 ra1 (lp_scalar_operands_shift_135_L0 x0 x1 ra0 ra1 s) (((lp_scalar_operands_shift_135_L0 x0 x1 ra0 ra1 s)).2)) 6 :=
  goes_lp (ex := ex_scalar_operands_shift_135_L0) (vf := fun r => vf_scalar_operands_shift_135_L0 x0 x1 ra0 ra1 r (r.2)) (Hf := fun r => Hf_scalar_operands_shift_135_L0 x0 x1 ra0 ra1 r (r.2)) _ (dec_scalar_operands_shift_135_L0 x0 x1 ra0 ra1 o0) fun s hI => by
  obtain ⟨s0, s1, s2⟩ := s
  unfold st_scalar_operands_shift_135_L0
  dsimp only
  cases h0 : (BitVec.slt s0 x0.w)
  · exact ⟨ne_exit 0, w7_scalar_operands_shift_135_L0 x0 x1 ra0 ra1 o0 s0 s1 s2 hI (slt0_ge hI) h0⟩
  · cases h1 : (m_tnum_Has ra1 s0)
    · exact w6_scalar_operands_shift_135_L0 x0 x1 ra0 ra1 o0 s0 s1 s2 hI (slt0_ge hI) h0 h1
    · cases h2 : (BitVec.ult (x0.w - 1#64) x0.b.umax)
      · cases h3 : (BitVec.ult s0 x0.b.umin)
        · cases h4 : (BitVec.ult x0.b.umax s0)
          · generalize eb0 : m_scalar_shiftRight x1 s0 = rb0
            cases s1
            · generalize eb1 : m_scalar_hull s2 rb0 = rb1
              exact w5_scalar_operands_shift_135_L0 x0 x1 ra0 ra1 o0 s0 s2 hI (slt0_ge hI) rb0 eb0 rb1 eb1 h0 h1 h2 h3 h4
            · exact w4_scalar_operands_shift_135_L0 x0 x1 ra0 ra1 o0 s0 s2 hI (slt0_ge hI) rb0 eb0 h0 h1 h2 h3 h4
          · exact w3_scalar_operands_shift_135_L0 x0 x1 ra0 ra1 o0 s0 s1 s2 hI (slt0_ge hI) h0 h1 h2 h3 h4
        · exact w2_scalar_operands_shift_135_L0 x0 x1 ra0 ra1 o0 s0 s1 s2 hI (slt0_ge hI) h0 h1 h2 h3
      · generalize eb0 : m_scalar_shiftRight x1 s0 = rb0
        cases s1
        · generalize eb1 : m_scalar_hull s2 rb0 = rb1
          exact w1_scalar_operands_shift_135_L0 x0 x1 ra0 ra1 o0 s0 s2 hI (slt0_ge hI) rb0 eb0 rb1 eb1 h0 h1 h2
        · exact w0_scalar_operands_shift_135_L0 x0 x1 ra0 ra1 o0 s0 s2 hI (slt0_ge hI) rb0 eb0 h0 h1 h2
def t0_scalar_operands_shift_135_L0 (x0 : OO) (x1 : S) (ra0 : T) (ra1 : T) (s : (BitVec 64) × (Bool) × (S)) : List L1 → List Value
  | [l0, l1, l2, l3, l4] => [ov (x0), sv (x1), .func (.func 135) #[] #[], (ptrTo l0.n), (ptrTo l1.n), undef, (ptrTo l2.n), .int .u64 (nn ((x0.w - 1#64))), (ptrTo l3.n), (ptrTo l4.n), (.bool (s.2.1)), undef, undef, .pointer (some ⟨l0.n, 12, none⟩), .int .i64 (ii (x0.w)), .int .i64 (ii ((x0.w - 1#64))), .int .u64 (nn ((x0.w - 1#64))), .pointer (some ⟨l0.n, 6, none⟩), .pointer (some ⟨l0.n, 6, none⟩), .agg #[.int .u64 (nn (x0.b.t.v)), .int .u64 (nn (x0.b.t.m))], .int .u64 (nn ((x0.w - 1#64))), tv (ra0), tv (ra1), .pointer (some ⟨l0.n, 12, none⟩), .int .i64 (ii (x0.w)), (.int .i64 (ii (s.1))), undef, undef, undef, undef, undef, undef, undef, undef, undef, undef, undef, undef, undef, undef, undef, undef, undef, undef, undef, undef, undef, undef, undef, undef, undef, undef, undef, undef, undef, undef, undef, undef, undef, undef, undef, undef, undef, undef, undef, undef, undef, undef, undef, undef, undef]
  | _ => []
def pre_scalar_operands_shift_135_L0 (x0 : OO) (x1 : S) (ra0 : T) (ra1 : T) (s : (BitVec 64) × (Bool) × (S)) : List Obj := [.cells #[.int .u64 (nn (x0.a.t.v)), .int .u64 (nn (x0.a.t.m)), .int .u64 (nn (x0.a.umin)), .int .u64 (nn (x0.a.umax)), .int .i64 (ii (x0.a.smin)), .int .i64 (ii (x0.a.smax)), .int .u64 (nn (x0.b.t.v)), .int .u64 (nn (x0.b.t.m)), .int .u64 (nn (x0.b.umin)), .int .u64 (nn (x0.b.umax)), .int .i64 (ii (x0.b.smin)), .int .i64 (ii (x0.b.smax)), .int .i64 (ii (x0.w))] 76, .cells #[.int .u64 (nn (x1.t.v)), .int .u64 (nn (x1.t.m)), .int .u64 (nn (x1.umin)), .int .u64 (nn (x1.umax)), .int .i64 (ii (x1.smin)), .int .i64 (ii (x1.smax))] 27, .cells #[.int .u64 ((0)), .int .u64 ((0)), .int .u64 ((0)), .int .u64 ((0)), .int .i64 ((0)), .int .i64 ((0))] 27, .cells #[.int .u64 (nn (ra1.v)), .int .u64 (nn (ra1.m))] 25, .cells #[.int .u64 (nn (s.2.2.t.v)), .int .u64 (nn (s.2.2.t.m)), .int .u64 (nn (s.2.2.umin)), .int .u64 (nn (s.2.2.umax)), .int .i64 (ii (s.2.2.smin)), .int .i64 (ii (s.2.2.smax))] 27]
noncomputable def sp_scalar_operands_shift_135_L0_0 (x0 : OO) (x1 : S) (ra0 : T) (ra1 : T) (s : (BitVec 64) × (Bool) × (S)) (b1 : Bool) : Spc := ⟨fun ls => .code (.loop bd_scalar_operands_shift_135_L0) (t0_scalar_operands_shift_135_L0 x0 x1 ra0 ra1 s ls), fun _ => pre_scalar_operands_shift_135_L0 x0 x1 ra0 ra1 s, 1, (.exit 0), fun ls => vf0_scalar_operands_shift_135_L0 x0 x1 ra0 ra1 (lp_scalar_operands_shift_135_L0 x0 x1 ra0 ra1 s) b1 (ls.take 5 ++ ls.drop 5), fun ls => (Hf_scalar_operands_shift_135_L0 x0 x1 ra0 ra1 (lp_scalar_operands_shift_135_L0 x0 x1 ra0 ra1 s) b1 (ls.take 5 ++ ls.drop 5)).take 5 ++ List.replicate 0 unb, fun ls => (Hf_scalar_operands_shift_135_L0 x0 x1 ra0 ra1 (lp_scalar_operands_shift_135_L0 x0 x1 ra0 ra1 s) b1 (ls.take 5 ++ ls.drop 5)).drop 5⟩
theorem sp_scalar_operands_shift_135_L0_0_ok (x0 : OO) (x1 : S) (ra0 : T) (ra1 : T) (s : (BitVec 64) × (Bool) × (S)) (b1 : Bool) (o0 : (BitVec.ult 64#64 x0.w) = false) (hI : inv_scalar_operands_shift_135_L0 x0 x1 ra0 ra1 s) (hb1 : (((lp_scalar_operands_shift_135_L0 x0 x1 ra0 ra1 s)).2) = b1) : SpcOk Tryz.prog (fun _ => True) (sp_scalar_operands_shift_135_L0_0 x0 x1 ra0 ra1 s b1) := by
  subst hb1
  have h := go_scalar_operands_shift_135_L0 x0 x1 ra0 ra1 o0 s hI
  exact spc_of_goes (k0 := 5) h (t0_scalar_operands_shift_135_L0 x0 x1 ra0 ra1 s) (fun _ => pre_scalar_operands_shift_135_L0 x0 x1 ra0 ra1 s) (fun _ => rfl) (fun ls h => by match ls, h with | [l0, l1, l2, l3, l4], _ => rfl) (fun ls h => rfl) (by decide) (by decide) (fun ls => rfl)
-- (barbican/scalar.operands).shift
def m_scalar_operands_shift_135 (x0 : OO) (x1 : S) : S :=
  (bif ((lp_scalar_operands_shift_135_L0 x0 x1 (m_tnum_Const (x0.w - 1#64)) (m_tnum_And x0.b.t (m_tnum_Const (x0.w - 1#64))) ((0#64, true, zS)))).2 then
    ((m_scalar_Unknown ))
    else ((m_scalar_settle (((lp_scalar_operands_shift_135_L0 x0 x1 (m_tnum_Const (x0.w - 1#64)) (m_tnum_And x0.b.t (m_tnum_Const (x0.w - 1#64))) ((0#64, true, zS)))).1))))
theorem p0_scalar_operands_shift_135 (x0 : OO) (x1 : S) (ra0 : T) (ea0 : m_tnum_Const (x0.w - 1#64) = ra0) (ra1 : T) (ea1 : m_tnum_And x0.b.t ra0 = ra1) (ra2 : S) (ea2 : m_scalar_Unknown  = ra2) (g0 : (BitVec.ult 64#64 x0.w) = false) (h0 : (((lp_scalar_operands_shift_135_L0 x0 x1 ra0 ra1 ((0#64, true, zS)))).2) = true) : Con Tryz.prog 133 #[(ov (x0)), (sv (x1)), .func (.func 135) #[] #[]] (sv (ra2)) :=
  fn_conI (P := Tryz.prog) Tryz.func133 (fun xs w => by kernel_rfl) _ _
    [.o, .o, .o, .o, .a 0, .v .i64 (i64_sub x0.w 1#64), .v .u64 (u64_of_i64 ((x0.w - 1#64))), .o, .r [0, 1, 2, 3, 4, 5] [6] [7], .o, .o, .a 0, .o, .cr tv (ok_tnum_Const ((x0.w - 1#64))) ea0, .cr tv (ok_tnum_And (x0.b.t) (ra0)) ea1, .a 3, .o, .o, .o, .a 0, .o, .cp, .cx (sp_scalar_operands_shift_135_L0_0_ok x0 x1 ra0 ra1 ((0#64, true, zS)) true g0 (show (0 : Int) ≤ (0#64).toInt from by decide)  h0) [0, 1, 2, 3, 4], .o, .cr sv (ok_scalar_Unknown ) ea2, .a 2]
    [2, 2, 2, 2, 2, 2] (fun b => by kernel_rfl)
theorem p1_scalar_operands_shift_135 (x0 : OO) (x1 : S) (ra0 : T) (ea0 : m_tnum_Const (x0.w - 1#64) = ra0) (ra1 : T) (ea1 : m_tnum_And x0.b.t ra0 = ra1) (ra2 : S) (ea2 : m_scalar_settle (((lp_scalar_operands_shift_135_L0 x0 x1 ra0 ra1 ((0#64, true, zS)))).1) = ra2) (g0 : (BitVec.ult 64#64 x0.w) = false) (h0 : (((lp_scalar_operands_shift_135_L0 x0 x1 ra0 ra1 ((0#64, true, zS)))).2) = false) : Con Tryz.prog 133 #[(ov (x0)), (sv (x1)), .func (.func 135) #[] #[]] (sv (ra2)) :=
  fn_conI (P := Tryz.prog) Tryz.func133 (fun xs w => by kernel_rfl) _ _
    [.o, .o, .o, .o, .a 0, .v .i64 (i64_sub x0.w 1#64), .v .u64 (u64_of_i64 ((x0.w - 1#64))), .o, .r [0, 1, 2, 3, 4, 5] [6] [7], .o, .o, .a 0, .o, .cr tv (ok_tnum_Const ((x0.w - 1#64))) ea0, .cr tv (ok_tnum_And (x0.b.t) (ra0)) ea1, .a 3, .o, .o, .o, .a 0, .o, .cp, .cx (sp_scalar_operands_shift_135_L0_0_ok x0 x1 ra0 ra1 ((0#64, true, zS)) false g0 (show (0 : Int) ≤ (0#64).toInt from by decide)  h0) [0, 1, 2, 3, 4], .o, .a 4, .cr sv (ok_scalar_settle (((lp_scalar_operands_shift_135_L0 x0 x1 ra0 ra1 ((0#64, true, zS)))).1)) ea2, .a 2]
    [2, 2, 2, 2, 2, 2] (fun b => by kernel_rfl)
theorem ok_scalar_operands_shift_135 (x0 : OO) (x1 : S) (g0 : (BitVec.ult 64#64 x0.w) = false) : Con Tryz.prog 133 #[(ov (x0)), (sv (x1)), .func (.func 135) #[] #[]] (sv (m_scalar_operands_shift_135 x0 x1)) := by
  unfold m_scalar_operands_shift_135
  refine Con.cond sv _ _ _ (fun h0 => ?_) (fun h0 => ?_)
  · exact p0_scalar_operands_shift_135 x0 x1 _ rfl _ rfl _ rfl g0 h0
  · exact p1_scalar_operands_shift_135 x0 x1 _ rfl _ rfl _ rfl g0 h0
-- (barbican/scalar.operands).rsh
def m_scalar_operands_rsh (x0 : OO) : S :=
  ((m_scalar_operands_shift_135 x0 x0.a))
theorem p0_scalar_operands_rsh (x0 : OO) (ra0 : S) (ea0 : m_scalar_operands_shift_135 x0 x0.a = ra0) (g0 : (BitVec.ult 64#64 x0.w) = false) : Con Tryz.prog 88 #[(ov (x0))] (sv (ra0)) :=
  fn_conI (P := Tryz.prog) Tryz.func88 (fun xs w => by kernel_rfl) _ _
    [.o, .o, .a 0, .o, .a 0, .cr sv (ok_scalar_operands_shift_135 (x0) (x0.a) g0) ea0, .a 1]
    [1, 1, 1, 1, 1, 1] (fun b => by kernel_rfl)
theorem ok_scalar_operands_rsh (x0 : OO) (g0 : (BitVec.ult 64#64 x0.w) = false) : Con Tryz.prog 88 #[(ov (x0))] (sv (m_scalar_operands_rsh x0)) := by
  unfold m_scalar_operands_rsh
  exact p0_scalar_operands_rsh x0 _ rfl g0
-- barbican/scalar.shiftSigned
def m_scalar_shiftSigned (x0 : S) (x1 : BitVec 64) : S :=
  ((⟨(m_scalar_ofBits (m_tnum_Arsh x0.t x1 true)).t, (m_scalar_ofBits (m_tnum_Arsh x0.t x1 true)).umin, (m_scalar_ofBits (m_tnum_Arsh x0.t x1 true)).umax, (x0.smin.sshiftRight (x1).toNat), (x0.smax.sshiftRight (x1).toNat)⟩ : S))
theorem p0_scalar_shiftSigned (x0 : S) (x1 : BitVec 64) (ra0 : T) (ea0 : m_tnum_Arsh x0.t x1 true = ra0) (ra1 : S) (ea1 : m_scalar_ofBits ra0 = ra1) (g0 : (BitVec.slt x1 0#64) = false) (g1 : (BitVec.slt x1 64#64) = true) : Con Tryz.prog 137 #[(sv (x0)), (.int .i64 (ii (x1)))] (sv ((⟨ra1.t, ra1.umin, ra1.umax, (x0.smin.sshiftRight (x1).toNat), (x0.smax.sshiftRight (x1).toNat)⟩ : S))) :=
  fn_conI (P := Tryz.prog) Tryz.func137 (fun xs w => by kernel_rfl) _ _
    [.o, .o, .o, .a 0, .o, .cr tv (ok_tnum_Arsh (x0.t) (x1) (true)) ea0, .cr sv (ok_scalar_ofBits (ra0)) ea1, .o, .a 2, .r [0, 1, 2, 3, 4, 5, 6, 7, 8] [] [9, 10, 11], .o, .a 0, .o, .ov (i64_shr Tryz.prog 2 (.tmp 12) (.tmp 13) (x0.smin) (x1).toNat .i64 (lt_small g0 g1) (ii_pos g0)), .o, .a 0, .o, .ov (i64_shr Tryz.prog 2 (.tmp 16) (.tmp 17) (x0.smax) (x1).toNat .i64 (lt_small g0 g1) (ii_pos g0)), .o, .a 2, .o, .a 2, .a 2, .a 1]
    [1, 1, 1, 1, 1, 1] (fun b => by kernel_rfl)
theorem ok_scalar_shiftSigned (x0 : S) (x1 : BitVec 64) (g0 : (BitVec.slt x1 0#64) = false) (g1 : (BitVec.slt x1 64#64) = true) : Con Tryz.prog 137 #[(sv (x0)), (.int .i64 (ii (x1)))] (sv (m_scalar_shiftSigned x0 x1)) := by
  unfold m_scalar_shiftSigned
  exact p0_scalar_shiftSigned x0 x1 _ rfl _ rfl g0 g1
-- loop 0 of (barbican/scalar.operands).shift: state t25 t10 b4, out b4 t10
def st_scalar_operands_shift_137_L0 (x0 : OO) (x1 : S) (ra0 : T) (ra1 : T) : (BitVec 64) × (Bool) × (S) → ((BitVec 64) × (Bool) × (S)) ⊕ ((S) × (Bool))
  | (s0, s1, s2) =>
    (bif BitVec.slt s0 x0.w then
      (bif m_tnum_Has ra1 s0 then
        (bif BitVec.ult (x0.w - 1#64) x0.b.umax then
          (bif s1 then
            (.inl ((s0 + 1#64), false, (m_scalar_shiftSigned x1 s0)))
            else (.inl ((s0 + 1#64), false, (m_scalar_hull s2 (m_scalar_shiftSigned x1 s0)))))
          else (bif BitVec.ult s0 x0.b.umin then
            (.inl ((s0 + 1#64), s1, s2))
            else (bif BitVec.ult x0.b.umax s0 then
              (.inl ((s0 + 1#64), s1, s2))
              else (bif s1 then
                (.inl ((s0 + 1#64), false, (m_scalar_shiftSigned x1 s0)))
                else (.inl ((s0 + 1#64), false, (m_scalar_hull s2 (m_scalar_shiftSigned x1 s0))))))))
        else (.inl ((s0 + 1#64), s1, s2)))
      else (.inr ((s2, s1))))
def mu_scalar_operands_shift_137_L0 (x0 : OO) (x1 : S) (ra0 : T) (ra1 : T) : (BitVec 64) × (Bool) × (S) → Nat
  | (s0, s1, s2) => (x0.w.toInt - s0.toInt).toNat
def inv_scalar_operands_shift_137_L0 (x0 : OO) (x1 : S) (ra0 : T) (ra1 : T) : (BitVec 64) × (Bool) × (S) → Prop
  | (s0, s1, s2) => (0 : Int) ≤ s0.toInt
def lp_scalar_operands_shift_137_L0 (x0 : OO) (x1 : S) (ra0 : T) (ra1 : T) (s : (BitVec 64) × (Bool) × (S)) : (S) × (Bool) := lp (st_scalar_operands_shift_137_L0 x0 x1 ra0 ra1) (((⟨(⟨0#64, 0#64⟩ : T), 0#64, 0#64, 0#64, 0#64⟩ : S), false)) (mu_scalar_operands_shift_137_L0 x0 x1 ra0 ra1) s
noncomputable def bd_scalar_operands_shift_137_L0 : Code := codeOf Tryz.f133 [1, 1, 1, 1, 1, 0, 1, 0, 0]
def fr_scalar_operands_shift_137_L0 (x0 : OO) (x1 : S) (ra0 : T) (ra1 : T) : (BitVec 64) × (Bool) × (S) → List L1 → List Value
  | (s0, s1, s2), [l0, l1, l2, l3, l4, l5] => [ov (x0), sv (x1), .func (.func 137) #[] #[], (ptrTo l0.n), (ptrTo l1.n), undef, (ptrTo l2.n), .int .u64 (nn ((x0.w - 1#64))), (ptrTo l3.n), (ptrTo l4.n), .bool (s1), (l5.u 11), (l5.u 12), .pointer (some ⟨l0.n, 12, none⟩), .int .i64 (ii (x0.w)), .int .i64 (ii ((x0.w - 1#64))), .int .u64 (nn ((x0.w - 1#64))), .pointer (some ⟨l0.n, 6, none⟩), .pointer (some ⟨l0.n, 6, none⟩), .agg #[.int .u64 (nn (x0.b.t.v)), .int .u64 (nn (x0.b.t.m))], .int .u64 (nn ((x0.w - 1#64))), tv (ra0), tv (ra1), .pointer (some ⟨l0.n, 12, none⟩), .int .i64 (ii (x0.w)), .int .i64 (ii (s0)), (l5.u 26), (l5.u 27), (l5.u 28), (l5.u 29), (l5.u 30), (l5.u 31), (l5.u 32), (l5.u 33), (l5.u 34), (l5.u 35), (l5.u 36), (l5.u 37), (l5.u 38), (l5.u 39), (l5.u 40), (l5.u 41), (l5.u 42), (l5.u 43), (l5.u 44), (l5.u 45), (l5.u 46), (l5.u 47), (l5.u 48), (l5.u 49), (l5.u 50), (l5.u 51), (l5.u 52), (l5.u 53), (l5.u 54), (l5.u 55), (l5.u 56), (l5.u 57), (l5.u 58), (l5.u 59), (l5.u 60), (l5.u 61), (l5.u 62), (l5.u 63), (l5.u 64), (l5.u 65), (l5.u 66), undef, undef, undef, undef]
  | _, _ => []
def Hs_scalar_operands_shift_137_L0 (x0 : OO) (x1 : S) (ra0 : T) (ra1 : T) : (BitVec 64) × (Bool) × (S) → List L1 → List Obj
  | (s0, s1, s2), _ => [.cells #[.int .u64 (nn (x0.a.t.v)), .int .u64 (nn (x0.a.t.m)), .int .u64 (nn (x0.a.umin)), .int .u64 (nn (x0.a.umax)), .int .i64 (ii (x0.a.smin)), .int .i64 (ii (x0.a.smax)), .int .u64 (nn (x0.b.t.v)), .int .u64 (nn (x0.b.t.m)), .int .u64 (nn (x0.b.umin)), .int .u64 (nn (x0.b.umax)), .int .i64 (ii (x0.b.smin)), .int .i64 (ii (x0.b.smax)), .int .i64 (ii (x0.w))] 76, .cells #[.int .u64 (nn (x1.t.v)), .int .u64 (nn (x1.t.m)), .int .u64 (nn (x1.umin)), .int .u64 (nn (x1.umax)), .int .i64 (ii (x1.smin)), .int .i64 (ii (x1.smax))] 27, .cells #[.int .u64 ((0)), .int .u64 ((0)), .int .u64 ((0)), .int .u64 ((0)), .int .i64 ((0)), .int .i64 ((0))] 27, .cells #[.int .u64 (nn (ra1.v)), .int .u64 (nn (ra1.m))] 25, .cells #[.int .u64 (nn (s2.t.v)), .int .u64 (nn (s2.t.m)), .int .u64 (nn (s2.umin)), .int .u64 (nn (s2.umax)), .int .i64 (ii (s2.smin)), .int .i64 (ii (s2.smax))] 27, unb]
def vf0_scalar_operands_shift_137_L0 (x0 : OO) (x1 : S) (ra0 : T) (ra1 : T) (r : (S) × (Bool)) (b1 : Bool) : List L1 → List Value
  | [l0, l1, l2, l3, l4, l5] => [ov (x0), sv (x1), .func (.func 137) #[] #[], (ptrTo l0.n), (ptrTo l1.n), undef, (ptrTo l2.n), .int .u64 (nn ((x0.w - 1#64))), (ptrTo l3.n), (ptrTo l4.n), .bool (b1), (l5.u 11), (l5.u 12), .pointer (some ⟨l0.n, 12, none⟩), .int .i64 (ii (x0.w)), .int .i64 (ii ((x0.w - 1#64))), .int .u64 (nn ((x0.w - 1#64))), .pointer (some ⟨l0.n, 6, none⟩), .pointer (some ⟨l0.n, 6, none⟩), .agg #[.int .u64 (nn (x0.b.t.v)), .int .u64 (nn (x0.b.t.m))], .int .u64 (nn ((x0.w - 1#64))), tv (ra0), tv (ra1), .pointer (some ⟨l0.n, 12, none⟩), .int .i64 (ii (x0.w)), (l5.u 25), (l5.u 26), (l5.u 27), (l5.u 28), (l5.u 29), (l5.u 30), (l5.u 31), (l5.u 32), (l5.u 33), (l5.u 34), (l5.u 35), (l5.u 36), (l5.u 37), (l5.u 38), (l5.u 39), (l5.u 40), (l5.u 41), (l5.u 42), (l5.u 43), (l5.u 44), (l5.u 45), (l5.u 46), (l5.u 47), (l5.u 48), (l5.u 49), (l5.u 50), (l5.u 51), (l5.u 52), (l5.u 53), (l5.u 54), (l5.u 55), (l5.u 56), (l5.u 57), (l5.u 58), (l5.u 59), (l5.u 60), (l5.u 61), (l5.u 62), (l5.u 63), (l5.u 64), (l5.u 65), (l5.u 66), undef, undef, undef, undef]
  | _ => []
def Hf_scalar_operands_shift_137_L0 (x0 : OO) (x1 : S) (ra0 : T) (ra1 : T) (r : (S) × (Bool)) (b1 : Bool) (_ : List L1) : List Obj := [.cells #[.int .u64 (nn (x0.a.t.v)), .int .u64 (nn (x0.a.t.m)), .int .u64 (nn (x0.a.umin)), .int .u64 (nn (x0.a.umax)), .int .i64 (ii (x0.a.smin)), .int .i64 (ii (x0.a.smax)), .int .u64 (nn (x0.b.t.v)), .int .u64 (nn (x0.b.t.m)), .int .u64 (nn (x0.b.umin)), .int .u64 (nn (x0.b.umax)), .int .i64 (ii (x0.b.smin)), .int .i64 (ii (x0.b.smax)), .int .i64 (ii (x0.w))] 76, .cells #[.int .u64 (nn (x1.t.v)), .int .u64 (nn (x1.t.m)), .int .u64 (nn (x1.umin)), .int .u64 (nn (x1.umax)), .int .i64 (ii (x1.smin)), .int .i64 (ii (x1.smax))] 27, .cells #[.int .u64 ((0)), .int .u64 ((0)), .int .u64 ((0)), .int .u64 ((0)), .int .i64 ((0)), .int .i64 ((0))] 27, .cells #[.int .u64 (nn (ra1.v)), .int .u64 (nn (ra1.m))] 25, .cells #[.int .u64 (nn ((r.1).t.v)), .int .u64 (nn ((r.1).t.m)), .int .u64 (nn ((r.1).umin)), .int .u64 (nn ((r.1).umax)), .int .i64 (ii ((r.1).smin)), .int .i64 (ii ((r.1).smax))] 27, unb]
def vf_scalar_operands_shift_137_L0 (x0 : OO) (x1 : S) (ra0 : T) (ra1 : T) (r : (S) × (Bool)) (b1 : Bool) : List L1 → List Value := vf0_scalar_operands_shift_137_L0 x0 x1 ra0 ra1 r b1
def ex_scalar_operands_shift_137_L0 (r : (S) × (Bool)) : Ex := (.exit 0)
theorem w0_scalar_operands_shift_137_L0 (x0 : OO) (x1 : S) (ra0 : T) (ra1 : T) (o0 : (BitVec.ult 64#64 x0.w) = false) (s0 : BitVec 64) (s2 : S) (hI : inv_scalar_operands_shift_137_L0 x0 x1 ra0 ra1 (s0, true, s2)) (f0 : (BitVec.slt s0 0#64) = false) (rb0 : S) (eb0 : m_scalar_shiftSigned x1 s0 = rb0) (h0 : (BitVec.slt s0 x0.w) = true) (h1 : (m_tnum_Has ra1 s0) = true) (h2 : (BitVec.ult (x0.w - 1#64) x0.b.umax) = true) : Goes1 Tryz.prog bd_scalar_operands_shift_137_L0 6 (fr_scalar_operands_shift_137_L0 x0 x1 ra0 ra1 (s0, true, s2)) (Hs_scalar_operands_shift_137_L0 x0 x1 ra0 ra1 (s0, true, s2)) Ex.normal 5 (fr_scalar_operands_shift_137_L0 x0 x1 ra0 ra1 ((s0 + 1#64), false, rb0)) (Hs_scalar_operands_shift_137_L0 x0 x1 ra0 ra1 ((s0 + 1#64), false, rb0)) 6 :=
  goes_runI [.t (i_lt s0 x0.w) h0, .o, .o, .a 3, .o, .v .u64 (u64_of_i64 (s0)), .cb (ok_tnum_Has (ra1) (s0)) h1, .o, .o, .o, .o, .a 0, .o, .tn (u_le x0.b.umax (x0.w - 1#64)) h2, .o, .o, .o, .o, .a 1, .o, .cr sv (ok_scalar_shiftSigned (x1) (s0) f0 (lt64 f0 h0 o0)) eb0, .o, .a 6, .o, .o, .a 6, .a 4, .o, .v .i64 (i64_add s0 1#64), .o] [0, 1, 2, 3, 4] (fun b => rfl) (by decide) rfl (fun b => by kernel_rfl)
theorem w1_scalar_operands_shift_137_L0 (x0 : OO) (x1 : S) (ra0 : T) (ra1 : T) (o0 : (BitVec.ult 64#64 x0.w) = false) (s0 : BitVec 64) (s2 : S) (hI : inv_scalar_operands_shift_137_L0 x0 x1 ra0 ra1 (s0, false, s2)) (f0 : (BitVec.slt s0 0#64) = false) (rb0 : S) (eb0 : m_scalar_shiftSigned x1 s0 = rb0) (rb1 : S) (eb1 : m_scalar_hull s2 rb0 = rb1) (h0 : (BitVec.slt s0 x0.w) = true) (h1 : (m_tnum_Has ra1 s0) = true) (h2 : (BitVec.ult (x0.w - 1#64) x0.b.umax) = true) : Goes1 Tryz.prog bd_scalar_operands_shift_137_L0 6 (fr_scalar_operands_shift_137_L0 x0 x1 ra0 ra1 (s0, false, s2)) (Hs_scalar_operands_shift_137_L0 x0 x1 ra0 ra1 (s0, false, s2)) Ex.normal 5 (fr_scalar_operands_shift_137_L0 x0 x1 ra0 ra1 ((s0 + 1#64), false, rb1)) (Hs_scalar_operands_shift_137_L0 x0 x1 ra0 ra1 ((s0 + 1#64), false, rb1)) 6 :=
  goes_runI [.t (i_lt s0 x0.w) h0, .o, .o, .a 3, .o, .v .u64 (u64_of_i64 (s0)), .cb (ok_tnum_Has (ra1) (s0)) h1, .o, .o, .o, .o, .a 0, .o, .tn (u_le x0.b.umax (x0.w - 1#64)) h2, .o, .o, .o, .o, .a 1, .o, .cr sv (ok_scalar_shiftSigned (x1) (s0) f0 (lt64 f0 h0 o0)) eb0, .o, .a 6, .o, .o, .a 4, .a 6, .cr sv (ok_scalar_hull (s2) (rb0)) eb1, .a 6, .a 6, .a 4, .o, .v .i64 (i64_add s0 1#64), .o] [0, 1, 2, 3, 4] (fun b => rfl) (by decide) rfl (fun b => by kernel_rfl)
theorem w2_scalar_operands_shift_137_L0 (x0 : OO) (x1 : S) (ra0 : T) (ra1 : T) (o0 : (BitVec.ult 64#64 x0.w) = false) (s0 : BitVec 64) (s1 : Bool) (s2 : S) (hI : inv_scalar_operands_shift_137_L0 x0 x1 ra0 ra1 (s0, s1, s2)) (f0 : (BitVec.slt s0 0#64) = false) (h0 : (BitVec.slt s0 x0.w) = true) (h1 : (m_tnum_Has ra1 s0) = true) (h2 : (BitVec.ult (x0.w - 1#64) x0.b.umax) = false) (h3 : (BitVec.ult s0 x0.b.umin) = true) : Goes1 Tryz.prog bd_scalar_operands_shift_137_L0 6 (fr_scalar_operands_shift_137_L0 x0 x1 ra0 ra1 (s0, s1, s2)) (Hs_scalar_operands_shift_137_L0 x0 x1 ra0 ra1 (s0, s1, s2)) Ex.normal 5 (fr_scalar_operands_shift_137_L0 x0 x1 ra0 ra1 ((s0 + 1#64), s1, s2)) (Hs_scalar_operands_shift_137_L0 x0 x1 ra0 ra1 ((s0 + 1#64), s1, s2)) 6 :=
  goes_runI [.t (i_lt s0 x0.w) h0, .o, .o, .a 3, .o, .v .u64 (u64_of_i64 (s0)), .cb (ok_tnum_Has (ra1) (s0)) h1, .o, .o, .o, .o, .a 0, .o, .tn (u_le x0.b.umax (x0.w - 1#64)) h2, .o, .o, .v .u64 (u64_of_i64 (s0)), .o, .o, .a 0, .t (u_lt s0 x0.b.umin) h3, .o, .o, .o, .o, .v .i64 (i64_add s0 1#64), .o] [0, 1, 2, 3, 4] (fun b => rfl) (by decide) rfl (fun b => by kernel_rfl)
theorem w3_scalar_operands_shift_137_L0 (x0 : OO) (x1 : S) (ra0 : T) (ra1 : T) (o0 : (BitVec.ult 64#64 x0.w) = false) (s0 : BitVec 64) (s1 : Bool) (s2 : S) (hI : inv_scalar_operands_shift_137_L0 x0 x1 ra0 ra1 (s0, s1, s2)) (f0 : (BitVec.slt s0 0#64) = false) (h0 : (BitVec.slt s0 x0.w) = true) (h1 : (m_tnum_Has ra1 s0) = true) (h2 : (BitVec.ult (x0.w - 1#64) x0.b.umax) = false) (h3 : (BitVec.ult s0 x0.b.umin) = false) (h4 : (BitVec.ult x0.b.umax s0) = true) : Goes1 Tryz.prog bd_scalar_operands_shift_137_L0 6 (fr_scalar_operands_shift_137_L0 x0 x1 ra0 ra1 (s0, s1, s2)) (Hs_scalar_operands_shift_137_L0 x0 x1 ra0 ra1 (s0, s1, s2)) Ex.normal 5 (fr_scalar_operands_shift_137_L0 x0 x1 ra0 ra1 ((s0 + 1#64), s1, s2)) (Hs_scalar_operands_shift_137_L0 x0 x1 ra0 ra1 ((s0 + 1#64), s1, s2)) 6 :=
  goes_runI [.t (i_lt s0 x0.w) h0, .o, .o, .a 3, .o, .v .u64 (u64_of_i64 (s0)), .cb (ok_tnum_Has (ra1) (s0)) h1, .o, .o, .o, .o, .a 0, .o, .tn (u_le x0.b.umax (x0.w - 1#64)) h2, .o, .o, .v .u64 (u64_of_i64 (s0)), .o, .o, .a 0, .t (u_lt s0 x0.b.umin) h3, .o, .o, .v .u64 (u64_of_i64 (s0)), .o, .o, .a 0, .t (u_gt s0 x0.b.umax) h4, .o, .o, .o, .v .i64 (i64_add s0 1#64), .o] [0, 1, 2, 3, 4] (fun b => rfl) (by decide) rfl (fun b => by kernel_rfl)
theorem w4_scalar_operands_shift_137_L0 (x0 : OO) (x1 : S) (ra0 : T) (ra1 : T) (o0 : (BitVec.ult 64#64 x0.w) = false) (s0 : BitVec 64) (s2 : S) (hI : inv_scalar_operands_shift_137_L0 x0 x1 ra0 ra1 (s0, true, s2)) (f0 : (BitVec.slt s0 0#64) = false) (rb0 : S) (eb0 : m_scalar_shiftSigned x1 s0 = rb0) (h0 : (BitVec.slt s0 x0.w) = true) (h1 : (m_tnum_Has ra1 s0) = true) (h2 : (BitVec.ult (x0.w - 1#64) x0.b.umax) = false) (h3 : (BitVec.ult s0 x0.b.umin) = false) (h4 : (BitVec.ult x0.b.umax s0) = false) : Goes1 Tryz.prog bd_scalar_operands_shift_137_L0 6 (fr_scalar_operands_shift_137_L0 x0 x1 ra0 ra1 (s0, true, s2)) (Hs_scalar_operands_shift_137_L0 x0 x1 ra0 ra1 (s0, true, s2)) Ex.normal 5 (fr_scalar_operands_shift_137_L0 x0 x1 ra0 ra1 ((s0 + 1#64), false, rb0)) (Hs_scalar_operands_shift_137_L0 x0 x1 ra0 ra1 ((s0 + 1#64), false, rb0)) 6 :=
  goes_runI [.t (i_lt s0 x0.w) h0, .o, .o, .a 3, .o, .v .u64 (u64_of_i64 (s0)), .cb (ok_tnum_Has (ra1) (s0)) h1, .o, .o, .o, .o, .a 0, .o, .tn (u_le x0.b.umax (x0.w - 1#64)) h2, .o, .o, .v .u64 (u64_of_i64 (s0)), .o, .o, .a 0, .t (u_lt s0 x0.b.umin) h3, .o, .o, .v .u64 (u64_of_i64 (s0)), .o, .o, .a 0, .t (u_gt s0 x0.b.umax) h4, .o, .o, .o, .o, .a 1, .o, .cr sv (ok_scalar_shiftSigned (x1) (s0) f0 (lt64 f0 h0 o0)) eb0, .o, .a 6, .o, .o, .a 6, .a 4, .o, .v .i64 (i64_add s0 1#64), .o] [0, 1, 2, 3, 4] (fun b => rfl) (by decide) rfl (fun b => by kernel_rfl)
theorem w5_scalar_operands_shift_137_L0 (x0 : OO) (x1 : S) (ra0 : T) (ra1 : T) (o0 : (BitVec.ult 64#64 x0.w) = false) (s0 : BitVec 64) (s2 : S) (hI : inv_scalar_operands_shift_137_L0 x0 x1 ra0 ra1 (s0, false, s2)) (f0 : (BitVec.slt s0 0#64) = false) (rb0 : S) (eb0 : m_scalar_shiftSigned x1 s0 = rb0) (rb1 : S) (eb1 : m_scalar_hull s2 rb0 = rb1) (h0 : (BitVec.slt s0 x0.w) = true) (h1 : (m_tnum_Has ra1 s0) = true) (h2 : (BitVec.ult (x0.w - 1#64) x0.b.umax) = false) (h3 : (BitVec.ult s0 x0.b.umin) = false) (h4 : (BitVec.ult x0.b.umax s0) = false) : Goes1 Tryz.prog bd_scalar_operands_shift_137_L0 6 (fr_scalar_operands_shift_137_L0 x0 x1 ra0 ra1 (s0, false, s2)) (Hs_scalar_operands_shift_137_L0 x0 x1 ra0 ra1 (s0, false, s2)) Ex.normal 5 (fr_scalar_operands_shift_137_L0 x0 x1 ra0 ra1 ((s0 + 1#64), false, rb1)) (Hs_scalar_operands_shift_137_L0 x0 x1 ra0 ra1 ((s0 + 1#64), false, rb1)) 6 :=
  goes_runI [.t (i_lt s0 x0.w) h0, .o, .o, .a 3, .o, .v .u64 (u64_of_i64 (s0)), .cb (ok_tnum_Has (ra1) (s0)) h1, .o, .o, .o, .o, .a 0, .o, .tn (u_le x0.b.umax (x0.w - 1#64)) h2, .o, .o, .v .u64 (u64_of_i64 (s0)), .o, .o, .a 0, .t (u_lt s0 x0.b.umin) h3, .o, .o, .v .u64 (u64_of_i64 (s0)), .o, .o, .a 0, .t (u_gt s0 x0.b.umax) h4, .o, .o, .o, .o, .a 1, .o, .cr sv (ok_scalar_shiftSigned (x1) (s0) f0 (lt64 f0 h0 o0)) eb0, .o, .a 6, .o, .o, .a 4, .a 6, .cr sv (ok_scalar_hull (s2) (rb0)) eb1, .a 6, .a 6, .a 4, .o, .v .i64 (i64_add s0 1#64), .o] [0, 1, 2, 3, 4] (fun b => rfl) (by decide) rfl (fun b => by kernel_rfl)
theorem w6_scalar_operands_shift_137_L0 (x0 : OO) (x1 : S) (ra0 : T) (ra1 : T) (o0 : (BitVec.ult 64#64 x0.w) = false) (s0 : BitVec 64) (s1 : Bool) (s2 : S) (hI : inv_scalar_operands_shift_137_L0 x0 x1 ra0 ra1 (s0, s1, s2)) (f0 : (BitVec.slt s0 0#64) = false) (h0 : (BitVec.slt s0 x0.w) = true) (h1 : (m_tnum_Has ra1 s0) = false) : Goes1 Tryz.prog bd_scalar_operands_shift_137_L0 6 (fr_scalar_operands_shift_137_L0 x0 x1 ra0 ra1 (s0, s1, s2)) (Hs_scalar_operands_shift_137_L0 x0 x1 ra0 ra1 (s0, s1, s2)) Ex.normal 5 (fr_scalar_operands_shift_137_L0 x0 x1 ra0 ra1 ((s0 + 1#64), s1, s2)) (Hs_scalar_operands_shift_137_L0 x0 x1 ra0 ra1 ((s0 + 1#64), s1, s2)) 6 :=
  goes_runI [.t (i_lt s0 x0.w) h0, .o, .o, .a 3, .o, .v .u64 (u64_of_i64 (s0)), .cb (ok_tnum_Has (ra1) (s0)) h1, .o, .o, .o, .v .i64 (i64_add s0 1#64), .o] [0, 1, 2, 3, 4] (fun b => rfl) (by decide) rfl (fun b => by kernel_rfl)
theorem w7_scalar_operands_shift_137_L0 (x0 : OO) (x1 : S) (ra0 : T) (ra1 : T) (o0 : (BitVec.ult 64#64 x0.w) = false) (s0 : BitVec 64) (s1 : Bool) (s2 : S) (hI : inv_scalar_operands_shift_137_L0 x0 x1 ra0 ra1 (s0, s1, s2)) (f0 : (BitVec.slt s0 0#64) = false) (h0 : (BitVec.slt s0 x0.w) = false) : Goes1 Tryz.prog bd_scalar_operands_shift_137_L0 6 (fr_scalar_operands_shift_137_L0 x0 x1 ra0 ra1 (s0, s1, s2)) (Hs_scalar_operands_shift_137_L0 x0 x1 ra0 ra1 (s0, s1, s2)) (.exit 0) 5 (vf_scalar_operands_shift_137_L0 x0 x1 ra0 ra1 ((s2, s1)) (s1)) (Hf_scalar_operands_shift_137_L0 x0 x1 ra0 ra1 ((s2, s1)) (s1)) 6 :=
  goes_runI [.t (i_lt s0 x0.w) h0] [0, 1, 2, 3, 4] (fun b => rfl) (by decide) rfl (fun b => by kernel_rfl)
theorem dec_scalar_operands_shift_137_L0 (x0 : OO) (x1 : S) (ra0 : T) (ra1 : T) (o0 : (BitVec.ult 64#64 x0.w) = false) : Falls (st_scalar_operands_shift_137_L0 x0 x1 ra0 ra1) (mu_scalar_operands_shift_137_L0 x0 x1 ra0 ra1) (inv_scalar_operands_shift_137_L0 x0 x1 ra0 ra1) := ⟨by
  rintro ⟨s0, s1, s2⟩ s' hI e
  simp only [st_scalar_operands_shift_137_L0, Bool.cond_eq_ite] at e
  repeat' (split at e)
  all_goals first
    | (cases e; done)
    | (simp only [Sum.inl.injEq] at e; subst e; simp only [inv_scalar_operands_shift_137_L0, mu_scalar_operands_shift_137_L0] at hI ⊢; have := up2 (s := s0) hI (by assumption); omega)⟩
theorem go_scalar_operands_shift_137_L0 (x0 : OO) (x1 : S) (ra0 : T) (ra1 : T) (o0 : (BitVec.ult 64#64 x0.w) = false) : ∀ s, inv_scalar_operands_shift_137_L0 x0 x1 ra0 ra1 s → Goes1 Tryz.prog (.loop bd_scalar_operands_shift_137_L0) 6 (fr_scalar_operands_shift_137_L0 x0 x1 ra0 ra1 s) (Hs_scalar_operands_shift_137_L0 x0 x1 ra0 ra1 s) (ex_scalar_operands_shift_137_L0 (lp_scalar_operands_shift_137_L0 x0 x1 ra0 ra1 s)) 5 (vf_scalar_operands_shift_137_L0 x0 x1 ra0 ra1 (lp_scalar_operands_shift_137_L0 x0 x1 ra0 ra1 s) (((lp_scalar_operands_shift_137_L0 x0 x1 ra0 ra1 s)).2)) (Hf_scalar_operands_shift_137_L0 x0 x1 ra0 ra1 (lp_scalar_operands_shift_137_L0 x0 x1 ra0 ra1 s) (((lp_scalar_operands_shift_137_L0 x0 x1 ra0 ra1 s)).2)) 6 :=
  goes_lp (ex := ex_scalar_operands_shift_137_L0) (vf := fun r => vf_scalar_operands_shift_137_L0 x0 x1 ra0 ra1 r (r.2)) (Hf := fun r => Hf_scalar_operands_shift_137_L0 x0 x1 ra0 ra1 r (r.2)) _ (dec_scalar_operands_shift_137_L0 x0 x1 ra0 ra1 o0) fun s hI => by
  obtain ⟨s0, s1, s2⟩ := s
  unfold st_scalar_operands_shift_137_L0
  dsimp only
  cases h0 : (BitVec.slt s0 x0.w)
  · exact ⟨ne_exit 0, w7_scalar_operands_shift_137_L0 x0 x1 ra0 ra1 o0 s0 s1 s2 hI (slt0_ge hI) h0⟩
  · cases h1 : (m_tnum_Has ra1 s0)
    · exact w6_scalar_operands_shift_137_L0 x0 x1 ra0 ra1 o0 s0 s1 s2 hI (slt0_ge hI) h0 h1
    · cases h2 : (BitVec.ult (x0.w - 1#64) x0.b.umax)
      · cases h3 : (BitVec.ult s0 x0.b.umin)
        · cases h4 : (BitVec.ult x0.b.umax s0)
          · generalize eb0 : m_scalar_shiftSigned x1 s0 = rb0
            cases s1
            · generalize eb1 : m_scalar_hull s2 rb0 = rb1
              exact w5_scalar_operands_shift_137_L0 x0 x1 ra0 ra1 o0 s0 s2 hI (slt0_ge hI) rb0 eb0 rb1 eb1 h0 h1 h2 h3 h4
            · exact w4_scalar_operands_shift_137_L0 x0 x1 ra0 ra1 o0 s0 s2 hI (slt0_ge hI) rb0 eb0 h0 h1 h2 h3 h4
          · exact w3_scalar_operands_shift_137_L0 x0 x1 ra0 ra1 o0 s0 s1 s2 hI (slt0_ge hI) h0 h1 h2 h3 h4
        · exact w2_scalar_operands_shift_137_L0 x0 x1 ra0 ra1 o0 s0 s1 s2 hI (slt0_ge hI) h0 h1 h2 h3
      · generalize eb0 : m_scalar_shiftSigned x1 s0 = rb0
        cases s1
        · generalize eb1 : m_scalar_hull s2 rb0 = rb1
          exact w1_scalar_operands_shift_137_L0 x0 x1 ra0 ra1 o0 s0 s2 hI (slt0_ge hI) rb0 eb0 rb1 eb1 h0 h1 h2
        · exact w0_scalar_operands_shift_137_L0 x0 x1 ra0 ra1 o0 s0 s2 hI (slt0_ge hI) rb0 eb0 h0 h1 h2
def t0_scalar_operands_shift_137_L0 (x0 : OO) (x1 : S) (ra0 : T) (ra1 : T) (s : (BitVec 64) × (Bool) × (S)) : List L1 → List Value
  | [l0, l1, l2, l3, l4] => [ov (x0), sv (x1), .func (.func 137) #[] #[], (ptrTo l0.n), (ptrTo l1.n), undef, (ptrTo l2.n), .int .u64 (nn ((x0.w - 1#64))), (ptrTo l3.n), (ptrTo l4.n), (.bool (s.2.1)), undef, undef, .pointer (some ⟨l0.n, 12, none⟩), .int .i64 (ii (x0.w)), .int .i64 (ii ((x0.w - 1#64))), .int .u64 (nn ((x0.w - 1#64))), .pointer (some ⟨l0.n, 6, none⟩), .pointer (some ⟨l0.n, 6, none⟩), .agg #[.int .u64 (nn (x0.b.t.v)), .int .u64 (nn (x0.b.t.m))], .int .u64 (nn ((x0.w - 1#64))), tv (ra0), tv (ra1), .pointer (some ⟨l0.n, 12, none⟩), .int .i64 (ii (x0.w)), (.int .i64 (ii (s.1))), undef, undef, undef, undef, undef, undef, undef, undef, undef, undef, undef, undef, undef, undef, undef, undef, undef, undef, undef, undef, undef, undef, undef, undef, undef, undef, undef, undef, undef, undef, undef, undef, undef, undef, undef, undef, undef, undef, undef, undef, undef, undef, undef, undef, undef]
  | _ => []
def pre_scalar_operands_shift_137_L0 (x0 : OO) (x1 : S) (ra0 : T) (ra1 : T) (s : (BitVec 64) × (Bool) × (S)) : List Obj := [.cells #[.int .u64 (nn (x0.a.t.v)), .int .u64 (nn (x0.a.t.m)), .int .u64 (nn (x0.a.umin)), .int .u64 (nn (x0.a.umax)), .int .i64 (ii (x0.a.smin)), .int .i64 (ii (x0.a.smax)), .int .u64 (nn (x0.b.t.v)), .int .u64 (nn (x0.b.t.m)), .int .u64 (nn (x0.b.umin)), .int .u64 (nn (x0.b.umax)), .int .i64 (ii (x0.b.smin)), .int .i64 (ii (x0.b.smax)), .int .i64 (ii (x0.w))] 76, .cells #[.int .u64 (nn (x1.t.v)), .int .u64 (nn (x1.t.m)), .int .u64 (nn (x1.umin)), .int .u64 (nn (x1.umax)), .int .i64 (ii (x1.smin)), .int .i64 (ii (x1.smax))] 27, .cells #[.int .u64 ((0)), .int .u64 ((0)), .int .u64 ((0)), .int .u64 ((0)), .int .i64 ((0)), .int .i64 ((0))] 27, .cells #[.int .u64 (nn (ra1.v)), .int .u64 (nn (ra1.m))] 25, .cells #[.int .u64 (nn (s.2.2.t.v)), .int .u64 (nn (s.2.2.t.m)), .int .u64 (nn (s.2.2.umin)), .int .u64 (nn (s.2.2.umax)), .int .i64 (ii (s.2.2.smin)), .int .i64 (ii (s.2.2.smax))] 27]
noncomputable def sp_scalar_operands_shift_137_L0_0 (x0 : OO) (x1 : S) (ra0 : T) (ra1 : T) (s : (BitVec 64) × (Bool) × (S)) (b1 : Bool) : Spc := ⟨fun ls => .code (.loop bd_scalar_operands_shift_137_L0) (t0_scalar_operands_shift_137_L0 x0 x1 ra0 ra1 s ls), fun _ => pre_scalar_operands_shift_137_L0 x0 x1 ra0 ra1 s, 1, (.exit 0), fun ls => vf0_scalar_operands_shift_137_L0 x0 x1 ra0 ra1 (lp_scalar_operands_shift_137_L0 x0 x1 ra0 ra1 s) b1 (ls.take 5 ++ ls.drop 5), fun ls => (Hf_scalar_operands_shift_137_L0 x0 x1 ra0 ra1 (lp_scalar_operands_shift_137_L0 x0 x1 ra0 ra1 s) b1 (ls.take 5 ++ ls.drop 5)).take 5 ++ List.replicate 0 unb, fun ls => (Hf_scalar_operands_shift_137_L0 x0 x1 ra0 ra1 (lp_scalar_operands_shift_137_L0 x0 x1 ra0 ra1 s) b1 (ls.take 5 ++ ls.drop 5)).drop 5⟩
theorem sp_scalar_operands_shift_137_L0_0_ok (x0 : OO) (x1 : S) (ra0 : T) (ra1 : T) (s : (BitVec 64) × (Bool) × (S)) (b1 : Bool) (o0 : (BitVec.ult 64#64 x0.w) = false) (hI : inv_scalar_operands_shift_137_L0 x0 x1 ra0 ra1 s) (hb1 : (((lp_scalar_operands_shift_137_L0 x0 x1 ra0 ra1 s)).2) = b1) : SpcOk Tryz.prog (fun _ => True) (sp_scalar_operands_shift_137_L0_0 x0 x1 ra0 ra1 s b1) := by
  subst hb1
  have h := go_scalar_operands_shift_137_L0 x0 x1 ra0 ra1 o0 s hI
  exact spc_of_goes (k0 := 5) h (t0_scalar_operands_shift_137_L0 x0 x1 ra0 ra1 s) (fun _ => pre_scalar_operands_shift_137_L0 x0 x1 ra0 ra1 s) (fun _ => rfl) (fun ls h => by match ls, h with | [l0, l1, l2, l3, l4], _ => rfl) (fun ls h => rfl) (by decide) (by decide) (fun ls => rfl)
-- (barbican/scalar.operands).shift
def m_scalar_operands_shift_137 (x0 : OO) (x1 : S) : S :=
  (bif ((lp_scalar_operands_shift_137_L0 x0 x1 (m_tnum_Const (x0.w - 1#64)) (m_tnum_And x0.b.t (m_tnum_Const (x0.w - 1#64))) ((0#64, true, zS)))).2 then
    ((m_scalar_Unknown ))
    else ((m_scalar_settle (((lp_scalar_operands_shift_137_L0 x0 x1 (m_tnum_Const (x0.w - 1#64)) (m_tnum_And x0.b.t (m_tnum_Const (x0.w - 1#64))) ((0#64, true, zS)))).1))))
theorem p0_scalar_operands_shift_137 (x0 : OO) (x1 : S) (ra0 : T) (ea0 : m_tnum_Const (x0.w - 1#64) = ra0) (ra1 : T) (ea1 : m_tnum_And x0.b.t ra0 = ra1) (ra2 : S) (ea2 : m_scalar_Unknown  = ra2) (g0 : (BitVec.ult 64#64 x0.w) = false) (h0 : (((lp_scalar_operands_shift_137_L0 x0 x1 ra0 ra1 ((0#64, true, zS)))).2) = true) : Con Tryz.prog 133 #[(ov (x0)), (sv (x1)), .func (.func 137) #[] #[]] (sv (ra2)) :=
  fn_conI (P := Tryz.prog) Tryz.func133 (fun xs w => by kernel_rfl) _ _
    [.o, .o, .o, .o, .a 0, .v .i64 (i64_sub x0.w 1#64), .v .u64 (u64_of_i64 ((x0.w - 1#64))), .o, .r [0, 1, 2, 3, 4, 5] [6] [7], .o, .o, .a 0, .o, .cr tv (ok_tnum_Const ((x0.w - 1#64))) ea0, .cr tv (ok_tnum_And (x0.b.t) (ra0)) ea1, .a 3, .o, .o, .o, .a 0, .o, .cp, .cx (sp_scalar_operands_shift_137_L0_0_ok x0 x1 ra0 ra1 ((0#64, true, zS)) true g0 (show (0 : Int) ≤ (0#64).toInt from by decide)  h0) [0, 1, 2, 3, 4], .o, .cr sv (ok_scalar_Unknown ) ea2, .a 2]
    [2, 2, 2, 2, 2, 2] (fun b => by kernel_rfl)
theorem p1_scalar_operands_shift_137 (x0 : OO) (x1 : S) (ra0 : T) (ea0 : m_tnum_Const (x0.w - 1#64) = ra0) (ra1 : T) (ea1 : m_tnum_And x0.b.t ra0 = ra1) (ra2 : S) (ea2 : m_scalar_settle (((lp_scalar_operands_shift_137_L0 x0 x1 ra0 ra1 ((0#64, true, zS)))).1) = ra2) (g0 : (BitVec.ult 64#64 x0.w) = false) (h0 : (((lp_scalar_operands_shift_137_L0 x0 x1 ra0 ra1 ((0#64, true, zS)))).2) = false) : Con Tryz.prog 133 #[(ov (x0)), (sv (x1)), .func (.func 137) #[] #[]] (sv (ra2)) :=
  fn_conI (P := Tryz.prog) Tryz.func133 (fun xs w => by kernel_rfl) _ _
    [.o, .o, .o, .o, .a 0, .v .i64 (i64_sub x0.w 1#64), .v .u64 (u64_of_i64 ((x0.w - 1#64))), .o, .r [0, 1, 2, 3, 4, 5] [6] [7], .o, .o, .a 0, .o, .cr tv (ok_tnum_Const ((x0.w - 1#64))) ea0, .cr tv (ok_tnum_And (x0.b.t) (ra0)) ea1, .a 3, .o, .o, .o, .a 0, .o, .cp, .cx (sp_scalar_operands_shift_137_L0_0_ok x0 x1 ra0 ra1 ((0#64, true, zS)) false g0 (show (0 : Int) ≤ (0#64).toInt from by decide)  h0) [0, 1, 2, 3, 4], .o, .a 4, .cr sv (ok_scalar_settle (((lp_scalar_operands_shift_137_L0 x0 x1 ra0 ra1 ((0#64, true, zS)))).1)) ea2, .a 2]
    [2, 2, 2, 2, 2, 2] (fun b => by kernel_rfl)
theorem ok_scalar_operands_shift_137 (x0 : OO) (x1 : S) (g0 : (BitVec.ult 64#64 x0.w) = false) : Con Tryz.prog 133 #[(ov (x0)), (sv (x1)), .func (.func 137) #[] #[]] (sv (m_scalar_operands_shift_137 x0 x1)) := by
  unfold m_scalar_operands_shift_137
  refine Con.cond sv _ _ _ (fun h0 => ?_) (fun h0 => ?_)
  · exact p0_scalar_operands_shift_137 x0 x1 _ rfl _ rfl _ rfl g0 h0
  · exact p1_scalar_operands_shift_137 x0 x1 _ rfl _ rfl _ rfl g0 h0
-- barbican/scalar.extend
def m_scalar_extend (x0 : S) : S :=
  (bif (x0.umin >>> 31) == (x0.umax >>> 31) then
    ((m_scalar_settle (⟨(m_scalar_ofBits (m_tnum_Arsh (m_tnum_Lsh x0.t (32#64)) (32#64) true)).t, (m_scalar_ofBits (m_tnum_Arsh (m_tnum_Lsh x0.t (32#64)) (32#64) true)).umin, (m_scalar_ofBits (m_tnum_Arsh (m_tnum_Lsh x0.t (32#64)) (32#64) true)).umax, ((x0.umin.setWidth 32).signExtend 64), ((x0.umax.setWidth 32).signExtend 64)⟩ : S)))
    else ((m_scalar_settle (⟨(m_scalar_ofBits (m_tnum_Arsh (m_tnum_Lsh x0.t (32#64)) (32#64) true)).t, (m_scalar_ofBits (m_tnum_Arsh (m_tnum_Lsh x0.t (32#64)) (32#64) true)).umin, (m_scalar_ofBits (m_tnum_Arsh (m_tnum_Lsh x0.t (32#64)) (32#64) true)).umax, 18446744071562067968#64, 2147483647#64⟩ : S))))
theorem p0_scalar_extend (x0 : S) (ra0 : T) (ea0 : m_tnum_Lsh x0.t (32#64) = ra0) (ra1 : T) (ea1 : m_tnum_Arsh ra0 (32#64) true = ra1) (ra2 : S) (ea2 : m_scalar_ofBits ra1 = ra2) (ra3 : S) (ea3 : m_scalar_settle (⟨ra2.t, ra2.umin, ra2.umax, ((x0.umin.setWidth 32).signExtend 64), ((x0.umax.setWidth 32).signExtend 64)⟩ : S) = ra3) (h0 : ((x0.umin >>> 31) == (x0.umax >>> 31)) = true) : Con Tryz.prog 118 #[(sv (x0))] (sv (ra3)) :=
  fn_conI (P := Tryz.prog) Tryz.func118 (fun xs w => by kernel_rfl) _ _
    [.o, .o, .o, .a 0, .cr tv (ok_tnum_Lsh (x0.t) (32#64)) ea0, .cr tv (ok_tnum_Arsh (ra0) (32#64) (true)) ea1, .cr sv (ok_scalar_ofBits (ra1)) ea2, .o, .a 2, .o, .a 2, .o, .a 2, .o, .a 0, .ov (u64_shr Tryz.prog 22 (.tmp 12) (.const (.int .u64 ((31)))) (x0.umin) 31 .u64 rfl), .o, .a 0, .ov (u64_shr Tryz.prog 22 (.tmp 15) (.const (.int .u64 ((31)))) (x0.umax) 31 .u64 rfl), .t (u_eq (x0.umin >>> 31) (x0.umax >>> 31)) h0, .r [0, 1, 2, 3, 4, 5, 6, 7, 8] [] [9, 10, 11], .o, .a 0, .v .i32 (i32_of_u64 (x0.umin)), .v .i64 (i64_of_i32 ((x0.umin.setWidth 32))), .o, .a 0, .v .i32 (i32_of_u64 (x0.umax)), .v .i64 (i64_of_i32 ((x0.umax.setWidth 32))), .o, .a 2, .o, .a 2, .a 2, .cr sv (ok_scalar_settle ((⟨ra2.t, ra2.umin, ra2.umax, ((x0.umin.setWidth 32).signExtend 64), ((x0.umax.setWidth 32).signExtend 64)⟩ : S))) ea3, .a 1]
    [1, 1, 1, 1, 1, 1] (fun b => by kernel_rfl)
theorem p1_scalar_extend (x0 : S) (ra0 : T) (ea0 : m_tnum_Lsh x0.t (32#64) = ra0) (ra1 : T) (ea1 : m_tnum_Arsh ra0 (32#64) true = ra1) (ra2 : S) (ea2 : m_scalar_ofBits ra1 = ra2) (ra3 : S) (ea3 : m_scalar_settle (⟨ra2.t, ra2.umin, ra2.umax, 18446744071562067968#64, 2147483647#64⟩ : S) = ra3) (h0 : ((x0.umin >>> 31) == (x0.umax >>> 31)) = false) : Con Tryz.prog 118 #[(sv (x0))] (sv (ra3)) :=
  fn_conI (P := Tryz.prog) Tryz.func118 (fun xs w => by kernel_rfl) _ _
    [.o, .o, .o, .a 0, .cr tv (ok_tnum_Lsh (x0.t) (32#64)) ea0, .cr tv (ok_tnum_Arsh (ra0) (32#64) (true)) ea1, .cr sv (ok_scalar_ofBits (ra1)) ea2, .o, .a 2, .o, .a 2, .o, .a 2, .o, .a 0, .ov (u64_shr Tryz.prog 22 (.tmp 12) (.const (.int .u64 ((31)))) (x0.umin) 31 .u64 rfl), .o, .a 0, .ov (u64_shr Tryz.prog 22 (.tmp 15) (.const (.int .u64 ((31)))) (x0.umax) 31 .u64 rfl), .t (u_eq (x0.umin >>> 31) (x0.umax >>> 31)) h0, .a 2, .cr sv (ok_scalar_settle ((⟨ra2.t, ra2.umin, ra2.umax, 18446744071562067968#64, 2147483647#64⟩ : S))) ea3, .a 1]
    [1, 1, 1, 1, 1, 1] (fun b => by kernel_rfl)
theorem ok_scalar_extend (x0 : S) : Con Tryz.prog 118 #[(sv (x0))] (sv (m_scalar_extend x0)) := by
  unfold m_scalar_extend
  refine Con.cond sv _ _ _ (fun h0 => ?_) (fun h0 => ?_)
  · exact p0_scalar_extend x0 _ rfl _ rfl _ rfl _ rfl h0
  · exact p1_scalar_extend x0 _ rfl _ rfl _ rfl _ rfl h0
-- (barbican/scalar.operands).arsh
def m_scalar_operands_arsh (x0 : OO) : S :=
  (bif x0.w == 64#64 then
    ((m_scalar_operands_shift_137 x0 x0.a))
    else ((m_scalar_operands_shift_137 x0 (m_scalar_extend x0.a))))
theorem p0_scalar_operands_arsh (x0 : OO) (ra0 : S) (ea0 : m_scalar_operands_shift_137 x0 x0.a = ra0) (g0 : (BitVec.ult 64#64 x0.w) = false) (h0 : (x0.w == 64#64) = true) : Con Tryz.prog 93 #[(ov (x0))] (sv (ra0)) :=
  fn_conI (P := Tryz.prog) Tryz.func93 (fun xs w => by kernel_rfl) _ _
    [.o, .o, .o, .a 0, .t (i_eq x0.w 64#64) h0, .a 0, .o, .a 0, .cr sv (ok_scalar_operands_shift_137 (x0) (x0.a) g0) ea0, .a 1]
    [1, 1, 1, 1, 1, 1] (fun b => by kernel_rfl)
theorem p1_scalar_operands_arsh (x0 : OO) (ra0 : S) (ea0 : m_scalar_extend x0.a = ra0) (ra1 : S) (ea1 : m_scalar_operands_shift_137 x0 ra0 = ra1) (g0 : (BitVec.ult 64#64 x0.w) = false) (h0 : (x0.w == 64#64) = false) : Con Tryz.prog 93 #[(ov (x0))] (sv (ra1)) :=
  fn_conI (P := Tryz.prog) Tryz.func93 (fun xs w => by kernel_rfl) _ _
    [.o, .o, .o, .a 0, .t (i_eq x0.w 64#64) h0, .r [0, 1, 2, 3, 4] [] [5], .a 0, .o, .a 0, .cr sv (ok_scalar_extend (x0.a)) ea0, .cr sv (ok_scalar_operands_shift_137 (x0) (ra0) g0) ea1, .a 1]
    [1, 1, 1, 1, 1, 1] (fun b => by kernel_rfl)
theorem ok_scalar_operands_arsh (x0 : OO) (g0 : (BitVec.ult 64#64 x0.w) = false) : Con Tryz.prog 93 #[(ov (x0))] (sv (m_scalar_operands_arsh x0)) := by
  unfold m_scalar_operands_arsh
  refine Con.cond sv _ _ _ (fun h0 => ?_) (fun h0 => ?_)
  · exact p0_scalar_operands_arsh x0 _ rfl g0 h0
  · exact p1_scalar_operands_arsh x0 _ rfl _ rfl g0 h0
-- (barbican/scalar.operands).div
def m_scalar_operands_div (x0 : OO) : S :=
  (bif x0.b.umin == 0#64 then
    ((m_scalar_Between (0#64) x0.a.umax))
    else ((m_scalar_Between (x0.a.umin / x0.b.umax) (x0.a.umax / x0.b.umin))))
theorem p0_scalar_operands_div (x0 : OO) (ra0 : S) (ea0 : m_scalar_Between (0#64) x0.a.umax = ra0) (g0 : (BitVec.ult x0.b.umax x0.b.umin) = false) (h0 : (x0.b.umin == 0#64) = true) : Con Tryz.prog 84 #[(ov (x0))] (sv (ra0)) :=
  fn_conI (P := Tryz.prog) Tryz.func84 (fun xs w => by kernel_rfl) _ _
    [.o, .o, .o, .o, .a 0, .t (u_eq x0.b.umin 0#64) h0, .o, .o, .a 0, .cr sv (ok_scalar_Between (0#64) (x0.a.umax)) ea0, .a 1]
    [1, 1, 1, 1, 1, 1] (fun b => by kernel_rfl)
theorem p1_scalar_operands_div (x0 : OO) (ra0 : S) (ea0 : m_scalar_Between (x0.a.umin / x0.b.umax) (x0.a.umax / x0.b.umin) = ra0) (g0 : (BitVec.ult x0.b.umax x0.b.umin) = false) (h0 : (x0.b.umin == 0#64) = false) : Con Tryz.prog 84 #[(ov (x0))] (sv (ra0)) :=
  fn_conI (P := Tryz.prog) Tryz.func84 (fun xs w => by kernel_rfl) _ _
    [.o, .o, .o, .o, .a 0, .t (u_eq x0.b.umin 0#64) h0, .r [0, 1, 2, 3, 4, 5, 6, 7, 8, 9, 10, 11, 12, 13, 14] [] [15], .o, .o, .a 0, .o, .o, .a 0, .ov (u64_quo Tryz.prog 22 (.tmp 13) (.tmp 16) x0.a.umin x0.b.umax (nz_above g0 h0)), .o, .o, .a 0, .o, .o, .a 0, .ov (u64_quo Tryz.prog 22 (.tmp 20) (.tmp 23) x0.a.umax x0.b.umin (u_nz h0)), .cr sv (ok_scalar_Between ((x0.a.umin / x0.b.umax)) ((x0.a.umax / x0.b.umin))) ea0, .a 1]
    [1, 1, 1, 1, 1, 1] (fun b => by kernel_rfl)
theorem ok_scalar_operands_div (x0 : OO) (g0 : (BitVec.ult x0.b.umax x0.b.umin) = false) : Con Tryz.prog 84 #[(ov (x0))] (sv (m_scalar_operands_div x0)) := by
  unfold m_scalar_operands_div
  refine Con.cond sv _ _ _ (fun h0 => ?_) (fun h0 => ?_)
  · exact p0_scalar_operands_div x0 _ rfl g0 h0
  · exact p1_scalar_operands_div x0 _ rfl g0 h0
end Go.Proofs.YtmhiiahfjoijgaaGreat
