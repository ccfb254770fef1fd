/-
  Package scalar: Branch, by the program's own text.
-/
import Derived.Test.YtmhiiahfjoijgaaGreatL7G
namespace Go.Proofs.YtmhiiahfjoijgaaGreat
open Go.RowKit
set_option linter.unusedVariables false
set_option linter.unusedSimpArgs false
set_option maxRecDepth 100000
set_option maxHeartbeats 4000000
-- (barbican/scalar.relation).equal
def m_scalar_relation_equal (x0 : SS) : (SS) × (Bool) :=
  (((⟨(m_scalar_Meet x0.a x0.b).1, (m_scalar_Meet x0.a x0.b).1⟩ : SS), (m_scalar_Meet x0.a x0.b).2))
theorem p0_scalar_relation_equal (x0 : SS) (ra0 : (S) × (Bool)) (ea0 : m_scalar_Meet x0.a x0.b = ra0) : Con Tryz.prog 109 #[(ssv (x0))] (.tuple #[(ssv ((⟨ra0.1, ra0.1⟩ : SS))), (.bool (ra0.2))]) :=
  fn_conI (P := Tryz.prog) Tryz.func109 (fun xs w => by kernel_rfl) _ _
    [.o, .o, .o, .o, .a 0, .o, .a 0, .cr vt2 (ok_scalar_Meet (x0.a) (x0.b)) ea0, .o, .o, .o, .o, .a 2, .o, .a 2, .a 2, .o, .o, .a 1, .o]
    [1, 1, 1, 1, 1, 1, 1, 1, 1, 1, 1, 1] (fun b => by kernel_rfl)
theorem ok_scalar_relation_equal (x0 : SS) : Con Tryz.prog 109 #[(ssv (x0))] (vt6 (m_scalar_relation_equal x0)) := by
  unfold m_scalar_relation_equal
  exact p0_scalar_relation_equal x0 _ rfl
-- barbican/scalar.except
def m_scalar_except (x0 : S) (x1 : BitVec 64) : S :=
  (bif x0.umin == x1 then
    (bif x0.umax == x1 then
      (bif x0.smin == x1 then
        (bif x0.smax == x1 then
          ((⟨x0.t, (x0.umin + 1#64), (x0.umax - 1#64), (x0.smin + 1#64), (x0.smax - 1#64)⟩ : S))
          else ((⟨x0.t, (x0.umin + 1#64), (x0.umax - 1#64), (x0.smin + 1#64), x0.smax⟩ : S)))
        else (bif x0.smax == x1 then
          ((⟨x0.t, (x0.umin + 1#64), (x0.umax - 1#64), x0.smin, (x0.smax - 1#64)⟩ : S))
          else ((⟨x0.t, (x0.umin + 1#64), (x0.umax - 1#64), x0.smin, x0.smax⟩ : S))))
      else (bif x0.smin == x1 then
        (bif x0.smax == x1 then
          ((⟨x0.t, (x0.umin + 1#64), x0.umax, (x0.smin + 1#64), (x0.smax - 1#64)⟩ : S))
          else ((⟨x0.t, (x0.umin + 1#64), x0.umax, (x0.smin + 1#64), x0.smax⟩ : S)))
        else (bif x0.smax == x1 then
          ((⟨x0.t, (x0.umin + 1#64), x0.umax, x0.smin, (x0.smax - 1#64)⟩ : S))
          else ((⟨x0.t, (x0.umin + 1#64), x0.umax, x0.smin, x0.smax⟩ : S)))))
    else (bif x0.umax == x1 then
      (bif x0.smin == x1 then
        (bif x0.smax == x1 then
          ((⟨x0.t, x0.umin, (x0.umax - 1#64), (x0.smin + 1#64), (x0.smax - 1#64)⟩ : S))
          else ((⟨x0.t, x0.umin, (x0.umax - 1#64), (x0.smin + 1#64), x0.smax⟩ : S)))
        else (bif x0.smax == x1 then
          ((⟨x0.t, x0.umin, (x0.umax - 1#64), x0.smin, (x0.smax - 1#64)⟩ : S))
          else ((⟨x0.t, x0.umin, (x0.umax - 1#64), x0.smin, x0.smax⟩ : S))))
      else (bif x0.smin == x1 then
        (bif x0.smax == x1 then
          ((⟨x0.t, x0.umin, x0.umax, (x0.smin + 1#64), (x0.smax - 1#64)⟩ : S))
          else ((⟨x0.t, x0.umin, x0.umax, (x0.smin + 1#64), x0.smax⟩ : S)))
        else (bif x0.smax == x1 then
          ((⟨x0.t, x0.umin, x0.umax, x0.smin, (x0.smax - 1#64)⟩ : S))
          else (x0)))))
theorem p0_scalar_except (x0 : S) (x1 : BitVec 64) (h0 : (x0.umin == x1) = true) (h1 : (x0.umax == x1) = true) (h2 : (x0.smin == x1) = true) (h3 : (x0.smax == x1) = true) : Con Tryz.prog 143 #[(sv (x0)), (.int .u64 (nn (x1)))] (sv ((⟨x0.t, (x0.umin + 1#64), (x0.umax - 1#64), (x0.smin + 1#64), (x0.smax - 1#64)⟩ : S))) :=
  fn_conI (P := Tryz.prog) Tryz.func143 (fun xs w => by kernel_rfl) _ _
    [.o, .o, .o, .a 0, .o, .t (u_eq x0.umin x1) h0, .o, .a 0, .v .u64 (u64_add x0.umin 1#64), .o, .a 0, .o, .a 0, .o, .t (u_eq x0.umax x1) h1, .o, .a 0, .v .u64 (u64_sub x0.umax 1#64), .o, .a 0, .o, .a 0, .o, .v .i64 (i64_of_u64 (x1)), .t (i_eq x0.smin x1) h2, .o, .a 0, .v .i64 (i64_add x0.smin 1#64), .o, .a 0, .o, .a 0, .o, .v .i64 (i64_of_u64 (x1)), .t (i_eq x0.smax x1) h3, .o, .a 0, .v .i64 (i64_sub x0.smax 1#64), .o, .a 0, .a 0, .a 1]
    [1, 1, 1, 1, 1, 1] (fun b => by kernel_rfl)
theorem p1_scalar_except (x0 : S) (x1 : BitVec 64) (h0 : (x0.umin == x1) = true) (h1 : (x0.umax == x1) = true) (h2 : (x0.smin == x1) = true) (h3 : (x0.smax == x1) = false) : Con Tryz.prog 143 #[(sv (x0)), (.int .u64 (nn (x1)))] (sv ((⟨x0.t, (x0.umin + 1#64), (x0.umax - 1#64), (x0.smin + 1#64), x0.smax⟩ : S))) :=
  fn_conI (P := Tryz.prog) Tryz.func143 (fun xs w => by kernel_rfl) _ _
    [.o, .o, .o, .a 0, .o, .t (u_eq x0.umin x1) h0, .o, .a 0, .v .u64 (u64_add x0.umin 1#64), .o, .a 0, .o, .a 0, .o, .t (u_eq x0.umax x1) h1, .o, .a 0, .v .u64 (u64_sub x0.umax 1#64), .o, .a 0, .o, .a 0, .o, .v .i64 (i64_of_u64 (x1)), .t (i_eq x0.smin x1) h2, .o, .a 0, .v .i64 (i64_add x0.smin 1#64), .o, .a 0, .o, .a 0, .o, .v .i64 (i64_of_u64 (x1)), .t (i_eq x0.smax x1) h3, .a 0, .a 1]
    [1, 1, 1, 1, 1, 1] (fun b => by kernel_rfl)
theorem p2_scalar_except (x0 : S) (x1 : BitVec 64) (h0 : (x0.umin == x1) = true) (h1 : (x0.umax == x1) = true) (h2 : (x0.smin == x1) = false) (h3 : (x0.smax == x1) = true) : Con Tryz.prog 143 #[(sv (x0)), (.int .u64 (nn (x1)))] (sv ((⟨x0.t, (x0.umin + 1#64), (x0.umax - 1#64), x0.smin, (x0.smax - 1#64)⟩ : S))) :=
  fn_conI (P := Tryz.prog) Tryz.func143 (fun xs w => by kernel_rfl) _ _
    [.o, .o, .o, .a 0, .o, .t (u_eq x0.umin x1) h0, .o, .a 0, .v .u64 (u64_add x0.umin 1#64), .o, .a 0, .o, .a 0, .o, .t (u_eq x0.umax x1) h1, .o, .a 0, .v .u64 (u64_sub x0.umax 1#64), .o, .a 0, .o, .a 0, .o, .v .i64 (i64_of_u64 (x1)), .t (i_eq x0.smin x1) h2, .o, .a 0, .o, .v .i64 (i64_of_u64 (x1)), .t (i_eq x0.smax x1) h3, .o, .a 0, .v .i64 (i64_sub x0.smax 1#64), .o, .a 0, .a 0, .a 1]
    [1, 1, 1, 1, 1, 1] (fun b => by kernel_rfl)
theorem p3_scalar_except (x0 : S) (x1 : BitVec 64) (h0 : (x0.umin == x1) = true) (h1 : (x0.umax == x1) = true) (h2 : (x0.smin == x1) = false) (h3 : (x0.smax == x1) = false) : Con Tryz.prog 143 #[(sv (x0)), (.int .u64 (nn (x1)))] (sv ((⟨x0.t, (x0.umin + 1#64), (x0.umax - 1#64), x0.smin, x0.smax⟩ : S))) :=
  fn_conI (P := Tryz.prog) Tryz.func143 (fun xs w => by kernel_rfl) _ _
    [.o, .o, .o, .a 0, .o, .t (u_eq x0.umin x1) h0, .o, .a 0, .v .u64 (u64_add x0.umin 1#64), .o, .a 0, .o, .a 0, .o, .t (u_eq x0.umax x1) h1, .o, .a 0, .v .u64 (u64_sub x0.umax 1#64), .o, .a 0, .o, .a 0, .o, .v .i64 (i64_of_u64 (x1)), .t (i_eq x0.smin x1) h2, .o, .a 0, .o, .v .i64 (i64_of_u64 (x1)), .t (i_eq x0.smax x1) h3, .a 0, .a 1]
    [1, 1, 1, 1, 1, 1] (fun b => by kernel_rfl)
theorem p4_scalar_except (x0 : S) (x1 : BitVec 64) (h0 : (x0.umin == x1) = true) (h1 : (x0.umax == x1) = false) (h2 : (x0.smin == x1) = true) (h3 : (x0.smax == x1) = true) : Con Tryz.prog 143 #[(sv (x0)), (.int .u64 (nn (x1)))] (sv ((⟨x0.t, (x0.umin + 1#64), x0.umax, (x0.smin + 1#64), (x0.smax - 1#64)⟩ : S))) :=
  fn_conI (P := Tryz.prog) Tryz.func143 (fun xs w => by kernel_rfl) _ _
    [.o, .o, .o, .a 0, .o, .t (u_eq x0.umin x1) h0, .o, .a 0, .v .u64 (u64_add x0.umin 1#64), .o, .a 0, .o, .a 0, .o, .t (u_eq x0.umax x1) h1, .o, .a 0, .o, .v .i64 (i64_of_u64 (x1)), .t (i_eq x0.smin x1) h2, .o, .a 0, .v .i64 (i64_add x0.smin 1#64), .o, .a 0, .o, .a 0, .o, .v .i64 (i64_of_u64 (x1)), .t (i_eq x0.smax x1) h3, .o, .a 0, .v .i64 (i64_sub x0.smax 1#64), .o, .a 0, .a 0, .a 1]
    [1, 1, 1, 1, 1, 1] (fun b => by kernel_rfl)
theorem p5_scalar_except (x0 : S) (x1 : BitVec 64) (h0 : (x0.umin == x1) = true) (h1 : (x0.umax == x1) = false) (h2 : (x0.smin == x1) = true) (h3 : (x0.smax == x1) = false) : Con Tryz.prog 143 #[(sv (x0)), (.int .u64 (nn (x1)))] (sv ((⟨x0.t, (x0.umin + 1#64), x0.umax, (x0.smin + 1#64), x0.smax⟩ : S))) :=
  fn_conI (P := Tryz.prog) Tryz.func143 (fun xs w => by kernel_rfl) _ _
    [.o, .o, .o, .a 0, .o, .t (u_eq x0.umin x1) h0, .o, .a 0, .v .u64 (u64_add x0.umin 1#64), .o, .a 0, .o, .a 0, .o, .t (u_eq x0.umax x1) h1, .o, .a 0, .o, .v .i64 (i64_of_u64 (x1)), .t (i_eq x0.smin x1) h2, .o, .a 0, .v .i64 (i64_add x0.smin 1#64), .o, .a 0, .o, .a 0, .o, .v .i64 (i64_of_u64 (x1)), .t (i_eq x0.smax x1) h3, .a 0, .a 1]
    [1, 1, 1, 1, 1, 1] (fun b => by kernel_rfl)
theorem p6_scalar_except (x0 : S) (x1 : BitVec 64) (h0 : (x0.umin == x1) = true) (h1 : (x0.umax == x1) = false) (h2 : (x0.smin == x1) = false) (h3 : (x0.smax == x1) = true) : Con Tryz.prog 143 #[(sv (x0)), (.int .u64 (nn (x1)))] (sv ((⟨x0.t, (x0.umin + 1#64), x0.umax, x0.smin, (x0.smax - 1#64)⟩ : S))) :=
  fn_conI (P := Tryz.prog) Tryz.func143 (fun xs w => by kernel_rfl) _ _
    [.o, .o, .o, .a 0, .o, .t (u_eq x0.umin x1) h0, .o, .a 0, .v .u64 (u64_add x0.umin 1#64), .o, .a 0, .o, .a 0, .o, .t (u_eq x0.umax x1) h1, .o, .a 0, .o, .v .i64 (i64_of_u64 (x1)), .t (i_eq x0.smin x1) h2, .o, .a 0, .o, .v .i64 (i64_of_u64 (x1)), .t (i_eq x0.smax x1) h3, .o, .a 0, .v .i64 (i64_sub x0.smax 1#64), .o, .a 0, .a 0, .a 1]
    [1, 1, 1, 1, 1, 1] (fun b => by kernel_rfl)
theorem p7_scalar_except (x0 : S) (x1 : BitVec 64) (h0 : (x0.umin == x1) = true) (h1 : (x0.umax == x1) = false) (h2 : (x0.smin == x1) = false) (h3 : (x0.smax == x1) = false) : Con Tryz.prog 143 #[(sv (x0)), (.int .u64 (nn (x1)))] (sv ((⟨x0.t, (x0.umin + 1#64), x0.umax, x0.smin, x0.smax⟩ : S))) :=
  fn_conI (P := Tryz.prog) Tryz.func143 (fun xs w => by kernel_rfl) _ _
    [.o, .o, .o, .a 0, .o, .t (u_eq x0.umin x1) h0, .o, .a 0, .v .u64 (u64_add x0.umin 1#64), .o, .a 0, .o, .a 0, .o, .t (u_eq x0.umax x1) h1, .o, .a 0, .o, .v .i64 (i64_of_u64 (x1)), .t (i_eq x0.smin x1) h2, .o, .a 0, .o, .v .i64 (i64_of_u64 (x1)), .t (i_eq x0.smax x1) h3, .a 0, .a 1]
    [1, 1, 1, 1, 1, 1] (fun b => by kernel_rfl)
theorem p8_scalar_except (x0 : S) (x1 : BitVec 64) (h0 : (x0.umin == x1) = false) (h1 : (x0.umax == x1) = true) (h2 : (x0.smin == x1) = true) (h3 : (x0.smax == x1) = true) : Con Tryz.prog 143 #[(sv (x0)), (.int .u64 (nn (x1)))] (sv ((⟨x0.t, x0.umin, (x0.umax - 1#64), (x0.smin + 1#64), (x0.smax - 1#64)⟩ : S))) :=
  fn_conI (P := Tryz.prog) Tryz.func143 (fun xs w => by kernel_rfl) _ _
    [.o, .o, .o, .a 0, .o, .t (u_eq x0.umin x1) h0, .o, .a 0, .o, .t (u_eq x0.umax x1) h1, .o, .a 0, .v .u64 (u64_sub x0.umax 1#64), .o, .a 0, .o, .a 0, .o, .v .i64 (i64_of_u64 (x1)), .t (i_eq x0.smin x1) h2, .o, .a 0, .v .i64 (i64_add x0.smin 1#64), .o, .a 0, .o, .a 0, .o, .v .i64 (i64_of_u64 (x1)), .t (i_eq x0.smax x1) h3, .o, .a 0, .v .i64 (i64_sub x0.smax 1#64), .o, .a 0, .a 0, .a 1]
    [1, 1, 1, 1, 1, 1] (fun b => by kernel_rfl)
theorem p9_scalar_except (x0 : S) (x1 : BitVec 64) (h0 : (x0.umin == x1) = false) (h1 : (x0.umax == x1) = true) (h2 : (x0.smin == x1) = true) (h3 : (x0.smax == x1) = false) : Con Tryz.prog 143 #[(sv (x0)), (.int .u64 (nn (x1)))] (sv ((⟨x0.t, x0.umin, (x0.umax - 1#64), (x0.smin + 1#64), x0.smax⟩ : S))) :=
  fn_conI (P := Tryz.prog) Tryz.func143 (fun xs w => by kernel_rfl) _ _
    [.o, .o, .o, .a 0, .o, .t (u_eq x0.umin x1) h0, .o, .a 0, .o, .t (u_eq x0.umax x1) h1, .o, .a 0, .v .u64 (u64_sub x0.umax 1#64), .o, .a 0, .o, .a 0, .o, .v .i64 (i64_of_u64 (x1)), .t (i_eq x0.smin x1) h2, .o, .a 0, .v .i64 (i64_add x0.smin 1#64), .o, .a 0, .o, .a 0, .o, .v .i64 (i64_of_u64 (x1)), .t (i_eq x0.smax x1) h3, .a 0, .a 1]
    [1, 1, 1, 1, 1, 1] (fun b => by kernel_rfl)
theorem p10_scalar_except (x0 : S) (x1 : BitVec 64) (h0 : (x0.umin == x1) = false) (h1 : (x0.umax == x1) = true) (h2 : (x0.smin == x1) = false) (h3 : (x0.smax == x1) = true) : Con Tryz.prog 143 #[(sv (x0)), (.int .u64 (nn (x1)))] (sv ((⟨x0.t, x0.umin, (x0.umax - 1#64), x0.smin, (x0.smax - 1#64)⟩ : S))) :=
  fn_conI (P := Tryz.prog) Tryz.func143 (fun xs w => by kernel_rfl) _ _
    [.o, .o, .o, .a 0, .o, .t (u_eq x0.umin x1) h0, .o, .a 0, .o, .t (u_eq x0.umax x1) h1, .o, .a 0, .v .u64 (u64_sub x0.umax 1#64), .o, .a 0, .o, .a 0, .o, .v .i64 (i64_of_u64 (x1)), .t (i_eq x0.smin x1) h2, .o, .a 0, .o, .v .i64 (i64_of_u64 (x1)), .t (i_eq x0.smax x1) h3, .o, .a 0, .v .i64 (i64_sub x0.smax 1#64), .o, .a 0, .a 0, .a 1]
    [1, 1, 1, 1, 1, 1] (fun b => by kernel_rfl)
theorem p11_scalar_except (x0 : S) (x1 : BitVec 64) (h0 : (x0.umin == x1) = false) (h1 : (x0.umax == x1) = true) (h2 : (x0.smin == x1) = false) (h3 : (x0.smax == x1) = false) : Con Tryz.prog 143 #[(sv (x0)), (.int .u64 (nn (x1)))] (sv ((⟨x0.t, x0.umin, (x0.umax - 1#64), x0.smin, x0.smax⟩ : S))) :=
  fn_conI (P := Tryz.prog) Tryz.func143 (fun xs w => by kernel_rfl) _ _
    [.o, .o, .o, .a 0, .o, .t (u_eq x0.umin x1) h0, .o, .a 0, .o, .t (u_eq x0.umax x1) h1, .o, .a 0, .v .u64 (u64_sub x0.umax 1#64), .o, .a 0, .o, .a 0, .o, .v .i64 (i64_of_u64 (x1)), .t (i_eq x0.smin x1) h2, .o, .a 0, .o, .v .i64 (i64_of_u64 (x1)), .t (i_eq x0.smax x1) h3, .a 0, .a 1]
    [1, 1, 1, 1, 1, 1] (fun b => by kernel_rfl)
theorem p12_scalar_except (x0 : S) (x1 : BitVec 64) (h0 : (x0.umin == x1) = false) (h1 : (x0.umax == x1) = false) (h2 : (x0.smin == x1) = true) (h3 : (x0.smax == x1) = true) : Con Tryz.prog 143 #[(sv (x0)), (.int .u64 (nn (x1)))] (sv ((⟨x0.t, x0.umin, x0.umax, (x0.smin + 1#64), (x0.smax - 1#64)⟩ : S))) :=
  fn_conI (P := Tryz.prog) Tryz.func143 (fun xs w => by kernel_rfl) _ _
    [.o, .o, .o, .a 0, .o, .t (u_eq x0.umin x1) h0, .o, .a 0, .o, .t (u_eq x0.umax x1) h1, .o, .a 0, .o, .v .i64 (i64_of_u64 (x1)), .t (i_eq x0.smin x1) h2, .o, .a 0, .v .i64 (i64_add x0.smin 1#64), .o, .a 0, .o, .a 0, .o, .v .i64 (i64_of_u64 (x1)), .t (i_eq x0.smax x1) h3, .o, .a 0, .v .i64 (i64_sub x0.smax 1#64), .o, .a 0, .a 0, .a 1]
    [1, 1, 1, 1, 1, 1] (fun b => by kernel_rfl)
theorem p13_scalar_except (x0 : S) (x1 : BitVec 64) (h0 : (x0.umin == x1) = false) (h1 : (x0.umax == x1) = false) (h2 : (x0.smin == x1) = true) (h3 : (x0.smax == x1) = false) : Con Tryz.prog 143 #[(sv (x0)), (.int .u64 (nn (x1)))] (sv ((⟨x0.t, x0.umin, x0.umax, (x0.smin + 1#64), x0.smax⟩ : S))) :=
  fn_conI (P := Tryz.prog) Tryz.func143 (fun xs w => by kernel_rfl) _ _
    [.o, .o, .o, .a 0, .o, .t (u_eq x0.umin x1) h0, .o, .a 0, .o, .t (u_eq x0.umax x1) h1, .o, .a 0, .o, .v .i64 (i64_of_u64 (x1)), .t (i_eq x0.smin x1) h2, .o, .a 0, .v .i64 (i64_add x0.smin 1#64), .o, .a 0, .o, .a 0, .o, .v .i64 (i64_of_u64 (x1)), .t (i_eq x0.smax x1) h3, .a 0, .a 1]
    [1, 1, 1, 1, 1, 1] (fun b => by kernel_rfl)
theorem p14_scalar_except (x0 : S) (x1 : BitVec 64) (h0 : (x0.umin == x1) = false) (h1 : (x0.umax == x1) = false) (h2 : (x0.smin == x1) = false) (h3 : (x0.smax == x1) = true) : Con Tryz.prog 143 #[(sv (x0)), (.int .u64 (nn (x1)))] (sv ((⟨x0.t, x0.umin, x0.umax, x0.smin, (x0.smax - 1#64)⟩ : S))) :=
  fn_conI (P := Tryz.prog) Tryz.func143 (fun xs w => by kernel_rfl) _ _
    [.o, .o, .o, .a 0, .o, .t (u_eq x0.umin x1) h0, .o, .a 0, .o, .t (u_eq x0.umax x1) h1, .o, .a 0, .o, .v .i64 (i64_of_u64 (x1)), .t (i_eq x0.smin x1) h2, .o, .a 0, .o, .v .i64 (i64_of_u64 (x1)), .t (i_eq x0.smax x1) h3, .o, .a 0, .v .i64 (i64_sub x0.smax 1#64), .o, .a 0, .a 0, .a 1]
    [1, 1, 1, 1, 1, 1] (fun b => by kernel_rfl)
theorem p15_scalar_except (x0 : S) (x1 : BitVec 64) (h0 : (x0.umin == x1) = false) (h1 : (x0.umax == x1) = false) (h2 : (x0.smin == x1) = false) (h3 : (x0.smax == x1) = false) : Con Tryz.prog 143 #[(sv (x0)), (.int .u64 (nn (x1)))] (sv (x0)) :=
  fn_conI (P := Tryz.prog) Tryz.func143 (fun xs w => by kernel_rfl) _ _
    [.o, .o, .o, .a 0, .o, .t (u_eq x0.umin x1) h0, .o, .a 0, .o, .t (u_eq x0.umax x1) h1, .o, .a 0, .o, .v .i64 (i64_of_u64 (x1)), .t (i_eq x0.smin x1) h2, .o, .a 0, .o, .v .i64 (i64_of_u64 (x1)), .t (i_eq x0.smax x1) h3, .a 0, .a 1]
    [1, 1, 1, 1, 1, 1] (fun b => by kernel_rfl)
theorem ok_scalar_except (x0 : S) (x1 : BitVec 64) : Con Tryz.prog 143 #[(sv (x0)), (.int .u64 (nn (x1)))] (sv (m_scalar_except x0 x1)) := by
  unfold m_scalar_except
  refine Con.cond sv _ _ _ (fun h0 => ?_) (fun h0 => ?_)
  · refine Con.cond sv _ _ _ (fun h1 => ?_) (fun h1 => ?_)
    · refine Con.cond sv _ _ _ (fun h2 => ?_) (fun h2 => ?_)
      · refine Con.cond sv _ _ _ (fun h3 => ?_) (fun h3 => ?_)
        · exact p0_scalar_except x0 x1 h0 h1 h2 h3
        · exact p1_scalar_except x0 x1 h0 h1 h2 h3
      · refine Con.cond sv _ _ _ (fun h3 => ?_) (fun h3 => ?_)
        · exact p2_scalar_except x0 x1 h0 h1 h2 h3
        · exact p3_scalar_except x0 x1 h0 h1 h2 h3
    · refine Con.cond sv _ _ _ (fun h2 => ?_) (fun h2 => ?_)
      · refine Con.cond sv _ _ _ (fun h3 => ?_) (fun h3 => ?_)
        · exact p4_scalar_except x0 x1 h0 h1 h2 h3
        · exact p5_scalar_except x0 x1 h0 h1 h2 h3
      · refine Con.cond sv _ _ _ (fun h3 => ?_) (fun h3 => ?_)
        · exact p6_scalar_except x0 x1 h0 h1 h2 h3
        · exact p7_scalar_except x0 x1 h0 h1 h2 h3
  · refine Con.cond sv _ _ _ (fun h1 => ?_) (fun h1 => ?_)
    · refine Con.cond sv _ _ _ (fun h2 => ?_) (fun h2 => ?_)
      · refine Con.cond sv _ _ _ (fun h3 => ?_) (fun h3 => ?_)
        · exact p8_scalar_except x0 x1 h0 h1 h2 h3
        · exact p9_scalar_except x0 x1 h0 h1 h2 h3
      · refine Con.cond sv _ _ _ (fun h3 => ?_) (fun h3 => ?_)
        · exact p10_scalar_except x0 x1 h0 h1 h2 h3
        · exact p11_scalar_except x0 x1 h0 h1 h2 h3
    · refine Con.cond sv _ _ _ (fun h2 => ?_) (fun h2 => ?_)
      · refine Con.cond sv _ _ _ (fun h3 => ?_) (fun h3 => ?_)
        · exact p12_scalar_except x0 x1 h0 h1 h2 h3
        · exact p13_scalar_except x0 x1 h0 h1 h2 h3
      · refine Con.cond sv _ _ _ (fun h3 => ?_) (fun h3 => ?_)
        · exact p14_scalar_except x0 x1 h0 h1 h2 h3
        · exact p15_scalar_except x0 x1 h0 h1 h2 h3
-- (barbican/scalar.relation).unlike
def m_scalar_relation_unlike (x0 : SS) : (SS) × (Bool) :=
  (bif m_scalar_isConst x0.a then
    (bif m_scalar_isConst x0.b then
      ((x0, (!(x0.a.umin == x0.b.umin))))
      else ((m_scalar_relation_synced (⟨x0.a, (m_scalar_except x0.b x0.a.umin)⟩ : SS))))
    else (bif m_scalar_isConst x0.b then
      ((m_scalar_relation_synced (⟨(m_scalar_except x0.a x0.b.umin), x0.b⟩ : SS)))
      else ((m_scalar_relation_synced x0))))
theorem p0_scalar_relation_unlike (x0 : SS) (h0 : (m_scalar_isConst x0.a) = true) (h1 : (m_scalar_isConst x0.b) = true) : Con Tryz.prog 110 #[(ssv (x0))] (.tuple #[(ssv (x0)), (.bool ((!(x0.a.umin == x0.b.umin))))]) :=
  fn_conI (P := Tryz.prog) Tryz.func110 (fun xs w => by kernel_rfl) _ _
    [.o, .o, .o, .r [0, 1, 2, 3] [4, 5] [6, 7], .o, .a 0, .o, .a 0, .a 2, .a 3, .a 2, .cb (ok_scalar_isConst (x0.a)) h0, .o, .a 3, .cb (ok_scalar_isConst (x0.b)) h1, .o, .r [0, 1, 2, 3, 4, 5] [] [6, 7], .a 0, .o, .a 2, .o, .a 3, .tn (u_ne x0.a.umin x0.b.umin) rfl, .a 1, .o]
    [1, 1, 1, 1, 1, 1, 1, 1, 1, 1, 1, 1] (fun b => by kernel_rfl)
theorem p1_scalar_relation_unlike (x0 : SS) (ra0 : S) (ea0 : m_scalar_except x0.b x0.a.umin = ra0) (ra1 : (SS) × (Bool)) (ea1 : m_scalar_relation_synced (⟨x0.a, ra0⟩ : SS) = ra1) (h0 : (m_scalar_isConst x0.a) = true) (h1 : (m_scalar_isConst x0.b) = false) : Con Tryz.prog 110 #[(ssv (x0))] (vt6 (ra1)) :=
  fn_conI (P := Tryz.prog) Tryz.func110 (fun xs w => by kernel_rfl) _ _
    [.o, .o, .o, .r [0, 1, 2, 3] [4, 5] [6, 7], .o, .a 0, .o, .a 0, .a 2, .a 3, .a 2, .cb (ok_scalar_isConst (x0.a)) h0, .o, .a 3, .cb (ok_scalar_isConst (x0.b)) h1, .o, .a 3, .cb (ok_scalar_isConst (x0.b)) h1, .a 2, .cb (ok_scalar_isConst (x0.a)) h0, .a 3, .o, .a 2, .cr sv (ok_scalar_except (x0.b) (x0.a.umin)) ea0, .o, .a 0, .a 0, .cr vt6 (ok_scalar_relation_synced ((⟨x0.a, ra0⟩ : SS))) ea1, .o, .o, .a 1, .o]
    [1, 1, 1, 1, 1, 1, 1, 1, 1, 1, 1, 1] (fun b => by kernel_rfl)
theorem p2_scalar_relation_unlike (x0 : SS) (ra0 : S) (ea0 : m_scalar_except x0.a x0.b.umin = ra0) (ra1 : (SS) × (Bool)) (ea1 : m_scalar_relation_synced (⟨ra0, x0.b⟩ : SS) = ra1) (h0 : (m_scalar_isConst x0.a) = false) (h1 : (m_scalar_isConst x0.b) = true) : Con Tryz.prog 110 #[(ssv (x0))] (vt6 (ra1)) :=
  fn_conI (P := Tryz.prog) Tryz.func110 (fun xs w => by kernel_rfl) _ _
    [.o, .o, .o, .r [0, 1, 2, 3] [4, 5] [6, 7], .o, .a 0, .o, .a 0, .a 2, .a 3, .a 2, .cb (ok_scalar_isConst (x0.a)) h0, .o, .o, .a 3, .cb (ok_scalar_isConst (x0.b)) h1, .a 2, .o, .a 3, .cr sv (ok_scalar_except (x0.a) (x0.b.umin)) ea0, .o, .a 0, .a 2, .cb (ok_scalar_isConst (x0.a)) h0, .a 0, .cr vt6 (ok_scalar_relation_synced ((⟨ra0, x0.b⟩ : SS))) ea1, .o, .o, .a 1, .o]
    [1, 1, 1, 1, 1, 1, 1, 1, 1, 1, 1, 1] (fun b => by kernel_rfl)
theorem p3_scalar_relation_unlike (x0 : SS) (ra0 : (SS) × (Bool)) (ea0 : m_scalar_relation_synced x0 = ra0) (h0 : (m_scalar_isConst x0.a) = false) (h1 : (m_scalar_isConst x0.b) = false) : Con Tryz.prog 110 #[(ssv (x0))] (vt6 (ra0)) :=
  fn_conI (P := Tryz.prog) Tryz.func110 (fun xs w => by kernel_rfl) _ _
    [.o, .o, .o, .r [0, 1, 2, 3] [4, 5] [6, 7], .o, .a 0, .o, .a 0, .a 2, .a 3, .a 2, .cb (ok_scalar_isConst (x0.a)) h0, .o, .o, .a 3, .cb (ok_scalar_isConst (x0.b)) h1, .a 2, .cb (ok_scalar_isConst (x0.a)) h0, .a 0, .cr vt6 (ok_scalar_relation_synced (x0)) ea0, .o, .o, .a 1, .o]
    [1, 1, 1, 1, 1, 1, 1, 1, 1, 1, 1, 1] (fun b => by kernel_rfl)
theorem ok_scalar_relation_unlike (x0 : SS) : Con Tryz.prog 110 #[(ssv (x0))] (vt6 (m_scalar_relation_unlike x0)) := by
  unfold m_scalar_relation_unlike
  refine Con.cond vt6 _ _ _ (fun h0 => ?_) (fun h0 => ?_)
  · refine Con.cond vt6 _ _ _ (fun h1 => ?_) (fun h1 => ?_)
    · exact p0_scalar_relation_unlike x0 h0 h1
    · exact p1_scalar_relation_unlike x0 _ rfl _ rfl h0 h1
  · refine Con.cond vt6 _ _ _ (fun h1 => ?_) (fun h1 => ?_)
    · exact p2_scalar_relation_unlike x0 _ rfl _ rfl h0 h1
    · exact p3_scalar_relation_unlike x0 _ rfl h0 h1
-- (barbican/scalar.relation).above
def m_scalar_relation_above (x0 : SS) : (SS) × (Bool) :=
  (bif x0.b.umin == 18446744073709551615#64 then
    (((⟨zS, zS⟩ : SS), false))
    else (bif x0.a.umax == 0#64 then
      (((⟨zS, zS⟩ : SS), false))
      else ((m_scalar_relation_synced (⟨(⟨x0.a.t, (uMax x0.a.umin (x0.b.umin + 1#64)), x0.a.umax, x0.a.smin, x0.a.smax⟩ : S), (⟨x0.b.t, x0.b.umin, (uMin x0.b.umax (x0.a.umax - 1#64)), x0.b.smin, x0.b.smax⟩ : S)⟩ : SS)))))
theorem p0_scalar_relation_above (x0 : SS) (h0 : (x0.b.umin == 18446744073709551615#64) = true) : Con Tryz.prog 111 #[(ssv (x0))] (.tuple #[(ssv ((⟨zS, zS⟩ : SS))), (.bool (false))]) :=
  fn_conI (P := Tryz.prog) Tryz.func111 (fun xs w => by kernel_rfl) _ _
    [.o, .o, .o, .o, .o, .a 0, .t (u_eq x0.b.umin 18446744073709551615#64) h0, .o, .o, .o, .a 1, .o]
    [1, 1, 1, 1, 1, 1, 1, 1, 1, 1, 1, 1] (fun b => by kernel_rfl)
theorem p1_scalar_relation_above (x0 : SS) (h0 : (x0.b.umin == 18446744073709551615#64) = false) (h1 : (x0.a.umax == 0#64) = true) : Con Tryz.prog 111 #[(ssv (x0))] (.tuple #[(ssv ((⟨zS, zS⟩ : SS))), (.bool (false))]) :=
  fn_conI (P := Tryz.prog) Tryz.func111 (fun xs w => by kernel_rfl) _ _
    [.o, .o, .o, .o, .o, .a 0, .t (u_eq x0.b.umin 18446744073709551615#64) h0, .o, .o, .o, .a 0, .t (u_eq x0.a.umax 0#64) h1, .o, .o, .a 1, .o]
    [1, 1, 1, 1, 1, 1, 1, 1, 1, 1, 1, 1] (fun b => by kernel_rfl)
theorem p2_scalar_relation_above (x0 : SS) (ra0 : (SS) × (Bool)) (ea0 : m_scalar_relation_synced (⟨(⟨x0.a.t, (uMax x0.a.umin (x0.b.umin + 1#64)), x0.a.umax, x0.a.smin, x0.a.smax⟩ : S), (⟨x0.b.t, x0.b.umin, (uMin x0.b.umax (x0.a.umax - 1#64)), x0.b.smin, x0.b.smax⟩ : S)⟩ : SS) = ra0) (h0 : (x0.b.umin == 18446744073709551615#64) = false) (h1 : (x0.a.umax == 0#64) = false) : Con Tryz.prog 111 #[(ssv (x0))] (vt6 (ra0)) :=
  fn_conI (P := Tryz.prog) Tryz.func111 (fun xs w => by kernel_rfl) _ _
    [.o, .o, .o, .o, .o, .a 0, .t (u_eq x0.b.umin 18446744073709551615#64) h0, .o, .o, .o, .a 0, .t (u_eq x0.a.umax 0#64) h1, .o, .r [0, 1, 2, 3, 4, 5, 6, 7, 8, 9] [] [], .o, .o, .a 0, .v .u64 (u64_add x0.b.umin 1#64), .o, .o, .a 0, .v .u64 (u64_sub x0.a.umax 1#64), .o, .o, .o, .o, .a 0, .o, .v .u64 (u_max x0.a.umin (x0.b.umin + 1#64)), .o, .o, .a 0, .o, .o, .a 0, .o, .v .u64 (u_min x0.b.umax (x0.a.umax - 1#64)), .o, .o, .a 0, .a 0, .cr vt6 (ok_scalar_relation_synced ((⟨(⟨x0.a.t, (uMax x0.a.umin (x0.b.umin + 1#64)), x0.a.umax, x0.a.smin, x0.a.smax⟩ : S), (⟨x0.b.t, x0.b.umin, (uMin x0.b.umax (x0.a.umax - 1#64)), x0.b.smin, x0.b.smax⟩ : S)⟩ : SS))) ea0, .o, .o, .a 1, .o]
    [1, 1, 1, 1, 1, 1, 1, 1, 1, 1, 1, 1] (fun b => by kernel_rfl)
theorem ok_scalar_relation_above (x0 : SS) : Con Tryz.prog 111 #[(ssv (x0))] (vt6 (m_scalar_relation_above x0)) := by
  unfold m_scalar_relation_above
  refine Con.cond vt6 _ _ _ (fun h0 => ?_) (fun h0 => ?_)
  · exact p0_scalar_relation_above x0 h0
  · refine Con.cond vt6 _ _ _ (fun h1 => ?_) (fun h1 => ?_)
    · exact p1_scalar_relation_above x0 h0 h1
    · exact p2_scalar_relation_above x0 _ rfl h0 h1
-- (barbican/scalar.relation).turned
def m_scalar_relation_turned_111 (x0 : SS) : (SS) × (Bool) :=
  (((⟨(m_scalar_relation_above (⟨x0.b, x0.a⟩ : SS)).1.b, (m_scalar_relation_above (⟨x0.b, x0.a⟩ : SS)).1.a⟩ : SS), (m_scalar_relation_above (⟨x0.b, x0.a⟩ : SS)).2))
theorem p0_scalar_relation_turned_111 (x0 : SS) (ra0 : (SS) × (Bool)) (ea0 : m_scalar_relation_above (⟨x0.b, x0.a⟩ : SS) = ra0) : Con Tryz.prog 113 #[(ssv (x0)), .func (.func 111) #[] #[]] (.tuple #[(ssv ((⟨ra0.1.b, ra0.1.a⟩ : SS))), (.bool (ra0.2))]) :=
  fn_conI (P := Tryz.prog) Tryz.func113 (fun xs w => by kernel_rfl) _ _
    [.o, .o, .o, .o, .o, .a 0, .o, .a 0, .o, .cr vt6 (ok_scalar_relation_above ((⟨x0.b, x0.a⟩ : SS))) ea0, .o, .o, .o, .o, .a 2, .o, .o, .a 2, .o, .a 2, .o, .o, .a 1, .o]
    [1, 1, 1, 1, 1, 1, 1, 1, 1, 1, 1, 1] (fun b => by kernel_rfl)
theorem ok_scalar_relation_turned_111 (x0 : SS) : Con Tryz.prog 113 #[(ssv (x0)), .func (.func 111) #[] #[]] (vt6 (m_scalar_relation_turned_111 x0)) := by
  unfold m_scalar_relation_turned_111
  exact p0_scalar_relation_turned_111 x0 _ rfl
-- (barbican/scalar.relation).aboveSigned
def m_scalar_relation_aboveSigned (x0 : SS) : (SS) × (Bool) :=
  (bif x0.b.smin == 9223372036854775807#64 then
    (((⟨zS, zS⟩ : SS), false))
    else (bif x0.a.smax == 9223372036854775808#64 then
      (((⟨zS, zS⟩ : SS), false))
      else ((m_scalar_relation_synced (⟨(⟨x0.a.t, x0.a.umin, x0.a.umax, (sMax x0.a.smin (x0.b.smin + 1#64)), x0.a.smax⟩ : S), (⟨x0.b.t, x0.b.umin, x0.b.umax, x0.b.smin, (sMin x0.b.smax (x0.a.smax - 1#64))⟩ : S)⟩ : SS)))))
theorem p0_scalar_relation_aboveSigned (x0 : SS) (h0 : (x0.b.smin == 9223372036854775807#64) = true) : Con Tryz.prog 114 #[(ssv (x0))] (.tuple #[(ssv ((⟨zS, zS⟩ : SS))), (.bool (false))]) :=
  fn_conI (P := Tryz.prog) Tryz.func114 (fun xs w => by kernel_rfl) _ _
    [.o, .o, .o, .o, .o, .a 0, .t (i_eq x0.b.smin 9223372036854775807#64) h0, .o, .o, .o, .a 1, .o]
    [1, 1, 1, 1, 1, 1, 1, 1, 1, 1, 1, 1] (fun b => by kernel_rfl)
theorem p1_scalar_relation_aboveSigned (x0 : SS) (h0 : (x0.b.smin == 9223372036854775807#64) = false) (h1 : (x0.a.smax == 9223372036854775808#64) = true) : Con Tryz.prog 114 #[(ssv (x0))] (.tuple #[(ssv ((⟨zS, zS⟩ : SS))), (.bool (false))]) :=
  fn_conI (P := Tryz.prog) Tryz.func114 (fun xs w => by kernel_rfl) _ _
    [.o, .o, .o, .o, .o, .a 0, .t (i_eq x0.b.smin 9223372036854775807#64) h0, .o, .o, .o, .a 0, .t (i_eq x0.a.smax 9223372036854775808#64) h1, .o, .o, .a 1, .o]
    [1, 1, 1, 1, 1, 1, 1, 1, 1, 1, 1, 1] (fun b => by kernel_rfl)
theorem p2_scalar_relation_aboveSigned (x0 : SS) (ra0 : (SS) × (Bool)) (ea0 : m_scalar_relation_synced (⟨(⟨x0.a.t, x0.a.umin, x0.a.umax, (sMax x0.a.smin (x0.b.smin + 1#64)), x0.a.smax⟩ : S), (⟨x0.b.t, x0.b.umin, x0.b.umax, x0.b.smin, (sMin x0.b.smax (x0.a.smax - 1#64))⟩ : S)⟩ : SS) = ra0) (h0 : (x0.b.smin == 9223372036854775807#64) = false) (h1 : (x0.a.smax == 9223372036854775808#64) = false) : Con Tryz.prog 114 #[(ssv (x0))] (vt6 (ra0)) :=
  fn_conI (P := Tryz.prog) Tryz.func114 (fun xs w => by kernel_rfl) _ _
    [.o, .o, .o, .o, .o, .a 0, .t (i_eq x0.b.smin 9223372036854775807#64) h0, .o, .o, .o, .a 0, .t (i_eq x0.a.smax 9223372036854775808#64) h1, .o, .r [0, 1, 2, 3, 4, 5, 6, 7, 8, 9] [] [], .o, .o, .a 0, .v .i64 (i64_add x0.b.smin 1#64), .o, .o, .a 0, .v .i64 (i64_sub x0.a.smax 1#64), .o, .o, .o, .o, .a 0, .o, .v .i64 (i_max x0.a.smin (x0.b.smin + 1#64)), .o, .o, .a 0, .o, .o, .a 0, .o, .v .i64 (i_min x0.b.smax (x0.a.smax - 1#64)), .o, .o, .a 0, .a 0, .cr vt6 (ok_scalar_relation_synced ((⟨(⟨x0.a.t, x0.a.umin, x0.a.umax, (sMax x0.a.smin (x0.b.smin + 1#64)), x0.a.smax⟩ : S), (⟨x0.b.t, x0.b.umin, x0.b.umax, x0.b.smin, (sMin x0.b.smax (x0.a.smax - 1#64))⟩ : S)⟩ : SS))) ea0, .o, .o, .a 1, .o]
    [1, 1, 1, 1, 1, 1, 1, 1, 1, 1, 1, 1] (fun b => by kernel_rfl)
theorem ok_scalar_relation_aboveSigned (x0 : SS) : Con Tryz.prog 114 #[(ssv (x0))] (vt6 (m_scalar_relation_aboveSigned x0)) := by
  unfold m_scalar_relation_aboveSigned
  refine Con.cond vt6 _ _ _ (fun h0 => ?_) (fun h0 => ?_)
  · exact p0_scalar_relation_aboveSigned x0 h0
  · refine Con.cond vt6 _ _ _ (fun h1 => ?_) (fun h1 => ?_)
    · exact p1_scalar_relation_aboveSigned x0 h0 h1
    · exact p2_scalar_relation_aboveSigned x0 _ rfl h0 h1
-- (barbican/scalar.relation).notBelowSigned
def m_scalar_relation_notBelowSigned (x0 : SS) : (SS) × (Bool) :=
  ((m_scalar_relation_synced (⟨(⟨x0.a.t, x0.a.umin, x0.a.umax, (sMax x0.a.smin x0.b.smin), x0.a.smax⟩ : S), (⟨x0.b.t, x0.b.umin, x0.b.umax, x0.b.smin, (sMin x0.b.smax x0.a.smax)⟩ : S)⟩ : SS)))
theorem p0_scalar_relation_notBelowSigned (x0 : SS) (ra0 : (SS) × (Bool)) (ea0 : m_scalar_relation_synced (⟨(⟨x0.a.t, x0.a.umin, x0.a.umax, (sMax x0.a.smin x0.b.smin), x0.a.smax⟩ : S), (⟨x0.b.t, x0.b.umin, x0.b.umax, x0.b.smin, (sMin x0.b.smax x0.a.smax)⟩ : S)⟩ : SS) = ra0) : Con Tryz.prog 115 #[(ssv (x0))] (vt6 (ra0)) :=
  fn_conI (P := Tryz.prog) Tryz.func115 (fun xs w => by kernel_rfl) _ _
    [.o, .o, .o, .r [0, 1, 2, 3, 4, 5, 6, 7] [] [], .o, .o, .a 0, .o, .o, .a 0, .o, .o, .o, .o, .a 0, .o, .v .i64 (i_max x0.a.smin x0.b.smin), .o, .o, .a 0, .o, .o, .a 0, .o, .v .i64 (i_min x0.b.smax x0.a.smax), .o, .o, .a 0, .a 0, .cr vt6 (ok_scalar_relation_synced ((⟨(⟨x0.a.t, x0.a.umin, x0.a.umax, (sMax x0.a.smin x0.b.smin), x0.a.smax⟩ : S), (⟨x0.b.t, x0.b.umin, x0.b.umax, x0.b.smin, (sMin x0.b.smax x0.a.smax)⟩ : S)⟩ : SS))) ea0, .o, .o, .a 1, .o]
    [1, 1, 1, 1, 1, 1, 1, 1, 1, 1, 1, 1] (fun b => by kernel_rfl)
theorem ok_scalar_relation_notBelowSigned (x0 : SS) : Con Tryz.prog 115 #[(ssv (x0))] (vt6 (m_scalar_relation_notBelowSigned x0)) := by
  unfold m_scalar_relation_notBelowSigned
  exact p0_scalar_relation_notBelowSigned x0 _ rfl
-- (barbican/scalar.relation).turned
def m_scalar_relation_turned_114 (x0 : SS) : (SS) × (Bool) :=
  (((⟨(m_scalar_relation_aboveSigned (⟨x0.b, x0.a⟩ : SS)).1.b, (m_scalar_relation_aboveSigned (⟨x0.b, x0.a⟩ : SS)).1.a⟩ : SS), (m_scalar_relation_aboveSigned (⟨x0.b, x0.a⟩ : SS)).2))
theorem p0_scalar_relation_turned_114 (x0 : SS) (ra0 : (SS) × (Bool)) (ea0 : m_scalar_relation_aboveSigned (⟨x0.b, x0.a⟩ : SS) = ra0) : Con Tryz.prog 113 #[(ssv (x0)), .func (.func 114) #[] #[]] (.tuple #[(ssv ((⟨ra0.1.b, ra0.1.a⟩ : SS))), (.bool (ra0.2))]) :=
  fn_conI (P := Tryz.prog) Tryz.func113 (fun xs w => by kernel_rfl) _ _
    [.o, .o, .o, .o, .o, .a 0, .o, .a 0, .o, .cr vt6 (ok_scalar_relation_aboveSigned ((⟨x0.b, x0.a⟩ : SS))) ea0, .o, .o, .o, .o, .a 2, .o, .o, .a 2, .o, .a 2, .o, .o, .a 1, .o]
    [1, 1, 1, 1, 1, 1, 1, 1, 1, 1, 1, 1] (fun b => by kernel_rfl)
theorem ok_scalar_relation_turned_114 (x0 : SS) : Con Tryz.prog 113 #[(ssv (x0)), .func (.func 114) #[] #[]] (vt6 (m_scalar_relation_turned_114 x0)) := by
  unfold m_scalar_relation_turned_114
  exact p0_scalar_relation_turned_114 x0 _ rfl
-- (barbican/scalar.relation).turned
def m_scalar_relation_turned_115 (x0 : SS) : (SS) × (Bool) :=
  (((⟨(m_scalar_relation_notBelowSigned (⟨x0.b, x0.a⟩ : SS)).1.b, (m_scalar_relation_notBelowSigned (⟨x0.b, x0.a⟩ : SS)).1.a⟩ : SS), (m_scalar_relation_notBelowSigned (⟨x0.b, x0.a⟩ : SS)).2))
theorem p0_scalar_relation_turned_115 (x0 : SS) (ra0 : (SS) × (Bool)) (ea0 : m_scalar_relation_notBelowSigned (⟨x0.b, x0.a⟩ : SS) = ra0) : Con Tryz.prog 113 #[(ssv (x0)), .func (.func 115) #[] #[]] (.tuple #[(ssv ((⟨ra0.1.b, ra0.1.a⟩ : SS))), (.bool (ra0.2))]) :=
  fn_conI (P := Tryz.prog) Tryz.func113 (fun xs w => by kernel_rfl) _ _
    [.o, .o, .o, .o, .o, .a 0, .o, .a 0, .o, .cr vt6 (ok_scalar_relation_notBelowSigned ((⟨x0.b, x0.a⟩ : SS))) ea0, .o, .o, .o, .o, .a 2, .o, .o, .a 2, .o, .a 2, .o, .o, .a 1, .o]
    [1, 1, 1, 1, 1, 1, 1, 1, 1, 1, 1, 1] (fun b => by kernel_rfl)
theorem ok_scalar_relation_turned_115 (x0 : SS) : Con Tryz.prog 113 #[(ssv (x0)), .func (.func 115) #[] #[]] (vt6 (m_scalar_relation_turned_115 x0)) := by
  unfold m_scalar_relation_turned_115
  exact p0_scalar_relation_turned_115 x0 _ rfl
-- (barbican/scalar.relation).withBits
def m_scalar_relation_withBits (x0 : SS) (x1 : T) (x2 : T) : (SS) × (Bool) :=
  (bif (m_tnum_Meet x0.a.t x1).2 then
    (bif (m_tnum_Meet x0.b.t x2).2 then
      ((m_scalar_relation_synced (⟨(⟨(m_tnum_Meet x0.a.t x1).1, x0.a.umin, x0.a.umax, x0.a.smin, x0.a.smax⟩ : S), (⟨(m_tnum_Meet x0.b.t x2).1, x0.b.umin, x0.b.umax, x0.b.smin, x0.b.smax⟩ : S)⟩ : SS)))
      else (((⟨zS, zS⟩ : SS), false)))
    else (bif (m_tnum_Meet x0.b.t x2).2 then
      (((⟨zS, zS⟩ : SS), false))
      else (((⟨zS, zS⟩ : SS), false))))
theorem p0_scalar_relation_withBits (x0 : SS) (x1 : T) (x2 : T) (ra0 : (T) × (Bool)) (ea0 : m_tnum_Meet x0.a.t x1 = ra0) (ra1 : (T) × (Bool)) (ea1 : m_tnum_Meet x0.b.t x2 = ra1) (ra2 : (SS) × (Bool)) (ea2 : m_scalar_relation_synced (⟨(⟨ra0.1, x0.a.umin, x0.a.umax, x0.a.smin, x0.a.smax⟩ : S), (⟨ra1.1, x0.b.umin, x0.b.umax, x0.b.smin, x0.b.smax⟩ : S)⟩ : SS) = ra2) (h0 : (ra0.2) = true) (h1 : (ra1.2) = true) : Con Tryz.prog 146 #[(ssv (x0)), (tv (x1)), (tv (x2))] (vt6 (ra2)) :=
  fn_conI (P := Tryz.prog) Tryz.func146 (fun xs w => by kernel_rfl) _ _
    [.o, .o, .o, .o, .o, .o, .o, .o, .o, .a 0, .a 1, .cr vt0 (ok_tnum_Meet (x0.a.t) (x1)) ea0, .o, .o, .b h0, .o, .o, .a 0, .o, .o, .o, .a 0, .a 2, .cr vt0 (ok_tnum_Meet (x0.b.t) (x2)) ea1, .o, .o, .b h1, .o, .o, .a 0, .o, .o, .o, .o, .o, .o, .o, .a 0, .cr vt6 (ok_scalar_relation_synced ((⟨(⟨ra0.1, x0.a.umin, x0.a.umax, x0.a.smin, x0.a.smax⟩ : S), (⟨ra1.1, x0.b.umin, x0.b.umax, x0.b.smin, x0.b.smax⟩ : S)⟩ : SS))) ea2, .o, .o, .a 3, .o]
    [3, 3, 3, 3, 3, 3, 3, 3, 3, 3, 3, 3] (fun b => by kernel_rfl)
theorem p1_scalar_relation_withBits (x0 : SS) (x1 : T) (x2 : T) (ra0 : (T) × (Bool)) (ea0 : m_tnum_Meet x0.a.t x1 = ra0) (ra1 : (T) × (Bool)) (ea1 : m_tnum_Meet x0.b.t x2 = ra1) (h0 : (ra0.2) = true) (h1 : (ra1.2) = false) : Con Tryz.prog 146 #[(ssv (x0)), (tv (x1)), (tv (x2))] (.tuple #[(ssv ((⟨zS, zS⟩ : SS))), (.bool (false))]) :=
  fn_conI (P := Tryz.prog) Tryz.func146 (fun xs w => by kernel_rfl) _ _
    [.o, .o, .o, .o, .o, .o, .o, .o, .o, .a 0, .a 1, .cr vt0 (ok_tnum_Meet (x0.a.t) (x1)) ea0, .o, .o, .b h0, .o, .o, .a 0, .o, .o, .o, .a 0, .a 2, .cr vt0 (ok_tnum_Meet (x0.b.t) (x2)) ea1, .o, .o, .b h1, .o, .o, .a 0, .o, .o, .o, .o, .o, .o, .o, .o, .a 3, .o]
    [3, 3, 3, 3, 3, 3, 3, 3, 3, 3, 3, 3] (fun b => by kernel_rfl)
theorem p2_scalar_relation_withBits (x0 : SS) (x1 : T) (x2 : T) (ra0 : (T) × (Bool)) (ea0 : m_tnum_Meet x0.a.t x1 = ra0) (ra1 : (T) × (Bool)) (ea1 : m_tnum_Meet x0.b.t x2 = ra1) (h0 : (ra0.2) = false) (h1 : (ra1.2) = true) : Con Tryz.prog 146 #[(ssv (x0)), (tv (x1)), (tv (x2))] (.tuple #[(ssv ((⟨zS, zS⟩ : SS))), (.bool (false))]) :=
  fn_conI (P := Tryz.prog) Tryz.func146 (fun xs w => by kernel_rfl) _ _
    [.o, .o, .o, .o, .o, .o, .o, .o, .o, .a 0, .a 1, .cr vt0 (ok_tnum_Meet (x0.a.t) (x1)) ea0, .o, .o, .b h0, .o, .o, .a 0, .o, .o, .o, .a 0, .a 2, .cr vt0 (ok_tnum_Meet (x0.b.t) (x2)) ea1, .o, .o, .b h1, .o, .o, .a 0, .o, .o, .o, .o, .o, .o, .a 3, .o]
    [3, 3, 3, 3, 3, 3, 3, 3, 3, 3, 3, 3] (fun b => by kernel_rfl)
theorem p3_scalar_relation_withBits (x0 : SS) (x1 : T) (x2 : T) (ra0 : (T) × (Bool)) (ea0 : m_tnum_Meet x0.a.t x1 = ra0) (ra1 : (T) × (Bool)) (ea1 : m_tnum_Meet x0.b.t x2 = ra1) (h0 : (ra0.2) = false) (h1 : (ra1.2) = false) : Con Tryz.prog 146 #[(ssv (x0)), (tv (x1)), (tv (x2))] (.tuple #[(ssv ((⟨zS, zS⟩ : SS))), (.bool (false))]) :=
  fn_conI (P := Tryz.prog) Tryz.func146 (fun xs w => by kernel_rfl) _ _
    [.o, .o, .o, .o, .o, .o, .o, .o, .o, .a 0, .a 1, .cr vt0 (ok_tnum_Meet (x0.a.t) (x1)) ea0, .o, .o, .b h0, .o, .o, .a 0, .o, .o, .o, .a 0, .a 2, .cr vt0 (ok_tnum_Meet (x0.b.t) (x2)) ea1, .o, .o, .b h1, .o, .o, .a 0, .o, .o, .o, .o, .o, .o, .a 3, .o]
    [3, 3, 3, 3, 3, 3, 3, 3, 3, 3, 3, 3] (fun b => by kernel_rfl)
theorem ok_scalar_relation_withBits (x0 : SS) (x1 : T) (x2 : T) : Con Tryz.prog 146 #[(ssv (x0)), (tv (x1)), (tv (x2))] (vt6 (m_scalar_relation_withBits x0 x1 x2)) := by
  unfold m_scalar_relation_withBits
  refine Con.cond vt6 _ _ _ (fun h0 => ?_) (fun h0 => ?_)
  · refine Con.cond vt6 _ _ _ (fun h1 => ?_) (fun h1 => ?_)
    · exact p0_scalar_relation_withBits x0 x1 x2 _ rfl _ rfl _ rfl h0 h1
    · exact p1_scalar_relation_withBits x0 x1 x2 _ rfl _ rfl h0 h1
  · refine Con.cond vt6 _ _ _ (fun h1 => ?_) (fun h1 => ?_)
    · exact p2_scalar_relation_withBits x0 x1 x2 _ rfl _ rfl h0 h1
    · exact p3_scalar_relation_withBits x0 x1 x2 _ rfl _ rfl h0 h1
-- (barbican/scalar.relation).meeting
def m_scalar_relation_meeting (x0 : SS) : (SS) × (Bool) :=
  (bif ((m_tnum_Most x0.a.t) &&& (m_tnum_Most x0.b.t)) == 0#64 then
    (((⟨zS, zS⟩ : SS), false))
    else (bif (((m_tnum_Most x0.a.t) &&& (m_tnum_Most x0.b.t)) &&& (((m_tnum_Most x0.a.t) &&& (m_tnum_Most x0.b.t)) - 1#64)) == 0#64 then
      ((m_scalar_relation_withBits x0 (⟨((m_tnum_Most x0.a.t) &&& (m_tnum_Most x0.b.t)), (~~~((m_tnum_Most x0.a.t) &&& (m_tnum_Most x0.b.t)))⟩ : T) (⟨((m_tnum_Most x0.a.t) &&& (m_tnum_Most x0.b.t)), (~~~((m_tnum_Most x0.a.t) &&& (m_tnum_Most x0.b.t)))⟩ : T)))
      else ((x0, true))))
theorem p0_scalar_relation_meeting (x0 : SS) (ra0 : BitVec 64) (ea0 : m_tnum_Most x0.a.t = ra0) (ra1 : BitVec 64) (ea1 : m_tnum_Most x0.b.t = ra1) (h0 : ((ra0 &&& ra1) == 0#64) = true) : Con Tryz.prog 116 #[(ssv (x0))] (.tuple #[(ssv ((⟨zS, zS⟩ : SS))), (.bool (false))]) :=
  fn_conI (P := Tryz.prog) Tryz.func116 (fun xs w => by kernel_rfl) _ _
    [.o, .o, .o, .r [0, 1, 2, 3, 4, 5, 6, 7, 8, 9] [] [], .o, .o, .a 0, .cr (fun r => (Value.int .u64 (nn (r)))) (ok_tnum_Most (x0.a.t)) ea0, .o, .o, .a 0, .cr (fun r => (Value.int .u64 (nn (r)))) (ok_tnum_Most (x0.b.t)) ea1, .v .u64 (u64_and ra0 ra1), .o, .o, .t (u_eq (ra0 &&& ra1) 0#64) h0, .o, .a 1, .o]
    [1, 1, 1, 1, 1, 1, 1, 1, 1, 1, 1, 1] (fun b => by kernel_rfl)
theorem p1_scalar_relation_meeting (x0 : SS) (ra0 : BitVec 64) (ea0 : m_tnum_Most x0.a.t = ra0) (ra1 : BitVec 64) (ea1 : m_tnum_Most x0.b.t = ra1) (ra2 : (SS) × (Bool)) (ea2 : m_scalar_relation_withBits x0 (⟨(ra0 &&& ra1), (~~~(ra0 &&& ra1))⟩ : T) (⟨(ra0 &&& ra1), (~~~(ra0 &&& ra1))⟩ : T) = ra2) (h0 : ((ra0 &&& ra1) == 0#64) = false) (h1 : (((ra0 &&& ra1) &&& ((ra0 &&& ra1) - 1#64)) == 0#64) = true) : Con Tryz.prog 116 #[(ssv (x0))] (vt6 (ra2)) :=
  fn_conI (P := Tryz.prog) Tryz.func116 (fun xs w => by kernel_rfl) _ _
    [.o, .o, .o, .r [0, 1, 2, 3, 4, 5, 6, 7, 8, 9] [] [], .o, .o, .a 0, .cr (fun r => (Value.int .u64 (nn (r)))) (ok_tnum_Most (x0.a.t)) ea0, .o, .o, .a 0, .cr (fun r => (Value.int .u64 (nn (r)))) (ok_tnum_Most (x0.b.t)) ea1, .v .u64 (u64_and ra0 ra1), .o, .o, .t (u_eq (ra0 &&& ra1) 0#64) h0, .o, .o, .v .u64 (u64_sub (ra0 &&& ra1) 1#64), .v .u64 (u64_and (ra0 &&& ra1) ((ra0 &&& ra1) - 1#64)), .tn (u_ne ((ra0 &&& ra1) &&& ((ra0 &&& ra1) - 1#64)) 0#64) h1, .a 0, .o, .o, .v .u64 (u64_compl ((ra0 &&& ra1))), .o, .o, .o, .v .u64 (u64_compl ((ra0 &&& ra1))), .o, .cr vt6 (ok_scalar_relation_withBits (x0) ((⟨(ra0 &&& ra1), (~~~(ra0 &&& ra1))⟩ : T)) ((⟨(ra0 &&& ra1), (~~~(ra0 &&& ra1))⟩ : T))) ea2, .o, .o, .a 1, .o]
    [1, 1, 1, 1, 1, 1, 1, 1, 1, 1, 1, 1] (fun b => by kernel_rfl)
theorem p2_scalar_relation_meeting (x0 : SS) (ra0 : BitVec 64) (ea0 : m_tnum_Most x0.a.t = ra0) (ra1 : BitVec 64) (ea1 : m_tnum_Most x0.b.t = ra1) (h0 : ((ra0 &&& ra1) == 0#64) = false) (h1 : (((ra0 &&& ra1) &&& ((ra0 &&& ra1) - 1#64)) == 0#64) = false) : Con Tryz.prog 116 #[(ssv (x0))] (.tuple #[(ssv (x0)), (.bool (true))]) :=
  fn_conI (P := Tryz.prog) Tryz.func116 (fun xs w => by kernel_rfl) _ _
    [.o, .o, .o, .r [0, 1, 2, 3, 4, 5, 6, 7, 8, 9] [] [], .o, .o, .a 0, .cr (fun r => (Value.int .u64 (nn (r)))) (ok_tnum_Most (x0.a.t)) ea0, .o, .o, .a 0, .cr (fun r => (Value.int .u64 (nn (r)))) (ok_tnum_Most (x0.b.t)) ea1, .v .u64 (u64_and ra0 ra1), .o, .o, .t (u_eq (ra0 &&& ra1) 0#64) h0, .o, .o, .v .u64 (u64_sub (ra0 &&& ra1) 1#64), .v .u64 (u64_and (ra0 &&& ra1) ((ra0 &&& ra1) - 1#64)), .tn (u_ne ((ra0 &&& ra1) &&& ((ra0 &&& ra1) - 1#64)) 0#64) h1, .a 0, .a 1, .o]
    [1, 1, 1, 1, 1, 1, 1, 1, 1, 1, 1, 1] (fun b => by kernel_rfl)
theorem ok_scalar_relation_meeting (x0 : SS) : Con Tryz.prog 116 #[(ssv (x0))] (vt6 (m_scalar_relation_meeting x0)) := by
  unfold m_scalar_relation_meeting
  refine Con.cond vt6 _ _ _ (fun h0 => ?_) (fun h0 => ?_)
  · exact p0_scalar_relation_meeting x0 _ rfl _ rfl h0
  · refine Con.cond vt6 _ _ _ (fun h1 => ?_) (fun h1 => ?_)
    · exact p1_scalar_relation_meeting x0 _ rfl _ rfl _ rfl h0 h1
    · exact p2_scalar_relation_meeting x0 _ rfl _ rfl h0 h1
-- (barbican/scalar.relation).apart
def m_scalar_relation_apart (x0 : SS) : (SS) × (Bool) :=
  ((m_scalar_relation_withBits x0 (⟨0#64, (~~~x0.b.t.v)⟩ : T) (⟨0#64, (~~~x0.a.t.v)⟩ : T)))
theorem p0_scalar_relation_apart (x0 : SS) (ra0 : (SS) × (Bool)) (ea0 : m_scalar_relation_withBits x0 (⟨0#64, (~~~x0.b.t.v)⟩ : T) (⟨0#64, (~~~x0.a.t.v)⟩ : T) = ra0) : Con Tryz.prog 117 #[(ssv (x0))] (vt6 (ra0)) :=
  fn_conI (P := Tryz.prog) Tryz.func117 (fun xs w => by kernel_rfl) _ _
    [.o, .o, .o, .a 0, .o, .o, .o, .a 0, .v .u64 (u64_compl (x0.b.t.v)), .o, .o, .o, .o, .a 0, .v .u64 (u64_compl (x0.a.t.v)), .o, .cr vt6 (ok_scalar_relation_withBits (x0) ((⟨0#64, (~~~x0.b.t.v)⟩ : T)) ((⟨0#64, (~~~x0.a.t.v)⟩ : T))) ea0, .o, .o, .a 1, .o]
    [1, 1, 1, 1, 1, 1, 1, 1, 1, 1, 1, 1] (fun b => by kernel_rfl)
theorem ok_scalar_relation_apart (x0 : SS) : Con Tryz.prog 117 #[(ssv (x0))] (vt6 (m_scalar_relation_apart x0)) := by
  unfold m_scalar_relation_apart
  exact p0_scalar_relation_apart x0 _ rfl
-- (barbican/scalar.relation).holds
def m_scalar_relation_holds (x0 : SS) (x1 : BitVec 64) : (SS) × (Bool) :=
  (bif x1 == 1#64 then
    ((m_scalar_relation_equal x0))
    else (bif x1 == 5#64 then
      ((m_scalar_relation_unlike x0))
      else (bif x1 == 2#64 then
        ((m_scalar_relation_above x0))
        else (bif x1 == 3#64 then
          ((m_scalar_relation_notBelow x0))
          else (bif x1 == 10#64 then
            ((m_scalar_relation_turned_111 x0))
            else (bif x1 == 11#64 then
              ((m_scalar_relation_turned_112 x0))
              else (bif x1 == 6#64 then
                ((m_scalar_relation_aboveSigned x0))
                else (bif x1 == 7#64 then
                  ((m_scalar_relation_notBelowSigned x0))
                  else (bif x1 == 12#64 then
                    ((m_scalar_relation_turned_114 x0))
                    else (bif x1 == 13#64 then
                      ((m_scalar_relation_turned_115 x0))
                      else (bif x1 == 4#64 then
                        ((m_scalar_relation_meeting x0))
                        else ((m_scalar_relation_apart x0)))))))))))))
theorem p0_scalar_relation_holds (x0 : SS) (ra0 : (SS) × (Bool)) (ea0 : m_scalar_relation_equal x0 = ra0) : Con Tryz.prog 50 #[(ssv (x0)), (.int .i64 (ii (1#64)))] (vt6 (ra0)) :=
  fn_conI (P := Tryz.prog) Tryz.func50 (fun xs w => by kernel_rfl) _ _
    [.o, .o, .o, .o, .o, .o, .a 0, .cr vt6 (ok_scalar_relation_equal (x0)) ea0, .o, .o, .a 1, .o]
    [1, 1, 1, 1, 1, 1, 1, 1, 1, 1, 1, 1] (fun b => by kernel_rfl)
theorem p1_scalar_relation_holds (x0 : SS) (ra0 : (SS) × (Bool)) (ea0 : m_scalar_relation_unlike x0 = ra0) (h0 : (5#64 == 1#64) = false) : Con Tryz.prog 50 #[(ssv (x0)), (.int .i64 (ii (5#64)))] (vt6 (ra0)) :=
  fn_conI (P := Tryz.prog) Tryz.func50 (fun xs w => by kernel_rfl) _ _
    [.o, .o, .o, .o, .o, .o, .o, .o, .a 0, .cr vt6 (ok_scalar_relation_unlike (x0)) ea0, .o, .o, .a 1, .o]
    [1, 1, 1, 1, 1, 1, 1, 1, 1, 1, 1, 1] (fun b => by kernel_rfl)
theorem p2_scalar_relation_holds (x0 : SS) (ra0 : (SS) × (Bool)) (ea0 : m_scalar_relation_above x0 = ra0) (h0 : (2#64 == 1#64) = false) (h1 : (2#64 == 5#64) = false) : Con Tryz.prog 50 #[(ssv (x0)), (.int .i64 (ii (2#64)))] (vt6 (ra0)) :=
  fn_conI (P := Tryz.prog) Tryz.func50 (fun xs w => by kernel_rfl) _ _
    [.o, .o, .o, .o, .o, .o, .o, .o, .o, .o, .a 0, .cr vt6 (ok_scalar_relation_above (x0)) ea0, .o, .o, .a 1, .o]
    [1, 1, 1, 1, 1, 1, 1, 1, 1, 1, 1, 1] (fun b => by kernel_rfl)
theorem p3_scalar_relation_holds (x0 : SS) (ra0 : (SS) × (Bool)) (ea0 : m_scalar_relation_notBelow x0 = ra0) (h0 : (3#64 == 1#64) = false) (h1 : (3#64 == 5#64) = false) (h2 : (3#64 == 2#64) = false) : Con Tryz.prog 50 #[(ssv (x0)), (.int .i64 (ii (3#64)))] (vt6 (ra0)) :=
  fn_conI (P := Tryz.prog) Tryz.func50 (fun xs w => by kernel_rfl) _ _
    [.o, .o, .o, .o, .o, .o, .o, .o, .o, .o, .o, .o, .a 0, .cr vt6 (ok_scalar_relation_notBelow (x0)) ea0, .o, .o, .a 1, .o]
    [1, 1, 1, 1, 1, 1, 1, 1, 1, 1, 1, 1] (fun b => by kernel_rfl)
theorem p4_scalar_relation_holds (x0 : SS) (ra0 : (SS) × (Bool)) (ea0 : m_scalar_relation_turned_111 x0 = ra0) (h0 : (10#64 == 1#64) = false) (h1 : (10#64 == 5#64) = false) (h2 : (10#64 == 2#64) = false) (h3 : (10#64 == 3#64) = false) : Con Tryz.prog 50 #[(ssv (x0)), (.int .i64 (ii (10#64)))] (vt6 (ra0)) :=
  fn_conI (P := Tryz.prog) Tryz.func50 (fun xs w => by kernel_rfl) _ _
    [.o, .o, .o, .o, .o, .o, .o, .o, .o, .o, .o, .o, .o, .o, .a 0, .cr vt6 (ok_scalar_relation_turned_111 (x0)) ea0, .o, .o, .a 1, .o]
    [1, 1, 1, 1, 1, 1, 1, 1, 1, 1, 1, 1] (fun b => by kernel_rfl)
theorem p5_scalar_relation_holds (x0 : SS) (ra0 : (SS) × (Bool)) (ea0 : m_scalar_relation_turned_112 x0 = ra0) (h0 : (11#64 == 1#64) = false) (h1 : (11#64 == 5#64) = false) (h2 : (11#64 == 2#64) = false) (h3 : (11#64 == 3#64) = false) (h4 : (11#64 == 10#64) = false) : Con Tryz.prog 50 #[(ssv (x0)), (.int .i64 (ii (11#64)))] (vt6 (ra0)) :=
  fn_conI (P := Tryz.prog) Tryz.func50 (fun xs w => by kernel_rfl) _ _
    [.o, .o, .o, .o, .o, .o, .o, .o, .o, .o, .o, .o, .o, .o, .o, .o, .a 0, .cr vt6 (ok_scalar_relation_turned_112 (x0)) ea0, .o, .o, .a 1, .o]
    [1, 1, 1, 1, 1, 1, 1, 1, 1, 1, 1, 1] (fun b => by kernel_rfl)
theorem p6_scalar_relation_holds (x0 : SS) (ra0 : (SS) × (Bool)) (ea0 : m_scalar_relation_aboveSigned x0 = ra0) (h0 : (6#64 == 1#64) = false) (h1 : (6#64 == 5#64) = false) (h2 : (6#64 == 2#64) = false) (h3 : (6#64 == 3#64) = false) (h4 : (6#64 == 10#64) = false) (h5 : (6#64 == 11#64) = false) : Con Tryz.prog 50 #[(ssv (x0)), (.int .i64 (ii (6#64)))] (vt6 (ra0)) :=
  fn_conI (P := Tryz.prog) Tryz.func50 (fun xs w => by kernel_rfl) _ _
    [.o, .o, .o, .o, .o, .o, .o, .o, .o, .o, .o, .o, .o, .o, .o, .o, .o, .o, .a 0, .cr vt6 (ok_scalar_relation_aboveSigned (x0)) ea0, .o, .o, .a 1, .o]
    [1, 1, 1, 1, 1, 1, 1, 1, 1, 1, 1, 1] (fun b => by kernel_rfl)
theorem p7_scalar_relation_holds (x0 : SS) (ra0 : (SS) × (Bool)) (ea0 : m_scalar_relation_notBelowSigned x0 = ra0) (h0 : (7#64 == 1#64) = false) (h1 : (7#64 == 5#64) = false) (h2 : (7#64 == 2#64) = false) (h3 : (7#64 == 3#64) = false) (h4 : (7#64 == 10#64) = false) (h5 : (7#64 == 11#64) = false) (h6 : (7#64 == 6#64) = false) : Con Tryz.prog 50 #[(ssv (x0)), (.int .i64 (ii (7#64)))] (vt6 (ra0)) :=
  fn_conI (P := Tryz.prog) Tryz.func50 (fun xs w => by kernel_rfl) _ _
    [.o, .o, .o, .o, .o, .o, .o, .o, .o, .o, .o, .o, .o, .o, .o, .o, .o, .o, .o, .o, .a 0, .cr vt6 (ok_scalar_relation_notBelowSigned (x0)) ea0, .o, .o, .a 1, .o]
    [1, 1, 1, 1, 1, 1, 1, 1, 1, 1, 1, 1] (fun b => by kernel_rfl)
theorem p8_scalar_relation_holds (x0 : SS) (ra0 : (SS) × (Bool)) (ea0 : m_scalar_relation_turned_114 x0 = ra0) (h0 : (12#64 == 1#64) = false) (h1 : (12#64 == 5#64) = false) (h2 : (12#64 == 2#64) = false) (h3 : (12#64 == 3#64) = false) (h4 : (12#64 == 10#64) = false) (h5 : (12#64 == 11#64) = false) (h6 : (12#64 == 6#64) = false) (h7 : (12#64 == 7#64) = false) : Con Tryz.prog 50 #[(ssv (x0)), (.int .i64 (ii (12#64)))] (vt6 (ra0)) :=
  fn_conI (P := Tryz.prog) Tryz.func50 (fun xs w => by kernel_rfl) _ _
    [.o, .o, .o, .o, .o, .o, .o, .o, .o, .o, .o, .o, .o, .o, .o, .o, .o, .o, .o, .o, .o, .o, .a 0, .cr vt6 (ok_scalar_relation_turned_114 (x0)) ea0, .o, .o, .a 1, .o]
    [1, 1, 1, 1, 1, 1, 1, 1, 1, 1, 1, 1] (fun b => by kernel_rfl)
theorem p9_scalar_relation_holds (x0 : SS) (ra0 : (SS) × (Bool)) (ea0 : m_scalar_relation_turned_115 x0 = ra0) (h0 : (13#64 == 1#64) = false) (h1 : (13#64 == 5#64) = false) (h2 : (13#64 == 2#64) = false) (h3 : (13#64 == 3#64) = false) (h4 : (13#64 == 10#64) = false) (h5 : (13#64 == 11#64) = false) (h6 : (13#64 == 6#64) = false) (h7 : (13#64 == 7#64) = false) (h8 : (13#64 == 12#64) = false) : Con Tryz.prog 50 #[(ssv (x0)), (.int .i64 (ii (13#64)))] (vt6 (ra0)) :=
  fn_conI (P := Tryz.prog) Tryz.func50 (fun xs w => by kernel_rfl) _ _
    [.o, .o, .o, .o, .o, .o, .o, .o, .o, .o, .o, .o, .o, .o, .o, .o, .o, .o, .o, .o, .o, .o, .o, .o, .a 0, .cr vt6 (ok_scalar_relation_turned_115 (x0)) ea0, .o, .o, .a 1, .o]
    [1, 1, 1, 1, 1, 1, 1, 1, 1, 1, 1, 1] (fun b => by kernel_rfl)
theorem p10_scalar_relation_holds (x0 : SS) (ra0 : (SS) × (Bool)) (ea0 : m_scalar_relation_meeting x0 = ra0) (h0 : (4#64 == 1#64) = false) (h1 : (4#64 == 5#64) = false) (h2 : (4#64 == 2#64) = false) (h3 : (4#64 == 3#64) = false) (h4 : (4#64 == 10#64) = false) (h5 : (4#64 == 11#64) = false) (h6 : (4#64 == 6#64) = false) (h7 : (4#64 == 7#64) = false) (h8 : (4#64 == 12#64) = false) (h9 : (4#64 == 13#64) = false) : Con Tryz.prog 50 #[(ssv (x0)), (.int .i64 (ii (4#64)))] (vt6 (ra0)) :=
  fn_conI (P := Tryz.prog) Tryz.func50 (fun xs w => by kernel_rfl) _ _
    [.o, .o, .o, .o, .o, .o, .o, .o, .o, .o, .o, .o, .o, .o, .o, .o, .o, .o, .o, .o, .o, .o, .o, .o, .o, .o, .a 0, .cr vt6 (ok_scalar_relation_meeting (x0)) ea0, .o, .o, .a 1, .o]
    [1, 1, 1, 1, 1, 1, 1, 1, 1, 1, 1, 1] (fun b => by kernel_rfl)
theorem p11_scalar_relation_holds (x0 : SS) (x1 : BitVec 64) (ra0 : (SS) × (Bool)) (ea0 : m_scalar_relation_apart x0 = ra0) (h0 : (x1 == 1#64) = false) (h1 : (x1 == 5#64) = false) (h2 : (x1 == 2#64) = false) (h3 : (x1 == 3#64) = false) (h4 : (x1 == 10#64) = false) (h5 : (x1 == 11#64) = false) (h6 : (x1 == 6#64) = false) (h7 : (x1 == 7#64) = false) (h8 : (x1 == 12#64) = false) (h9 : (x1 == 13#64) = false) (h10 : (x1 == 4#64) = false) : Con Tryz.prog 50 #[(ssv (x0)), (.int .i64 (ii (x1)))] (vt6 (ra0)) :=
  fn_conI (P := Tryz.prog) Tryz.func50 (fun xs w => by kernel_rfl) _ _
    [.o, .o, .o, .o, .t (i_eq x1 1#64) h0, .o, .t (i_eq x1 5#64) h1, .o, .t (i_eq x1 2#64) h2, .o, .t (i_eq x1 3#64) h3, .o, .t (i_eq x1 10#64) h4, .o, .t (i_eq x1 11#64) h5, .o, .t (i_eq x1 6#64) h6, .o, .t (i_eq x1 7#64) h7, .o, .t (i_eq x1 12#64) h8, .o, .t (i_eq x1 13#64) h9, .o, .t (i_eq x1 4#64) h10, .o, .a 0, .cr vt6 (ok_scalar_relation_apart (x0)) ea0, .o, .o, .a 1, .o]
    [1, 1, 1, 1, 1, 1, 1, 1, 1, 1, 1, 1] (fun b => by kernel_rfl)
theorem ok_scalar_relation_holds (x0 : SS) (x1 : BitVec 64) : Con Tryz.prog 50 #[(ssv (x0)), (.int .i64 (ii (x1)))] (vt6 (m_scalar_relation_holds x0 x1)) := by
  unfold m_scalar_relation_holds
  refine Con.cond vt6 _ _ _ (fun h0 => ?_) (fun h0 => ?_)
  · have e0 := eq_of_beq h0; subst e0
    exact p0_scalar_relation_holds x0 _ rfl
  · refine Con.cond vt6 _ _ _ (fun h1 => ?_) (fun h1 => ?_)
    · have e1 := eq_of_beq h1; subst e1
      exact p1_scalar_relation_holds x0 _ rfl h0
    · refine Con.cond vt6 _ _ _ (fun h2 => ?_) (fun h2 => ?_)
      · have e2 := eq_of_beq h2; subst e2
        exact p2_scalar_relation_holds x0 _ rfl h0 h1
      · refine Con.cond vt6 _ _ _ (fun h3 => ?_) (fun h3 => ?_)
        · have e3 := eq_of_beq h3; subst e3
          exact p3_scalar_relation_holds x0 _ rfl h0 h1 h2
        · refine Con.cond vt6 _ _ _ (fun h4 => ?_) (fun h4 => ?_)
          · have e4 := eq_of_beq h4; subst e4
            exact p4_scalar_relation_holds x0 _ rfl h0 h1 h2 h3
          · refine Con.cond vt6 _ _ _ (fun h5 => ?_) (fun h5 => ?_)
            · have e5 := eq_of_beq h5; subst e5
              exact p5_scalar_relation_holds x0 _ rfl h0 h1 h2 h3 h4
            · refine Con.cond vt6 _ _ _ (fun h6 => ?_) (fun h6 => ?_)
              · have e6 := eq_of_beq h6; subst e6
                exact p6_scalar_relation_holds x0 _ rfl h0 h1 h2 h3 h4 h5
              · refine Con.cond vt6 _ _ _ (fun h7 => ?_) (fun h7 => ?_)
                · have e7 := eq_of_beq h7; subst e7
                  exact p7_scalar_relation_holds x0 _ rfl h0 h1 h2 h3 h4 h5 h6
                · refine Con.cond vt6 _ _ _ (fun h8 => ?_) (fun h8 => ?_)
                  · have e8 := eq_of_beq h8; subst e8
                    exact p8_scalar_relation_holds x0 _ rfl h0 h1 h2 h3 h4 h5 h6 h7
                  · refine Con.cond vt6 _ _ _ (fun h9 => ?_) (fun h9 => ?_)
                    · have e9 := eq_of_beq h9; subst e9
                      exact p9_scalar_relation_holds x0 _ rfl h0 h1 h2 h3 h4 h5 h6 h7 h8
                    · refine Con.cond vt6 _ _ _ (fun h10 => ?_) (fun h10 => ?_)
                      · have e10 := eq_of_beq h10; subst e10
                        exact p10_scalar_relation_holds x0 _ rfl h0 h1 h2 h3 h4 h5 h6 h7 h8 h9
                      · exact p11_scalar_relation_holds x0 x1 _ rfl h0 h1 h2 h3 h4 h5 h6 h7 h8 h9 h10
-- (barbican/scalar.relation).holds
def m_scalar_relation_holds_6 (x0 : SS) : (SS) × (Bool) :=
  ((m_scalar_relation_aboveSigned x0))
theorem p0_scalar_relation_holds_6 (x0 : SS) (ra0 : (SS) × (Bool)) (ea0 : m_scalar_relation_aboveSigned x0 = ra0) : Con Tryz.prog 50 #[(ssv (x0)), .int .i64 ((6))] (vt6 (ra0)) :=
  fn_conI (P := Tryz.prog) Tryz.func50 (fun xs w => by kernel_rfl) _ _
    [.o, .o, .o, .o, .o, .o, .o, .o, .o, .o, .o, .o, .o, .o, .o, .o, .o, .o, .a 0, .cr vt6 (ok_scalar_relation_aboveSigned (x0)) ea0, .o, .o, .a 1, .o]
    [1, 1, 1, 1, 1, 1, 1, 1, 1, 1, 1, 1] (fun b => by kernel_rfl)
theorem ok_scalar_relation_holds_6 (x0 : SS) : Con Tryz.prog 50 #[(ssv (x0)), .int .i64 ((6))] (vt6 (m_scalar_relation_holds_6 x0)) := by
  unfold m_scalar_relation_holds_6
  exact p0_scalar_relation_holds_6 x0 _ rfl
-- barbican/scalar.withLow
def m_scalar_withLow (x0 : S) (x1 : S) : (S) × (Bool) :=
  (bif BitVec.ult 4294967295#64 x0.umax then
    (bif (m_tnum_Meet x0.t (⟨x1.t.v, (x1.t.m ||| 18446744069414584320#64)⟩ : T)).2 then
      ((m_Sync (⟨(m_tnum_Meet x0.t (⟨x1.t.v, (x1.t.m ||| 18446744069414584320#64)⟩ : T)).1, x0.umin, x0.umax, x0.smin, x0.smax⟩ : S)))
      else ((zS, false)))
    else ((m_scalar_Meet x0 x1)))
theorem p0_scalar_withLow (x0 : S) (x1 : S) (ra0 : (T) × (Bool)) (ea0 : m_tnum_Meet x0.t (⟨x1.t.v, (x1.t.m ||| 18446744069414584320#64)⟩ : T) = ra0) (ra1 : (S) × (Bool)) (ea1 : m_Sync (⟨ra0.1, x0.umin, x0.umax, x0.smin, x0.smax⟩ : S) = ra1) (h0 : (BitVec.ult 4294967295#64 x0.umax) = true) (h1 : (ra0.2) = true) : Con Tryz.prog 119 #[(sv (x0)), (sv (x1))] (vt2 (ra1)) :=
  fn_conI (P := Tryz.prog) Tryz.func119 (fun xs w => by kernel_rfl) _ _
    [.o, .o, .o, .o, .o, .a 0, .tn (u_le x0.umax 4294967295#64) h0, .o, .a 0, .o, .o, .a 1, .o, .o, .a 1, .v .u64 (u64_or x1.t.m 18446744069414584320#64), .o, .cr vt0 (ok_tnum_Meet (x0.t) ((⟨x1.t.v, (x1.t.m ||| 18446744069414584320#64)⟩ : T))) ea0, .o, .o, .b h1, .o, .a 3, .o, .o, .o, .a 3, .o, .a 0, .a 0, .cr vt2 (ok_Sync ((⟨ra0.1, x0.umin, x0.umax, x0.smin, x0.smax⟩ : S))) ea1, .o, .o, .a 2, .o]
    [2, 2, 2, 2, 2, 2] (fun b => by kernel_rfl)
theorem p1_scalar_withLow (x0 : S) (x1 : S) (ra0 : (T) × (Bool)) (ea0 : m_tnum_Meet x0.t (⟨x1.t.v, (x1.t.m ||| 18446744069414584320#64)⟩ : T) = ra0) (h0 : (BitVec.ult 4294967295#64 x0.umax) = true) (h1 : (ra0.2) = false) : Con Tryz.prog 119 #[(sv (x0)), (sv (x1))] (.tuple #[(sv (zS)), (.bool (false))]) :=
  fn_conI (P := Tryz.prog) Tryz.func119 (fun xs w => by kernel_rfl) _ _
    [.o, .o, .o, .o, .o, .a 0, .tn (u_le x0.umax 4294967295#64) h0, .o, .a 0, .o, .o, .a 1, .o, .o, .a 1, .v .u64 (u64_or x1.t.m 18446744069414584320#64), .o, .cr vt0 (ok_tnum_Meet (x0.t) ((⟨x1.t.v, (x1.t.m ||| 18446744069414584320#64)⟩ : T))) ea0, .o, .o, .b h1, .o, .a 3, .o, .o, .o, .o, .a 2, .o]
    [2, 2, 2, 2, 2, 2] (fun b => by kernel_rfl)
theorem p2_scalar_withLow (x0 : S) (x1 : S) (ra0 : (S) × (Bool)) (ea0 : m_scalar_Meet x0 x1 = ra0) (h0 : (BitVec.ult 4294967295#64 x0.umax) = false) : Con Tryz.prog 119 #[(sv (x0)), (sv (x1))] (vt2 (ra0)) :=
  fn_conI (P := Tryz.prog) Tryz.func119 (fun xs w => by kernel_rfl) _ _
    [.o, .o, .o, .o, .o, .a 0, .tn (u_le x0.umax 4294967295#64) h0, .a 0, .a 1, .cr vt2 (ok_scalar_Meet (x0) (x1)) ea0, .o, .o, .a 2, .o]
    [2, 2, 2, 2, 2, 2] (fun b => by kernel_rfl)
theorem ok_scalar_withLow (x0 : S) (x1 : S) : Con Tryz.prog 119 #[(sv (x0)), (sv (x1))] (vt2 (m_scalar_withLow x0 x1)) := by
  unfold m_scalar_withLow
  refine Con.cond vt2 _ _ _ (fun h0 => ?_) (fun h0 => ?_)
  · refine Con.cond vt2 _ _ _ (fun h1 => ?_) (fun h1 => ?_)
    · exact p0_scalar_withLow x0 x1 _ rfl _ rfl h0 h1
    · exact p1_scalar_withLow x0 x1 _ rfl h0 h1
  · exact p2_scalar_withLow x0 x1 _ rfl h0
-- (barbican/scalar.relation).holds
def m_scalar_relation_holds_7 (x0 : SS) : (SS) × (Bool) :=
  ((m_scalar_relation_notBelowSigned x0))
theorem p0_scalar_relation_holds_7 (x0 : SS) (ra0 : (SS) × (Bool)) (ea0 : m_scalar_relation_notBelowSigned x0 = ra0) : Con Tryz.prog 50 #[(ssv (x0)), .int .i64 ((7))] (vt6 (ra0)) :=
  fn_conI (P := Tryz.prog) Tryz.func50 (fun xs w => by kernel_rfl) _ _
    [.o, .o, .o, .o, .o, .o, .o, .o, .o, .o, .o, .o, .o, .o, .o, .o, .o, .o, .o, .o, .a 0, .cr vt6 (ok_scalar_relation_notBelowSigned (x0)) ea0, .o, .o, .a 1, .o]
    [1, 1, 1, 1, 1, 1, 1, 1, 1, 1, 1, 1] (fun b => by kernel_rfl)
theorem ok_scalar_relation_holds_7 (x0 : SS) : Con Tryz.prog 50 #[(ssv (x0)), .int .i64 ((7))] (vt6 (m_scalar_relation_holds_7 x0)) := by
  unfold m_scalar_relation_holds_7
  exact p0_scalar_relation_holds_7 x0 _ rfl
-- (barbican/scalar.relation).holds
def m_scalar_relation_holds_12 (x0 : SS) : (SS) × (Bool) :=
  ((m_scalar_relation_turned_114 x0))
theorem p0_scalar_relation_holds_12 (x0 : SS) (ra0 : (SS) × (Bool)) (ea0 : m_scalar_relation_turned_114 x0 = ra0) : Con Tryz.prog 50 #[(ssv (x0)), .int .i64 ((12))] (vt6 (ra0)) :=
  fn_conI (P := Tryz.prog) Tryz.func50 (fun xs w => by kernel_rfl) _ _
    [.o, .o, .o, .o, .o, .o, .o, .o, .o, .o, .o, .o, .o, .o, .o, .o, .o, .o, .o, .o, .o, .o, .a 0, .cr vt6 (ok_scalar_relation_turned_114 (x0)) ea0, .o, .o, .a 1, .o]
    [1, 1, 1, 1, 1, 1, 1, 1, 1, 1, 1, 1] (fun b => by kernel_rfl)
theorem ok_scalar_relation_holds_12 (x0 : SS) : Con Tryz.prog 50 #[(ssv (x0)), .int .i64 ((12))] (vt6 (m_scalar_relation_holds_12 x0)) := by
  unfold m_scalar_relation_holds_12
  exact p0_scalar_relation_holds_12 x0 _ rfl
-- (barbican/scalar.relation).holds
def m_scalar_relation_holds_13 (x0 : SS) : (SS) × (Bool) :=
  ((m_scalar_relation_turned_115 x0))
theorem p0_scalar_relation_holds_13 (x0 : SS) (ra0 : (SS) × (Bool)) (ea0 : m_scalar_relation_turned_115 x0 = ra0) : Con Tryz.prog 50 #[(ssv (x0)), .int .i64 ((13))] (vt6 (ra0)) :=
  fn_conI (P := Tryz.prog) Tryz.func50 (fun xs w => by kernel_rfl) _ _
    [.o, .o, .o, .o, .o, .o, .o, .o, .o, .o, .o, .o, .o, .o, .o, .o, .o, .o, .o, .o, .o, .o, .o, .o, .a 0, .cr vt6 (ok_scalar_relation_turned_115 (x0)) ea0, .o, .o, .a 1, .o]
    [1, 1, 1, 1, 1, 1, 1, 1, 1, 1, 1, 1] (fun b => by kernel_rfl)
theorem ok_scalar_relation_holds_13 (x0 : SS) : Con Tryz.prog 50 #[(ssv (x0)), .int .i64 ((13))] (vt6 (m_scalar_relation_holds_13 x0)) := by
  unfold m_scalar_relation_holds_13
  exact p0_scalar_relation_holds_13 x0 _ rfl
-- (barbican/scalar.relation).holdsNarrow
def m_scalar_relation_holdsNarrow (x0 : SS) (x1 : BitVec 64) : (SS) × (Bool) :=
  (bif x1 == 6#64 then
    (bif (m_scalar_relation_holds_6 (⟨(m_scalar_extend (m_scalar_low x0.a)), (m_scalar_extend (m_scalar_low x0.b))⟩ : SS)).2 then
      (bif (m_scalar_withLow x0.a (m_scalar_low (m_scalar_relation_holds_6 (⟨(m_scalar_extend (m_scalar_low x0.a)), (m_scalar_extend (m_scalar_low x0.b))⟩ : SS)).1.a)).2 then
        (((⟨(m_scalar_withLow x0.a (m_scalar_low (m_scalar_relation_holds_6 (⟨(m_scalar_extend (m_scalar_low x0.a)), (m_scalar_extend (m_scalar_low x0.b))⟩ : SS)).1.a)).1, (m_scalar_withLow x0.b (m_scalar_low (m_scalar_relation_holds_6 (⟨(m_scalar_extend (m_scalar_low x0.a)), (m_scalar_extend (m_scalar_low x0.b))⟩ : SS)).1.b)).1⟩ : SS), (m_scalar_withLow x0.b (m_scalar_low (m_scalar_relation_holds_6 (⟨(m_scalar_extend (m_scalar_low x0.a)), (m_scalar_extend (m_scalar_low x0.b))⟩ : SS)).1.b)).2))
        else (((⟨(m_scalar_withLow x0.a (m_scalar_low (m_scalar_relation_holds_6 (⟨(m_scalar_extend (m_scalar_low x0.a)), (m_scalar_extend (m_scalar_low x0.b))⟩ : SS)).1.a)).1, (m_scalar_withLow x0.b (m_scalar_low (m_scalar_relation_holds_6 (⟨(m_scalar_extend (m_scalar_low x0.a)), (m_scalar_extend (m_scalar_low x0.b))⟩ : SS)).1.b)).1⟩ : SS), false)))
      else (((⟨zS, zS⟩ : SS), false)))
    else (bif x1 == 7#64 then
      (bif (m_scalar_relation_holds_7 (⟨(m_scalar_extend (m_scalar_low x0.a)), (m_scalar_extend (m_scalar_low x0.b))⟩ : SS)).2 then
        (bif (m_scalar_withLow x0.a (m_scalar_low (m_scalar_relation_holds_7 (⟨(m_scalar_extend (m_scalar_low x0.a)), (m_scalar_extend (m_scalar_low x0.b))⟩ : SS)).1.a)).2 then
          (((⟨(m_scalar_withLow x0.a (m_scalar_low (m_scalar_relation_holds_7 (⟨(m_scalar_extend (m_scalar_low x0.a)), (m_scalar_extend (m_scalar_low x0.b))⟩ : SS)).1.a)).1, (m_scalar_withLow x0.b (m_scalar_low (m_scalar_relation_holds_7 (⟨(m_scalar_extend (m_scalar_low x0.a)), (m_scalar_extend (m_scalar_low x0.b))⟩ : SS)).1.b)).1⟩ : SS), (m_scalar_withLow x0.b (m_scalar_low (m_scalar_relation_holds_7 (⟨(m_scalar_extend (m_scalar_low x0.a)), (m_scalar_extend (m_scalar_low x0.b))⟩ : SS)).1.b)).2))
          else (((⟨(m_scalar_withLow x0.a (m_scalar_low (m_scalar_relation_holds_7 (⟨(m_scalar_extend (m_scalar_low x0.a)), (m_scalar_extend (m_scalar_low x0.b))⟩ : SS)).1.a)).1, (m_scalar_withLow x0.b (m_scalar_low (m_scalar_relation_holds_7 (⟨(m_scalar_extend (m_scalar_low x0.a)), (m_scalar_extend (m_scalar_low x0.b))⟩ : SS)).1.b)).1⟩ : SS), false)))
        else (((⟨zS, zS⟩ : SS), false)))
      else (bif x1 == 12#64 then
        (bif (m_scalar_relation_holds_12 (⟨(m_scalar_extend (m_scalar_low x0.a)), (m_scalar_extend (m_scalar_low x0.b))⟩ : SS)).2 then
          (bif (m_scalar_withLow x0.a (m_scalar_low (m_scalar_relation_holds_12 (⟨(m_scalar_extend (m_scalar_low x0.a)), (m_scalar_extend (m_scalar_low x0.b))⟩ : SS)).1.a)).2 then
            (((⟨(m_scalar_withLow x0.a (m_scalar_low (m_scalar_relation_holds_12 (⟨(m_scalar_extend (m_scalar_low x0.a)), (m_scalar_extend (m_scalar_low x0.b))⟩ : SS)).1.a)).1, (m_scalar_withLow x0.b (m_scalar_low (m_scalar_relation_holds_12 (⟨(m_scalar_extend (m_scalar_low x0.a)), (m_scalar_extend (m_scalar_low x0.b))⟩ : SS)).1.b)).1⟩ : SS), (m_scalar_withLow x0.b (m_scalar_low (m_scalar_relation_holds_12 (⟨(m_scalar_extend (m_scalar_low x0.a)), (m_scalar_extend (m_scalar_low x0.b))⟩ : SS)).1.b)).2))
            else (((⟨(m_scalar_withLow x0.a (m_scalar_low (m_scalar_relation_holds_12 (⟨(m_scalar_extend (m_scalar_low x0.a)), (m_scalar_extend (m_scalar_low x0.b))⟩ : SS)).1.a)).1, (m_scalar_withLow x0.b (m_scalar_low (m_scalar_relation_holds_12 (⟨(m_scalar_extend (m_scalar_low x0.a)), (m_scalar_extend (m_scalar_low x0.b))⟩ : SS)).1.b)).1⟩ : SS), false)))
          else (((⟨zS, zS⟩ : SS), false)))
        else (bif x1 == 13#64 then
          (bif (m_scalar_relation_holds_13 (⟨(m_scalar_extend (m_scalar_low x0.a)), (m_scalar_extend (m_scalar_low x0.b))⟩ : SS)).2 then
            (bif (m_scalar_withLow x0.a (m_scalar_low (m_scalar_relation_holds_13 (⟨(m_scalar_extend (m_scalar_low x0.a)), (m_scalar_extend (m_scalar_low x0.b))⟩ : SS)).1.a)).2 then
              (((⟨(m_scalar_withLow x0.a (m_scalar_low (m_scalar_relation_holds_13 (⟨(m_scalar_extend (m_scalar_low x0.a)), (m_scalar_extend (m_scalar_low x0.b))⟩ : SS)).1.a)).1, (m_scalar_withLow x0.b (m_scalar_low (m_scalar_relation_holds_13 (⟨(m_scalar_extend (m_scalar_low x0.a)), (m_scalar_extend (m_scalar_low x0.b))⟩ : SS)).1.b)).1⟩ : SS), (m_scalar_withLow x0.b (m_scalar_low (m_scalar_relation_holds_13 (⟨(m_scalar_extend (m_scalar_low x0.a)), (m_scalar_extend (m_scalar_low x0.b))⟩ : SS)).1.b)).2))
              else (((⟨(m_scalar_withLow x0.a (m_scalar_low (m_scalar_relation_holds_13 (⟨(m_scalar_extend (m_scalar_low x0.a)), (m_scalar_extend (m_scalar_low x0.b))⟩ : SS)).1.a)).1, (m_scalar_withLow x0.b (m_scalar_low (m_scalar_relation_holds_13 (⟨(m_scalar_extend (m_scalar_low x0.a)), (m_scalar_extend (m_scalar_low x0.b))⟩ : SS)).1.b)).1⟩ : SS), false)))
            else (((⟨zS, zS⟩ : SS), false)))
          else (bif (m_scalar_relation_holds (⟨(m_scalar_low x0.a), (m_scalar_low x0.b)⟩ : SS) x1).2 then
            (bif (m_scalar_withLow x0.a (m_scalar_low (m_scalar_relation_holds (⟨(m_scalar_low x0.a), (m_scalar_low x0.b)⟩ : SS) x1).1.a)).2 then
              (((⟨(m_scalar_withLow x0.a (m_scalar_low (m_scalar_relation_holds (⟨(m_scalar_low x0.a), (m_scalar_low x0.b)⟩ : SS) x1).1.a)).1, (m_scalar_withLow x0.b (m_scalar_low (m_scalar_relation_holds (⟨(m_scalar_low x0.a), (m_scalar_low x0.b)⟩ : SS) x1).1.b)).1⟩ : SS), (m_scalar_withLow x0.b (m_scalar_low (m_scalar_relation_holds (⟨(m_scalar_low x0.a), (m_scalar_low x0.b)⟩ : SS) x1).1.b)).2))
              else (((⟨(m_scalar_withLow x0.a (m_scalar_low (m_scalar_relation_holds (⟨(m_scalar_low x0.a), (m_scalar_low x0.b)⟩ : SS) x1).1.a)).1, (m_scalar_withLow x0.b (m_scalar_low (m_scalar_relation_holds (⟨(m_scalar_low x0.a), (m_scalar_low x0.b)⟩ : SS) x1).1.b)).1⟩ : SS), false)))
            else (((⟨zS, zS⟩ : SS), false)))))))
theorem p0_scalar_relation_holdsNarrow (x0 : SS) (ra0 : S) (ea0 : m_scalar_low x0.a = ra0) (ra1 : S) (ea1 : m_scalar_low x0.b = ra1) (ra2 : S) (ea2 : m_scalar_extend ra0 = ra2) (ra3 : S) (ea3 : m_scalar_extend ra1 = ra3) (ra4 : (SS) × (Bool)) (ea4 : m_scalar_relation_holds_6 (⟨ra2, ra3⟩ : SS) = ra4) (ra5 : S) (ea5 : m_scalar_low ra4.1.a = ra5) (ra6 : (S) × (Bool)) (ea6 : m_scalar_withLow x0.a ra5 = ra6) (ra7 : S) (ea7 : m_scalar_low ra4.1.b = ra7) (ra8 : (S) × (Bool)) (ea8 : m_scalar_withLow x0.b ra7 = ra8) (h1 : (ra4.2) = true) (h2 : (ra6.2) = true) : Con Tryz.prog 51 #[(ssv (x0)), (.int .i64 (ii (6#64)))] (.tuple #[(ssv ((⟨ra6.1, ra8.1⟩ : SS))), (.bool (ra8.2))]) :=
  fn_conI (P := Tryz.prog) Tryz.func51 (fun xs w => by kernel_rfl) _ _
    [.o, .o, .o, .r [0, 1, 2, 3, 4, 5, 6] [7] [8], .o, .a 0, .cr sv (ok_scalar_low (x0.a)) ea0, .o, .a 0, .cr sv (ok_scalar_low (x0.b)) ea1, .o, .a 2, .o, .o, .o, .r [0, 1, 2, 3, 4, 5, 6] [] [7], .o, .a 2, .cr sv (ok_scalar_extend (ra0)) ea2, .o, .a 2, .cr sv (ok_scalar_extend (ra1)) ea3, .o, .a 2, .a 2, .o, .cr vt6 (ok_scalar_relation_holds_6 ((⟨ra2, ra3⟩ : SS))) ea4, .o, .o, .b h1, .a 2, .o, .o, .o, .r [0, 1, 2, 3, 4, 5, 6, 7, 8] [9] [10, 11], .o, .a 0, .o, .a 2, .cr sv (ok_scalar_low (ra4.1.a)) ea5, .cr vt2 (ok_scalar_withLow (x0.a) (ra5)) ea6, .o, .o, .b h2, .a 3, .o, .r [0, 1, 2, 3, 4, 5, 6, 7, 8] [9] [10, 11], .o, .a 0, .o, .a 2, .cr sv (ok_scalar_low (ra4.1.b)) ea7, .cr vt2 (ok_scalar_withLow (x0.b) (ra7)) ea8, .o, .o, .o, .a 4, .o, .a 3, .a 4, .o, .o, .o, .o, .o, .a 1, .o]
    [1, 1, 1, 1, 1, 1, 1, 1, 1, 1, 1, 1] (fun b => by kernel_rfl)
theorem p1_scalar_relation_holdsNarrow (x0 : SS) (ra0 : S) (ea0 : m_scalar_low x0.a = ra0) (ra1 : S) (ea1 : m_scalar_low x0.b = ra1) (ra2 : S) (ea2 : m_scalar_extend ra0 = ra2) (ra3 : S) (ea3 : m_scalar_extend ra1 = ra3) (ra4 : (SS) × (Bool)) (ea4 : m_scalar_relation_holds_6 (⟨ra2, ra3⟩ : SS) = ra4) (ra5 : S) (ea5 : m_scalar_low ra4.1.a = ra5) (ra6 : (S) × (Bool)) (ea6 : m_scalar_withLow x0.a ra5 = ra6) (ra7 : S) (ea7 : m_scalar_low ra4.1.b = ra7) (ra8 : (S) × (Bool)) (ea8 : m_scalar_withLow x0.b ra7 = ra8) (h1 : (ra4.2) = true) (h2 : (ra6.2) = false) : Con Tryz.prog 51 #[(ssv (x0)), (.int .i64 (ii (6#64)))] (.tuple #[(ssv ((⟨ra6.1, ra8.1⟩ : SS))), (.bool (false))]) :=
  fn_conI (P := Tryz.prog) Tryz.func51 (fun xs w => by kernel_rfl) _ _
    [.o, .o, .o, .r [0, 1, 2, 3, 4, 5, 6] [7] [8], .o, .a 0, .cr sv (ok_scalar_low (x0.a)) ea0, .o, .a 0, .cr sv (ok_scalar_low (x0.b)) ea1, .o, .a 2, .o, .o, .o, .r [0, 1, 2, 3, 4, 5, 6] [] [7], .o, .a 2, .cr sv (ok_scalar_extend (ra0)) ea2, .o, .a 2, .cr sv (ok_scalar_extend (ra1)) ea3, .o, .a 2, .a 2, .o, .cr vt6 (ok_scalar_relation_holds_6 ((⟨ra2, ra3⟩ : SS))) ea4, .o, .o, .b h1, .a 2, .o, .o, .o, .r [0, 1, 2, 3, 4, 5, 6, 7, 8] [9] [10, 11], .o, .a 0, .o, .a 2, .cr sv (ok_scalar_low (ra4.1.a)) ea5, .cr vt2 (ok_scalar_withLow (x0.a) (ra5)) ea6, .o, .o, .b h2, .a 3, .o, .r [0, 1, 2, 3, 4, 5, 6, 7, 8] [9] [10, 11], .o, .a 0, .o, .a 2, .cr sv (ok_scalar_low (ra4.1.b)) ea7, .cr vt2 (ok_scalar_withLow (x0.b) (ra7)) ea8, .o, .o, .o, .a 4, .o, .a 3, .a 4, .o, .o, .o, .o, .a 1, .o]
    [1, 1, 1, 1, 1, 1, 1, 1, 1, 1, 1, 1] (fun b => by kernel_rfl)
theorem p2_scalar_relation_holdsNarrow (x0 : SS) (ra0 : S) (ea0 : m_scalar_low x0.a = ra0) (ra1 : S) (ea1 : m_scalar_low x0.b = ra1) (ra2 : S) (ea2 : m_scalar_extend ra0 = ra2) (ra3 : S) (ea3 : m_scalar_extend ra1 = ra3) (ra4 : (SS) × (Bool)) (ea4 : m_scalar_relation_holds_6 (⟨ra2, ra3⟩ : SS) = ra4) (h1 : (ra4.2) = false) : Con Tryz.prog 51 #[(ssv (x0)), (.int .i64 (ii (6#64)))] (.tuple #[(ssv ((⟨zS, zS⟩ : SS))), (.bool (false))]) :=
  fn_conI (P := Tryz.prog) Tryz.func51 (fun xs w => by kernel_rfl) _ _
    [.o, .o, .o, .r [0, 1, 2, 3, 4, 5, 6] [7] [8], .o, .a 0, .cr sv (ok_scalar_low (x0.a)) ea0, .o, .a 0, .cr sv (ok_scalar_low (x0.b)) ea1, .o, .a 2, .o, .o, .o, .r [0, 1, 2, 3, 4, 5, 6] [] [7], .o, .a 2, .cr sv (ok_scalar_extend (ra0)) ea2, .o, .a 2, .cr sv (ok_scalar_extend (ra1)) ea3, .o, .a 2, .a 2, .o, .cr vt6 (ok_scalar_relation_holds_6 ((⟨ra2, ra3⟩ : SS))) ea4, .o, .o, .b h1, .a 2, .o, .o, .o, .o, .a 1, .o]
    [1, 1, 1, 1, 1, 1, 1, 1, 1, 1, 1, 1] (fun b => by kernel_rfl)
theorem p3_scalar_relation_holdsNarrow (x0 : SS) (ra0 : S) (ea0 : m_scalar_low x0.a = ra0) (ra1 : S) (ea1 : m_scalar_low x0.b = ra1) (ra2 : S) (ea2 : m_scalar_extend ra0 = ra2) (ra3 : S) (ea3 : m_scalar_extend ra1 = ra3) (ra4 : (SS) × (Bool)) (ea4 : m_scalar_relation_holds_7 (⟨ra2, ra3⟩ : SS) = ra4) (ra5 : S) (ea5 : m_scalar_low ra4.1.a = ra5) (ra6 : (S) × (Bool)) (ea6 : m_scalar_withLow x0.a ra5 = ra6) (ra7 : S) (ea7 : m_scalar_low ra4.1.b = ra7) (ra8 : (S) × (Bool)) (ea8 : m_scalar_withLow x0.b ra7 = ra8) (h0 : (7#64 == 6#64) = false) (h2 : (ra4.2) = true) (h3 : (ra6.2) = true) : Con Tryz.prog 51 #[(ssv (x0)), (.int .i64 (ii (7#64)))] (.tuple #[(ssv ((⟨ra6.1, ra8.1⟩ : SS))), (.bool (ra8.2))]) :=
  fn_conI (P := Tryz.prog) Tryz.func51 (fun xs w => by kernel_rfl) _ _
    [.o, .o, .o, .r [0, 1, 2, 3, 4, 5, 6] [7] [8], .o, .a 0, .cr sv (ok_scalar_low (x0.a)) ea0, .o, .a 0, .cr sv (ok_scalar_low (x0.b)) ea1, .o, .a 2, .o, .o, .o, .o, .o, .r [0, 1, 2, 3, 4, 5, 6] [] [7], .o, .a 2, .cr sv (ok_scalar_extend (ra0)) ea2, .o, .a 2, .cr sv (ok_scalar_extend (ra1)) ea3, .o, .a 2, .a 2, .o, .cr vt6 (ok_scalar_relation_holds_7 ((⟨ra2, ra3⟩ : SS))) ea4, .o, .o, .b h2, .a 2, .o, .o, .o, .r [0, 1, 2, 3, 4, 5, 6, 7, 8] [9] [10, 11], .o, .a 0, .o, .a 2, .cr sv (ok_scalar_low (ra4.1.a)) ea5, .cr vt2 (ok_scalar_withLow (x0.a) (ra5)) ea6, .o, .o, .b h3, .a 3, .o, .r [0, 1, 2, 3, 4, 5, 6, 7, 8] [9] [10, 11], .o, .a 0, .o, .a 2, .cr sv (ok_scalar_low (ra4.1.b)) ea7, .cr vt2 (ok_scalar_withLow (x0.b) (ra7)) ea8, .o, .o, .o, .a 4, .o, .a 3, .a 4, .o, .o, .o, .o, .o, .a 1, .o]
    [1, 1, 1, 1, 1, 1, 1, 1, 1, 1, 1, 1] (fun b => by kernel_rfl)
theorem p4_scalar_relation_holdsNarrow (x0 : SS) (ra0 : S) (ea0 : m_scalar_low x0.a = ra0) (ra1 : S) (ea1 : m_scalar_low x0.b = ra1) (ra2 : S) (ea2 : m_scalar_extend ra0 = ra2) (ra3 : S) (ea3 : m_scalar_extend ra1 = ra3) (ra4 : (SS) × (Bool)) (ea4 : m_scalar_relation_holds_7 (⟨ra2, ra3⟩ : SS) = ra4) (ra5 : S) (ea5 : m_scalar_low ra4.1.a = ra5) (ra6 : (S) × (Bool)) (ea6 : m_scalar_withLow x0.a ra5 = ra6) (ra7 : S) (ea7 : m_scalar_low ra4.1.b = ra7) (ra8 : (S) × (Bool)) (ea8 : m_scalar_withLow x0.b ra7 = ra8) (h0 : (7#64 == 6#64) = false) (h2 : (ra4.2) = true) (h3 : (ra6.2) = false) : Con Tryz.prog 51 #[(ssv (x0)), (.int .i64 (ii (7#64)))] (.tuple #[(ssv ((⟨ra6.1, ra8.1⟩ : SS))), (.bool (false))]) :=
  fn_conI (P := Tryz.prog) Tryz.func51 (fun xs w => by kernel_rfl) _ _
    [.o, .o, .o, .r [0, 1, 2, 3, 4, 5, 6] [7] [8], .o, .a 0, .cr sv (ok_scalar_low (x0.a)) ea0, .o, .a 0, .cr sv (ok_scalar_low (x0.b)) ea1, .o, .a 2, .o, .o, .o, .o, .o, .r [0, 1, 2, 3, 4, 5, 6] [] [7], .o, .a 2, .cr sv (ok_scalar_extend (ra0)) ea2, .o, .a 2, .cr sv (ok_scalar_extend (ra1)) ea3, .o, .a 2, .a 2, .o, .cr vt6 (ok_scalar_relation_holds_7 ((⟨ra2, ra3⟩ : SS))) ea4, .o, .o, .b h2, .a 2, .o, .o, .o, .r [0, 1, 2, 3, 4, 5, 6, 7, 8] [9] [10, 11], .o, .a 0, .o, .a 2, .cr sv (ok_scalar_low (ra4.1.a)) ea5, .cr vt2 (ok_scalar_withLow (x0.a) (ra5)) ea6, .o, .o, .b h3, .a 3, .o, .r [0, 1, 2, 3, 4, 5, 6, 7, 8] [9] [10, 11], .o, .a 0, .o, .a 2, .cr sv (ok_scalar_low (ra4.1.b)) ea7, .cr vt2 (ok_scalar_withLow (x0.b) (ra7)) ea8, .o, .o, .o, .a 4, .o, .a 3, .a 4, .o, .o, .o, .o, .a 1, .o]
    [1, 1, 1, 1, 1, 1, 1, 1, 1, 1, 1, 1] (fun b => by kernel_rfl)
theorem p5_scalar_relation_holdsNarrow (x0 : SS) (ra0 : S) (ea0 : m_scalar_low x0.a = ra0) (ra1 : S) (ea1 : m_scalar_low x0.b = ra1) (ra2 : S) (ea2 : m_scalar_extend ra0 = ra2) (ra3 : S) (ea3 : m_scalar_extend ra1 = ra3) (ra4 : (SS) × (Bool)) (ea4 : m_scalar_relation_holds_7 (⟨ra2, ra3⟩ : SS) = ra4) (h0 : (7#64 == 6#64) = false) (h2 : (ra4.2) = false) : Con Tryz.prog 51 #[(ssv (x0)), (.int .i64 (ii (7#64)))] (.tuple #[(ssv ((⟨zS, zS⟩ : SS))), (.bool (false))]) :=
  fn_conI (P := Tryz.prog) Tryz.func51 (fun xs w => by kernel_rfl) _ _
    [.o, .o, .o, .r [0, 1, 2, 3, 4, 5, 6] [7] [8], .o, .a 0, .cr sv (ok_scalar_low (x0.a)) ea0, .o, .a 0, .cr sv (ok_scalar_low (x0.b)) ea1, .o, .a 2, .o, .o, .o, .o, .o, .r [0, 1, 2, 3, 4, 5, 6] [] [7], .o, .a 2, .cr sv (ok_scalar_extend (ra0)) ea2, .o, .a 2, .cr sv (ok_scalar_extend (ra1)) ea3, .o, .a 2, .a 2, .o, .cr vt6 (ok_scalar_relation_holds_7 ((⟨ra2, ra3⟩ : SS))) ea4, .o, .o, .b h2, .a 2, .o, .o, .o, .o, .a 1, .o]
    [1, 1, 1, 1, 1, 1, 1, 1, 1, 1, 1, 1] (fun b => by kernel_rfl)
theorem p6_scalar_relation_holdsNarrow (x0 : SS) (ra0 : S) (ea0 : m_scalar_low x0.a = ra0) (ra1 : S) (ea1 : m_scalar_low x0.b = ra1) (ra2 : S) (ea2 : m_scalar_extend ra0 = ra2) (ra3 : S) (ea3 : m_scalar_extend ra1 = ra3) (ra4 : (SS) × (Bool)) (ea4 : m_scalar_relation_holds_12 (⟨ra2, ra3⟩ : SS) = ra4) (ra5 : S) (ea5 : m_scalar_low ra4.1.a = ra5) (ra6 : (S) × (Bool)) (ea6 : m_scalar_withLow x0.a ra5 = ra6) (ra7 : S) (ea7 : m_scalar_low ra4.1.b = ra7) (ra8 : (S) × (Bool)) (ea8 : m_scalar_withLow x0.b ra7 = ra8) (h0 : (12#64 == 6#64) = false) (h1 : (12#64 == 7#64) = false) (h3 : (ra4.2) = true) (h4 : (ra6.2) = true) : Con Tryz.prog 51 #[(ssv (x0)), (.int .i64 (ii (12#64)))] (.tuple #[(ssv ((⟨ra6.1, ra8.1⟩ : SS))), (.bool (ra8.2))]) :=
  fn_conI (P := Tryz.prog) Tryz.func51 (fun xs w => by kernel_rfl) _ _
    [.o, .o, .o, .r [0, 1, 2, 3, 4, 5, 6] [7] [8], .o, .a 0, .cr sv (ok_scalar_low (x0.a)) ea0, .o, .a 0, .cr sv (ok_scalar_low (x0.b)) ea1, .o, .a 2, .o, .o, .o, .o, .o, .o, .o, .r [0, 1, 2, 3, 4, 5, 6] [] [7], .o, .a 2, .cr sv (ok_scalar_extend (ra0)) ea2, .o, .a 2, .cr sv (ok_scalar_extend (ra1)) ea3, .o, .a 2, .a 2, .o, .cr vt6 (ok_scalar_relation_holds_12 ((⟨ra2, ra3⟩ : SS))) ea4, .o, .o, .b h3, .a 2, .o, .o, .o, .r [0, 1, 2, 3, 4, 5, 6, 7, 8] [9] [10, 11], .o, .a 0, .o, .a 2, .cr sv (ok_scalar_low (ra4.1.a)) ea5, .cr vt2 (ok_scalar_withLow (x0.a) (ra5)) ea6, .o, .o, .b h4, .a 3, .o, .r [0, 1, 2, 3, 4, 5, 6, 7, 8] [9] [10, 11], .o, .a 0, .o, .a 2, .cr sv (ok_scalar_low (ra4.1.b)) ea7, .cr vt2 (ok_scalar_withLow (x0.b) (ra7)) ea8, .o, .o, .o, .a 4, .o, .a 3, .a 4, .o, .o, .o, .o, .o, .a 1, .o]
    [1, 1, 1, 1, 1, 1, 1, 1, 1, 1, 1, 1] (fun b => by kernel_rfl)
theorem p7_scalar_relation_holdsNarrow (x0 : SS) (ra0 : S) (ea0 : m_scalar_low x0.a = ra0) (ra1 : S) (ea1 : m_scalar_low x0.b = ra1) (ra2 : S) (ea2 : m_scalar_extend ra0 = ra2) (ra3 : S) (ea3 : m_scalar_extend ra1 = ra3) (ra4 : (SS) × (Bool)) (ea4 : m_scalar_relation_holds_12 (⟨ra2, ra3⟩ : SS) = ra4) (ra5 : S) (ea5 : m_scalar_low ra4.1.a = ra5) (ra6 : (S) × (Bool)) (ea6 : m_scalar_withLow x0.a ra5 = ra6) (ra7 : S) (ea7 : m_scalar_low ra4.1.b = ra7) (ra8 : (S) × (Bool)) (ea8 : m_scalar_withLow x0.b ra7 = ra8) (h0 : (12#64 == 6#64) = false) (h1 : (12#64 == 7#64) = false) (h3 : (ra4.2) = true) (h4 : (ra6.2) = false) : Con Tryz.prog 51 #[(ssv (x0)), (.int .i64 (ii (12#64)))] (.tuple #[(ssv ((⟨ra6.1, ra8.1⟩ : SS))), (.bool (false))]) :=
  fn_conI (P := Tryz.prog) Tryz.func51 (fun xs w => by kernel_rfl) _ _
    [.o, .o, .o, .r [0, 1, 2, 3, 4, 5, 6] [7] [8], .o, .a 0, .cr sv (ok_scalar_low (x0.a)) ea0, .o, .a 0, .cr sv (ok_scalar_low (x0.b)) ea1, .o, .a 2, .o, .o, .o, .o, .o, .o, .o, .r [0, 1, 2, 3, 4, 5, 6] [] [7], .o, .a 2, .cr sv (ok_scalar_extend (ra0)) ea2, .o, .a 2, .cr sv (ok_scalar_extend (ra1)) ea3, .o, .a 2, .a 2, .o, .cr vt6 (ok_scalar_relation_holds_12 ((⟨ra2, ra3⟩ : SS))) ea4, .o, .o, .b h3, .a 2, .o, .o, .o, .r [0, 1, 2, 3, 4, 5, 6, 7, 8] [9] [10, 11], .o, .a 0, .o, .a 2, .cr sv (ok_scalar_low (ra4.1.a)) ea5, .cr vt2 (ok_scalar_withLow (x0.a) (ra5)) ea6, .o, .o, .b h4, .a 3, .o, .r [0, 1, 2, 3, 4, 5, 6, 7, 8] [9] [10, 11], .o, .a 0, .o, .a 2, .cr sv (ok_scalar_low (ra4.1.b)) ea7, .cr vt2 (ok_scalar_withLow (x0.b) (ra7)) ea8, .o, .o, .o, .a 4, .o, .a 3, .a 4, .o, .o, .o, .o, .a 1, .o]
    [1, 1, 1, 1, 1, 1, 1, 1, 1, 1, 1, 1] (fun b => by kernel_rfl)
theorem p8_scalar_relation_holdsNarrow (x0 : SS) (ra0 : S) (ea0 : m_scalar_low x0.a = ra0) (ra1 : S) (ea1 : m_scalar_low x0.b = ra1) (ra2 : S) (ea2 : m_scalar_extend ra0 = ra2) (ra3 : S) (ea3 : m_scalar_extend ra1 = ra3) (ra4 : (SS) × (Bool)) (ea4 : m_scalar_relation_holds_12 (⟨ra2, ra3⟩ : SS) = ra4) (h0 : (12#64 == 6#64) = false) (h1 : (12#64 == 7#64) = false) (h3 : (ra4.2) = false) : Con Tryz.prog 51 #[(ssv (x0)), (.int .i64 (ii (12#64)))] (.tuple #[(ssv ((⟨zS, zS⟩ : SS))), (.bool (false))]) :=
  fn_conI (P := Tryz.prog) Tryz.func51 (fun xs w => by kernel_rfl) _ _
    [.o, .o, .o, .r [0, 1, 2, 3, 4, 5, 6] [7] [8], .o, .a 0, .cr sv (ok_scalar_low (x0.a)) ea0, .o, .a 0, .cr sv (ok_scalar_low (x0.b)) ea1, .o, .a 2, .o, .o, .o, .o, .o, .o, .o, .r [0, 1, 2, 3, 4, 5, 6] [] [7], .o, .a 2, .cr sv (ok_scalar_extend (ra0)) ea2, .o, .a 2, .cr sv (ok_scalar_extend (ra1)) ea3, .o, .a 2, .a 2, .o, .cr vt6 (ok_scalar_relation_holds_12 ((⟨ra2, ra3⟩ : SS))) ea4, .o, .o, .b h3, .a 2, .o, .o, .o, .o, .a 1, .o]
    [1, 1, 1, 1, 1, 1, 1, 1, 1, 1, 1, 1] (fun b => by kernel_rfl)
theorem p9_scalar_relation_holdsNarrow (x0 : SS) (ra0 : S) (ea0 : m_scalar_low x0.a = ra0) (ra1 : S) (ea1 : m_scalar_low x0.b = ra1) (ra2 : S) (ea2 : m_scalar_extend ra0 = ra2) (ra3 : S) (ea3 : m_scalar_extend ra1 = ra3) (ra4 : (SS) × (Bool)) (ea4 : m_scalar_relation_holds_13 (⟨ra2, ra3⟩ : SS) = ra4) (ra5 : S) (ea5 : m_scalar_low ra4.1.a = ra5) (ra6 : (S) × (Bool)) (ea6 : m_scalar_withLow x0.a ra5 = ra6) (ra7 : S) (ea7 : m_scalar_low ra4.1.b = ra7) (ra8 : (S) × (Bool)) (ea8 : m_scalar_withLow x0.b ra7 = ra8) (h0 : (13#64 == 6#64) = false) (h1 : (13#64 == 7#64) = false) (h2 : (13#64 == 12#64) = false) (h4 : (ra4.2) = true) (h5 : (ra6.2) = true) : Con Tryz.prog 51 #[(ssv (x0)), (.int .i64 (ii (13#64)))] (.tuple #[(ssv ((⟨ra6.1, ra8.1⟩ : SS))), (.bool (ra8.2))]) :=
  fn_conI (P := Tryz.prog) Tryz.func51 (fun xs w => by kernel_rfl) _ _
    [.o, .o, .o, .r [0, 1, 2, 3, 4, 5, 6] [7] [8], .o, .a 0, .cr sv (ok_scalar_low (x0.a)) ea0, .o, .a 0, .cr sv (ok_scalar_low (x0.b)) ea1, .o, .a 2, .o, .o, .o, .o, .o, .o, .o, .o, .o, .r [0, 1, 2, 3, 4, 5, 6] [] [7], .o, .a 2, .cr sv (ok_scalar_extend (ra0)) ea2, .o, .a 2, .cr sv (ok_scalar_extend (ra1)) ea3, .o, .a 2, .a 2, .o, .cr vt6 (ok_scalar_relation_holds_13 ((⟨ra2, ra3⟩ : SS))) ea4, .o, .o, .b h4, .a 2, .o, .o, .o, .r [0, 1, 2, 3, 4, 5, 6, 7, 8] [9] [10, 11], .o, .a 0, .o, .a 2, .cr sv (ok_scalar_low (ra4.1.a)) ea5, .cr vt2 (ok_scalar_withLow (x0.a) (ra5)) ea6, .o, .o, .b h5, .a 3, .o, .r [0, 1, 2, 3, 4, 5, 6, 7, 8] [9] [10, 11], .o, .a 0, .o, .a 2, .cr sv (ok_scalar_low (ra4.1.b)) ea7, .cr vt2 (ok_scalar_withLow (x0.b) (ra7)) ea8, .o, .o, .o, .a 4, .o, .a 3, .a 4, .o, .o, .o, .o, .o, .a 1, .o]
    [1, 1, 1, 1, 1, 1, 1, 1, 1, 1, 1, 1] (fun b => by kernel_rfl)
theorem p10_scalar_relation_holdsNarrow (x0 : SS) (ra0 : S) (ea0 : m_scalar_low x0.a = ra0) (ra1 : S) (ea1 : m_scalar_low x0.b = ra1) (ra2 : S) (ea2 : m_scalar_extend ra0 = ra2) (ra3 : S) (ea3 : m_scalar_extend ra1 = ra3) (ra4 : (SS) × (Bool)) (ea4 : m_scalar_relation_holds_13 (⟨ra2, ra3⟩ : SS) = ra4) (ra5 : S) (ea5 : m_scalar_low ra4.1.a = ra5) (ra6 : (S) × (Bool)) (ea6 : m_scalar_withLow x0.a ra5 = ra6) (ra7 : S) (ea7 : m_scalar_low ra4.1.b = ra7) (ra8 : (S) × (Bool)) (ea8 : m_scalar_withLow x0.b ra7 = ra8) (h0 : (13#64 == 6#64) = false) (h1 : (13#64 == 7#64) = false) (h2 : (13#64 == 12#64) = false) (h4 : (ra4.2) = true) (h5 : (ra6.2) = false) : Con Tryz.prog 51 #[(ssv (x0)), (.int .i64 (ii (13#64)))] (.tuple #[(ssv ((⟨ra6.1, ra8.1⟩ : SS))), (.bool (false))]) :=
  fn_conI (P := Tryz.prog) Tryz.func51 (fun xs w => by kernel_rfl) _ _
    [.o, .o, .o, .r [0, 1, 2, 3, 4, 5, 6] [7] [8], .o, .a 0, .cr sv (ok_scalar_low (x0.a)) ea0, .o, .a 0, .cr sv (ok_scalar_low (x0.b)) ea1, .o, .a 2, .o, .o, .o, .o, .o, .o, .o, .o, .o, .r [0, 1, 2, 3, 4, 5, 6] [] [7], .o, .a 2, .cr sv (ok_scalar_extend (ra0)) ea2, .o, .a 2, .cr sv (ok_scalar_extend (ra1)) ea3, .o, .a 2, .a 2, .o, .cr vt6 (ok_scalar_relation_holds_13 ((⟨ra2, ra3⟩ : SS))) ea4, .o, .o, .b h4, .a 2, .o, .o, .o, .r [0, 1, 2, 3, 4, 5, 6, 7, 8] [9] [10, 11], .o, .a 0, .o, .a 2, .cr sv (ok_scalar_low (ra4.1.a)) ea5, .cr vt2 (ok_scalar_withLow (x0.a) (ra5)) ea6, .o, .o, .b h5, .a 3, .o, .r [0, 1, 2, 3, 4, 5, 6, 7, 8] [9] [10, 11], .o, .a 0, .o, .a 2, .cr sv (ok_scalar_low (ra4.1.b)) ea7, .cr vt2 (ok_scalar_withLow (x0.b) (ra7)) ea8, .o, .o, .o, .a 4, .o, .a 3, .a 4, .o, .o, .o, .o, .a 1, .o]
    [1, 1, 1, 1, 1, 1, 1, 1, 1, 1, 1, 1] (fun b => by kernel_rfl)
theorem p11_scalar_relation_holdsNarrow (x0 : SS) (ra0 : S) (ea0 : m_scalar_low x0.a = ra0) (ra1 : S) (ea1 : m_scalar_low x0.b = ra1) (ra2 : S) (ea2 : m_scalar_extend ra0 = ra2) (ra3 : S) (ea3 : m_scalar_extend ra1 = ra3) (ra4 : (SS) × (Bool)) (ea4 : m_scalar_relation_holds_13 (⟨ra2, ra3⟩ : SS) = ra4) (h0 : (13#64 == 6#64) = false) (h1 : (13#64 == 7#64) = false) (h2 : (13#64 == 12#64) = false) (h4 : (ra4.2) = false) : Con Tryz.prog 51 #[(ssv (x0)), (.int .i64 (ii (13#64)))] (.tuple #[(ssv ((⟨zS, zS⟩ : SS))), (.bool (false))]) :=
  fn_conI (P := Tryz.prog) Tryz.func51 (fun xs w => by kernel_rfl) _ _
    [.o, .o, .o, .r [0, 1, 2, 3, 4, 5, 6] [7] [8], .o, .a 0, .cr sv (ok_scalar_low (x0.a)) ea0, .o, .a 0, .cr sv (ok_scalar_low (x0.b)) ea1, .o, .a 2, .o, .o, .o, .o, .o, .o, .o, .o, .o, .r [0, 1, 2, 3, 4, 5, 6] [] [7], .o, .a 2, .cr sv (ok_scalar_extend (ra0)) ea2, .o, .a 2, .cr sv (ok_scalar_extend (ra1)) ea3, .o, .a 2, .a 2, .o, .cr vt6 (ok_scalar_relation_holds_13 ((⟨ra2, ra3⟩ : SS))) ea4, .o, .o, .b h4, .a 2, .o, .o, .o, .o, .a 1, .o]
    [1, 1, 1, 1, 1, 1, 1, 1, 1, 1, 1, 1] (fun b => by kernel_rfl)
theorem p12_scalar_relation_holdsNarrow (x0 : SS) (x1 : BitVec 64) (ra0 : S) (ea0 : m_scalar_low x0.a = ra0) (ra1 : S) (ea1 : m_scalar_low x0.b = ra1) (ra2 : (SS) × (Bool)) (ea2 : m_scalar_relation_holds (⟨ra0, ra1⟩ : SS) x1 = ra2) (ra3 : S) (ea3 : m_scalar_low ra2.1.a = ra3) (ra4 : (S) × (Bool)) (ea4 : m_scalar_withLow x0.a ra3 = ra4) (ra5 : S) (ea5 : m_scalar_low ra2.1.b = ra5) (ra6 : (S) × (Bool)) (ea6 : m_scalar_withLow x0.b ra5 = ra6) (h0 : (x1 == 6#64) = false) (h1 : (x1 == 7#64) = false) (h2 : (x1 == 12#64) = false) (h3 : (x1 == 13#64) = false) (h4 : (ra2.2) = true) (h5 : (ra4.2) = true) : Con Tryz.prog 51 #[(ssv (x0)), (.int .i64 (ii (x1)))] (.tuple #[(ssv ((⟨ra4.1, ra6.1⟩ : SS))), (.bool (ra6.2))]) :=
  fn_conI (P := Tryz.prog) Tryz.func51 (fun xs w => by kernel_rfl) _ _
    [.o, .o, .o, .r [0, 1, 2, 3, 4, 5, 6] [7] [8], .o, .a 0, .cr sv (ok_scalar_low (x0.a)) ea0, .o, .a 0, .cr sv (ok_scalar_low (x0.b)) ea1, .o, .a 2, .o, .t (i_eq x1 6#64) h0, .o, .t (i_eq x1 7#64) h1, .o, .t (i_eq x1 12#64) h2, .o, .t (i_eq x1 13#64) h3, .o, .a 2, .o, .cr vt6 (ok_scalar_relation_holds ((⟨ra0, ra1⟩ : SS)) (x1)) ea2, .o, .o, .b h4, .a 2, .o, .o, .o, .r [0, 1, 2, 3, 4, 5, 6, 7, 8] [9] [10, 11], .o, .a 0, .o, .a 2, .cr sv (ok_scalar_low (ra2.1.a)) ea3, .cr vt2 (ok_scalar_withLow (x0.a) (ra3)) ea4, .o, .o, .b h5, .a 3, .o, .r [0, 1, 2, 3, 4, 5, 6, 7, 8] [9] [10, 11], .o, .a 0, .o, .a 2, .cr sv (ok_scalar_low (ra2.1.b)) ea5, .cr vt2 (ok_scalar_withLow (x0.b) (ra5)) ea6, .o, .o, .o, .a 4, .o, .a 3, .a 4, .o, .o, .o, .o, .o, .a 1, .o]
    [1, 1, 1, 1, 1, 1, 1, 1, 1, 1, 1, 1] (fun b => by kernel_rfl)
theorem p13_scalar_relation_holdsNarrow (x0 : SS) (x1 : BitVec 64) (ra0 : S) (ea0 : m_scalar_low x0.a = ra0) (ra1 : S) (ea1 : m_scalar_low x0.b = ra1) (ra2 : (SS) × (Bool)) (ea2 : m_scalar_relation_holds (⟨ra0, ra1⟩ : SS) x1 = ra2) (ra3 : S) (ea3 : m_scalar_low ra2.1.a = ra3) (ra4 : (S) × (Bool)) (ea4 : m_scalar_withLow x0.a ra3 = ra4) (ra5 : S) (ea5 : m_scalar_low ra2.1.b = ra5) (ra6 : (S) × (Bool)) (ea6 : m_scalar_withLow x0.b ra5 = ra6) (h0 : (x1 == 6#64) = false) (h1 : (x1 == 7#64) = false) (h2 : (x1 == 12#64) = false) (h3 : (x1 == 13#64) = false) (h4 : (ra2.2) = true) (h5 : (ra4.2) = false) : Con Tryz.prog 51 #[(ssv (x0)), (.int .i64 (ii (x1)))] (.tuple #[(ssv ((⟨ra4.1, ra6.1⟩ : SS))), (.bool (false))]) :=
  fn_conI (P := Tryz.prog) Tryz.func51 (fun xs w => by kernel_rfl) _ _
    [.o, .o, .o, .r [0, 1, 2, 3, 4, 5, 6] [7] [8], .o, .a 0, .cr sv (ok_scalar_low (x0.a)) ea0, .o, .a 0, .cr sv (ok_scalar_low (x0.b)) ea1, .o, .a 2, .o, .t (i_eq x1 6#64) h0, .o, .t (i_eq x1 7#64) h1, .o, .t (i_eq x1 12#64) h2, .o, .t (i_eq x1 13#64) h3, .o, .a 2, .o, .cr vt6 (ok_scalar_relation_holds ((⟨ra0, ra1⟩ : SS)) (x1)) ea2, .o, .o, .b h4, .a 2, .o, .o, .o, .r [0, 1, 2, 3, 4, 5, 6, 7, 8] [9] [10, 11], .o, .a 0, .o, .a 2, .cr sv (ok_scalar_low (ra2.1.a)) ea3, .cr vt2 (ok_scalar_withLow (x0.a) (ra3)) ea4, .o, .o, .b h5, .a 3, .o, .r [0, 1, 2, 3, 4, 5, 6, 7, 8] [9] [10, 11], .o, .a 0, .o, .a 2, .cr sv (ok_scalar_low (ra2.1.b)) ea5, .cr vt2 (ok_scalar_withLow (x0.b) (ra5)) ea6, .o, .o, .o, .a 4, .o, .a 3, .a 4, .o, .o, .o, .o, .a 1, .o]
    [1, 1, 1, 1, 1, 1, 1, 1, 1, 1, 1, 1] (fun b => by kernel_rfl)
theorem p14_scalar_relation_holdsNarrow (x0 : SS) (x1 : BitVec 64) (ra0 : S) (ea0 : m_scalar_low x0.a = ra0) (ra1 : S) (ea1 : m_scalar_low x0.b = ra1) (ra2 : (SS) × (Bool)) (ea2 : m_scalar_relation_holds (⟨ra0, ra1⟩ : SS) x1 = ra2) (h0 : (x1 == 6#64) = false) (h1 : (x1 == 7#64) = false) (h2 : (x1 == 12#64) = false) (h3 : (x1 == 13#64) = false) (h4 : (ra2.2) = false) : Con Tryz.prog 51 #[(ssv (x0)), (.int .i64 (ii (x1)))] (.tuple #[(ssv ((⟨zS, zS⟩ : SS))), (.bool (false))]) :=
  fn_conI (P := Tryz.prog) Tryz.func51 (fun xs w => by kernel_rfl) _ _
    [.o, .o, .o, .r [0, 1, 2, 3, 4, 5, 6] [7] [8], .o, .a 0, .cr sv (ok_scalar_low (x0.a)) ea0, .o, .a 0, .cr sv (ok_scalar_low (x0.b)) ea1, .o, .a 2, .o, .t (i_eq x1 6#64) h0, .o, .t (i_eq x1 7#64) h1, .o, .t (i_eq x1 12#64) h2, .o, .t (i_eq x1 13#64) h3, .o, .a 2, .o, .cr vt6 (ok_scalar_relation_holds ((⟨ra0, ra1⟩ : SS)) (x1)) ea2, .o, .o, .b h4, .a 2, .o, .o, .o, .o, .a 1, .o]
    [1, 1, 1, 1, 1, 1, 1, 1, 1, 1, 1, 1] (fun b => by kernel_rfl)
theorem ok_scalar_relation_holdsNarrow (x0 : SS) (x1 : BitVec 64) : Con Tryz.prog 51 #[(ssv (x0)), (.int .i64 (ii (x1)))] (vt6 (m_scalar_relation_holdsNarrow x0 x1)) := by
  unfold m_scalar_relation_holdsNarrow
  refine Con.cond vt6 _ _ _ (fun h0 => ?_) (fun h0 => ?_)
  · have e0 := eq_of_beq h0; subst e0
    refine Con.cond vt6 _ _ _ (fun h1 => ?_) (fun h1 => ?_)
    · refine Con.cond vt6 _ _ _ (fun h2 => ?_) (fun h2 => ?_)
      · exact p0_scalar_relation_holdsNarrow x0 _ rfl _ rfl _ rfl _ rfl _ rfl _ rfl _ rfl _ rfl _ rfl h1 h2
      · exact p1_scalar_relation_holdsNarrow x0 _ rfl _ rfl _ rfl _ rfl _ rfl _ rfl _ rfl _ rfl _ rfl h1 h2
    · exact p2_scalar_relation_holdsNarrow x0 _ rfl _ rfl _ rfl _ rfl _ rfl h1
  · refine Con.cond vt6 _ _ _ (fun h1 => ?_) (fun h1 => ?_)
    · have e1 := eq_of_beq h1; subst e1
      refine Con.cond vt6 _ _ _ (fun h2 => ?_) (fun h2 => ?_)
      · refine Con.cond vt6 _ _ _ (fun h3 => ?_) (fun h3 => ?_)
        · exact p3_scalar_relation_holdsNarrow x0 _ rfl _ rfl _ rfl _ rfl _ rfl _ rfl _ rfl _ rfl _ rfl h0 h2 h3
        · exact p4_scalar_relation_holdsNarrow x0 _ rfl _ rfl _ rfl _ rfl _ rfl _ rfl _ rfl _ rfl _ rfl h0 h2 h3
      · exact p5_scalar_relation_holdsNarrow x0 _ rfl _ rfl _ rfl _ rfl _ rfl h0 h2
    · refine Con.cond vt6 _ _ _ (fun h2 => ?_) (fun h2 => ?_)
      · have e2 := eq_of_beq h2; subst e2
        refine Con.cond vt6 _ _ _ (fun h3 => ?_) (fun h3 => ?_)
        · refine Con.cond vt6 _ _ _ (fun h4 => ?_) (fun h4 => ?_)
          · exact p6_scalar_relation_holdsNarrow x0 _ rfl _ rfl _ rfl _ rfl _ rfl _ rfl _ rfl _ rfl _ rfl h0 h1 h3 h4
          · exact p7_scalar_relation_holdsNarrow x0 _ rfl _ rfl _ rfl _ rfl _ rfl _ rfl _ rfl _ rfl _ rfl h0 h1 h3 h4
        · exact p8_scalar_relation_holdsNarrow x0 _ rfl _ rfl _ rfl _ rfl _ rfl h0 h1 h3
      · refine Con.cond vt6 _ _ _ (fun h3 => ?_) (fun h3 => ?_)
        · have e3 := eq_of_beq h3; subst e3
          refine Con.cond vt6 _ _ _ (fun h4 => ?_) (fun h4 => ?_)
          · refine Con.cond vt6 _ _ _ (fun h5 => ?_) (fun h5 => ?_)
            · exact p9_scalar_relation_holdsNarrow x0 _ rfl _ rfl _ rfl _ rfl _ rfl _ rfl _ rfl _ rfl _ rfl h0 h1 h2 h4 h5
            · exact p10_scalar_relation_holdsNarrow x0 _ rfl _ rfl _ rfl _ rfl _ rfl _ rfl _ rfl _ rfl _ rfl h0 h1 h2 h4 h5
          · exact p11_scalar_relation_holdsNarrow x0 _ rfl _ rfl _ rfl _ rfl _ rfl h0 h1 h2 h4
        · refine Con.cond vt6 _ _ _ (fun h4 => ?_) (fun h4 => ?_)
          · refine Con.cond vt6 _ _ _ (fun h5 => ?_) (fun h5 => ?_)
            · exact p12_scalar_relation_holdsNarrow x0 x1 _ rfl _ rfl _ rfl _ rfl _ rfl _ rfl _ rfl h0 h1 h2 h3 h4 h5
            · exact p13_scalar_relation_holdsNarrow x0 x1 _ rfl _ rfl _ rfl _ rfl _ rfl _ rfl _ rfl h0 h1 h2 h3 h4 h5
          · exact p14_scalar_relation_holdsNarrow x0 x1 _ rfl _ rfl _ rfl h0 h1 h2 h3 h4
-- barbican/scalar.contrary
def m_scalar_contrary (x0 : BitVec 64) : BitVec 64 :=
  (bif x0 == 1#64 then
    (5#64)
    else (bif x0 == 5#64 then
      (1#64)
      else (bif x0 == 2#64 then
        (11#64)
        else (bif x0 == 11#64 then
          (2#64)
          else (bif x0 == 3#64 then
            (10#64)
            else (bif x0 == 10#64 then
              (3#64)
              else (bif x0 == 6#64 then
                (13#64)
                else (bif x0 == 13#64 then
                  (6#64)
                  else (bif x0 == 7#64 then
                    (12#64)
                    else (bif x0 == 12#64 then
                      (7#64)
                      else (18446744073709551615#64)))))))))))
theorem p0_scalar_contrary  : Con Tryz.prog 49 #[(.int .i64 (ii (1#64)))] (.int .i64 (ii (5#64))) :=
  fn_conI (P := Tryz.prog) Tryz.func49 (fun xs w => by kernel_rfl) _ _
    [.o, .o, .o, .o, .o]
    [] (fun b => by kernel_rfl)
theorem p1_scalar_contrary  (h0 : (5#64 == 1#64) = false) : Con Tryz.prog 49 #[(.int .i64 (ii (5#64)))] (.int .i64 (ii (1#64))) :=
  fn_conI (P := Tryz.prog) Tryz.func49 (fun xs w => by kernel_rfl) _ _
    [.o, .o, .o, .o, .o, .o, .o]
    [] (fun b => by kernel_rfl)
theorem p2_scalar_contrary  (h0 : (2#64 == 1#64) = false) (h1 : (2#64 == 5#64) = false) : Con Tryz.prog 49 #[(.int .i64 (ii (2#64)))] (.int .i64 (ii (11#64))) :=
  fn_conI (P := Tryz.prog) Tryz.func49 (fun xs w => by kernel_rfl) _ _
    [.o, .o, .o, .o, .o, .o, .o, .o, .o]
    [] (fun b => by kernel_rfl)
theorem p3_scalar_contrary  (h0 : (11#64 == 1#64) = false) (h1 : (11#64 == 5#64) = false) (h2 : (11#64 == 2#64) = false) : Con Tryz.prog 49 #[(.int .i64 (ii (11#64)))] (.int .i64 (ii (2#64))) :=
  fn_conI (P := Tryz.prog) Tryz.func49 (fun xs w => by kernel_rfl) _ _
    [.o, .o, .o, .o, .o, .o, .o, .o, .o, .o, .o]
    [] (fun b => by kernel_rfl)
theorem p4_scalar_contrary  (h0 : (3#64 == 1#64) = false) (h1 : (3#64 == 5#64) = false) (h2 : (3#64 == 2#64) = false) (h3 : (3#64 == 11#64) = false) : Con Tryz.prog 49 #[(.int .i64 (ii (3#64)))] (.int .i64 (ii (10#64))) :=
  fn_conI (P := Tryz.prog) Tryz.func49 (fun xs w => by kernel_rfl) _ _
    [.o, .o, .o, .o, .o, .o, .o, .o, .o, .o, .o, .o, .o]
    [] (fun b => by kernel_rfl)
theorem p5_scalar_contrary  (h0 : (10#64 == 1#64) = false) (h1 : (10#64 == 5#64) = false) (h2 : (10#64 == 2#64) = false) (h3 : (10#64 == 11#64) = false) (h4 : (10#64 == 3#64) = false) : Con Tryz.prog 49 #[(.int .i64 (ii (10#64)))] (.int .i64 (ii (3#64))) :=
  fn_conI (P := Tryz.prog) Tryz.func49 (fun xs w => by kernel_rfl) _ _
    [.o, .o, .o, .o, .o, .o, .o, .o, .o, .o, .o, .o, .o, .o, .o]
    [] (fun b => by kernel_rfl)
theorem p6_scalar_contrary  (h0 : (6#64 == 1#64) = false) (h1 : (6#64 == 5#64) = false) (h2 : (6#64 == 2#64) = false) (h3 : (6#64 == 11#64) = false) (h4 : (6#64 == 3#64) = false) (h5 : (6#64 == 10#64) = false) : Con Tryz.prog 49 #[(.int .i64 (ii (6#64)))] (.int .i64 (ii (13#64))) :=
  fn_conI (P := Tryz.prog) Tryz.func49 (fun xs w => by kernel_rfl) _ _
    [.o, .o, .o, .o, .o, .o, .o, .o, .o, .o, .o, .o, .o, .o, .o, .o, .o]
    [] (fun b => by kernel_rfl)
theorem p7_scalar_contrary  (h0 : (13#64 == 1#64) = false) (h1 : (13#64 == 5#64) = false) (h2 : (13#64 == 2#64) = false) (h3 : (13#64 == 11#64) = false) (h4 : (13#64 == 3#64) = false) (h5 : (13#64 == 10#64) = false) (h6 : (13#64 == 6#64) = false) : Con Tryz.prog 49 #[(.int .i64 (ii (13#64)))] (.int .i64 (ii (6#64))) :=
  fn_conI (P := Tryz.prog) Tryz.func49 (fun xs w => by kernel_rfl) _ _
    [.o, .o, .o, .o, .o, .o, .o, .o, .o, .o, .o, .o, .o, .o, .o, .o, .o, .o, .o]
    [] (fun b => by kernel_rfl)
theorem p8_scalar_contrary  (h0 : (7#64 == 1#64) = false) (h1 : (7#64 == 5#64) = false) (h2 : (7#64 == 2#64) = false) (h3 : (7#64 == 11#64) = false) (h4 : (7#64 == 3#64) = false) (h5 : (7#64 == 10#64) = false) (h6 : (7#64 == 6#64) = false) (h7 : (7#64 == 13#64) = false) : Con Tryz.prog 49 #[(.int .i64 (ii (7#64)))] (.int .i64 (ii (12#64))) :=
  fn_conI (P := Tryz.prog) Tryz.func49 (fun xs w => by kernel_rfl) _ _
    [.o, .o, .o, .o, .o, .o, .o, .o, .o, .o, .o, .o, .o, .o, .o, .o, .o, .o, .o, .o, .o]
    [] (fun b => by kernel_rfl)
theorem p9_scalar_contrary  (h0 : (12#64 == 1#64) = false) (h1 : (12#64 == 5#64) = false) (h2 : (12#64 == 2#64) = false) (h3 : (12#64 == 11#64) = false) (h4 : (12#64 == 3#64) = false) (h5 : (12#64 == 10#64) = false) (h6 : (12#64 == 6#64) = false) (h7 : (12#64 == 13#64) = false) (h8 : (12#64 == 7#64) = false) : Con Tryz.prog 49 #[(.int .i64 (ii (12#64)))] (.int .i64 (ii (7#64))) :=
  fn_conI (P := Tryz.prog) Tryz.func49 (fun xs w => by kernel_rfl) _ _
    [.o, .o, .o, .o, .o, .o, .o, .o, .o, .o, .o, .o, .o, .o, .o, .o, .o, .o, .o, .o, .o, .o, .o]
    [] (fun b => by kernel_rfl)
theorem p10_scalar_contrary (x0 : BitVec 64) (h0 : (x0 == 1#64) = false) (h1 : (x0 == 5#64) = false) (h2 : (x0 == 2#64) = false) (h3 : (x0 == 11#64) = false) (h4 : (x0 == 3#64) = false) (h5 : (x0 == 10#64) = false) (h6 : (x0 == 6#64) = false) (h7 : (x0 == 13#64) = false) (h8 : (x0 == 7#64) = false) (h9 : (x0 == 12#64) = false) : Con Tryz.prog 49 #[(.int .i64 (ii (x0)))] (.int .i64 (ii (18446744073709551615#64))) :=
  fn_conI (P := Tryz.prog) Tryz.func49 (fun xs w => by kernel_rfl) _ _
    [.o, .o, .t (i_eq x0 1#64) h0, .o, .t (i_eq x0 5#64) h1, .o, .t (i_eq x0 2#64) h2, .o, .t (i_eq x0 11#64) h3, .o, .t (i_eq x0 3#64) h4, .o, .t (i_eq x0 10#64) h5, .o, .t (i_eq x0 6#64) h6, .o, .t (i_eq x0 13#64) h7, .o, .t (i_eq x0 7#64) h8, .o, .t (i_eq x0 12#64) h9, .o, .o]
    [] (fun b => by kernel_rfl)
theorem ok_scalar_contrary (x0 : BitVec 64) : Con Tryz.prog 49 #[(.int .i64 (ii (x0)))] (.int .i64 (ii (m_scalar_contrary x0))) := by
  unfold m_scalar_contrary
  refine Con.cond (fun r => (Value.int .i64 (ii (r)))) _ _ _ (fun h0 => ?_) (fun h0 => ?_)
  · have e0 := eq_of_beq h0; subst e0
    exact p0_scalar_contrary  
  · refine Con.cond (fun r => (Value.int .i64 (ii (r)))) _ _ _ (fun h1 => ?_) (fun h1 => ?_)
    · have e1 := eq_of_beq h1; subst e1
      exact p1_scalar_contrary  h0
    · refine Con.cond (fun r => (Value.int .i64 (ii (r)))) _ _ _ (fun h2 => ?_) (fun h2 => ?_)
      · have e2 := eq_of_beq h2; subst e2
        exact p2_scalar_contrary  h0 h1
      · refine Con.cond (fun r => (Value.int .i64 (ii (r)))) _ _ _ (fun h3 => ?_) (fun h3 => ?_)
        · have e3 := eq_of_beq h3; subst e3
          exact p3_scalar_contrary  h0 h1 h2
        · refine Con.cond (fun r => (Value.int .i64 (ii (r)))) _ _ _ (fun h4 => ?_) (fun h4 => ?_)
          · have e4 := eq_of_beq h4; subst e4
            exact p4_scalar_contrary  h0 h1 h2 h3
          · refine Con.cond (fun r => (Value.int .i64 (ii (r)))) _ _ _ (fun h5 => ?_) (fun h5 => ?_)
            · have e5 := eq_of_beq h5; subst e5
              exact p5_scalar_contrary  h0 h1 h2 h3 h4
            · refine Con.cond (fun r => (Value.int .i64 (ii (r)))) _ _ _ (fun h6 => ?_) (fun h6 => ?_)
              · have e6 := eq_of_beq h6; subst e6
                exact p6_scalar_contrary  h0 h1 h2 h3 h4 h5
              · refine Con.cond (fun r => (Value.int .i64 (ii (r)))) _ _ _ (fun h7 => ?_) (fun h7 => ?_)
                · have e7 := eq_of_beq h7; subst e7
                  exact p7_scalar_contrary  h0 h1 h2 h3 h4 h5 h6
                · refine Con.cond (fun r => (Value.int .i64 (ii (r)))) _ _ _ (fun h8 => ?_) (fun h8 => ?_)
                  · have e8 := eq_of_beq h8; subst e8
                    exact p8_scalar_contrary  h0 h1 h2 h3 h4 h5 h6 h7
                  · refine Con.cond (fun r => (Value.int .i64 (ii (r)))) _ _ _ (fun h9 => ?_) (fun h9 => ?_)
                    · have e9 := eq_of_beq h9; subst e9
                      exact p9_scalar_contrary  h0 h1 h2 h3 h4 h5 h6 h7 h8
                    · exact p10_scalar_contrary x0 h0 h1 h2 h3 h4 h5 h6 h7 h8 h9
-- barbican/scalar.Branch
def m_scalar_Branch (x0 : BitVec 64) (x1 : Bool) (x2 : Bool) (x3 : S) (x4 : S) : (S) × (S) × (Bool) :=
  (bif (m_alu_Cmp x0 x1 (0#64) (0#64)).2 then
    (bif x2 then
      (bif x1 then
        (bif (m_scalar_relation_holds (⟨(m_scalar_known x3), (m_scalar_known x4)⟩ : SS) x0).2 then
          (((m_scalar_relation_holds (⟨(m_scalar_known x3), (m_scalar_known x4)⟩ : SS) x0).1.a, (m_scalar_relation_holds (⟨(m_scalar_known x3), (m_scalar_known x4)⟩ : SS) x0).1.b, true))
          else ((zS, zS, false)))
        else (bif (m_scalar_relation_holdsNarrow (⟨(m_scalar_known x3), (m_scalar_known x4)⟩ : SS) x0).2 then
          (((m_scalar_relation_holdsNarrow (⟨(m_scalar_known x3), (m_scalar_known x4)⟩ : SS) x0).1.a, (m_scalar_relation_holdsNarrow (⟨(m_scalar_known x3), (m_scalar_known x4)⟩ : SS) x0).1.b, true))
          else ((zS, zS, false))))
      else (bif x1 then
        (bif (m_scalar_relation_holds (⟨(m_scalar_known x3), (m_scalar_known x4)⟩ : SS) (m_scalar_contrary x0)).2 then
          (((m_scalar_relation_holds (⟨(m_scalar_known x3), (m_scalar_known x4)⟩ : SS) (m_scalar_contrary x0)).1.a, (m_scalar_relation_holds (⟨(m_scalar_known x3), (m_scalar_known x4)⟩ : SS) (m_scalar_contrary x0)).1.b, true))
          else ((zS, zS, false)))
        else (bif (m_scalar_relation_holdsNarrow (⟨(m_scalar_known x3), (m_scalar_known x4)⟩ : SS) (m_scalar_contrary x0)).2 then
          (((m_scalar_relation_holdsNarrow (⟨(m_scalar_known x3), (m_scalar_known x4)⟩ : SS) (m_scalar_contrary x0)).1.a, (m_scalar_relation_holdsNarrow (⟨(m_scalar_known x3), (m_scalar_known x4)⟩ : SS) (m_scalar_contrary x0)).1.b, true))
          else ((zS, zS, false)))))
    else (((m_scalar_known x3), (m_scalar_known x4), true)))
theorem p0_scalar_Branch (x0 : BitVec 64) (x3 : S) (x4 : S) (ra0 : S) (ea0 : m_scalar_known x3 = ra0) (ra1 : S) (ea1 : m_scalar_known x4 = ra1) (ra2 : (Bool) × (Bool)) (ea2 : m_alu_Cmp x0 true (0#64) (0#64) = ra2) (ra3 : (SS) × (Bool)) (ea3 : m_scalar_relation_holds (⟨ra0, ra1⟩ : SS) x0 = ra3) (h0 : (ra2.2) = true) (h3 : (ra3.2) = true) : Con Tryz.prog 28 #[(.int .i64 (ii (x0))), (.bool (true)), (.bool (true)), (sv (x3)), (sv (x4))] (.tuple #[(sv (ra3.1.a)), (sv (ra3.1.b)), (.bool (true))]) :=
  fn_conI (P := Tryz.prog) Tryz.func28 (fun xs w => by kernel_rfl) _ _
    [.o, .o, .o, .o, .o, .r [0, 1, 2, 3] [] [4, 5], .a 0, .cr sv (ok_scalar_known (x3)) ea0, .a 1, .cr sv (ok_scalar_known (x4)) ea1, .a 0, .a 1, .o, .o, .cr vt3 (ok_alu_Cmp (x0) (true) (0#64) (0#64)) ea2, .o, .o, .b h0, .o, .o, .o, .o, .o, .o, .o, .o, .o, .a 0, .a 1, .o, .o, .cr vt6 (ok_scalar_relation_holds ((⟨ra0, ra1⟩ : SS)) (x0)) ea3, .o, .o, .b h3, .a 4, .o, .o, .o, .r [0, 1, 2, 3] [] [4, 5, 6], .o, .a 4, .o, .a 4, .a 2, .a 3, .o]
    [2, 2, 2, 2, 2, 2, 3, 3, 3, 3, 3, 3] (fun b => by kernel_rfl)
theorem p1_scalar_Branch (x0 : BitVec 64) (x3 : S) (x4 : S) (ra0 : S) (ea0 : m_scalar_known x3 = ra0) (ra1 : S) (ea1 : m_scalar_known x4 = ra1) (ra2 : (Bool) × (Bool)) (ea2 : m_alu_Cmp x0 true (0#64) (0#64) = ra2) (ra3 : (SS) × (Bool)) (ea3 : m_scalar_relation_holds (⟨ra0, ra1⟩ : SS) x0 = ra3) (h0 : (ra2.2) = true) (h3 : (ra3.2) = false) : Con Tryz.prog 28 #[(.int .i64 (ii (x0))), (.bool (true)), (.bool (true)), (sv (x3)), (sv (x4))] (.tuple #[(sv (zS)), (sv (zS)), (.bool (false))]) :=
  fn_conI (P := Tryz.prog) Tryz.func28 (fun xs w => by kernel_rfl) _ _
    [.o, .o, .o, .o, .o, .r [0, 1, 2, 3] [] [4, 5], .a 0, .cr sv (ok_scalar_known (x3)) ea0, .a 1, .cr sv (ok_scalar_known (x4)) ea1, .a 0, .a 1, .o, .o, .cr vt3 (ok_alu_Cmp (x0) (true) (0#64) (0#64)) ea2, .o, .o, .b h0, .o, .o, .o, .o, .o, .o, .o, .o, .o, .a 0, .a 1, .o, .o, .cr vt6 (ok_scalar_relation_holds ((⟨ra0, ra1⟩ : SS)) (x0)) ea3, .o, .o, .b h3, .a 4, .o, .o, .o, .o, .o, .a 2, .a 3, .o]
    [2, 2, 2, 2, 2, 2, 3, 3, 3, 3, 3, 3] (fun b => by kernel_rfl)
theorem p2_scalar_Branch (x0 : BitVec 64) (x3 : S) (x4 : S) (ra0 : S) (ea0 : m_scalar_known x3 = ra0) (ra1 : S) (ea1 : m_scalar_known x4 = ra1) (ra2 : (Bool) × (Bool)) (ea2 : m_alu_Cmp x0 false (0#64) (0#64) = ra2) (ra3 : (SS) × (Bool)) (ea3 : m_scalar_relation_holdsNarrow (⟨ra0, ra1⟩ : SS) x0 = ra3) (h0 : (ra2.2) = true) (h3 : (ra3.2) = true) : Con Tryz.prog 28 #[(.int .i64 (ii (x0))), (.bool (false)), (.bool (true)), (sv (x3)), (sv (x4))] (.tuple #[(sv (ra3.1.a)), (sv (ra3.1.b)), (.bool (true))]) :=
  fn_conI (P := Tryz.prog) Tryz.func28 (fun xs w => by kernel_rfl) _ _
    [.o, .o, .o, .o, .o, .r [0, 1, 2, 3] [] [4, 5], .a 0, .cr sv (ok_scalar_known (x3)) ea0, .a 1, .cr sv (ok_scalar_known (x4)) ea1, .a 0, .a 1, .o, .o, .cr vt3 (ok_alu_Cmp (x0) (false) (0#64) (0#64)) ea2, .o, .o, .b h0, .o, .o, .o, .o, .o, .o, .o, .o, .o, .a 0, .a 1, .o, .o, .cr vt6 (ok_scalar_relation_holdsNarrow ((⟨ra0, ra1⟩ : SS)) (x0)) ea3, .o, .o, .b h3, .a 4, .o, .o, .o, .r [0, 1, 2, 3] [] [4, 5, 6], .o, .a 4, .o, .a 4, .a 2, .a 3, .o]
    [2, 2, 2, 2, 2, 2, 3, 3, 3, 3, 3, 3] (fun b => by kernel_rfl)
theorem p3_scalar_Branch (x0 : BitVec 64) (x3 : S) (x4 : S) (ra0 : S) (ea0 : m_scalar_known x3 = ra0) (ra1 : S) (ea1 : m_scalar_known x4 = ra1) (ra2 : (Bool) × (Bool)) (ea2 : m_alu_Cmp x0 false (0#64) (0#64) = ra2) (ra3 : (SS) × (Bool)) (ea3 : m_scalar_relation_holdsNarrow (⟨ra0, ra1⟩ : SS) x0 = ra3) (h0 : (ra2.2) = true) (h3 : (ra3.2) = false) : Con Tryz.prog 28 #[(.int .i64 (ii (x0))), (.bool (false)), (.bool (true)), (sv (x3)), (sv (x4))] (.tuple #[(sv (zS)), (sv (zS)), (.bool (false))]) :=
  fn_conI (P := Tryz.prog) Tryz.func28 (fun xs w => by kernel_rfl) _ _
    [.o, .o, .o, .o, .o, .r [0, 1, 2, 3] [] [4, 5], .a 0, .cr sv (ok_scalar_known (x3)) ea0, .a 1, .cr sv (ok_scalar_known (x4)) ea1, .a 0, .a 1, .o, .o, .cr vt3 (ok_alu_Cmp (x0) (false) (0#64) (0#64)) ea2, .o, .o, .b h0, .o, .o, .o, .o, .o, .o, .o, .o, .o, .a 0, .a 1, .o, .o, .cr vt6 (ok_scalar_relation_holdsNarrow ((⟨ra0, ra1⟩ : SS)) (x0)) ea3, .o, .o, .b h3, .a 4, .o, .o, .o, .o, .o, .a 2, .a 3, .o]
    [2, 2, 2, 2, 2, 2, 3, 3, 3, 3, 3, 3] (fun b => by kernel_rfl)
theorem p4_scalar_Branch (x0 : BitVec 64) (x3 : S) (x4 : S) (ra0 : S) (ea0 : m_scalar_known x3 = ra0) (ra1 : S) (ea1 : m_scalar_known x4 = ra1) (ra2 : (Bool) × (Bool)) (ea2 : m_alu_Cmp x0 true (0#64) (0#64) = ra2) (ra3 : BitVec 64) (ea3 : m_scalar_contrary x0 = ra3) (ra4 : (SS) × (Bool)) (ea4 : m_scalar_relation_holds (⟨ra0, ra1⟩ : SS) ra3 = ra4) (h0 : (ra2.2) = true) (h3 : (ra4.2) = true) : Con Tryz.prog 28 #[(.int .i64 (ii (x0))), (.bool (true)), (.bool (false)), (sv (x3)), (sv (x4))] (.tuple #[(sv (ra4.1.a)), (sv (ra4.1.b)), (.bool (true))]) :=
  fn_conI (P := Tryz.prog) Tryz.func28 (fun xs w => by kernel_rfl) _ _
    [.o, .o, .o, .o, .o, .r [0, 1, 2, 3] [] [4, 5], .a 0, .cr sv (ok_scalar_known (x3)) ea0, .a 1, .cr sv (ok_scalar_known (x4)) ea1, .a 0, .a 1, .o, .o, .cr vt3 (ok_alu_Cmp (x0) (true) (0#64) (0#64)) ea2, .o, .o, .b h0, .o, .o, .o, .o, .o, .o, .o, .cr (fun r => (Value.int .i64 (ii (r)))) (ok_scalar_contrary (x0)) ea3, .o, .o, .o, .o, .a 0, .a 1, .o, .o, .cr vt6 (ok_scalar_relation_holds ((⟨ra0, ra1⟩ : SS)) (ra3)) ea4, .o, .o, .b h3, .a 4, .o, .o, .o, .r [0, 1, 2, 3] [] [4, 5, 6], .o, .a 4, .o, .a 4, .a 2, .a 3, .o]
    [2, 2, 2, 2, 2, 2, 3, 3, 3, 3, 3, 3] (fun b => by kernel_rfl)
theorem p5_scalar_Branch (x0 : BitVec 64) (x3 : S) (x4 : S) (ra0 : S) (ea0 : m_scalar_known x3 = ra0) (ra1 : S) (ea1 : m_scalar_known x4 = ra1) (ra2 : (Bool) × (Bool)) (ea2 : m_alu_Cmp x0 true (0#64) (0#64) = ra2) (ra3 : BitVec 64) (ea3 : m_scalar_contrary x0 = ra3) (ra4 : (SS) × (Bool)) (ea4 : m_scalar_relation_holds (⟨ra0, ra1⟩ : SS) ra3 = ra4) (h0 : (ra2.2) = true) (h3 : (ra4.2) = false) : Con Tryz.prog 28 #[(.int .i64 (ii (x0))), (.bool (true)), (.bool (false)), (sv (x3)), (sv (x4))] (.tuple #[(sv (zS)), (sv (zS)), (.bool (false))]) :=
  fn_conI (P := Tryz.prog) Tryz.func28 (fun xs w => by kernel_rfl) _ _
    [.o, .o, .o, .o, .o, .r [0, 1, 2, 3] [] [4, 5], .a 0, .cr sv (ok_scalar_known (x3)) ea0, .a 1, .cr sv (ok_scalar_known (x4)) ea1, .a 0, .a 1, .o, .o, .cr vt3 (ok_alu_Cmp (x0) (true) (0#64) (0#64)) ea2, .o, .o, .b h0, .o, .o, .o, .o, .o, .o, .o, .cr (fun r => (Value.int .i64 (ii (r)))) (ok_scalar_contrary (x0)) ea3, .o, .o, .o, .o, .a 0, .a 1, .o, .o, .cr vt6 (ok_scalar_relation_holds ((⟨ra0, ra1⟩ : SS)) (ra3)) ea4, .o, .o, .b h3, .a 4, .o, .o, .o, .o, .o, .a 2, .a 3, .o]
    [2, 2, 2, 2, 2, 2, 3, 3, 3, 3, 3, 3] (fun b => by kernel_rfl)
theorem p6_scalar_Branch (x0 : BitVec 64) (x3 : S) (x4 : S) (ra0 : S) (ea0 : m_scalar_known x3 = ra0) (ra1 : S) (ea1 : m_scalar_known x4 = ra1) (ra2 : (Bool) × (Bool)) (ea2 : m_alu_Cmp x0 false (0#64) (0#64) = ra2) (ra3 : BitVec 64) (ea3 : m_scalar_contrary x0 = ra3) (ra4 : (SS) × (Bool)) (ea4 : m_scalar_relation_holdsNarrow (⟨ra0, ra1⟩ : SS) ra3 = ra4) (h0 : (ra2.2) = true) (h3 : (ra4.2) = true) : Con Tryz.prog 28 #[(.int .i64 (ii (x0))), (.bool (false)), (.bool (false)), (sv (x3)), (sv (x4))] (.tuple #[(sv (ra4.1.a)), (sv (ra4.1.b)), (.bool (true))]) :=
  fn_conI (P := Tryz.prog) Tryz.func28 (fun xs w => by kernel_rfl) _ _
    [.o, .o, .o, .o, .o, .r [0, 1, 2, 3] [] [4, 5], .a 0, .cr sv (ok_scalar_known (x3)) ea0, .a 1, .cr sv (ok_scalar_known (x4)) ea1, .a 0, .a 1, .o, .o, .cr vt3 (ok_alu_Cmp (x0) (false) (0#64) (0#64)) ea2, .o, .o, .b h0, .o, .o, .o, .o, .o, .o, .o, .cr (fun r => (Value.int .i64 (ii (r)))) (ok_scalar_contrary (x0)) ea3, .o, .o, .o, .o, .a 0, .a 1, .o, .o, .cr vt6 (ok_scalar_relation_holdsNarrow ((⟨ra0, ra1⟩ : SS)) (ra3)) ea4, .o, .o, .b h3, .a 4, .o, .o, .o, .r [0, 1, 2, 3] [] [4, 5, 6], .o, .a 4, .o, .a 4, .a 2, .a 3, .o]
    [2, 2, 2, 2, 2, 2, 3, 3, 3, 3, 3, 3] (fun b => by kernel_rfl)
theorem p7_scalar_Branch (x0 : BitVec 64) (x3 : S) (x4 : S) (ra0 : S) (ea0 : m_scalar_known x3 = ra0) (ra1 : S) (ea1 : m_scalar_known x4 = ra1) (ra2 : (Bool) × (Bool)) (ea2 : m_alu_Cmp x0 false (0#64) (0#64) = ra2) (ra3 : BitVec 64) (ea3 : m_scalar_contrary x0 = ra3) (ra4 : (SS) × (Bool)) (ea4 : m_scalar_relation_holdsNarrow (⟨ra0, ra1⟩ : SS) ra3 = ra4) (h0 : (ra2.2) = true) (h3 : (ra4.2) = false) : Con Tryz.prog 28 #[(.int .i64 (ii (x0))), (.bool (false)), (.bool (false)), (sv (x3)), (sv (x4))] (.tuple #[(sv (zS)), (sv (zS)), (.bool (false))]) :=
  fn_conI (P := Tryz.prog) Tryz.func28 (fun xs w => by kernel_rfl) _ _
    [.o, .o, .o, .o, .o, .r [0, 1, 2, 3] [] [4, 5], .a 0, .cr sv (ok_scalar_known (x3)) ea0, .a 1, .cr sv (ok_scalar_known (x4)) ea1, .a 0, .a 1, .o, .o, .cr vt3 (ok_alu_Cmp (x0) (false) (0#64) (0#64)) ea2, .o, .o, .b h0, .o, .o, .o, .o, .o, .o, .o, .cr (fun r => (Value.int .i64 (ii (r)))) (ok_scalar_contrary (x0)) ea3, .o, .o, .o, .o, .a 0, .a 1, .o, .o, .cr vt6 (ok_scalar_relation_holdsNarrow ((⟨ra0, ra1⟩ : SS)) (ra3)) ea4, .o, .o, .b h3, .a 4, .o, .o, .o, .o, .o, .a 2, .a 3, .o]
    [2, 2, 2, 2, 2, 2, 3, 3, 3, 3, 3, 3] (fun b => by kernel_rfl)
theorem p8_scalar_Branch (x0 : BitVec 64) (x1 : Bool) (x2 : Bool) (x3 : S) (x4 : S) (ra0 : S) (ea0 : m_scalar_known x3 = ra0) (ra1 : S) (ea1 : m_scalar_known x4 = ra1) (ra2 : (Bool) × (Bool)) (ea2 : m_alu_Cmp x0 x1 (0#64) (0#64) = ra2) (h0 : (ra2.2) = false) : Con Tryz.prog 28 #[(.int .i64 (ii (x0))), (.bool (x1)), (.bool (x2)), (sv (x3)), (sv (x4))] (.tuple #[(sv (ra0)), (sv (ra1)), (.bool (true))]) :=
  fn_conI (P := Tryz.prog) Tryz.func28 (fun xs w => by kernel_rfl) _ _
    [.o, .o, .o, .o, .o, .r [0, 1, 2, 3] [] [4, 5], .a 0, .cr sv (ok_scalar_known (x3)) ea0, .a 1, .cr sv (ok_scalar_known (x4)) ea1, .a 0, .a 1, .o, .o, .cr vt3 (ok_alu_Cmp (x0) (x1) (0#64) (0#64)) ea2, .o, .o, .b h0, .o, .o, .o, .o, .r [0, 1] [] [2, 3, 4], .a 0, .a 1, .a 2, .a 3, .o]
    [2, 2, 2, 2, 2, 2, 3, 3, 3, 3, 3, 3] (fun b => by kernel_rfl)
theorem ok_scalar_Branch (x0 : BitVec 64) (x1 : Bool) (x2 : Bool) (x3 : S) (x4 : S) : Con Tryz.prog 28 #[(.int .i64 (ii (x0))), (.bool (x1)), (.bool (x2)), (sv (x3)), (sv (x4))] (vt7 (m_scalar_Branch x0 x1 x2 x3 x4)) := by
  unfold m_scalar_Branch
  refine Con.cond vt7 _ _ _ (fun h0 => ?_) (fun h0 => ?_)
  · refine Con.cond vt7 _ _ _ (fun h1 => ?_) (fun h1 => ?_)
    · subst h1
      refine Con.cond vt7 _ _ _ (fun h2 => ?_) (fun h2 => ?_)
      · subst h2
        refine Con.cond vt7 _ _ _ (fun h3 => ?_) (fun h3 => ?_)
        · exact p0_scalar_Branch x0 x3 x4 _ rfl _ rfl _ rfl _ rfl h0 h3
        · exact p1_scalar_Branch x0 x3 x4 _ rfl _ rfl _ rfl _ rfl h0 h3
      · subst h2
        refine Con.cond vt7 _ _ _ (fun h3 => ?_) (fun h3 => ?_)
        · exact p2_scalar_Branch x0 x3 x4 _ rfl _ rfl _ rfl _ rfl h0 h3
        · exact p3_scalar_Branch x0 x3 x4 _ rfl _ rfl _ rfl _ rfl h0 h3
    · subst h1
      refine Con.cond vt7 _ _ _ (fun h2 => ?_) (fun h2 => ?_)
      · subst h2
        refine Con.cond vt7 _ _ _ (fun h3 => ?_) (fun h3 => ?_)
        · exact p4_scalar_Branch x0 x3 x4 _ rfl _ rfl _ rfl _ rfl _ rfl h0 h3
        · exact p5_scalar_Branch x0 x3 x4 _ rfl _ rfl _ rfl _ rfl _ rfl h0 h3
      · subst h2
        refine Con.cond vt7 _ _ _ (fun h3 => ?_) (fun h3 => ?_)
        · exact p6_scalar_Branch x0 x3 x4 _ rfl _ rfl _ rfl _ rfl _ rfl h0 h3
        · exact p7_scalar_Branch x0 x3 x4 _ rfl _ rfl _ rfl _ rfl _ rfl h0 h3
  · exact p8_scalar_Branch x0 x1 x2 x3 x4 _ rfl _ rfl _ rfl h0
-- barbican/scalar.Decided
def m_scalar_Decided (x0 : BitVec 64) (x1 : Bool) (x2 : S) (x3 : S) : (Bool) × (Bool) :=
  (bif (m_alu_Cmp x0 x1 (0#64) (0#64)).2 then
    (bif (m_scalar_Branch x0 x1 true x2 x3).2.2 then
      (bif (m_scalar_Branch x0 x1 false x2 x3).2.2 then
        ((false, false))
        else ((true, true)))
      else ((true, false)))
    else ((false, false)))
theorem p0_scalar_Decided (x0 : BitVec 64) (x1 : Bool) (x2 : S) (x3 : S) (ra0 : (Bool) × (Bool)) (ea0 : m_alu_Cmp x0 x1 (0#64) (0#64) = ra0) (ra1 : (S) × (S) × (Bool)) (ea1 : m_scalar_Branch x0 x1 true x2 x3 = ra1) (ra2 : (S) × (S) × (Bool)) (ea2 : m_scalar_Branch x0 x1 false x2 x3 = ra2) (h0 : (ra0.2) = true) (h1 : (ra1.2.2) = true) (h2 : (ra2.2.2) = true) : Con Tryz.prog 27 #[(.int .i64 (ii (x0))), (.bool (x1)), (sv (x2)), (sv (x3))] (.tuple #[(.bool (false)), (.bool (false))]) :=
  fn_conI (P := Tryz.prog) Tryz.func27 (fun xs w => by kernel_rfl) _ _
    [.o, .o, .o, .o, .o, .o, .cr vt3 (ok_alu_Cmp (x0) (x1) (0#64) (0#64)) ea0, .o, .o, .b h0, .o, .o, .o, .o, .o, .o, .a 0, .a 1, .cr vt7 (ok_scalar_Branch (x0) (x1) (true) (x2) (x3)) ea1, .o, .o, .o, .b h1, .o, .o, .a 2, .a 3, .o, .o, .o, .o, .o, .a 0, .a 1, .cr vt7 (ok_scalar_Branch (x0) (x1) (false) (x2) (x3)) ea2, .o, .o, .o, .b h2, .o, .o, .a 4, .a 5, .o, .o, .o, .o, .o]
    [] (fun b => by kernel_rfl)
theorem p1_scalar_Decided (x0 : BitVec 64) (x1 : Bool) (x2 : S) (x3 : S) (ra0 : (Bool) × (Bool)) (ea0 : m_alu_Cmp x0 x1 (0#64) (0#64) = ra0) (ra1 : (S) × (S) × (Bool)) (ea1 : m_scalar_Branch x0 x1 true x2 x3 = ra1) (ra2 : (S) × (S) × (Bool)) (ea2 : m_scalar_Branch x0 x1 false x2 x3 = ra2) (h0 : (ra0.2) = true) (h1 : (ra1.2.2) = true) (h2 : (ra2.2.2) = false) : Con Tryz.prog 27 #[(.int .i64 (ii (x0))), (.bool (x1)), (sv (x2)), (sv (x3))] (.tuple #[(.bool (true)), (.bool (true))]) :=
  fn_conI (P := Tryz.prog) Tryz.func27 (fun xs w => by kernel_rfl) _ _
    [.o, .o, .o, .o, .o, .o, .cr vt3 (ok_alu_Cmp (x0) (x1) (0#64) (0#64)) ea0, .o, .o, .b h0, .o, .o, .o, .o, .o, .o, .a 0, .a 1, .cr vt7 (ok_scalar_Branch (x0) (x1) (true) (x2) (x3)) ea1, .o, .o, .o, .b h1, .o, .o, .a 2, .a 3, .o, .o, .o, .o, .o, .a 0, .a 1, .cr vt7 (ok_scalar_Branch (x0) (x1) (false) (x2) (x3)) ea2, .o, .o, .o, .b h2, .o, .o, .a 4, .a 5, .o, .o, .o, .o, .o]
    [] (fun b => by kernel_rfl)
theorem p2_scalar_Decided (x0 : BitVec 64) (x1 : Bool) (x2 : S) (x3 : S) (ra0 : (Bool) × (Bool)) (ea0 : m_alu_Cmp x0 x1 (0#64) (0#64) = ra0) (ra1 : (S) × (S) × (Bool)) (ea1 : m_scalar_Branch x0 x1 true x2 x3 = ra1) (h0 : (ra0.2) = true) (h1 : (ra1.2.2) = false) : Con Tryz.prog 27 #[(.int .i64 (ii (x0))), (.bool (x1)), (sv (x2)), (sv (x3))] (.tuple #[(.bool (true)), (.bool (false))]) :=
  fn_conI (P := Tryz.prog) Tryz.func27 (fun xs w => by kernel_rfl) _ _
    [.o, .o, .o, .o, .o, .o, .cr vt3 (ok_alu_Cmp (x0) (x1) (0#64) (0#64)) ea0, .o, .o, .b h0, .o, .o, .o, .o, .o, .o, .a 0, .a 1, .cr vt7 (ok_scalar_Branch (x0) (x1) (true) (x2) (x3)) ea1, .o, .o, .o, .b h1, .o, .o, .a 2, .a 3, .o, .o, .o, .o, .o]
    [] (fun b => by kernel_rfl)
theorem p3_scalar_Decided (x0 : BitVec 64) (x1 : Bool) (x2 : S) (x3 : S) (ra0 : (Bool) × (Bool)) (ea0 : m_alu_Cmp x0 x1 (0#64) (0#64) = ra0) (h0 : (ra0.2) = false) : Con Tryz.prog 27 #[(.int .i64 (ii (x0))), (.bool (x1)), (sv (x2)), (sv (x3))] (.tuple #[(.bool (false)), (.bool (false))]) :=
  fn_conI (P := Tryz.prog) Tryz.func27 (fun xs w => by kernel_rfl) _ _
    [.o, .o, .o, .o, .o, .o, .cr vt3 (ok_alu_Cmp (x0) (x1) (0#64) (0#64)) ea0, .o, .o, .b h0, .o, .o, .o, .o, .o, .o]
    [] (fun b => by kernel_rfl)
theorem ok_scalar_Decided (x0 : BitVec 64) (x1 : Bool) (x2 : S) (x3 : S) : Con Tryz.prog 27 #[(.int .i64 (ii (x0))), (.bool (x1)), (sv (x2)), (sv (x3))] (vt3 (m_scalar_Decided x0 x1 x2 x3)) := by
  unfold m_scalar_Decided
  refine Con.cond vt3 _ _ _ (fun h0 => ?_) (fun h0 => ?_)
  · refine Con.cond vt3 _ _ _ (fun h1 => ?_) (fun h1 => ?_)
    · refine Con.cond vt3 _ _ _ (fun h2 => ?_) (fun h2 => ?_)
      · exact p0_scalar_Decided x0 x1 x2 x3 _ rfl _ rfl _ rfl h0 h1 h2
      · exact p1_scalar_Decided x0 x1 x2 x3 _ rfl _ rfl _ rfl h0 h1 h2
    · exact p2_scalar_Decided x0 x1 x2 x3 _ rfl _ rfl h0 h1
  · exact p3_scalar_Decided x0 x1 x2 x3 _ rfl h0
end Go.Proofs.YtmhiiahfjoijgaaGreat
