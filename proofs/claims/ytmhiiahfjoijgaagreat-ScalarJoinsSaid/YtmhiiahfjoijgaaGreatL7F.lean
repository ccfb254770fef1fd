/-
  The test that all laws begin with, a scalar of some numbers.
-/
import Derived.Test.YtmhiiahfjoijgaaGreatL7E
import Derived.Test.YtmhiiahfjoijgaaGreatL7K
namespace Go.Proofs.YtmhiiahfjoijgaaGreat
open Go.RowKit
set_option linter.unusedVariables false
set_option linter.unusedSimpArgs false
set_option maxRecDepth 100000
set_option maxHeartbeats 4000000
-- barbican/scalar.contrary
def m_scalar_contrary_2  : BitVec 64 :=
  (11#64)
theorem p0_scalar_contrary_2  : Con Tryz.prog 49 #[.int .i64 ((2))] (.int .i64 (ii (11#64))) :=
  fn_conI (P := Tryz.prog) Tryz.func49 (fun xs w => by kernel_rfl) _ _
    [.o, .o, .o, .o, .o, .o, .o, .o, .o]
    [] (fun b => by kernel_rfl)
theorem ok_scalar_contrary_2  : Con Tryz.prog 49 #[.int .i64 ((2))] (.int .i64 (ii (m_scalar_contrary_2 ))) := by
  unfold m_scalar_contrary_2
  exact p0_scalar_contrary_2  
-- tuples
def vt6 (r : (SS) × (Bool)) : Value := .tuple #[(ssv (r.1)), (.bool (r.2))]

-- (barbican/scalar.relation).synced
def m_scalar_relation_synced (x0 : SS) : (SS) × (Bool) :=
  (bif (m_Sync x0.a).2 then
    (((⟨(m_Sync x0.a).1, (m_Sync x0.b).1⟩ : SS), (m_Sync x0.b).2))
    else (((⟨(m_Sync x0.a).1, (m_Sync x0.b).1⟩ : SS), false)))
theorem p0_scalar_relation_synced (x0 : SS) (ra0 : (S) × (Bool)) (ea0 : m_Sync x0.a = ra0) (ra1 : (S) × (Bool)) (ea1 : m_Sync x0.b = ra1) (h0 : (ra0.2) = true) : Con Tryz.prog 144 #[(ssv (x0))] (.tuple #[(ssv ((⟨ra0.1, ra1.1⟩ : SS))), (.bool (ra1.2))]) :=
  fn_conI (P := Tryz.prog) Tryz.func144 (fun xs w => by kernel_rfl) _ _
    [.o, .o, .o, .o, .a 0, .cr vt2 (ok_Sync (x0.a)) ea0, .o, .o, .b h0, .o, .a 2, .o, .o, .a 0, .cr vt2 (ok_Sync (x0.b)) ea1, .o, .o, .o, .o, .a 3, .o, .a 2, .a 3, .o, .o, .o, .o, .o, .a 1, .o]
    [1, 1, 1, 1, 1, 1, 1, 1, 1, 1, 1, 1] (fun b => by kernel_rfl)
theorem p1_scalar_relation_synced (x0 : SS) (ra0 : (S) × (Bool)) (ea0 : m_Sync x0.a = ra0) (ra1 : (S) × (Bool)) (ea1 : m_Sync x0.b = ra1) (h0 : (ra0.2) = false) : Con Tryz.prog 144 #[(ssv (x0))] (.tuple #[(ssv ((⟨ra0.1, ra1.1⟩ : SS))), (.bool (false))]) :=
  fn_conI (P := Tryz.prog) Tryz.func144 (fun xs w => by kernel_rfl) _ _
    [.o, .o, .o, .o, .a 0, .cr vt2 (ok_Sync (x0.a)) ea0, .o, .o, .b h0, .o, .a 2, .o, .o, .a 0, .cr vt2 (ok_Sync (x0.b)) ea1, .o, .o, .o, .o, .a 3, .o, .a 2, .a 3, .o, .o, .o, .o, .a 1, .o]
    [1, 1, 1, 1, 1, 1, 1, 1, 1, 1, 1, 1] (fun b => by kernel_rfl)
theorem ok_scalar_relation_synced (x0 : SS) : Con Tryz.prog 144 #[(ssv (x0))] (vt6 (m_scalar_relation_synced x0)) := by
  unfold m_scalar_relation_synced
  refine Con.cond vt6 _ _ _ (fun h0 => ?_) (fun h0 => ?_)
  · exact p0_scalar_relation_synced x0 _ rfl _ rfl h0
  · exact p1_scalar_relation_synced x0 _ rfl _ rfl h0
-- (barbican/scalar.relation).notBelow
def m_scalar_relation_notBelow (x0 : SS) : (SS) × (Bool) :=
  ((m_scalar_relation_synced (⟨(⟨x0.a.t, (uMax x0.a.umin x0.b.umin), x0.a.umax, x0.a.smin, x0.a.smax⟩ : S), (⟨x0.b.t, x0.b.umin, (uMin x0.b.umax x0.a.umax), x0.b.smin, x0.b.smax⟩ : S)⟩ : SS)))
theorem p0_scalar_relation_notBelow (x0 : SS) (ra0 : (SS) × (Bool)) (ea0 : m_scalar_relation_synced (⟨(⟨x0.a.t, (uMax x0.a.umin x0.b.umin), x0.a.umax, x0.a.smin, x0.a.smax⟩ : S), (⟨x0.b.t, x0.b.umin, (uMin x0.b.umax x0.a.umax), x0.b.smin, x0.b.smax⟩ : S)⟩ : SS) = ra0) : Con Tryz.prog 112 #[(ssv (x0))] (vt6 (ra0)) :=
  fn_conI (P := Tryz.prog) Tryz.func112 (fun xs w => by kernel_rfl) _ _
    [.o, .o, .o, .r [0, 1, 2, 3, 4, 5, 6, 7] [] [], .o, .o, .a 0, .o, .o, .a 0, .o, .o, .o, .o, .a 0, .o, .v .u64 (u_max x0.a.umin x0.b.umin), .o, .o, .a 0, .o, .o, .a 0, .o, .v .u64 (u_min x0.b.umax x0.a.umax), .o, .o, .a 0, .a 0, .cr vt6 (ok_scalar_relation_synced ((⟨(⟨x0.a.t, (uMax x0.a.umin x0.b.umin), x0.a.umax, x0.a.smin, x0.a.smax⟩ : S), (⟨x0.b.t, x0.b.umin, (uMin x0.b.umax x0.a.umax), x0.b.smin, x0.b.smax⟩ : S)⟩ : SS))) ea0, .o, .o, .a 1, .o]
    [1, 1, 1, 1, 1, 1, 1, 1, 1, 1, 1, 1] (fun b => by kernel_rfl)
theorem ok_scalar_relation_notBelow (x0 : SS) : Con Tryz.prog 112 #[(ssv (x0))] (vt6 (m_scalar_relation_notBelow x0)) := by
  unfold m_scalar_relation_notBelow
  exact p0_scalar_relation_notBelow x0 _ rfl
-- (barbican/scalar.relation).turned
def m_scalar_relation_turned_112 (x0 : SS) : (SS) × (Bool) :=
  (((⟨(m_scalar_relation_notBelow (⟨x0.b, x0.a⟩ : SS)).1.b, (m_scalar_relation_notBelow (⟨x0.b, x0.a⟩ : SS)).1.a⟩ : SS), (m_scalar_relation_notBelow (⟨x0.b, x0.a⟩ : SS)).2))
theorem p0_scalar_relation_turned_112 (x0 : SS) (ra0 : (SS) × (Bool)) (ea0 : m_scalar_relation_notBelow (⟨x0.b, x0.a⟩ : SS) = ra0) : Con Tryz.prog 113 #[(ssv (x0)), .func (.func 112) #[] #[]] (.tuple #[(ssv ((⟨ra0.1.b, ra0.1.a⟩ : SS))), (.bool (ra0.2))]) :=
  fn_conI (P := Tryz.prog) Tryz.func113 (fun xs w => by kernel_rfl) _ _
    [.o, .o, .o, .o, .o, .a 0, .o, .a 0, .o, .cr vt6 (ok_scalar_relation_notBelow ((⟨x0.b, x0.a⟩ : SS))) ea0, .o, .o, .o, .o, .a 2, .o, .o, .a 2, .o, .a 2, .o, .o, .a 1, .o]
    [1, 1, 1, 1, 1, 1, 1, 1, 1, 1, 1, 1] (fun b => by kernel_rfl)
theorem ok_scalar_relation_turned_112 (x0 : SS) : Con Tryz.prog 113 #[(ssv (x0)), .func (.func 112) #[] #[]] (vt6 (m_scalar_relation_turned_112 x0)) := by
  unfold m_scalar_relation_turned_112
  exact p0_scalar_relation_turned_112 x0 _ rfl
-- (barbican/scalar.relation).holds
def m_scalar_relation_holds_11 (x0 : SS) : (SS) × (Bool) :=
  ((m_scalar_relation_turned_112 x0))
theorem p0_scalar_relation_holds_11 (x0 : SS) (ra0 : (SS) × (Bool)) (ea0 : m_scalar_relation_turned_112 x0 = ra0) : Con Tryz.prog 50 #[(ssv (x0)), .int .i64 ((11))] (vt6 (ra0)) :=
  fn_conI (P := Tryz.prog) Tryz.func50 (fun xs w => by kernel_rfl) _ _
    [.o, .o, .o, .o, .o, .o, .o, .o, .o, .o, .o, .o, .o, .o, .o, .o, .a 0, .cr vt6 (ok_scalar_relation_turned_112 (x0)) ea0, .o, .o, .a 1, .o]
    [1, 1, 1, 1, 1, 1, 1, 1, 1, 1, 1, 1] (fun b => by kernel_rfl)
theorem ok_scalar_relation_holds_11 (x0 : SS) : Con Tryz.prog 50 #[(ssv (x0)), .int .i64 ((11))] (vt6 (m_scalar_relation_holds_11 x0)) := by
  unfold m_scalar_relation_holds_11
  exact p0_scalar_relation_holds_11 x0 _ rfl
-- tuples
def vt7 (r : (S) × (S) × (Bool)) : Value := .tuple #[(sv (r.1)), (sv (r.2.1)), (.bool (r.2.2))]

-- barbican/scalar.Branch
def m_scalar_Branch_2_true_false (x3 : S) (x4 : S) : (S) × (S) × (Bool) :=
  (bif (m_alu_Cmp (2#64) true (0#64) (0#64)).2 then
    (bif (m_scalar_relation_holds_11 (⟨(m_scalar_known x3), (m_scalar_known x4)⟩ : SS)).2 then
      (((m_scalar_relation_holds_11 (⟨(m_scalar_known x3), (m_scalar_known x4)⟩ : SS)).1.a, (m_scalar_relation_holds_11 (⟨(m_scalar_known x3), (m_scalar_known x4)⟩ : SS)).1.b, true))
      else ((zS, zS, false)))
    else (((m_scalar_known x3), (m_scalar_known x4), true)))
theorem p0_scalar_Branch_2_true_false (x3 : S) (x4 : S) (ra0 : S) (ea0 : m_scalar_known x3 = ra0) (ra1 : S) (ea1 : m_scalar_known x4 = ra1) (ra2 : (Bool) × (Bool)) (ea2 : m_alu_Cmp (2#64) true (0#64) (0#64) = ra2) (ra3 : (SS) × (Bool)) (ea3 : m_scalar_relation_holds_11 (⟨ra0, ra1⟩ : SS) = ra3) (h0 : (ra2.2) = true) (h1 : (ra3.2) = true) : Con Tryz.prog 28 #[.int .i64 ((2)), .bool true, .bool false, (sv (x3)), (sv (x4))] (.tuple #[(sv (ra3.1.a)), (sv (ra3.1.b)), (.bool (true))]) :=
  fn_conI (P := Tryz.prog) Tryz.func28 (fun xs w => by kernel_rfl) _ _
    [.o, .o, .o, .o, .o, .r [0, 1, 2, 3] [] [4, 5], .a 0, .cr sv (ok_scalar_known (x3)) ea0, .a 1, .cr sv (ok_scalar_known (x4)) ea1, .a 0, .a 1, .o, .o, .cr vt3 (ok_alu_Cmp (2#64) (true) (0#64) (0#64)) ea2, .o, .o, .b h0, .o, .o, .o, .o, .o, .o, .o, .cl (ok_scalar_contrary_2 ) (show (Value.int .i64 (ii (m_scalar_contrary_2 ))) = Value.int .i64 (11) from by kernel_rfl), .o, .o, .o, .o, .a 0, .a 1, .o, .o, .cr vt6 (ok_scalar_relation_holds_11 ((⟨ra0, ra1⟩ : SS))) ea3, .o, .o, .b h1, .a 4, .o, .o, .o, .r [0, 1, 2, 3] [] [4, 5, 6], .o, .a 4, .o, .a 4, .a 2, .a 3, .o]
    [2, 2, 2, 2, 2, 2, 3, 3, 3, 3, 3, 3] (fun b => by kernel_rfl)
theorem p1_scalar_Branch_2_true_false (x3 : S) (x4 : S) (ra0 : S) (ea0 : m_scalar_known x3 = ra0) (ra1 : S) (ea1 : m_scalar_known x4 = ra1) (ra2 : (Bool) × (Bool)) (ea2 : m_alu_Cmp (2#64) true (0#64) (0#64) = ra2) (ra3 : (SS) × (Bool)) (ea3 : m_scalar_relation_holds_11 (⟨ra0, ra1⟩ : SS) = ra3) (h0 : (ra2.2) = true) (h1 : (ra3.2) = false) : Con Tryz.prog 28 #[.int .i64 ((2)), .bool true, .bool false, (sv (x3)), (sv (x4))] (.tuple #[(sv (zS)), (sv (zS)), (.bool (false))]) :=
  fn_conI (P := Tryz.prog) Tryz.func28 (fun xs w => by kernel_rfl) _ _
    [.o, .o, .o, .o, .o, .r [0, 1, 2, 3] [] [4, 5], .a 0, .cr sv (ok_scalar_known (x3)) ea0, .a 1, .cr sv (ok_scalar_known (x4)) ea1, .a 0, .a 1, .o, .o, .cr vt3 (ok_alu_Cmp (2#64) (true) (0#64) (0#64)) ea2, .o, .o, .b h0, .o, .o, .o, .o, .o, .o, .o, .cl (ok_scalar_contrary_2 ) (show (Value.int .i64 (ii (m_scalar_contrary_2 ))) = Value.int .i64 (11) from by kernel_rfl), .o, .o, .o, .o, .a 0, .a 1, .o, .o, .cr vt6 (ok_scalar_relation_holds_11 ((⟨ra0, ra1⟩ : SS))) ea3, .o, .o, .b h1, .a 4, .o, .o, .o, .o, .o, .a 2, .a 3, .o]
    [2, 2, 2, 2, 2, 2, 3, 3, 3, 3, 3, 3] (fun b => by kernel_rfl)
theorem p2_scalar_Branch_2_true_false (x3 : S) (x4 : S) (ra0 : S) (ea0 : m_scalar_known x3 = ra0) (ra1 : S) (ea1 : m_scalar_known x4 = ra1) (ra2 : (Bool) × (Bool)) (ea2 : m_alu_Cmp (2#64) true (0#64) (0#64) = ra2) (h0 : (ra2.2) = false) : Con Tryz.prog 28 #[.int .i64 ((2)), .bool true, .bool false, (sv (x3)), (sv (x4))] (.tuple #[(sv (ra0)), (sv (ra1)), (.bool (true))]) :=
  fn_conI (P := Tryz.prog) Tryz.func28 (fun xs w => by kernel_rfl) _ _
    [.o, .o, .o, .o, .o, .r [0, 1, 2, 3] [] [4, 5], .a 0, .cr sv (ok_scalar_known (x3)) ea0, .a 1, .cr sv (ok_scalar_known (x4)) ea1, .a 0, .a 1, .o, .o, .cr vt3 (ok_alu_Cmp (2#64) (true) (0#64) (0#64)) ea2, .o, .o, .b h0, .o, .o, .o, .o, .r [0, 1] [] [2, 3, 4], .a 0, .a 1, .a 2, .a 3, .o]
    [2, 2, 2, 2, 2, 2, 3, 3, 3, 3, 3, 3] (fun b => by kernel_rfl)
theorem ok_scalar_Branch_2_true_false (x3 : S) (x4 : S) : Con Tryz.prog 28 #[.int .i64 ((2)), .bool true, .bool false, (sv (x3)), (sv (x4))] (vt7 (m_scalar_Branch_2_true_false x3 x4)) := by
  unfold m_scalar_Branch_2_true_false
  refine Con.cond vt7 _ _ _ (fun h0 => ?_) (fun h0 => ?_)
  · refine Con.cond vt7 _ _ _ (fun h1 => ?_) (fun h1 => ?_)
    · exact p0_scalar_Branch_2_true_false x3 x4 _ rfl _ rfl _ rfl _ rfl h0 h1
    · exact p1_scalar_Branch_2_true_false x3 x4 _ rfl _ rfl _ rfl _ rfl h0 h1
  · exact p2_scalar_Branch_2_true_false x3 x4 _ rfl _ rfl _ rfl h0
-- barbican/barbicanlaw7.known
def m_barbicanlaw7_known  : Bool :=
  (bif (m_scalar_Branch_2_true_false (m_scalar_Unknown ) (m_scalar_Const (9#64))).2.2 then
    (bif (m_scalar_Do (0#64) true (m_scalar_Between (0#64) (7#64)) (m_scalar_Const (8#64))).umin == 8#64 then
      (bif (m_scalar_Do (0#64) true (m_scalar_Between (0#64) (7#64)) (m_scalar_Const (8#64))).umax == 15#64 then
        (bif (m_scalar_Branch_2_true_false (m_scalar_Unknown ) (m_scalar_Const (9#64))).1.umin == 0#64 then
          (bif (m_scalar_Branch_2_true_false (m_scalar_Unknown ) (m_scalar_Const (9#64))).1.umax == 9#64 then
            (bif (m_scalar_Branch_2_true_false (m_scalar_Unknown ) (m_scalar_Const (9#64))).1.smin == 0#64 then
              ((m_scalar_Branch_2_true_false (m_scalar_Unknown ) (m_scalar_Const (9#64))).1.smax == 9#64)
              else (false))
            else (false))
          else (false))
        else (false))
      else (false))
    else (false))
theorem p0_barbicanlaw7_known  (ra0 : S) (ea0 : m_scalar_Between (0#64) (7#64) = ra0) (ra1 : S) (ea1 : m_scalar_Const (8#64) = ra1) (ra2 : S) (ea2 : m_scalar_Do (0#64) true ra0 ra1 = ra2) (ra3 : S) (ea3 : m_scalar_Unknown  = ra3) (ra4 : S) (ea4 : m_scalar_Const (9#64) = ra4) (ra5 : (S) × (S) × (Bool)) (ea5 : m_scalar_Branch_2_true_false ra3 ra4 = ra5) (h0 : (ra5.2.2) = true) (h1 : (ra2.umin == 8#64) = true) (h2 : (ra2.umax == 15#64) = true) (h3 : (ra5.1.umin == 0#64) = true) (h4 : (ra5.1.umax == 9#64) = true) (h5 : (ra5.1.smin == 0#64) = true) : Con Tryz.prog 11 #[] (.bool (ra5.1.smax == 9#64)) :=
  fn_conI (P := Tryz.prog) Tryz.func11 (fun xs w => by kernel_rfl) _ _
    [.o, .cr sv (ok_scalar_Between (0#64) (7#64)) ea0, .cr sv (ok_scalar_Const (8#64)) ea1, .cr sv (ok_scalar_Do (0#64) (true) (ra0) (ra1)) ea2, .o, .a 0, .cr sv (ok_scalar_Unknown ) ea3, .cr sv (ok_scalar_Const (9#64)) ea4, .cr vt7 (ok_scalar_Branch_2_true_false (ra3) (ra4)) ea5, .o, .o, .o, .b h0, .o, .o, .a 1, .a 2, .o, .o, .o, .o, .a 0, .t (u_eq ra2.umin 8#64) h1, .o, .o, .o, .a 0, .t (u_eq ra2.umax 15#64) h2, .o, .o, .o, .a 1, .t (u_eq ra5.1.umin 0#64) h3, .o, .o, .o, .a 1, .t (u_eq ra5.1.umax 9#64) h4, .o, .o, .o, .a 1, .t (i_eq ra5.1.smin 0#64) h5, .o, .o, .o, .a 1, .t (i_eq ra5.1.smax 9#64) rfl, .o, .o]
    [] (fun b => by kernel_rfl)
theorem p1_barbicanlaw7_known  (ra0 : S) (ea0 : m_scalar_Between (0#64) (7#64) = ra0) (ra1 : S) (ea1 : m_scalar_Const (8#64) = ra1) (ra2 : S) (ea2 : m_scalar_Do (0#64) true ra0 ra1 = ra2) (ra3 : S) (ea3 : m_scalar_Unknown  = ra3) (ra4 : S) (ea4 : m_scalar_Const (9#64) = ra4) (ra5 : (S) × (S) × (Bool)) (ea5 : m_scalar_Branch_2_true_false ra3 ra4 = ra5) (h0 : (ra5.2.2) = true) (h1 : (ra2.umin == 8#64) = true) (h2 : (ra2.umax == 15#64) = true) (h3 : (ra5.1.umin == 0#64) = true) (h4 : (ra5.1.umax == 9#64) = true) (h5 : (ra5.1.smin == 0#64) = false) : Con Tryz.prog 11 #[] (.bool (false)) :=
  fn_conI (P := Tryz.prog) Tryz.func11 (fun xs w => by kernel_rfl) _ _
    [.o, .cr sv (ok_scalar_Between (0#64) (7#64)) ea0, .cr sv (ok_scalar_Const (8#64)) ea1, .cr sv (ok_scalar_Do (0#64) (true) (ra0) (ra1)) ea2, .o, .a 0, .cr sv (ok_scalar_Unknown ) ea3, .cr sv (ok_scalar_Const (9#64)) ea4, .cr vt7 (ok_scalar_Branch_2_true_false (ra3) (ra4)) ea5, .o, .o, .o, .b h0, .o, .o, .a 1, .a 2, .o, .o, .o, .o, .a 0, .t (u_eq ra2.umin 8#64) h1, .o, .o, .o, .a 0, .t (u_eq ra2.umax 15#64) h2, .o, .o, .o, .a 1, .t (u_eq ra5.1.umin 0#64) h3, .o, .o, .o, .a 1, .t (u_eq ra5.1.umax 9#64) h4, .o, .o, .o, .a 1, .t (i_eq ra5.1.smin 0#64) h5, .o, .o, .o, .o]
    [] (fun b => by kernel_rfl)
theorem p2_barbicanlaw7_known  (ra0 : S) (ea0 : m_scalar_Between (0#64) (7#64) = ra0) (ra1 : S) (ea1 : m_scalar_Const (8#64) = ra1) (ra2 : S) (ea2 : m_scalar_Do (0#64) true ra0 ra1 = ra2) (ra3 : S) (ea3 : m_scalar_Unknown  = ra3) (ra4 : S) (ea4 : m_scalar_Const (9#64) = ra4) (ra5 : (S) × (S) × (Bool)) (ea5 : m_scalar_Branch_2_true_false ra3 ra4 = ra5) (h0 : (ra5.2.2) = true) (h1 : (ra2.umin == 8#64) = true) (h2 : (ra2.umax == 15#64) = true) (h3 : (ra5.1.umin == 0#64) = true) (h4 : (ra5.1.umax == 9#64) = false) : Con Tryz.prog 11 #[] (.bool (false)) :=
  fn_conI (P := Tryz.prog) Tryz.func11 (fun xs w => by kernel_rfl) _ _
    [.o, .cr sv (ok_scalar_Between (0#64) (7#64)) ea0, .cr sv (ok_scalar_Const (8#64)) ea1, .cr sv (ok_scalar_Do (0#64) (true) (ra0) (ra1)) ea2, .o, .a 0, .cr sv (ok_scalar_Unknown ) ea3, .cr sv (ok_scalar_Const (9#64)) ea4, .cr vt7 (ok_scalar_Branch_2_true_false (ra3) (ra4)) ea5, .o, .o, .o, .b h0, .o, .o, .a 1, .a 2, .o, .o, .o, .o, .a 0, .t (u_eq ra2.umin 8#64) h1, .o, .o, .o, .a 0, .t (u_eq ra2.umax 15#64) h2, .o, .o, .o, .a 1, .t (u_eq ra5.1.umin 0#64) h3, .o, .o, .o, .a 1, .t (u_eq ra5.1.umax 9#64) h4, .o, .o, .o, .o, .o, .o]
    [] (fun b => by kernel_rfl)
theorem p3_barbicanlaw7_known  (ra0 : S) (ea0 : m_scalar_Between (0#64) (7#64) = ra0) (ra1 : S) (ea1 : m_scalar_Const (8#64) = ra1) (ra2 : S) (ea2 : m_scalar_Do (0#64) true ra0 ra1 = ra2) (ra3 : S) (ea3 : m_scalar_Unknown  = ra3) (ra4 : S) (ea4 : m_scalar_Const (9#64) = ra4) (ra5 : (S) × (S) × (Bool)) (ea5 : m_scalar_Branch_2_true_false ra3 ra4 = ra5) (h0 : (ra5.2.2) = true) (h1 : (ra2.umin == 8#64) = true) (h2 : (ra2.umax == 15#64) = true) (h3 : (ra5.1.umin == 0#64) = false) : Con Tryz.prog 11 #[] (.bool (false)) :=
  fn_conI (P := Tryz.prog) Tryz.func11 (fun xs w => by kernel_rfl) _ _
    [.o, .cr sv (ok_scalar_Between (0#64) (7#64)) ea0, .cr sv (ok_scalar_Const (8#64)) ea1, .cr sv (ok_scalar_Do (0#64) (true) (ra0) (ra1)) ea2, .o, .a 0, .cr sv (ok_scalar_Unknown ) ea3, .cr sv (ok_scalar_Const (9#64)) ea4, .cr vt7 (ok_scalar_Branch_2_true_false (ra3) (ra4)) ea5, .o, .o, .o, .b h0, .o, .o, .a 1, .a 2, .o, .o, .o, .o, .a 0, .t (u_eq ra2.umin 8#64) h1, .o, .o, .o, .a 0, .t (u_eq ra2.umax 15#64) h2, .o, .o, .o, .a 1, .t (u_eq ra5.1.umin 0#64) h3, .o, .o, .o, .o, .o, .o, .o, .o]
    [] (fun b => by kernel_rfl)
theorem p4_barbicanlaw7_known  (ra0 : S) (ea0 : m_scalar_Between (0#64) (7#64) = ra0) (ra1 : S) (ea1 : m_scalar_Const (8#64) = ra1) (ra2 : S) (ea2 : m_scalar_Do (0#64) true ra0 ra1 = ra2) (ra3 : S) (ea3 : m_scalar_Unknown  = ra3) (ra4 : S) (ea4 : m_scalar_Const (9#64) = ra4) (ra5 : (S) × (S) × (Bool)) (ea5 : m_scalar_Branch_2_true_false ra3 ra4 = ra5) (h0 : (ra5.2.2) = true) (h1 : (ra2.umin == 8#64) = true) (h2 : (ra2.umax == 15#64) = false) : Con Tryz.prog 11 #[] (.bool (false)) :=
  fn_conI (P := Tryz.prog) Tryz.func11 (fun xs w => by kernel_rfl) _ _
    [.o, .cr sv (ok_scalar_Between (0#64) (7#64)) ea0, .cr sv (ok_scalar_Const (8#64)) ea1, .cr sv (ok_scalar_Do (0#64) (true) (ra0) (ra1)) ea2, .o, .a 0, .cr sv (ok_scalar_Unknown ) ea3, .cr sv (ok_scalar_Const (9#64)) ea4, .cr vt7 (ok_scalar_Branch_2_true_false (ra3) (ra4)) ea5, .o, .o, .o, .b h0, .o, .o, .a 1, .a 2, .o, .o, .o, .o, .a 0, .t (u_eq ra2.umin 8#64) h1, .o, .o, .o, .a 0, .t (u_eq ra2.umax 15#64) h2, .o, .o, .o, .o, .o, .o, .o, .o, .o, .o]
    [] (fun b => by kernel_rfl)
theorem p5_barbicanlaw7_known  (ra0 : S) (ea0 : m_scalar_Between (0#64) (7#64) = ra0) (ra1 : S) (ea1 : m_scalar_Const (8#64) = ra1) (ra2 : S) (ea2 : m_scalar_Do (0#64) true ra0 ra1 = ra2) (ra3 : S) (ea3 : m_scalar_Unknown  = ra3) (ra4 : S) (ea4 : m_scalar_Const (9#64) = ra4) (ra5 : (S) × (S) × (Bool)) (ea5 : m_scalar_Branch_2_true_false ra3 ra4 = ra5) (h0 : (ra5.2.2) = true) (h1 : (ra2.umin == 8#64) = false) : Con Tryz.prog 11 #[] (.bool (false)) :=
  fn_conI (P := Tryz.prog) Tryz.func11 (fun xs w => by kernel_rfl) _ _
    [.o, .cr sv (ok_scalar_Between (0#64) (7#64)) ea0, .cr sv (ok_scalar_Const (8#64)) ea1, .cr sv (ok_scalar_Do (0#64) (true) (ra0) (ra1)) ea2, .o, .a 0, .cr sv (ok_scalar_Unknown ) ea3, .cr sv (ok_scalar_Const (9#64)) ea4, .cr vt7 (ok_scalar_Branch_2_true_false (ra3) (ra4)) ea5, .o, .o, .o, .b h0, .o, .o, .a 1, .a 2, .o, .o, .o, .o, .a 0, .t (u_eq ra2.umin 8#64) h1, .o, .o, .o, .o, .o, .o, .o, .o, .o, .o, .o, .o]
    [] (fun b => by kernel_rfl)
theorem p6_barbicanlaw7_known  (ra0 : S) (ea0 : m_scalar_Between (0#64) (7#64) = ra0) (ra1 : S) (ea1 : m_scalar_Const (8#64) = ra1) (ra2 : S) (ea2 : m_scalar_Do (0#64) true ra0 ra1 = ra2) (ra3 : S) (ea3 : m_scalar_Unknown  = ra3) (ra4 : S) (ea4 : m_scalar_Const (9#64) = ra4) (ra5 : (S) × (S) × (Bool)) (ea5 : m_scalar_Branch_2_true_false ra3 ra4 = ra5) (h0 : (ra5.2.2) = false) : Con Tryz.prog 11 #[] (.bool (false)) :=
  fn_conI (P := Tryz.prog) Tryz.func11 (fun xs w => by kernel_rfl) _ _
    [.o, .cr sv (ok_scalar_Between (0#64) (7#64)) ea0, .cr sv (ok_scalar_Const (8#64)) ea1, .cr sv (ok_scalar_Do (0#64) (true) (ra0) (ra1)) ea2, .o, .a 0, .cr sv (ok_scalar_Unknown ) ea3, .cr sv (ok_scalar_Const (9#64)) ea4, .cr vt7 (ok_scalar_Branch_2_true_false (ra3) (ra4)) ea5, .o, .o, .o, .b h0, .o, .o, .a 1, .a 2, .o, .o, .o, .o, .o, .o, .o, .o, .o, .o, .o, .o, .o, .o, .o]
    [] (fun b => by kernel_rfl)
theorem ok_barbicanlaw7_known  : Con Tryz.prog 11 #[] (.bool (m_barbicanlaw7_known )) := by
  unfold m_barbicanlaw7_known
  refine Con.cond (fun r => (Value.bool (r))) _ _ _ (fun h0 => ?_) (fun h0 => ?_)
  · refine Con.cond (fun r => (Value.bool (r))) _ _ _ (fun h1 => ?_) (fun h1 => ?_)
    · refine Con.cond (fun r => (Value.bool (r))) _ _ _ (fun h2 => ?_) (fun h2 => ?_)
      · refine Con.cond (fun r => (Value.bool (r))) _ _ _ (fun h3 => ?_) (fun h3 => ?_)
        · refine Con.cond (fun r => (Value.bool (r))) _ _ _ (fun h4 => ?_) (fun h4 => ?_)
          · refine Con.cond (fun r => (Value.bool (r))) _ _ _ (fun h5 => ?_) (fun h5 => ?_)
            · exact p0_barbicanlaw7_known  _ rfl _ rfl _ rfl _ rfl _ rfl _ rfl h0 h1 h2 h3 h4 h5
            · exact p1_barbicanlaw7_known  _ rfl _ rfl _ rfl _ rfl _ rfl _ rfl h0 h1 h2 h3 h4 h5
          · exact p2_barbicanlaw7_known  _ rfl _ rfl _ rfl _ rfl _ rfl _ rfl h0 h1 h2 h3 h4
        · exact p3_barbicanlaw7_known  _ rfl _ rfl _ rfl _ rfl _ rfl _ rfl h0 h1 h2 h3
      · exact p4_barbicanlaw7_known  _ rfl _ rfl _ rfl _ rfl _ rfl _ rfl h0 h1 h2
    · exact p5_barbicanlaw7_known  _ rfl _ rfl _ rfl _ rfl _ rfl _ rfl h0 h1
  · exact p6_barbicanlaw7_known  _ rfl _ rfl _ rfl _ rfl _ rfl _ rfl h0
end Go.Proofs.YtmhiiahfjoijgaaGreat
