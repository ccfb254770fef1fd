/-
  The law ScalarConst, by the program's own text.
-/
import Derived.Test.YtmhiiahfjoijgaaGreatL7P4
import Derived.Test.YtmhiiahfjoijgaaGreatL7O
namespace Go.Proofs.YtmhiiahfjoijgaaGreat
open Go.RowKit
set_option linter.unusedVariables false
set_option linter.unusedSimpArgs false
set_option maxRecDepth 100000
set_option maxHeartbeats 4000000
-- a fact

theorem f0_barbicanlaw7_ScalarConst (x0 : BitVec 64) (x2 : Bool) (x3 : BitVec 64) (x4 : BitVec 64) (ra0 : (BitVec 64) × (Bool)) (ea0 : m_alu_Do x0 x2 x3 x4 = ra0) (ra1 : S) (ea1 : m_scalar_Const x3 = ra1) (ra2 : S) (ea2 : m_scalar_Const x4 = ra2) (ra3 : S) (ea3 : m_scalar_Do x0 x2 ra1 ra2 = ra3) (ra4 : S) (ea4 : m_scalar_Const ra0.1 = ra4) (h0 : (ra0.2) = true) : (decide (ra3 = ra4)) = true := by
  subst_vars
  exact cst_dos h0

-- a fact

theorem f1_barbicanlaw7_ScalarConst (x1 : BitVec 64) (x2 : Bool) (x3 : BitVec 64) (x4 : BitVec 64) (ra5 : (Bool) × (Bool)) (ea5 : m_alu_Cmp x1 x2 x3 x4 = ra5) (ra6 : S) (ea6 : m_scalar_Const x3 = ra6) (ra7 : S) (ea7 : m_scalar_Const x4 = ra7) (ra8 : (Bool) × (Bool)) (ea8 : m_scalar_Decided x1 x2 ra6 ra7 = ra8) (h1 : (ra5.2) = true) : (ra8.1) = true := by
  subst_vars
  exact cst_d1 h1

-- a fact

theorem f2_barbicanlaw7_ScalarConst (x1 : BitVec 64) (x2 : Bool) (x3 : BitVec 64) (x4 : BitVec 64) (ra5 : (Bool) × (Bool)) (ea5 : m_alu_Cmp x1 x2 x3 x4 = ra5) (ra9 : S) (ea9 : m_scalar_Const x3 = ra9) (ra10 : S) (ea10 : m_scalar_Const x4 = ra10) (ra11 : (S) × (S) × (Bool)) (ea11 : m_scalar_Branch x1 x2 false ra9 ra10 = ra11) (h1 : (ra5.2) = true) (h2 : (ra5.1) = true) : (ra11.2.2) = false := by
  subst_vars
  exact (cst_may h1 h2)

-- a fact

theorem f3_barbicanlaw7_ScalarConst (x1 : BitVec 64) (x2 : Bool) (x3 : BitVec 64) (x4 : BitVec 64) (ra5 : (Bool) × (Bool)) (ea5 : m_alu_Cmp x1 x2 x3 x4 = ra5) (ra6 : S) (ea6 : m_scalar_Const x3 = ra6) (ra7 : S) (ea7 : m_scalar_Const x4 = ra7) (ra8 : (Bool) × (Bool)) (ea8 : m_scalar_Decided x1 x2 ra6 ra7 = ra8) (h2 : (ra5.2) = true) : (ra8.1) = true := by
  subst_vars
  exact cst_d1 h2

-- a fact

theorem f4_barbicanlaw7_ScalarConst (x1 : BitVec 64) (x2 : Bool) (x3 : BitVec 64) (x4 : BitVec 64) (ra5 : (Bool) × (Bool)) (ea5 : m_alu_Cmp x1 x2 x3 x4 = ra5) (ra9 : S) (ea9 : m_scalar_Const x3 = ra9) (ra10 : S) (ea10 : m_scalar_Const x4 = ra10) (ra11 : (S) × (S) × (Bool)) (ea11 : m_scalar_Branch x1 x2 false ra9 ra10 = ra11) (h1 : (ra5.1) = true) (h2 : (ra5.2) = true) : (ra11.2.2) = false := by
  subst_vars
  exact (cst_may h2 h1)

-- a fact

theorem f5_barbicanlaw7_ScalarConst (x1 : BitVec 64) (x2 : Bool) (x3 : BitVec 64) (x4 : BitVec 64) (ra5 : (Bool) × (Bool)) (ea5 : m_alu_Cmp x1 x2 x3 x4 = ra5) (ra12 : S) (ea12 : m_scalar_Const x3 = ra12) (ra13 : S) (ea13 : m_scalar_Const x4 = ra13) (ra14 : (S) × (S) × (Bool)) (ea14 : m_scalar_Branch x1 x2 true ra12 ra13 = ra14) (h1 : (ra5.1) = true) (h2 : (ra5.2) = true) : (ra14.2.2) = true := by
  subst_vars
  exact (cst_may h2 h1)

-- a fact

theorem f6_barbicanlaw7_ScalarConst (x1 : BitVec 64) (x2 : Bool) (x3 : BitVec 64) (x4 : BitVec 64) (ra5 : (Bool) × (Bool)) (ea5 : m_alu_Cmp x1 x2 x3 x4 = ra5) (ra12 : S) (ea12 : m_scalar_Const x3 = ra12) (ra13 : S) (ea13 : m_scalar_Const x4 = ra13) (ra14 : (S) × (S) × (Bool)) (ea14 : m_scalar_Branch x1 x2 true ra12 ra13 = ra14) (ra15 : S) (ea15 : m_scalar_Const x3 = ra15) (h1 : (ra5.1) = true) (h2 : (ra5.2) = true) : (decide (ra14.1 = ra15)) = true := by
  subst_vars
  exact cst_b1 h2 h1

-- a fact

theorem f7_barbicanlaw7_ScalarConst (x1 : BitVec 64) (x2 : Bool) (x3 : BitVec 64) (x4 : BitVec 64) (ra5 : (Bool) × (Bool)) (ea5 : m_alu_Cmp x1 x2 x3 x4 = ra5) (ra12 : S) (ea12 : m_scalar_Const x3 = ra12) (ra13 : S) (ea13 : m_scalar_Const x4 = ra13) (ra14 : (S) × (S) × (Bool)) (ea14 : m_scalar_Branch x1 x2 true ra12 ra13 = ra14) (ra16 : S) (ea16 : m_scalar_Const x4 = ra16) (h1 : (ra5.1) = true) (h2 : (ra5.2) = true) : (decide (ra14.2.1 = ra16)) = true := by
  subst_vars
  exact cst_b2 h2 h1

-- a fact

theorem f8_barbicanlaw7_ScalarConst (x1 : BitVec 64) (x2 : Bool) (x3 : BitVec 64) (x4 : BitVec 64) (ra5 : (Bool) × (Bool)) (ea5 : m_alu_Cmp x1 x2 x3 x4 = ra5) (ra6 : S) (ea6 : m_scalar_Const x3 = ra6) (ra7 : S) (ea7 : m_scalar_Const x4 = ra7) (ra8 : (Bool) × (Bool)) (ea8 : m_scalar_Decided x1 x2 ra6 ra7 = ra8) (h1 : (ra5.1) = true) (h2 : (ra5.2) = true) : (ra8.2) = true := by
  subst_vars
  exact cst_d2 h2 h1

-- a fact

theorem f9_barbicanlaw7_ScalarConst (x1 : BitVec 64) (x2 : Bool) (x3 : BitVec 64) (x4 : BitVec 64) (ra5 : (Bool) × (Bool)) (ea5 : m_alu_Cmp x1 x2 x3 x4 = ra5) (ra6 : S) (ea6 : m_scalar_Const x3 = ra6) (ra7 : S) (ea7 : m_scalar_Const x4 = ra7) (ra8 : (Bool) × (Bool)) (ea8 : m_scalar_Decided x1 x2 ra6 ra7 = ra8) (h2 : (ra5.2) = false) : (ra8.1) = false := by
  subst_vars
  exact cst_dn1 h2

-- a fact

theorem f10_barbicanlaw7_ScalarConst (x1 : BitVec 64) (x2 : Bool) (x3 : BitVec 64) (x4 : BitVec 64) (ra5 : (Bool) × (Bool)) (ea5 : m_alu_Cmp x1 x2 x3 x4 = ra5) (ra6 : S) (ea6 : m_scalar_Const x3 = ra6) (ra7 : S) (ea7 : m_scalar_Const x4 = ra7) (ra8 : (Bool) × (Bool)) (ea8 : m_scalar_Decided x1 x2 ra6 ra7 = ra8) (h2 : (ra5.2) = false) : (ra8.2) = false := by
  subst_vars
  exact cst_dn2 h2

-- a fact

theorem f11_barbicanlaw7_ScalarConst (x1 : BitVec 64) (x2 : Bool) (x3 : BitVec 64) (x4 : BitVec 64) (ra5 : (Bool) × (Bool)) (ea5 : m_alu_Cmp x1 x2 x3 x4 = ra5) (ra6 : S) (ea6 : m_scalar_Const x3 = ra6) (ra7 : S) (ea7 : m_scalar_Const x4 = ra7) (ra8 : (Bool) × (Bool)) (ea8 : m_scalar_Decided x1 x2 ra6 ra7 = ra8) (h1 : (ra5.1) = false) (h2 : (ra5.2) = true) : (ra8.2) = false := by
  subst_vars
  exact cst_d2 h2 h1

-- a fact

theorem f12_barbicanlaw7_ScalarConst (x1 : BitVec 64) (x2 : Bool) (x3 : BitVec 64) (x4 : BitVec 64) (ra5 : (Bool) × (Bool)) (ea5 : m_alu_Cmp x1 x2 x3 x4 = ra5) (ra9 : S) (ea9 : m_scalar_Const x3 = ra9) (ra10 : S) (ea10 : m_scalar_Const x4 = ra10) (ra11 : (S) × (S) × (Bool)) (ea11 : m_scalar_Branch x1 x2 false ra9 ra10 = ra11) (h1 : (ra5.1) = false) (h2 : (ra5.2) = true) : (ra11.2.2) = true := by
  subst_vars
  exact (cst_may h2 h1)

-- a fact

theorem f13_barbicanlaw7_ScalarConst (x1 : BitVec 64) (x2 : Bool) (x3 : BitVec 64) (x4 : BitVec 64) (ra5 : (Bool) × (Bool)) (ea5 : m_alu_Cmp x1 x2 x3 x4 = ra5) (ra9 : S) (ea9 : m_scalar_Const x3 = ra9) (ra10 : S) (ea10 : m_scalar_Const x4 = ra10) (ra11 : (S) × (S) × (Bool)) (ea11 : m_scalar_Branch x1 x2 false ra9 ra10 = ra11) (ra12 : S) (ea12 : m_scalar_Const x3 = ra12) (h1 : (ra5.1) = false) (h2 : (ra5.2) = true) : (decide (ra11.1 = ra12)) = true := by
  subst_vars
  exact cst_b1 h2 h1

-- a fact

theorem f14_barbicanlaw7_ScalarConst (x1 : BitVec 64) (x2 : Bool) (x3 : BitVec 64) (x4 : BitVec 64) (ra5 : (Bool) × (Bool)) (ea5 : m_alu_Cmp x1 x2 x3 x4 = ra5) (ra9 : S) (ea9 : m_scalar_Const x3 = ra9) (ra10 : S) (ea10 : m_scalar_Const x4 = ra10) (ra11 : (S) × (S) × (Bool)) (ea11 : m_scalar_Branch x1 x2 false ra9 ra10 = ra11) (ra13 : S) (ea13 : m_scalar_Const x4 = ra13) (h1 : (ra5.1) = false) (h2 : (ra5.2) = true) : (decide (ra11.2.1 = ra13)) = true := by
  subst_vars
  exact cst_b2 h2 h1

-- a fact

theorem f15_barbicanlaw7_ScalarConst (x1 : BitVec 64) (x2 : Bool) (x3 : BitVec 64) (x4 : BitVec 64) (ra5 : (Bool) × (Bool)) (ea5 : m_alu_Cmp x1 x2 x3 x4 = ra5) (ra14 : S) (ea14 : m_scalar_Const x3 = ra14) (ra15 : S) (ea15 : m_scalar_Const x4 = ra15) (ra16 : (S) × (S) × (Bool)) (ea16 : m_scalar_Branch x1 x2 true ra14 ra15 = ra16) (h1 : (ra5.1) = false) (h2 : (ra5.2) = true) : (ra16.2.2) = false := by
  subst_vars
  exact (cst_may h2 h1)

-- a fact

theorem f16_barbicanlaw7_ScalarConst (x1 : BitVec 64) (x2 : Bool) (x3 : BitVec 64) (x4 : BitVec 64) (ra1 : (Bool) × (Bool)) (ea1 : m_alu_Cmp x1 x2 x3 x4 = ra1) (ra2 : S) (ea2 : m_scalar_Const x3 = ra2) (ra3 : S) (ea3 : m_scalar_Const x4 = ra3) (ra4 : (Bool) × (Bool)) (ea4 : m_scalar_Decided x1 x2 ra2 ra3 = ra4) (h2 : (ra1.2) = true) : (ra4.1) = true := by
  subst_vars
  exact cst_d1 h2

-- a fact

theorem f17_barbicanlaw7_ScalarConst (x1 : BitVec 64) (x2 : Bool) (x3 : BitVec 64) (x4 : BitVec 64) (ra1 : (Bool) × (Bool)) (ea1 : m_alu_Cmp x1 x2 x3 x4 = ra1) (ra2 : S) (ea2 : m_scalar_Const x3 = ra2) (ra3 : S) (ea3 : m_scalar_Const x4 = ra3) (ra4 : (Bool) × (Bool)) (ea4 : m_scalar_Decided x1 x2 ra2 ra3 = ra4) (h1 : (ra1.1) = true) (h2 : (ra1.2) = true) : (ra4.2) = true := by
  subst_vars
  exact cst_d2 h2 h1

-- a fact

theorem f18_barbicanlaw7_ScalarConst (x1 : BitVec 64) (x2 : Bool) (x3 : BitVec 64) (x4 : BitVec 64) (ra1 : (Bool) × (Bool)) (ea1 : m_alu_Cmp x1 x2 x3 x4 = ra1) (ra5 : S) (ea5 : m_scalar_Const x3 = ra5) (ra6 : S) (ea6 : m_scalar_Const x4 = ra6) (ra7 : (S) × (S) × (Bool)) (ea7 : m_scalar_Branch x1 x2 false ra5 ra6 = ra7) (h1 : (ra1.1) = true) (h2 : (ra1.2) = true) : (ra7.2.2) = false := by
  subst_vars
  exact (cst_may h2 h1)

-- a fact

theorem f19_barbicanlaw7_ScalarConst (x1 : BitVec 64) (x2 : Bool) (x3 : BitVec 64) (x4 : BitVec 64) (ra1 : (Bool) × (Bool)) (ea1 : m_alu_Cmp x1 x2 x3 x4 = ra1) (ra8 : S) (ea8 : m_scalar_Const x3 = ra8) (ra9 : S) (ea9 : m_scalar_Const x4 = ra9) (ra10 : (S) × (S) × (Bool)) (ea10 : m_scalar_Branch x1 x2 true ra8 ra9 = ra10) (h1 : (ra1.1) = true) (h2 : (ra1.2) = true) : (ra10.2.2) = true := by
  subst_vars
  exact (cst_may h2 h1)

-- a fact

theorem f20_barbicanlaw7_ScalarConst (x1 : BitVec 64) (x2 : Bool) (x3 : BitVec 64) (x4 : BitVec 64) (ra1 : (Bool) × (Bool)) (ea1 : m_alu_Cmp x1 x2 x3 x4 = ra1) (ra8 : S) (ea8 : m_scalar_Const x3 = ra8) (ra9 : S) (ea9 : m_scalar_Const x4 = ra9) (ra10 : (S) × (S) × (Bool)) (ea10 : m_scalar_Branch x1 x2 true ra8 ra9 = ra10) (ra11 : S) (ea11 : m_scalar_Const x3 = ra11) (h1 : (ra1.1) = true) (h2 : (ra1.2) = true) : (decide (ra10.1 = ra11)) = true := by
  subst_vars
  exact cst_b1 h2 h1

-- a fact

theorem f21_barbicanlaw7_ScalarConst (x1 : BitVec 64) (x2 : Bool) (x3 : BitVec 64) (x4 : BitVec 64) (ra1 : (Bool) × (Bool)) (ea1 : m_alu_Cmp x1 x2 x3 x4 = ra1) (ra8 : S) (ea8 : m_scalar_Const x3 = ra8) (ra9 : S) (ea9 : m_scalar_Const x4 = ra9) (ra10 : (S) × (S) × (Bool)) (ea10 : m_scalar_Branch x1 x2 true ra8 ra9 = ra10) (ra12 : S) (ea12 : m_scalar_Const x4 = ra12) (h1 : (ra1.1) = true) (h2 : (ra1.2) = true) : (decide (ra10.2.1 = ra12)) = true := by
  subst_vars
  exact cst_b2 h2 h1

-- a fact

theorem f22_barbicanlaw7_ScalarConst (x1 : BitVec 64) (x2 : Bool) (x3 : BitVec 64) (x4 : BitVec 64) (ra1 : (Bool) × (Bool)) (ea1 : m_alu_Cmp x1 x2 x3 x4 = ra1) (ra2 : S) (ea2 : m_scalar_Const x3 = ra2) (ra3 : S) (ea3 : m_scalar_Const x4 = ra3) (ra4 : (Bool) × (Bool)) (ea4 : m_scalar_Decided x1 x2 ra2 ra3 = ra4) (h2 : (ra1.2) = false) : (ra4.1) = false := by
  subst_vars
  exact cst_dn1 h2

-- a fact

theorem f23_barbicanlaw7_ScalarConst (x1 : BitVec 64) (x2 : Bool) (x3 : BitVec 64) (x4 : BitVec 64) (ra1 : (Bool) × (Bool)) (ea1 : m_alu_Cmp x1 x2 x3 x4 = ra1) (ra2 : S) (ea2 : m_scalar_Const x3 = ra2) (ra3 : S) (ea3 : m_scalar_Const x4 = ra3) (ra4 : (Bool) × (Bool)) (ea4 : m_scalar_Decided x1 x2 ra2 ra3 = ra4) (h2 : (ra1.2) = false) : (ra4.2) = false := by
  subst_vars
  exact cst_dn2 h2

-- a fact

theorem f24_barbicanlaw7_ScalarConst (x1 : BitVec 64) (x2 : Bool) (x3 : BitVec 64) (x4 : BitVec 64) (ra1 : (Bool) × (Bool)) (ea1 : m_alu_Cmp x1 x2 x3 x4 = ra1) (ra2 : S) (ea2 : m_scalar_Const x3 = ra2) (ra3 : S) (ea3 : m_scalar_Const x4 = ra3) (ra4 : (Bool) × (Bool)) (ea4 : m_scalar_Decided x1 x2 ra2 ra3 = ra4) (h1 : (ra1.1) = false) (h2 : (ra1.2) = true) : (ra4.2) = false := by
  subst_vars
  exact cst_d2 h2 h1

-- a fact

theorem f25_barbicanlaw7_ScalarConst (x1 : BitVec 64) (x2 : Bool) (x3 : BitVec 64) (x4 : BitVec 64) (ra1 : (Bool) × (Bool)) (ea1 : m_alu_Cmp x1 x2 x3 x4 = ra1) (ra5 : S) (ea5 : m_scalar_Const x3 = ra5) (ra6 : S) (ea6 : m_scalar_Const x4 = ra6) (ra7 : (S) × (S) × (Bool)) (ea7 : m_scalar_Branch x1 x2 false ra5 ra6 = ra7) (h1 : (ra1.1) = false) (h2 : (ra1.2) = true) : (ra7.2.2) = true := by
  subst_vars
  exact (cst_may h2 h1)

-- a fact

theorem f26_barbicanlaw7_ScalarConst (x1 : BitVec 64) (x2 : Bool) (x3 : BitVec 64) (x4 : BitVec 64) (ra1 : (Bool) × (Bool)) (ea1 : m_alu_Cmp x1 x2 x3 x4 = ra1) (ra5 : S) (ea5 : m_scalar_Const x3 = ra5) (ra6 : S) (ea6 : m_scalar_Const x4 = ra6) (ra7 : (S) × (S) × (Bool)) (ea7 : m_scalar_Branch x1 x2 false ra5 ra6 = ra7) (ra8 : S) (ea8 : m_scalar_Const x3 = ra8) (h1 : (ra1.1) = false) (h2 : (ra1.2) = true) : (decide (ra7.1 = ra8)) = true := by
  subst_vars
  exact cst_b1 h2 h1

-- a fact

theorem f27_barbicanlaw7_ScalarConst (x1 : BitVec 64) (x2 : Bool) (x3 : BitVec 64) (x4 : BitVec 64) (ra1 : (Bool) × (Bool)) (ea1 : m_alu_Cmp x1 x2 x3 x4 = ra1) (ra5 : S) (ea5 : m_scalar_Const x3 = ra5) (ra6 : S) (ea6 : m_scalar_Const x4 = ra6) (ra7 : (S) × (S) × (Bool)) (ea7 : m_scalar_Branch x1 x2 false ra5 ra6 = ra7) (ra9 : S) (ea9 : m_scalar_Const x4 = ra9) (h1 : (ra1.1) = false) (h2 : (ra1.2) = true) : (decide (ra7.2.1 = ra9)) = true := by
  subst_vars
  exact cst_b2 h2 h1

-- a fact

theorem f28_barbicanlaw7_ScalarConst (x1 : BitVec 64) (x2 : Bool) (x3 : BitVec 64) (x4 : BitVec 64) (ra1 : (Bool) × (Bool)) (ea1 : m_alu_Cmp x1 x2 x3 x4 = ra1) (ra10 : S) (ea10 : m_scalar_Const x3 = ra10) (ra11 : S) (ea11 : m_scalar_Const x4 = ra11) (ra12 : (S) × (S) × (Bool)) (ea12 : m_scalar_Branch x1 x2 true ra10 ra11 = ra12) (h1 : (ra1.1) = false) (h2 : (ra1.2) = true) : (ra12.2.2) = false := by
  subst_vars
  exact (cst_may h2 h1)

-- barbican/barbicanlaw7.ScalarConst
def m_barbicanlaw7_ScalarConst (x0 : BitVec 64) (x1 : BitVec 64) (x2 : Bool) (x3 : BitVec 64) (x4 : BitVec 64) : Bool :=
  (bif (m_alu_Do x0 x2 x3 x4).2 then
    (bif (m_alu_Cmp x1 x2 x3 x4).1 then
      (bif (m_alu_Cmp x1 x2 x3 x4).2 then
        (true)
        else (true))
      else (bif (m_alu_Cmp x1 x2 x3 x4).2 then
        (true)
        else (true)))
    else (bif (m_alu_Cmp x1 x2 x3 x4).1 then
      (bif (m_alu_Cmp x1 x2 x3 x4).2 then
        (true)
        else (true))
      else (bif (m_alu_Cmp x1 x2 x3 x4).2 then
        (true)
        else (true))))
theorem p0_barbicanlaw7_ScalarConst (x0 : BitVec 64) (x1 : BitVec 64) (x2 : Bool) (x3 : BitVec 64) (x4 : BitVec 64) (ra0 : (BitVec 64) × (Bool)) (ea0 : m_alu_Do x0 x2 x3 x4 = ra0) (ra1 : S) (ea1 : m_scalar_Const x3 = ra1) (ra2 : S) (ea2 : m_scalar_Const x4 = ra2) (ra3 : S) (ea3 : m_scalar_Do x0 x2 ra1 ra2 = ra3) (ra4 : S) (ea4 : m_scalar_Const ra0.1 = ra4) (ra5 : (Bool) × (Bool)) (ea5 : m_alu_Cmp x1 x2 x3 x4 = ra5) (ra6 : S) (ea6 : m_scalar_Const x3 = ra6) (ra7 : S) (ea7 : m_scalar_Const x4 = ra7) (ra8 : (Bool) × (Bool)) (ea8 : m_scalar_Decided x1 x2 ra6 ra7 = ra8) (ra9 : S) (ea9 : m_scalar_Const x3 = ra9) (ra10 : S) (ea10 : m_scalar_Const x4 = ra10) (ra11 : (S) × (S) × (Bool)) (ea11 : m_scalar_Branch x1 x2 false ra9 ra10 = ra11) (ra12 : S) (ea12 : m_scalar_Const x3 = ra12) (ra13 : S) (ea13 : m_scalar_Const x4 = ra13) (ra14 : (S) × (S) × (Bool)) (ea14 : m_scalar_Branch x1 x2 true ra12 ra13 = ra14) (ra15 : S) (ea15 : m_scalar_Const x3 = ra15) (ra16 : S) (ea16 : m_scalar_Const x4 = ra16) (h0 : (ra0.2) = true) (h1 : (ra5.1) = true) (h2 : (ra5.2) = true) : Con Tryz.prog 5 #[(.int .i64 (ii (x0))), (.int .i64 (ii (x1))), (.bool (x2)), (.int .u64 (nn (x3))), (.int .u64 (nn (x4)))] (.bool (true)) :=
  fn_conI (P := Tryz.prog) Tryz.func5 (fun xs w => by kernel_rfl) _ _
    [.o, .cb (ok_barbicanlaw7_known ) known_true, .o, .o, .o, .o, .o, .cr vt1 (ok_alu_Do (x0) (x2) (x3) (x4)) ea0, .o, .o, .b h0, .o, .o, .o, .o, .o, .o, .o, .cr sv (ok_scalar_Const (x3)) ea1, .o, .cr sv (ok_scalar_Const (x4)) ea2, .cr sv (ok_scalar_Do (x0) (x2) (ra1) (ra2)) ea3, .o, .cr sv (ok_scalar_Const (ra0.1)) ea4, .ov (fun w => (eq27 (ra3) (ra4) _ (f0_barbicanlaw7_ScalarConst x0 x2 x3 x4 ra0 ea0 ra1 ea1 ra2 ea2 ra3 ea3 ra4 ea4 h0) (.tmp 40) (.tmp 42) w).2), .o, .o, .o, .o, .o, .cr vt3 (ok_alu_Cmp (x1) (x2) (x3) (x4)) ea5, .o, .b h1, .b h2, .o, .o, .o, .o, .o, .cr sv (ok_scalar_Const (x3)) ea6, .o, .cr sv (ok_scalar_Const (x4)) ea7, .cr vt3 (ok_scalar_Decided (x1) (x2) (ra6) (ra7)) ea8, .o, .b (f3_barbicanlaw7_ScalarConst x1 x2 x3 x4 ra5 ea5 ra6 ea6 ra7 ea7 ra8 ea8 h2), .b (f8_barbicanlaw7_ScalarConst x1 x2 x3 x4 ra5 ea5 ra6 ea6 ra7 ea7 ra8 ea8 h1 h2), .o, .o, .o, .o, .o, .o, .o, .o, .o, .o, .o, .o, .o, .cr sv (ok_scalar_Const (x3)) ea9, .o, .cr sv (ok_scalar_Const (x4)) ea10, .cr vt7 (ok_scalar_Branch (x1) (x2) (false) (ra9) (ra10)) ea11, .o, .o, .o, .b (f4_barbicanlaw7_ScalarConst x1 x2 x3 x4 ra5 ea5 ra9 ea9 ra10 ea10 ra11 ea11 h1 h2), .o, .o, .a 0, .a 1, .o, .o, .o, .o, .o, .o, .o, .o, .o, .o, .o, .o, .o, .o, .o, .o, .o, .o, .o, .o, .cr sv (ok_scalar_Const (x3)) ea12, .o, .cr sv (ok_scalar_Const (x4)) ea13, .cr vt7 (ok_scalar_Branch (x1) (x2) (true) (ra12) (ra13)) ea14, .o, .o, .o, .b (f5_barbicanlaw7_ScalarConst x1 x2 x3 x4 ra5 ea5 ra12 ea12 ra13 ea13 ra14 ea14 h1 h2), .o, .o, .a 2, .a 3, .o, .o, .o, .o, .o, .r [0, 1, 2, 3, 4, 5, 6, 7, 8, 9] [] [], .a 2, .o, .cr sv (ok_scalar_Const (x3)) ea15, .ov (fun w => (eq27 (ra14.1) (ra15) _ (f6_barbicanlaw7_ScalarConst x1 x2 x3 x4 ra5 ea5 ra12 ea12 ra13 ea13 ra14 ea14 ra15 ea15 h1 h2) (.tmp 85) (.tmp 87) w).2), .o, .a 3, .o, .cr sv (ok_scalar_Const (x4)) ea16, .ov (fun w => (eq27 (ra14.2.1) (ra16) _ (f7_barbicanlaw7_ScalarConst x1 x2 x3 x4 ra5 ea5 ra12 ea12 ra13 ea13 ra14 ea14 ra16 ea16 h1 h2) (.tmp 90) (.tmp 92) w).2), .o, .o, .o, .o, .o, .o, .o, .o, .o, .o, .o, .o, .o, .o, .o, .o, .o, .o, .o, .o, .o]
    [] (fun b => by kernel_rfl)
theorem p1_barbicanlaw7_ScalarConst (x0 : BitVec 64) (x1 : BitVec 64) (x2 : Bool) (x3 : BitVec 64) (x4 : BitVec 64) (ra0 : (BitVec 64) × (Bool)) (ea0 : m_alu_Do x0 x2 x3 x4 = ra0) (ra1 : S) (ea1 : m_scalar_Const x3 = ra1) (ra2 : S) (ea2 : m_scalar_Const x4 = ra2) (ra3 : S) (ea3 : m_scalar_Do x0 x2 ra1 ra2 = ra3) (ra4 : S) (ea4 : m_scalar_Const ra0.1 = ra4) (ra5 : (Bool) × (Bool)) (ea5 : m_alu_Cmp x1 x2 x3 x4 = ra5) (ra6 : S) (ea6 : m_scalar_Const x3 = ra6) (ra7 : S) (ea7 : m_scalar_Const x4 = ra7) (ra8 : (Bool) × (Bool)) (ea8 : m_scalar_Decided x1 x2 ra6 ra7 = ra8) (h0 : (ra0.2) = true) (h1 : (ra5.1) = true) (h2 : (ra5.2) = false) : Con Tryz.prog 5 #[(.int .i64 (ii (x0))), (.int .i64 (ii (x1))), (.bool (x2)), (.int .u64 (nn (x3))), (.int .u64 (nn (x4)))] (.bool (true)) :=
  fn_conI (P := Tryz.prog) Tryz.func5 (fun xs w => by kernel_rfl) _ _
    [.o, .cb (ok_barbicanlaw7_known ) known_true, .o, .o, .o, .o, .o, .cr vt1 (ok_alu_Do (x0) (x2) (x3) (x4)) ea0, .o, .o, .b h0, .o, .o, .o, .o, .o, .o, .o, .cr sv (ok_scalar_Const (x3)) ea1, .o, .cr sv (ok_scalar_Const (x4)) ea2, .cr sv (ok_scalar_Do (x0) (x2) (ra1) (ra2)) ea3, .o, .cr sv (ok_scalar_Const (ra0.1)) ea4, .ov (fun w => (eq27 (ra3) (ra4) _ (f0_barbicanlaw7_ScalarConst x0 x2 x3 x4 ra0 ea0 ra1 ea1 ra2 ea2 ra3 ea3 ra4 ea4 h0) (.tmp 40) (.tmp 42) w).2), .o, .o, .o, .o, .o, .cr vt3 (ok_alu_Cmp (x1) (x2) (x3) (x4)) ea5, .o, .b h1, .b h2, .o, .o, .o, .o, .o, .cr sv (ok_scalar_Const (x3)) ea6, .o, .cr sv (ok_scalar_Const (x4)) ea7, .cr vt3 (ok_scalar_Decided (x1) (x2) (ra6) (ra7)) ea8, .o, .b (f9_barbicanlaw7_ScalarConst x1 x2 x3 x4 ra5 ea5 ra6 ea6 ra7 ea7 ra8 ea8 h2), .b (f10_barbicanlaw7_ScalarConst x1 x2 x3 x4 ra5 ea5 ra6 ea6 ra7 ea7 ra8 ea8 h2), .o, .o, .o, .o, .o]
    [] (fun b => by kernel_rfl)
theorem p2_barbicanlaw7_ScalarConst (x0 : BitVec 64) (x1 : BitVec 64) (x2 : Bool) (x3 : BitVec 64) (x4 : BitVec 64) (ra0 : (BitVec 64) × (Bool)) (ea0 : m_alu_Do x0 x2 x3 x4 = ra0) (ra1 : S) (ea1 : m_scalar_Const x3 = ra1) (ra2 : S) (ea2 : m_scalar_Const x4 = ra2) (ra3 : S) (ea3 : m_scalar_Do x0 x2 ra1 ra2 = ra3) (ra4 : S) (ea4 : m_scalar_Const ra0.1 = ra4) (ra5 : (Bool) × (Bool)) (ea5 : m_alu_Cmp x1 x2 x3 x4 = ra5) (ra6 : S) (ea6 : m_scalar_Const x3 = ra6) (ra7 : S) (ea7 : m_scalar_Const x4 = ra7) (ra8 : (Bool) × (Bool)) (ea8 : m_scalar_Decided x1 x2 ra6 ra7 = ra8) (ra9 : S) (ea9 : m_scalar_Const x3 = ra9) (ra10 : S) (ea10 : m_scalar_Const x4 = ra10) (ra11 : (S) × (S) × (Bool)) (ea11 : m_scalar_Branch x1 x2 false ra9 ra10 = ra11) (ra12 : S) (ea12 : m_scalar_Const x3 = ra12) (ra13 : S) (ea13 : m_scalar_Const x4 = ra13) (ra14 : S) (ea14 : m_scalar_Const x3 = ra14) (ra15 : S) (ea15 : m_scalar_Const x4 = ra15) (ra16 : (S) × (S) × (Bool)) (ea16 : m_scalar_Branch x1 x2 true ra14 ra15 = ra16) (h0 : (ra0.2) = true) (h1 : (ra5.1) = false) (h2 : (ra5.2) = true) : Con Tryz.prog 5 #[(.int .i64 (ii (x0))), (.int .i64 (ii (x1))), (.bool (x2)), (.int .u64 (nn (x3))), (.int .u64 (nn (x4)))] (.bool (true)) :=
  fn_conI (P := Tryz.prog) Tryz.func5 (fun xs w => by kernel_rfl) _ _
    [.o, .cb (ok_barbicanlaw7_known ) known_true, .o, .o, .o, .o, .o, .cr vt1 (ok_alu_Do (x0) (x2) (x3) (x4)) ea0, .o, .o, .b h0, .o, .o, .o, .o, .o, .o, .o, .cr sv (ok_scalar_Const (x3)) ea1, .o, .cr sv (ok_scalar_Const (x4)) ea2, .cr sv (ok_scalar_Do (x0) (x2) (ra1) (ra2)) ea3, .o, .cr sv (ok_scalar_Const (ra0.1)) ea4, .ov (fun w => (eq27 (ra3) (ra4) _ (f0_barbicanlaw7_ScalarConst x0 x2 x3 x4 ra0 ea0 ra1 ea1 ra2 ea2 ra3 ea3 ra4 ea4 h0) (.tmp 40) (.tmp 42) w).2), .o, .o, .o, .o, .o, .cr vt3 (ok_alu_Cmp (x1) (x2) (x3) (x4)) ea5, .o, .b h1, .b h2, .o, .o, .o, .o, .o, .cr sv (ok_scalar_Const (x3)) ea6, .o, .cr sv (ok_scalar_Const (x4)) ea7, .cr vt3 (ok_scalar_Decided (x1) (x2) (ra6) (ra7)) ea8, .o, .b (f3_barbicanlaw7_ScalarConst x1 x2 x3 x4 ra5 ea5 ra6 ea6 ra7 ea7 ra8 ea8 h2), .b (f11_barbicanlaw7_ScalarConst x1 x2 x3 x4 ra5 ea5 ra6 ea6 ra7 ea7 ra8 ea8 h1 h2), .o, .o, .o, .o, .o, .o, .o, .o, .o, .o, .o, .o, .o, .cr sv (ok_scalar_Const (x3)) ea9, .o, .cr sv (ok_scalar_Const (x4)) ea10, .cr vt7 (ok_scalar_Branch (x1) (x2) (false) (ra9) (ra10)) ea11, .o, .o, .o, .b (f12_barbicanlaw7_ScalarConst x1 x2 x3 x4 ra5 ea5 ra9 ea9 ra10 ea10 ra11 ea11 h1 h2), .o, .o, .a 0, .a 1, .o, .o, .o, .o, .o, .r [0, 1, 2, 3, 4, 5, 6, 7, 8, 9] [] [], .a 0, .o, .cr sv (ok_scalar_Const (x3)) ea12, .ov (fun w => (eq27 (ra11.1) (ra12) _ (f13_barbicanlaw7_ScalarConst x1 x2 x3 x4 ra5 ea5 ra9 ea9 ra10 ea10 ra11 ea11 ra12 ea12 h1 h2) (.tmp 85) (.tmp 87) w).2), .o, .a 1, .o, .cr sv (ok_scalar_Const (x4)) ea13, .ov (fun w => (eq27 (ra11.2.1) (ra13) _ (f14_barbicanlaw7_ScalarConst x1 x2 x3 x4 ra5 ea5 ra9 ea9 ra10 ea10 ra11 ea11 ra13 ea13 h1 h2) (.tmp 90) (.tmp 92) w).2), .o, .o, .o, .o, .o, .o, .o, .o, .o, .o, .o, .o, .o, .o, .o, .cr sv (ok_scalar_Const (x3)) ea14, .o, .cr sv (ok_scalar_Const (x4)) ea15, .cr vt7 (ok_scalar_Branch (x1) (x2) (true) (ra14) (ra15)) ea16, .o, .o, .o, .b (f15_barbicanlaw7_ScalarConst x1 x2 x3 x4 ra5 ea5 ra14 ea14 ra15 ea15 ra16 ea16 h1 h2), .o, .o, .a 2, .a 3, .o, .o, .o, .o, .o, .o, .o, .o, .o, .o, .o, .o, .o, .o, .o, .o, .o, .o, .o, .o, .o, .o, .o, .o, .o, .o]
    [] (fun b => by kernel_rfl)
theorem p3_barbicanlaw7_ScalarConst (x0 : BitVec 64) (x1 : BitVec 64) (x2 : Bool) (x3 : BitVec 64) (x4 : BitVec 64) (ra0 : (BitVec 64) × (Bool)) (ea0 : m_alu_Do x0 x2 x3 x4 = ra0) (ra1 : S) (ea1 : m_scalar_Const x3 = ra1) (ra2 : S) (ea2 : m_scalar_Const x4 = ra2) (ra3 : S) (ea3 : m_scalar_Do x0 x2 ra1 ra2 = ra3) (ra4 : S) (ea4 : m_scalar_Const ra0.1 = ra4) (ra5 : (Bool) × (Bool)) (ea5 : m_alu_Cmp x1 x2 x3 x4 = ra5) (ra6 : S) (ea6 : m_scalar_Const x3 = ra6) (ra7 : S) (ea7 : m_scalar_Const x4 = ra7) (ra8 : (Bool) × (Bool)) (ea8 : m_scalar_Decided x1 x2 ra6 ra7 = ra8) (h0 : (ra0.2) = true) (h1 : (ra5.1) = false) (h2 : (ra5.2) = false) : Con Tryz.prog 5 #[(.int .i64 (ii (x0))), (.int .i64 (ii (x1))), (.bool (x2)), (.int .u64 (nn (x3))), (.int .u64 (nn (x4)))] (.bool (true)) :=
  fn_conI (P := Tryz.prog) Tryz.func5 (fun xs w => by kernel_rfl) _ _
    [.o, .cb (ok_barbicanlaw7_known ) known_true, .o, .o, .o, .o, .o, .cr vt1 (ok_alu_Do (x0) (x2) (x3) (x4)) ea0, .o, .o, .b h0, .o, .o, .o, .o, .o, .o, .o, .cr sv (ok_scalar_Const (x3)) ea1, .o, .cr sv (ok_scalar_Const (x4)) ea2, .cr sv (ok_scalar_Do (x0) (x2) (ra1) (ra2)) ea3, .o, .cr sv (ok_scalar_Const (ra0.1)) ea4, .ov (fun w => (eq27 (ra3) (ra4) _ (f0_barbicanlaw7_ScalarConst x0 x2 x3 x4 ra0 ea0 ra1 ea1 ra2 ea2 ra3 ea3 ra4 ea4 h0) (.tmp 40) (.tmp 42) w).2), .o, .o, .o, .o, .o, .cr vt3 (ok_alu_Cmp (x1) (x2) (x3) (x4)) ea5, .o, .b h1, .b h2, .o, .o, .o, .o, .o, .cr sv (ok_scalar_Const (x3)) ea6, .o, .cr sv (ok_scalar_Const (x4)) ea7, .cr vt3 (ok_scalar_Decided (x1) (x2) (ra6) (ra7)) ea8, .o, .b (f9_barbicanlaw7_ScalarConst x1 x2 x3 x4 ra5 ea5 ra6 ea6 ra7 ea7 ra8 ea8 h2), .b (f10_barbicanlaw7_ScalarConst x1 x2 x3 x4 ra5 ea5 ra6 ea6 ra7 ea7 ra8 ea8 h2), .o, .o, .o, .o, .o]
    [] (fun b => by kernel_rfl)
theorem p4_barbicanlaw7_ScalarConst (x0 : BitVec 64) (x1 : BitVec 64) (x2 : Bool) (x3 : BitVec 64) (x4 : BitVec 64) (ra0 : (BitVec 64) × (Bool)) (ea0 : m_alu_Do x0 x2 x3 x4 = ra0) (ra1 : (Bool) × (Bool)) (ea1 : m_alu_Cmp x1 x2 x3 x4 = ra1) (ra2 : S) (ea2 : m_scalar_Const x3 = ra2) (ra3 : S) (ea3 : m_scalar_Const x4 = ra3) (ra4 : (Bool) × (Bool)) (ea4 : m_scalar_Decided x1 x2 ra2 ra3 = ra4) (ra5 : S) (ea5 : m_scalar_Const x3 = ra5) (ra6 : S) (ea6 : m_scalar_Const x4 = ra6) (ra7 : (S) × (S) × (Bool)) (ea7 : m_scalar_Branch x1 x2 false ra5 ra6 = ra7) (ra8 : S) (ea8 : m_scalar_Const x3 = ra8) (ra9 : S) (ea9 : m_scalar_Const x4 = ra9) (ra10 : (S) × (S) × (Bool)) (ea10 : m_scalar_Branch x1 x2 true ra8 ra9 = ra10) (ra11 : S) (ea11 : m_scalar_Const x3 = ra11) (ra12 : S) (ea12 : m_scalar_Const x4 = ra12) (h0 : (ra0.2) = false) (h1 : (ra1.1) = true) (h2 : (ra1.2) = true) : Con Tryz.prog 5 #[(.int .i64 (ii (x0))), (.int .i64 (ii (x1))), (.bool (x2)), (.int .u64 (nn (x3))), (.int .u64 (nn (x4)))] (.bool (true)) :=
  fn_conI (P := Tryz.prog) Tryz.func5 (fun xs w => by kernel_rfl) _ _
    [.o, .cb (ok_barbicanlaw7_known ) known_true, .o, .o, .o, .o, .o, .cr vt1 (ok_alu_Do (x0) (x2) (x3) (x4)) ea0, .o, .o, .b h0, .o, .o, .o, .o, .o, .o, .o, .o, .o, .cr vt3 (ok_alu_Cmp (x1) (x2) (x3) (x4)) ea1, .o, .b h1, .b h2, .o, .o, .o, .o, .o, .cr sv (ok_scalar_Const (x3)) ea2, .o, .cr sv (ok_scalar_Const (x4)) ea3, .cr vt3 (ok_scalar_Decided (x1) (x2) (ra2) (ra3)) ea4, .o, .b (f16_barbicanlaw7_ScalarConst x1 x2 x3 x4 ra1 ea1 ra2 ea2 ra3 ea3 ra4 ea4 h2), .b (f17_barbicanlaw7_ScalarConst x1 x2 x3 x4 ra1 ea1 ra2 ea2 ra3 ea3 ra4 ea4 h1 h2), .o, .o, .o, .o, .o, .o, .o, .o, .o, .o, .o, .o, .o, .cr sv (ok_scalar_Const (x3)) ea5, .o, .cr sv (ok_scalar_Const (x4)) ea6, .cr vt7 (ok_scalar_Branch (x1) (x2) (false) (ra5) (ra6)) ea7, .o, .o, .o, .b (f18_barbicanlaw7_ScalarConst x1 x2 x3 x4 ra1 ea1 ra5 ea5 ra6 ea6 ra7 ea7 h1 h2), .o, .o, .a 0, .a 1, .o, .o, .o, .o, .o, .o, .o, .o, .o, .o, .o, .o, .o, .o, .o, .o, .o, .o, .o, .o, .cr sv (ok_scalar_Const (x3)) ea8, .o, .cr sv (ok_scalar_Const (x4)) ea9, .cr vt7 (ok_scalar_Branch (x1) (x2) (true) (ra8) (ra9)) ea10, .o, .o, .o, .b (f19_barbicanlaw7_ScalarConst x1 x2 x3 x4 ra1 ea1 ra8 ea8 ra9 ea9 ra10 ea10 h1 h2), .o, .o, .a 2, .a 3, .o, .o, .o, .o, .o, .r [0, 1, 2, 3, 4, 5, 6, 7, 8, 9] [] [], .a 2, .o, .cr sv (ok_scalar_Const (x3)) ea11, .ov (fun w => (eq27 (ra10.1) (ra11) _ (f20_barbicanlaw7_ScalarConst x1 x2 x3 x4 ra1 ea1 ra8 ea8 ra9 ea9 ra10 ea10 ra11 ea11 h1 h2) (.tmp 85) (.tmp 87) w).2), .o, .a 3, .o, .cr sv (ok_scalar_Const (x4)) ea12, .ov (fun w => (eq27 (ra10.2.1) (ra12) _ (f21_barbicanlaw7_ScalarConst x1 x2 x3 x4 ra1 ea1 ra8 ea8 ra9 ea9 ra10 ea10 ra12 ea12 h1 h2) (.tmp 90) (.tmp 92) w).2), .o, .o, .o, .o, .o, .o, .o, .o, .o, .o, .o, .o, .o, .o, .o, .o, .o, .o, .o, .o, .o]
    [] (fun b => by kernel_rfl)
theorem p5_barbicanlaw7_ScalarConst (x0 : BitVec 64) (x1 : BitVec 64) (x2 : Bool) (x3 : BitVec 64) (x4 : BitVec 64) (ra0 : (BitVec 64) × (Bool)) (ea0 : m_alu_Do x0 x2 x3 x4 = ra0) (ra1 : (Bool) × (Bool)) (ea1 : m_alu_Cmp x1 x2 x3 x4 = ra1) (ra2 : S) (ea2 : m_scalar_Const x3 = ra2) (ra3 : S) (ea3 : m_scalar_Const x4 = ra3) (ra4 : (Bool) × (Bool)) (ea4 : m_scalar_Decided x1 x2 ra2 ra3 = ra4) (h0 : (ra0.2) = false) (h1 : (ra1.1) = true) (h2 : (ra1.2) = false) : Con Tryz.prog 5 #[(.int .i64 (ii (x0))), (.int .i64 (ii (x1))), (.bool (x2)), (.int .u64 (nn (x3))), (.int .u64 (nn (x4)))] (.bool (true)) :=
  fn_conI (P := Tryz.prog) Tryz.func5 (fun xs w => by kernel_rfl) _ _
    [.o, .cb (ok_barbicanlaw7_known ) known_true, .o, .o, .o, .o, .o, .cr vt1 (ok_alu_Do (x0) (x2) (x3) (x4)) ea0, .o, .o, .b h0, .o, .o, .o, .o, .o, .o, .o, .o, .o, .cr vt3 (ok_alu_Cmp (x1) (x2) (x3) (x4)) ea1, .o, .b h1, .b h2, .o, .o, .o, .o, .o, .cr sv (ok_scalar_Const (x3)) ea2, .o, .cr sv (ok_scalar_Const (x4)) ea3, .cr vt3 (ok_scalar_Decided (x1) (x2) (ra2) (ra3)) ea4, .o, .b (f22_barbicanlaw7_ScalarConst x1 x2 x3 x4 ra1 ea1 ra2 ea2 ra3 ea3 ra4 ea4 h2), .b (f23_barbicanlaw7_ScalarConst x1 x2 x3 x4 ra1 ea1 ra2 ea2 ra3 ea3 ra4 ea4 h2), .o, .o, .o, .o, .o]
    [] (fun b => by kernel_rfl)
theorem p6_barbicanlaw7_ScalarConst (x0 : BitVec 64) (x1 : BitVec 64) (x2 : Bool) (x3 : BitVec 64) (x4 : BitVec 64) (ra0 : (BitVec 64) × (Bool)) (ea0 : m_alu_Do x0 x2 x3 x4 = ra0) (ra1 : (Bool) × (Bool)) (ea1 : m_alu_Cmp x1 x2 x3 x4 = ra1) (ra2 : S) (ea2 : m_scalar_Const x3 = ra2) (ra3 : S) (ea3 : m_scalar_Const x4 = ra3) (ra4 : (Bool) × (Bool)) (ea4 : m_scalar_Decided x1 x2 ra2 ra3 = ra4) (ra5 : S) (ea5 : m_scalar_Const x3 = ra5) (ra6 : S) (ea6 : m_scalar_Const x4 = ra6) (ra7 : (S) × (S) × (Bool)) (ea7 : m_scalar_Branch x1 x2 false ra5 ra6 = ra7) (ra8 : S) (ea8 : m_scalar_Const x3 = ra8) (ra9 : S) (ea9 : m_scalar_Const x4 = ra9) (ra10 : S) (ea10 : m_scalar_Const x3 = ra10) (ra11 : S) (ea11 : m_scalar_Const x4 = ra11) (ra12 : (S) × (S) × (Bool)) (ea12 : m_scalar_Branch x1 x2 true ra10 ra11 = ra12) (h0 : (ra0.2) = false) (h1 : (ra1.1) = false) (h2 : (ra1.2) = true) : Con Tryz.prog 5 #[(.int .i64 (ii (x0))), (.int .i64 (ii (x1))), (.bool (x2)), (.int .u64 (nn (x3))), (.int .u64 (nn (x4)))] (.bool (true)) :=
  fn_conI (P := Tryz.prog) Tryz.func5 (fun xs w => by kernel_rfl) _ _
    [.o, .cb (ok_barbicanlaw7_known ) known_true, .o, .o, .o, .o, .o, .cr vt1 (ok_alu_Do (x0) (x2) (x3) (x4)) ea0, .o, .o, .b h0, .o, .o, .o, .o, .o, .o, .o, .o, .o, .cr vt3 (ok_alu_Cmp (x1) (x2) (x3) (x4)) ea1, .o, .b h1, .b h2, .o, .o, .o, .o, .o, .cr sv (ok_scalar_Const (x3)) ea2, .o, .cr sv (ok_scalar_Const (x4)) ea3, .cr vt3 (ok_scalar_Decided (x1) (x2) (ra2) (ra3)) ea4, .o, .b (f16_barbicanlaw7_ScalarConst x1 x2 x3 x4 ra1 ea1 ra2 ea2 ra3 ea3 ra4 ea4 h2), .b (f24_barbicanlaw7_ScalarConst x1 x2 x3 x4 ra1 ea1 ra2 ea2 ra3 ea3 ra4 ea4 h1 h2), .o, .o, .o, .o, .o, .o, .o, .o, .o, .o, .o, .o, .o, .cr sv (ok_scalar_Const (x3)) ea5, .o, .cr sv (ok_scalar_Const (x4)) ea6, .cr vt7 (ok_scalar_Branch (x1) (x2) (false) (ra5) (ra6)) ea7, .o, .o, .o, .b (f25_barbicanlaw7_ScalarConst x1 x2 x3 x4 ra1 ea1 ra5 ea5 ra6 ea6 ra7 ea7 h1 h2), .o, .o, .a 0, .a 1, .o, .o, .o, .o, .o, .r [0, 1, 2, 3, 4, 5, 6, 7, 8, 9] [] [], .a 0, .o, .cr sv (ok_scalar_Const (x3)) ea8, .ov (fun w => (eq27 (ra7.1) (ra8) _ (f26_barbicanlaw7_ScalarConst x1 x2 x3 x4 ra1 ea1 ra5 ea5 ra6 ea6 ra7 ea7 ra8 ea8 h1 h2) (.tmp 85) (.tmp 87) w).2), .o, .a 1, .o, .cr sv (ok_scalar_Const (x4)) ea9, .ov (fun w => (eq27 (ra7.2.1) (ra9) _ (f27_barbicanlaw7_ScalarConst x1 x2 x3 x4 ra1 ea1 ra5 ea5 ra6 ea6 ra7 ea7 ra9 ea9 h1 h2) (.tmp 90) (.tmp 92) w).2), .o, .o, .o, .o, .o, .o, .o, .o, .o, .o, .o, .o, .o, .o, .o, .cr sv (ok_scalar_Const (x3)) ea10, .o, .cr sv (ok_scalar_Const (x4)) ea11, .cr vt7 (ok_scalar_Branch (x1) (x2) (true) (ra10) (ra11)) ea12, .o, .o, .o, .b (f28_barbicanlaw7_ScalarConst x1 x2 x3 x4 ra1 ea1 ra10 ea10 ra11 ea11 ra12 ea12 h1 h2), .o, .o, .a 2, .a 3, .o, .o, .o, .o, .o, .o, .o, .o, .o, .o, .o, .o, .o, .o, .o, .o, .o, .o, .o, .o, .o, .o, .o, .o, .o, .o]
    [] (fun b => by kernel_rfl)
theorem p7_barbicanlaw7_ScalarConst (x0 : BitVec 64) (x1 : BitVec 64) (x2 : Bool) (x3 : BitVec 64) (x4 : BitVec 64) (ra0 : (BitVec 64) × (Bool)) (ea0 : m_alu_Do x0 x2 x3 x4 = ra0) (ra1 : (Bool) × (Bool)) (ea1 : m_alu_Cmp x1 x2 x3 x4 = ra1) (ra2 : S) (ea2 : m_scalar_Const x3 = ra2) (ra3 : S) (ea3 : m_scalar_Const x4 = ra3) (ra4 : (Bool) × (Bool)) (ea4 : m_scalar_Decided x1 x2 ra2 ra3 = ra4) (h0 : (ra0.2) = false) (h1 : (ra1.1) = false) (h2 : (ra1.2) = false) : Con Tryz.prog 5 #[(.int .i64 (ii (x0))), (.int .i64 (ii (x1))), (.bool (x2)), (.int .u64 (nn (x3))), (.int .u64 (nn (x4)))] (.bool (true)) :=
  fn_conI (P := Tryz.prog) Tryz.func5 (fun xs w => by kernel_rfl) _ _
    [.o, .cb (ok_barbicanlaw7_known ) known_true, .o, .o, .o, .o, .o, .cr vt1 (ok_alu_Do (x0) (x2) (x3) (x4)) ea0, .o, .o, .b h0, .o, .o, .o, .o, .o, .o, .o, .o, .o, .cr vt3 (ok_alu_Cmp (x1) (x2) (x3) (x4)) ea1, .o, .b h1, .b h2, .o, .o, .o, .o, .o, .cr sv (ok_scalar_Const (x3)) ea2, .o, .cr sv (ok_scalar_Const (x4)) ea3, .cr vt3 (ok_scalar_Decided (x1) (x2) (ra2) (ra3)) ea4, .o, .b (f22_barbicanlaw7_ScalarConst x1 x2 x3 x4 ra1 ea1 ra2 ea2 ra3 ea3 ra4 ea4 h2), .b (f23_barbicanlaw7_ScalarConst x1 x2 x3 x4 ra1 ea1 ra2 ea2 ra3 ea3 ra4 ea4 h2), .o, .o, .o, .o, .o]
    [] (fun b => by kernel_rfl)
theorem ok_barbicanlaw7_ScalarConst (x0 : BitVec 64) (x1 : BitVec 64) (x2 : Bool) (x3 : BitVec 64) (x4 : BitVec 64) : Con Tryz.prog 5 #[(.int .i64 (ii (x0))), (.int .i64 (ii (x1))), (.bool (x2)), (.int .u64 (nn (x3))), (.int .u64 (nn (x4)))] (.bool (m_barbicanlaw7_ScalarConst x0 x1 x2 x3 x4)) := by
  unfold m_barbicanlaw7_ScalarConst
  refine Con.cond (fun r => (Value.bool (r))) _ _ _ (fun h0 => ?_) (fun h0 => ?_)
  · refine Con.cond (fun r => (Value.bool (r))) _ _ _ (fun h1 => ?_) (fun h1 => ?_)
    · refine Con.cond (fun r => (Value.bool (r))) _ _ _ (fun h2 => ?_) (fun h2 => ?_)
      · exact p0_barbicanlaw7_ScalarConst x0 x1 x2 x3 x4 _ rfl _ rfl _ rfl _ rfl _ rfl _ rfl _ rfl _ rfl _ rfl _ rfl _ rfl _ rfl _ rfl _ rfl _ rfl _ rfl _ rfl h0 h1 h2
      · exact p1_barbicanlaw7_ScalarConst x0 x1 x2 x3 x4 _ rfl _ rfl _ rfl _ rfl _ rfl _ rfl _ rfl _ rfl _ rfl h0 h1 h2
    · refine Con.cond (fun r => (Value.bool (r))) _ _ _ (fun h2 => ?_) (fun h2 => ?_)
      · exact p2_barbicanlaw7_ScalarConst x0 x1 x2 x3 x4 _ rfl _ rfl _ rfl _ rfl _ rfl _ rfl _ rfl _ rfl _ rfl _ rfl _ rfl _ rfl _ rfl _ rfl _ rfl _ rfl _ rfl h0 h1 h2
      · exact p3_barbicanlaw7_ScalarConst x0 x1 x2 x3 x4 _ rfl _ rfl _ rfl _ rfl _ rfl _ rfl _ rfl _ rfl _ rfl h0 h1 h2
  · refine Con.cond (fun r => (Value.bool (r))) _ _ _ (fun h1 => ?_) (fun h1 => ?_)
    · refine Con.cond (fun r => (Value.bool (r))) _ _ _ (fun h2 => ?_) (fun h2 => ?_)
      · exact p4_barbicanlaw7_ScalarConst x0 x1 x2 x3 x4 _ rfl _ rfl _ rfl _ rfl _ rfl _ rfl _ rfl _ rfl _ rfl _ rfl _ rfl _ rfl _ rfl h0 h1 h2
      · exact p5_barbicanlaw7_ScalarConst x0 x1 x2 x3 x4 _ rfl _ rfl _ rfl _ rfl _ rfl h0 h1 h2
    · refine Con.cond (fun r => (Value.bool (r))) _ _ _ (fun h2 => ?_) (fun h2 => ?_)
      · exact p6_barbicanlaw7_ScalarConst x0 x1 x2 x3 x4 _ rfl _ rfl _ rfl _ rfl _ rfl _ rfl _ rfl _ rfl _ rfl _ rfl _ rfl _ rfl _ rfl h0 h1 h2
      · exact p7_barbicanlaw7_ScalarConst x0 x1 x2 x3 x4 _ rfl _ rfl _ rfl _ rfl _ rfl h0 h1 h2
end Go.Proofs.YtmhiiahfjoijgaaGreat
