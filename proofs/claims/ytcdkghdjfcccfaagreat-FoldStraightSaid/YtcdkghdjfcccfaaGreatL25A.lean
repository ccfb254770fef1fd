/-
  Numbers' operations.
-/
import Derived.Test.YtcdkghdjfcccfaaGreatS1B
namespace Go.Proofs.YtcdkghdjfcccfaaGreat
open Go.RowKit
set_option linter.unusedVariables false
set_option linter.unusedSimpArgs false
set_option linter.unusedSectionVars false
set_option maxRecDepth 100000
set_option maxHeartbeats 4000000
def vt2 (r : (BitVec 64) × (Bool)) : Value := .tuple #[(.int .u64 (nn r.1)), (.bool (r.2))]
section
variable {M : Nat → Prop} {B0 : Nat} {S : World → Prop} (hU : Up M B0 S)
include hU
theorem ok_alu_operations : ConG Tryz.prog S 9 #[] (.agg #[.func (.func 18) #[] #[], .func (.func 19) #[] #[], .func (.func 20) #[] #[], .func (.func 21) #[] #[], .func (.func 22) #[] #[], .func (.func 23) #[] #[], .func (.func 24) #[] #[], .func (.func 25) #[] #[], .func (.func 26) #[] #[], .func (.func 27) #[] #[], .func (.func 28) #[] #[], .func (.func 29) #[] #[], .func (.func 30) #[] #[], .func (.func 31) #[] #[], .func (.func 32) #[] #[], .func (.func 33) #[] #[], .func (.func 34) #[] #[], .func (.func 35) #[] #[], .func (.func 36) #[] #[], .func (.func 37) #[] #[], .func (.func 38) #[] #[], .func (.func 39) #[] #[], .func (.func 40) #[] #[], .func (.func 41) #[] #[], .func (.func 42) #[] #[], .func (.func 43) #[] #[]]) :=
  fn_conG hU (P := Tryz.prog) Tryz.func9 (fun xs w => by kernel_rfl) [] (.agg #[.func (.func 18) #[] #[], .func (.func 19) #[] #[], .func (.func 20) #[] #[], .func (.func 21) #[] #[], .func (.func 22) #[] #[], .func (.func 23) #[] #[], .func (.func 24) #[] #[], .func (.func 25) #[] #[], .func (.func 26) #[] #[], .func (.func 27) #[] #[], .func (.func 28) #[] #[], .func (.func 29) #[] #[], .func (.func 30) #[] #[], .func (.func 31) #[] #[], .func (.func 32) #[] #[], .func (.func 33) #[] #[], .func (.func 34) #[] #[], .func (.func 35) #[] #[], .func (.func 36) #[] #[], .func (.func 37) #[] #[], .func (.func 38) #[] #[], .func (.func 39) #[] #[], .func (.func 40) #[] #[], .func (.func 41) #[] #[], .func (.func 42) #[] #[], .func (.func 43) #[] #[]])
    [.o, .o, .o, .o, .o, .o, .o, .o, .o, .o, .o, .o, .o, .o, .o, .a 0]
    [0, 0, 0, 0, 0, 0, 0, 0, 0, 0, 0, 0, 0, 0, 0, 0, 0, 0, 0, 0, 0, 0, 0, 0, 0, 0] (fun b => by kernel_rfl)
noncomputable def m_alu_operations_1 (y0 : BitVec 64) (y1 : BitVec 64) : BitVec 64 :=
  (y0 + y1)
end
section
variable {M : Nat → Prop} {B0 : Nat} {S : World → Prop} (hU : Up M B0 S) (y0 : BitVec 64) (y1 : BitVec 64) (r : BitVec 64)
include hU y0 y1 r
theorem ok_alu_operations_1 (e : m_alu_operations_1 y0 y1 = r) : ConG Tryz.prog S 18 #[.int .u64 (nn y0), .int .u64 (nn y1)] (.int .u64 (nn r)) := by
  unfold m_alu_operations_1 at e
  subst e; exact fn_conG hU (P := Tryz.prog) Tryz.func18 (fun xs w => by kernel_rfl) _ _ [.o, .o, .o, .v .u64 (u64_add y0 y1), .o] [] (fun b => by kernel_rfl)
noncomputable def m_alu_operations_3 (y0 : BitVec 64) (y1 : BitVec 64) : BitVec 64 :=
  (y0 - y1)
theorem ok_alu_operations_3 (e : m_alu_operations_3 y0 y1 = r) : ConG Tryz.prog S 20 #[.int .u64 (nn y0), .int .u64 (nn y1)] (.int .u64 (nn r)) := by
  unfold m_alu_operations_3 at e
  subst e; exact fn_conG hU (P := Tryz.prog) Tryz.func20 (fun xs w => by kernel_rfl) _ _ [.o, .o, .o, .v .u64 (u64_sub y0 y1), .o] [] (fun b => by kernel_rfl)
noncomputable def m_alu_operations_5 (y0 : BitVec 64) (y1 : BitVec 64) : BitVec 64 :=
  (y0 * y1)
theorem ok_alu_operations_5 (e : m_alu_operations_5 y0 y1 = r) : ConG Tryz.prog S 22 #[.int .u64 (nn y0), .int .u64 (nn y1)] (.int .u64 (nn r)) := by
  unfold m_alu_operations_5 at e
  subst e; exact fn_conG hU (P := Tryz.prog) Tryz.func22 (fun xs w => by kernel_rfl) _ _ [.o, .o, .o, .v .u64 (u64_mul y0 y1), .o] [] (fun b => by kernel_rfl)
noncomputable def m_alu_div_uint64 (y0 : BitVec 64) (y1 : BitVec 64) : BitVec 64 :=
  bif y1 == 0#64 then
    (0#64)
  else ((y0 / y1))
theorem ok_alu_div_uint64 (e : m_alu_div_uint64 y0 y1 = r) : ConG Tryz.prog S 24 #[.int .u64 (nn y0), .int .u64 (nn y1)] (.int .u64 (nn r)) := by
  unfold m_alu_div_uint64 at e
  replace e := cond_eq_or e
  rcases e with ⟨hq0, e⟩ | ⟨hq0, e⟩
  · subst e; exact fn_conG hU (P := Tryz.prog) Tryz.func24 (fun xs w => by kernel_rfl) _ _ [.o, .o, .t (u_eq y1 (0#64)) hq0, .o] [] (fun b => by kernel_rfl)
  · subst e; exact fn_conG hU (P := Tryz.prog) Tryz.func24 (fun xs w => by kernel_rfl) _ _ [.o, .o, .t (u_eq y1 (0#64)) hq0, .o, .o, .ov (u64_quo Tryz.prog 25 (.tmp 7) (.tmp 8) y0 y1 (u_nz hq0)), .o] [] (fun b => by kernel_rfl)
noncomputable def m_alu_operations_7 (y0 : BitVec 64) (y1 : BitVec 64) : BitVec 64 :=
  (y0 ||| y1)
theorem ok_alu_operations_7 (e : m_alu_operations_7 y0 y1 = r) : ConG Tryz.prog S 26 #[.int .u64 (nn y0), .int .u64 (nn y1)] (.int .u64 (nn r)) := by
  unfold m_alu_operations_7 at e
  subst e; exact fn_conG hU (P := Tryz.prog) Tryz.func26 (fun xs w => by kernel_rfl) _ _ [.o, .o, .o, .v .u64 (u64_or y0 y1), .o] [] (fun b => by kernel_rfl)
noncomputable def m_alu_operations_9 (y0 : BitVec 64) (y1 : BitVec 64) : BitVec 64 :=
  (y0 &&& y1)
theorem ok_alu_operations_9 (e : m_alu_operations_9 y0 y1 = r) : ConG Tryz.prog S 28 #[.int .u64 (nn y0), .int .u64 (nn y1)] (.int .u64 (nn r)) := by
  unfold m_alu_operations_9 at e
  subst e; exact fn_conG hU (P := Tryz.prog) Tryz.func28 (fun xs w => by kernel_rfl) _ _ [.o, .o, .o, .v .u64 (u64_and y0 y1), .o] [] (fun b => by kernel_rfl)
noncomputable def m_alu_operations_11 (y0 : BitVec 64) (y1 : BitVec 64) : BitVec 64 :=
  (y0 <<< ((y1 % 64#64)).toNat)
theorem ok_alu_operations_11 (e : m_alu_operations_11 y0 y1 = r) : ConG Tryz.prog S 30 #[.int .u64 (nn y0), .int .u64 (nn y1)] (.int .u64 (nn r)) := by
  unfold m_alu_operations_11 at e
  subst e; exact fn_conG hU (P := Tryz.prog) Tryz.func30 (fun xs w => by kernel_rfl) _ _ [.o, .o, .o, .ov (u64_rem Tryz.prog 25 (.tmp 6) (.const (.int .u64 (64))) y1 (64#64) (by decide)), .ov (u64_shl Tryz.prog 25 (.tmp 5) (.tmp 7) y0 ((y1 % 64#64)).toNat .u64 rfl), .o] [] (fun b => by kernel_rfl)
noncomputable def m_alu_operations_13 (y0 : BitVec 64) (y1 : BitVec 64) : BitVec 64 :=
  (y0 >>> ((y1 % 64#64)).toNat)
theorem ok_alu_operations_13 (e : m_alu_operations_13 y0 y1 = r) : ConG Tryz.prog S 32 #[.int .u64 (nn y0), .int .u64 (nn y1)] (.int .u64 (nn r)) := by
  unfold m_alu_operations_13 at e
  subst e; exact fn_conG hU (P := Tryz.prog) Tryz.func32 (fun xs w => by kernel_rfl) _ _ [.o, .o, .o, .ov (u64_rem Tryz.prog 25 (.tmp 6) (.const (.int .u64 (64))) y1 (64#64) (by decide)), .ov (u64_shr Tryz.prog 25 (.tmp 5) (.tmp 7) y0 ((y1 % 64#64)).toNat .u64 rfl), .o] [] (fun b => by kernel_rfl)
noncomputable def m_alu_operations_15 (y0 : BitVec 64) (y1 : BitVec 64) : BitVec 64 :=
  (-y0)
theorem ok_alu_operations_15 (e : m_alu_operations_15 y0 y1 = r) : ConG Tryz.prog S 34 #[.int .u64 (nn y0), .int .u64 (nn y1)] (.int .u64 (nn r)) := by
  unfold m_alu_operations_15 at e
  subst e; exact fn_conG hU (P := Tryz.prog) Tryz.func34 (fun xs w => by kernel_rfl) _ _ [.o, .o, .v .u64 (u64_neg0 y0), .o] [] (fun b => by kernel_rfl)
noncomputable def m_alu_mod_uint64 (y0 : BitVec 64) (y1 : BitVec 64) : BitVec 64 :=
  bif y1 == 0#64 then
    (y0)
  else ((y0 % y1))
theorem ok_alu_mod_uint64 (e : m_alu_mod_uint64 y0 y1 = r) : ConG Tryz.prog S 36 #[.int .u64 (nn y0), .int .u64 (nn y1)] (.int .u64 (nn r)) := by
  unfold m_alu_mod_uint64 at e
  replace e := cond_eq_or e
  rcases e with ⟨hq0, e⟩ | ⟨hq0, e⟩
  · subst e; exact fn_conG hU (P := Tryz.prog) Tryz.func36 (fun xs w => by kernel_rfl) _ _ [.o, .o, .t (u_eq y1 (0#64)) hq0, .o, .o] [] (fun b => by kernel_rfl)
  · subst e; exact fn_conG hU (P := Tryz.prog) Tryz.func36 (fun xs w => by kernel_rfl) _ _ [.o, .o, .t (u_eq y1 (0#64)) hq0, .o, .o, .ov (u64_rem Tryz.prog 25 (.tmp 8) (.tmp 9) y0 y1 (u_nz hq0)), .o] [] (fun b => by kernel_rfl)
noncomputable def m_alu_operations_17 (y0 : BitVec 64) (y1 : BitVec 64) : BitVec 64 :=
  (y0 ^^^ y1)
theorem ok_alu_operations_17 (e : m_alu_operations_17 y0 y1 = r) : ConG Tryz.prog S 38 #[.int .u64 (nn y0), .int .u64 (nn y1)] (.int .u64 (nn r)) := by
  unfold m_alu_operations_17 at e
  subst e; exact fn_conG hU (P := Tryz.prog) Tryz.func38 (fun xs w => by kernel_rfl) _ _ [.o, .o, .o, .v .u64 (u64_xor y0 y1), .o] [] (fun b => by kernel_rfl)
noncomputable def m_alu_operations_19 (y0 : BitVec 64) (y1 : BitVec 64) : BitVec 64 :=
  y1
theorem ok_alu_operations_19 (e : m_alu_operations_19 y0 y1 = r) : ConG Tryz.prog S 40 #[.int .u64 (nn y0), .int .u64 (nn y1)] (.int .u64 (nn r)) := by
  unfold m_alu_operations_19 at e
  subst e; exact fn_conG hU (P := Tryz.prog) Tryz.func40 (fun xs w => by kernel_rfl) _ _ [.o, .o, .o] [] (fun b => by kernel_rfl)
noncomputable def m_alu_operations_21 (y0 : BitVec 64) (y1 : BitVec 64) : BitVec 64 :=
  (BitVec.ofInt 64 (zshr (ii y0) ((y1 % 64#64)).toNat))
theorem ok_alu_operations_21 (e : m_alu_operations_21 y0 y1 = r) : ConG Tryz.prog S 42 #[.int .u64 (nn y0), .int .u64 (nn y1)] (.int .u64 (nn r)) := by
  unfold m_alu_operations_21 at e
  subst e; exact fn_conG hU (P := Tryz.prog) Tryz.func42 (fun xs w => by kernel_rfl) _ _ [.o, .o, .v .i64 (z_of_u64 y0), .o, .ov (u64_rem Tryz.prog 25 (.tmp 7) (.const (.int .u64 (64))) y1 (64#64) (by decide)), .ov (z_shr Tryz.prog 2 (.tmp 6) (.tmp 8) (ii y0) ((y1 % 64#64)).toNat .u64 rfl), .v .u64 (u64_of_z (zshr (ii y0) ((y1 % 64#64)).toNat)), .o] [] (fun b => by kernel_rfl)
noncomputable def m_alu_operations_2 (y0 : BitVec 32) (y1 : BitVec 32) : BitVec 32 :=
  (y0 + y1)
end
section
variable {M : Nat → Prop} {B0 : Nat} {S : World → Prop} (hU : Up M B0 S) (y0 : BitVec 32) (y1 : BitVec 32) (r : BitVec 32)
include hU y0 y1 r
theorem ok_alu_operations_2 (e : m_alu_operations_2 y0 y1 = r) : ConG Tryz.prog S 19 #[.int .u32 (nn y0), .int .u32 (nn y1)] (.int .u32 (nn r)) := by
  unfold m_alu_operations_2 at e
  subst e; exact fn_conG hU (P := Tryz.prog) Tryz.func19 (fun xs w => by kernel_rfl) _ _ [.o, .o, .o, .v .u32 (u32_add y0 y1), .o] [] (fun b => by kernel_rfl)
noncomputable def m_alu_operations_4 (y0 : BitVec 32) (y1 : BitVec 32) : BitVec 32 :=
  (y0 - y1)
theorem ok_alu_operations_4 (e : m_alu_operations_4 y0 y1 = r) : ConG Tryz.prog S 21 #[.int .u32 (nn y0), .int .u32 (nn y1)] (.int .u32 (nn r)) := by
  unfold m_alu_operations_4 at e
  subst e; exact fn_conG hU (P := Tryz.prog) Tryz.func21 (fun xs w => by kernel_rfl) _ _ [.o, .o, .o, .v .u32 (u32_sub y0 y1), .o] [] (fun b => by kernel_rfl)
noncomputable def m_alu_operations_6 (y0 : BitVec 32) (y1 : BitVec 32) : BitVec 32 :=
  (y0 * y1)
theorem ok_alu_operations_6 (e : m_alu_operations_6 y0 y1 = r) : ConG Tryz.prog S 23 #[.int .u32 (nn y0), .int .u32 (nn y1)] (.int .u32 (nn r)) := by
  unfold m_alu_operations_6 at e
  subst e; exact fn_conG hU (P := Tryz.prog) Tryz.func23 (fun xs w => by kernel_rfl) _ _ [.o, .o, .o, .v .u32 (u32_mul y0 y1), .o] [] (fun b => by kernel_rfl)
noncomputable def m_alu_div_uint32 (y0 : BitVec 32) (y1 : BitVec 32) : BitVec 32 :=
  bif y1 == 0#32 then
    (0#32)
  else ((y0 / y1))
theorem ok_alu_div_uint32 (e : m_alu_div_uint32 y0 y1 = r) : ConG Tryz.prog S 25 #[.int .u32 (nn y0), .int .u32 (nn y1)] (.int .u32 (nn r)) := by
  unfold m_alu_div_uint32 at e
  replace e := cond_eq_or e
  rcases e with ⟨hq0, e⟩ | ⟨hq0, e⟩
  · subst e; exact fn_conG hU (P := Tryz.prog) Tryz.func25 (fun xs w => by kernel_rfl) _ _ [.o, .o, .t (u_eq y1 (0#32)) hq0, .o] [] (fun b => by kernel_rfl)
  · subst e; exact fn_conG hU (P := Tryz.prog) Tryz.func25 (fun xs w => by kernel_rfl) _ _ [.o, .o, .t (u_eq y1 (0#32)) hq0, .o, .o, .ov (u32_quo Tryz.prog 43 (.tmp 7) (.tmp 8) y0 y1 (u_nz hq0)), .o] [] (fun b => by kernel_rfl)
noncomputable def m_alu_operations_8 (y0 : BitVec 32) (y1 : BitVec 32) : BitVec 32 :=
  (y0 ||| y1)
theorem ok_alu_operations_8 (e : m_alu_operations_8 y0 y1 = r) : ConG Tryz.prog S 27 #[.int .u32 (nn y0), .int .u32 (nn y1)] (.int .u32 (nn r)) := by
  unfold m_alu_operations_8 at e
  subst e; exact fn_conG hU (P := Tryz.prog) Tryz.func27 (fun xs w => by kernel_rfl) _ _ [.o, .o, .o, .v .u32 (u32_or y0 y1), .o] [] (fun b => by kernel_rfl)
noncomputable def m_alu_operations_10 (y0 : BitVec 32) (y1 : BitVec 32) : BitVec 32 :=
  (y0 &&& y1)
theorem ok_alu_operations_10 (e : m_alu_operations_10 y0 y1 = r) : ConG Tryz.prog S 29 #[.int .u32 (nn y0), .int .u32 (nn y1)] (.int .u32 (nn r)) := by
  unfold m_alu_operations_10 at e
  subst e; exact fn_conG hU (P := Tryz.prog) Tryz.func29 (fun xs w => by kernel_rfl) _ _ [.o, .o, .o, .v .u32 (u32_and y0 y1), .o] [] (fun b => by kernel_rfl)
noncomputable def m_alu_operations_12 (y0 : BitVec 32) (y1 : BitVec 32) : BitVec 32 :=
  (y0 <<< ((y1 % 32#32)).toNat)
theorem ok_alu_operations_12 (e : m_alu_operations_12 y0 y1 = r) : ConG Tryz.prog S 31 #[.int .u32 (nn y0), .int .u32 (nn y1)] (.int .u32 (nn r)) := by
  unfold m_alu_operations_12 at e
  subst e; exact fn_conG hU (P := Tryz.prog) Tryz.func31 (fun xs w => by kernel_rfl) _ _ [.o, .o, .o, .ov (u32_rem Tryz.prog 43 (.tmp 6) (.const (.int .u32 (32))) y1 (32#32) (by decide)), .ov (u32_shl Tryz.prog 43 (.tmp 5) (.tmp 7) y0 ((y1 % 32#32)).toNat .u32 rfl), .o] [] (fun b => by kernel_rfl)
noncomputable def m_alu_operations_14 (y0 : BitVec 32) (y1 : BitVec 32) : BitVec 32 :=
  (y0 >>> ((y1 % 32#32)).toNat)
theorem ok_alu_operations_14 (e : m_alu_operations_14 y0 y1 = r) : ConG Tryz.prog S 33 #[.int .u32 (nn y0), .int .u32 (nn y1)] (.int .u32 (nn r)) := by
  unfold m_alu_operations_14 at e
  subst e; exact fn_conG hU (P := Tryz.prog) Tryz.func33 (fun xs w => by kernel_rfl) _ _ [.o, .o, .o, .ov (u32_rem Tryz.prog 43 (.tmp 6) (.const (.int .u32 (32))) y1 (32#32) (by decide)), .ov (u32_shr Tryz.prog 43 (.tmp 5) (.tmp 7) y0 ((y1 % 32#32)).toNat .u32 rfl), .o] [] (fun b => by kernel_rfl)
noncomputable def m_alu_operations_16 (y0 : BitVec 32) (y1 : BitVec 32) : BitVec 32 :=
  (-y0)
theorem ok_alu_operations_16 (e : m_alu_operations_16 y0 y1 = r) : ConG Tryz.prog S 35 #[.int .u32 (nn y0), .int .u32 (nn y1)] (.int .u32 (nn r)) := by
  unfold m_alu_operations_16 at e
  subst e; exact fn_conG hU (P := Tryz.prog) Tryz.func35 (fun xs w => by kernel_rfl) _ _ [.o, .o, .v .u32 (u32_neg0 y0), .o] [] (fun b => by kernel_rfl)
noncomputable def m_alu_mod_uint32 (y0 : BitVec 32) (y1 : BitVec 32) : BitVec 32 :=
  bif y1 == 0#32 then
    (y0)
  else ((y0 % y1))
theorem ok_alu_mod_uint32 (e : m_alu_mod_uint32 y0 y1 = r) : ConG Tryz.prog S 37 #[.int .u32 (nn y0), .int .u32 (nn y1)] (.int .u32 (nn r)) := by
  unfold m_alu_mod_uint32 at e
  replace e := cond_eq_or e
  rcases e with ⟨hq0, e⟩ | ⟨hq0, e⟩
  · subst e; exact fn_conG hU (P := Tryz.prog) Tryz.func37 (fun xs w => by kernel_rfl) _ _ [.o, .o, .t (u_eq y1 (0#32)) hq0, .o, .o] [] (fun b => by kernel_rfl)
  · subst e; exact fn_conG hU (P := Tryz.prog) Tryz.func37 (fun xs w => by kernel_rfl) _ _ [.o, .o, .t (u_eq y1 (0#32)) hq0, .o, .o, .ov (u32_rem Tryz.prog 43 (.tmp 8) (.tmp 9) y0 y1 (u_nz hq0)), .o] [] (fun b => by kernel_rfl)
noncomputable def m_alu_operations_18 (y0 : BitVec 32) (y1 : BitVec 32) : BitVec 32 :=
  (y0 ^^^ y1)
theorem ok_alu_operations_18 (e : m_alu_operations_18 y0 y1 = r) : ConG Tryz.prog S 39 #[.int .u32 (nn y0), .int .u32 (nn y1)] (.int .u32 (nn r)) := by
  unfold m_alu_operations_18 at e
  subst e; exact fn_conG hU (P := Tryz.prog) Tryz.func39 (fun xs w => by kernel_rfl) _ _ [.o, .o, .o, .v .u32 (u32_xor y0 y1), .o] [] (fun b => by kernel_rfl)
noncomputable def m_alu_operations_20 (y0 : BitVec 32) (y1 : BitVec 32) : BitVec 32 :=
  y1
theorem ok_alu_operations_20 (e : m_alu_operations_20 y0 y1 = r) : ConG Tryz.prog S 41 #[.int .u32 (nn y0), .int .u32 (nn y1)] (.int .u32 (nn r)) := by
  unfold m_alu_operations_20 at e
  subst e; exact fn_conG hU (P := Tryz.prog) Tryz.func41 (fun xs w => by kernel_rfl) _ _ [.o, .o, .o] [] (fun b => by kernel_rfl)
noncomputable def m_alu_operations_22 (y0 : BitVec 32) (y1 : BitVec 32) : BitVec 32 :=
  (y0.sshiftRight ((y1 % 32#32)).toNat)
theorem ok_alu_operations_22 (e : m_alu_operations_22 y0 y1 = r) : ConG Tryz.prog S 43 #[.int .u32 (nn y0), .int .u32 (nn y1)] (.int .u32 (nn r)) := by
  unfold m_alu_operations_22 at e
  subst e; exact fn_conG hU (P := Tryz.prog) Tryz.func43 (fun xs w => by kernel_rfl) _ _ [.o, .o, .v .i32 (i32_of_u32 y0), .o, .ov (u32_rem Tryz.prog 43 (.tmp 7) (.const (.int .u32 (32))) y1 (32#32) (by decide)), .ov (i32_shr Tryz.prog 21 (.tmp 6) (.tmp 8) y0 ((y1 % 32#32)).toNat .u32 (mod_small _ _ (by decide)) rfl), .v .u32 (u32_of_i32 (y0.sshiftRight ((y1 % 32#32)).toNat)), .o] [] (fun b => by kernel_rfl)
noncomputable def m_alu_Do (y0 : Int) (y1 : Bool) (y2 : BitVec 64) (y3 : BitVec 64) : Option ((BitVec 64) × (Bool)) :=
  bif decide (y0 < 0) then
    (some (0#64, false))
  else (bif decide (13 ≤ y0) then
    (some (0#64, false))
  else (bif y1 then
    (bif y0 == 0 then
      (bindT (m_alu_operations_1 y2 y3) fun r0 =>
      some (r0, true))
    else (bif y0 == 1 then
      (bindT (m_alu_operations_3 y2 y3) fun r0 =>
      some (r0, true))
    else (bif y0 == 2 then
      (bindT (m_alu_operations_5 y2 y3) fun r0 =>
      some (r0, true))
    else (bif y0 == 3 then
      (bindT (m_alu_div_uint64 y2 y3) fun r0 =>
      some (r0, true))
    else (bif y0 == 4 then
      (bindT (m_alu_operations_7 y2 y3) fun r0 =>
      some (r0, true))
    else (bif y0 == 5 then
      (bindT (m_alu_operations_9 y2 y3) fun r0 =>
      some (r0, true))
    else (bif y0 == 6 then
      (bindT (m_alu_operations_11 y2 y3) fun r0 =>
      some (r0, true))
    else (bif y0 == 7 then
      (bindT (m_alu_operations_13 y2 y3) fun r0 =>
      some (r0, true))
    else (bif y0 == 8 then
      (bindT (m_alu_operations_15 y2 y3) fun r0 =>
      some (r0, true))
    else (bif y0 == 9 then
      (bindT (m_alu_mod_uint64 y2 y3) fun r0 =>
      some (r0, true))
    else (bif y0 == 10 then
      (bindT (m_alu_operations_17 y2 y3) fun r0 =>
      some (r0, true))
    else (bif y0 == 11 then
      (bindT (m_alu_operations_19 y2 y3) fun r0 =>
      some (r0, true))
    else (bif y0 == 12 then
      (bindT (m_alu_operations_21 y2 y3) fun r0 =>
      some (r0, true))
    else (none))))))))))))))
  else (bif y0 == 0 then
    (bindT (m_alu_operations_2 (y2.setWidth 32) (y3.setWidth 32)) fun r0 =>
    some ((r0.setWidth 64), true))
  else (bif y0 == 1 then
    (bindT (m_alu_operations_4 (y2.setWidth 32) (y3.setWidth 32)) fun r0 =>
    some ((r0.setWidth 64), true))
  else (bif y0 == 2 then
    (bindT (m_alu_operations_6 (y2.setWidth 32) (y3.setWidth 32)) fun r0 =>
    some ((r0.setWidth 64), true))
  else (bif y0 == 3 then
    (bindT (m_alu_div_uint32 (y2.setWidth 32) (y3.setWidth 32)) fun r0 =>
    some ((r0.setWidth 64), true))
  else (bif y0 == 4 then
    (bindT (m_alu_operations_8 (y2.setWidth 32) (y3.setWidth 32)) fun r0 =>
    some ((r0.setWidth 64), true))
  else (bif y0 == 5 then
    (bindT (m_alu_operations_10 (y2.setWidth 32) (y3.setWidth 32)) fun r0 =>
    some ((r0.setWidth 64), true))
  else (bif y0 == 6 then
    (bindT (m_alu_operations_12 (y2.setWidth 32) (y3.setWidth 32)) fun r0 =>
    some ((r0.setWidth 64), true))
  else (bif y0 == 7 then
    (bindT (m_alu_operations_14 (y2.setWidth 32) (y3.setWidth 32)) fun r0 =>
    some ((r0.setWidth 64), true))
  else (bif y0 == 8 then
    (bindT (m_alu_operations_16 (y2.setWidth 32) (y3.setWidth 32)) fun r0 =>
    some ((r0.setWidth 64), true))
  else (bif y0 == 9 then
    (bindT (m_alu_mod_uint32 (y2.setWidth 32) (y3.setWidth 32)) fun r0 =>
    some ((r0.setWidth 64), true))
  else (bif y0 == 10 then
    (bindT (m_alu_operations_18 (y2.setWidth 32) (y3.setWidth 32)) fun r0 =>
    some ((r0.setWidth 64), true))
  else (bif y0 == 11 then
    (bindT (m_alu_operations_20 (y2.setWidth 32) (y3.setWidth 32)) fun r0 =>
    some ((r0.setWidth 64), true))
  else (bif y0 == 12 then
    (bindT (m_alu_operations_22 (y2.setWidth 32) (y3.setWidth 32)) fun r0 =>
    some ((r0.setWidth 64), true))
  else (none))))))))))))))))
end
section
variable {M : Nat → Prop} {B0 : Nat} {S : World → Prop} (hU : Up M B0 S)
include hU
theorem ok_alu_Do (y0 : Int) (y1 : Bool) (y2 : BitVec 64) (y3 : BitVec 64) (r : (BitVec 64) × (Bool)) (e : m_alu_Do y0 y1 y2 y3 = some r) : ConG Tryz.prog S 5 #[.int .i64 (y0), .bool (y1), .int .u64 (nn y2), .int .u64 (nn y3)] (vt2 r) := by
  unfold m_alu_Do at e
  replace e := cond_eq_or e
  let P1 : List (PG Tryz.prog M B0 S) := [.o, .o, .cg (ok_alu_operations hU  ), .o, .a 0, .o]
  rcases e with ⟨hq0, e⟩ | ⟨hq0, e⟩
  · injection e with e; subst e; exact fn_conG hU (P := Tryz.prog) Tryz.func5 (fun xs w => by kernel_rfl) _ _ (P1 ++ [.b (z_lssT hq0), .o, .o, .o, .o]) [] (fun b => by kernel_rfl)
  · replace e := cond_eq_or e
    let P2 : List (PG Tryz.prog M B0 S) := P1 ++ [.b (z_lssF hq0), .o, .o]
    rcases e with ⟨hq1, e⟩ | ⟨hq1, e⟩
    · injection e with e; subst e; exact fn_conG hU (P := Tryz.prog) Tryz.func5 (fun xs w => by kernel_rfl) _ _ (P2 ++ [.b (z_geqT hq1), .o, .o, .o]) [] (fun b => by kernel_rfl)
    · replace e := cond_eq_or e
      let P3 : List (PG Tryz.prog M B0 S) := P2 ++ [.b (z_geqF hq1), .o]
      rcases e with ⟨hq2, e⟩ | ⟨hq2, e⟩
      · replace e := cond_eq_or e
        let P4 : List (PG Tryz.prog M B0 S) := P3 ++ [.b hq2]
        rcases e with ⟨hq3, e⟩ | ⟨hq3, e⟩
        · replace e := bindT_eq e
          obtain ⟨r0, e_r0, e⟩ := e
          try dsimp only at e
          injection e with e; subst e; exact fn_conG hU (P := Tryz.prog) Tryz.func5 (fun xs w => by kernel_rfl) _ _ (P4 ++ [.v .i64 (eq_of_beq hq3), .o, .o, .a 0, .o, .o, .cg (ok_alu_operations_1 hU y2 y3 r0 e_r0), .o, .o]) [] (fun b => by kernel_rfl)
        · replace e := cond_eq_or e
          rcases e with ⟨hq4, e⟩ | ⟨hq4, e⟩
          · replace e := bindT_eq e
            obtain ⟨r0, e_r0, e⟩ := e
            try dsimp only at e
            injection e with e; subst e; exact fn_conG hU (P := Tryz.prog) Tryz.func5 (fun xs w => by kernel_rfl) _ _ (P4 ++ [.v .i64 (eq_of_beq hq4), .o, .o, .a 0, .o, .o, .cg (ok_alu_operations_3 hU y2 y3 r0 e_r0), .o, .o]) [] (fun b => by kernel_rfl)
          · replace e := cond_eq_or e
            rcases e with ⟨hq5, e⟩ | ⟨hq5, e⟩
            · replace e := bindT_eq e
              obtain ⟨r0, e_r0, e⟩ := e
              try dsimp only at e
              injection e with e; subst e; exact fn_conG hU (P := Tryz.prog) Tryz.func5 (fun xs w => by kernel_rfl) _ _ (P4 ++ [.v .i64 (eq_of_beq hq5), .o, .o, .a 0, .o, .o, .cg (ok_alu_operations_5 hU y2 y3 r0 e_r0), .o, .o]) [] (fun b => by kernel_rfl)
            · replace e := cond_eq_or e
              rcases e with ⟨hq6, e⟩ | ⟨hq6, e⟩
              · replace e := bindT_eq e
                obtain ⟨r0, e_r0, e⟩ := e
                try dsimp only at e
                injection e with e; subst e; exact fn_conG hU (P := Tryz.prog) Tryz.func5 (fun xs w => by kernel_rfl) _ _ (P4 ++ [.v .i64 (eq_of_beq hq6), .o, .o, .a 0, .o, .o, .cg (ok_alu_div_uint64 hU y2 y3 r0 e_r0), .o, .o]) [] (fun b => by kernel_rfl)
              · replace e := cond_eq_or e
                rcases e with ⟨hq7, e⟩ | ⟨hq7, e⟩
                · replace e := bindT_eq e
                  obtain ⟨r0, e_r0, e⟩ := e
                  try dsimp only at e
                  injection e with e; subst e; exact fn_conG hU (P := Tryz.prog) Tryz.func5 (fun xs w => by kernel_rfl) _ _ (P4 ++ [.v .i64 (eq_of_beq hq7), .o, .o, .a 0, .o, .o, .cg (ok_alu_operations_7 hU y2 y3 r0 e_r0), .o, .o]) [] (fun b => by kernel_rfl)
                · replace e := cond_eq_or e
                  rcases e with ⟨hq8, e⟩ | ⟨hq8, e⟩
                  · replace e := bindT_eq e
                    obtain ⟨r0, e_r0, e⟩ := e
                    try dsimp only at e
                    injection e with e; subst e; exact fn_conG hU (P := Tryz.prog) Tryz.func5 (fun xs w => by kernel_rfl) _ _ (P4 ++ [.v .i64 (eq_of_beq hq8), .o, .o, .a 0, .o, .o, .cg (ok_alu_operations_9 hU y2 y3 r0 e_r0), .o, .o]) [] (fun b => by kernel_rfl)
                  · replace e := cond_eq_or e
                    rcases e with ⟨hq9, e⟩ | ⟨hq9, e⟩
                    · replace e := bindT_eq e
                      obtain ⟨r0, e_r0, e⟩ := e
                      try dsimp only at e
                      injection e with e; subst e; exact fn_conG hU (P := Tryz.prog) Tryz.func5 (fun xs w => by kernel_rfl) _ _ (P4 ++ [.v .i64 (eq_of_beq hq9), .o, .o, .a 0, .o, .o, .cg (ok_alu_operations_11 hU y2 y3 r0 e_r0), .o, .o]) [] (fun b => by kernel_rfl)
                    · replace e := cond_eq_or e
                      rcases e with ⟨hq10, e⟩ | ⟨hq10, e⟩
                      · replace e := bindT_eq e
                        obtain ⟨r0, e_r0, e⟩ := e
                        try dsimp only at e
                        injection e with e; subst e; exact fn_conG hU (P := Tryz.prog) Tryz.func5 (fun xs w => by kernel_rfl) _ _ (P4 ++ [.v .i64 (eq_of_beq hq10), .o, .o, .a 0, .o, .o, .cg (ok_alu_operations_13 hU y2 y3 r0 e_r0), .o, .o]) [] (fun b => by kernel_rfl)
                      · replace e := cond_eq_or e
                        rcases e with ⟨hq11, e⟩ | ⟨hq11, e⟩
                        · replace e := bindT_eq e
                          obtain ⟨r0, e_r0, e⟩ := e
                          try dsimp only at e
                          injection e with e; subst e; exact fn_conG hU (P := Tryz.prog) Tryz.func5 (fun xs w => by kernel_rfl) _ _ (P4 ++ [.v .i64 (eq_of_beq hq11), .o, .o, .a 0, .o, .o, .cg (ok_alu_operations_15 hU y2 y3 r0 e_r0), .o, .o]) [] (fun b => by kernel_rfl)
                        · replace e := cond_eq_or e
                          rcases e with ⟨hq12, e⟩ | ⟨hq12, e⟩
                          · replace e := bindT_eq e
                            obtain ⟨r0, e_r0, e⟩ := e
                            try dsimp only at e
                            injection e with e; subst e; exact fn_conG hU (P := Tryz.prog) Tryz.func5 (fun xs w => by kernel_rfl) _ _ (P4 ++ [.v .i64 (eq_of_beq hq12), .o, .o, .a 0, .o, .o, .cg (ok_alu_mod_uint64 hU y2 y3 r0 e_r0), .o, .o]) [] (fun b => by kernel_rfl)
                          · replace e := cond_eq_or e
                            rcases e with ⟨hq13, e⟩ | ⟨hq13, e⟩
                            · replace e := bindT_eq e
                              obtain ⟨r0, e_r0, e⟩ := e
                              try dsimp only at e
                              injection e with e; subst e; exact fn_conG hU (P := Tryz.prog) Tryz.func5 (fun xs w => by kernel_rfl) _ _ (P4 ++ [.v .i64 (eq_of_beq hq13), .o, .o, .a 0, .o, .o, .cg (ok_alu_operations_17 hU y2 y3 r0 e_r0), .o, .o]) [] (fun b => by kernel_rfl)
                            · replace e := cond_eq_or e
                              rcases e with ⟨hq14, e⟩ | ⟨hq14, e⟩
                              · replace e := bindT_eq e
                                obtain ⟨r0, e_r0, e⟩ := e
                                try dsimp only at e
                                injection e with e; subst e; exact fn_conG hU (P := Tryz.prog) Tryz.func5 (fun xs w => by kernel_rfl) _ _ (P4 ++ [.v .i64 (eq_of_beq hq14), .o, .o, .a 0, .o, .o, .cg (ok_alu_operations_19 hU y2 y3 r0 e_r0), .o, .o]) [] (fun b => by kernel_rfl)
                              · replace e := cond_eq_or e
                                rcases e with ⟨hq15, e⟩ | ⟨hq15, e⟩
                                · replace e := bindT_eq e
                                  obtain ⟨r0, e_r0, e⟩ := e
                                  try dsimp only at e
                                  injection e with e; subst e; exact fn_conG hU (P := Tryz.prog) Tryz.func5 (fun xs w => by kernel_rfl) _ _ (P4 ++ [.v .i64 (eq_of_beq hq15), .o, .o, .a 0, .o, .o, .cg (ok_alu_operations_21 hU y2 y3 r0 e_r0), .o, .o]) [] (fun b => by kernel_rfl)
                                · exact none_some e
      · replace e := cond_eq_or e
        let P5 : List (PG Tryz.prog M B0 S) := P3 ++ [.b hq2]
        rcases e with ⟨hq3, e⟩ | ⟨hq3, e⟩
        · replace e := bindT_eq e
          obtain ⟨r0, e_r0, e⟩ := e
          try dsimp only at e
          injection e with e; subst e; exact fn_conG hU (P := Tryz.prog) Tryz.func5 (fun xs w => by kernel_rfl) _ _ (P5 ++ [.v .i64 (eq_of_beq hq3), .o, .o, .a 0, .o, .v .u32 (u32_of_u64 y2), .o, .v .u32 (u32_of_u64 y3), .cg (ok_alu_operations_2 hU (y2.setWidth 32) (y3.setWidth 32) r0 e_r0), .v .u64 (u64_of_u32 r0), .o, .o]) [] (fun b => by kernel_rfl)
        · replace e := cond_eq_or e
          rcases e with ⟨hq4, e⟩ | ⟨hq4, e⟩
          · replace e := bindT_eq e
            obtain ⟨r0, e_r0, e⟩ := e
            try dsimp only at e
            injection e with e; subst e; exact fn_conG hU (P := Tryz.prog) Tryz.func5 (fun xs w => by kernel_rfl) _ _ (P5 ++ [.v .i64 (eq_of_beq hq4), .o, .o, .a 0, .o, .v .u32 (u32_of_u64 y2), .o, .v .u32 (u32_of_u64 y3), .cg (ok_alu_operations_4 hU (y2.setWidth 32) (y3.setWidth 32) r0 e_r0), .v .u64 (u64_of_u32 r0), .o, .o]) [] (fun b => by kernel_rfl)
          · replace e := cond_eq_or e
            rcases e with ⟨hq5, e⟩ | ⟨hq5, e⟩
            · replace e := bindT_eq e
              obtain ⟨r0, e_r0, e⟩ := e
              try dsimp only at e
              injection e with e; subst e; exact fn_conG hU (P := Tryz.prog) Tryz.func5 (fun xs w => by kernel_rfl) _ _ (P5 ++ [.v .i64 (eq_of_beq hq5), .o, .o, .a 0, .o, .v .u32 (u32_of_u64 y2), .o, .v .u32 (u32_of_u64 y3), .cg (ok_alu_operations_6 hU (y2.setWidth 32) (y3.setWidth 32) r0 e_r0), .v .u64 (u64_of_u32 r0), .o, .o]) [] (fun b => by kernel_rfl)
            · replace e := cond_eq_or e
              rcases e with ⟨hq6, e⟩ | ⟨hq6, e⟩
              · replace e := bindT_eq e
                obtain ⟨r0, e_r0, e⟩ := e
                try dsimp only at e
                injection e with e; subst e; exact fn_conG hU (P := Tryz.prog) Tryz.func5 (fun xs w => by kernel_rfl) _ _ (P5 ++ [.v .i64 (eq_of_beq hq6), .o, .o, .a 0, .o, .v .u32 (u32_of_u64 y2), .o, .v .u32 (u32_of_u64 y3), .cg (ok_alu_div_uint32 hU (y2.setWidth 32) (y3.setWidth 32) r0 e_r0), .v .u64 (u64_of_u32 r0), .o, .o]) [] (fun b => by kernel_rfl)
              · replace e := cond_eq_or e
                rcases e with ⟨hq7, e⟩ | ⟨hq7, e⟩
                · replace e := bindT_eq e
                  obtain ⟨r0, e_r0, e⟩ := e
                  try dsimp only at e
                  injection e with e; subst e; exact fn_conG hU (P := Tryz.prog) Tryz.func5 (fun xs w => by kernel_rfl) _ _ (P5 ++ [.v .i64 (eq_of_beq hq7), .o, .o, .a 0, .o, .v .u32 (u32_of_u64 y2), .o, .v .u32 (u32_of_u64 y3), .cg (ok_alu_operations_8 hU (y2.setWidth 32) (y3.setWidth 32) r0 e_r0), .v .u64 (u64_of_u32 r0), .o, .o]) [] (fun b => by kernel_rfl)
                · replace e := cond_eq_or e
                  rcases e with ⟨hq8, e⟩ | ⟨hq8, e⟩
                  · replace e := bindT_eq e
                    obtain ⟨r0, e_r0, e⟩ := e
                    try dsimp only at e
                    injection e with e; subst e; exact fn_conG hU (P := Tryz.prog) Tryz.func5 (fun xs w => by kernel_rfl) _ _ (P5 ++ [.v .i64 (eq_of_beq hq8), .o, .o, .a 0, .o, .v .u32 (u32_of_u64 y2), .o, .v .u32 (u32_of_u64 y3), .cg (ok_alu_operations_10 hU (y2.setWidth 32) (y3.setWidth 32) r0 e_r0), .v .u64 (u64_of_u32 r0), .o, .o]) [] (fun b => by kernel_rfl)
                  · replace e := cond_eq_or e
                    rcases e with ⟨hq9, e⟩ | ⟨hq9, e⟩
                    · replace e := bindT_eq e
                      obtain ⟨r0, e_r0, e⟩ := e
                      try dsimp only at e
                      injection e with e; subst e; exact fn_conG hU (P := Tryz.prog) Tryz.func5 (fun xs w => by kernel_rfl) _ _ (P5 ++ [.v .i64 (eq_of_beq hq9), .o, .o, .a 0, .o, .v .u32 (u32_of_u64 y2), .o, .v .u32 (u32_of_u64 y3), .cg (ok_alu_operations_12 hU (y2.setWidth 32) (y3.setWidth 32) r0 e_r0), .v .u64 (u64_of_u32 r0), .o, .o]) [] (fun b => by kernel_rfl)
                    · replace e := cond_eq_or e
                      rcases e with ⟨hq10, e⟩ | ⟨hq10, e⟩
                      · replace e := bindT_eq e
                        obtain ⟨r0, e_r0, e⟩ := e
                        try dsimp only at e
                        injection e with e; subst e; exact fn_conG hU (P := Tryz.prog) Tryz.func5 (fun xs w => by kernel_rfl) _ _ (P5 ++ [.v .i64 (eq_of_beq hq10), .o, .o, .a 0, .o, .v .u32 (u32_of_u64 y2), .o, .v .u32 (u32_of_u64 y3), .cg (ok_alu_operations_14 hU (y2.setWidth 32) (y3.setWidth 32) r0 e_r0), .v .u64 (u64_of_u32 r0), .o, .o]) [] (fun b => by kernel_rfl)
                      · replace e := cond_eq_or e
                        rcases e with ⟨hq11, e⟩ | ⟨hq11, e⟩
                        · replace e := bindT_eq e
                          obtain ⟨r0, e_r0, e⟩ := e
                          try dsimp only at e
                          injection e with e; subst e; exact fn_conG hU (P := Tryz.prog) Tryz.func5 (fun xs w => by kernel_rfl) _ _ (P5 ++ [.v .i64 (eq_of_beq hq11), .o, .o, .a 0, .o, .v .u32 (u32_of_u64 y2), .o, .v .u32 (u32_of_u64 y3), .cg (ok_alu_operations_16 hU (y2.setWidth 32) (y3.setWidth 32) r0 e_r0), .v .u64 (u64_of_u32 r0), .o, .o]) [] (fun b => by kernel_rfl)
                        · replace e := cond_eq_or e
                          rcases e with ⟨hq12, e⟩ | ⟨hq12, e⟩
                          · replace e := bindT_eq e
                            obtain ⟨r0, e_r0, e⟩ := e
                            try dsimp only at e
                            injection e with e; subst e; exact fn_conG hU (P := Tryz.prog) Tryz.func5 (fun xs w => by kernel_rfl) _ _ (P5 ++ [.v .i64 (eq_of_beq hq12), .o, .o, .a 0, .o, .v .u32 (u32_of_u64 y2), .o, .v .u32 (u32_of_u64 y3), .cg (ok_alu_mod_uint32 hU (y2.setWidth 32) (y3.setWidth 32) r0 e_r0), .v .u64 (u64_of_u32 r0), .o, .o]) [] (fun b => by kernel_rfl)
                          · replace e := cond_eq_or e
                            rcases e with ⟨hq13, e⟩ | ⟨hq13, e⟩
                            · replace e := bindT_eq e
                              obtain ⟨r0, e_r0, e⟩ := e
                              try dsimp only at e
                              injection e with e; subst e; exact fn_conG hU (P := Tryz.prog) Tryz.func5 (fun xs w => by kernel_rfl) _ _ (P5 ++ [.v .i64 (eq_of_beq hq13), .o, .o, .a 0, .o, .v .u32 (u32_of_u64 y2), .o, .v .u32 (u32_of_u64 y3), .cg (ok_alu_operations_18 hU (y2.setWidth 32) (y3.setWidth 32) r0 e_r0), .v .u64 (u64_of_u32 r0), .o, .o]) [] (fun b => by kernel_rfl)
                            · replace e := cond_eq_or e
                              rcases e with ⟨hq14, e⟩ | ⟨hq14, e⟩
                              · replace e := bindT_eq e
                                obtain ⟨r0, e_r0, e⟩ := e
                                try dsimp only at e
                                injection e with e; subst e; exact fn_conG hU (P := Tryz.prog) Tryz.func5 (fun xs w => by kernel_rfl) _ _ (P5 ++ [.v .i64 (eq_of_beq hq14), .o, .o, .a 0, .o, .v .u32 (u32_of_u64 y2), .o, .v .u32 (u32_of_u64 y3), .cg (ok_alu_operations_20 hU (y2.setWidth 32) (y3.setWidth 32) r0 e_r0), .v .u64 (u64_of_u32 r0), .o, .o]) [] (fun b => by kernel_rfl)
                              · replace e := cond_eq_or e
                                rcases e with ⟨hq15, e⟩ | ⟨hq15, e⟩
                                · replace e := bindT_eq e
                                  obtain ⟨r0, e_r0, e⟩ := e
                                  try dsimp only at e
                                  injection e with e; subst e; exact fn_conG hU (P := Tryz.prog) Tryz.func5 (fun xs w => by kernel_rfl) _ _ (P5 ++ [.v .i64 (eq_of_beq hq15), .o, .o, .a 0, .o, .v .u32 (u32_of_u64 y2), .o, .v .u32 (u32_of_u64 y3), .cg (ok_alu_operations_22 hU (y2.setWidth 32) (y3.setWidth 32) r0 e_r0), .v .u64 (u64_of_u32 r0), .o, .o]) [] (fun b => by kernel_rfl)
                                · exact none_some e
end

end Go.Proofs.YtcdkghdjfcccfaaGreat


