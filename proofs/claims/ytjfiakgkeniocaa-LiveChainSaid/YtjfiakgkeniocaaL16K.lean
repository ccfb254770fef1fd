/-
  Live registers: the test that all laws begin with.
-/
import Derived.Test.YtjfiakgkeniocaaS1B
namespace Go.Proofs.Ytjfiakgkeniocaa
open Go.RowKit
set_option linter.unusedVariables false
set_option linter.unusedSimpArgs false
set_option linter.unusedSectionVars false
set_option maxRecDepth 100000
set_option maxHeartbeats 4000000
noncomputable def zr36 : Value := (Try.prog.info? 3).bind TypeInfo.zero |>.getD undef
theorem rt36 : RowT Try.prog 36 3 ((Try.prog.info? 3).getD default) zr36 1 8 := ⟨by kernel_rfl, by kernel_rfl, by kernel_rfl, by kernel_rfl, by kernel_rfl, by kernel_rfl, by decide⟩
noncomputable def zr27 : Value := (Try.prog.info? 31).bind TypeInfo.zero |>.getD undef
theorem rt27 : RowT Try.prog 27 31 ((Try.prog.info? 31).getD default) zr27 1 2 := ⟨by kernel_rfl, by kernel_rfl, by kernel_rfl, by kernel_rfl, by kernel_rfl, by kernel_rfl, by decide⟩
noncomputable def zr55 : Value := (Try.prog.info? 36).bind TypeInfo.zero |>.getD undef
theorem rt55 : RowT Try.prog 55 36 ((Try.prog.info? 36).getD default) zr55 1 24 := ⟨by kernel_rfl, by kernel_rfl, by kernel_rfl, by kernel_rfl, by kernel_rfl, by kernel_rfl, by decide⟩
section
variable {M : Nat → Prop} {B0 : Nat} {S : World → Prop} (hU : Up M B0 S)
include hU
theorem ok_insn_plainOperand_v1 : ConG Try.prog S 103 #[.agg #[.int .u8 (183), .int .u8 (1), .int .u8 (0), .int .i16 (0), .int .i32 (1)]] (.bool true) :=
  fn_conG hU (P := Try.prog) Try.func103 (fun xs w => by kernel_rfl) [.agg #[.int .u8 (183), .int .u8 (1), .int .u8 (0), .int .i16 (0), .int .i32 (1)]] (.bool true)
    [.o, .o, .o, .a 0, .o, .o, .o, .a 0, .o, .o]
    [] (fun b => by kernel_rfl)
theorem ok_insn_knownAlu_v1 : ConG Try.prog S 101 #[.agg #[.int .u8 (183), .int .u8 (1), .int .u8 (0), .int .i16 (0), .int .i32 (1)]] (.bool true) :=
  fn_conG hU (P := Try.prog) Try.func101 (fun xs w => by kernel_rfl) [.agg #[.int .u8 (183), .int .u8 (1), .int .u8 (0), .int .i16 (0), .int .i32 (1)]] (.bool true)
    [.o, .o, .o, .a 0, .o, .o, .o, .o, .a 0, .o, .o, .o, .o, .o, .o, .o, .o, .o, .o, .o, .o, .o, .o, .o, .o, .o, .o, .o, .o, .o, .o, .o, .o, .o, .o, .o, .o, .a 0, .o, .o, .a 0, .cg (ok_insn_plainOperand_v1 hU  ), .o, .o]
    [] (fun b => by kernel_rfl)
theorem ok_insn_known_v1 : ConG Try.prog S 83 #[.agg #[.int .u8 (183), .int .u8 (1), .int .u8 (0), .int .i16 (0), .int .i32 (1)]] (.bool true) :=
  fn_conG hU (P := Try.prog) Try.func83 (fun xs w => by kernel_rfl) [.agg #[.int .u8 (183), .int .u8 (1), .int .u8 (0), .int .i16 (0), .int .i32 (1)]] (.bool true)
    [.o, .o, .o, .a 0, .o, .o, .o, .o, .o, .o, .o, .o, .o, .o, .o, .o, .o, .o, .o, .o, .o, .o, .o, .o, .o, .o, .o, .o, .o, .o, .o, .o, .o, .o, .o, .o, .o, .a 0, .o, .o, .o, .o, .o, .a 0, .cg (ok_insn_knownAlu_v1 hU  ), .o]
    [] (fun b => by kernel_rfl)
theorem ok_insn_names_v1 : ConG Try.prog S 86 #[.agg #[.int .u8 (183), .int .u8 (1), .int .u8 (0), .int .i16 (0), .int .i32 (1)]] (.bool false) :=
  fn_conG hU (P := Try.prog) Try.func86 (fun xs w => by kernel_rfl) [.agg #[.int .u8 (183), .int .u8 (1), .int .u8 (0), .int .i16 (0), .int .i32 (1)]] (.bool false)
    [.o, .o, .o, .a 0, .o, .o, .o, .o, .o]
    [] (fun b => by kernel_rfl)
def sq0_insn_checkSlot_v1   : Spc := ⟨fun ls => .call 57 #[.slice (some ⟨(lget ls 0).n, 0, none⟩) 3 3, .int .i64 (0)], fun ls => [.cells #[.int .u8 (183), .int .u8 (1), .int .u8 (0), .int .i16 (0), .int .i32 (1), .int .u8 (183), .int .u8 (0), .int .u8 (0), .int .i16 (0), .int .i32 (2), .int .u8 (149), .int .u8 (0), .int .u8 (0), .int .i16 (0), .int .i32 (0)] 26], 0, .normal, fun ls => [.int .i64 (0)], fun ls => [.cells #[.int .u8 (183), .int .u8 (1), .int .u8 (0), .int .i16 (0), .int .i32 (1), .int .u8 (183), .int .u8 (0), .int .u8 (0), .int .i16 (0), .int .i32 (2), .int .u8 (149), .int .u8 (0), .int .u8 (0), .int .i16 (0), .int .i32 (0)] 26], fun ls => []⟩
theorem p0_insn_checkSlot_v1 : SpcG Try.prog M B0 S (sq0_insn_checkSlot_v1  ) :=
  fn_specG hU (P := Try.prog) Try.func57 (fun xs w => by kernel_rfl) 1 _ _ (fun _ => rfl) _ _ _ []
    [.o, .o, .o, .o, .a 0, .o, .a 1, .a 1, .cg (ok_insn_known_v1 hU  ), .o, .o, .o, .a 1, .o, .o, .o, .a 1, .o, .o, .o, .o, .a 1, .o, .o, .o, .o, .o, .o, .a 1, .o, .o, .o, .o, .o, .a 1, .o, .o, .o, .o, .o, .o, .a 1, .cg (ok_insn_names_v1 hU  ), .o, .o, .o, .o]
    [] (fun b => by kernel_rfl)
theorem ok_op_Width_v1 : ConG Try.prog S 56 #[.agg #[.int .u8 (183), .int .u8 (1), .int .u8 (0), .int .i16 (0), .int .i32 (1)]] (.int .i64 (1)) :=
  fn_conG hU (P := Try.prog) Try.func56 (fun xs w => by kernel_rfl) [.agg #[.int .u8 (183), .int .u8 (1), .int .u8 (0), .int .i16 (0), .int .i32 (1)]] (.int .i64 (1))
    [.o, .o, .o, .a 0, .o, .o]
    [] (fun b => by kernel_rfl)
theorem ok_insn_plainOperand_v2 : ConG Try.prog S 103 #[.agg #[.int .u8 (183), .int .u8 (0), .int .u8 (0), .int .i16 (0), .int .i32 (2)]] (.bool true) :=
  fn_conG hU (P := Try.prog) Try.func103 (fun xs w => by kernel_rfl) [.agg #[.int .u8 (183), .int .u8 (0), .int .u8 (0), .int .i16 (0), .int .i32 (2)]] (.bool true)
    [.o, .o, .o, .a 0, .o, .o, .o, .a 0, .o, .o]
    [] (fun b => by kernel_rfl)
theorem ok_insn_knownAlu_v2 : ConG Try.prog S 101 #[.agg #[.int .u8 (183), .int .u8 (0), .int .u8 (0), .int .i16 (0), .int .i32 (2)]] (.bool true) :=
  fn_conG hU (P := Try.prog) Try.func101 (fun xs w => by kernel_rfl) [.agg #[.int .u8 (183), .int .u8 (0), .int .u8 (0), .int .i16 (0), .int .i32 (2)]] (.bool true)
    [.o, .o, .o, .a 0, .o, .o, .o, .o, .a 0, .o, .o, .o, .o, .o, .o, .o, .o, .o, .o, .o, .o, .o, .o, .o, .o, .o, .o, .o, .o, .o, .o, .o, .o, .o, .o, .o, .o, .a 0, .o, .o, .a 0, .cg (ok_insn_plainOperand_v2 hU  ), .o, .o]
    [] (fun b => by kernel_rfl)
theorem ok_insn_known_v2 : ConG Try.prog S 83 #[.agg #[.int .u8 (183), .int .u8 (0), .int .u8 (0), .int .i16 (0), .int .i32 (2)]] (.bool true) :=
  fn_conG hU (P := Try.prog) Try.func83 (fun xs w => by kernel_rfl) [.agg #[.int .u8 (183), .int .u8 (0), .int .u8 (0), .int .i16 (0), .int .i32 (2)]] (.bool true)
    [.o, .o, .o, .a 0, .o, .o, .o, .o, .o, .o, .o, .o, .o, .o, .o, .o, .o, .o, .o, .o, .o, .o, .o, .o, .o, .o, .o, .o, .o, .o, .o, .o, .o, .o, .o, .o, .o, .a 0, .o, .o, .o, .o, .o, .a 0, .cg (ok_insn_knownAlu_v2 hU  ), .o]
    [] (fun b => by kernel_rfl)
theorem ok_insn_names_v2 : ConG Try.prog S 86 #[.agg #[.int .u8 (183), .int .u8 (0), .int .u8 (0), .int .i16 (0), .int .i32 (2)]] (.bool false) :=
  fn_conG hU (P := Try.prog) Try.func86 (fun xs w => by kernel_rfl) [.agg #[.int .u8 (183), .int .u8 (0), .int .u8 (0), .int .i16 (0), .int .i32 (2)]] (.bool false)
    [.o, .o, .o, .a 0, .o, .o, .o, .o, .o]
    [] (fun b => by kernel_rfl)
def sq0_insn_checkSlot_v2   : Spc := ⟨fun ls => .call 57 #[.slice (some ⟨(lget ls 0).n, 0, none⟩) 3 3, .int .i64 (1)], fun ls => [.cells #[.int .u8 (183), .int .u8 (1), .int .u8 (0), .int .i16 (0), .int .i32 (1), .int .u8 (183), .int .u8 (0), .int .u8 (0), .int .i16 (0), .int .i32 (2), .int .u8 (149), .int .u8 (0), .int .u8 (0), .int .i16 (0), .int .i32 (0)] 26], 0, .normal, fun ls => [.int .i64 (0)], fun ls => [.cells #[.int .u8 (183), .int .u8 (1), .int .u8 (0), .int .i16 (0), .int .i32 (1), .int .u8 (183), .int .u8 (0), .int .u8 (0), .int .i16 (0), .int .i32 (2), .int .u8 (149), .int .u8 (0), .int .u8 (0), .int .i16 (0), .int .i32 (0)] 26], fun ls => []⟩
theorem p0_insn_checkSlot_v2 : SpcG Try.prog M B0 S (sq0_insn_checkSlot_v2  ) :=
  fn_specG hU (P := Try.prog) Try.func57 (fun xs w => by kernel_rfl) 1 _ _ (fun _ => rfl) _ _ _ []
    [.o, .o, .o, .o, .a 0, .o, .a 1, .a 1, .cg (ok_insn_known_v2 hU  ), .o, .o, .o, .a 1, .o, .o, .o, .a 1, .o, .o, .o, .o, .a 1, .o, .o, .o, .o, .o, .o, .a 1, .o, .o, .o, .o, .o, .a 1, .o, .o, .o, .o, .o, .o, .a 1, .cg (ok_insn_names_v2 hU  ), .o, .o, .o, .o]
    [] (fun b => by kernel_rfl)
theorem ok_op_Width_v2 : ConG Try.prog S 56 #[.agg #[.int .u8 (183), .int .u8 (0), .int .u8 (0), .int .i16 (0), .int .i32 (2)]] (.int .i64 (1)) :=
  fn_conG hU (P := Try.prog) Try.func56 (fun xs w => by kernel_rfl) [.agg #[.int .u8 (183), .int .u8 (0), .int .u8 (0), .int .i16 (0), .int .i32 (2)]] (.int .i64 (1))
    [.o, .o, .o, .a 0, .o, .o]
    [] (fun b => by kernel_rfl)
theorem ok_insn_known_v3 : ConG Try.prog S 83 #[.agg #[.int .u8 (149), .int .u8 (0), .int .u8 (0), .int .i16 (0), .int .i32 (0)]] (.bool true) :=
  fn_conG hU (P := Try.prog) Try.func83 (fun xs w => by kernel_rfl) [.agg #[.int .u8 (149), .int .u8 (0), .int .u8 (0), .int .i16 (0), .int .i32 (0)]] (.bool true)
    [.o, .o, .o, .a 0, .o, .o, .o, .o, .o, .o, .o, .o, .o, .o, .o, .o, .o, .o, .o, .o, .o, .o, .o, .o, .o, .o, .o, .o, .o, .o, .o, .o, .o, .o, .o, .o, .a 0, .o, .o, .o]
    [] (fun b => by kernel_rfl)
theorem ok_insn_names_v3 : ConG Try.prog S 86 #[.agg #[.int .u8 (149), .int .u8 (0), .int .u8 (0), .int .i16 (0), .int .i32 (0)]] (.bool false) :=
  fn_conG hU (P := Try.prog) Try.func86 (fun xs w => by kernel_rfl) [.agg #[.int .u8 (149), .int .u8 (0), .int .u8 (0), .int .i16 (0), .int .i32 (0)]] (.bool false)
    [.o, .o, .o, .a 0, .o, .o, .o, .o, .o]
    [] (fun b => by kernel_rfl)
def sq0_insn_checkSlot_v3   : Spc := ⟨fun ls => .call 57 #[.slice (some ⟨(lget ls 0).n, 0, none⟩) 3 3, .int .i64 (2)], fun ls => [.cells #[.int .u8 (183), .int .u8 (1), .int .u8 (0), .int .i16 (0), .int .i32 (1), .int .u8 (183), .int .u8 (0), .int .u8 (0), .int .i16 (0), .int .i32 (2), .int .u8 (149), .int .u8 (0), .int .u8 (0), .int .i16 (0), .int .i32 (0)] 26], 0, .normal, fun ls => [.int .i64 (0)], fun ls => [.cells #[.int .u8 (183), .int .u8 (1), .int .u8 (0), .int .i16 (0), .int .i32 (1), .int .u8 (183), .int .u8 (0), .int .u8 (0), .int .i16 (0), .int .i32 (2), .int .u8 (149), .int .u8 (0), .int .u8 (0), .int .i16 (0), .int .i32 (0)] 26], fun ls => []⟩
theorem p0_insn_checkSlot_v3 : SpcG Try.prog M B0 S (sq0_insn_checkSlot_v3  ) :=
  fn_specG hU (P := Try.prog) Try.func57 (fun xs w => by kernel_rfl) 1 _ _ (fun _ => rfl) _ _ _ []
    [.o, .o, .o, .o, .a 0, .o, .a 1, .a 1, .cg (ok_insn_known_v3 hU  ), .o, .o, .o, .a 1, .o, .o, .o, .a 1, .o, .o, .o, .o, .a 1, .o, .o, .o, .o, .o, .o, .a 1, .o, .o, .o, .o, .o, .a 1, .o, .o, .o, .o, .o, .o, .a 1, .cg (ok_insn_names_v3 hU  ), .o, .o, .o, .o]
    [] (fun b => by kernel_rfl)
theorem ok_op_Width_v3 : ConG Try.prog S 56 #[.agg #[.int .u8 (149), .int .u8 (0), .int .u8 (0), .int .i16 (0), .int .i32 (0)]] (.int .i64 (1)) :=
  fn_conG hU (P := Try.prog) Try.func56 (fun xs w => by kernel_rfl) [.agg #[.int .u8 (149), .int .u8 (0), .int .u8 (0), .int .i16 (0), .int .i32 (0)]] (.int .i64 (1))
    [.o, .o, .o, .a 0, .o, .o]
    [] (fun b => by kernel_rfl)
def sq0_insn_split_v1   : Spc := ⟨fun ls => .call 58 #[.slice (some ⟨(lget ls 0).n, 0, none⟩) 3 3], fun ls => [.cells #[.int .u8 (183), .int .u8 (1), .int .u8 (0), .int .i16 (0), .int .i32 (1), .int .u8 (183), .int .u8 (0), .int .u8 (0), .int .i16 (0), .int .i32 (2), .int .u8 (149), .int .u8 (0), .int .u8 (0), .int .i16 (0), .int .i32 (0)] 26], 1, .normal, fun ls => [(rowV (lget ls 1) 1 2)], fun ls => [.cells #[.int .u8 (183), .int .u8 (1), .int .u8 (0), .int .i16 (0), .int .i32 (1), .int .u8 (183), .int .u8 (0), .int .u8 (0), .int .i16 (0), .int .i32 (2), .int .u8 (149), .int .u8 (0), .int .u8 (0), .int .i16 (0), .int .i32 (0)] 26], fun ls => [rowO (lget ls 1) [.int .i64 (0), .int .i64 (3)] 83 1 2]⟩
theorem p0_insn_split_v1 : SpcG Try.prog M B0 S (sq0_insn_split_v1  ) :=
  fn_specG hU (P := Try.prog) Try.func58 (fun xs w => by kernel_rfl) 1 _ _ (fun _ => rfl) _ _ _ [3]
    [.o, .o, .q (ixA_ok (kd := .i64) (T := 140) (x := 0) (sz := 1) (N := 4096) rfl rfl (fun w => by kernel_rfl) (show inR 0 4096 = true from by decide)), .x (sqStF_ok (T := 4) (e := 140) (f := cB) (A := (fun _ => false)) (v := true) 0 (.bool true) cB_len cB_one rfl rfl (fun w => by kernel_rfl) (inR_nat (show inR 0 4096 = true from by decide))) [1], .o, .o, .o, .o, .o, .o, .o, .o, .a 0, .cg (ok_insn_names_v1 hU  ), .o, .o, .o, .o, .a 0, .cg (ok_op_Width_v1 hU  ), .o, .o, .o, .o, .o, .o, .o, .o, .o, .a 0, .cg (ok_insn_names_v2 hU  ), .o, .o, .o, .o, .a 0, .cg (ok_op_Width_v2 hU  ), .o, .o, .o, .o, .o, .o, .o, .o, .o, .a 0, .cg (ok_insn_names_v3 hU  ), .o, .o, .o, .o, .a 0, .cg (ok_op_Width_v3 hU  ), .o, .o, .o, .o, .o, .o, .o, .o, .o, .o, .o, .o, .o, .o, .q (ixA_ok (kd := .i64) (T := 140) (x := 0) (sz := 1) (N := 4096) rfl rfl (fun w => by kernel_rfl) (show inR 0 4096 = true from by decide)), .l (accF (i := 1) (f := cB) (A := updF (fun _ => false) 0 true) (k := 0) 0 [.bool true] cB_len (inR_nat (show inR 0 4096 = true from by decide)) rfl), .o, .o, .o, .o, .x (sqAppL1_ok (ty := 79) rt79 #[false, false] (f := c_Part) (c := 1) (⟨0, 0⟩ : Part) (T' := 83) c_Part_len c_Part_one (by decide)) [2], .o, .o, .o, .o, .o, .o, .o, .o, .o, .a 3, .o, .o, .o, .o, .o, .o, .q (ixA_ok (kd := .i64) (T := 140) (x := 1) (sz := 1) (N := 4096) rfl rfl (fun w => by kernel_rfl) (show inR 1 4096 = true from by decide)), .l (accF (i := 1) (f := cB) (A := updF (fun _ => false) 0 true) (k := 1) 0 [.bool false] cB_len (inR_nat (show inR 1 4096 = true from by decide)) rfl), .o, .o, .o, .o, .o, .o, .o, .o, .a 3, .o, .o, .o, .o, .o, .o, .q (ixA_ok (kd := .i64) (T := 140) (x := 2) (sz := 1) (N := 4096) rfl rfl (fun w => by kernel_rfl) (show inR 2 4096 = true from by decide)), .l (accF (i := 1) (f := cB) (A := updF (fun _ => false) 0 true) (k := 2) 0 [.bool false] cB_len (inR_nat (show inR 2 4096 = true from by decide)) rfl), .o, .o, .o, .o, .o, .o, .o, .o, .a 3, .o, .o, .o, .o, .o]
    [] (fun b => by kernel_rfl)
def sq0_op_IsSecond_v1   : Spc := ⟨fun ls => .call 61 #[.slice (some ⟨(lget ls 0).n, 0, none⟩) 3 3, .int .i64 (2)], fun ls => [.cells #[.int .u8 (183), .int .u8 (1), .int .u8 (0), .int .i16 (0), .int .i32 (1), .int .u8 (183), .int .u8 (0), .int .u8 (0), .int .i16 (0), .int .i32 (2), .int .u8 (149), .int .u8 (0), .int .u8 (0), .int .i16 (0), .int .i32 (0)] 26], 0, .normal, fun ls => [.bool false], fun ls => [.cells #[.int .u8 (183), .int .u8 (1), .int .u8 (0), .int .i16 (0), .int .i32 (1), .int .u8 (183), .int .u8 (0), .int .u8 (0), .int .i16 (0), .int .i32 (2), .int .u8 (149), .int .u8 (0), .int .u8 (0), .int .i16 (0), .int .i32 (0)] 26], fun ls => []⟩
theorem p0_op_IsSecond_v1 : SpcG Try.prog M B0 S (sq0_op_IsSecond_v1  ) :=
  fn_specG hU (P := Try.prog) Try.func61 (fun xs w => by kernel_rfl) 1 _ _ (fun _ => rfl) _ _ _ []
    [.o, .o, .o, .o, .o, .o, .o, .o, .o, .o, .o, .a 0, .o, .o, .o, .o, .o, .o, .o, .o]
    [] (fun b => by kernel_rfl)
def sq0_insn_ends_v1   : Spc := ⟨fun ls => .call 59 #[.slice (some ⟨(lget ls 0).n, 0, none⟩) 3 3, .agg #[.int .i64 (0), .int .i64 (3)]], fun ls => [.cells #[.int .u8 (183), .int .u8 (1), .int .u8 (0), .int .i16 (0), .int .i32 (1), .int .u8 (183), .int .u8 (0), .int .u8 (0), .int .i16 (0), .int .i32 (2), .int .u8 (149), .int .u8 (0), .int .u8 (0), .int .i16 (0), .int .i32 (0)] 26], 0, .normal, fun ls => [.tuple #[.int .i64 (2), .bool true]], fun ls => [.cells #[.int .u8 (183), .int .u8 (1), .int .u8 (0), .int .i16 (0), .int .i32 (1), .int .u8 (183), .int .u8 (0), .int .u8 (0), .int .i16 (0), .int .i32 (2), .int .u8 (149), .int .u8 (0), .int .u8 (0), .int .i16 (0), .int .i32 (0)] 26], fun ls => []⟩
theorem p0_insn_ends_v1 : SpcG Try.prog M B0 S (sq0_insn_ends_v1  ) :=
  fn_specG hU (P := Try.prog) Try.func59 (fun xs w => by kernel_rfl) 1 _ _ (fun _ => rfl) _ _ _ []
    [.o, .o, .o, .o, .a 1, .o, .o, .o, .o, .xg (p0_op_IsSecond_v1 hU  ) [0], .r [0, 1, 2, 3, 4, 5, 6, 7, 8, 9, 10, 11, 12, 13, 14, 15, 16] [] [], .o, .o, .o, .o, .o, .a 0, .o, .o, .o, .o, .o]
    [] (fun b => by kernel_rfl)
def sq0_insn_Subs_v1   : Spc := ⟨fun ls => .call 33 #[.slice (some ⟨(lget ls 0).n, 0, none⟩) 3 3], fun ls => [.cells #[.int .u8 (183), .int .u8 (1), .int .u8 (0), .int .i16 (0), .int .i32 (1), .int .u8 (183), .int .u8 (0), .int .u8 (0), .int .i16 (0), .int .i32 (2), .int .u8 (149), .int .u8 (0), .int .u8 (0), .int .i16 (0), .int .i32 (0)] 26], 1, .normal, fun ls => [.tuple #[(rowV (lget ls 1) 1 2), .int .i64 (0), .int .i64 (0)]], fun ls => [.cells #[.int .u8 (183), .int .u8 (1), .int .u8 (0), .int .i16 (0), .int .i32 (1), .int .u8 (183), .int .u8 (0), .int .u8 (0), .int .i16 (0), .int .i32 (2), .int .u8 (149), .int .u8 (0), .int .u8 (0), .int .i16 (0), .int .i32 (0)] 26], fun ls => [rowO (lget ls 1) [.int .i64 (0), .int .i64 (3)] 83 1 2]⟩
theorem p0_insn_Subs_v1 : SpcG Try.prog M B0 S (sq0_insn_Subs_v1  ) :=
  fn_specG hU (P := Try.prog) Try.func33 (fun xs w => by kernel_rfl) 1 _ _ (fun _ => rfl) _ _ _ [1]
    [.o, .o, .o, .o, .o, .o, .o, .o, .o, .o, .o, .o, .o, .o, .o, .o, .o, .o, .xg (p0_insn_checkSlot_v1 hU  ) [0], .o, .o, .o, .o, .o, .o, .o, .a 0, .cg (ok_op_Width_v1 hU  ), .o, .o, .o, .o, .o, .o, .o, .o, .xg (p0_insn_checkSlot_v2 hU  ) [0], .o, .o, .o, .o, .o, .o, .o, .a 0, .cg (ok_op_Width_v2 hU  ), .o, .o, .o, .o, .o, .o, .o, .o, .xg (p0_insn_checkSlot_v3 hU  ) [0], .o, .o, .o, .o, .o, .o, .o, .a 0, .cg (ok_op_Width_v3 hU  ), .o, .o, .o, .o, .o, .o, .o, .xg (p0_insn_split_v1 hU  ) [0], .o, .o, .o, .o, .o, .o, .o, .o, .o, .a 1, .o, .a 2, .o, .a 2, .xg (p0_insn_ends_v1 hU  ) [0], .o, .o, .o, .o, .o, .o, .o, .o, .o, .o, .o, .o, .o, .o]
    [] (fun b => by kernel_rfl)
theorem ok_op_Jumps_v1 : ConG Try.prog S 60 #[.agg #[.int .u8 (183), .int .u8 (1), .int .u8 (0), .int .i16 (0), .int .i32 (1)]] (.bool false) :=
  fn_conG hU (P := Try.prog) Try.func60 (fun xs w => by kernel_rfl) [.agg #[.int .u8 (183), .int .u8 (1), .int .u8 (0), .int .i16 (0), .int .i32 (1)]] (.bool false)
    [.o, .o, .o, .a 0, .o, .o, .o, .o, .o, .o]
    [] (fun b => by kernel_rfl)
theorem ok_op_Jumps_v2 : ConG Try.prog S 60 #[.agg #[.int .u8 (183), .int .u8 (0), .int .u8 (0), .int .i16 (0), .int .i32 (2)]] (.bool false) :=
  fn_conG hU (P := Try.prog) Try.func60 (fun xs w => by kernel_rfl) [.agg #[.int .u8 (183), .int .u8 (0), .int .u8 (0), .int .i16 (0), .int .i32 (2)]] (.bool false)
    [.o, .o, .o, .a 0, .o, .o, .o, .o, .o, .o]
    [] (fun b => by kernel_rfl)
theorem ok_op_Jumps_v3 : ConG Try.prog S 60 #[.agg #[.int .u8 (149), .int .u8 (0), .int .u8 (0), .int .i16 (0), .int .i32 (0)]] (.bool false) :=
  fn_conG hU (P := Try.prog) Try.func60 (fun xs w => by kernel_rfl) [.agg #[.int .u8 (149), .int .u8 (0), .int .u8 (0), .int .i16 (0), .int .i32 (0)]] (.bool false)
    [.o, .o, .o, .a 0, .o, .o, .o, .o, .a 0, .o, .o, .o, .a 0, .o, .o, .o]
    [] (fun b => by kernel_rfl)
def sq0_insn_jumpsStay_v1   : Spc := ⟨fun ls => .call 34 #[.slice (some ⟨(lget ls 0).n, 0, none⟩) 3 3, .agg #[.int .i64 (0), .int .i64 (3)]], fun ls => [.cells #[.int .u8 (183), .int .u8 (1), .int .u8 (0), .int .i16 (0), .int .i32 (1), .int .u8 (183), .int .u8 (0), .int .u8 (0), .int .i16 (0), .int .i32 (2), .int .u8 (149), .int .u8 (0), .int .u8 (0), .int .i16 (0), .int .i32 (0)] 26], 0, .normal, fun ls => [.tuple #[.int .i64 (0), .bool true]], fun ls => [.cells #[.int .u8 (183), .int .u8 (1), .int .u8 (0), .int .i16 (0), .int .i32 (1), .int .u8 (183), .int .u8 (0), .int .u8 (0), .int .i16 (0), .int .i32 (2), .int .u8 (149), .int .u8 (0), .int .u8 (0), .int .i16 (0), .int .i32 (0)] 26], fun ls => []⟩
theorem p0_insn_jumpsStay_v1 : SpcG Try.prog M B0 S (sq0_insn_jumpsStay_v1  ) :=
  fn_specG hU (P := Try.prog) Try.func34 (fun xs w => by kernel_rfl) 1 _ _ (fun _ => rfl) _ _ _ []
    [.o, .o, .o, .o, .a 1, .o, .o, .o, .a 1, .o, .o, .o, .o, .a 0, .cg (ok_op_Jumps_v1 hU  ), .o, .o, .o, .o, .o, .a 0, .cg (ok_op_Width_v1 hU  ), .o, .o, .o, .o, .a 1, .o, .o, .o, .o, .a 0, .cg (ok_op_Jumps_v2 hU  ), .o, .o, .o, .o, .o, .a 0, .cg (ok_op_Width_v2 hU  ), .o, .o, .o, .o, .a 1, .o, .o, .o, .o, .a 0, .cg (ok_op_Jumps_v3 hU  ), .o, .o, .o, .o, .o, .a 0, .cg (ok_op_Width_v3 hU  ), .o, .o, .o, .o, .a 1, .o, .o, .o]
    [] (fun b => by kernel_rfl)
def sq0_insn_Check_v1   : Spc := ⟨fun ls => .call 15 #[.slice (some ⟨(lget ls 0).n, 0, none⟩) 3 3], fun ls => [.cells #[.int .u8 (183), .int .u8 (1), .int .u8 (0), .int .i16 (0), .int .i32 (1), .int .u8 (183), .int .u8 (0), .int .u8 (0), .int .i16 (0), .int .i32 (2), .int .u8 (149), .int .u8 (0), .int .u8 (0), .int .i16 (0), .int .i32 (0)] 26], 0, .normal, fun ls => [.tuple #[.int .i64 (0), .int .i64 (0)]], fun ls => [.cells #[.int .u8 (183), .int .u8 (1), .int .u8 (0), .int .i16 (0), .int .i32 (1), .int .u8 (183), .int .u8 (0), .int .u8 (0), .int .i16 (0), .int .i32 (2), .int .u8 (149), .int .u8 (0), .int .u8 (0), .int .i16 (0), .int .i32 (0)] 26], fun ls => []⟩
theorem p0_insn_Check_v1 : SpcG Try.prog M B0 S (sq0_insn_Check_v1  ) :=
  fn_specG hU (P := Try.prog) Try.func15 (fun xs w => by kernel_rfl) 1 _ _ (fun _ => rfl) _ _ _ []
    [.o, .o, .o, .xg (p0_insn_Subs_v1 hU  ) [0], .o, .o, .o, .o, .o, .o, .o, .o, .o, .o, .o, .o, .o, .o, .a 1, .o, .a 2, .o, .a 2, .xg (p0_insn_jumpsStay_v1 hU  ) [0], .o, .o, .o, .o, .o, .o, .o, .o, .o, .o, .o, .o]
    [] (fun b => by kernel_rfl)
def sq0_flow_program_next   : Spc := ⟨fun ls => .call 63 #[.slice (some ⟨(lget ls 0).n, 0, none⟩) 3 3, .int .i64 (0)], fun ls => [.cells #[.int .u8 (183), .int .u8 (1), .int .u8 (0), .int .i16 (0), .int .i32 (1), .int .u8 (183), .int .u8 (0), .int .u8 (0), .int .i16 (0), .int .i32 (2), .int .u8 (149), .int .u8 (0), .int .u8 (0), .int .i16 (0), .int .i32 (0)] 26], 1, .normal, fun ls => [.slice (some ⟨(lget ls 1).n, 0, none⟩) 1 1], fun ls => [.cells #[.int .u8 (183), .int .u8 (1), .int .u8 (0), .int .i16 (0), .int .i32 (1), .int .u8 (183), .int .u8 (0), .int .u8 (0), .int .i16 (0), .int .i32 (2), .int .u8 (149), .int .u8 (0), .int .u8 (0), .int .i16 (0), .int .i32 (0)] 26], fun ls => [.cells #[.int .i64 (1)] 3]⟩
theorem p0_flow_program_next : SpcG Try.prog M B0 S (sq0_flow_program_next  ) :=
  fn_specG hU (P := Try.prog) Try.func63 (fun xs w => by kernel_rfl) 1 _ _ (fun _ => rfl) _ _ _ [1]
    [.o, .o, .o, .o, .o, .a 0, .cg (ok_op_Width_v1 hU  ), .o, .o, .o, .o, .o, .o, .a 0, .o, .o, .o, .o, .a 0, .cg (ok_op_Jumps_v1 hU  ), .o, .o, .o, .o]
    [] (fun b => by kernel_rfl)
def sq0_op_IsSecond_v2   : Spc := ⟨fun ls => .call 61 #[.slice (some ⟨(lget ls 0).n, 0, none⟩) 3 3, .int .i64 (0)], fun ls => [.cells #[.int .u8 (183), .int .u8 (1), .int .u8 (0), .int .i16 (0), .int .i32 (1), .int .u8 (183), .int .u8 (0), .int .u8 (0), .int .i16 (0), .int .i32 (2), .int .u8 (149), .int .u8 (0), .int .u8 (0), .int .i16 (0), .int .i32 (0)] 26], 0, .normal, fun ls => [.bool false], fun ls => [.cells #[.int .u8 (183), .int .u8 (1), .int .u8 (0), .int .i16 (0), .int .i32 (1), .int .u8 (183), .int .u8 (0), .int .u8 (0), .int .i16 (0), .int .i32 (2), .int .u8 (149), .int .u8 (0), .int .u8 (0), .int .i16 (0), .int .i32 (0)] 26], fun ls => []⟩
theorem p0_op_IsSecond_v2 : SpcG Try.prog M B0 S (sq0_op_IsSecond_v2  ) :=
  fn_specG hU (P := Try.prog) Try.func61 (fun xs w => by kernel_rfl) 1 _ _ (fun _ => rfl) _ _ _ []
    [.o, .o, .o, .o, .o, .o, .o, .o, .o, .o, .o, .o, .o]
    [] (fun b => by kernel_rfl)
def sq0_insn_operation_v1   : Spc := ⟨fun ls => .call 104 #[.slice (some ⟨(lget ls 0).n, 0, none⟩) 3 3, .int .i64 (0)], fun ls => [.cells #[.int .u8 (183), .int .u8 (1), .int .u8 (0), .int .i16 (0), .int .i32 (1), .int .u8 (183), .int .u8 (0), .int .u8 (0), .int .i16 (0), .int .i32 (2), .int .u8 (149), .int .u8 (0), .int .u8 (0), .int .i16 (0), .int .i32 (0)] 26], 0, .normal, fun ls => [.bool true], fun ls => [.cells #[.int .u8 (183), .int .u8 (1), .int .u8 (0), .int .i16 (0), .int .i32 (1), .int .u8 (183), .int .u8 (0), .int .u8 (0), .int .i16 (0), .int .i32 (2), .int .u8 (149), .int .u8 (0), .int .u8 (0), .int .i16 (0), .int .i32 (0)] 26], fun ls => []⟩
theorem p0_insn_operation_v1 : SpcG Try.prog M B0 S (sq0_insn_operation_v1  ) :=
  fn_specG hU (P := Try.prog) Try.func104 (fun xs w => by kernel_rfl) 1 _ _ (fun _ => rfl) _ _ _ []
    [.o, .o, .o, .o, .o, .o, .o, .o, .o, .o, .o, .o, .o, .a 0, .cg (ok_insn_known_v1 hU  ), .o, .o, .o, .o, .xg (p0_op_IsSecond_v2 hU  ) [0], .o, .o, .o]
    [] (fun b => by kernel_rfl)
def sq0_insn_Target_v1   : Spc := ⟨fun ls => .call 88 #[.slice (some ⟨(lget ls 0).n, 0, none⟩) 3 3, .int .i64 (0)], fun ls => [.cells #[.int .u8 (183), .int .u8 (1), .int .u8 (0), .int .i16 (0), .int .i32 (1), .int .u8 (183), .int .u8 (0), .int .u8 (0), .int .i16 (0), .int .i32 (2), .int .u8 (149), .int .u8 (0), .int .u8 (0), .int .i16 (0), .int .i32 (0)] 26], 0, .normal, fun ls => [.tuple #[.int .i64 (0), .bool false]], fun ls => [.cells #[.int .u8 (183), .int .u8 (1), .int .u8 (0), .int .i16 (0), .int .i32 (1), .int .u8 (183), .int .u8 (0), .int .u8 (0), .int .i16 (0), .int .i32 (2), .int .u8 (149), .int .u8 (0), .int .u8 (0), .int .i16 (0), .int .i32 (0)] 26], fun ls => []⟩
theorem p0_insn_Target_v1 : SpcG Try.prog M B0 S (sq0_insn_Target_v1  ) :=
  fn_specG hU (P := Try.prog) Try.func88 (fun xs w => by kernel_rfl) 1 _ _ (fun _ => rfl) _ _ _ []
    [.o, .o, .o, .o, .xg (p0_insn_operation_v1 hU  ) [0], .o, .o, .o, .o, .a 0, .o, .a 1, .o, .o, .o, .a 1, .cg (ok_insn_names_v1 hU  ), .o, .a 1, .cg (ok_op_Jumps_v1 hU  ), .o, .o, .o]
    [] (fun b => by kernel_rfl)
def sq0_flow_program_named   : Spc := ⟨fun ls => .call 65 #[.slice (some ⟨(lget ls 0).n, 0, none⟩) 3 3, .int .i64 (0)], fun ls => [.cells #[.int .u8 (183), .int .u8 (1), .int .u8 (0), .int .i16 (0), .int .i32 (1), .int .u8 (183), .int .u8 (0), .int .u8 (0), .int .i16 (0), .int .i32 (2), .int .u8 (149), .int .u8 (0), .int .u8 (0), .int .i16 (0), .int .i32 (0)] 26], 0, .normal, fun ls => [.tuple #[.int .i64 (0), .bool false]], fun ls => [.cells #[.int .u8 (183), .int .u8 (1), .int .u8 (0), .int .i16 (0), .int .i32 (1), .int .u8 (183), .int .u8 (0), .int .u8 (0), .int .i16 (0), .int .i32 (2), .int .u8 (149), .int .u8 (0), .int .u8 (0), .int .i16 (0), .int .i32 (0)] 26], fun ls => []⟩
theorem p0_flow_program_named : SpcG Try.prog M B0 S (sq0_flow_program_named  ) :=
  fn_specG hU (P := Try.prog) Try.func65 (fun xs w => by kernel_rfl) 1 _ _ (fun _ => rfl) _ _ _ []
    [.o, .o, .o, .o, .o, .a 0, .cg (ok_op_Jumps_v1 hU  ), .o, .o, .xg (p0_insn_Target_v1 hU  ) [0], .o, .o, .o, .o]
    [] (fun b => by kernel_rfl)
def sq0_flow_program_next_v1   : Spc := ⟨fun ls => .call 63 #[.slice (some ⟨(lget ls 0).n, 0, none⟩) 3 3, .int .i64 (1)], fun ls => [.cells #[.int .u8 (183), .int .u8 (1), .int .u8 (0), .int .i16 (0), .int .i32 (1), .int .u8 (183), .int .u8 (0), .int .u8 (0), .int .i16 (0), .int .i32 (2), .int .u8 (149), .int .u8 (0), .int .u8 (0), .int .i16 (0), .int .i32 (0)] 26], 1, .normal, fun ls => [.slice (some ⟨(lget ls 1).n, 0, none⟩) 1 1], fun ls => [.cells #[.int .u8 (183), .int .u8 (1), .int .u8 (0), .int .i16 (0), .int .i32 (1), .int .u8 (183), .int .u8 (0), .int .u8 (0), .int .i16 (0), .int .i32 (2), .int .u8 (149), .int .u8 (0), .int .u8 (0), .int .i16 (0), .int .i32 (0)] 26], fun ls => [.cells #[.int .i64 (2)] 3]⟩
theorem p0_flow_program_next_v1 : SpcG Try.prog M B0 S (sq0_flow_program_next_v1  ) :=
  fn_specG hU (P := Try.prog) Try.func63 (fun xs w => by kernel_rfl) 1 _ _ (fun _ => rfl) _ _ _ [1]
    [.o, .o, .o, .o, .o, .a 0, .cg (ok_op_Width_v2 hU  ), .o, .o, .o, .o, .o, .o, .a 0, .o, .o, .o, .o, .a 0, .cg (ok_op_Jumps_v2 hU  ), .o, .o, .o, .o]
    [] (fun b => by kernel_rfl)
def sq0_op_IsSecond_v3   : Spc := ⟨fun ls => .call 61 #[.slice (some ⟨(lget ls 0).n, 0, none⟩) 3 3, .int .i64 (1)], fun ls => [.cells #[.int .u8 (183), .int .u8 (1), .int .u8 (0), .int .i16 (0), .int .i32 (1), .int .u8 (183), .int .u8 (0), .int .u8 (0), .int .i16 (0), .int .i32 (2), .int .u8 (149), .int .u8 (0), .int .u8 (0), .int .i16 (0), .int .i32 (0)] 26], 0, .normal, fun ls => [.bool false], fun ls => [.cells #[.int .u8 (183), .int .u8 (1), .int .u8 (0), .int .i16 (0), .int .i32 (1), .int .u8 (183), .int .u8 (0), .int .u8 (0), .int .i16 (0), .int .i32 (2), .int .u8 (149), .int .u8 (0), .int .u8 (0), .int .i16 (0), .int .i32 (0)] 26], fun ls => []⟩
theorem p0_op_IsSecond_v3 : SpcG Try.prog M B0 S (sq0_op_IsSecond_v3  ) :=
  fn_specG hU (P := Try.prog) Try.func61 (fun xs w => by kernel_rfl) 1 _ _ (fun _ => rfl) _ _ _ []
    [.o, .o, .o, .o, .o, .o, .o, .o, .o, .o, .o, .a 0, .o, .o, .o, .o, .o, .o, .o, .o]
    [] (fun b => by kernel_rfl)
def sq0_insn_operation_v2   : Spc := ⟨fun ls => .call 104 #[.slice (some ⟨(lget ls 0).n, 0, none⟩) 3 3, .int .i64 (1)], fun ls => [.cells #[.int .u8 (183), .int .u8 (1), .int .u8 (0), .int .i16 (0), .int .i32 (1), .int .u8 (183), .int .u8 (0), .int .u8 (0), .int .i16 (0), .int .i32 (2), .int .u8 (149), .int .u8 (0), .int .u8 (0), .int .i16 (0), .int .i32 (0)] 26], 0, .normal, fun ls => [.bool true], fun ls => [.cells #[.int .u8 (183), .int .u8 (1), .int .u8 (0), .int .i16 (0), .int .i32 (1), .int .u8 (183), .int .u8 (0), .int .u8 (0), .int .i16 (0), .int .i32 (2), .int .u8 (149), .int .u8 (0), .int .u8 (0), .int .i16 (0), .int .i32 (0)] 26], fun ls => []⟩
theorem p0_insn_operation_v2 : SpcG Try.prog M B0 S (sq0_insn_operation_v2  ) :=
  fn_specG hU (P := Try.prog) Try.func104 (fun xs w => by kernel_rfl) 1 _ _ (fun _ => rfl) _ _ _ []
    [.o, .o, .o, .o, .o, .o, .o, .o, .o, .o, .o, .o, .o, .a 0, .cg (ok_insn_known_v2 hU  ), .o, .o, .o, .o, .xg (p0_op_IsSecond_v3 hU  ) [0], .o, .o, .o]
    [] (fun b => by kernel_rfl)
def sq0_insn_Target_v2   : Spc := ⟨fun ls => .call 88 #[.slice (some ⟨(lget ls 0).n, 0, none⟩) 3 3, .int .i64 (1)], fun ls => [.cells #[.int .u8 (183), .int .u8 (1), .int .u8 (0), .int .i16 (0), .int .i32 (1), .int .u8 (183), .int .u8 (0), .int .u8 (0), .int .i16 (0), .int .i32 (2), .int .u8 (149), .int .u8 (0), .int .u8 (0), .int .i16 (0), .int .i32 (0)] 26], 0, .normal, fun ls => [.tuple #[.int .i64 (0), .bool false]], fun ls => [.cells #[.int .u8 (183), .int .u8 (1), .int .u8 (0), .int .i16 (0), .int .i32 (1), .int .u8 (183), .int .u8 (0), .int .u8 (0), .int .i16 (0), .int .i32 (2), .int .u8 (149), .int .u8 (0), .int .u8 (0), .int .i16 (0), .int .i32 (0)] 26], fun ls => []⟩
theorem p0_insn_Target_v2 : SpcG Try.prog M B0 S (sq0_insn_Target_v2  ) :=
  fn_specG hU (P := Try.prog) Try.func88 (fun xs w => by kernel_rfl) 1 _ _ (fun _ => rfl) _ _ _ []
    [.o, .o, .o, .o, .xg (p0_insn_operation_v2 hU  ) [0], .o, .o, .o, .o, .a 0, .o, .a 1, .o, .o, .o, .a 1, .cg (ok_insn_names_v2 hU  ), .o, .a 1, .cg (ok_op_Jumps_v2 hU  ), .o, .o, .o]
    [] (fun b => by kernel_rfl)
def sq0_flow_program_named_v1   : Spc := ⟨fun ls => .call 65 #[.slice (some ⟨(lget ls 0).n, 0, none⟩) 3 3, .int .i64 (1)], fun ls => [.cells #[.int .u8 (183), .int .u8 (1), .int .u8 (0), .int .i16 (0), .int .i32 (1), .int .u8 (183), .int .u8 (0), .int .u8 (0), .int .i16 (0), .int .i32 (2), .int .u8 (149), .int .u8 (0), .int .u8 (0), .int .i16 (0), .int .i32 (0)] 26], 0, .normal, fun ls => [.tuple #[.int .i64 (0), .bool false]], fun ls => [.cells #[.int .u8 (183), .int .u8 (1), .int .u8 (0), .int .i16 (0), .int .i32 (1), .int .u8 (183), .int .u8 (0), .int .u8 (0), .int .i16 (0), .int .i32 (2), .int .u8 (149), .int .u8 (0), .int .u8 (0), .int .i16 (0), .int .i32 (0)] 26], fun ls => []⟩
theorem p0_flow_program_named_v1 : SpcG Try.prog M B0 S (sq0_flow_program_named_v1  ) :=
  fn_specG hU (P := Try.prog) Try.func65 (fun xs w => by kernel_rfl) 1 _ _ (fun _ => rfl) _ _ _ []
    [.o, .o, .o, .o, .o, .a 0, .cg (ok_op_Jumps_v2 hU  ), .o, .o, .xg (p0_insn_Target_v2 hU  ) [0], .o, .o, .o, .o]
    [] (fun b => by kernel_rfl)
def sq0_flow_program_next_v2   : Spc := ⟨fun ls => .call 63 #[.slice (some ⟨(lget ls 0).n, 0, none⟩) 3 3, .int .i64 (2)], fun ls => [.cells #[.int .u8 (183), .int .u8 (1), .int .u8 (0), .int .i16 (0), .int .i32 (1), .int .u8 (183), .int .u8 (0), .int .u8 (0), .int .i16 (0), .int .i32 (2), .int .u8 (149), .int .u8 (0), .int .u8 (0), .int .i16 (0), .int .i32 (0)] 26], 0, .normal, fun ls => [.slice none 0 0], fun ls => [.cells #[.int .u8 (183), .int .u8 (1), .int .u8 (0), .int .i16 (0), .int .i32 (1), .int .u8 (183), .int .u8 (0), .int .u8 (0), .int .i16 (0), .int .i32 (2), .int .u8 (149), .int .u8 (0), .int .u8 (0), .int .i16 (0), .int .i32 (0)] 26], fun ls => []⟩
theorem p0_flow_program_next_v2 : SpcG Try.prog M B0 S (sq0_flow_program_next_v2  ) :=
  fn_specG hU (P := Try.prog) Try.func63 (fun xs w => by kernel_rfl) 1 _ _ (fun _ => rfl) _ _ _ []
    [.o, .o, .o, .o, .o, .a 0, .cg (ok_op_Width_v3 hU  ), .o, .o, .o, .o, .o, .o, .a 0, .o, .o]
    [] (fun b => by kernel_rfl)
def sq0_insn_operation_v3   : Spc := ⟨fun ls => .call 104 #[.slice (some ⟨(lget ls 0).n, 0, none⟩) 3 3, .int .i64 (2)], fun ls => [.cells #[.int .u8 (183), .int .u8 (1), .int .u8 (0), .int .i16 (0), .int .i32 (1), .int .u8 (183), .int .u8 (0), .int .u8 (0), .int .i16 (0), .int .i32 (2), .int .u8 (149), .int .u8 (0), .int .u8 (0), .int .i16 (0), .int .i32 (0)] 26], 0, .normal, fun ls => [.bool true], fun ls => [.cells #[.int .u8 (183), .int .u8 (1), .int .u8 (0), .int .i16 (0), .int .i32 (1), .int .u8 (183), .int .u8 (0), .int .u8 (0), .int .i16 (0), .int .i32 (2), .int .u8 (149), .int .u8 (0), .int .u8 (0), .int .i16 (0), .int .i32 (0)] 26], fun ls => []⟩
theorem p0_insn_operation_v3 : SpcG Try.prog M B0 S (sq0_insn_operation_v3  ) :=
  fn_specG hU (P := Try.prog) Try.func104 (fun xs w => by kernel_rfl) 1 _ _ (fun _ => rfl) _ _ _ []
    [.o, .o, .o, .o, .o, .o, .o, .o, .o, .o, .o, .o, .o, .a 0, .cg (ok_insn_known_v3 hU  ), .o, .o, .o, .o, .xg (p0_op_IsSecond_v1 hU  ) [0], .o, .o, .o]
    [] (fun b => by kernel_rfl)
def sq0_insn_Target_v3   : Spc := ⟨fun ls => .call 88 #[.slice (some ⟨(lget ls 0).n, 0, none⟩) 3 3, .int .i64 (2)], fun ls => [.cells #[.int .u8 (183), .int .u8 (1), .int .u8 (0), .int .i16 (0), .int .i32 (1), .int .u8 (183), .int .u8 (0), .int .u8 (0), .int .i16 (0), .int .i32 (2), .int .u8 (149), .int .u8 (0), .int .u8 (0), .int .i16 (0), .int .i32 (0)] 26], 0, .normal, fun ls => [.tuple #[.int .i64 (0), .bool false]], fun ls => [.cells #[.int .u8 (183), .int .u8 (1), .int .u8 (0), .int .i16 (0), .int .i32 (1), .int .u8 (183), .int .u8 (0), .int .u8 (0), .int .i16 (0), .int .i32 (2), .int .u8 (149), .int .u8 (0), .int .u8 (0), .int .i16 (0), .int .i32 (0)] 26], fun ls => []⟩
theorem p0_insn_Target_v3 : SpcG Try.prog M B0 S (sq0_insn_Target_v3  ) :=
  fn_specG hU (P := Try.prog) Try.func88 (fun xs w => by kernel_rfl) 1 _ _ (fun _ => rfl) _ _ _ []
    [.o, .o, .o, .o, .xg (p0_insn_operation_v3 hU  ) [0], .o, .o, .o, .o, .a 0, .o, .a 1, .o, .o, .o, .a 1, .cg (ok_insn_names_v3 hU  ), .o, .a 1, .cg (ok_op_Jumps_v3 hU  ), .o, .o, .o]
    [] (fun b => by kernel_rfl)
def sq0_flow_program_named_v2   : Spc := ⟨fun ls => .call 65 #[.slice (some ⟨(lget ls 0).n, 0, none⟩) 3 3, .int .i64 (2)], fun ls => [.cells #[.int .u8 (183), .int .u8 (1), .int .u8 (0), .int .i16 (0), .int .i32 (1), .int .u8 (183), .int .u8 (0), .int .u8 (0), .int .i16 (0), .int .i32 (2), .int .u8 (149), .int .u8 (0), .int .u8 (0), .int .i16 (0), .int .i32 (0)] 26], 0, .normal, fun ls => [.tuple #[.int .i64 (0), .bool false]], fun ls => [.cells #[.int .u8 (183), .int .u8 (1), .int .u8 (0), .int .i16 (0), .int .i32 (1), .int .u8 (183), .int .u8 (0), .int .u8 (0), .int .i16 (0), .int .i32 (2), .int .u8 (149), .int .u8 (0), .int .u8 (0), .int .i16 (0), .int .i32 (0)] 26], fun ls => []⟩
theorem p0_flow_program_named_v2 : SpcG Try.prog M B0 S (sq0_flow_program_named_v2  ) :=
  fn_specG hU (P := Try.prog) Try.func65 (fun xs w => by kernel_rfl) 1 _ _ (fun _ => rfl) _ _ _ []
    [.o, .o, .o, .o, .o, .a 0, .cg (ok_op_Jumps_v3 hU  ), .o, .o, .xg (p0_insn_Target_v3 hU  ) [0], .o, .o, .o, .o]
    [] (fun b => by kernel_rfl)
def sq0_flow_program_reached   : Spc := ⟨fun ls => .call 40 #[.slice (some ⟨(lget ls 0).n, 0, none⟩) 3 3], fun ls => [.cells #[.int .u8 (183), .int .u8 (1), .int .u8 (0), .int .i16 (0), .int .i32 (1), .int .u8 (183), .int .u8 (0), .int .u8 (0), .int .i16 (0), .int .i32 (2), .int .u8 (149), .int .u8 (0), .int .u8 (0), .int .i16 (0), .int .i32 (0)] 26], 1, .normal, fun ls => [.slice (some ⟨(lget ls 1).n, 0, none⟩) 3 3], fun ls => [.cells #[.int .u8 (183), .int .u8 (1), .int .u8 (0), .int .i16 (0), .int .i32 (1), .int .u8 (183), .int .u8 (0), .int .u8 (0), .int .i16 (0), .int .i32 (2), .int .u8 (149), .int .u8 (0), .int .u8 (0), .int .i16 (0), .int .i32 (0)] 26], fun ls => [.cells #[.bool true, .bool true, .bool true] 4]⟩
theorem p0_flow_program_reached : SpcG Try.prog M B0 S (sq0_flow_program_reached  ) :=
  fn_specG hU (P := Try.prog) Try.func40 (fun xs w => by kernel_rfl) 1 _ _ (fun _ => rfl) _ _ _ [1]
    [.o, .o, .o, .o, .o, .o, .o, .a 1, .o, .o, .o, .o, .o, .o, .o, .o, .o, .o, .a 2, .o, .o, .o, .o, .o, .x (sqShrP_ok rt36 (f := cZ) (N := 1) (A := (fun _ => 0)) (x := 0) [.int .i64 (0)] rfl cZ_len (fun w => by kernel_rfl) (show inR 0 (1 + 1) = true from by decide) (by decide)) [2], .o, .o, .o, .xg (p0_flow_program_next hU  ) [0], .o, .o, .o, .xg (p0_flow_program_named hU  ) [0], .o, .o, .o, .o, .o, .o, .o, .o, .o, .o, .o, .a 4, .o, .o, .o, .o, .a 1, .o, .o, .o, .o, .a 1, .o, .o, .o, .x (sqAppL_ok (ty := 36) rt36 #[false, false] (f := cZ) (N := 0) (A := (fun _ => 0)) (c := 1) [1] (T' := 3) .row cZ_len cZ_one (by decide) rfl (by decide)) [3, 5], .o, .o, .o, .o, .o, .o, .o, .o, .o, .o, .o, .q (ixM_ok (kd := .i64) (T := 36) (x := 0) (N := 1) (sz := 1) rfl (fun w => by kernel_rfl) (show inR 0 1 = true from by decide)), .l (accG (i := 6) (f := cZ) (A := updF (fun _ => 0) 0 1) (k := 0) 0 [.int .i64 (1)] cZ_len (inR_nat (show inR 0 1 = true from by decide)) rfl), .o, .o, .o, .o, .o, .x (sqShr_ok rt36 (f := cZ) (N := 1) (A := updF (fun _ => 0) 0 1) (x := 0) cZ_len (fun w => by kernel_rfl) (show inR 0 (1 + 1) = true from by decide) (by decide)) [6], .o, .o, .o, .xg (p0_flow_program_next_v1 hU  ) [0], .o, .o, .o, .xg (p0_flow_program_named_v1 hU  ) [0], .o, .o, .o, .o, .o, .o, .o, .o, .o, .o, .o, .a 8, .o, .o, .o, .o, .a 1, .o, .o, .o, .o, .a 1, .o, .o, .o, .x (sqAppL_ok (ty := 36) rt36 #[false, false] (f := cZ) (N := 0) (A := updF (fun _ => 0) 0 1) (c := 1) [2] (T' := 3) .row cZ_len cZ_one (by decide) rfl (by decide)) [7, 9], .o, .o, .o, .o, .o, .o, .o, .o, .o, .o, .o, .q (ixM_ok (kd := .i64) (T := 36) (x := 0) (N := 1) (sz := 1) rfl (fun w => by kernel_rfl) (show inR 0 1 = true from by decide)), .l (accG (i := 10) (f := cZ) (A := updF (updF (fun _ => 0) 0 1) 0 2) (k := 0) 0 [.int .i64 (2)] cZ_len (inR_nat (show inR 0 1 = true from by decide)) rfl), .o, .o, .o, .o, .o, .x (sqShr_ok rt36 (f := cZ) (N := 1) (A := updF (updF (fun _ => 0) 0 1) 0 2) (x := 0) cZ_len (fun w => by kernel_rfl) (show inR 0 (1 + 1) = true from by decide) (by decide)) [10], .o, .o, .o, .xg (p0_flow_program_next_v2 hU  ) [0], .o, .o, .o, .xg (p0_flow_program_named_v2 hU  ) [0], .o, .o, .o, .o, .o, .o, .o, .o, .o, .o, .o, .o, .o, .o, .o]
    [] (fun b => by kernel_rfl)
def sq0_flow_Reached   : Spc := ⟨fun ls => .call 21 #[.slice (some ⟨(lget ls 0).n, 0, none⟩) 3 3], fun ls => [.cells #[.int .u8 (183), .int .u8 (1), .int .u8 (0), .int .i16 (0), .int .i32 (1), .int .u8 (183), .int .u8 (0), .int .u8 (0), .int .i16 (0), .int .i32 (2), .int .u8 (149), .int .u8 (0), .int .u8 (0), .int .i16 (0), .int .i32 (0)] 26], 1, .normal, fun ls => [.tuple #[.slice (some ⟨(lget ls 1).n, 0, none⟩) 3 3, .int .i64 (0)]], fun ls => [.cells #[.int .u8 (183), .int .u8 (1), .int .u8 (0), .int .i16 (0), .int .i32 (1), .int .u8 (183), .int .u8 (0), .int .u8 (0), .int .i16 (0), .int .i32 (2), .int .u8 (149), .int .u8 (0), .int .u8 (0), .int .i16 (0), .int .i32 (0)] 26], fun ls => [.cells #[.bool true, .bool true, .bool true] 4]⟩
theorem p0_flow_Reached : SpcG Try.prog M B0 S (sq0_flow_Reached  ) :=
  fn_specG hU (P := Try.prog) Try.func21 (fun xs w => by kernel_rfl) 1 _ _ (fun _ => rfl) _ _ _ [1]
    [.o, .o, .o, .xg (p0_insn_Check_v1 hU  ) [0], .o, .o, .o, .o, .o, .o, .o, .o, .xg (p0_flow_program_reached hU  ) [0], .o, .o]
    [] (fun b => by kernel_rfl)
def sq0_flow_program_isSecond   : Spc := ⟨fun ls => .call 62 #[.slice (some ⟨(lget ls 0).n, 0, none⟩) 3 3, .int .i64 (0)], fun ls => [.cells #[.int .u8 (183), .int .u8 (1), .int .u8 (0), .int .i16 (0), .int .i32 (1), .int .u8 (183), .int .u8 (0), .int .u8 (0), .int .i16 (0), .int .i32 (2), .int .u8 (149), .int .u8 (0), .int .u8 (0), .int .i16 (0), .int .i32 (0)] 26], 0, .normal, fun ls => [.bool false], fun ls => [.cells #[.int .u8 (183), .int .u8 (1), .int .u8 (0), .int .i16 (0), .int .i32 (1), .int .u8 (183), .int .u8 (0), .int .u8 (0), .int .i16 (0), .int .i32 (2), .int .u8 (149), .int .u8 (0), .int .u8 (0), .int .i16 (0), .int .i32 (0)] 26], fun ls => []⟩
theorem p0_flow_program_isSecond : SpcG Try.prog M B0 S (sq0_flow_program_isSecond  ) :=
  fn_specG hU (P := Try.prog) Try.func62 (fun xs w => by kernel_rfl) 1 _ _ (fun _ => rfl) _ _ _ []
    [.o, .o, .o, .o, .o, .o]
    [] (fun b => by kernel_rfl)
def sq0_flow_Next   : Spc := ⟨fun ls => .call 35 #[.slice (some ⟨(lget ls 0).n, 0, none⟩) 3 3, .int .i64 (0)], fun ls => [.cells #[.int .u8 (183), .int .u8 (1), .int .u8 (0), .int .i16 (0), .int .i32 (1), .int .u8 (183), .int .u8 (0), .int .u8 (0), .int .i16 (0), .int .i32 (2), .int .u8 (149), .int .u8 (0), .int .u8 (0), .int .i16 (0), .int .i32 (0)] 26], 1, .normal, fun ls => [.tuple #[.slice (some ⟨(lget ls 1).n, 0, none⟩) 1 1, .int .i64 (0)]], fun ls => [.cells #[.int .u8 (183), .int .u8 (1), .int .u8 (0), .int .i16 (0), .int .i32 (1), .int .u8 (183), .int .u8 (0), .int .u8 (0), .int .i16 (0), .int .i32 (2), .int .u8 (149), .int .u8 (0), .int .u8 (0), .int .i16 (0), .int .i32 (0)] 26], fun ls => [.cells #[.int .i64 (1)] 3]⟩
theorem p0_flow_Next : SpcG Try.prog M B0 S (sq0_flow_Next  ) :=
  fn_specG hU (P := Try.prog) Try.func35 (fun xs w => by kernel_rfl) 1 _ _ (fun _ => rfl) _ _ _ [1]
    [.o, .o, .o, .xg (p0_insn_Check_v1 hU  ) [0], .o, .o, .o, .o, .o, .o, .o, .o, .o, .o, .o, .o, .o, .o, .o, .o, .o, .o, .xg (p0_flow_program_isSecond hU  ) [0], .o, .o, .o, .xg (p0_flow_program_next hU  ) [0], .o, .o]
    [] (fun b => by kernel_rfl)
def sq0_insn_checkSlot_v4   : Spc := ⟨fun ls => .call 57 #[.slice (some ⟨(lget ls 0).n, 0, none⟩) 1 1, .int .i64 (0)], fun ls => [.cells #[.int .u8 (183), .int .u8 (1), .int .u8 (0), .int .i16 (0), .int .i32 (1)] 26], 0, .normal, fun ls => [.int .i64 (0)], fun ls => [.cells #[.int .u8 (183), .int .u8 (1), .int .u8 (0), .int .i16 (0), .int .i32 (1)] 26], fun ls => []⟩
theorem p0_insn_checkSlot_v4 : SpcG Try.prog M B0 S (sq0_insn_checkSlot_v4  ) :=
  fn_specG hU (P := Try.prog) Try.func57 (fun xs w => by kernel_rfl) 1 _ _ (fun _ => rfl) _ _ _ []
    [.o, .o, .o, .o, .a 0, .o, .a 1, .a 1, .cg (ok_insn_known_v1 hU  ), .o, .o, .o, .a 1, .o, .o, .o, .a 1, .o, .o, .o, .o, .a 1, .o, .o, .o, .o, .o, .o, .a 1, .o, .o, .o, .o, .o, .a 1, .o, .o, .o, .o, .o, .o, .a 1, .cg (ok_insn_names_v1 hU  ), .o, .o, .o, .o]
    [] (fun b => by kernel_rfl)
def sq0_insn_split_v2   : Spc := ⟨fun ls => .call 58 #[.slice (some ⟨(lget ls 0).n, 0, none⟩) 1 1], fun ls => [.cells #[.int .u8 (183), .int .u8 (1), .int .u8 (0), .int .i16 (0), .int .i32 (1)] 26], 1, .normal, fun ls => [(rowV (lget ls 1) 1 2)], fun ls => [.cells #[.int .u8 (183), .int .u8 (1), .int .u8 (0), .int .i16 (0), .int .i32 (1)] 26], fun ls => [rowO (lget ls 1) [.int .i64 (0), .int .i64 (1)] 83 1 2]⟩
theorem p0_insn_split_v2 : SpcG Try.prog M B0 S (sq0_insn_split_v2  ) :=
  fn_specG hU (P := Try.prog) Try.func58 (fun xs w => by kernel_rfl) 1 _ _ (fun _ => rfl) _ _ _ [3]
    [.o, .o, .q (ixA_ok (kd := .i64) (T := 140) (x := 0) (sz := 1) (N := 4096) rfl rfl (fun w => by kernel_rfl) (show inR 0 4096 = true from by decide)), .x (sqStF_ok (T := 4) (e := 140) (f := cB) (A := (fun _ => false)) (v := true) 0 (.bool true) cB_len cB_one rfl rfl (fun w => by kernel_rfl) (inR_nat (show inR 0 4096 = true from by decide))) [1], .o, .o, .o, .o, .o, .o, .o, .o, .a 0, .cg (ok_insn_names_v1 hU  ), .o, .o, .o, .o, .a 0, .cg (ok_op_Width_v1 hU  ), .o, .o, .o, .o, .o, .o, .o, .o, .o, .o, .o, .o, .o, .o, .q (ixA_ok (kd := .i64) (T := 140) (x := 0) (sz := 1) (N := 4096) rfl rfl (fun w => by kernel_rfl) (show inR 0 4096 = true from by decide)), .l (accF (i := 1) (f := cB) (A := updF (fun _ => false) 0 true) (k := 0) 0 [.bool true] cB_len (inR_nat (show inR 0 4096 = true from by decide)) rfl), .o, .o, .o, .o, .x (sqAppL1_ok (ty := 79) rt79 #[false, false] (f := c_Part) (c := 1) (⟨0, 0⟩ : Part) (T' := 83) c_Part_len c_Part_one (by decide)) [2], .o, .o, .o, .o, .o, .o, .o, .o, .o, .a 3, .o, .o, .o, .o, .o]
    [] (fun b => by kernel_rfl)
def sq0_op_IsSecond_v4   : Spc := ⟨fun ls => .call 61 #[.slice (some ⟨(lget ls 0).n, 0, none⟩) 1 1, .int .i64 (0)], fun ls => [.cells #[.int .u8 (183), .int .u8 (1), .int .u8 (0), .int .i16 (0), .int .i32 (1)] 26], 0, .normal, fun ls => [.bool false], fun ls => [.cells #[.int .u8 (183), .int .u8 (1), .int .u8 (0), .int .i16 (0), .int .i32 (1)] 26], fun ls => []⟩
theorem p0_op_IsSecond_v4 : SpcG Try.prog M B0 S (sq0_op_IsSecond_v4  ) :=
  fn_specG hU (P := Try.prog) Try.func61 (fun xs w => by kernel_rfl) 1 _ _ (fun _ => rfl) _ _ _ []
    [.o, .o, .o, .o, .o, .o, .o, .o, .o, .o, .o, .o, .o]
    [] (fun b => by kernel_rfl)
def sq0_insn_ends_v2   : Spc := ⟨fun ls => .call 59 #[.slice (some ⟨(lget ls 0).n, 0, none⟩) 1 1, .agg #[.int .i64 (0), .int .i64 (1)]], fun ls => [.cells #[.int .u8 (183), .int .u8 (1), .int .u8 (0), .int .i16 (0), .int .i32 (1)] 26], 0, .normal, fun ls => [.tuple #[.int .i64 (0), .bool false]], fun ls => [.cells #[.int .u8 (183), .int .u8 (1), .int .u8 (0), .int .i16 (0), .int .i32 (1)] 26], fun ls => []⟩
theorem p0_insn_ends_v2 : SpcG Try.prog M B0 S (sq0_insn_ends_v2  ) :=
  fn_specG hU (P := Try.prog) Try.func59 (fun xs w => by kernel_rfl) 1 _ _ (fun _ => rfl) _ _ _ []
    [.o, .o, .o, .o, .a 1, .o, .o, .o, .o, .xg (p0_op_IsSecond_v4 hU  ) [0], .r [0, 1, 2, 3, 4, 5, 6, 7, 8, 9, 10, 11, 12, 13, 14, 15, 16] [] [], .o, .o, .o, .o, .o, .a 0, .o, .o, .o, .o, .o, .o, .a 0, .o, .o, .o, .o]
    [] (fun b => by kernel_rfl)
def sq0_insn_Subs_v2   : Spc := ⟨fun ls => .call 33 #[.slice (some ⟨(lget ls 0).n, 0, none⟩) 1 1], fun ls => [.cells #[.int .u8 (183), .int .u8 (1), .int .u8 (0), .int .i16 (0), .int .i32 (1)] 26], 0, .normal, fun ls => [.tuple #[.slice none 0 0, .int .i64 (0), .int .i64 (16)]], fun ls => [.cells #[.int .u8 (183), .int .u8 (1), .int .u8 (0), .int .i16 (0), .int .i32 (1)] 26], fun ls => []⟩
theorem p0_insn_Subs_v2 : SpcG Try.prog M B0 S (sq0_insn_Subs_v2  ) :=
  fn_specG hU (P := Try.prog) Try.func33 (fun xs w => by kernel_rfl) 1 _ _ (fun _ => rfl) _ _ _ []
    [.o, .o, .o, .o, .o, .o, .o, .o, .o, .o, .o, .o, .o, .o, .o, .o, .o, .o, .xg (p0_insn_checkSlot_v4 hU  ) [0], .o, .o, .o, .o, .o, .o, .o, .a 0, .cg (ok_op_Width_v1 hU  ), .o, .o, .o, .o, .o, .o, .o, .xg (p0_insn_split_v2 hU  ) [0], .o, .o, .o, .o, .o, .o, .o, .o, .o, .a 1, .o, .a 2, .o, .a 2, .xg (p0_insn_ends_v2 hU  ) [0], .o, .o, .o, .o, .o, .o, .o, .o, .o, .o, .o]
    [] (fun b => by kernel_rfl)
def sq0_insn_Check_v2   : Spc := ⟨fun ls => .call 15 #[.slice (some ⟨(lget ls 0).n, 0, none⟩) 1 1], fun ls => [.cells #[.int .u8 (183), .int .u8 (1), .int .u8 (0), .int .i16 (0), .int .i32 (1)] 26], 0, .normal, fun ls => [.tuple #[.int .i64 (0), .int .i64 (16)]], fun ls => [.cells #[.int .u8 (183), .int .u8 (1), .int .u8 (0), .int .i16 (0), .int .i32 (1)] 26], fun ls => []⟩
theorem p0_insn_Check_v2 : SpcG Try.prog M B0 S (sq0_insn_Check_v2  ) :=
  fn_specG hU (P := Try.prog) Try.func15 (fun xs w => by kernel_rfl) 1 _ _ (fun _ => rfl) _ _ _ []
    [.o, .o, .o, .xg (p0_insn_Subs_v2 hU  ) [0], .o, .o, .o, .o, .o, .o, .o, .o, .o, .o, .o, .o, .o]
    [] (fun b => by kernel_rfl)
theorem ok_live_known : ConG Try.prog S 17 #[.agg #[.int .u8 (183), .int .u8 (1), .int .u8 (0), .int .i16 (0), .int .i32 (1)]] (.bool true) :=
  fn_conG hU (P := Try.prog) Try.func17 (fun xs w => by kernel_rfl) [.agg #[.int .u8 (183), .int .u8 (1), .int .u8 (0), .int .i16 (0), .int .i32 (1)]] (.bool true)
    [.o, .o, .a 0, .o, .xg (p0_insn_Check_v2 hU  ) [1], .o, .o, .o, .o, .o, .o, .o, .o, .o, .a 0, .o, .o, .o, .o, .a 0, .o, .o, .o]
    [] (fun b => by kernel_rfl)
theorem ok_live_operand : ConG Try.prog S 38 #[.agg #[.int .u8 (183), .int .u8 (1), .int .u8 (0), .int .i16 (0), .int .i32 (1)]] (.int .u16 (0)) :=
  fn_conG hU (P := Try.prog) Try.func38 (fun xs w => by kernel_rfl) [.agg #[.int .u8 (183), .int .u8 (1), .int .u8 (0), .int .i16 (0), .int .i32 (1)]] (.int .u16 (0))
    [.o, .o, .o, .a 0, .o, .o, .o]
    [] (fun b => by kernel_rfl)
theorem ok_live_aluReads : ConG Try.prog S 19 #[.agg #[.int .u8 (183), .int .u8 (1), .int .u8 (0), .int .i16 (0), .int .i32 (1)]] (.int .u16 (0)) :=
  fn_conG hU (P := Try.prog) Try.func19 (fun xs w => by kernel_rfl) [.agg #[.int .u8 (183), .int .u8 (1), .int .u8 (0), .int .i16 (0), .int .i32 (1)]] (.int .u16 (0))
    [.o, .o, .o, .a 0, .o, .o, .o, .a 0, .cg (ok_live_operand hU  ), .o]
    [] (fun b => by kernel_rfl)
theorem ok_live_Reads : ConG Try.prog S 9 #[.agg #[.int .u8 (183), .int .u8 (1), .int .u8 (0), .int .i16 (0), .int .i32 (1)]] (.tuple #[.int .u16 (0), .bool true]) :=
  fn_conG hU (P := Try.prog) Try.func9 (fun xs w => by kernel_rfl) [.agg #[.int .u8 (183), .int .u8 (1), .int .u8 (0), .int .i16 (0), .int .i32 (1)]] (.tuple #[.int .u16 (0), .bool true])
    [.o, .o, .o, .a 0, .cg (ok_live_known hU  ), .o, .o, .a 0, .o, .o, .o, .o, .o, .o, .o, .o, .o, .o, .o, .a 0, .cg (ok_live_aluReads hU  ), .o, .o]
    [] (fun b => by kernel_rfl)
theorem ok_live_bit : ConG Try.prog S 18 #[.int .u8 (1)] (.int .u16 (2)) :=
  fn_conG hU (P := Try.prog) Try.func18 (fun xs w => by kernel_rfl) [.int .u8 (1)] (.int .u16 (2))
    [.o, .o, .o, .o]
    [] (fun b => by kernel_rfl)
theorem ok_live_Writes : ConG Try.prog S 10 #[.agg #[.int .u8 (183), .int .u8 (1), .int .u8 (0), .int .i16 (0), .int .i32 (1)]] (.tuple #[.int .u16 (2), .bool true]) :=
  fn_conG hU (P := Try.prog) Try.func10 (fun xs w => by kernel_rfl) [.agg #[.int .u8 (183), .int .u8 (1), .int .u8 (0), .int .i16 (0), .int .i32 (1)]] (.tuple #[.int .u16 (2), .bool true])
    [.o, .o, .o, .a 0, .cg (ok_live_known hU  ), .o, .o, .a 0, .o, .o, .o, .o, .o, .o, .o, .o, .o, .o, .a 0, .cg (ok_live_bit hU  ), .o, .o]
    [] (fun b => by kernel_rfl)
def sq0_flow_program_isSecond_v1   : Spc := ⟨fun ls => .call 62 #[.slice (some ⟨(lget ls 0).n, 0, none⟩) 3 3, .int .i64 (1)], fun ls => [.cells #[.int .u8 (183), .int .u8 (1), .int .u8 (0), .int .i16 (0), .int .i32 (1), .int .u8 (183), .int .u8 (0), .int .u8 (0), .int .i16 (0), .int .i32 (2), .int .u8 (149), .int .u8 (0), .int .u8 (0), .int .i16 (0), .int .i32 (0)] 26], 0, .normal, fun ls => [.bool false], fun ls => [.cells #[.int .u8 (183), .int .u8 (1), .int .u8 (0), .int .i16 (0), .int .i32 (1), .int .u8 (183), .int .u8 (0), .int .u8 (0), .int .i16 (0), .int .i32 (2), .int .u8 (149), .int .u8 (0), .int .u8 (0), .int .i16 (0), .int .i32 (0)] 26], fun ls => []⟩
theorem p0_flow_program_isSecond_v1 : SpcG Try.prog M B0 S (sq0_flow_program_isSecond_v1  ) :=
  fn_specG hU (P := Try.prog) Try.func62 (fun xs w => by kernel_rfl) 1 _ _ (fun _ => rfl) _ _ _ []
    [.o, .o, .o, .o, .o, .o, .o, .o, .o, .a 0, .o, .o, .o]
    [] (fun b => by kernel_rfl)
def sq0_flow_Next_v1   : Spc := ⟨fun ls => .call 35 #[.slice (some ⟨(lget ls 0).n, 0, none⟩) 3 3, .int .i64 (1)], fun ls => [.cells #[.int .u8 (183), .int .u8 (1), .int .u8 (0), .int .i16 (0), .int .i32 (1), .int .u8 (183), .int .u8 (0), .int .u8 (0), .int .i16 (0), .int .i32 (2), .int .u8 (149), .int .u8 (0), .int .u8 (0), .int .i16 (0), .int .i32 (0)] 26], 1, .normal, fun ls => [.tuple #[.slice (some ⟨(lget ls 1).n, 0, none⟩) 1 1, .int .i64 (0)]], fun ls => [.cells #[.int .u8 (183), .int .u8 (1), .int .u8 (0), .int .i16 (0), .int .i32 (1), .int .u8 (183), .int .u8 (0), .int .u8 (0), .int .i16 (0), .int .i32 (2), .int .u8 (149), .int .u8 (0), .int .u8 (0), .int .i16 (0), .int .i32 (0)] 26], fun ls => [.cells #[.int .i64 (2)] 3]⟩
theorem p0_flow_Next_v1 : SpcG Try.prog M B0 S (sq0_flow_Next_v1  ) :=
  fn_specG hU (P := Try.prog) Try.func35 (fun xs w => by kernel_rfl) 1 _ _ (fun _ => rfl) _ _ _ [1]
    [.o, .o, .o, .xg (p0_insn_Check_v1 hU  ) [0], .o, .o, .o, .o, .o, .o, .o, .o, .o, .o, .o, .o, .o, .o, .o, .o, .o, .o, .xg (p0_flow_program_isSecond_v1 hU  ) [0], .o, .o, .o, .xg (p0_flow_program_next_v1 hU  ) [0], .o, .o]
    [] (fun b => by kernel_rfl)
def sq0_insn_checkSlot_v5   : Spc := ⟨fun ls => .call 57 #[.slice (some ⟨(lget ls 0).n, 0, none⟩) 1 1, .int .i64 (0)], fun ls => [.cells #[.int .u8 (183), .int .u8 (0), .int .u8 (0), .int .i16 (0), .int .i32 (2)] 26], 0, .normal, fun ls => [.int .i64 (0)], fun ls => [.cells #[.int .u8 (183), .int .u8 (0), .int .u8 (0), .int .i16 (0), .int .i32 (2)] 26], fun ls => []⟩
theorem p0_insn_checkSlot_v5 : SpcG Try.prog M B0 S (sq0_insn_checkSlot_v5  ) :=
  fn_specG hU (P := Try.prog) Try.func57 (fun xs w => by kernel_rfl) 1 _ _ (fun _ => rfl) _ _ _ []
    [.o, .o, .o, .o, .a 0, .o, .a 1, .a 1, .cg (ok_insn_known_v2 hU  ), .o, .o, .o, .a 1, .o, .o, .o, .a 1, .o, .o, .o, .o, .a 1, .o, .o, .o, .o, .o, .o, .a 1, .o, .o, .o, .o, .o, .a 1, .o, .o, .o, .o, .o, .o, .a 1, .cg (ok_insn_names_v2 hU  ), .o, .o, .o, .o]
    [] (fun b => by kernel_rfl)
def sq0_insn_split_v3   : Spc := ⟨fun ls => .call 58 #[.slice (some ⟨(lget ls 0).n, 0, none⟩) 1 1], fun ls => [.cells #[.int .u8 (183), .int .u8 (0), .int .u8 (0), .int .i16 (0), .int .i32 (2)] 26], 1, .normal, fun ls => [(rowV (lget ls 1) 1 2)], fun ls => [.cells #[.int .u8 (183), .int .u8 (0), .int .u8 (0), .int .i16 (0), .int .i32 (2)] 26], fun ls => [rowO (lget ls 1) [.int .i64 (0), .int .i64 (1)] 83 1 2]⟩
theorem p0_insn_split_v3 : SpcG Try.prog M B0 S (sq0_insn_split_v3  ) :=
  fn_specG hU (P := Try.prog) Try.func58 (fun xs w => by kernel_rfl) 1 _ _ (fun _ => rfl) _ _ _ [3]
    [.o, .o, .q (ixA_ok (kd := .i64) (T := 140) (x := 0) (sz := 1) (N := 4096) rfl rfl (fun w => by kernel_rfl) (show inR 0 4096 = true from by decide)), .x (sqStF_ok (T := 4) (e := 140) (f := cB) (A := (fun _ => false)) (v := true) 0 (.bool true) cB_len cB_one rfl rfl (fun w => by kernel_rfl) (inR_nat (show inR 0 4096 = true from by decide))) [1], .o, .o, .o, .o, .o, .o, .o, .o, .a 0, .cg (ok_insn_names_v2 hU  ), .o, .o, .o, .o, .a 0, .cg (ok_op_Width_v2 hU  ), .o, .o, .o, .o, .o, .o, .o, .o, .o, .o, .o, .o, .o, .o, .q (ixA_ok (kd := .i64) (T := 140) (x := 0) (sz := 1) (N := 4096) rfl rfl (fun w => by kernel_rfl) (show inR 0 4096 = true from by decide)), .l (accF (i := 1) (f := cB) (A := updF (fun _ => false) 0 true) (k := 0) 0 [.bool true] cB_len (inR_nat (show inR 0 4096 = true from by decide)) rfl), .o, .o, .o, .o, .x (sqAppL1_ok (ty := 79) rt79 #[false, false] (f := c_Part) (c := 1) (⟨0, 0⟩ : Part) (T' := 83) c_Part_len c_Part_one (by decide)) [2], .o, .o, .o, .o, .o, .o, .o, .o, .o, .a 3, .o, .o, .o, .o, .o]
    [] (fun b => by kernel_rfl)
def sq0_op_IsSecond_v5   : Spc := ⟨fun ls => .call 61 #[.slice (some ⟨(lget ls 0).n, 0, none⟩) 1 1, .int .i64 (0)], fun ls => [.cells #[.int .u8 (183), .int .u8 (0), .int .u8 (0), .int .i16 (0), .int .i32 (2)] 26], 0, .normal, fun ls => [.bool false], fun ls => [.cells #[.int .u8 (183), .int .u8 (0), .int .u8 (0), .int .i16 (0), .int .i32 (2)] 26], fun ls => []⟩
theorem p0_op_IsSecond_v5 : SpcG Try.prog M B0 S (sq0_op_IsSecond_v5  ) :=
  fn_specG hU (P := Try.prog) Try.func61 (fun xs w => by kernel_rfl) 1 _ _ (fun _ => rfl) _ _ _ []
    [.o, .o, .o, .o, .o, .o, .o, .o, .o, .o, .o, .o, .o]
    [] (fun b => by kernel_rfl)
def sq0_insn_ends_v3   : Spc := ⟨fun ls => .call 59 #[.slice (some ⟨(lget ls 0).n, 0, none⟩) 1 1, .agg #[.int .i64 (0), .int .i64 (1)]], fun ls => [.cells #[.int .u8 (183), .int .u8 (0), .int .u8 (0), .int .i16 (0), .int .i32 (2)] 26], 0, .normal, fun ls => [.tuple #[.int .i64 (0), .bool false]], fun ls => [.cells #[.int .u8 (183), .int .u8 (0), .int .u8 (0), .int .i16 (0), .int .i32 (2)] 26], fun ls => []⟩
theorem p0_insn_ends_v3 : SpcG Try.prog M B0 S (sq0_insn_ends_v3  ) :=
  fn_specG hU (P := Try.prog) Try.func59 (fun xs w => by kernel_rfl) 1 _ _ (fun _ => rfl) _ _ _ []
    [.o, .o, .o, .o, .a 1, .o, .o, .o, .o, .xg (p0_op_IsSecond_v5 hU  ) [0], .r [0, 1, 2, 3, 4, 5, 6, 7, 8, 9, 10, 11, 12, 13, 14, 15, 16] [] [], .o, .o, .o, .o, .o, .a 0, .o, .o, .o, .o, .o, .o, .a 0, .o, .o, .o, .o]
    [] (fun b => by kernel_rfl)
def sq0_insn_Subs_v3   : Spc := ⟨fun ls => .call 33 #[.slice (some ⟨(lget ls 0).n, 0, none⟩) 1 1], fun ls => [.cells #[.int .u8 (183), .int .u8 (0), .int .u8 (0), .int .i16 (0), .int .i32 (2)] 26], 0, .normal, fun ls => [.tuple #[.slice none 0 0, .int .i64 (0), .int .i64 (16)]], fun ls => [.cells #[.int .u8 (183), .int .u8 (0), .int .u8 (0), .int .i16 (0), .int .i32 (2)] 26], fun ls => []⟩
theorem p0_insn_Subs_v3 : SpcG Try.prog M B0 S (sq0_insn_Subs_v3  ) :=
  fn_specG hU (P := Try.prog) Try.func33 (fun xs w => by kernel_rfl) 1 _ _ (fun _ => rfl) _ _ _ []
    [.o, .o, .o, .o, .o, .o, .o, .o, .o, .o, .o, .o, .o, .o, .o, .o, .o, .o, .xg (p0_insn_checkSlot_v5 hU  ) [0], .o, .o, .o, .o, .o, .o, .o, .a 0, .cg (ok_op_Width_v2 hU  ), .o, .o, .o, .o, .o, .o, .o, .xg (p0_insn_split_v3 hU  ) [0], .o, .o, .o, .o, .o, .o, .o, .o, .o, .a 1, .o, .a 2, .o, .a 2, .xg (p0_insn_ends_v3 hU  ) [0], .o, .o, .o, .o, .o, .o, .o, .o, .o, .o, .o]
    [] (fun b => by kernel_rfl)
def sq0_insn_Check_v3   : Spc := ⟨fun ls => .call 15 #[.slice (some ⟨(lget ls 0).n, 0, none⟩) 1 1], fun ls => [.cells #[.int .u8 (183), .int .u8 (0), .int .u8 (0), .int .i16 (0), .int .i32 (2)] 26], 0, .normal, fun ls => [.tuple #[.int .i64 (0), .int .i64 (16)]], fun ls => [.cells #[.int .u8 (183), .int .u8 (0), .int .u8 (0), .int .i16 (0), .int .i32 (2)] 26], fun ls => []⟩
theorem p0_insn_Check_v3 : SpcG Try.prog M B0 S (sq0_insn_Check_v3  ) :=
  fn_specG hU (P := Try.prog) Try.func15 (fun xs w => by kernel_rfl) 1 _ _ (fun _ => rfl) _ _ _ []
    [.o, .o, .o, .xg (p0_insn_Subs_v3 hU  ) [0], .o, .o, .o, .o, .o, .o, .o, .o, .o, .o, .o, .o, .o]
    [] (fun b => by kernel_rfl)
theorem ok_live_known_v1 : ConG Try.prog S 17 #[.agg #[.int .u8 (183), .int .u8 (0), .int .u8 (0), .int .i16 (0), .int .i32 (2)]] (.bool true) :=
  fn_conG hU (P := Try.prog) Try.func17 (fun xs w => by kernel_rfl) [.agg #[.int .u8 (183), .int .u8 (0), .int .u8 (0), .int .i16 (0), .int .i32 (2)]] (.bool true)
    [.o, .o, .a 0, .o, .xg (p0_insn_Check_v3 hU  ) [1], .o, .o, .o, .o, .o, .o, .o, .o, .o, .a 0, .o, .o, .o, .o, .a 0, .o, .o, .o]
    [] (fun b => by kernel_rfl)
theorem ok_live_operand_v1 : ConG Try.prog S 38 #[.agg #[.int .u8 (183), .int .u8 (0), .int .u8 (0), .int .i16 (0), .int .i32 (2)]] (.int .u16 (0)) :=
  fn_conG hU (P := Try.prog) Try.func38 (fun xs w => by kernel_rfl) [.agg #[.int .u8 (183), .int .u8 (0), .int .u8 (0), .int .i16 (0), .int .i32 (2)]] (.int .u16 (0))
    [.o, .o, .o, .a 0, .o, .o, .o]
    [] (fun b => by kernel_rfl)
theorem ok_live_aluReads_v1 : ConG Try.prog S 19 #[.agg #[.int .u8 (183), .int .u8 (0), .int .u8 (0), .int .i16 (0), .int .i32 (2)]] (.int .u16 (0)) :=
  fn_conG hU (P := Try.prog) Try.func19 (fun xs w => by kernel_rfl) [.agg #[.int .u8 (183), .int .u8 (0), .int .u8 (0), .int .i16 (0), .int .i32 (2)]] (.int .u16 (0))
    [.o, .o, .o, .a 0, .o, .o, .o, .a 0, .cg (ok_live_operand_v1 hU  ), .o]
    [] (fun b => by kernel_rfl)
theorem ok_live_Reads_v1 : ConG Try.prog S 9 #[.agg #[.int .u8 (183), .int .u8 (0), .int .u8 (0), .int .i16 (0), .int .i32 (2)]] (.tuple #[.int .u16 (0), .bool true]) :=
  fn_conG hU (P := Try.prog) Try.func9 (fun xs w => by kernel_rfl) [.agg #[.int .u8 (183), .int .u8 (0), .int .u8 (0), .int .i16 (0), .int .i32 (2)]] (.tuple #[.int .u16 (0), .bool true])
    [.o, .o, .o, .a 0, .cg (ok_live_known_v1 hU  ), .o, .o, .a 0, .o, .o, .o, .o, .o, .o, .o, .o, .o, .o, .o, .a 0, .cg (ok_live_aluReads_v1 hU  ), .o, .o]
    [] (fun b => by kernel_rfl)
theorem ok_live_bit_v1 : ConG Try.prog S 18 #[.int .u8 (0)] (.int .u16 (1)) :=
  fn_conG hU (P := Try.prog) Try.func18 (fun xs w => by kernel_rfl) [.int .u8 (0)] (.int .u16 (1))
    [.o, .o, .o, .o]
    [] (fun b => by kernel_rfl)
theorem ok_live_Writes_v1 : ConG Try.prog S 10 #[.agg #[.int .u8 (183), .int .u8 (0), .int .u8 (0), .int .i16 (0), .int .i32 (2)]] (.tuple #[.int .u16 (1), .bool true]) :=
  fn_conG hU (P := Try.prog) Try.func10 (fun xs w => by kernel_rfl) [.agg #[.int .u8 (183), .int .u8 (0), .int .u8 (0), .int .i16 (0), .int .i32 (2)]] (.tuple #[.int .u16 (1), .bool true])
    [.o, .o, .o, .a 0, .cg (ok_live_known_v1 hU  ), .o, .o, .a 0, .o, .o, .o, .o, .o, .o, .o, .o, .o, .o, .a 0, .cg (ok_live_bit_v1 hU  ), .o, .o]
    [] (fun b => by kernel_rfl)
def sq0_flow_program_isSecond_v2   : Spc := ⟨fun ls => .call 62 #[.slice (some ⟨(lget ls 0).n, 0, none⟩) 3 3, .int .i64 (2)], fun ls => [.cells #[.int .u8 (183), .int .u8 (1), .int .u8 (0), .int .i16 (0), .int .i32 (1), .int .u8 (183), .int .u8 (0), .int .u8 (0), .int .i16 (0), .int .i32 (2), .int .u8 (149), .int .u8 (0), .int .u8 (0), .int .i16 (0), .int .i32 (0)] 26], 0, .normal, fun ls => [.bool false], fun ls => [.cells #[.int .u8 (183), .int .u8 (1), .int .u8 (0), .int .i16 (0), .int .i32 (1), .int .u8 (183), .int .u8 (0), .int .u8 (0), .int .i16 (0), .int .i32 (2), .int .u8 (149), .int .u8 (0), .int .u8 (0), .int .i16 (0), .int .i32 (0)] 26], fun ls => []⟩
theorem p0_flow_program_isSecond_v2 : SpcG Try.prog M B0 S (sq0_flow_program_isSecond_v2  ) :=
  fn_specG hU (P := Try.prog) Try.func62 (fun xs w => by kernel_rfl) 1 _ _ (fun _ => rfl) _ _ _ []
    [.o, .o, .o, .o, .o, .o, .o, .o, .o, .a 0, .o, .o, .o]
    [] (fun b => by kernel_rfl)
def sq0_flow_Next_v2   : Spc := ⟨fun ls => .call 35 #[.slice (some ⟨(lget ls 0).n, 0, none⟩) 3 3, .int .i64 (2)], fun ls => [.cells #[.int .u8 (183), .int .u8 (1), .int .u8 (0), .int .i16 (0), .int .i32 (1), .int .u8 (183), .int .u8 (0), .int .u8 (0), .int .i16 (0), .int .i32 (2), .int .u8 (149), .int .u8 (0), .int .u8 (0), .int .i16 (0), .int .i32 (0)] 26], 0, .normal, fun ls => [.tuple #[.slice none 0 0, .int .i64 (0)]], fun ls => [.cells #[.int .u8 (183), .int .u8 (1), .int .u8 (0), .int .i16 (0), .int .i32 (1), .int .u8 (183), .int .u8 (0), .int .u8 (0), .int .i16 (0), .int .i32 (2), .int .u8 (149), .int .u8 (0), .int .u8 (0), .int .i16 (0), .int .i32 (0)] 26], fun ls => []⟩
theorem p0_flow_Next_v2 : SpcG Try.prog M B0 S (sq0_flow_Next_v2  ) :=
  fn_specG hU (P := Try.prog) Try.func35 (fun xs w => by kernel_rfl) 1 _ _ (fun _ => rfl) _ _ _ []
    [.o, .o, .o, .xg (p0_insn_Check_v1 hU  ) [0], .o, .o, .o, .o, .o, .o, .o, .o, .o, .o, .o, .o, .o, .o, .o, .o, .o, .o, .xg (p0_flow_program_isSecond_v2 hU  ) [0], .o, .o, .o, .xg (p0_flow_program_next_v2 hU  ) [0], .o, .o]
    [] (fun b => by kernel_rfl)
def sq0_insn_checkSlot_v6   : Spc := ⟨fun ls => .call 57 #[.slice (some ⟨(lget ls 0).n, 0, none⟩) 1 1, .int .i64 (0)], fun ls => [.cells #[.int .u8 (149), .int .u8 (0), .int .u8 (0), .int .i16 (0), .int .i32 (0)] 26], 0, .normal, fun ls => [.int .i64 (0)], fun ls => [.cells #[.int .u8 (149), .int .u8 (0), .int .u8 (0), .int .i16 (0), .int .i32 (0)] 26], fun ls => []⟩
theorem p0_insn_checkSlot_v6 : SpcG Try.prog M B0 S (sq0_insn_checkSlot_v6  ) :=
  fn_specG hU (P := Try.prog) Try.func57 (fun xs w => by kernel_rfl) 1 _ _ (fun _ => rfl) _ _ _ []
    [.o, .o, .o, .o, .a 0, .o, .a 1, .a 1, .cg (ok_insn_known_v3 hU  ), .o, .o, .o, .a 1, .o, .o, .o, .a 1, .o, .o, .o, .o, .a 1, .o, .o, .o, .o, .o, .o, .a 1, .o, .o, .o, .o, .o, .a 1, .o, .o, .o, .o, .o, .o, .a 1, .cg (ok_insn_names_v3 hU  ), .o, .o, .o, .o]
    [] (fun b => by kernel_rfl)
def sq0_insn_split_v4   : Spc := ⟨fun ls => .call 58 #[.slice (some ⟨(lget ls 0).n, 0, none⟩) 1 1], fun ls => [.cells #[.int .u8 (149), .int .u8 (0), .int .u8 (0), .int .i16 (0), .int .i32 (0)] 26], 1, .normal, fun ls => [(rowV (lget ls 1) 1 2)], fun ls => [.cells #[.int .u8 (149), .int .u8 (0), .int .u8 (0), .int .i16 (0), .int .i32 (0)] 26], fun ls => [rowO (lget ls 1) [.int .i64 (0), .int .i64 (1)] 83 1 2]⟩
theorem p0_insn_split_v4 : SpcG Try.prog M B0 S (sq0_insn_split_v4  ) :=
  fn_specG hU (P := Try.prog) Try.func58 (fun xs w => by kernel_rfl) 1 _ _ (fun _ => rfl) _ _ _ [3]
    [.o, .o, .q (ixA_ok (kd := .i64) (T := 140) (x := 0) (sz := 1) (N := 4096) rfl rfl (fun w => by kernel_rfl) (show inR 0 4096 = true from by decide)), .x (sqStF_ok (T := 4) (e := 140) (f := cB) (A := (fun _ => false)) (v := true) 0 (.bool true) cB_len cB_one rfl rfl (fun w => by kernel_rfl) (inR_nat (show inR 0 4096 = true from by decide))) [1], .o, .o, .o, .o, .o, .o, .o, .o, .a 0, .cg (ok_insn_names_v3 hU  ), .o, .o, .o, .o, .a 0, .cg (ok_op_Width_v3 hU  ), .o, .o, .o, .o, .o, .o, .o, .o, .o, .o, .o, .o, .o, .o, .q (ixA_ok (kd := .i64) (T := 140) (x := 0) (sz := 1) (N := 4096) rfl rfl (fun w => by kernel_rfl) (show inR 0 4096 = true from by decide)), .l (accF (i := 1) (f := cB) (A := updF (fun _ => false) 0 true) (k := 0) 0 [.bool true] cB_len (inR_nat (show inR 0 4096 = true from by decide)) rfl), .o, .o, .o, .o, .x (sqAppL1_ok (ty := 79) rt79 #[false, false] (f := c_Part) (c := 1) (⟨0, 0⟩ : Part) (T' := 83) c_Part_len c_Part_one (by decide)) [2], .o, .o, .o, .o, .o, .o, .o, .o, .o, .a 3, .o, .o, .o, .o, .o]
    [] (fun b => by kernel_rfl)
def sq0_op_IsSecond_v6   : Spc := ⟨fun ls => .call 61 #[.slice (some ⟨(lget ls 0).n, 0, none⟩) 1 1, .int .i64 (0)], fun ls => [.cells #[.int .u8 (149), .int .u8 (0), .int .u8 (0), .int .i16 (0), .int .i32 (0)] 26], 0, .normal, fun ls => [.bool false], fun ls => [.cells #[.int .u8 (149), .int .u8 (0), .int .u8 (0), .int .i16 (0), .int .i32 (0)] 26], fun ls => []⟩
theorem p0_op_IsSecond_v6 : SpcG Try.prog M B0 S (sq0_op_IsSecond_v6  ) :=
  fn_specG hU (P := Try.prog) Try.func61 (fun xs w => by kernel_rfl) 1 _ _ (fun _ => rfl) _ _ _ []
    [.o, .o, .o, .o, .o, .o, .o, .o, .o, .o, .o, .o, .o]
    [] (fun b => by kernel_rfl)
def sq0_insn_ends_v4   : Spc := ⟨fun ls => .call 59 #[.slice (some ⟨(lget ls 0).n, 0, none⟩) 1 1, .agg #[.int .i64 (0), .int .i64 (1)]], fun ls => [.cells #[.int .u8 (149), .int .u8 (0), .int .u8 (0), .int .i16 (0), .int .i32 (0)] 26], 0, .normal, fun ls => [.tuple #[.int .i64 (0), .bool true]], fun ls => [.cells #[.int .u8 (149), .int .u8 (0), .int .u8 (0), .int .i16 (0), .int .i32 (0)] 26], fun ls => []⟩
theorem p0_insn_ends_v4 : SpcG Try.prog M B0 S (sq0_insn_ends_v4  ) :=
  fn_specG hU (P := Try.prog) Try.func59 (fun xs w => by kernel_rfl) 1 _ _ (fun _ => rfl) _ _ _ []
    [.o, .o, .o, .o, .a 1, .o, .o, .o, .o, .xg (p0_op_IsSecond_v6 hU  ) [0], .r [0, 1, 2, 3, 4, 5, 6, 7, 8, 9, 10, 11, 12, 13, 14, 15, 16] [] [], .o, .o, .o, .o, .o, .a 0, .o, .o, .o, .o, .o]
    [] (fun b => by kernel_rfl)
def sq0_insn_Subs_v4   : Spc := ⟨fun ls => .call 33 #[.slice (some ⟨(lget ls 0).n, 0, none⟩) 1 1], fun ls => [.cells #[.int .u8 (149), .int .u8 (0), .int .u8 (0), .int .i16 (0), .int .i32 (0)] 26], 1, .normal, fun ls => [.tuple #[(rowV (lget ls 1) 1 2), .int .i64 (0), .int .i64 (0)]], fun ls => [.cells #[.int .u8 (149), .int .u8 (0), .int .u8 (0), .int .i16 (0), .int .i32 (0)] 26], fun ls => [rowO (lget ls 1) [.int .i64 (0), .int .i64 (1)] 83 1 2]⟩
theorem p0_insn_Subs_v4 : SpcG Try.prog M B0 S (sq0_insn_Subs_v4  ) :=
  fn_specG hU (P := Try.prog) Try.func33 (fun xs w => by kernel_rfl) 1 _ _ (fun _ => rfl) _ _ _ [1]
    [.o, .o, .o, .o, .o, .o, .o, .o, .o, .o, .o, .o, .o, .o, .o, .o, .o, .o, .xg (p0_insn_checkSlot_v6 hU  ) [0], .o, .o, .o, .o, .o, .o, .o, .a 0, .cg (ok_op_Width_v3 hU  ), .o, .o, .o, .o, .o, .o, .o, .xg (p0_insn_split_v4 hU  ) [0], .o, .o, .o, .o, .o, .o, .o, .o, .o, .a 1, .o, .a 2, .o, .a 2, .xg (p0_insn_ends_v4 hU  ) [0], .o, .o, .o, .o, .o, .o, .o, .o, .o, .o, .o, .o, .o, .o]
    [] (fun b => by kernel_rfl)
def sq0_insn_jumpsStay_v2   : Spc := ⟨fun ls => .call 34 #[.slice (some ⟨(lget ls 0).n, 0, none⟩) 1 1, .agg #[.int .i64 (0), .int .i64 (1)]], fun ls => [.cells #[.int .u8 (149), .int .u8 (0), .int .u8 (0), .int .i16 (0), .int .i32 (0)] 26], 0, .normal, fun ls => [.tuple #[.int .i64 (0), .bool true]], fun ls => [.cells #[.int .u8 (149), .int .u8 (0), .int .u8 (0), .int .i16 (0), .int .i32 (0)] 26], fun ls => []⟩
theorem p0_insn_jumpsStay_v2 : SpcG Try.prog M B0 S (sq0_insn_jumpsStay_v2  ) :=
  fn_specG hU (P := Try.prog) Try.func34 (fun xs w => by kernel_rfl) 1 _ _ (fun _ => rfl) _ _ _ []
    [.o, .o, .o, .o, .a 1, .o, .o, .o, .a 1, .o, .o, .o, .o, .a 0, .cg (ok_op_Jumps_v3 hU  ), .o, .o, .o, .o, .o, .a 0, .cg (ok_op_Width_v3 hU  ), .o, .o, .o, .o, .a 1, .o, .o, .o]
    [] (fun b => by kernel_rfl)
def sq0_insn_Check_v4   : Spc := ⟨fun ls => .call 15 #[.slice (some ⟨(lget ls 0).n, 0, none⟩) 1 1], fun ls => [.cells #[.int .u8 (149), .int .u8 (0), .int .u8 (0), .int .i16 (0), .int .i32 (0)] 26], 0, .normal, fun ls => [.tuple #[.int .i64 (0), .int .i64 (0)]], fun ls => [.cells #[.int .u8 (149), .int .u8 (0), .int .u8 (0), .int .i16 (0), .int .i32 (0)] 26], fun ls => []⟩
theorem p0_insn_Check_v4 : SpcG Try.prog M B0 S (sq0_insn_Check_v4  ) :=
  fn_specG hU (P := Try.prog) Try.func15 (fun xs w => by kernel_rfl) 1 _ _ (fun _ => rfl) _ _ _ []
    [.o, .o, .o, .xg (p0_insn_Subs_v4 hU  ) [0], .o, .o, .o, .o, .o, .o, .o, .o, .o, .o, .o, .o, .o, .o, .a 1, .o, .a 2, .o, .a 2, .xg (p0_insn_jumpsStay_v2 hU  ) [0], .o, .o, .o, .o, .o, .o, .o, .o, .o, .o, .o, .o]
    [] (fun b => by kernel_rfl)
theorem ok_live_known_v2 : ConG Try.prog S 17 #[.agg #[.int .u8 (149), .int .u8 (0), .int .u8 (0), .int .i16 (0), .int .i32 (0)]] (.bool true) :=
  fn_conG hU (P := Try.prog) Try.func17 (fun xs w => by kernel_rfl) [.agg #[.int .u8 (149), .int .u8 (0), .int .u8 (0), .int .i16 (0), .int .i32 (0)]] (.bool true)
    [.o, .o, .a 0, .o, .xg (p0_insn_Check_v4 hU  ) [1], .o, .o, .o, .o, .o, .o, .o, .o, .o, .a 0, .o, .o, .o, .o, .a 0, .o, .o, .o]
    [] (fun b => by kernel_rfl)
theorem ok_live_jumpReads : ConG Try.prog S 20 #[.agg #[.int .u8 (149), .int .u8 (0), .int .u8 (0), .int .i16 (0), .int .i32 (0)]] (.int .u16 (1)) :=
  fn_conG hU (P := Try.prog) Try.func20 (fun xs w => by kernel_rfl) [.agg #[.int .u8 (149), .int .u8 (0), .int .u8 (0), .int .i16 (0), .int .i32 (0)]] (.int .u16 (1))
    [.o, .o, .o, .a 0, .o, .o, .o, .o, .o, .o]
    [] (fun b => by kernel_rfl)
theorem ok_live_Reads_v2 : ConG Try.prog S 9 #[.agg #[.int .u8 (149), .int .u8 (0), .int .u8 (0), .int .i16 (0), .int .i32 (0)]] (.tuple #[.int .u16 (1), .bool true]) :=
  fn_conG hU (P := Try.prog) Try.func9 (fun xs w => by kernel_rfl) [.agg #[.int .u8 (149), .int .u8 (0), .int .u8 (0), .int .i16 (0), .int .i32 (0)]] (.tuple #[.int .u16 (1), .bool true])
    [.o, .o, .o, .a 0, .cg (ok_live_known_v2 hU  ), .o, .o, .a 0, .o, .o, .o, .o, .o, .o, .o, .o, .o, .o, .o, .o, .o, .a 0, .cg (ok_live_jumpReads hU  ), .o, .o]
    [] (fun b => by kernel_rfl)
theorem ok_live_Writes_v2 : ConG Try.prog S 10 #[.agg #[.int .u8 (149), .int .u8 (0), .int .u8 (0), .int .i16 (0), .int .i32 (0)]] (.tuple #[.int .u16 (0), .bool true]) :=
  fn_conG hU (P := Try.prog) Try.func10 (fun xs w => by kernel_rfl) [.agg #[.int .u8 (149), .int .u8 (0), .int .u8 (0), .int .i16 (0), .int .i32 (0)]] (.tuple #[.int .u16 (0), .bool true])
    [.o, .o, .o, .a 0, .cg (ok_live_known_v2 hU  ), .o, .o, .a 0, .o, .o, .o, .o, .o, .o, .o, .o, .o, .o, .o, .o, .a 0, .o, .o, .o, .o]
    [] (fun b => by kernel_rfl)
def sq0_live_rows_behind   : Spc := ⟨fun ls => .call 23 #[.pointer (some ⟨(lget ls 0).n, 0, none⟩), .int .i64 (2)], fun ls => [.cells #[.slice (some ⟨(lget ls 1).n, 0, none⟩) 3 3, .slice (some ⟨(lget ls 2).n, 0, none⟩) 3 3, .slice (some ⟨(lget ls 3).n, 0, none⟩) 3 3, .slice (some ⟨(lget ls 4).n, 0, none⟩) 3 3] 57, .cells #[.int .u16 (0), .int .u16 (0), .int .u16 (1)] 31, .cells #[.int .u16 (2), .int .u16 (1), .int .u16 (0)] 31, .cells #[.int .u16 (0), .int .u16 (0), .int .u16 (0)] 31, .cells #[.slice (some ⟨(lget ls 5).n, 0, none⟩) 1 1, .slice (some ⟨(lget ls 6).n, 0, none⟩) 1 1, .slice none 0 0] 36, .cells #[.int .i64 (1)] 3, .cells #[.int .i64 (2)] 3], 0, .normal, fun ls => [.int .u16 (0)], fun ls => [.cells #[.slice (some ⟨(lget ls 1).n, 0, none⟩) 3 3, .slice (some ⟨(lget ls 2).n, 0, none⟩) 3 3, .slice (some ⟨(lget ls 3).n, 0, none⟩) 3 3, .slice (some ⟨(lget ls 4).n, 0, none⟩) 3 3] 57, .cells #[.int .u16 (0), .int .u16 (0), .int .u16 (1)] 31, .cells #[.int .u16 (2), .int .u16 (1), .int .u16 (0)] 31, .cells #[.int .u16 (0), .int .u16 (0), .int .u16 (0)] 31, .cells #[.slice (some ⟨(lget ls 5).n, 0, none⟩) 1 1, .slice (some ⟨(lget ls 6).n, 0, none⟩) 1 1, .slice none 0 0] 36, .cells #[.int .i64 (1)] 3, .cells #[.int .i64 (2)] 3], fun ls => []⟩
theorem p0_live_rows_behind : SpcG Try.prog M B0 S (sq0_live_rows_behind  ) :=
  fn_specG hU (P := Try.prog) Try.func23 (fun xs w => by kernel_rfl) 7 _ _ (fun _ => rfl) _ _ _ []
    [.o, .o, .o, .o, .o, .a 0, .o, .o, .a 4, .o, .o, .o, .o, .o]
    [] (fun b => by kernel_rfl)
def sq0_live_rows_join   : Spc := ⟨fun ls => .call 37 #[.pointer (some ⟨(lget ls 0).n, 0, none⟩), .int .i64 (2)], fun ls => [.cells #[.slice (some ⟨(lget ls 1).n, 0, none⟩) 3 3, .slice (some ⟨(lget ls 2).n, 0, none⟩) 3 3, .slice (some ⟨(lget ls 3).n, 0, none⟩) 3 3, .slice (some ⟨(lget ls 4).n, 0, none⟩) 3 3] 57, .cells #[.int .u16 (0), .int .u16 (0), .int .u16 (1)] 31, .cells #[.int .u16 (2), .int .u16 (1), .int .u16 (0)] 31, .cells #[.int .u16 (0), .int .u16 (0), .int .u16 (0)] 31, .cells #[.slice (some ⟨(lget ls 5).n, 0, none⟩) 1 1, .slice (some ⟨(lget ls 6).n, 0, none⟩) 1 1, .slice none 0 0] 36, .cells #[.int .i64 (1)] 3, .cells #[.int .i64 (2)] 3], 0, .normal, fun ls => [.bool true], fun ls => [.cells #[.slice (some ⟨(lget ls 1).n, 0, none⟩) 3 3, .slice (some ⟨(lget ls 2).n, 0, none⟩) 3 3, .slice (some ⟨(lget ls 3).n, 0, none⟩) 3 3, .slice (some ⟨(lget ls 4).n, 0, none⟩) 3 3] 57, .cells #[.int .u16 (0), .int .u16 (0), .int .u16 (1)] 31, .cells #[.int .u16 (2), .int .u16 (1), .int .u16 (0)] 31, .cells #[.int .u16 (0), .int .u16 (0), .int .u16 (1)] 31, .cells #[.slice (some ⟨(lget ls 5).n, 0, none⟩) 1 1, .slice (some ⟨(lget ls 6).n, 0, none⟩) 1 1, .slice none 0 0] 36, .cells #[.int .i64 (1)] 3, .cells #[.int .i64 (2)] 3], fun ls => []⟩
theorem p0_live_rows_join : SpcG Try.prog M B0 S (sq0_live_rows_join  ) :=
  fn_specG hU (P := Try.prog) Try.func37 (fun xs w => by kernel_rfl) 7 _ _ (fun _ => rfl) _ _ _ []
    [.o, .o, .o, .o, .a 0, .o, .o, .a 3, .o, .r [0, 1, 2, 3, 4, 5, 6, 7, 8, 9, 10, 11, 12, 13, 14, 15, 17, 18, 19, 20, 21, 22, 23] [] [16, 24, 25, 26, 27, 28], .o, .o, .o, .a 0, .o, .o, .a 3, .o, .o, .o, .a 0, .o, .o, .a 1, .o, .o, .o, .o, .o, .a 0, .o, .o, .a 2, .xr (p0_live_rows_behind hU  ) (fun _ => rfl) rfl (fun _ => rfl) [0, 1, 2, 3, 4, 5, 6], .o, .o, .o, .o, .a 3, .o, .o, .o, .a 0, .o, .o, .a 3, .o, .o, .o]
    [] (fun b => by kernel_rfl)
def sq0_live_rows_behind_v1   : Spc := ⟨fun ls => .call 23 #[.pointer (some ⟨(lget ls 0).n, 0, none⟩), .int .i64 (1)], fun ls => [.cells #[.slice (some ⟨(lget ls 1).n, 0, none⟩) 3 3, .slice (some ⟨(lget ls 2).n, 0, none⟩) 3 3, .slice (some ⟨(lget ls 3).n, 0, none⟩) 3 3, .slice (some ⟨(lget ls 4).n, 0, none⟩) 3 3] 57, .cells #[.int .u16 (0), .int .u16 (0), .int .u16 (1)] 31, .cells #[.int .u16 (2), .int .u16 (1), .int .u16 (0)] 31, .cells #[.int .u16 (0), .int .u16 (0), .int .u16 (1)] 31, .cells #[.slice (some ⟨(lget ls 5).n, 0, none⟩) 1 1, .slice (some ⟨(lget ls 6).n, 0, none⟩) 1 1, .slice none 0 0] 36, .cells #[.int .i64 (1)] 3, .cells #[.int .i64 (2)] 3], 0, .normal, fun ls => [.int .u16 (1)], fun ls => [.cells #[.slice (some ⟨(lget ls 1).n, 0, none⟩) 3 3, .slice (some ⟨(lget ls 2).n, 0, none⟩) 3 3, .slice (some ⟨(lget ls 3).n, 0, none⟩) 3 3, .slice (some ⟨(lget ls 4).n, 0, none⟩) 3 3] 57, .cells #[.int .u16 (0), .int .u16 (0), .int .u16 (1)] 31, .cells #[.int .u16 (2), .int .u16 (1), .int .u16 (0)] 31, .cells #[.int .u16 (0), .int .u16 (0), .int .u16 (1)] 31, .cells #[.slice (some ⟨(lget ls 5).n, 0, none⟩) 1 1, .slice (some ⟨(lget ls 6).n, 0, none⟩) 1 1, .slice none 0 0] 36, .cells #[.int .i64 (1)] 3, .cells #[.int .i64 (2)] 3], fun ls => []⟩
theorem p0_live_rows_behind_v1 : SpcG Try.prog M B0 S (sq0_live_rows_behind_v1  ) :=
  fn_specG hU (P := Try.prog) Try.func23 (fun xs w => by kernel_rfl) 7 _ _ (fun _ => rfl) _ _ _ []
    [.o, .o, .o, .o, .o, .a 0, .o, .o, .a 4, .o, .o, .o, .o, .a 6, .o, .o, .o, .o, .o, .a 0, .o, .o, .a 3, .o, .o, .o, .o, .o, .o, .o]
    [] (fun b => by kernel_rfl)
def sq0_live_rows_join_v1   : Spc := ⟨fun ls => .call 37 #[.pointer (some ⟨(lget ls 0).n, 0, none⟩), .int .i64 (1)], fun ls => [.cells #[.slice (some ⟨(lget ls 1).n, 0, none⟩) 3 3, .slice (some ⟨(lget ls 2).n, 0, none⟩) 3 3, .slice (some ⟨(lget ls 3).n, 0, none⟩) 3 3, .slice (some ⟨(lget ls 4).n, 0, none⟩) 3 3] 57, .cells #[.int .u16 (0), .int .u16 (0), .int .u16 (1)] 31, .cells #[.int .u16 (2), .int .u16 (1), .int .u16 (0)] 31, .cells #[.int .u16 (0), .int .u16 (0), .int .u16 (1)] 31, .cells #[.slice (some ⟨(lget ls 5).n, 0, none⟩) 1 1, .slice (some ⟨(lget ls 6).n, 0, none⟩) 1 1, .slice none 0 0] 36, .cells #[.int .i64 (1)] 3, .cells #[.int .i64 (2)] 3], 0, .normal, fun ls => [.bool false], fun ls => [.cells #[.slice (some ⟨(lget ls 1).n, 0, none⟩) 3 3, .slice (some ⟨(lget ls 2).n, 0, none⟩) 3 3, .slice (some ⟨(lget ls 3).n, 0, none⟩) 3 3, .slice (some ⟨(lget ls 4).n, 0, none⟩) 3 3] 57, .cells #[.int .u16 (0), .int .u16 (0), .int .u16 (1)] 31, .cells #[.int .u16 (2), .int .u16 (1), .int .u16 (0)] 31, .cells #[.int .u16 (0), .int .u16 (0), .int .u16 (1)] 31, .cells #[.slice (some ⟨(lget ls 5).n, 0, none⟩) 1 1, .slice (some ⟨(lget ls 6).n, 0, none⟩) 1 1, .slice none 0 0] 36, .cells #[.int .i64 (1)] 3, .cells #[.int .i64 (2)] 3], fun ls => []⟩
theorem p0_live_rows_join_v1 : SpcG Try.prog M B0 S (sq0_live_rows_join_v1  ) :=
  fn_specG hU (P := Try.prog) Try.func37 (fun xs w => by kernel_rfl) 7 _ _ (fun _ => rfl) _ _ _ []
    [.o, .o, .o, .o, .a 0, .o, .o, .a 3, .o, .r [0, 1, 2, 3, 4, 5, 6, 7, 8, 9, 10, 11, 12, 13, 14, 15, 17, 18, 19, 20, 21, 22, 23] [] [16, 24, 25, 26, 27, 28], .o, .o, .o, .a 0, .o, .o, .a 3, .o, .o, .o, .a 0, .o, .o, .a 1, .o, .o, .o, .o, .o, .a 0, .o, .o, .a 2, .xr (p0_live_rows_behind_v1 hU  ) (fun _ => rfl) rfl (fun _ => rfl) [0, 1, 2, 3, 4, 5, 6], .o, .o, .o, .o, .a 3, .o, .o, .o, .a 0, .o, .o, .a 3, .o, .o, .o]
    [] (fun b => by kernel_rfl)
def sq0_live_rows_behind_v2   : Spc := ⟨fun ls => .call 23 #[.pointer (some ⟨(lget ls 0).n, 0, none⟩), .int .i64 (0)], fun ls => [.cells #[.slice (some ⟨(lget ls 1).n, 0, none⟩) 3 3, .slice (some ⟨(lget ls 2).n, 0, none⟩) 3 3, .slice (some ⟨(lget ls 3).n, 0, none⟩) 3 3, .slice (some ⟨(lget ls 4).n, 0, none⟩) 3 3] 57, .cells #[.int .u16 (0), .int .u16 (0), .int .u16 (1)] 31, .cells #[.int .u16 (2), .int .u16 (1), .int .u16 (0)] 31, .cells #[.int .u16 (0), .int .u16 (0), .int .u16 (1)] 31, .cells #[.slice (some ⟨(lget ls 5).n, 0, none⟩) 1 1, .slice (some ⟨(lget ls 6).n, 0, none⟩) 1 1, .slice none 0 0] 36, .cells #[.int .i64 (1)] 3, .cells #[.int .i64 (2)] 3], 0, .normal, fun ls => [.int .u16 (0)], fun ls => [.cells #[.slice (some ⟨(lget ls 1).n, 0, none⟩) 3 3, .slice (some ⟨(lget ls 2).n, 0, none⟩) 3 3, .slice (some ⟨(lget ls 3).n, 0, none⟩) 3 3, .slice (some ⟨(lget ls 4).n, 0, none⟩) 3 3] 57, .cells #[.int .u16 (0), .int .u16 (0), .int .u16 (1)] 31, .cells #[.int .u16 (2), .int .u16 (1), .int .u16 (0)] 31, .cells #[.int .u16 (0), .int .u16 (0), .int .u16 (1)] 31, .cells #[.slice (some ⟨(lget ls 5).n, 0, none⟩) 1 1, .slice (some ⟨(lget ls 6).n, 0, none⟩) 1 1, .slice none 0 0] 36, .cells #[.int .i64 (1)] 3, .cells #[.int .i64 (2)] 3], fun ls => []⟩
theorem p0_live_rows_behind_v2 : SpcG Try.prog M B0 S (sq0_live_rows_behind_v2  ) :=
  fn_specG hU (P := Try.prog) Try.func23 (fun xs w => by kernel_rfl) 7 _ _ (fun _ => rfl) _ _ _ []
    [.o, .o, .o, .o, .o, .a 0, .o, .o, .a 4, .o, .o, .o, .o, .a 5, .o, .o, .o, .o, .o, .a 0, .o, .o, .a 3, .o, .o, .o, .o, .o, .o, .o]
    [] (fun b => by kernel_rfl)
def sq0_live_rows_join_v2   : Spc := ⟨fun ls => .call 37 #[.pointer (some ⟨(lget ls 0).n, 0, none⟩), .int .i64 (0)], fun ls => [.cells #[.slice (some ⟨(lget ls 1).n, 0, none⟩) 3 3, .slice (some ⟨(lget ls 2).n, 0, none⟩) 3 3, .slice (some ⟨(lget ls 3).n, 0, none⟩) 3 3, .slice (some ⟨(lget ls 4).n, 0, none⟩) 3 3] 57, .cells #[.int .u16 (0), .int .u16 (0), .int .u16 (1)] 31, .cells #[.int .u16 (2), .int .u16 (1), .int .u16 (0)] 31, .cells #[.int .u16 (0), .int .u16 (0), .int .u16 (1)] 31, .cells #[.slice (some ⟨(lget ls 5).n, 0, none⟩) 1 1, .slice (some ⟨(lget ls 6).n, 0, none⟩) 1 1, .slice none 0 0] 36, .cells #[.int .i64 (1)] 3, .cells #[.int .i64 (2)] 3], 0, .normal, fun ls => [.bool false], fun ls => [.cells #[.slice (some ⟨(lget ls 1).n, 0, none⟩) 3 3, .slice (some ⟨(lget ls 2).n, 0, none⟩) 3 3, .slice (some ⟨(lget ls 3).n, 0, none⟩) 3 3, .slice (some ⟨(lget ls 4).n, 0, none⟩) 3 3] 57, .cells #[.int .u16 (0), .int .u16 (0), .int .u16 (1)] 31, .cells #[.int .u16 (2), .int .u16 (1), .int .u16 (0)] 31, .cells #[.int .u16 (0), .int .u16 (0), .int .u16 (1)] 31, .cells #[.slice (some ⟨(lget ls 5).n, 0, none⟩) 1 1, .slice (some ⟨(lget ls 6).n, 0, none⟩) 1 1, .slice none 0 0] 36, .cells #[.int .i64 (1)] 3, .cells #[.int .i64 (2)] 3], fun ls => []⟩
theorem p0_live_rows_join_v2 : SpcG Try.prog M B0 S (sq0_live_rows_join_v2  ) :=
  fn_specG hU (P := Try.prog) Try.func37 (fun xs w => by kernel_rfl) 7 _ _ (fun _ => rfl) _ _ _ []
    [.o, .o, .o, .o, .a 0, .o, .o, .a 3, .o, .r [0, 1, 2, 3, 4, 5, 6, 7, 8, 9, 10, 11, 12, 13, 14, 15, 17, 18, 19, 20, 21, 22, 23] [] [16, 24, 25, 26, 27, 28], .o, .o, .o, .a 0, .o, .o, .a 3, .o, .o, .o, .a 0, .o, .o, .a 1, .o, .o, .o, .o, .o, .a 0, .o, .o, .a 2, .xr (p0_live_rows_behind_v2 hU  ) (fun _ => rfl) rfl (fun _ => rfl) [0, 1, 2, 3, 4, 5, 6], .o, .o, .o, .o, .a 3, .o, .o, .o, .a 0, .o, .o, .a 3, .o, .o, .o]
    [] (fun b => by kernel_rfl)
def sq0_live_changes   : Spc := ⟨fun ls => .call 36 #[.int .i64 (3), .func (.func 37) #[.pointer (some ⟨(lget ls 0).n, 0, none⟩)] #[]], fun ls => [.cells #[.slice (some ⟨(lget ls 1).n, 0, none⟩) 3 3, .slice (some ⟨(lget ls 2).n, 0, none⟩) 3 3, .slice (some ⟨(lget ls 3).n, 0, none⟩) 3 3, .slice (some ⟨(lget ls 4).n, 0, none⟩) 3 3] 57, .cells #[.int .u16 (0), .int .u16 (0), .int .u16 (1)] 31, .cells #[.int .u16 (2), .int .u16 (1), .int .u16 (0)] 31, .cells #[.int .u16 (0), .int .u16 (0), .int .u16 (0)] 31, .cells #[.slice (some ⟨(lget ls 5).n, 0, none⟩) 1 1, .slice (some ⟨(lget ls 6).n, 0, none⟩) 1 1, .slice none 0 0] 36, .cells #[.int .i64 (1)] 3, .cells #[.int .i64 (2)] 3], 0, .normal, fun ls => [.bool true], fun ls => [.cells #[.slice (some ⟨(lget ls 1).n, 0, none⟩) 3 3, .slice (some ⟨(lget ls 2).n, 0, none⟩) 3 3, .slice (some ⟨(lget ls 3).n, 0, none⟩) 3 3, .slice (some ⟨(lget ls 4).n, 0, none⟩) 3 3] 57, .cells #[.int .u16 (0), .int .u16 (0), .int .u16 (1)] 31, .cells #[.int .u16 (2), .int .u16 (1), .int .u16 (0)] 31, .cells #[.int .u16 (0), .int .u16 (0), .int .u16 (1)] 31, .cells #[.slice (some ⟨(lget ls 5).n, 0, none⟩) 1 1, .slice (some ⟨(lget ls 6).n, 0, none⟩) 1 1, .slice none 0 0] 36, .cells #[.int .i64 (1)] 3, .cells #[.int .i64 (2)] 3], fun ls => []⟩
theorem p0_live_changes : SpcG Try.prog M B0 S (sq0_live_changes  ) :=
  fn_specG hU (P := Try.prog) Try.func36 (fun xs w => by kernel_rfl) 7 _ _ (fun _ => rfl) _ _ _ []
    [.o, .o, .o, .o, .o, .o, .o, .o, .o, .xg (p0_live_rows_join hU  ) [0, 1, 2, 3, 4, 5, 6], .o, .o, .o, .o, .o, .o, .o, .o, .o, .xg (p0_live_rows_join_v1 hU  ) [0, 1, 2, 3, 4, 5, 6], .o, .o, .o, .o, .o, .o, .o, .o, .xg (p0_live_rows_join_v2 hU  ) [0, 1, 2, 3, 4, 5, 6], .o, .o, .o, .o, .o, .o, .o, .o]
    [] (fun b => by kernel_rfl)
def sq0_live_rows_behind_v3   : Spc := ⟨fun ls => .call 23 #[.pointer (some ⟨(lget ls 0).n, 0, none⟩), .int .i64 (2)], fun ls => [.cells #[.slice (some ⟨(lget ls 1).n, 0, none⟩) 3 3, .slice (some ⟨(lget ls 2).n, 0, none⟩) 3 3, .slice (some ⟨(lget ls 3).n, 0, none⟩) 3 3, .slice (some ⟨(lget ls 4).n, 0, none⟩) 3 3] 57, .cells #[.int .u16 (0), .int .u16 (0), .int .u16 (1)] 31, .cells #[.int .u16 (2), .int .u16 (1), .int .u16 (0)] 31, .cells #[.int .u16 (0), .int .u16 (0), .int .u16 (1)] 31, .cells #[.slice (some ⟨(lget ls 5).n, 0, none⟩) 1 1, .slice (some ⟨(lget ls 6).n, 0, none⟩) 1 1, .slice none 0 0] 36, .cells #[.int .i64 (1)] 3, .cells #[.int .i64 (2)] 3], 0, .normal, fun ls => [.int .u16 (0)], fun ls => [.cells #[.slice (some ⟨(lget ls 1).n, 0, none⟩) 3 3, .slice (some ⟨(lget ls 2).n, 0, none⟩) 3 3, .slice (some ⟨(lget ls 3).n, 0, none⟩) 3 3, .slice (some ⟨(lget ls 4).n, 0, none⟩) 3 3] 57, .cells #[.int .u16 (0), .int .u16 (0), .int .u16 (1)] 31, .cells #[.int .u16 (2), .int .u16 (1), .int .u16 (0)] 31, .cells #[.int .u16 (0), .int .u16 (0), .int .u16 (1)] 31, .cells #[.slice (some ⟨(lget ls 5).n, 0, none⟩) 1 1, .slice (some ⟨(lget ls 6).n, 0, none⟩) 1 1, .slice none 0 0] 36, .cells #[.int .i64 (1)] 3, .cells #[.int .i64 (2)] 3], fun ls => []⟩
theorem p0_live_rows_behind_v3 : SpcG Try.prog M B0 S (sq0_live_rows_behind_v3  ) :=
  fn_specG hU (P := Try.prog) Try.func23 (fun xs w => by kernel_rfl) 7 _ _ (fun _ => rfl) _ _ _ []
    [.o, .o, .o, .o, .o, .a 0, .o, .o, .a 4, .o, .o, .o, .o, .o]
    [] (fun b => by kernel_rfl)
def sq0_live_rows_join_v3   : Spc := ⟨fun ls => .call 37 #[.pointer (some ⟨(lget ls 0).n, 0, none⟩), .int .i64 (2)], fun ls => [.cells #[.slice (some ⟨(lget ls 1).n, 0, none⟩) 3 3, .slice (some ⟨(lget ls 2).n, 0, none⟩) 3 3, .slice (some ⟨(lget ls 3).n, 0, none⟩) 3 3, .slice (some ⟨(lget ls 4).n, 0, none⟩) 3 3] 57, .cells #[.int .u16 (0), .int .u16 (0), .int .u16 (1)] 31, .cells #[.int .u16 (2), .int .u16 (1), .int .u16 (0)] 31, .cells #[.int .u16 (0), .int .u16 (0), .int .u16 (1)] 31, .cells #[.slice (some ⟨(lget ls 5).n, 0, none⟩) 1 1, .slice (some ⟨(lget ls 6).n, 0, none⟩) 1 1, .slice none 0 0] 36, .cells #[.int .i64 (1)] 3, .cells #[.int .i64 (2)] 3], 0, .normal, fun ls => [.bool false], fun ls => [.cells #[.slice (some ⟨(lget ls 1).n, 0, none⟩) 3 3, .slice (some ⟨(lget ls 2).n, 0, none⟩) 3 3, .slice (some ⟨(lget ls 3).n, 0, none⟩) 3 3, .slice (some ⟨(lget ls 4).n, 0, none⟩) 3 3] 57, .cells #[.int .u16 (0), .int .u16 (0), .int .u16 (1)] 31, .cells #[.int .u16 (2), .int .u16 (1), .int .u16 (0)] 31, .cells #[.int .u16 (0), .int .u16 (0), .int .u16 (1)] 31, .cells #[.slice (some ⟨(lget ls 5).n, 0, none⟩) 1 1, .slice (some ⟨(lget ls 6).n, 0, none⟩) 1 1, .slice none 0 0] 36, .cells #[.int .i64 (1)] 3, .cells #[.int .i64 (2)] 3], fun ls => []⟩
theorem p0_live_rows_join_v3 : SpcG Try.prog M B0 S (sq0_live_rows_join_v3  ) :=
  fn_specG hU (P := Try.prog) Try.func37 (fun xs w => by kernel_rfl) 7 _ _ (fun _ => rfl) _ _ _ []
    [.o, .o, .o, .o, .a 0, .o, .o, .a 3, .o, .r [0, 1, 2, 3, 4, 5, 6, 7, 8, 9, 10, 11, 12, 13, 14, 15, 17, 18, 19, 20, 21, 22, 23] [] [16, 24, 25, 26, 27, 28], .o, .o, .o, .a 0, .o, .o, .a 3, .o, .o, .o, .a 0, .o, .o, .a 1, .o, .o, .o, .o, .o, .a 0, .o, .o, .a 2, .xr (p0_live_rows_behind_v3 hU  ) (fun _ => rfl) rfl (fun _ => rfl) [0, 1, 2, 3, 4, 5, 6], .o, .o, .o, .o, .a 3, .o, .o, .o, .a 0, .o, .o, .a 3, .o, .o, .o]
    [] (fun b => by kernel_rfl)
def sq0_live_changes_v1   : Spc := ⟨fun ls => .call 36 #[.int .i64 (3), .func (.func 37) #[.pointer (some ⟨(lget ls 0).n, 0, none⟩)] #[]], fun ls => [.cells #[.slice (some ⟨(lget ls 1).n, 0, none⟩) 3 3, .slice (some ⟨(lget ls 2).n, 0, none⟩) 3 3, .slice (some ⟨(lget ls 3).n, 0, none⟩) 3 3, .slice (some ⟨(lget ls 4).n, 0, none⟩) 3 3] 57, .cells #[.int .u16 (0), .int .u16 (0), .int .u16 (1)] 31, .cells #[.int .u16 (2), .int .u16 (1), .int .u16 (0)] 31, .cells #[.int .u16 (0), .int .u16 (0), .int .u16 (1)] 31, .cells #[.slice (some ⟨(lget ls 5).n, 0, none⟩) 1 1, .slice (some ⟨(lget ls 6).n, 0, none⟩) 1 1, .slice none 0 0] 36, .cells #[.int .i64 (1)] 3, .cells #[.int .i64 (2)] 3], 0, .normal, fun ls => [.bool false], fun ls => [.cells #[.slice (some ⟨(lget ls 1).n, 0, none⟩) 3 3, .slice (some ⟨(lget ls 2).n, 0, none⟩) 3 3, .slice (some ⟨(lget ls 3).n, 0, none⟩) 3 3, .slice (some ⟨(lget ls 4).n, 0, none⟩) 3 3] 57, .cells #[.int .u16 (0), .int .u16 (0), .int .u16 (1)] 31, .cells #[.int .u16 (2), .int .u16 (1), .int .u16 (0)] 31, .cells #[.int .u16 (0), .int .u16 (0), .int .u16 (1)] 31, .cells #[.slice (some ⟨(lget ls 5).n, 0, none⟩) 1 1, .slice (some ⟨(lget ls 6).n, 0, none⟩) 1 1, .slice none 0 0] 36, .cells #[.int .i64 (1)] 3, .cells #[.int .i64 (2)] 3], fun ls => []⟩
theorem p0_live_changes_v1 : SpcG Try.prog M B0 S (sq0_live_changes_v1  ) :=
  fn_specG hU (P := Try.prog) Try.func36 (fun xs w => by kernel_rfl) 7 _ _ (fun _ => rfl) _ _ _ []
    [.o, .o, .o, .o, .o, .o, .o, .o, .o, .xg (p0_live_rows_join_v3 hU  ) [0, 1, 2, 3, 4, 5, 6], .o, .o, .o, .o, .o, .o, .o, .o, .xg (p0_live_rows_join_v1 hU  ) [0, 1, 2, 3, 4, 5, 6], .o, .o, .o, .o, .o, .o, .o, .o, .xg (p0_live_rows_join_v2 hU  ) [0, 1, 2, 3, 4, 5, 6], .o, .o, .o, .o, .o, .o, .o, .o]
    [] (fun b => by kernel_rfl)
def sq0_live_look   : Spc := ⟨fun ls => .call 16 #[.slice (some ⟨(lget ls 0).n, 0, none⟩) 3 3], fun ls => [.cells #[.int .u8 (183), .int .u8 (1), .int .u8 (0), .int .i16 (0), .int .i32 (1), .int .u8 (183), .int .u8 (0), .int .u8 (0), .int .i16 (0), .int .i32 (2), .int .u8 (149), .int .u8 (0), .int .u8 (0), .int .i16 (0), .int .i32 (0)] 26], 7, .normal, fun ls => [.pointer (some ⟨(lget ls 1).n, 0, none⟩)], fun ls => [.cells #[.int .u8 (183), .int .u8 (1), .int .u8 (0), .int .i16 (0), .int .i32 (1), .int .u8 (183), .int .u8 (0), .int .u8 (0), .int .i16 (0), .int .i32 (2), .int .u8 (149), .int .u8 (0), .int .u8 (0), .int .i16 (0), .int .i32 (0)] 26], fun ls => [.cells #[.slice (some ⟨(lget ls 2).n, 0, none⟩) 3 3, .slice (some ⟨(lget ls 3).n, 0, none⟩) 3 3, .slice (some ⟨(lget ls 4).n, 0, none⟩) 3 3, .slice (some ⟨(lget ls 5).n, 0, none⟩) 3 3] 57, .cells #[.int .u16 (0), .int .u16 (0), .int .u16 (1)] 31, .cells #[.int .u16 (2), .int .u16 (1), .int .u16 (0)] 31, .cells #[.int .u16 (0), .int .u16 (0), .int .u16 (1)] 31, .cells #[.slice (some ⟨(lget ls 6).n, 0, none⟩) 1 1, .slice (some ⟨(lget ls 7).n, 0, none⟩) 1 1, .slice none 0 0] 36, .cells #[.int .i64 (1)] 3, .cells #[.int .i64 (2)] 3]⟩
theorem p0_live_look : SpcG Try.prog M B0 S (sq0_live_look  ) :=
  fn_specG hU (P := Try.prog) Try.func16 (fun xs w => by kernel_rfl) 1 _ _ (fun _ => rfl) _ _ _ [5, 1, 2, 3, 4, 7, 9]
    [.o, .rm [0, 1, 3, 4, 6, 7, 9, 10] [2, 5, 8, 11] [12, 13, 14] [(2, ⟨_, mkLit_ok rt27 (n := 3) (c := #[.int .u16 (0), .int .u16 (0), .int .u16 (0)]) (by decide) (by decide) (by kernel_rfl)⟩), (5, ⟨_, mkLit_ok rt27 (n := 3) (c := #[.int .u16 (0), .int .u16 (0), .int .u16 (0)]) (by decide) (by decide) (by kernel_rfl)⟩), (8, ⟨_, mkLit_ok rt27 (n := 3) (c := #[.int .u16 (0), .int .u16 (0), .int .u16 (0)]) (by decide) (by decide) (by kernel_rfl)⟩), (11, ⟨_, mkLit_ok rt55 (n := 3) (c := #[.slice none 0 0, .slice none 0 0, .slice none 0 0]) (by decide) (by decide) (by kernel_rfl)⟩)], .o, .o, .o, .o, .o, .o, .o, .o, .o, .o, .o, .o, .o, .o, .o, .o, .o, .a 0, .o, .o, .a 6, .o, .o, .xg (p0_flow_Next hU  ) [0], .o, .o, .o, .o, .o, .o, .o, .o, .o, .o, .a 5, .o, .o, .o, .a 4, .r [0, 1, 2, 3, 4, 5, 6, 7, 8, 9, 10] [] [11], .o, .o, .o, .a 5, .o, .a 6, .cg (ok_live_Reads hU  ), .o, .o, .o, .o, .a 1, .r [0, 1, 2, 3, 4, 5, 6, 7, 8, 9, 10] [] [11], .o, .o, .o, .a 5, .o, .a 6, .cg (ok_live_Writes hU  ), .o, .o, .o, .o, .a 2, .o, .o, .o, .o, .o, .a 0, .o, .o, .a 8, .o, .o, .xg (p0_flow_Next_v1 hU  ) [0], .o, .o, .o, .o, .o, .o, .o, .o, .o, .o, .a 5, .o, .o, .o, .a 4, .r [0, 1, 2, 3, 4, 5, 6, 7, 8, 9, 10] [] [11], .o, .o, .o, .a 5, .o, .a 8, .cg (ok_live_Reads_v1 hU  ), .o, .o, .o, .o, .a 1, .r [0, 1, 2, 3, 4, 5, 6, 7, 8, 9, 10] [] [11], .o, .o, .o, .a 5, .o, .a 8, .cg (ok_live_Writes_v1 hU  ), .o, .o, .o, .o, .a 2, .o, .o, .o, .o, .o, .a 0, .o, .o, .a 10, .o, .o, .xg (p0_flow_Next_v2 hU  ) [0], .o, .o, .o, .o, .o, .o, .o, .o, .o, .o, .a 5, .o, .o, .o, .a 4, .r [0, 1, 2, 3, 4, 5, 6, 7, 8, 9, 10] [] [11], .o, .o, .o, .a 5, .o, .a 10, .cg (ok_live_Reads_v2 hU  ), .o, .o, .o, .o, .a 1, .r [0, 1, 2, 3, 4, 5, 6, 7, 8, 9, 10] [] [11], .o, .o, .o, .a 5, .o, .a 10, .cg (ok_live_Writes_v2 hU  ), .o, .o, .o, .o, .a 2, .o, .o, .o, .o, .o, .o, .o, .xg (p0_live_changes hU  ) [5, 1, 2, 3, 4, 7, 9], .o, .o, .o, .o, .xg (p0_live_changes_v1 hU  ) [5, 1, 2, 3, 4, 7, 9], .o, .o]
    [] (fun b => by kernel_rfl)
theorem ok_live_sets : ConG Try.prog S 22 #[.agg #[.int .u8 (183), .int .u8 (1), .int .u8 (0), .int .i16 (0), .int .i32 (1)]] (.bool true) :=
  fn_conG hU (P := Try.prog) Try.func22 (fun xs w => by kernel_rfl) [.agg #[.int .u8 (183), .int .u8 (1), .int .u8 (0), .int .i16 (0), .int .i32 (1)]] (.bool true)
    [.o, .o, .o, .a 0, .o, .o, .o, .o, .o, .o, .o, .o]
    [] (fun b => by kernel_rfl)
theorem ok_live_sets_v1 : ConG Try.prog S 22 #[.agg #[.int .u8 (183), .int .u8 (0), .int .u8 (0), .int .i16 (0), .int .i32 (2)]] (.bool true) :=
  fn_conG hU (P := Try.prog) Try.func22 (fun xs w => by kernel_rfl) [.agg #[.int .u8 (183), .int .u8 (0), .int .u8 (0), .int .i16 (0), .int .i32 (2)]] (.bool true)
    [.o, .o, .o, .a 0, .o, .o, .o, .o, .o, .o, .o, .o]
    [] (fun b => by kernel_rfl)
theorem ok_live_sets_v2 : ConG Try.prog S 22 #[.agg #[.int .u8 (149), .int .u8 (0), .int .u8 (0), .int .i16 (0), .int .i32 (0)]] (.bool false) :=
  fn_conG hU (P := Try.prog) Try.func22 (fun xs w => by kernel_rfl) [.agg #[.int .u8 (149), .int .u8 (0), .int .u8 (0), .int .i16 (0), .int .i32 (0)]] (.bool false)
    [.o, .o, .o, .a 0, .o, .o, .o, .o, .o, .o, .o, .o]
    [] (fun b => by kernel_rfl)
def sq0_live_Dead   : Spc := ⟨fun ls => .call 11 #[.slice (some ⟨(lget ls 0).n, 0, none⟩) 3 3], fun ls => [.cells #[.int .u8 (183), .int .u8 (1), .int .u8 (0), .int .i16 (0), .int .i32 (1), .int .u8 (183), .int .u8 (0), .int .u8 (0), .int .i16 (0), .int .i32 (2), .int .u8 (149), .int .u8 (0), .int .u8 (0), .int .i16 (0), .int .i32 (0)] 26], 1, .normal, fun ls => [.tuple #[(rowV (lget ls 1) 1 1), .int .i64 (0)]], fun ls => [.cells #[.int .u8 (183), .int .u8 (1), .int .u8 (0), .int .i16 (0), .int .i32 (1), .int .u8 (183), .int .u8 (0), .int .u8 (0), .int .i16 (0), .int .i32 (2), .int .u8 (149), .int .u8 (0), .int .u8 (0), .int .i16 (0), .int .i32 (0)] 26], fun ls => [rowO (lget ls 1) [.int .i64 (0)] 3 1 1]⟩
theorem p0_live_Dead : SpcG Try.prog M B0 S (sq0_live_Dead  ) :=
  fn_specG hU (P := Try.prog) Try.func11 (fun xs w => by kernel_rfl) 1 _ _ (fun _ => rfl) _ _ _ [11]
    [.o, .o, .o, .xg (p0_insn_Check_v1 hU  ) [0], .o, .o, .o, .o, .o, .o, .o, .o, .xg (p0_flow_Reached hU  ) [0], .o, .o, .o, .o, .o, .o, .xg (p0_live_look hU  ) [0], .o, .o, .o, .o, .o, .o, .o, .o, .a 0, .o, .o, .a 9, .r [0, 1, 2, 3, 4, 5, 6, 7, 8, 9, 10, 12, 13] [] [11, 14, 15, 16, 17], .o, .o, .o, .a 1, .o, .a 9, .cg (ok_live_sets hU  ), .o, .o, .o, .o, .o, .a 9, .xr (p0_live_rows_behind_v2 hU  ) (fun _ => rfl) rfl (fun _ => rfl) [2, 3, 4, 5, 6, 7, 8], .cg (ok_live_bit hU  ), .o, .o, .o, .o, .o, .o, .x (sqAppL1_ok (ty := 36) rt36 #[false, false] (f := cZ) (c := 1) 0 (T' := 3) cZ_len cZ_one (by decide)) [10], .o, .o, .o, .o, .o, .o, .a 0, .o, .o, .a 12, .r [0, 1, 2, 3, 4, 5, 6, 7, 8, 9, 10, 12, 13] [] [11, 14, 15, 16, 17], .o, .o, .o, .a 1, .o, .a 12, .cg (ok_live_sets_v1 hU  ), .o, .o, .o, .o, .o, .a 12, .xr (p0_live_rows_behind_v1 hU  ) (fun _ => rfl) rfl (fun _ => rfl) [2, 3, 4, 5, 6, 7, 8], .cg (ok_live_bit_v1 hU  ), .o, .o, .o, .o, .o, .o, .o, .o, .a 0, .o, .o, .a 13, .r [0, 1, 2, 3, 4, 5, 6, 7, 8, 9, 10, 12, 13] [] [11, 14, 15, 16, 17], .o, .o, .o, .a 1, .o, .a 13, .cg (ok_live_sets_v2 hU  ), .o, .o, .o, .o, .o, .o, .o, .o, .o]
    [] (fun b => by kernel_rfl)
def sq0_live_Live   : Spc := ⟨fun ls => .call 8 #[.slice (some ⟨(lget ls 0).n, 0, none⟩) 3 3], fun ls => [.cells #[.int .u8 (183), .int .u8 (1), .int .u8 (0), .int .i16 (0), .int .i32 (1), .int .u8 (183), .int .u8 (0), .int .u8 (0), .int .i16 (0), .int .i32 (2), .int .u8 (149), .int .u8 (0), .int .u8 (0), .int .i16 (0), .int .i32 (0)] 26], 1, .normal, fun ls => [.tuple #[.slice (some ⟨(lget ls 1).n, 0, none⟩) 3 3, .int .i64 (0)]], fun ls => [.cells #[.int .u8 (183), .int .u8 (1), .int .u8 (0), .int .i16 (0), .int .i32 (1), .int .u8 (183), .int .u8 (0), .int .u8 (0), .int .i16 (0), .int .i32 (2), .int .u8 (149), .int .u8 (0), .int .u8 (0), .int .i16 (0), .int .i32 (0)] 26], fun ls => [.cells #[.int .u16 (0), .int .u16 (0), .int .u16 (1)] 31]⟩
theorem p0_live_Live : SpcG Try.prog M B0 S (sq0_live_Live  ) :=
  fn_specG hU (P := Try.prog) Try.func8 (fun xs w => by kernel_rfl) 1 _ _ (fun _ => rfl) _ _ _ [4]
    [.o, .o, .o, .xg (p0_insn_Check_v1 hU  ) [0], .o, .o, .o, .o, .o, .o, .o, .o, .xg (p0_live_look hU  ) [0], .o, .o, .a 1, .o, .o]
    [] (fun b => by kernel_rfl)
theorem ok_barbicanlaw16_known : ConG Try.prog S 7 #[] (.bool true) :=
  fn_conG hU (P := Try.prog) Try.func7 (fun xs w => by kernel_rfl) [] (.bool true)
    [.o, .o, .o, .o, .o, .o, .o, .xg (p0_live_Dead hU  ) [0], .o, .o, .o, .o, .o, .o, .xg (p0_live_Live hU  ) [0], .o, .o, .o, .o, .o, .o, .o, .o, .o, .o, .o, .o, .o, .o, .o, .o, .o, .o, .o, .a 1, .o, .o, .o, .o, .o, .o, .o, .o, .o, .o, .a 2, .o, .o, .o, .o, .o, .a 2, .o, .o, .o]
    [] (fun b => by kernel_rfl)
end

end Go.Proofs.Ytjfiakgkeniocaa
