/-
  Instructions: the test that all laws begin with.
-/
import Derived.Test.YtmlkiamemkfdlaaS1B
namespace Go.Proofs.Ytmlkiamemkfdlaa
open Go.RowKit
set_option linter.unusedVariables false
set_option linter.unusedSimpArgs false
set_option linter.unusedSectionVars false
set_option maxRecDepth 100000
set_option maxHeartbeats 4000000
section
variable {M : Nat → Prop} {B0 : Nat} {S : World → Prop} (hU : Up M B0 S)
include hU
theorem ok_insn_decodeSlot : ConG Try.prog S 24 #[.agg #[.int .u8 (183), .int .u8 (0), .int .u8 (0), .int .u8 (0), .int .u8 (0), .int .u8 (0), .int .u8 (0), .int .u8 (0)]] (.agg #[.int .u8 (183), .int .u8 (0), .int .u8 (0), .int .i16 (0), .int .i32 (0)]) :=
  fn_conG hU (P := Try.prog) Try.func24 (fun xs w => by kernel_rfl) [.agg #[.int .u8 (183), .int .u8 (0), .int .u8 (0), .int .u8 (0), .int .u8 (0), .int .u8 (0), .int .u8 (0), .int .u8 (0)]] (.agg #[.int .u8 (183), .int .u8 (0), .int .u8 (0), .int .i16 (0), .int .i32 (0)])
    [.o, .o, .o, .a 0, .o, .o, .a 0, .o, .o, .o, .o, .o, .a 0, .o, .o, .a 0, .o, .o, .o, .o, .a 0, .o, .o, .o, .o, .a 0, .o, .o, .o, .o, .o, .a 0, .o, .a 0, .o, .o, .a 0, .o, .o, .o, .o, .o, .o, .a 1]
    [1, 1, 1, 1, 1] (fun b => by kernel_rfl)
theorem ok_insn_decodeSlot_v1 : ConG Try.prog S 24 #[.agg #[.int .u8 (149), .int .u8 (0), .int .u8 (0), .int .u8 (0), .int .u8 (0), .int .u8 (0), .int .u8 (0), .int .u8 (0)]] (.agg #[.int .u8 (149), .int .u8 (0), .int .u8 (0), .int .i16 (0), .int .i32 (0)]) :=
  fn_conG hU (P := Try.prog) Try.func24 (fun xs w => by kernel_rfl) [.agg #[.int .u8 (149), .int .u8 (0), .int .u8 (0), .int .u8 (0), .int .u8 (0), .int .u8 (0), .int .u8 (0), .int .u8 (0)]] (.agg #[.int .u8 (149), .int .u8 (0), .int .u8 (0), .int .i16 (0), .int .i32 (0)])
    [.o, .o, .o, .a 0, .o, .o, .a 0, .o, .o, .o, .o, .o, .a 0, .o, .o, .a 0, .o, .o, .o, .o, .a 0, .o, .o, .o, .o, .a 0, .o, .o, .o, .o, .o, .a 0, .o, .a 0, .o, .o, .a 0, .o, .o, .o, .o, .o, .o, .a 1]
    [1, 1, 1, 1, 1] (fun b => by kernel_rfl)
def sq0_insn_Decode   : Spc := ⟨fun ls => .call 14 #[.slice (some ⟨(lget ls 0).n, 0, none⟩) 16 16], fun ls => [.cells #[.int .u8 (183), .int .u8 (0), .int .u8 (0), .int .u8 (0), .int .u8 (0), .int .u8 (0), .int .u8 (0), .int .u8 (0), .int .u8 (149), .int .u8 (0), .int .u8 (0), .int .u8 (0), .int .u8 (0), .int .u8 (0), .int .u8 (0), .int .u8 (0)] 5], 1, .normal, fun ls => [.tuple #[.slice (some ⟨(lget ls 1).n, 0, none⟩) 2 2, .int .i64 (0)]], fun ls => [.cells #[.int .u8 (183), .int .u8 (0), .int .u8 (0), .int .u8 (0), .int .u8 (0), .int .u8 (0), .int .u8 (0), .int .u8 (0), .int .u8 (149), .int .u8 (0), .int .u8 (0), .int .u8 (0), .int .u8 (0), .int .u8 (0), .int .u8 (0), .int .u8 (0)] 5], fun ls => [.cells #[.int .u8 (183), .int .u8 (0), .int .u8 (0), .int .i16 (0), .int .i32 (0), .int .u8 (149), .int .u8 (0), .int .u8 (0), .int .i16 (0), .int .i32 (0)] 35]⟩
theorem p0_insn_Decode : SpcG Try.prog M B0 S (sq0_insn_Decode  ) :=
  fn_specG hU (P := Try.prog) Try.func14 (fun xs w => by kernel_rfl) 1 _ _ (fun _ => rfl) _ _ _ [1]
    [.o, .o, .o, .o, .o, .o, .o, .o, .o, .o, .o, .o, .o, .o, .o, .o, .o, .o, .o, .o, .o, .o, .o, .o, .a 0, .cg (ok_insn_decodeSlot hU  ), .o, .a 1, .o, .o, .o, .o, .o, .o, .o, .o, .o, .o, .o, .o, .a 0, .cg (ok_insn_decodeSlot_v1 hU  ), .o, .a 1, .o, .o, .o, .o, .o, .o]
    [] (fun b => by kernel_rfl)
theorem ok_insn_plainOperand_v1 : ConG Try.prog S 54 #[.agg #[.int .u8 (183), .int .u8 (0), .int .u8 (0), .int .i16 (0), .int .i32 (0)]] (.bool true) :=
  fn_conG hU (P := Try.prog) Try.func54 (fun xs w => by kernel_rfl) [.agg #[.int .u8 (183), .int .u8 (0), .int .u8 (0), .int .i16 (0), .int .i32 (0)]] (.bool true)
    [.o, .o, .o, .a 0, .o, .o, .o, .a 0, .o, .o]
    [] (fun b => by kernel_rfl)
theorem ok_insn_knownAlu_v1 : ConG Try.prog S 52 #[.agg #[.int .u8 (183), .int .u8 (0), .int .u8 (0), .int .i16 (0), .int .i32 (0)]] (.bool true) :=
  fn_conG hU (P := Try.prog) Try.func52 (fun xs w => by kernel_rfl) [.agg #[.int .u8 (183), .int .u8 (0), .int .u8 (0), .int .i16 (0), .int .i32 (0)]] (.bool true)
    [.o, .o, .o, .a 0, .o, .o, .o, .o, .a 0, .o, .o, .o, .o, .o, .o, .o, .o, .o, .o, .o, .o, .o, .o, .o, .o, .o, .o, .o, .o, .o, .o, .o, .o, .o, .o, .o, .o, .a 0, .o, .o, .a 0, .cg (ok_insn_plainOperand_v1 hU  ), .o, .o]
    [] (fun b => by kernel_rfl)
theorem ok_insn_known_v1 : ConG Try.prog S 44 #[.agg #[.int .u8 (183), .int .u8 (0), .int .u8 (0), .int .i16 (0), .int .i32 (0)]] (.bool true) :=
  fn_conG hU (P := Try.prog) Try.func44 (fun xs w => by kernel_rfl) [.agg #[.int .u8 (183), .int .u8 (0), .int .u8 (0), .int .i16 (0), .int .i32 (0)]] (.bool true)
    [.o, .o, .o, .a 0, .o, .o, .o, .o, .o, .o, .o, .o, .o, .o, .o, .o, .o, .o, .o, .o, .o, .o, .o, .o, .o, .o, .o, .o, .o, .o, .o, .o, .o, .o, .o, .o, .o, .a 0, .o, .o, .o, .o, .o, .a 0, .cg (ok_insn_knownAlu_v1 hU  ), .o]
    [] (fun b => by kernel_rfl)
theorem ok_insn_names_v1 : ConG Try.prog S 38 #[.agg #[.int .u8 (183), .int .u8 (0), .int .u8 (0), .int .i16 (0), .int .i32 (0)]] (.bool false) :=
  fn_conG hU (P := Try.prog) Try.func38 (fun xs w => by kernel_rfl) [.agg #[.int .u8 (183), .int .u8 (0), .int .u8 (0), .int .i16 (0), .int .i32 (0)]] (.bool false)
    [.o, .o, .o, .a 0, .o, .o, .o, .o, .o]
    [] (fun b => by kernel_rfl)
def sq0_insn_checkSlot_v1   : Spc := ⟨fun ls => .call 32 #[.slice (some ⟨(lget ls 0).n, 0, none⟩) 2 2, .int .i64 (0)], fun ls => [.cells #[.int .u8 (183), .int .u8 (0), .int .u8 (0), .int .i16 (0), .int .i32 (0), .int .u8 (149), .int .u8 (0), .int .u8 (0), .int .i16 (0), .int .i32 (0)] 35], 0, .normal, fun ls => [.int .i64 (0)], fun ls => [.cells #[.int .u8 (183), .int .u8 (0), .int .u8 (0), .int .i16 (0), .int .i32 (0), .int .u8 (149), .int .u8 (0), .int .u8 (0), .int .i16 (0), .int .i32 (0)] 35], fun ls => []⟩
theorem p0_insn_checkSlot_v1 : SpcG Try.prog M B0 S (sq0_insn_checkSlot_v1  ) :=
  fn_specG hU (P := Try.prog) Try.func32 (fun xs w => by kernel_rfl) 1 _ _ (fun _ => rfl) _ _ _ []
    [.o, .o, .o, .o, .a 0, .o, .a 1, .a 1, .cg (ok_insn_known_v1 hU  ), .o, .o, .o, .a 1, .o, .o, .o, .a 1, .o, .o, .o, .o, .a 1, .o, .o, .o, .o, .o, .o, .a 1, .o, .o, .o, .o, .o, .a 1, .o, .o, .o, .o, .o, .o, .a 1, .cg (ok_insn_names_v1 hU  ), .o, .o, .o, .o]
    [] (fun b => by kernel_rfl)
theorem ok_op_Width_v1 : ConG Try.prog S 31 #[.agg #[.int .u8 (183), .int .u8 (0), .int .u8 (0), .int .i16 (0), .int .i32 (0)]] (.int .i64 (1)) :=
  fn_conG hU (P := Try.prog) Try.func31 (fun xs w => by kernel_rfl) [.agg #[.int .u8 (183), .int .u8 (0), .int .u8 (0), .int .i16 (0), .int .i32 (0)]] (.int .i64 (1))
    [.o, .o, .o, .a 0, .o, .o]
    [] (fun b => by kernel_rfl)
theorem ok_insn_known_v2 : ConG Try.prog S 44 #[.agg #[.int .u8 (149), .int .u8 (0), .int .u8 (0), .int .i16 (0), .int .i32 (0)]] (.bool true) :=
  fn_conG hU (P := Try.prog) Try.func44 (fun xs w => by kernel_rfl) [.agg #[.int .u8 (149), .int .u8 (0), .int .u8 (0), .int .i16 (0), .int .i32 (0)]] (.bool true)
    [.o, .o, .o, .a 0, .o, .o, .o, .o, .o, .o, .o, .o, .o, .o, .o, .o, .o, .o, .o, .o, .o, .o, .o, .o, .o, .o, .o, .o, .o, .o, .o, .o, .o, .o, .o, .o, .a 0, .o, .o, .o]
    [] (fun b => by kernel_rfl)
theorem ok_insn_names_v2 : ConG Try.prog S 38 #[.agg #[.int .u8 (149), .int .u8 (0), .int .u8 (0), .int .i16 (0), .int .i32 (0)]] (.bool false) :=
  fn_conG hU (P := Try.prog) Try.func38 (fun xs w => by kernel_rfl) [.agg #[.int .u8 (149), .int .u8 (0), .int .u8 (0), .int .i16 (0), .int .i32 (0)]] (.bool false)
    [.o, .o, .o, .a 0, .o, .o, .o, .o, .o]
    [] (fun b => by kernel_rfl)
def sq0_insn_checkSlot_v2   : Spc := ⟨fun ls => .call 32 #[.slice (some ⟨(lget ls 0).n, 0, none⟩) 2 2, .int .i64 (1)], fun ls => [.cells #[.int .u8 (183), .int .u8 (0), .int .u8 (0), .int .i16 (0), .int .i32 (0), .int .u8 (149), .int .u8 (0), .int .u8 (0), .int .i16 (0), .int .i32 (0)] 35], 0, .normal, fun ls => [.int .i64 (0)], fun ls => [.cells #[.int .u8 (183), .int .u8 (0), .int .u8 (0), .int .i16 (0), .int .i32 (0), .int .u8 (149), .int .u8 (0), .int .u8 (0), .int .i16 (0), .int .i32 (0)] 35], fun ls => []⟩
theorem p0_insn_checkSlot_v2 : SpcG Try.prog M B0 S (sq0_insn_checkSlot_v2  ) :=
  fn_specG hU (P := Try.prog) Try.func32 (fun xs w => by kernel_rfl) 1 _ _ (fun _ => rfl) _ _ _ []
    [.o, .o, .o, .o, .a 0, .o, .a 1, .a 1, .cg (ok_insn_known_v2 hU  ), .o, .o, .o, .a 1, .o, .o, .o, .a 1, .o, .o, .o, .o, .a 1, .o, .o, .o, .o, .o, .o, .a 1, .o, .o, .o, .o, .o, .a 1, .o, .o, .o, .o, .o, .o, .a 1, .cg (ok_insn_names_v2 hU  ), .o, .o, .o, .o]
    [] (fun b => by kernel_rfl)
theorem ok_op_Width_v2 : ConG Try.prog S 31 #[.agg #[.int .u8 (149), .int .u8 (0), .int .u8 (0), .int .i16 (0), .int .i32 (0)]] (.int .i64 (1)) :=
  fn_conG hU (P := Try.prog) Try.func31 (fun xs w => by kernel_rfl) [.agg #[.int .u8 (149), .int .u8 (0), .int .u8 (0), .int .i16 (0), .int .i32 (0)]] (.int .i64 (1))
    [.o, .o, .o, .a 0, .o, .o]
    [] (fun b => by kernel_rfl)
def sq0_insn_split_v1   : Spc := ⟨fun ls => .call 33 #[.slice (some ⟨(lget ls 0).n, 0, none⟩) 2 2], fun ls => [.cells #[.int .u8 (183), .int .u8 (0), .int .u8 (0), .int .i16 (0), .int .i32 (0), .int .u8 (149), .int .u8 (0), .int .u8 (0), .int .i16 (0), .int .i32 (0)] 35], 1, .normal, fun ls => [(rowV (lget ls 1) 1 2)], fun ls => [.cells #[.int .u8 (183), .int .u8 (0), .int .u8 (0), .int .i16 (0), .int .i32 (0), .int .u8 (149), .int .u8 (0), .int .u8 (0), .int .i16 (0), .int .i32 (0)] 35], fun ls => [rowO (lget ls 1) (esG c_Part 1 (updF (updF (fun _ => (⟨0, 0⟩ : Part)) 0 (⟨0, 1⟩ : Part)) 0 (⟨0, 2⟩ : Part))) 49 1 2]⟩
theorem p0_insn_split_v1 : SpcG Try.prog M B0 S (sq0_insn_split_v1  ) :=
  fn_specG hU (P := Try.prog) Try.func33 (fun xs w => by kernel_rfl) 1 _ _ (fun _ => rfl) _ _ _ [3]
    [.o, .o, .q (ixA_ok (kd := .i64) (T := 77) (x := 0) (sz := 1) (N := 4096) rfl rfl (fun w => by kernel_rfl) (show inR 0 4096 = true from by decide)), .x (sqStF_ok (T := 4) (e := 77) (f := cB) (A := (fun _ => false)) (v := true) 0 (.bool true) cB_len cB_one rfl rfl (fun w => by kernel_rfl) (inR_nat (show inR 0 4096 = true from by decide))) [1], .o, .o, .o, .o, .o, .o, .o, .o, .a 0, .cg (ok_insn_names_v1 hU  ), .o, .o, .o, .o, .a 0, .cg (ok_op_Width_v1 hU  ), .o, .o, .o, .o, .o, .o, .o, .o, .o, .a 0, .cg (ok_insn_names_v2 hU  ), .o, .o, .o, .o, .a 0, .cg (ok_op_Width_v2 hU  ), .o, .o, .o, .o, .o, .o, .o, .o, .o, .o, .o, .o, .o, .o, .q (ixA_ok (kd := .i64) (T := 77) (x := 0) (sz := 1) (N := 4096) rfl rfl (fun w => by kernel_rfl) (show inR 0 4096 = true from by decide)), .l (accF (i := 1) (f := cB) (A := updF (fun _ => false) 0 true) (k := 0) 0 [.bool true] cB_len (inR_nat (show inR 0 4096 = true from by decide)) rfl), .o, .o, .o, .o, .x (sqAppL1_ok (ty := 41) rt41 #[false, false] (f := c_Part) (c := 1) (⟨0, 0⟩ : Part) (T' := 49) c_Part_len c_Part_one (by decide)) [2], .o, .o, .o, .o, .o, .o, .o, .q (ixM_ok (kd := .i64) (T := 41) (x := 0) (N := 1) (sz := 2) rfl (fun w => by kernel_rfl) (show inR 0 1 = true from by decide)), .o, .x (sqStG_ok (T := 3) (e := 49) (f := c_Part) (A := (fun _ => (⟨0, 0⟩ : Part))) (v := (⟨0, 1⟩ : Part)) 1 (.int .i64 (1)) c_Part_len c_Part_one rfl rfl (fun w => by kernel_rfl) (inR_nat (show inR 0 1 = true from by decide))) [3], .o, .o, .o, .o, .o, .o, .q (ixA_ok (kd := .i64) (T := 77) (x := 1) (sz := 1) (N := 4096) rfl rfl (fun w => by kernel_rfl) (show inR 1 4096 = true from by decide)), .l (accF (i := 1) (f := cB) (A := updF (fun _ => false) 0 true) (k := 1) 0 [.bool false] cB_len (inR_nat (show inR 1 4096 = true from by decide)) rfl), .o, .o, .o, .o, .o, .o, .q (ixM_ok (kd := .i64) (T := 41) (x := 0) (N := 1) (sz := 2) rfl (fun w => by kernel_rfl) (show inR 0 1 = true from by decide)), .o, .x (sqStG_ok (T := 3) (e := 49) (f := c_Part) (A := updF (fun _ => (⟨0, 0⟩ : Part)) 0 (⟨0, 1⟩ : Part)) (v := (⟨0, 2⟩ : Part)) 1 (.int .i64 (2)) c_Part_len c_Part_one rfl rfl (fun w => by kernel_rfl) (inR_nat (show inR 0 1 = true from by decide))) [3], .o, .o, .o, .o, .o]
    [] (fun b => by kernel_rfl)
def sq0_op_IsSecond_v1   : Spc := ⟨fun ls => .call 40 #[.slice (some ⟨(lget ls 0).n, 0, none⟩) 2 2, .int .i64 (1)], fun ls => [.cells #[.int .u8 (183), .int .u8 (0), .int .u8 (0), .int .i16 (0), .int .i32 (0), .int .u8 (149), .int .u8 (0), .int .u8 (0), .int .i16 (0), .int .i32 (0)] 35], 0, .normal, fun ls => [.bool false], fun ls => [.cells #[.int .u8 (183), .int .u8 (0), .int .u8 (0), .int .i16 (0), .int .i32 (0), .int .u8 (149), .int .u8 (0), .int .u8 (0), .int .i16 (0), .int .i32 (0)] 35], fun ls => []⟩
theorem p0_op_IsSecond_v1 : SpcG Try.prog M B0 S (sq0_op_IsSecond_v1  ) :=
  fn_specG hU (P := Try.prog) Try.func40 (fun xs w => by kernel_rfl) 1 _ _ (fun _ => rfl) _ _ _ []
    [.o, .o, .o, .o, .o, .o, .o, .o, .o, .o, .o, .a 0, .o, .o, .o, .o, .o, .o, .o, .o]
    [] (fun b => by kernel_rfl)
def sq0_insn_ends_v1   : Spc := ⟨fun ls => .call 34 #[.slice (some ⟨(lget ls 0).n, 0, none⟩) 2 2, .agg #[.int .i64 (0), .int .i64 (2)]], fun ls => [.cells #[.int .u8 (183), .int .u8 (0), .int .u8 (0), .int .i16 (0), .int .i32 (0), .int .u8 (149), .int .u8 (0), .int .u8 (0), .int .i16 (0), .int .i32 (0)] 35], 0, .normal, fun ls => [.tuple #[.int .i64 (1), .bool true]], fun ls => [.cells #[.int .u8 (183), .int .u8 (0), .int .u8 (0), .int .i16 (0), .int .i32 (0), .int .u8 (149), .int .u8 (0), .int .u8 (0), .int .i16 (0), .int .i32 (0)] 35], fun ls => []⟩
theorem p0_insn_ends_v1 : SpcG Try.prog M B0 S (sq0_insn_ends_v1  ) :=
  fn_specG hU (P := Try.prog) Try.func34 (fun xs w => by kernel_rfl) 1 _ _ (fun _ => rfl) _ _ _ []
    [.o, .o, .o, .o, .a 1, .o, .o, .o, .o, .xg (p0_op_IsSecond_v1 hU  ) [0], .r [0, 1, 2, 3, 4, 5, 6, 7, 8, 9, 10, 11, 12, 13, 14, 15, 16] [] [], .o, .o, .o, .o, .o, .a 0, .o, .o, .o, .o, .o]
    [] (fun b => by kernel_rfl)
def sq0_insn_Subs_v1   : Spc := ⟨fun ls => .call 19 #[.slice (some ⟨(lget ls 0).n, 0, none⟩) 2 2], fun ls => [.cells #[.int .u8 (183), .int .u8 (0), .int .u8 (0), .int .i16 (0), .int .i32 (0), .int .u8 (149), .int .u8 (0), .int .u8 (0), .int .i16 (0), .int .i32 (0)] 35], 1, .normal, fun ls => [.tuple #[(rowV (lget ls 1) 1 2), .int .i64 (0), .int .i64 (0)]], fun ls => [.cells #[.int .u8 (183), .int .u8 (0), .int .u8 (0), .int .i16 (0), .int .i32 (0), .int .u8 (149), .int .u8 (0), .int .u8 (0), .int .i16 (0), .int .i32 (0)] 35], fun ls => [rowO (lget ls 1) (esG c_Part 1 (updF (updF (fun _ => (⟨0, 0⟩ : Part)) 0 (⟨0, 1⟩ : Part)) 0 (⟨0, 2⟩ : Part))) 49 1 2]⟩
theorem p0_insn_Subs_v1 : SpcG Try.prog M B0 S (sq0_insn_Subs_v1  ) :=
  fn_specG hU (P := Try.prog) Try.func19 (fun xs w => by kernel_rfl) 1 _ _ (fun _ => rfl) _ _ _ [1]
    [.o, .o, .o, .o, .o, .o, .o, .o, .o, .o, .o, .o, .o, .o, .o, .o, .o, .o, .xg (p0_insn_checkSlot_v1 hU  ) [0], .o, .o, .o, .o, .o, .o, .o, .a 0, .cg (ok_op_Width_v1 hU  ), .o, .o, .o, .o, .o, .o, .o, .o, .xg (p0_insn_checkSlot_v2 hU  ) [0], .o, .o, .o, .o, .o, .o, .o, .a 0, .cg (ok_op_Width_v2 hU  ), .o, .o, .o, .o, .o, .o, .o, .xg (p0_insn_split_v1 hU  ) [0], .o, .o, .o, .o, .o, .o, .o, .o, .q (ixM_ok (kd := .i64) (T := 41) (x := 0) (N := 1) (sz := 2) rfl (fun w => by kernel_rfl) (show inR 0 1 = true from by decide)), .l (accG (i := 1) (f := c_Part) (A := updF (updF (fun _ => (⟨0, 0⟩ : Part)) 0 (⟨0, 1⟩ : Part)) 0 (⟨0, 2⟩ : Part)) (k := 0) 0 [.int .i64 (0), .int .i64 (2)] c_Part_len (inR_nat (show inR 0 1 = true from by decide)) rfl), .o, .a 2, .o, .a 2, .xg (p0_insn_ends_v1 hU  ) [0], .o, .o, .o, .o, .o, .o, .o, .o, .o, .o, .o, .o, .o, .o]
    [] (fun b => by kernel_rfl)
theorem ok_op_Jumps_v1 : ConG Try.prog S 39 #[.agg #[.int .u8 (183), .int .u8 (0), .int .u8 (0), .int .i16 (0), .int .i32 (0)]] (.bool false) :=
  fn_conG hU (P := Try.prog) Try.func39 (fun xs w => by kernel_rfl) [.agg #[.int .u8 (183), .int .u8 (0), .int .u8 (0), .int .i16 (0), .int .i32 (0)]] (.bool false)
    [.o, .o, .o, .a 0, .o, .o, .o, .o, .o, .o]
    [] (fun b => by kernel_rfl)
theorem ok_op_Jumps_v2 : ConG Try.prog S 39 #[.agg #[.int .u8 (149), .int .u8 (0), .int .u8 (0), .int .i16 (0), .int .i32 (0)]] (.bool false) :=
  fn_conG hU (P := Try.prog) Try.func39 (fun xs w => by kernel_rfl) [.agg #[.int .u8 (149), .int .u8 (0), .int .u8 (0), .int .i16 (0), .int .i32 (0)]] (.bool false)
    [.o, .o, .o, .a 0, .o, .o, .o, .o, .a 0, .o, .o, .o, .a 0, .o, .o, .o]
    [] (fun b => by kernel_rfl)
def sq0_insn_jumpsStay_v1   : Spc := ⟨fun ls => .call 25 #[.slice (some ⟨(lget ls 0).n, 0, none⟩) 2 2, .agg #[.int .i64 (0), .int .i64 (2)]], fun ls => [.cells #[.int .u8 (183), .int .u8 (0), .int .u8 (0), .int .i16 (0), .int .i32 (0), .int .u8 (149), .int .u8 (0), .int .u8 (0), .int .i16 (0), .int .i32 (0)] 35], 0, .normal, fun ls => [.tuple #[.int .i64 (0), .bool true]], fun ls => [.cells #[.int .u8 (183), .int .u8 (0), .int .u8 (0), .int .i16 (0), .int .i32 (0), .int .u8 (149), .int .u8 (0), .int .u8 (0), .int .i16 (0), .int .i32 (0)] 35], fun ls => []⟩
theorem p0_insn_jumpsStay_v1 : SpcG Try.prog M B0 S (sq0_insn_jumpsStay_v1  ) :=
  fn_specG hU (P := Try.prog) Try.func25 (fun xs w => by kernel_rfl) 1 _ _ (fun _ => rfl) _ _ _ []
    [.o, .o, .o, .o, .a 1, .o, .o, .o, .a 1, .o, .o, .o, .o, .a 0, .cg (ok_op_Jumps_v1 hU  ), .o, .o, .o, .o, .o, .a 0, .cg (ok_op_Width_v1 hU  ), .o, .o, .o, .o, .a 1, .o, .o, .o, .o, .a 0, .cg (ok_op_Jumps_v2 hU  ), .o, .o, .o, .o, .o, .a 0, .cg (ok_op_Width_v2 hU  ), .o, .o, .o, .o, .a 1, .o, .o, .o]
    [] (fun b => by kernel_rfl)
def sq0_insn_Check_v1   : Spc := ⟨fun ls => .call 17 #[.slice (some ⟨(lget ls 0).n, 0, none⟩) 2 2], fun ls => [.cells #[.int .u8 (183), .int .u8 (0), .int .u8 (0), .int .i16 (0), .int .i32 (0), .int .u8 (149), .int .u8 (0), .int .u8 (0), .int .i16 (0), .int .i32 (0)] 35], 0, .normal, fun ls => [.tuple #[.int .i64 (0), .int .i64 (0)]], fun ls => [.cells #[.int .u8 (183), .int .u8 (0), .int .u8 (0), .int .i16 (0), .int .i32 (0), .int .u8 (149), .int .u8 (0), .int .u8 (0), .int .i16 (0), .int .i32 (0)] 35], fun ls => []⟩
theorem p0_insn_Check_v1 : SpcG Try.prog M B0 S (sq0_insn_Check_v1  ) :=
  fn_specG hU (P := Try.prog) Try.func17 (fun xs w => by kernel_rfl) 1 _ _ (fun _ => rfl) _ _ _ []
    [.o, .o, .o, .xg (p0_insn_Subs_v1 hU  ) [0], .o, .o, .o, .o, .o, .o, .o, .o, .o, .o, .o, .o, .o, .q (ixM_ok (kd := .i64) (T := 41) (x := 0) (N := 1) (sz := 2) rfl (fun w => by kernel_rfl) (show inR 0 1 = true from by decide)), .l (accG (i := 1) (f := c_Part) (A := updF (updF (fun _ => (⟨0, 0⟩ : Part)) 0 (⟨0, 1⟩ : Part)) 0 (⟨0, 2⟩ : Part)) (k := 0) 0 [.int .i64 (0), .int .i64 (2)] c_Part_len (inR_nat (show inR 0 1 = true from by decide)) rfl), .o, .a 2, .o, .a 2, .xg (p0_insn_jumpsStay_v1 hU  ) [0], .o, .o, .o, .o, .o, .o, .o, .o, .o, .o, .o, .o]
    [] (fun b => by kernel_rfl)
theorem ok_insn_plainOperand_v2 : ConG Try.prog S 54 #[.agg #[.int .u8 (183), .int .u8 (10), .int .u8 (0), .int .i16 (0), .int .i32 (0)]] (.bool true) :=
  fn_conG hU (P := Try.prog) Try.func54 (fun xs w => by kernel_rfl) [.agg #[.int .u8 (183), .int .u8 (10), .int .u8 (0), .int .i16 (0), .int .i32 (0)]] (.bool true)
    [.o, .o, .o, .a 0, .o, .o, .o, .a 0, .o, .o]
    [] (fun b => by kernel_rfl)
theorem ok_insn_knownAlu_v2 : ConG Try.prog S 52 #[.agg #[.int .u8 (183), .int .u8 (10), .int .u8 (0), .int .i16 (0), .int .i32 (0)]] (.bool true) :=
  fn_conG hU (P := Try.prog) Try.func52 (fun xs w => by kernel_rfl) [.agg #[.int .u8 (183), .int .u8 (10), .int .u8 (0), .int .i16 (0), .int .i32 (0)]] (.bool true)
    [.o, .o, .o, .a 0, .o, .o, .o, .o, .a 0, .o, .o, .o, .o, .o, .o, .o, .o, .o, .o, .o, .o, .o, .o, .o, .o, .o, .o, .o, .o, .o, .o, .o, .o, .o, .o, .o, .o, .a 0, .o, .o, .a 0, .cg (ok_insn_plainOperand_v2 hU  ), .o, .o]
    [] (fun b => by kernel_rfl)
theorem ok_insn_known_v3 : ConG Try.prog S 44 #[.agg #[.int .u8 (183), .int .u8 (10), .int .u8 (0), .int .i16 (0), .int .i32 (0)]] (.bool true) :=
  fn_conG hU (P := Try.prog) Try.func44 (fun xs w => by kernel_rfl) [.agg #[.int .u8 (183), .int .u8 (10), .int .u8 (0), .int .i16 (0), .int .i32 (0)]] (.bool true)
    [.o, .o, .o, .a 0, .o, .o, .o, .o, .o, .o, .o, .o, .o, .o, .o, .o, .o, .o, .o, .o, .o, .o, .o, .o, .o, .o, .o, .o, .o, .o, .o, .o, .o, .o, .o, .o, .o, .a 0, .o, .o, .o, .o, .o, .a 0, .cg (ok_insn_knownAlu_v2 hU  ), .o]
    [] (fun b => by kernel_rfl)
theorem ok_insn_writes_v1 : ConG Try.prog S 45 #[.agg #[.int .u8 (183), .int .u8 (10), .int .u8 (0), .int .i16 (0), .int .i32 (0)]] (.bool true) :=
  fn_conG hU (P := Try.prog) Try.func45 (fun xs w => by kernel_rfl) [.agg #[.int .u8 (183), .int .u8 (10), .int .u8 (0), .int .i16 (0), .int .i32 (0)]] (.bool true)
    [.o, .o, .o, .a 0, .o, .o, .o, .o, .o, .o, .o, .o, .o, .o]
    [] (fun b => by kernel_rfl)
def sq0_insn_checkSlot_v3   : Spc := ⟨fun ls => .call 32 #[.slice (some ⟨(lget ls 0).n, 0, none⟩) 2 2, .int .i64 (0)], fun ls => [.cells #[.int .u8 (183), .int .u8 (10), .int .u8 (0), .int .i16 (0), .int .i32 (0), .int .u8 (149), .int .u8 (0), .int .u8 (0), .int .i16 (0), .int .i32 (0)] 35], 0, .normal, fun ls => [.int .i64 (12)], fun ls => [.cells #[.int .u8 (183), .int .u8 (10), .int .u8 (0), .int .i16 (0), .int .i32 (0), .int .u8 (149), .int .u8 (0), .int .u8 (0), .int .i16 (0), .int .i32 (0)] 35], fun ls => []⟩
theorem p0_insn_checkSlot_v3 : SpcG Try.prog M B0 S (sq0_insn_checkSlot_v3  ) :=
  fn_specG hU (P := Try.prog) Try.func32 (fun xs w => by kernel_rfl) 1 _ _ (fun _ => rfl) _ _ _ []
    [.o, .o, .o, .o, .a 0, .o, .a 1, .a 1, .cg (ok_insn_known_v3 hU  ), .o, .o, .o, .a 1, .o, .o, .o, .a 1, .o, .o, .o, .o, .a 1, .o, .o, .a 1, .cg (ok_insn_writes_v1 hU  ), .o, .o, .o, .o]
    [] (fun b => by kernel_rfl)
def sq0_insn_Subs_v2   : Spc := ⟨fun ls => .call 19 #[.slice (some ⟨(lget ls 0).n, 0, none⟩) 2 2], fun ls => [.cells #[.int .u8 (183), .int .u8 (10), .int .u8 (0), .int .i16 (0), .int .i32 (0), .int .u8 (149), .int .u8 (0), .int .u8 (0), .int .i16 (0), .int .i32 (0)] 35], 0, .normal, fun ls => [.tuple #[.slice none 0 0, .int .i64 (0), .int .i64 (12)]], fun ls => [.cells #[.int .u8 (183), .int .u8 (10), .int .u8 (0), .int .i16 (0), .int .i32 (0), .int .u8 (149), .int .u8 (0), .int .u8 (0), .int .i16 (0), .int .i32 (0)] 35], fun ls => []⟩
theorem p0_insn_Subs_v2 : SpcG Try.prog M B0 S (sq0_insn_Subs_v2  ) :=
  fn_specG hU (P := Try.prog) Try.func19 (fun xs w => by kernel_rfl) 1 _ _ (fun _ => rfl) _ _ _ []
    [.o, .o, .o, .o, .o, .o, .o, .o, .o, .o, .o, .o, .o, .o, .o, .o, .o, .o, .xg (p0_insn_checkSlot_v3 hU  ) [0], .o, .o, .o, .o, .o, .o, .o, .o]
    [] (fun b => by kernel_rfl)
def sq0_insn_Check_v2   : Spc := ⟨fun ls => .call 17 #[.slice (some ⟨(lget ls 0).n, 0, none⟩) 2 2], fun ls => [.cells #[.int .u8 (183), .int .u8 (10), .int .u8 (0), .int .i16 (0), .int .i32 (0), .int .u8 (149), .int .u8 (0), .int .u8 (0), .int .i16 (0), .int .i32 (0)] 35], 0, .normal, fun ls => [.tuple #[.int .i64 (0), .int .i64 (12)]], fun ls => [.cells #[.int .u8 (183), .int .u8 (10), .int .u8 (0), .int .i16 (0), .int .i32 (0), .int .u8 (149), .int .u8 (0), .int .u8 (0), .int .i16 (0), .int .i32 (0)] 35], fun ls => []⟩
theorem p0_insn_Check_v2 : SpcG Try.prog M B0 S (sq0_insn_Check_v2  ) :=
  fn_specG hU (P := Try.prog) Try.func17 (fun xs w => by kernel_rfl) 1 _ _ (fun _ => rfl) _ _ _ []
    [.o, .o, .o, .xg (p0_insn_Subs_v2 hU  ) [0], .o, .o, .o, .o, .o, .o, .o, .o, .o, .o, .o, .o, .o]
    [] (fun b => by kernel_rfl)
theorem ok_barbicanlaw1_known : ConG Try.prog S 10 #[] (.bool true) :=
  fn_conG hU (P := Try.prog) Try.func10 (fun xs w => by kernel_rfl) [] (.bool true)
    [.o, .o, .xg (p0_insn_Decode hU  ) [0], .o, .o, .o, .o, .o, .o, .xg (p0_insn_Check_v1 hU  ) [1], .o, .o, .o, .o, .o, .o, .o, .o, .xg (p0_insn_Check_v2 hU  ) [2], .o, .o, .o, .o, .o, .o, .o, .o, .o, .o, .o, .o, .o, .o, .o, .o, .o, .o, .o, .o, .o, .o, .o, .o, .o]
    [] (fun b => by kernel_rfl)
end

end Go.Proofs.Ytmlkiamemkfdlaa
